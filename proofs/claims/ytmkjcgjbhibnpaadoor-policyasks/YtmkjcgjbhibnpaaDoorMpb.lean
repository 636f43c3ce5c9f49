/- Texts that the proof leans on, one behind the other: The walks of Check, of record and of the reference; nameAndKey. The walk of mac.blockWriter: the function value that it answers knows a block that holds the key's block. The walk of the function value that mac.blockWriter answers: it writes the key's block, each byte turned, to a Hash. .. -/
import Derived.Test.YtmkjcgjbhibnpaaDoorMpa
import Derived.Laws.CopyOwn
import Derived.Deep.MidRow
import Derived.Deep.RegionHeld3
import Derived.StillTailTactics
import Derived.Laws.Tables
import Derived.Deep.CutRange
import Derived.Deep.Cut
import Derived.Laws.ResultCell
import Derived.Lib.SlBytesConst
/- The walks of Check, of record and of the reference; nameAndKey. -/
namespace Go.Proofs.YtmkjcgjbhibnpaaDoor
open Go.RowKit
set_option maxRecDepth 100000
def chk (nm ky : List (BitVec 8)) : Int := if nameOk nm then (if keyOk ky then 0 else 5) else 4
theorem chk_key {nm ky : List (BitVec 8)} (h : nameOk nm = true) : chk nm ky = if keyOk ky then 0 else 5 := by unfold chk; rw [if_pos h]
theorem chk_name {nm ky : List (BitVec 8)} (h : nameOk nm = false) : chk nm ky = 4 := by unfold chk; rw [h]; rfl
theorem keyOk_no {l : List (BitVec 8)} (h : ¬ (1 ≤ l.length ∧ l.length ≤ 64)) : keyOk l = false := by
  unfold keyOk
  by_cases h1 : 1 ≤ l.length
  · rw [show decide (l.length ≤ 64) = false from decide_eq_false (by omega)]; simp
  · rw [show decide (1 ≤ l.length) = false from decide_eq_false h1]; simp
theorem keyOk_is {l : List (BitVec 8)} (h : 1 ≤ l.length ∧ l.length ≤ 64) : keyOk l = true := by
  unfold keyOk
  rw [decide_eq_true h.1, decide_eq_true h.2]; simp
set_option maxRecDepth 100000 in
set_option maxHeartbeats 1000000 in
theorem rcheck_any (nm ky : List (BitVec 8)) (vk : Value) (sr : Nat) (w : World) (hk : Reads w vk ky) :
    Calls Tryd.prog 27 #[.agg #[.string (strB nm), vk, .int .u64 (sr : Int)]] w fun e w' => e = .returned (.int .i64 (chk nm ky)) ∧ Below w.heap.size w w' := by
  obtain ⟨ad, cap, hv, _, _, _⟩ := hk
  obtain ⟨m, HM⟩ : ∃ m, Hid (m = ky.length) := ⟨_, rfl⟩
  rw [← HM.out] at hv
  subst hv
  obtain ⟨o, HO⟩ : ∃ o, Hid (o = chk nm ky) := ⟨_, rfl⟩
  rw [← HO.out]
  obtain ⟨bb, HBB⟩ : ∃ bb, Hid (bb = nameOk nm) := ⟨_, rfl⟩
  have HW0 := below_alloc w (.cells #[.string (strB nm), .slice ad m cap, .int .u64 (sr : Int)] 25)
  have HW : Hid (Below w.heap.size w (w.alloc (.cells #[.string (strB nm), .slice ad m cap, .int .u64 (sr : Int)] 25))) := HW0
  have hB := Blk.new w [.string (strB nm), .slice ad m cap, .int .u64 (sr : Int)] 25
  clear HW0
  have hnot := unot
  go_enter Tryd.func27, Tryd.ntmps27
  go_wp2_with fail
  generalize w.alloc (.cells #[.string (strB nm), .slice ad m cap, .int .u64 (sr : Int)] 25) = w0 at *
  refine (isName_any nm w0).mono ?_
  rintro e w1 ⟨rfl, hb1⟩
  rw [← HBB.out]
  have HW1 : Hid (Below w.heap.size w w1) := HW.out.trans (hb1.mono HW.out.size)
  have c1 : w1.cell? ⟨w.heap.size, 1, none⟩ = some (.slice ad m cap) := (hB.below hb1 hB.lt).cell 1
  clear hB hb1 HW
  cases bb with
  | false =>
    have ho : o = 4 := by rw [HO.out]; exact chk_name HBB.out.symm
    subst ho
    clear HBB HO
    go_wp2
    go_ret
    exact ⟨rfl, HW1.out⟩
  | true =>
    have HO2 : Hid (o = if keyOk ky then 0 else 5) := by show o = _; rw [HO.out]; exact chk_key HBB.out.symm
    clear HBB HO
    by_cases h1 : m < 1
    · have ho : o = 5 := by rw [HO2.out, keyOk_no (by rw [← HM.out]; omega)]; rfl
      subst ho
      have i1 : (m : Int) < 1 := by omega
      clear HO2 h1
      go_wp2
      go_ret
      exact ⟨rfl, HW1.out⟩
    · have i1 : ¬ ((m : Int) < 1) := by omega
      by_cases h2 : 64 < m
      · have ho : o = 5 := by rw [HO2.out, keyOk_no (by rw [← HM.out]; omega)]; rfl
        subst ho
        have i2 : (64 : Int) < (m : Int) := by omega
        clear HO2 h1 h2
        go_wp2
        go_ret
        exact ⟨rfl, HW1.out⟩
      · have ho : o = 0 := by rw [HO2.out, keyOk_is (by rw [← HM.out]; omega)]; rfl
        subst ho
        have i2 : ¬ ((64 : Int) < (m : Int)) := by omega
        clear HO2 h1 h2
        go_wp2
        go_ret
        exact ⟨rfl, HW1.out⟩
set_option maxRecDepth 100000 in
set_option maxHeartbeats 1000000 in
theorem rfcheck_any (nm ky : List (BitVec 8)) (vk : Value) (w : World) (hk : Reads w vk ky) :
    Calls Tryd.prog 16 #[.string (strB nm), vk] w fun e w' => e = .returned (.int .i64 (chk nm ky)) ∧ ∃ k, w' = w.drewN k := by
  obtain ⟨ad, cap, hv, _, _, _⟩ := hk
  obtain ⟨m, HM⟩ : ∃ m, Hid (m = ky.length) := ⟨_, rfl⟩
  rw [← HM.out] at hv
  subst hv
  obtain ⟨o, HO⟩ : ∃ o, Hid (o = chk nm ky) := ⟨_, rfl⟩
  rw [← HO.out]
  obtain ⟨bb, HBB⟩ : ∃ bb, Hid (bb = nameOk nm) := ⟨_, rfl⟩
  have hnot := unot
  go_enter Tryd.func16, Tryd.ntmps16
  go_wp2_with fail
  refine (rfName_any nm w).mono ?_
  rintro e w1 ⟨rfl, q, rfl⟩
  rw [← HBB.out]
  cases bb with
  | false =>
    have ho : o = 4 := by rw [HO.out]; exact chk_name HBB.out.symm
    subst ho
    clear HBB HO
    go_wp2
    go_ret
    exact ⟨rfl, q, rfl⟩
  | true =>
    have HO2 : Hid (o = if keyOk ky then 0 else 5) := by show o = _; rw [HO.out]; exact chk_key HBB.out.symm
    clear HBB HO
    by_cases h1 : m < 1
    · have ho : o = 5 := by rw [HO2.out, keyOk_no (by rw [← HM.out]; omega)]; rfl
      subst ho
      have i1 : (m : Int) < 1 := by omega
      clear HO2 h1
      go_wp2
      go_ret
      exact ⟨rfl, q, rfl⟩
    · have i1 : ¬ ((m : Int) < 1) := by omega
      by_cases h2 : 64 < m
      · have ho : o = 5 := by rw [HO2.out, keyOk_no (by rw [← HM.out]; omega)]; rfl
        subst ho
        have i2 : (64 : Int) < (m : Int) := by omega
        clear HO2 h1 h2
        go_wp2
        go_ret
        exact ⟨rfl, q, rfl⟩
      · have ho : o = 0 := by rw [HO2.out, keyOk_is (by rw [← HM.out]; omega)]; rfl
        subst ho
        have i2 : ¬ ((64 : Int) < (m : Int)) := by omega
        clear HO2 h1 h2
        go_wp2
        go_ret
        exact ⟨rfl, q, rfl⟩
end Go.Proofs.YtmkjcgjbhibnpaaDoor
/- The walk of mac.blockWriter: the function value that it answers knows a block that holds the key's block. -/
namespace Go.Proofs.YtmkjcgjbhibnpaaDoor
open Go.RowKit
set_option maxRecDepth 100000
theorem below_alloc' (w : World) (o : Obj) : Below w.heap.size w (w.alloc o) := (Below.refl _ _).alloc (Nat.le_refl _) _
theorem Reads.src {w : World} {ad : Option Addr} {n cap : Nat} {k : List (BitVec 8)} (h : Reads w (.slice ad n cap) k) (hp : 0 < k.length) : ∃ a, ad = some a ∧ ∀ j v, (cb k)[j]? = some v → w.cell? (a.add j) = some v := by
  obtain ⟨ad', cap', hv, _, _, hx⟩ := h
  simp only [Value.slice.injEq] at hv
  obtain ⟨rfl, _, _⟩ := hv
  obtain ⟨b, off, rfl, hc⟩ := hx hp
  refine ⟨⟨b, off, none⟩, rfl, fun j v hj => ?_⟩
  have hjl : j < k.length := by have := (List.getElem?_eq_some_iff.1 hj).1; rwa [cb_len] at this
  rw [Addr.add_mid, hc j hjl, ← hj, cb_get k j hjl]
theorem copy_run {w : World} {g n cap dl dc : Nat} {t T : TypeId} {ad : Option Addr} {k old : List (BitVec 8)} (hB : Blk w g (cb old) t) (hr : Reads w (.slice ad n cap) k) (hk : k.length ≤ dl) (hdl : dl = old.length) :
    (Builtin.copy_ #[22, 22] T #[.slice (some ⟨g, 0, none⟩) dl dc, .slice ad n cap]).run Tryd.prog w = .ok (goInt k.length) (w.setCells g 0 (cb k)) := by
  have hn : n = k.length := by
    obtain ⟨ad', cap', hv, _⟩ := hr
    simp only [Value.slice.injEq] at hv
    exact hv.2.1
  subst hn
  by_cases h0 : 0 < k.length
  · obtain ⟨a, rfl, hsrc⟩ := hr.src h0
    have := run_copy_cells (P := Tryd.prog) w 22 22 T 5 g 0 dl dc a k.length cap (cb k) Tryd.underlying22 Tryd.info5 (by rw [cb_len]; exact (Nat.min_eq_left hk).symm) hsrc
      (fun j hj => ((hB.there 0 k.length (by rw [cb_len]; omega)) j (by rwa [cb_len] at hj)).1) (fun j hj => ((hB.there 0 k.length (by rw [cb_len]; omega)) j (by rwa [cb_len] at hj)).2) (cb_one _)
    rw [cb_len] at this
    exact this
  · have hk0 : k = [] := List.eq_nil_of_length_eq_zero (by omega)
    subst hk0
    exact run_copy_none (P := Tryd.prog) w 22 22 T 5 _ _ dl dc 0 cap Tryd.underlying22 Tryd.info5 (Nat.min_eq_left (Nat.zero_le _))
theorem Blk.copied {w : World} {g : Nat} {t : TypeId} {k : List (BitVec 8)} (h : Blk w g (cb zb64) t) (hk : k.length ≤ 64) : Blk (w.setCells g 0 (cb k)) g (cb (kpad k)) t := by
  have := setCells_eq g (cb k) 0 w _ t h (by rw [cb_len, cb_len]; simp [zb64]; omega)
  rw [← splice_kpad]
  simpa [splice] using this
set_option maxRecDepth 100000 in
set_option maxHeartbeats 1000000 in
theorem bw_any (v : Value) (key : List (BitVec 8)) (w : World) (hK : KOk w) (hR : Reads w v key) (hl : key.length < 2305843009213693952) :
    Calls Tryd.prog 41 #[v] w fun e w' => ∃ g, e = .returned (.func (.func 49) #[] #[.pointer (some ⟨g, 0, none⟩)]) ∧ w.heap.size ≤ g ∧ Blk w' g (cb (kblock key)) 78 ∧ Below w.heap.size w w' := by
  have HK : Hid (KOk w) := hK
  have HR : Hid (Reads w v key) := hR
  obtain ⟨ad, cap, hv, hcap, _, _⟩ := hR
  clear hK
  have hmf : ∀ (fn : Fn) (first cap : Array Value) (w : World), (Instr.makeFunc fn first cap).run Tryd.prog w = .ok (.func fn first cap) w := fun _ _ _ _ => rfl
  by_cases h64 : 64 < key.length
  · have HKB : Hid (kblock key = kpad (dig key)) := kblock_long h64
    obtain ⟨n, HNN⟩ : ∃ n, Hid (n = key.length) := ⟨_, rfl⟩
    rw [← HNN.out] at hv h64 hl
    subst hv
    go_enter Tryd.func41, Tryd.ntmps41
    go_wp2_with fail
    refine (sum_any _ key _ HK.out HR.out (by rw [← HNN.out]; exact hl)).mono ?_
    rintro e w1 ⟨rfl, hb1⟩
    obtain ⟨ds, HDS⟩ : ∃ x, Hid (x = cb (dig key)) := ⟨_, rfl⟩
    have HL : Hid (ds.length = 32) := by show _ = _; rw [HDS.out, cb_len, len_dig']
    have HZ : Hid ((Tryd.prog.info? 27).map (·.size) = some ds.length) := by show _ = _; rw [HL.out]; exact Tryd.info27
    have H1 : Hid (∀ v ∈ ds, v.oneCell' = true) := by show ∀ _, _; rw [HDS.out]; exact cb_one _
    rw [← HDS.out]
    go_wp2_with (refine wpList_store_mid rfl 27 _ _ rfl _ 0 ds.toArray rfl rfl ?_ (by simpa using HZ.out) (all_oneCell_toArray H1.out) ?_; exact Blk.there (Blk.new_at rfl (cb zb32) _) _ _ (by rw [List.size_toArray, HL.out, cb_len, len_zb32]; omega); refine Hid.out ?_)
    generalize h0 : Obj.cells _ 27 = o32
    have ho : o32 = Obj.cells (cb zb32).toArray 27 := h0.symm
    clear h0
    subst ho
    have hD : Blk ((w1.alloc (.cells (cb zb32).toArray 27)).setCells w1.heap.size 0 ds) w1.heap.size (cb (dig key)) 27 := by
      rw [← HDS.out]
      exact (Blk.new w1 (cb zb32) 27).whole ds (by rw [HL.out, cb_len, len_zb32])
    have hB2 : Below w.heap.size w ((w1.alloc (.cells (cb zb32).toArray 27)).setCells w1.heap.size 0 ds) := Below.setCells _ hb1.size _ _ _ (hb1.alloc hb1.size _)
    generalize World.setCells _ _ _ _ = w2 at *
    have hg1 : w.heap.size ≤ w1.heap.size := hb1.size
    generalize w1.heap.size = g1 at *
    clear hb1
    unfold Hid
    go_wp2_with fail
    generalize h0 : Obj.cells _ 78 = o64
    have ho : o64 = Obj.cells (cb zb64).toArray 78 := h0.symm
    clear h0
    subst ho
    have hB := Blk.new w2 (cb zb64) 78
    have hb := below_alloc' w2 (Obj.cells (cb zb64).toArray 78)
    have hr2 : Reads w2 (.slice (some ⟨g1, 0, none⟩) 32 32) (dig key) := hD.reads (len_dig' _).symm (by rw [len_dig']; omega)
    rw [copy_run (dl := 64) (dc := 64) (T := 3) (n := 32) hB (hr2.below hb) (by rw [len_dig']; omega) rfl]
    have HB3 := hB.copied (k := dig key) (by rw [len_dig']; omega)
    have hb3 := Below.setCells w2.heap.size hB2.size (cb (dig key)) 0 _ (hB2.trans (hb.mono hB2.size))
    generalize World.setCells _ _ _ _ = w3 at *
    go_wp2
    go_ret
    exact ⟨w2.heap.size, rfl, hB2.size, by rw [HKB.out]; exact HB3, hb3⟩
  · have HKB : Hid (kblock key = kpad key) := kblock_short h64
    obtain ⟨n, HNN⟩ : ∃ n, Hid (n = key.length) := ⟨_, rfl⟩
    rw [← HNN.out] at hv h64
    subst hv
    go_enter Tryd.func41, Tryd.ntmps41
    go_wp2_with fail
    generalize h0 : Obj.cells _ 78 = o64
    have ho : o64 = Obj.cells (cb zb64).toArray 78 := h0.symm
    clear h0
    subst ho
    have hB := Blk.new w (cb zb64) 78
    have hb := below_alloc' w (Obj.cells (cb zb64).toArray 78)
    rw [copy_run (dl := 64) (dc := 64) (T := 3) (n := n) hB (HR.out.below hb) (by rw [← HNN.out]; omega) rfl]
    have HB2 := hB.copied (k := key) (by rw [← HNN.out]; omega)
    have hb2 := Below.setCells w.heap.size (Nat.le_refl _) (cb key) 0 _ hb
    generalize World.setCells _ _ _ _ = w2 at *
    go_wp2
    go_ret
    exact ⟨w.heap.size, rfl, Nat.le_refl _, by rw [HKB.out]; exact HB2, hb2⟩
end Go.Proofs.YtmkjcgjbhibnpaaDoor
/- The walk of the function value that mac.blockWriter answers: it writes the key's block, each byte turned, to a Hash. -/
namespace Go.Proofs.YtmkjcgjbhibnpaaDoor
open Go.RowKit
set_option maxRecDepth 100000
theorem Blk.bytes {w : World} {g gh : Nat} {bs : List (BitVec 8)} {t : TypeId} (h : Blk w g (cb bs) t) (hne : g ≠ gh) {n c : Nat} (hn : n = bs.length) (hc : bs.length ≤ c) : Bytes w gh (.slice (some ⟨g, 0, none⟩) n c) bs := by
  subst hn
  exact ⟨_, _, rfl, hc, fun _ => ⟨g, 0, rfl, hne, fun j hj => by rw [h.cell, Nat.zero_add, cb_get _ j hj]⟩⟩
set_option maxRecDepth 100000 in
set_option maxHeartbeats 1000000 in
theorem clo_any (g gh : Nat) (kb m : List (BitVec 8)) (t : BitVec 8) (w : World) (hK : KOk w) (hg : 0 ≠ gh) (hB : Blk w g (cb kb) 78) (hk : kb.length = 64) (hH : HashIs 80 w gh m) (hl : m.length + 64 < 4611686018427387904) :
    Calls Tryd.prog 49 #[.pointer (some ⟨gh, 0, none⟩), .int .u8 (t.toNat : Int), .pointer (some ⟨g, 0, none⟩)] w fun e w' => e = .returned (.tuple #[]) ∧ HashIs 80 w' gh (m ++ turnB t kb) ∧ Only gh w w' := by
  have HK : Hid (KOk w) := hK
  have HH : Hid (HashIs 80 w gh m) := hH
  have HKL : Hid (kb.length = 64) := hk
  obtain ⟨cs, HC⟩ : ∃ x, Hid (x = cb kb) := ⟨_, rfl⟩
  have HB : Hid (Blk w g cs 78) := by rw [HC.out]; exact hB
  have HL : Hid (cs.length = 64) := by show _ = _; rw [HC.out, cb_len, hk]
  have HZ : Hid ((Tryd.prog.info? 78).map (·.size) = some cs.length) := by show _ = _; rw [HL.out]; exact Tryd.info78
  have H1 : Hid (∀ v ∈ cs, v.oneCell' = true) := by show ∀ _, _; rw [HC.out]; exact cb_one _
  clear hK hH hk hB
  go_enter Tryd.func49, Tryd.ntmps49
  go_wp2_with (first
    | (refine wpList_load_mid rfl 78 _ rfl g 0 rfl cs _ HB.out.range Tryd.underlying78 rfl HZ.out ?_)
    | (refine wpList_store_mid rfl 78 _ _ rfl _ 0 cs.toArray rfl rfl ?_ (by simpa using HZ.out) (all_oneCell_toArray H1.out) ?_; exact Blk.there (Blk.new_at rfl (cb zb64) _) _ _ (by rw [List.size_toArray, HL.out]; exact Nat.le_refl _); refine Hid.out ?_))
  generalize h0 : Obj.cells _ 78 = o64
  have ho : o64 = Obj.cells (cb zb64).toArray 78 := h0.symm
  clear h0
  subst ho
  have hT : Blk ((w.alloc (.cells (cb zb64).toArray 78)).setCells w.heap.size 0 cs) w.heap.size (cb (turnI t kb 0)) 78 := by
    rw [turnI_zero, ← HC.out]
    exact (Blk.new w (cb zb64) 78).whole cs (by rw [HL.out]; rfl)
  have hB2 : Below w.heap.size w ((w.alloc (.cells (cb zb64).toArray 78)).setCells w.heap.size 0 cs) := Below.setCells _ (Nat.le_refl _) _ _ _ (below_alloc' _ _)
  generalize World.setCells _ _ _ _ = w2 at *
  clear HB HL HZ H1
  unfold Hid
  go_wp2
  go_loopw [8] (fun i wr => ∃ j : Nat, j ≤ 64 ∧ i = .int .i64 j ∧ Blk wr w.heap.size (cb (turnI t kb j)) 78 ∧ Below w.heap.size w wr) (fun i _ => 64 - (intOf i).toNat)
  case atStart => exact ⟨0, by omega, rfl, hT, hB2⟩
  case round =>
    clear hT hB2
    obtain ⟨j, hj, rfl, hT, hbel⟩ := hrel
    by_cases hlt : j < 64
    · obtain ⟨x, HX⟩ : ∃ x, Hid (x = kb.getD j 0) := ⟨_, rfl⟩
      have cT : wr.cell? ⟨w.heap.size, j, none⟩ = some (.int .u8 (x.toNat : Int)) := by
        have hkl := HKL.out
        rw [hT.cell, cb_get _ _ (by rw [len_turnI]; omega), turnI_get t kb j (by omega), HX.out]
      have fT : wr.frozen? ⟨w.heap.size, j, none⟩ = false := hT.frozen _
      have hx := xor_byte x t
      have HT : Hid (Blk wr w.heap.size (cb (turnI t kb j)) 78) := hT
      clear hT
      go_wp2
      go_roundw
      case rel =>
        refine ⟨j + 1, by omega, by go_num, ?_, hbel.setCell (Nat.le_refl _) _⟩
        have h := HT.out.set j (.int .u8 ((x ^^^ t).toNat : Int))
        have hkl := HKL.out
        rw [cb_set, HX.out, turnI_set t kb j (by omega)] at h
        rw [HX.out]
        exact h
      case measure => simp [intOf]; omega
    · have hj8 : j = 64 := by omega
      subst hj8
      have HT : Hid (Blk wr w.heap.size (cb (turnB t kb)) 78) := by
        rw [turnI_all t kb 64 (by have := HKL.out; omega)] at hT
        exact hT
      clear hT
      go_wp2_with fail
      have hne : w.heap.size ≠ gh := by have := HH.out.lt; omega
      refine (write_any gh m (turnB t kb) _ wr hg (HK.out.below hbel HK.out.lt) (HH.out.below hbel HH.out.lt) (HT.out.bytes hne (by rw [len_turnB]; exact HKL.out.symm) (by rw [len_turnB]; have := HKL.out; omega)) (by rw [len_turnB]; have := HKL.out; omega)).mono ?_
      rintro e w3 ⟨rfl, hh3, ho3⟩
      have HH3 : Hid (HashIs 80 w3 gh (m ++ turnB t kb)) := hh3
      have HO3 : Hid (Only gh w w3) := (Only.of_below hbel).trans ho3
      clear hh3 ho3 HT
      go_wp2
      first
        | (go_end0; exact ⟨rfl, HH3.out, HO3.out⟩)
        | (go_ret; exact ⟨rfl, HH3.out, HO3.out⟩)
end Go.Proofs.YtmkjcgjbhibnpaaDoor
/- The walk of mac.Mac: the keyed digest of the parts, one behind the other. -/
namespace Go.Proofs.YtmkjcgjbhibnpaaDoor
open Go.RowKit
set_option maxRecDepth 100000
structure McInv (w : World) (gb gi : Nat) (kb m : List (BitVec 8)) (wr : World) : Prop where
  res : Blk wr w.heap.size (cb zb32) 27
  blk : Blk wr gb (cb kb) 78
  hash : HashIs 80 wr gi m
  bel : Below w.heap.size w wr
theorem McInv.write {w wr w' : World} {gb gi : Nat} {kb m m' : List (BitVec 8)} (h : McInv w gb gi kb m wr) (hlt : w.heap.size < gb) (hlt2 : gb < gi) (hh : HashIs 80 w' gi m') (ho : Only gi wr w') : McInv w gb gi kb m' w' :=
  ⟨h.res.only ho (by omega), h.blk.only ho (by omega), hh, h.bel.trans (ho.below (by omega) h.bel.size)⟩
theorem ReadsL.bytes_at {w wr : World} {ad : Option Addr} {n cap k g : Nat} {ls : List (List (BitVec 8))} (h : ReadsL w (.slice ad n cap) ls) (hn : n = ls.length) (hk : k < n) (hb : Below w.heap.size w wr) (hg : w.heap.size ≤ g) :
    ∃ b off vj, ad = some ⟨b, off, none⟩ ∧ wr.cell? ⟨b, off + k, none⟩ = some vj ∧ Bytes wr g vj (ls.getD k []) := by
  obtain ⟨ad', cap', hv, _, _, hx⟩ := h
  simp only [Value.slice.injEq] at hv
  obtain ⟨rfl, _, rfl⟩ := hv
  obtain ⟨b, off, rfl, hc⟩ := hx (by omega)
  obtain ⟨vj, h1, h2⟩ := hc k (by omega)
  exact ⟨b, off, vj, rfl, by rw [hb.cell (p := ⟨b, off + k, none⟩) (block_lt_of_cell h1)]; exact h1, (h2.bytes hg).below hb⟩
set_option maxRecDepth 100000 in
set_option maxHeartbeats 1000000 in
theorem mac_any (vk vp : Value) (key : List (BitVec 8)) (ls : List (List (BitVec 8))) (w : World) (hK : KOk w) (hk : Reads w vk key) (hp : ReadsL w vp ls) (hkl : key.length < 2305843009213693952) (hl : ls.flatten.length < 1152921504606846976) (hn : ls.length < 4611686018427387904) :
    Calls Tryd.prog 33 #[vk, vp] w fun e w' => e = .returned (.agg (cb (hmac key ls.flatten)).toArray) ∧ Below w.heap.size w w' := by
  have HK : Hid (KOk w) := hK
  have HKR : Hid (Reads w vk key) := hk
  have HP : Hid (ReadsL w vp ls) := hp
  have HLK : Hid (key.length < 2305843009213693952) := hkl
  have HL : Hid (ls.flatten.length < 1152921504606846976) := hl
  obtain ⟨ad, cap, hv, hcap, _, _⟩ := hp
  obtain ⟨n, HNN⟩ : ∃ n, Hid (n = ls.length) := ⟨_, rfl⟩
  rw [← HNN.out] at hv hcap hn
  subst hv
  clear hK hk hkl hl
  go_enter Tryd.func33, Tryd.ntmps33
  go_wp2_with fail
  generalize h0 : Obj.cells _ 27 = o32
  have ho : o32 = Obj.cells (cb zb32).toArray 27 := h0.symm
  clear h0
  subst ho
  have hb0 := below_alloc w (Obj.cells (cb zb32).toArray 27)
  refine (bw_any vk key _ (HK.out.below hb0 HK.out.lt) (HKR.out.below hb0) HLK.out).mono ?_
  rintro e w1 ⟨gb, rfl, hgb, hB1, hb1⟩
  simp at hgb hb1
  have HS1 : Hid (Below w.heap.size w w1) := hb0.trans (hb1.mono (by omega))
  have HR1 : Hid (Blk w1 w.heap.size (cb zb32) 27) := (Blk.new w (cb zb32) 27).below hb1 (by omega)
  have HB1 : Hid (Blk w1 gb (cb (kblock key)) 78) := hB1
  have HKB : Hid ((kblock key).length = 64) := len_kblock key
  have HM : Hid (hmac key ls.flatten = dig (turnB 92 (kblock key) ++ dig (turnB 54 (kblock key) ++ ls.flatten))) := rfl
  clear hb0 hb1 hB1 HKR HLK
  generalize kblock key = kb at *
  go_wp2_with fail
  refine (new_any _).mono ?_
  rintro e w2 ⟨gi, rfl, hgi, hh2, hb2⟩
  have HG : Hid (w.heap.size < gb ∧ gb < gi ∧ 0 ≠ gi) := ⟨by omega, by have := HB1.out.lt; omega, by have := HK.out.lt; have := HS1.out.size; omega⟩
  have hI2 : McInv w gb gi kb [] w2 := ⟨HR1.out.below hb2 HR1.out.lt, HB1.out.below hb2 HB1.out.lt, hh2, HS1.out.trans (hb2.mono HS1.out.size)⟩
  clear hb2 hh2 hgi hgb HS1 HR1 HB1
  go_wp2_with fail
  refine (clo_any gb gi kb [] 54 w2 (HK.out.below hI2.bel HK.out.lt) HG.out.2.2 hI2.blk HKB.out hI2.hash (by simp)).mono ?_
  rintro e w3 ⟨rfl, hh3, ho3⟩
  have hI3 : McInv w gb gi kb (turnB 54 kb) w3 := by
    rw [List.nil_append] at hh3
    exact hI2.write HG.out.1 HG.out.2.1 hh3 ho3
  clear hh3 ho3 hI2
  go_wp2
  go_loopw [19] (fun i wr => ∃ k : Nat, k ≤ n ∧ i = .int .i64 k ∧ McInv w gb gi kb (turnB 54 kb ++ (ls.take k).flatten) wr) (fun i _ => n - (intOf i).toNat)
  case atStart => exact ⟨0, by omega, rfl, by simpa using hI3⟩
  case round =>
    clear hI3
    obtain ⟨k, hkn, rfl, hI⟩ := hrel
    by_cases hlt : k < n
    · obtain ⟨b, off, vj, rfl, cj, hj⟩ := HP.out.bytes_at (g := gi) HNN.out hlt hI.bel (by have := HG.out; omega)
      obtain ⟨bk, HBK⟩ : ∃ x, Hid (x = ls.getD k []) := ⟨_, rfl⟩
      rw [← HBK.out] at hj
      have HF : Hid ((ls.take (k + 1)).flatten = (ls.take k).flatten ++ bk) := by rw [HBK.out]; exact flat_take ls k (by rw [← HNN.out]; exact hlt)
      have HL1 : Hid ((ls.take k).flatten.length + bk.length < 1152921504606846976) := by
        have h1 := flat_le ls (k + 1)
        rw [HF.out, List.length_append] at h1
        exact Nat.lt_of_le_of_lt h1 HL.out
      have HJ : Hid (Bytes wr gi vj bk) := hj
      have HI : Hid (McInv w gb gi kb (turnB 54 kb ++ (ls.take k).flatten) wr) := hI
      clear hj hI
      go_wp2_with fail
      refine (write_any gi (turnB 54 kb ++ (ls.take k).flatten) bk vj wr HG.out.2.2 (HK.out.below HI.out.bel HK.out.lt) HI.out.hash HJ.out (by have := HL1.out; have := HKB.out; rw [List.length_append, len_turnB]; omega)).mono ?_
      rintro e w4 ⟨rfl, hh4, ho4⟩
      have hI4 : McInv w gb gi kb (turnB 54 kb ++ (ls.take (k + 1)).flatten) w4 := by
        rw [List.append_assoc, ← HF.out] at hh4
        exact HI.out.write HG.out.1 HG.out.2.1 hh4 ho4
      clear hh4 ho4 HI HJ cj
      go_wp2
      exact ⟨⟨k + 1, by omega, by go_num, hI4⟩, by simp [intOf]; omega⟩
    · have hkn' : k = n := by omega
      subst hkn'
      rw [HNN.out, List.take_of_length_le (Nat.le_refl _)] at hI
      obtain ⟨m, HMM⟩ : ∃ x, Hid (x = turnB 54 kb ++ ls.flatten) := ⟨_, rfl⟩
      have HLm : Hid (m.length < 1152921504606847976) := by show _ < _; rw [HMM.out, List.length_append, len_turnB, HKB.out]; have := HL.out; omega
      rw [← HMM.out] at hI HM
      have HI : Hid (McInv w gb gi kb m wr) := hI
      clear hI
      go_wp2_with fail
      refine (digest_any gi m _ (HK.out.below HI.out.bel HK.out.lt) HI.out.hash (by have := HLm.out; omega)).mono ?_
      rintro e w5 ⟨rfl, hb5⟩
      obtain ⟨dd, HD⟩ : ∃ x, Hid (x = dig m) := ⟨_, rfl⟩
      have HDL : Hid (dd.length = 32) := by show _ = _; rw [HD.out]; exact len_dig' _
      rw [← HD.out]
      rw [← HD.out] at HM
      have HR5 : Hid (Blk w5 w.heap.size (cb zb32) 27) := HI.out.res.below hb5 HI.out.res.lt
      have HB5 : Hid (Blk w5 gb (cb kb) 78) := HI.out.blk.below hb5 HI.out.blk.lt
      have HS5 : Hid (Below w.heap.size w w5) := HI.out.bel.trans (hb5.mono HI.out.bel.size)
      clear hb5 HI HD HMM HLm HG
      obtain ⟨ds, HDS⟩ : ∃ x, Hid (x = cb dd) := ⟨_, rfl⟩
      have HLd : Hid (ds.length = 32) := by show _ = _; rw [HDS.out, cb_len, HDL.out]
      have HZ : Hid ((Tryd.prog.info? 27).map (·.size) = some ds.length) := by show _ = _; rw [HLd.out]; exact Tryd.info27
      have H1 : Hid (∀ v ∈ ds, v.oneCell' = true) := by show ∀ _, _; rw [HDS.out]; exact cb_one _
      rw [← HDS.out]
      go_wp2_with (refine wpList_store_mid rfl 27 _ _ rfl _ 0 ds.toArray rfl rfl ?_ (by simpa using HZ.out) (all_oneCell_toArray H1.out) ?_; exact Blk.there (Blk.new_at rfl (cb zb32) _) _ _ (by rw [List.size_toArray, HLd.out, cb_len, len_zb32]; omega); refine Hid.out ?_)
      generalize h0 : Obj.cells _ 27 = o32
      have ho : o32 = Obj.cells (cb zb32).toArray 27 := h0.symm
      clear h0
      subst ho
      have b6 : Below w5.heap.size w5 ((w5.alloc (.cells (cb zb32).toArray 27)).setCells w5.heap.size 0 ds) := Below.setCells _ (Nat.le_refl _) _ _ _ (below_alloc _ _)
      have HD6 : Hid (Blk ((w5.alloc (.cells (cb zb32).toArray 27)).setCells w5.heap.size 0 ds) w5.heap.size (cb dd) 27) := by
        rw [← HDS.out]
        exact (Blk.new w5 (cb zb32) 27).whole ds (by rw [HLd.out, cb_len, len_zb32])
      generalize World.setCells _ _ _ _ = w6 at *
      have HR6 : Hid (Blk w6 w.heap.size (cb zb32) 27) := HR5.out.below b6 HR5.out.lt
      have HB6 : Hid (Blk w6 gb (cb kb) 78) := HB5.out.below b6 HB5.out.lt
      have HS6 : Hid (Below w.heap.size w w6) := HS5.out.trans (b6.mono HS5.out.size)
      have HG6 : Hid (w.heap.size < w5.heap.size ∧ gb < w5.heap.size) := ⟨HR5.out.lt, HB5.out.lt⟩
      generalize w5.heap.size = gd at *
      clear b6 HR5 HB5 HS5 HDS HLd HZ H1
      unfold Hid
      go_wp2_with fail
      refine (new_any _).mono ?_
      rintro e w7 ⟨go, rfl, hgo, hh7, hb7⟩
      have HG7 : Hid (w.heap.size < go ∧ gb < go ∧ gd < go ∧ 0 ≠ go) := by
        have h1 := HD6.out.lt
        have h2 := HG6.out
        have h3 := HK.out.lt
        exact ⟨by omega, by omega, by omega, by omega⟩
      have HR7 : Hid (Blk w7 w.heap.size (cb zb32) 27) := HR6.out.below hb7 HR6.out.lt
      have HB7 : Hid (Blk w7 gb (cb kb) 78) := HB6.out.below hb7 HB6.out.lt
      have HD7 : Hid (Blk w7 gd (cb dd) 27) := HD6.out.below hb7 HD6.out.lt
      have HS7 : Hid (Below w.heap.size w w7) := HS6.out.trans (hb7.mono HS6.out.size)
      have HH7 : Hid (HashIs 80 w7 go []) := hh7
      clear hgo hh7 hb7 HR6 HB6 HD6 HS6 HG6
      go_wp2_with fail
      refine (clo_any gb go kb [] 92 w7 (HK.out.below HS7.out HK.out.lt) HG7.out.2.2.2 HB7.out HKB.out HH7.out (by simp)).mono ?_
      rintro e w8 ⟨rfl, hh8, ho8⟩
      have HR8 : Hid (Blk w8 w.heap.size (cb zb32) 27) := HR7.out.only ho8 (by have := HG7.out; omega)
      have HD8 : Hid (Blk w8 gd (cb dd) 27) := HD7.out.only ho8 (by have := HG7.out; omega)
      have HS8 : Hid (Below w.heap.size w w8) := HS7.out.trans (ho8.below (by have := HG7.out; omega) HS7.out.size)
      have HH8 : Hid (HashIs 80 w8 go (turnB 92 kb)) := hh8
      clear hh8 ho8 HR7 HB7 HD7 HS7 HH7
      go_wp2_with fail
      refine (write_any go (turnB 92 kb) dd _ w8 HG7.out.2.2.2 (HK.out.below HS8.out HK.out.lt) HH8.out (HD8.out.bytes (by have := HG7.out; omega) HDL.out.symm (by have := HDL.out; omega)) (by have := HDL.out; have := HKB.out; rw [len_turnB]; omega)).mono ?_
      rintro e w9 ⟨rfl, hh9, ho9⟩
      have HR9 : Hid (Blk w9 w.heap.size (cb zb32) 27) := HR8.out.only ho9 (by have := HG7.out; omega)
      have HS9 : Hid (Below w.heap.size w w9) := HS8.out.trans (ho9.below (by have := HG7.out; omega) HS8.out.size)
      have HH9 : Hid (HashIs 80 w9 go (turnB 92 kb ++ dd)) := hh9
      clear hh9 ho9 HR8 HD8 HS8 HH8
      go_wp2_with fail
      refine (digest_any go (turnB 92 kb ++ dd) _ (HK.out.below HS9.out HK.out.lt) HH9.out (by have := HDL.out; have := HKB.out; rw [List.length_append, len_turnB]; omega)).mono ?_
      rintro e w10 ⟨rfl, hb10⟩
      rw [← HM.out]
      obtain ⟨es, HES⟩ : ∃ x, Hid (x = cb (hmac key ls.flatten)) := ⟨_, rfl⟩
      have HLe : Hid (es.length = 32) := by show _ = _; rw [HES.out, cb_len, len_hmac]
      have HZe : Hid ((Tryd.prog.info? 27).map (·.size) = some es.length) := by show _ = _; rw [HLe.out]; exact Tryd.info27
      have H1e : Hid (∀ v ∈ es, v.oneCell' = true) := by show ∀ _, _; rw [HES.out]; exact cb_one _
      have HR10 : Hid (Blk w10 w.heap.size (cb zb32) 27) := HR9.out.below hb10 HR9.out.lt
      rw [← HES.out]
      go_wp2_with (refine wpList_store_mid rfl 27 _ _ rfl w.heap.size 0 es.toArray rfl rfl (HR10.out.there 0 _ (by rw [List.size_toArray, HLe.out, cb_len, len_zb32]; omega)) (by simpa using HZe.out) (all_oneCell_toArray H1e.out) ?_)
      have hB := HR10.out.whole es (by rw [HLe.out, cb_len, len_zb32])
      refine bodyPost_ret (v := .agg es.toArray) (results_cell_row (by rfl) _ _ w.heap.size 27 _ (0, 0) _ rfl hB Tryd.underlying27 rfl (by simpa using HZe.out)) rfl ⟨by rw [HES.out], Below.setCells _ (Nat.le_refl _) _ _ _ (HS9.out.trans (hb10.mono HS9.out.size))⟩
end Go.Proofs.YtmkjcgjbhibnpaaDoor
/- The walks of IndexOf, SaltOf and KeyOf, of tags and of blazonref03. -/
namespace Go.Proofs.YtmkjcgjbhibnpaaDoor
open Go.RowKit
set_option maxRecDepth 100000
theorem zeros32 : (#[Value.int .u8 0, Value.int .u8 0, Value.int .u8 0, Value.int .u8 0, Value.int .u8 0, Value.int .u8 0, Value.int .u8 0, Value.int .u8 0, Value.int .u8 0, Value.int .u8 0, Value.int .u8 0, Value.int .u8 0, Value.int .u8 0, Value.int .u8 0, Value.int .u8 0, Value.int .u8 0, Value.int .u8 0, Value.int .u8 0, Value.int .u8 0, Value.int .u8 0, Value.int .u8 0, Value.int .u8 0, Value.int .u8 0, Value.int .u8 0, Value.int .u8 0, Value.int .u8 0, Value.int .u8 0, Value.int .u8 0, Value.int .u8 0, Value.int .u8 0, Value.int .u8 0, Value.int .u8 0] : Array Value) = (cb zb32).toArray := by kernel_rfl
end Go.Proofs.YtmkjcgjbhibnpaaDoor
/- The walks of AuthOf, of tags and of blazonref03: by what an owner asks. -/
namespace Go.Proofs.YtmkjcgjbhibnpaaDoor
open Go.RowKit
set_option maxRecDepth 100000
def authB (nm : List (BitVec 8)) (sr : Nat) (ky : List (BitVec 8)) : List (BitVec 8) := 65 :: (num8 nm.length ++ (nm ++ (num8 sr ++ ky)))
set_option maxRecDepth 100000 in
set_option maxHeartbeats 1000000 in
theorem tAuth_any (ol nm ky : List (BitVec 8)) (vo vk : Value) (sr : Nat) (w : World) (hK : KOk w) (ho : Reads w vo ol) (hk : Reads w vk ky) (hn : nm.length ≤ 1099511627776 ∧ ky.length ≤ 1099511627776 ∧ sr < 18446744073709551616 ∧ ol.length ≤ 1099511627776) :
    Calls Tryd.prog 28 #[vo, .string (strB nm), .int .u64 (sr : Int), vk] w fun e w' => e = .returned (.agg (cb (hmac ol (authB nm sr ky))).toArray) ∧ Below w.heap.size w w' := by
  have HK : Hid (KOk w) := hK
  clear hK
  have HN : Hid (nm.length ≤ 1099511627776 ∧ ky.length ≤ 1099511627776 ∧ sr < 18446744073709551616 ∧ ol.length ≤ 1099511627776) := hn
  have HO : Hid (Reads w vo ol) := ho
  have HY : Hid (Reads w vk ky) := hk
  obtain ⟨ao, co, rfl, _, _, _⟩ := ho
  obtain ⟨ak, ck, rfl, _, _, _⟩ := hk
  clear hn
  go_enter Tryd.func28, Tryd.ntmps28
  go_wp2_with fail
  rw [zeros32]
  have hb0 := below_alloc w (Obj.cells (cb zb32).toArray 27)
  have hRB : Blk (w.alloc (Obj.cells (cb zb32).toArray 27)) w.heap.size (cb zb32) 27 := Blk.new w _ _
  generalize w.alloc (Obj.cells (cb zb32).toArray 27) = w0 at *
  refine (count_any nm (by have := HN.out; omega) _).mono ?_
  rintro e w1 ⟨v1, rfl, r1, b1⟩
  obtain ⟨l1, HL1⟩ : ∃ zz, Hid (zz = num8 nm.length) := ⟨_, rfl⟩
  rw [← HL1.out] at r1
  have HS1 : Hid (Below w.heap.size w w1) := hb0.trans (b1.mono hb0.size)
  have HRB1 : Hid (Blk w1 w.heap.size (cb zb32) 27) := hRB.below (b1.mono (Nat.le_refl _)) hRB.lt
  have HW1 := r1
  obtain ⟨a1, c1, rfl, _, _, _⟩ := r1
  clear b1 hb0 hRB
  have hcv := conv_string nm w1
  have r2 := bytesWorld_reads nm w1
  have b2 := bytesWorld_below nm w1
  have HR1 : Hid (Reads (Lib.bytesWorld w1 5 (strB nm)) (.slice a1 l1.length c1) l1) := HW1.below b2
  have HS2 : Hid (Below w.heap.size w (Lib.bytesWorld w1 5 (strB nm))) := HS1.out.trans (b2.mono HS1.out.size)
  have HRB2 : Hid (Blk (Lib.bytesWorld w1 5 (strB nm)) w.heap.size (cb zb32) 27) := HRB1.out.below b2 HRB1.out.lt
  clear HRB1 HS1 b2 HW1
  generalize Lib.bytesWorld w1 5 (strB nm) = w2 at *
  generalize grownCap w1 nm.length 0 5 = c2 at *
  have HR2 : Hid (Reads w2 (.slice (some ⟨w1.heap.size, 0, none⟩) nm.length c2) nm) := r2
  clear r2
  go_wp2_with fail
  refine (number_any sr _).mono ?_
  rintro e w3 ⟨v3, rfl, r3, b3⟩
  obtain ⟨l3, HL3⟩ : ∃ zz, Hid (zz = num8 sr) := ⟨_, rfl⟩
  rw [← HL3.out] at r3
  have s1 := HR1.out.below b3
  have s2 := HR2.out.below b3
  have HS3 : Hid (Below w.heap.size w w3) := HS2.out.trans (b3.mono HS2.out.size)
  have HRB3 : Hid (Blk w3 w.heap.size (cb zb32) 27) := HRB2.out.below b3 HRB2.out.lt
  have s3 := r3
  obtain ⟨a3, c3, rfl, _, _, _⟩ := r3
  have rL := readsL_four s1 s2 s3 (HY.out.below HS3.out)
  have b4 := below_alloc w3 (.cells #[.slice a1 l1.length c1, .slice (some ⟨w1.heap.size, 0, none⟩) nm.length c2, .slice a3 l3.length c3, .slice ak ky.length ck] 22)
  have HS4 : Hid (Below w.heap.size w (w3.alloc (.cells #[.slice a1 l1.length c1, .slice (some ⟨w1.heap.size, 0, none⟩) nm.length c2, .slice a3 l3.length c3, .slice ak ky.length ck] 22))) := HS3.out.trans (b4.mono HS3.out.size)
  have HRB4 : Hid (Blk (w3.alloc (.cells #[.slice a1 l1.length c1, .slice (some ⟨w1.heap.size, 0, none⟩) nm.length c2, .slice a3 l3.length c3, .slice ak ky.length ck] 22)) w.heap.size (cb zb32) 27) := HRB3.out.below b4 HRB3.out.lt
  have HT : Hid (Calls Tryd.prog 34 #[.int .u8 65, .slice (some ⟨w3.heap.size, 0, none⟩) 4 4] (w3.alloc (.cells #[.slice a1 l1.length c1, .slice (some ⟨w1.heap.size, 0, none⟩) nm.length c2, .slice a3 l3.length c3, .slice ak ky.length ck] 22)) fun e w' => ∃ v', e = .returned v' ∧ Reads w' v' ((65 : BitVec 8) :: [l1, nm, l3, ky].flatten) ∧ Below (w3.alloc (.cells #[.slice a1 l1.length c1, .slice (some ⟨w1.heap.size, 0, none⟩) nm.length c2, .slice a3 l3.length c3, .slice ak ky.length ck] 22)).heap.size (w3.alloc (.cells #[.slice a1 l1.length c1, .slice (some ⟨w1.heap.size, 0, none⟩) nm.length c2, .slice a3 l3.length c3, .slice ak ky.length ck] 22)) w') :=
    tagged_any 65 _ _ _ rL (by simp only [fl4, HL1.out, HL3.out, len_num8]; have := HN.out; omega) (by simp)
  clear b3 b4 s1 s2 s3 rL HR1 HR2 HS2 HRB2 HS3 HRB3 hcv
  go_wp2_with fail
  refine HT.out.mono ?_
  rintro e w5 ⟨v5, rfl, r5, b5⟩
  obtain ⟨l5, HL5⟩ : ∃ zz, Hid (zz = (65 : BitVec 8) :: [l1, nm, l3, ky].flatten) := ⟨_, rfl⟩
  rw [← HL5.out] at r5
  have HS5 : Hid (Below w.heap.size w w5) := HS4.out.trans (b5.mono HS4.out.size)
  have HRB5 : Hid (Blk w5 w.heap.size (cb zb32) 27) := HRB4.out.below b5 HRB4.out.lt
  have HLL : Hid (l5 = authB nm sr ky) := by show _ = _; rw [HL5.out]; simp [authB, HL1.out, HL3.out]
  have HLb : Hid (l5.length < 4398046511104) := by show _ < _; simp only [HL5.out, List.length_cons, fl4, HL1.out, HL3.out, len_num8]; have := HN.out; omega
  have s5 := r5
  obtain ⟨a5, c5, rfl, _, _, _⟩ := r5
  clear b5 HS4 HRB4 HT HL5
  have rM := readsL_one s5
  have b6 := below_alloc w5 (.cells #[.slice a5 l5.length c5] 22)
  have HS6 : Hid (Below w.heap.size w (w5.alloc (.cells #[.slice a5 l5.length c5] 22))) := HS5.out.trans (b6.mono HS5.out.size)
  have HRB6 : Hid (Blk (w5.alloc (.cells #[.slice a5 l5.length c5] 22)) w.heap.size (cb zb32) 27) := HRB5.out.below b6 HRB5.out.lt
  have HRM : Hid (ReadsL (w5.alloc (.cells #[.slice a5 l5.length c5] 22)) (.slice (some ⟨w5.heap.size, 0, none⟩) 1 1) [l5]) := rM
  clear s5 b6 rM
  go_wp2_with fail
  refine (mac_any _ _ ol [l5] _ (HK.out.below HS6.out HK.out.lt) (HO.out.below HS6.out) HRM.out (by have := HN.out; omega) (by rw [fl1]; have := HLb.out; omega) (by simp)).mono ?_
  rintro e w7 ⟨rfl, b7⟩
  have HS7 : Hid (Below w.heap.size w w7) := HS6.out.trans (b7.mono HS6.out.size)
  have HRB7 : Hid (Blk w7 w.heap.size (cb zb32) 27) := HRB6.out.below b7 HRB6.out.lt
  rw [show [l5].flatten = authB nm sr ky by simp [HLL.out]]
  clear b7 HRM HS6 HRB6 HS5 HRB5
  obtain ⟨es, HES⟩ : ∃ zz, Hid (zz = cb (hmac ol (authB nm sr ky))) := ⟨_, rfl⟩
  have HLe : Hid (es.length = 32) := by show _ = _; rw [HES.out, cb_len, len_hmac]
  have HZe : Hid ((Tryd.prog.info? 27).map (·.size) = some es.length) := by show _ = _; rw [HLe.out]; exact Tryd.info27
  have H1e : Hid (∀ v ∈ es, v.oneCell' = true) := by show ∀ _, _; rw [HES.out]; exact cb_one _
  rw [← HES.out]
  go_wp2_with (refine wpList_store_mid rfl 27 _ _ rfl w.heap.size 0 es.toArray rfl rfl (HRB7.out.there 0 _ (by rw [List.size_toArray, HLe.out, cb_len, len_zb32]; omega)) (by simpa using HZe.out) (all_oneCell_toArray H1e.out) ?_)
  have hB := HRB7.out.whole es (by rw [HLe.out, cb_len, len_zb32])
  refine bodyPost_ret (v := .agg es.toArray) (results_cell_row (by rfl) _ _ w.heap.size 27 _ (0, 0) _ rfl hB Tryd.underlying27 rfl (by simpa using HZe.out)) rfl ⟨by rw [HES.out], Below.setCells _ (Nat.le_refl _) _ _ _ HS7.out⟩
set_option maxRecDepth 100000 in
set_option maxHeartbeats 1000000 in
theorem rAuth_any (ol nm ky : List (BitVec 8)) (vo vk : Value) (sr : Nat) (w : World) (ho : Reads w vo ol) (hk : Reads w vk ky) (hn : nm.length ≤ 1099511627776 ∧ ky.length ≤ 1099511627776 ∧ sr < 18446744073709551616 ∧ ol.length ≤ 1099511627776) :
    Calls Tryd.prog 17 #[vo, .string (strB nm), .int .u64 (sr : Int), vk] w fun e w' => e = .returned (.agg (cb (hmac ol (authB nm sr ky))).toArray) ∧ Below w.heap.size w w' := by
  have HN : Hid (nm.length ≤ 1099511627776 ∧ ky.length ≤ 1099511627776 ∧ sr < 18446744073709551616 ∧ ol.length ≤ 1099511627776) := hn
  have HO : Hid (Reads w vo ol) := ho
  have HY : Hid (Reads w vk ky) := hk
  obtain ⟨ao, co, rfl, _, _, _⟩ := ho
  obtain ⟨ak, ck, rfl, _, _, _⟩ := hk
  clear hn
  have hss := strB_size nm
  have hwr : IntKind.u64.wrap (nm.length : Int) = (nm.length : Int) := by rw [IntKind.wrap_u64]; have := HN.out; omega
  go_enter Tryd.func17, Tryd.ntmps17
  go_wp2_with fail
  rw [zeros32]
  have hb0 := below_alloc w (Obj.cells (cb zb32).toArray 27)
  have hRB : Blk (w.alloc (Obj.cells (cb zb32).toArray 27)) w.heap.size (cb zb32) 27 := Blk.new w _ _
  generalize w.alloc (Obj.cells (cb zb32).toArray 27) = w0 at *
  refine (rnumber_any nm.length (by have := HN.out; omega) _).mono ?_
  rintro e w1 ⟨v1, rfl, r1, b1⟩
  obtain ⟨l1, HL1⟩ : ∃ zz, Hid (zz = num8 nm.length) := ⟨_, rfl⟩
  rw [← HL1.out] at r1
  have HS1 : Hid (Below w.heap.size w w1) := hb0.trans (b1.mono hb0.size)
  have HRB1 : Hid (Blk w1 w.heap.size (cb zb32) 27) := hRB.below (b1.mono (Nat.le_refl _)) hRB.lt
  have HW1 := r1
  obtain ⟨a1, c1, rfl, _, _, _⟩ := r1
  clear b1 hb0 hRB
  have hcv := conv_string nm w1
  have r2 := bytesWorld_reads nm w1
  have b2 := bytesWorld_below nm w1
  have HR1 : Hid (Reads (Lib.bytesWorld w1 5 (strB nm)) (.slice a1 l1.length c1) l1) := HW1.below b2
  have HS2 : Hid (Below w.heap.size w (Lib.bytesWorld w1 5 (strB nm))) := HS1.out.trans (b2.mono HS1.out.size)
  have HRB2 : Hid (Blk (Lib.bytesWorld w1 5 (strB nm)) w.heap.size (cb zb32) 27) := HRB1.out.below b2 HRB1.out.lt
  clear HRB1 HS1 b2 HW1
  generalize Lib.bytesWorld w1 5 (strB nm) = w2 at *
  generalize grownCap w1 nm.length 0 5 = c2 at *
  have HR2 : Hid (Reads w2 (.slice (some ⟨w1.heap.size, 0, none⟩) nm.length c2) nm) := r2
  clear r2
  go_wp2_with fail
  refine (rnumber_any sr (by have := HN.out; omega) _).mono ?_
  rintro e w3 ⟨v3, rfl, r3, b3⟩
  obtain ⟨l3, HL3⟩ : ∃ zz, Hid (zz = num8 sr) := ⟨_, rfl⟩
  rw [← HL3.out] at r3
  have s1 := HR1.out.below b3
  have s2 := HR2.out.below b3
  have HS3 : Hid (Below w.heap.size w w3) := HS2.out.trans (b3.mono HS2.out.size)
  have HRB3 : Hid (Blk w3 w.heap.size (cb zb32) 27) := HRB2.out.below b3 HRB2.out.lt
  have s3 := r3
  obtain ⟨a3, c3, rfl, _, _, _⟩ := r3
  have rL := readsL_four s1 s2 s3 (HY.out.below HS3.out)
  have b4 := below_alloc w3 (.cells #[.slice a1 l1.length c1, .slice (some ⟨w1.heap.size, 0, none⟩) nm.length c2, .slice a3 l3.length c3, .slice ak ky.length ck] 22)
  have HS4 : Hid (Below w.heap.size w (w3.alloc (.cells #[.slice a1 l1.length c1, .slice (some ⟨w1.heap.size, 0, none⟩) nm.length c2, .slice a3 l3.length c3, .slice ak ky.length ck] 22))) := HS3.out.trans (b4.mono HS3.out.size)
  have HRB4 : Hid (Blk (w3.alloc (.cells #[.slice a1 l1.length c1, .slice (some ⟨w1.heap.size, 0, none⟩) nm.length c2, .slice a3 l3.length c3, .slice ak ky.length ck] 22)) w.heap.size (cb zb32) 27) := HRB3.out.below b4 HRB3.out.lt
  have HT : Hid (Calls Tryd.prog 25 #[.int .u8 65, .slice (some ⟨w3.heap.size, 0, none⟩) 4 4] (w3.alloc (.cells #[.slice a1 l1.length c1, .slice (some ⟨w1.heap.size, 0, none⟩) nm.length c2, .slice a3 l3.length c3, .slice ak ky.length ck] 22)) fun e w' => ∃ v', e = .returned v' ∧ Reads w' v' ((65 : BitVec 8) :: [l1, nm, l3, ky].flatten) ∧ Below (w3.alloc (.cells #[.slice a1 l1.length c1, .slice (some ⟨w1.heap.size, 0, none⟩) nm.length c2, .slice a3 l3.length c3, .slice ak ky.length ck] 22)).heap.size (w3.alloc (.cells #[.slice a1 l1.length c1, .slice (some ⟨w1.heap.size, 0, none⟩) nm.length c2, .slice a3 l3.length c3, .slice ak ky.length ck] 22)) w') :=
    rsign_any 65 _ _ _ rL (by simp only [fl4, HL1.out, HL3.out, len_num8]; have := HN.out; omega) (by simp)
  clear b3 b4 s1 s2 s3 rL HR1 HR2 HS2 HRB2 HS3 HRB3 hcv
  go_wp2_with fail
  refine HT.out.mono ?_
  rintro e w5 ⟨v5, rfl, r5, b5⟩
  obtain ⟨l5, HL5⟩ : ∃ zz, Hid (zz = (65 : BitVec 8) :: [l1, nm, l3, ky].flatten) := ⟨_, rfl⟩
  rw [← HL5.out] at r5
  have HS5 : Hid (Below w.heap.size w w5) := HS4.out.trans (b5.mono HS4.out.size)
  have HRB5 : Hid (Blk w5 w.heap.size (cb zb32) 27) := HRB4.out.below b5 HRB4.out.lt
  have HLL : Hid (l5 = authB nm sr ky) := by show _ = _; rw [HL5.out]; simp [authB, HL1.out, HL3.out]
  have HLb : Hid (l5.length < 4398046511104) := by show _ < _; simp only [HL5.out, List.length_cons, fl4, HL1.out, HL3.out, len_num8]; have := HN.out; omega
  have s5 := r5
  obtain ⟨a5, c5, rfl, _, _, _⟩ := r5
  clear b5 HS4 HRB4 HT HL5
  have HR5 : Hid (Reads w5 (.slice a5 l5.length c5) l5) := s5
  clear s5
  go_wp2_with fail
  refine (rmac_any _ _ ol l5 _ (HO.out.below HS5.out) HR5.out (by have := HN.out; omega) (by have := HLb.out; omega)).mono ?_
  rintro e w6 ⟨rfl, b6⟩
  have HS6 : Hid (Below w.heap.size w w6) := HS5.out.trans (b6.mono HS5.out.size)
  have HRB6 : Hid (Blk w6 w.heap.size (cb zb32) 27) := HRB5.out.below b6 HRB5.out.lt
  rw [HLL.out]
  clear b6 HR5 HS5 HRB5
  obtain ⟨es, HES⟩ : ∃ zz, Hid (zz = cb (hmac ol (authB nm sr ky))) := ⟨_, rfl⟩
  have HLe : Hid (es.length = 32) := by show _ = _; rw [HES.out, cb_len, len_hmac]
  have HZe : Hid ((Tryd.prog.info? 27).map (·.size) = some es.length) := by show _ = _; rw [HLe.out]; exact Tryd.info27
  have H1e : Hid (∀ v ∈ es, v.oneCell' = true) := by show ∀ _, _; rw [HES.out]; exact cb_one _
  rw [← HES.out]
  go_wp2_with (refine wpList_store_mid rfl 27 _ _ rfl w.heap.size 0 es.toArray rfl rfl (HRB6.out.there 0 _ (by rw [List.size_toArray, HLe.out, cb_len, len_zb32]; omega)) (by simpa using HZe.out) (all_oneCell_toArray H1e.out) ?_)
  have hB := HRB6.out.whole es (by rw [HLe.out, cb_len, len_zb32])
  refine bodyPost_ret (v := .agg es.toArray) (results_cell_row (by rfl) _ _ w.heap.size 27 _ (0, 0) _ rfl hB Tryd.underlying27 rfl (by simpa using HZe.out)) rfl ⟨by rw [HES.out], Below.setCells _ (Nat.le_refl _) _ _ _ HS6.out⟩
end Go.Proofs.YtmkjcgjbhibnpaaDoor
/- Bindings and requests in memory (layer 19). -/
namespace Go.Proofs.YtmkjcgjbhibnpaaDoor
open Go.RowKit
set_option maxRecDepth 100000
abbrev By := List (BitVec 8)
theorem wpSeq_val {P : Program} {ops : Array Oper} {Q : Exit → Act → World → Prop} {rest : List Oper} {o : Oper} {a : Act} {w : World} (v : Value) (w' : World) (hw : Region.wanted o (yielded ops a.tmps) = true)
    (he : (execOp a.eval o).run P w = .ok (.value v) w') (h : wpList P ops Q rest (a.put o.dst v) w') : wpList P ops Q (o :: rest) a w := by
  unfold wpList
  simp only [hw, if_true]
  left
  unfold Oper.wp
  rw [he, Oper.upon_value]
  exact h
theorem wpSeq_box {ops : Array Oper} {Q : Exit → Act → World → Prop} {rest : List Oper} {o : Oper} {a : Act} {w : World} (ty : TypeId) (x : Operand) (ho : o.op = .box ty x) (cs : List Value) (hx : a.eval x = .agg cs.toArray) (hw : Region.wanted o (yielded ops a.tmps) = true) (w0 : World) (h0 : w0 = w.alloc (.cells cs.toArray ty))
    (h : wpList Tryd.prog ops Q rest (a.put o.dst (.pointer (some ⟨w.heap.size, 0, none⟩))) w0) : wpList Tryd.prog ops Q (o :: rest) a w := by
  refine wpSeq_val _ w0 hw ?_ h
  subst h0
  unfold execOp
  rw [ho]
  simp only [hx]
  rfl
theorem wpSeq_loadD {ops : Array Oper} {Q : Exit → Act → World → Prop} {rest : List Oper} {o : Oper} {a : Act} {w : World} (x : Operand) (ho : o.op = .load 27 x) (hw : Region.wanted o (yielded ops a.tmps) = true) (b of : Nat) (hx : a.eval x = .pointer (some ⟨b, of, none⟩)) (cs : List Value) (hc : w.rangeAt b of cs) (hi : (Tryd.prog.info? 27).map (·.size) = some cs.length)
    (h : wpList Tryd.prog ops Q rest (a.put o.dst (.agg cs.toArray)) w) : wpList Tryd.prog ops Q (o :: rest) a w :=
  wpSeq_val _ _ hw (load_run 27 x ho b of hx cs _ hc Tryd.underlying27 rfl hi) h
theorem info_digP : (Tryd.prog.info? 27).map (·.size) = some 32 := by kernel_rfl
theorem infoD (d : By) (h : d.length = 32) : (Tryd.prog.info? 27).map (·.size) = some (cb d).length := by rw [cb_len, h]; exact info_digP
theorem Blk.rangeMid {w : World} {g off : Nat} {A B C : List Value} {t : TypeId} (h : Blk w g (A ++ (B ++ C)) t) (ho : A.length = off) : w.rangeAt g off B := by
  subst ho
  intro j v hj
  have hlt : j < B.length := (List.getElem?_eq_some_iff.1 hj).1
  rw [h.cell, List.getElem?_append_right (by omega), Nat.add_sub_cancel_left, List.getElem?_append_left hlt, hj]
def reqV (kd : Int) (nm : List (BitVec 8)) (vk : Value) (au : List (BitVec 8)) : List Value := .int .i64 kd :: .string (strB nm) :: vk :: cb au
theorem reqV_rau {kd : Int} {nm au : List (BitVec 8)} {vk : Value} {w : World} {g : Nat} {t : TypeId} (h : Blk w g (reqV kd nm vk au) t) : w.rangeAt g 3 (cb au) :=
  Blk.rangeMid (A := [.int .i64 kd, .string (strB nm), vk]) (B := cb au) (C := []) (by rw [List.append_nil]; exact h) rfl
theorem wpSeq_boxAt {ops : Array Oper} {Q : Exit → Act → World → Prop} {rest : List Oper} {o : Oper} {a : Act} {w : World} (ty : TypeId) (x : Operand) (ho : o.op = .box ty x) (cs : List Value) (hx : a.eval x = .agg cs.toArray) (hw : Region.wanted o (yielded ops a.tmps) = true) (w0 : World) (h0 : w0 = w.alloc (.cells cs.toArray ty)) {n : Nat} (hn : w.heap.size = n)
    (h : wpList Tryd.prog ops Q rest (a.put o.dst (.pointer (some ⟨n, 0, none⟩))) w0) : wpList Tryd.prog ops Q (o :: rest) a w := by
  subst hn
  exact wpSeq_box ty x ho cs hx hw w0 h0 h
set_option maxRecDepth 100000 in
set_option maxHeartbeats 2000000 in
theorem sameReq_any (ka kb : Int) (ma mb ya yb aa ab : List (BitVec 8)) (va vb : Value) (w : World) (ha : aa.length = 32) (hb : ab.length = 32) (hra : Reads w va ya) (hrb : Reads w vb yb) :
    Calls Tryd.prog 14 #[.agg (reqV ka ma va aa).toArray, .agg (reqV kb mb vb ab).toArray] w fun e w' => e = .returned (.bool (decide (ka = kb ∧ ma = mb ∧ ya = yb ∧ aa = ab))) ∧ Below w.heap.size w w' := by
  have HAA : Hid (aa.length = 32) := ha
  have HAB : Hid (ab.length = 32) := hb
  have HRA : Hid (Reads w va ya) := hra
  have HRB : Hid (Reads w vb yb) := hrb
  obtain ⟨ada, cpa, hva, q1, q2, q3⟩ := hra
  obtain ⟨adb, cpb, hvb, q4, q5, q6⟩ := hrb
  clear q1 q2 q3 q4 q5 q6 ha hb
  obtain ⟨na, HNA⟩ : ∃ m, Hid (m = ya.length) := ⟨_, rfl⟩
  obtain ⟨nb, HNB⟩ : ∃ m, Hid (m = yb.length) := ⟨_, rfl⟩
  rw [← HNA.out] at hva
  rw [← HNB.out] at hvb
  subst hva hvb
  obtain ⟨o, HO⟩ : ∃ o, Hid (o = decide (ka = kb ∧ ma = mb ∧ ya = yb ∧ aa = ab)) := ⟨_, rfl⟩
  rw [← HO.out]
  obtain ⟨ca, HCA⟩ : ∃ c, Hid (c = reqV ka ma (.slice ada na cpa) aa) := ⟨_, rfl⟩
  obtain ⟨cb2, HCB⟩ : ∃ c, Hid (c = reqV kb mb (.slice adb nb cpb) ab) := ⟨_, rfl⟩
  rw [← HCA.out, ← HCB.out]
  obtain ⟨w0, HW0⟩ : ∃ x, Hid (x = w.alloc (.cells ca.toArray 29)) := ⟨_, rfl⟩
  obtain ⟨w1, HW1⟩ : ∃ x, Hid (x = w0.alloc (.cells cb2.toArray 29)) := ⟨_, rfl⟩
  have HZ0 : Hid (w0.heap.size = w.heap.size + 1) := by show _ = _; rw [HW0.out]; simp
  have hB : Below w.heap.size w w1 := by rw [HW1.out, HW0.out]; exact (below_alloc _ _).trans ((below_alloc _ _).mono (by simp))
  have HB : Hid (Below w.heap.size w w1) := hB
  have hBA : Blk w1 w.heap.size (reqV ka ma (.slice ada na cpa) aa) 29 := by rw [HW1.out, HW0.out, ← HCA.out]; exact (Blk.new _ _ _).alloc _
  have hBB : Blk w1 (w.heap.size + 1) (reqV kb mb (.slice adb nb cpb) ab) 29 := by rw [HW1.out, ← HCB.out]; exact Blk.new_at HZ0.out _ _
  have hca := conv_reads (HRA.out.below HB.out)
  have hcb := conv_reads (HRB.out.below HB.out)
  have hs1 := strB_inj ma mb
  have hs2 := strB_inj ya yb
  have c0 : w1.cell? ⟨w.heap.size, 0, none⟩ = some (.int .i64 ka) := hBA.cell 0
  have c1 : w1.cell? ⟨w.heap.size, 1, none⟩ = some (.string (strB ma)) := hBA.cell 1
  have c2 : w1.cell? ⟨w.heap.size, 2, none⟩ = some (.slice ada na cpa) := hBA.cell 2
  have d0 : w1.cell? ⟨w.heap.size + 1, 0, none⟩ = some (.int .i64 kb) := hBB.cell 0
  have d1 : w1.cell? ⟨w.heap.size + 1, 1, none⟩ = some (.string (strB mb)) := hBB.cell 1
  have d2 : w1.cell? ⟨w.heap.size + 1, 2, none⟩ = some (.slice adb nb cpb) := hBB.cell 2
  obtain ⟨xs, HXS⟩ : ∃ c, Hid (c = cb aa) := ⟨_, rfl⟩
  obtain ⟨ys, HYS⟩ : ∃ c, Hid (c = cb ab) := ⟨_, rfl⟩
  have HRX : Hid (w1.rangeAt w.heap.size 3 xs) := by rw [HXS.out]; exact reqV_rau hBA
  have HRY : Hid (w1.rangeAt (w.heap.size + 1) 3 ys) := by rw [HYS.out]; exact reqV_rau hBB
  have HIX : Hid ((Tryd.prog.info? 27).map (·.size) = some xs.length) := by show _ = _; rw [HXS.out]; exact infoD aa HAA.out
  have HIY : Hid ((Tryd.prog.info? 27).map (·.size) = some ys.length) := by show _ = _; rw [HYS.out]; exact infoD ab HAB.out
  have hx : ∀ wx : World, (Op.equalIn 10000 27 (.agg xs.toArray) (.agg ys.toArray)).run Tryd.prog wx = .ok (decide (aa = ab)) wx := fun wx => by rw [HXS.out, HYS.out]; exact eq_dig aa ab HAA.out HAB.out wx
  clear hB hBA hBB
  by_cases h1 : ka = kb
  · have e1 : (ka == kb) = true := by simp [h1]
    by_cases h2 : ma = mb
    · rw [decide_eq_true h2] at hs1
      by_cases h3 : ya = yb
      · rw [decide_eq_true h3] at hs2
        by_cases h4 : aa = ab
        · rw [decide_eq_true h4] at hx
          have ho : o = true := by rw [HO.out]; first | exact decide_eq_true ⟨by assumption, by assumption, by assumption, by assumption⟩ | exact decide_eq_true ⟨by assumption, by assumption⟩ | exact decide_eq_false (fun hh => by simp_all)
          subst ho
          clear HO
          go_enter Tryd.func14, Tryd.ntmps14
          go_wp2_with (first
            | (with_reducible refine wpSeq_box 29 (.tmp 0) ?_ ca ?_ ?_ w0 ?_ ?_
               · rfl
               · rfl
               · rfl
               · exact HW0.out
               clear HW0)
            | (with_reducible refine wpSeq_boxAt 29 (.tmp 1) ?_ cb2 ?_ ?_ w1 ?_ HZ0.out ?_
               · rfl
               · rfl
               · rfl
               · exact HW1.out
               clear HW1)
            | (with_reducible refine wpSeq_loadD (.tmp 27) ?_ ?_ w.heap.size 3 ?_ xs HRX.out HIX.out ?_
               · rfl
               · rfl
               · rfl)
            | (with_reducible refine wpSeq_loadD (.tmp 29) ?_ ?_ (w.heap.size + 1) 3 ?_ ys HRY.out HIY.out ?_
               · rfl
               · rfl
               · rfl))
          go_ret
          exact ⟨by first | rfl | simp, HB.out⟩
        · rw [decide_eq_false h4] at hx
          have ho : o = false := by rw [HO.out]; first | exact decide_eq_true ⟨by assumption, by assumption, by assumption, by assumption⟩ | exact decide_eq_true ⟨by assumption, by assumption⟩ | exact decide_eq_false (fun hh => by simp_all)
          subst ho
          clear HO
          go_enter Tryd.func14, Tryd.ntmps14
          go_wp2_with (first
            | (with_reducible refine wpSeq_box 29 (.tmp 0) ?_ ca ?_ ?_ w0 ?_ ?_
               · rfl
               · rfl
               · rfl
               · exact HW0.out
               clear HW0)
            | (with_reducible refine wpSeq_boxAt 29 (.tmp 1) ?_ cb2 ?_ ?_ w1 ?_ HZ0.out ?_
               · rfl
               · rfl
               · rfl
               · exact HW1.out
               clear HW1)
            | (with_reducible refine wpSeq_loadD (.tmp 27) ?_ ?_ w.heap.size 3 ?_ xs HRX.out HIX.out ?_
               · rfl
               · rfl
               · rfl)
            | (with_reducible refine wpSeq_loadD (.tmp 29) ?_ ?_ (w.heap.size + 1) 3 ?_ ys HRY.out HIY.out ?_
               · rfl
               · rfl
               · rfl))
          go_ret
          exact ⟨by first | rfl | simp, HB.out⟩
      · rw [decide_eq_false h3] at hs2
        have ho : o = false := by rw [HO.out]; first | exact decide_eq_true ⟨by assumption, by assumption, by assumption, by assumption⟩ | exact decide_eq_true ⟨by assumption, by assumption⟩ | exact decide_eq_false (fun hh => by simp_all)
        subst ho
        clear HO
        go_enter Tryd.func14, Tryd.ntmps14
        go_wp2_with (first
          | (with_reducible refine wpSeq_box 29 (.tmp 0) ?_ ca ?_ ?_ w0 ?_ ?_
             · rfl
             · rfl
             · rfl
             · exact HW0.out
             clear HW0)
          | (with_reducible refine wpSeq_boxAt 29 (.tmp 1) ?_ cb2 ?_ ?_ w1 ?_ HZ0.out ?_
             · rfl
             · rfl
             · rfl
             · exact HW1.out
             clear HW1)
          | (with_reducible refine wpSeq_loadD (.tmp 27) ?_ ?_ w.heap.size 3 ?_ xs HRX.out HIX.out ?_
             · rfl
             · rfl
             · rfl)
          | (with_reducible refine wpSeq_loadD (.tmp 29) ?_ ?_ (w.heap.size + 1) 3 ?_ ys HRY.out HIY.out ?_
             · rfl
             · rfl
             · rfl))
        go_ret
        exact ⟨by first | rfl | simp, HB.out⟩
    · rw [decide_eq_false h2] at hs1
      have ho : o = false := by rw [HO.out]; first | exact decide_eq_true ⟨by assumption, by assumption, by assumption, by assumption⟩ | exact decide_eq_true ⟨by assumption, by assumption⟩ | exact decide_eq_false (fun hh => by simp_all)
      subst ho
      clear HO
      go_enter Tryd.func14, Tryd.ntmps14
      go_wp2_with (first
        | (with_reducible refine wpSeq_box 29 (.tmp 0) ?_ ca ?_ ?_ w0 ?_ ?_
           · rfl
           · rfl
           · rfl
           · exact HW0.out
           clear HW0)
        | (with_reducible refine wpSeq_boxAt 29 (.tmp 1) ?_ cb2 ?_ ?_ w1 ?_ HZ0.out ?_
           · rfl
           · rfl
           · rfl
           · exact HW1.out
           clear HW1)
        | (with_reducible refine wpSeq_loadD (.tmp 27) ?_ ?_ w.heap.size 3 ?_ xs HRX.out HIX.out ?_
           · rfl
           · rfl
           · rfl)
        | (with_reducible refine wpSeq_loadD (.tmp 29) ?_ ?_ (w.heap.size + 1) 3 ?_ ys HRY.out HIY.out ?_
           · rfl
           · rfl
           · rfl))
      go_ret
      exact ⟨by first | rfl | simp, HB.out⟩
  · have e1 : (ka == kb) = false := by simp [h1]
    have ho : o = false := by rw [HO.out]; first | exact decide_eq_true ⟨by assumption, by assumption, by assumption, by assumption⟩ | exact decide_eq_true ⟨by assumption, by assumption⟩ | exact decide_eq_false (fun hh => by simp_all)
    subst ho
    clear HO
    go_enter Tryd.func14, Tryd.ntmps14
    go_wp2_with (first
      | (with_reducible refine wpSeq_box 29 (.tmp 0) ?_ ca ?_ ?_ w0 ?_ ?_
         · rfl
         · rfl
         · rfl
         · exact HW0.out
         clear HW0)
      | (with_reducible refine wpSeq_boxAt 29 (.tmp 1) ?_ cb2 ?_ ?_ w1 ?_ HZ0.out ?_
         · rfl
         · rfl
         · rfl
         · exact HW1.out
         clear HW1)
      | (with_reducible refine wpSeq_loadD (.tmp 27) ?_ ?_ w.heap.size 3 ?_ xs HRX.out HIX.out ?_
         · rfl
         · rfl
         · rfl)
      | (with_reducible refine wpSeq_loadD (.tmp 29) ?_ ?_ (w.heap.size + 1) 3 ?_ ys HRY.out HIY.out ?_
         · rfl
         · rfl
         · rfl))
    go_ret
    exact ⟨by first | rfl | simp, HB.out⟩

theorem fold_set (off : Nat) : ∀ (vs B A C : List Value) (k : Nat), A.length = off + k → B.length = vs.length → (vs.zipIdx k).foldl (fun (cs : Array Value) (p : Value × Nat) => cs.setIfInBounds (off + p.2) p.1) (A ++ (B ++ C)).toArray = (A ++ (vs ++ C)).toArray
  | [], B, A, C, k, _, hB => by
    obtain rfl : B = [] := List.length_eq_zero_iff.1 hB
    rfl
  | v :: vs, [], A, C, k, _, hB => by simp at hB
  | v :: vs, b :: B, A, C, k, hA, hB => by
    rw [List.zipIdx_cons, List.foldl_cons]
    have e : (A ++ (b :: B ++ C)).toArray.setIfInBounds (off + k) v = ((A ++ [v]) ++ (B ++ C)).toArray := by
      rw [List.setIfInBounds_toArray, ← hA]
      congr 1
      rw [List.set_append_right _ _ (Nat.le_refl _), Nat.sub_self]
      simp
    rw [e, fold_set off vs B (A ++ [v]) C (k + 1) (by rw [List.length_append, hA]; rfl) (by simpa using hB)]
    simp
theorem fill_seg {place : Nat → Option (Nat × Nat)} {A B C vs : List Value} {i off size : Nat} {rest : List (Nat × Value)} {v : Value} (hp : place i = some (off, size)) (hA : A.length = off) (hB : B.length = size) (hv : v.cells = vs.toArray) (hvl : vs.length = size) :
    Instr.fill place (A ++ (B ++ C)).toArray ((i, v) :: rest) = Instr.fill place (A ++ (vs ++ C)).toArray rest := by
  have h1 : v.cells.size = size := by rw [hv, List.size_toArray, hvl]
  have h2 : (A ++ (B ++ C)).toArray.size = off + size + C.length := by simp [hA, hB]; omega
  rw [Instr.fill, hp]
  simp only [h1, h2]
  rw [if_neg (by simp)]
  congr 1
  rw [hv, ← fold_set off vs B A C 0 (by omega) (by omega), ← Array.foldl_toList, Array.toList_zipIdx]
/-- a literal's value, out of what it is built of -/
theorem build_op (f : Operand → Value) (o : Oper) (t : TypeId) (ps : List (Nat × Operand)) (ho : o.op = .build t ps.toArray) (cells : Array Value) (h : Tryd.prog.built t (ps.map fun p => (p.1, f p.2)) = some cells) (w : World) : (execOp f o).run Tryd.prog w = .ok (.value (.agg cells)) w := by
  unfold execOp
  rw [ho]
  have hm : (ps.toArray.map fun (p : Nat × Operand) => (p.1, f p.2)) = (ps.map fun p => (p.1, f p.2)).toArray := by simp
  have hr := run_build (P := Tryd.prog) w t (ps.map fun p => (p.1, f p.2)).toArray cells (by simpa using h)
  simp only [hm, Sem.run_bind, hr, Result.andThen_ok, Sem.run_pure]
theorem wpSeq_build {ops : Array Oper} {Q : Exit → Act → World → Prop} {rest : List Oper} {o : Oper} {a : Act} {w : World} (t : TypeId) (ps : List (Nat × Operand)) (cells : List Value) (h1 : Tryd.prog.built t (ps.map fun p => (p.1, a.eval p.2)) = some cells.toArray) (ho : o.op = .build t ps.toArray) (hw : Region.wanted o (yielded ops a.tmps) = true)
    (h : wpList Tryd.prog ops Q rest (a.put o.dst (.agg cells.toArray)) w) : wpList Tryd.prog ops Q (o :: rest) a w :=
  wpSeq_val _ _ hw (build_op a.eval o t ps ho cells.toArray h1 w) h
/-- a new block -/
structure NewR (cs : List Value) (t : TypeId) (w : World) (g : Nat) (w' : World) : Prop where
  ge : w.heap.size ≤ g
  blk : Blk w' g cs t
  below : Below w.heap.size w w'
theorem NewR.of (cs : List Value) (t : TypeId) (w : World) : NewR cs t w w.heap.size (w.alloc (.cells cs.toArray t)) := ⟨Nat.le_refl _, Blk.new w cs t, below_alloc w _⟩
theorem wpSeq_boxW {ops : Array Oper} {Q : Exit → Act → World → Prop} {rest : List Oper} {o : Oper} {a : Act} {w : World} (ty : TypeId) (x : Operand) (cs : List Value) (ho : o.op = .box ty x) (hx : a.eval x = .agg cs.toArray) (hw : Region.wanted o (yielded ops a.tmps) = true)
    (h : ∀ g w', NewR cs ty w g w' → wpList Tryd.prog ops Q rest (a.put o.dst (.pointer (some ⟨g, 0, none⟩))) w') : wpList Tryd.prog ops Q (o :: rest) a w :=
  wpSeq_box ty x ho cs hx hw _ rfl (h _ _ (NewR.of cs ty w))
/-- a row stored whole -/
structure SetR (cs : List Value) (t : TypeId) (w : World) (g : Nat) (w' : World) : Prop where
  blk : Blk w' g cs t
  only : Only g w w'
theorem SetR.of {cs ns : List Value} {t : TypeId} {w : World} {g : Nat} (hb : Blk w g cs t) (hl : ns.length = cs.length) : SetR ns t w g (w.setCells g 0 ns) := ⟨hb.whole ns hl, Only.setCells _ _ _ (Only.refl g w)⟩
theorem wpSeq_storeRow {ops : Array Oper} {Q : Exit → Act → World → Prop} {rest : List Oper} {o : Oper} {a : Act} {w : World} (ty : TypeId) (x y : Operand) (g : Nat) (cs ns : List Value) (hb : Blk w g cs ty) (hl : ns.length = cs.length) (hi : (Tryd.prog.info? ty).map (·.size) = some ns.length) (h1 : ∀ v ∈ ns, v.oneCell' = true)
    (ho : o.op = .store ty x y) (hx : a.eval x = .pointer (some ⟨g, 0, none⟩)) (hy : a.eval y = .agg ns.toArray) (hgd : o.guard = none)
    (h : ∀ w', SetR ns ty w g w' → wpList Tryd.prog ops Q rest (a.put o.dst undef) w') : wpList Tryd.prog ops Q (o :: rest) a w :=
  wpList_store_mid hgd ty x y ho g 0 _ hx hy (hb.there 0 _ (by rw [List.size_toArray, hl]; omega)) (by rw [List.size_toArray]; exact hi) (all_oneCell_toArray h1)
    (by rw [List.toList_toArray]; exact h _ (SetR.of hb hl))
/-- a row loaded whole, from wherever it lies -/
theorem wpSeq_loadW {ops : Array Oper} {Q : Exit → Act → World → Prop} {rest : List Oper} {o : Oper} {a : Act} {w : World} (ty : TypeId) (x : Operand) (b off : Nat) (cs : List Value) (d : TypeDesc) (hb : w.rangeAt b off cs) (hu : Tryd.prog.underlying ty = some d) (hd : d.isRow = true) (hi : (Tryd.prog.info? ty).map (·.size) = some cs.length) (ho : o.op = .load ty x) (hx : a.eval x = .pointer (some ⟨b, off, none⟩)) (hw : Region.wanted o (yielded ops a.tmps) = true)
    (h : wpList Tryd.prog ops Q rest (a.put o.dst (.agg cs.toArray)) w) : wpList Tryd.prog ops Q (o :: rest) a w :=
  wpSeq_val _ _ hw (load_run ty x ho b off hx cs d hb hu hd hi) h
theorem wpAnyH_law {P : Program} {md : Region.Mode} {ops : Array Oper} {Q : Exit → Act → World → Prop} {S : World → Prop} {fuel : Nat} {listed : Array Bool} {a : Act} {w : World} (i : Nat) {oi : Oper}
    (hr : Region.ready md ops listed = [i]) (hi : ops[i]? = some oi) (hw : Region.wanted oi (yielded ops a.tmps) = true)
    (h : Oper.wp P oi a w (fun a' w' => S w' ∧ wpAnyH P md ops Q S fuel (listed.setIfInBounds i true) a' w') Q) : wpAnyH P md ops Q S (fuel + 1) listed a w := by
  refine wpAnyH_all hr (by simp) (fun j hj => ?_)
  obtain rfl : j = i := by simpa using hj
  unfold wpOp
  rw [hi]
  simp only [hw, if_true]
  exact Or.inl h
theorem wpAnyH_storeRow {md : Region.Mode} {ops : Array Oper} {Q : Exit → Act → World → Prop} {S : World → Prop} {fuel : Nat} {listed : Array Bool} {a : Act} {w : World} (i : Nat) {oi : Oper} (ty : TypeId) (x y : Operand) (g : Nat) (cs ns : List Value) (hb : Blk w g cs ty) (hl : ns.length = cs.length) (hi0 : (Tryd.prog.info? ty).map (·.size) = some ns.length) (h1 : ∀ v ∈ ns, v.oneCell' = true)
    (hr : Region.ready md ops listed = [i]) (hi : ops[i]? = some oi) (hw : Region.wanted oi (yielded ops a.tmps) = true) (ho : oi.op = .store ty x y) (hx : a.eval x = .pointer (some ⟨g, 0, none⟩)) (hy : a.eval y = .agg ns.toArray)
    (h : ∀ w', SetR ns ty w g w' → S w' ∧ wpAnyH Tryd.prog md ops Q S fuel (listed.setIfInBounds i true) (a.put oi.dst undef) w') : wpAnyH Tryd.prog md ops Q S (fuel + 1) listed a w :=
  wpAnyH_law i hr hi hw (wp_store_mid ty x y ho g 0 ns.toArray hx hy (hb.there 0 _ (by rw [List.size_toArray, hl]; omega)) (by rw [List.size_toArray]; exact hi0) (all_oneCell_toArray h1) (by rw [List.toList_toArray]; exact h _ (SetR.of hb hl)))
theorem results_row_tmp {fn : Func} {p u : Tmp} {ty : TypeId} (h : fn.results = #[.cell p ty, .tmp u]) (tmps : Array Value) (w : World) (g : Nat) (v : Value) (hp : tmps.getD p undef = .pointer (some ⟨g, 0, none⟩)) (e1 : (loadVar ty ⟨g, 0, none⟩).run Tryd.prog w = .ok v w) :
    (results fn tmps).run Tryd.prog w = .ok (.tuple #[v, tmps.getD u undef]) w := by
  have hp' : tmps[p]?.getD undef = .pointer (some ⟨g, 0, none⟩) := by simpa using hp
  simp [results, h, hp', asAddr, e1]
theorem results_tmp2 {fn : Func} {u0 u1 : Tmp} (h : fn.results = #[.tmp u0, .tmp u1]) (tmps : Array Value) (P : Program) (w : World) : (results fn tmps).run P w = .ok (.tuple #[tmps.getD u0 undef, tmps.getD u1 undef]) w := by
  simp [results, h, go_sem]
theorem len_zd {d : By} (h : d.length = 32) : (cb d).length = (cb zb32).length := by rw [cb_len, cb_len, h]; rfl
theorem OwnB.sameP {w w' : World} {base : Nat} {v : Value} {l : By} (h : OwnB w base v l) (hs : ∀ k, v.ownBlock = some k → w'.heap[k]? = w.heap[k]?) : OwnB w' base v l := by
  rcases h with ⟨h1, ⟨rfl, h2⟩ | ⟨g, cap, cur, rfl, hg, hh, h3⟩⟩
  · exact ⟨h1, Or.inl ⟨rfl, h2⟩⟩
  · exact ⟨h1, Or.inr ⟨g, cap, cur, rfl, hg, by rw [hs g rfl]; exact hh, h3⟩⟩
theorem OwnB.ltP {w : World} {base : Nat} {v : Value} {l : By} (h : OwnB w base v l) : ∀ k, v.ownBlock = some k → base ≤ k ∧ k < w.heap.size := World.ownsRow.lt h
theorem OwnB.next {w w' : World} {base : Nat} {v : Value} {l : By} (h : OwnB w base v l) (hb : Below w.heap.size w w') : OwnB w' base v l := h.sameP fun k hk => hb.block k (h.ltP k hk).2
theorem OwnB.formP {w : World} {base : Nat} {v : Value} {l : By} (h : OwnB w base v l) : ∃ a c, v = .slice a l.length c := by
  rcases h with ⟨_, ⟨rfl, h2⟩ | ⟨g', cap, cur, rfl, _⟩⟩
  · exact ⟨none, 0, by rw [h2]⟩
  · exact ⟨_, _, rfl⟩
theorem OwnB.ne_blk {w : World} {base g : Nat} {v : Value} {l : By} {cs : List Value} {t : TypeId} (h : OwnB w base v l) (hb : Blk w g cs t) (ht : t ≠ 5) : v.ownBlock ≠ some g := by
  obtain ⟨_, h2⟩ := h
  intro hk
  rcases h2 with ⟨rfl, _⟩ | ⟨g2, cap, cur, rfl, hg, hh, _⟩
  · simp [Value.ownBlock] at hk
  · simp only [Value.ownBlock, Option.some.injEq] at hk
    subst hk
    unfold Blk at hb
    rw [hh] at hb
    simp only [Option.some.injEq, Obj.cells.injEq] at hb
    exact ht hb.2.1.symm
theorem OwnB.zero9 (w : World) (base g : Nat) (hg : base ≤ g) (h : Blk w g [] 5) : OwnB w base (.slice (some ⟨g, 0, none⟩) 0 0) [] :=
  ⟨by simp [cb], Or.inr ⟨g, 0, #[], rfl, hg, h, Nat.le_refl _, by unfold maxLen; omega, rfl, rfl⟩⟩
set_option maxRecDepth 100000 in
set_option maxHeartbeats 4000000 in
theorem bclone_any (v : Value) (l : List (BitVec 8)) (w : World) (h : Reads w v l) (hl : l.length ≤ 140737488355328) :
    Calls Tryd.prog 19 #[v] w fun e w' => ∃ v', e = .returned v' ∧ OwnB w' w.heap.size v' l ∧ Below w.heap.size w w' := by
  have HR : Hid (Reads w v l) := h
  have HL : Hid (l.length ≤ 140737488355328) := hl
  obtain ⟨ad, cap, rfl, _, hn, hx⟩ := h
  cases ad with
  | none =>
    have h0 : l = [] := by
      cases l with
      | nil => rfl
      | cons b r => obtain ⟨b, off, h1, _⟩ := hx (by simp); cases h1
    subst h0
    have := hn rfl
    subst this
    clear hx hn hl
    have hnil : ∀ (a : Option Addr) (n c : Nat) (w : World), (binOp .eql 22 (.slice a n c) (.slice none 0 0)).run Tryd.prog w = .ok (.bool a.isNone) w := fun a n c w => Lib.run_eql_slice_nil w 22 5 a n c 0 0 Tryd.underlying22
    go_enter Tryd.func19, Tryd.ntmps19
    go_wp2
    go_ret
    exact ⟨_, rfl, OwnB.nil _ _, Below.refl _ _⟩
  | some ad =>
    clear hx hn hl
    obtain ⟨m, HM⟩ : ∃ m, Hid (m = l.length) := ⟨_, rfl⟩
    rw [← HM.out] at HR ⊢
    have HB := below_alloc w (.cells ([] : List Value).toArray 5)
    have HO : Hid (OwnB (w.alloc (.cells ([] : List Value).toArray 5)) w.heap.size (.slice (some ⟨w.heap.size, 0, none⟩) 0 0) []) := OwnB.zero9 _ _ _ (Nat.le_refl _) (Blk.new w [] 5)
    have HR1 : Hid (Reads (w.alloc (.cells ([] : List Value).toArray 5)) (.slice (some ad) m cap) l) := HR.out.below HB
    have HBB : Hid (Below w.heap.size w (w.alloc (.cells ([] : List Value).toArray 5))) := HB
    clear HB
    have hnil : ∀ (a : Option Addr) (n c : Nat) (w : World), (binOp .eql 22 (.slice a n c) (.slice none 0 0)).run Tryd.prog w = .ok (.bool a.isNone) w := fun a n c w => Lib.run_eql_slice_nil w 22 5 a n c 0 0 Tryd.underlying22
    go_enter Tryd.func19, Tryd.ntmps19
    go_wp2_with (at_builtin; refine wpList_appendB rfl (.tmp 5) (.tmp 6) rfl w.heap.size _ [] rfl HO.out _ l rfl HR1.out (by have := HL.out; simp; omega) HBB.out.size ?_; intro v2 w2 hown2 hb2 _)
    have hB2 := HBB.out.trans hb2
    go_wp2
    go_ret
    exact ⟨_, rfl, hown2, hB2⟩
/-- one cell of a row stored -/
theorem wpSeq_cellU {ops : Array Oper} {Q : Exit → Act → World → Prop} {rest : List Oper} {o : Oper} {a : Act} {w : World} (x y : Operand) (g k : Nat) (cs : List Value) (n : Int) (tb : TypeId) (hk : k < cs.length) (hb : Blk w g cs tb) (ho : o.op = .store 23 x y) (hx : a.eval x = .pointer (some ⟨g, k, none⟩)) (hy : a.eval y = .int .u64 n) (hw : Region.wanted o (yielded ops a.tmps) = true)
    (h : ∀ w', Blk w' g (cs.set k (.int .u64 n)) tb → Only g w w' → wpList Tryd.prog ops Q rest (a.put o.dst undef) w') : wpList Tryd.prog ops Q (o :: rest) a w := by
  have hc : w.cell? ⟨g, k, none⟩ = some cs[k] := by rw [hb.cell, List.getElem?_eq_getElem hk]
  have hf : w.frozen? ⟨g, k, none⟩ = false := hb.frozen k
  have he : (execOp a.eval o).run Tryd.prog w = .ok .skip (w.setCell ⟨g, k, none⟩ (.int .u64 n)) := by
    clear h hw
    generalize a.eval = f at hx hy ⊢
    unfold execOp
    rw [ho]
    simp [go_sem, hx, hy, hc, hf]
  unfold wpList
  simp only [hw, if_true]
  left
  unfold Oper.wp
  rw [he, Oper.upon_skip]
  exact h _ (hb.set k _) (Only.setCell (Only.refl g w) k _)
/-- the cells of a binding -/
def bcl (nm : By) (v : Value) (sr : Nat) : List Value := [.string (strB nm), v, .int .u64 (sr : Int)]
theorem info_bind : (Tryd.prog.info? 25).map (·.size) = some 3 := by kernel_rfl
theorem info_req : (Tryd.prog.info? 29).map (·.size) = some 35 := by kernel_rfl
theorem info_bcl {nm : By} {v : Value} {sr : Nat} : (Tryd.prog.info? 25).map (·.size) = some (bcl nm v sr).length := info_bind
theorem len_bcl {nm nm2 : By} {v v2 : Value} {sr sr2 : Nat} : (bcl nm v sr).length = (bcl nm2 v2 sr2).length := rfl
theorem bcl_two {nm : By} {v : Value} {sr : Nat} : 2 < (bcl nm v sr).length := by simp [bcl]
theorem len_req {kd : Int} {nm au : By} {v : Value} (ha : au.length = 32) : (reqV kd nm v au).length = 35 := by simp [reqV, cb_len, ha]
theorem info_reqV {kd : Int} {nm au : By} {v : Value} (ha : au.length = 32) : (Tryd.prog.info? 29).map (·.size) = some (reqV kd nm v au).length := by rw [len_req ha]; exact info_req
theorem reqV_one {kd : Int} {nm au : By} {ad : Option Addr} {n c : Nat} : ∀ v ∈ reqV kd nm (.slice ad n c) au, v.oneCell' = true := by
  intro v hv
  simp only [reqV, List.mem_cons] at hv
  rcases hv with rfl | rfl | rfl | hv
  · rfl
  · rfl
  · rfl
  · exact cb_one _ v hv
theorem bcl_one {nm : By} {sr : Nat} {ad : Option Addr} {n c : Nat} : ∀ v ∈ bcl nm (.slice ad n c) sr, v.oneCell' = true := by
  intro v hv
  simp only [bcl, List.mem_cons, List.not_mem_nil, or_false] at hv
  rcases hv with rfl | rfl | rfl <;> rfl
def rqPl (i : Nat) : Option (Nat × Nat) := (#[(0, 1), (1, 1), (2, 1), (3, 32)] : Array (Nat × Nat))[i]?
theorem built_rq (parts : List (Nat × Value)) : Tryd.prog.built 29 parts = Instr.fill rqPl (reqV 0 [] (.slice none 0 0) zb32).toArray parts := by kernel_rfl
theorem fill_rq {kd : Int} {nm au : By} {ad : Option Addr} {n c : Nat} (ha : au.length = 32) : Instr.fill rqPl (reqV 0 [] (.slice none 0 0) zb32).toArray [(0, .int .i64 kd), (1, .string (strB nm)), (2, .slice ad n c), (3, .agg (cb au).toArray)] = some (reqV kd nm (.slice ad n c) au).toArray := by
  have e0 : reqV 0 [] (.slice none 0 0) zb32 = [] ++ ([Value.int .i64 0] ++ (Value.string (strB []) :: Value.slice none 0 0 :: cb zb32)) := rfl
  rw [e0, fill_seg (vs := [.int .i64 kd]) (size := 1) (by rfl) rfl rfl rfl rfl]
  have e1 : [] ++ ([Value.int .i64 kd] ++ (Value.string (strB []) :: Value.slice none 0 0 :: cb zb32)) = [Value.int .i64 kd] ++ ([Value.string (strB [])] ++ (Value.slice none 0 0 :: cb zb32)) := rfl
  rw [e1, fill_seg (vs := [.string (strB nm)]) (off := 1) (size := 1) (by rfl) rfl rfl rfl rfl]
  have e2 : [Value.int .i64 kd] ++ ([Value.string (strB nm)] ++ (Value.slice none 0 0 :: cb zb32)) = [Value.int .i64 kd, .string (strB nm)] ++ ([Value.slice none 0 0] ++ cb zb32) := rfl
  rw [e2, fill_seg (vs := [.slice ad n c]) (off := 2) (size := 1) (by rfl) rfl rfl rfl rfl]
  have e3 : [Value.int .i64 kd, .string (strB nm)] ++ ([Value.slice ad n c] ++ cb zb32) = [Value.int .i64 kd, .string (strB nm), .slice ad n c] ++ (cb zb32 ++ []) := by simp
  rw [e3, fill_seg (vs := cb au) (off := 3) (size := 32) (by rfl) rfl (by rw [cb_len]; rfl) rfl (by rw [cb_len, ha])]
  rw [Instr.fill]
  simp [reqV]
theorem fill_rq3 {kd : Int} {nm : By} {ad : Option Addr} {n c : Nat} : Instr.fill rqPl (reqV 0 [] (.slice none 0 0) zb32).toArray [(0, .int .i64 kd), (1, .string (strB nm)), (2, .slice ad n c)] = some (reqV kd nm (.slice ad n c) zb32).toArray := by
  have e0 : reqV 0 [] (.slice none 0 0) zb32 = [] ++ ([Value.int .i64 0] ++ (Value.string (strB []) :: Value.slice none 0 0 :: cb zb32)) := rfl
  rw [e0, fill_seg (vs := [.int .i64 kd]) (size := 1) (by rfl) rfl rfl rfl rfl]
  have e1 : [] ++ ([Value.int .i64 kd] ++ (Value.string (strB []) :: Value.slice none 0 0 :: cb zb32)) = [Value.int .i64 kd] ++ ([Value.string (strB [])] ++ (Value.slice none 0 0 :: cb zb32)) := rfl
  rw [e1, fill_seg (vs := [.string (strB nm)]) (off := 1) (size := 1) (by rfl) rfl rfl rfl rfl]
  have e2 : [Value.int .i64 kd] ++ ([Value.string (strB nm)] ++ (Value.slice none 0 0 :: cb zb32)) = [Value.int .i64 kd, .string (strB nm)] ++ ([Value.slice none 0 0] ++ cb zb32) := rfl
  rw [e2, fill_seg (vs := [.slice ad n c]) (off := 2) (size := 1) (by rfl) rfl rfl rfl rfl]
  rw [Instr.fill]
  rfl
/-- the digest of noughts, as it is built -/
theorem wpSeq_build0 {ops : Array Oper} {Q : Exit → Act → World → Prop} {rest : List Oper} {o : Oper} {a : Act} {w : World} (ho : o.op = .build 27 #[]) (hw : Region.wanted o (yielded ops a.tmps) = true)
    (h : ∀ zs, Hid (zs = cb zb32) → wpList Tryd.prog ops Q rest (a.put o.dst (.agg zs.toArray)) w) : wpList Tryd.prog ops Q (o :: rest) a w :=
  wpSeq_val _ _ hw (by unfold execOp; rw [ho]; kernel_rfl) (h _ rfl)
theorem alloc_bind (f : Operand → Value) (o : Oper) (ho : o.op = .alloc 25) (w : World) : (execOp f o).run Tryd.prog w = .ok (.value (.pointer (some ⟨w.heap.size, 0, none⟩))) (w.alloc (.cells (bcl [] (.slice none 0 0) 0).toArray 25)) := by
  unfold execOp
  rw [ho]
  kernel_rfl
theorem alloc_req (f : Operand → Value) (o : Oper) (ho : o.op = .alloc 29) (w : World) : (execOp f o).run Tryd.prog w = .ok (.value (.pointer (some ⟨w.heap.size, 0, none⟩))) (w.alloc (.cells (reqV 0 [] (.slice none 0 0) zb32).toArray 29)) := by
  unfold execOp
  rw [ho]
  kernel_rfl
theorem wpSeq_allocB {ops : Array Oper} {Q : Exit → Act → World → Prop} {rest : List Oper} {o : Oper} {a : Act} {w : World} (ho : o.op = .alloc 25) (hw : Region.wanted o (yielded ops a.tmps) = true)
    (h : ∀ g w', NewR (bcl [] (.slice none 0 0) 0) 25 w g w' → wpList Tryd.prog ops Q rest (a.put o.dst (.pointer (some ⟨g, 0, none⟩))) w') : wpList Tryd.prog ops Q (o :: rest) a w :=
  wpSeq_val _ _ hw (alloc_bind _ _ ho _) (h _ _ (NewR.of _ _ w))
theorem wpSeq_allocR {ops : Array Oper} {Q : Exit → Act → World → Prop} {rest : List Oper} {o : Oper} {a : Act} {w : World} (ho : o.op = .alloc 29) (hw : Region.wanted o (yielded ops a.tmps) = true)
    (h : ∀ g w', NewR (reqV 0 [] (.slice none 0 0) zb32) 29 w g w' → wpList Tryd.prog ops Q rest (a.put o.dst (.pointer (some ⟨g, 0, none⟩))) w') : wpList Tryd.prog ops Q (o :: rest) a w :=
  wpSeq_val _ _ hw (alloc_req _ _ ho _) (h _ _ (NewR.of _ _ w))
theorem wpSeq_allocD {ops : Array Oper} {Q : Exit → Act → World → Prop} {rest : List Oper} {o : Oper} {a : Act} {w : World} (ho : o.op = .alloc 27) (hw : Region.wanted o (yielded ops a.tmps) = true)
    (h : ∀ g w', NewR (cb zb32) 27 w g w' → wpList Tryd.prog ops Q rest (a.put o.dst (.pointer (some ⟨g, 0, none⟩))) w') : wpList Tryd.prog ops Q (o :: rest) a w :=
  wpSeq_val _ _ hw (by unfold execOp; rw [ho]; kernel_rfl) (h _ _ (NewR.of _ _ w))
theorem Reads.sliceP {w : World} {v : Value} {l : By} (h : Reads w v l) : ∃ a c, v = .slice a l.length c := by
  obtain ⟨a, c, e, _⟩ := h
  exact ⟨a, c, e⟩
theorem var_bind {w : World} {g : Nat} {nm : By} {v : Value} {sr : Nat} (hb : Blk w g (bcl nm v sr) 25) : (loadVar 25 ⟨g, 0, none⟩).run Tryd.prog w = .ok (.agg (bcl nm v sr).toArray) w :=
  run_loadVar_row (P := Tryd.prog) w g 25 25 (bcl nm v sr).toArray (0, 0) _ hb Tryd.underlying25 rfl (by exact info_bind)
/-- a binding and a request in memory, as a call boxes them -/
structure BqI (w : World) (bn : By) (vb : Value) (bs : Nat) (qk : Int) (qn : By) (vk : Value) (au : By) (g h : Nat) (W : World) : Prop where
  b : Blk W g (bcl bn vb bs) 25
  q : Blk W h (reqV qk qn vk au) 29
  bel : Below w.heap.size w W
  ge : w.heap.size ≤ g ∧ w.heap.size ≤ h
theorem BqI.next {w W W' : World} {bn qn au : By} {vb vk : Value} {bs g h : Nat} {qk : Int} (I : BqI w bn vb bs qk qn vk au g h W) {B : Nat} (hb : Below B W W') (hB : g < B ∧ h < B) (hw : w.heap.size ≤ B) : BqI w bn vb bs qk qn vk au g h W' :=
  ⟨I.b.below hb hB.1, I.q.below hb hB.2, I.bel.trans (hb.mono hw), I.ge⟩
theorem BqI.more {w W W' : World} {bn qn au : By} {vb vk : Value} {bs g h : Nat} {qk : Int} (I : BqI w bn vb bs qk qn vk au g h W) (hb : Below W.heap.size W W') : BqI w bn vb bs qk qn vk au g h W' :=
  I.next hb ⟨I.b.lt, I.q.lt⟩ I.bel.size
end Go.Proofs.YtmkjcgjbhibnpaaDoor
/- What a request makes of a binding, plainly (layer 19). -/
namespace Go.Proofs.YtmkjcgjbhibnpaaDoor
open Go.RowKit
set_option maxRecDepth 100000
/-- what is asked of requests of both kinds -/
def pcE (bn : By) (th : Bool) (qk : Int) (qn qy : By) : Int :=
  if qk ≠ 1 ∧ qk ≠ 2 then 1 else if chk qn qy ≠ 0 then chk qn qy else if th = true ∧ bn ≠ qn then 1 else 0
def rgE (th : Bool) (au : By) : Int × Nat := if th = true then (6, 0) else if au = zb32 then (0, 1) else (8, 0)
def cgE (bk bn : By) (bs : Nat) (th : Bool) (qy au : By) : Int × Nat :=
  if th = false then (7, 0) else if bs = 18446744073709551615 then (12, 0) else if au = hmac bk (authB bn (bs + 1) qy) then (0, bs + 1) else (8, 0)
/-- the error, and the number -/
def nxE (bn bk : By) (bs : Nat) (th : Bool) (qk : Int) (qn qy au : By) : Int × Nat :=
  if pcE bn th qk qn qy ≠ 0 then (pcE bn th qk qn qy, 0) else if qk = 1 then rgE th au else cgE bk bn bs th qy au
theorem chk_in (nm ky : By) : chk nm ky = 0 ∨ chk nm ky = 4 ∨ chk nm ky = 5 := by unfold chk; split; split <;> simp; simp
theorem chk_len {nm ky : By} (h : chk nm ky = 0) : nm.length ≤ 32 ∧ ky.length ≤ 64 := by
  unfold chk at h
  split at h
  · rename_i h1
    split at h
    · rename_i h2
      unfold keyOk at h2
      unfold nameOk at h1
      simp only [Bool.and_eq_true, decide_eq_true_eq] at h1 h2
      omega
    · cases h
  · cases h
theorem pc_len {bn qn qy : By} {th : Bool} {qk : Int} (h : pcE bn th qk qn qy = 0) : (qk = 1 ∨ qk = 2) ∧ qn.length ≤ 32 ∧ qy.length ≤ 64 ∧ (th = true → bn = qn) := by
  unfold pcE at h
  split at h
  · cases h
  · rename_i h1
    split at h
    · rename_i h2; exact absurd h h2
    · rename_i h2
      have h3 := chk_len (Decidable.not_not.1 h2)
      refine ⟨by omega, h3.1, h3.2, fun ht => ?_⟩
      split at h
      · cases h
      · rename_i h4
        exact Decidable.not_not.1 fun hn => h4 ⟨ht, hn⟩
end Go.Proofs.YtmkjcgjbhibnpaaDoor
/- The walks of policy.check, registered, authOf and changed (layer 19). -/
namespace Go.Proofs.YtmkjcgjbhibnpaaDoor
open Go.RowKit
set_option maxRecDepth 100000
set_option maxRecDepth 100000 in
set_option maxHeartbeats 8000000 in
theorem polCheck_any (bn bk : By) (vb : Value) (bs : Nat) (th : Bool) (qk : Int) (qn qy au : By) (vk : Value) (w : World) (hb : Reads w vb bk) (hk : Reads w vk qy) :
    Calls Tryd.prog 18 #[.agg (bcl bn vb bs).toArray, .bool th, .agg (reqV qk qn vk au).toArray] w fun e w' => e = .returned (.int .i64 (pcE bn th qk qn qy)) ∧ Below w.heap.size w w' := by
  have HB : Hid (Reads w vb bk) := hb
  have HK : Hid (Reads w vk qy) := hk
  obtain ⟨adb, cpb, hvb⟩ := hb.sliceP
  obtain ⟨adq, cpq, hvq⟩ := hk.sliceP
  obtain ⟨nb, HNB⟩ : ∃ x, Hid (x = bk.length) := ⟨_, rfl⟩
  obtain ⟨nq, HNQ⟩ : ∃ x, Hid (x = qy.length) := ⟨_, rfl⟩
  rw [← HNB.out] at hvb
  rw [← HNQ.out] at hvq
  subst hvb hvq
  clear hb hk
  obtain ⟨er, HER⟩ : ∃ x, Hid (x = pcE bn th qk qn qy) := ⟨_, rfl⟩
  rw [← HER.out]
  obtain ⟨ck, HCK⟩ : ∃ x, Hid (x = chk qn qy) := ⟨_, rfl⟩
  have hs1 := strB_inj bn qn
  have key : (qk ≠ 1 ∧ qk ≠ 2 ∧ er = 1) ∨ ((qk = 1 ∨ qk = 2) ∧ ((ck = 4 ∧ er = 4) ∨ (ck = 5 ∧ er = 5) ∨ (ck = 0 ∧ ((th = false ∧ er = 0) ∨ (th = true ∧ bn = qn ∧ er = 0) ∨ (th = true ∧ bn ≠ qn ∧ er = 1))))) := by
    have h1 := HER.out
    have h2 := HCK.out
    have h3 := chk_in qn qy
    unfold pcE at h1
    rw [← h2] at h1 h3
    by_cases k1 : qk ≠ 1 ∧ qk ≠ 2
    · rw [if_pos k1] at h1; exact Or.inl ⟨k1.1, k1.2, h1⟩
    · rw [if_neg k1] at h1
      refine Or.inr ⟨by omega, ?_⟩
      rcases h3 with h3 | h3 | h3
      · rw [if_neg (by omega)] at h1
        refine Or.inr (Or.inr ⟨h3, ?_⟩)
        cases th with
        | false => rw [if_neg (by simp)] at h1; exact Or.inl ⟨rfl, h1⟩
        | true =>
          by_cases k2 : bn = qn
          · rw [if_neg (by simp [k2])] at h1; exact Or.inr (Or.inl ⟨rfl, k2, h1⟩)
          · rw [if_pos ⟨rfl, k2⟩] at h1; exact Or.inr (Or.inr ⟨rfl, k2, h1⟩)
      · rw [if_pos (by omega)] at h1; exact Or.inl ⟨h3, by omega⟩
      · rw [if_pos (by omega)] at h1; exact Or.inr (Or.inl ⟨h3, by omega⟩)
  clear HER
  rcases key with ⟨k1, k2, rfl⟩ | ⟨k1, key⟩
  · have e1 : (qk != 1) = true := by simp [k1]
    have e2 : (qk != 2) = true := by simp [k2]
    clear k1 k2 hs1
    go_enter Tryd.func18, Tryd.ntmps18
    have tk0 : Hid True := trivial
    have tk1 : Hid True := trivial
    have tk2 : Hid True := trivial
    go_wp2_with (first
      | (clear tk0; with_reducible refine wpSeq_boxW 25 (.tmp 0) (bcl bn (.slice adb nb cpb) bs) ?_ ?_ ?_ ?_
         · rfl
         · rfl
         · rfl
         intro g w1 nb1)
      | (clear tk1; with_reducible refine wpSeq_boxW 29 (.tmp 2) (reqV qk qn (.slice adq nq cpq) au) ?_ ?_ ?_ ?_
         · rfl
         · rfl
         · rfl
         intro h w2 nq2
         have HI : Hid (BqI w bn (.slice adb nb cpb) bs qk qn (.slice adq nq cpq) au g h w2) := ⟨nb1.blk.below nq2.below nb1.blk.lt, nq2.blk, nb1.below.trans (nq2.below.mono nb1.below.size), nb1.ge, Nat.le_trans nb1.below.size nq2.ge⟩
         clear nb1 nq2
         have c0 : w2.cell? ⟨h, 0, none⟩ = some (.int .i64 qk) := HI.out.q.cell 0
         have c1 : w2.cell? ⟨h, 1, none⟩ = some (.string (strB qn)) := HI.out.q.cell 1
         have c2 : w2.cell? ⟨h, 2, none⟩ = some (.slice adq nq cpq) := HI.out.q.cell 2)
      | (clear tk2; go_at_call 27; refine (rcheck_any qn qy (.slice adq nq cpq) 0 _ (HK.out.below HI.out.bel)).mono ?_; rintro e w3 ⟨rfl, b3⟩
         rw [← HCK.out]
         replace HI : Hid (BqI w bn (.slice adb nb cpb) bs qk qn (.slice adq nq cpq) au g h w3) := HI.out.more b3
         have d0 : w3.cell? ⟨g, 0, none⟩ = some (.string (strB bn)) := HI.out.b.cell 0
         have d1 : w3.cell? ⟨h, 1, none⟩ = some (.string (strB qn)) := HI.out.q.cell 1
         clear b3 c0 c1 c2))
    go_ret
    exact ⟨rfl, HI.out.bel⟩
  · have k3 : ((qk != 1) = false ∧ (qk != 2) = true) ∨ ((qk != 1) = true ∧ (qk != 2) = false) := by rcases k1 with k1 | k1 <;> simp [k1]
    clear k1
    rcases k3 with ⟨e1, e2⟩ | ⟨e1, e2⟩ <;> rcases key with ⟨hck, rfl⟩ | ⟨hck, rfl⟩ | ⟨hck, ⟨rfl, rfl⟩ | ⟨rfl, k2, rfl⟩ | ⟨rfl, k2, rfl⟩⟩ <;> subst hck <;> first | rw [decide_eq_true k2] at hs1 | rw [decide_eq_false k2] at hs1 | clear hs1
    all_goals try clear k2
    all_goals
      go_enter Tryd.func18, Tryd.ntmps18
      have tk0 : Hid True := trivial
      have tk1 : Hid True := trivial
      have tk2 : Hid True := trivial
      go_wp2_with (first
        | (clear tk0; with_reducible refine wpSeq_boxW 25 (.tmp 0) (bcl bn (.slice adb nb cpb) bs) ?_ ?_ ?_ ?_
           · rfl
           · rfl
           · rfl
           intro g w1 nb1)
        | (clear tk1; with_reducible refine wpSeq_boxW 29 (.tmp 2) (reqV qk qn (.slice adq nq cpq) au) ?_ ?_ ?_ ?_
           · rfl
           · rfl
           · rfl
           intro h w2 nq2
           have HI : Hid (BqI w bn (.slice adb nb cpb) bs qk qn (.slice adq nq cpq) au g h w2) := ⟨nb1.blk.below nq2.below nb1.blk.lt, nq2.blk, nb1.below.trans (nq2.below.mono nb1.below.size), nb1.ge, Nat.le_trans nb1.below.size nq2.ge⟩
           clear nb1 nq2
           have c0 : w2.cell? ⟨h, 0, none⟩ = some (.int .i64 qk) := HI.out.q.cell 0
           have c1 : w2.cell? ⟨h, 1, none⟩ = some (.string (strB qn)) := HI.out.q.cell 1
           have c2 : w2.cell? ⟨h, 2, none⟩ = some (.slice adq nq cpq) := HI.out.q.cell 2)
        | (clear tk2; go_at_call 27; refine (rcheck_any qn qy (.slice adq nq cpq) 0 _ (HK.out.below HI.out.bel)).mono ?_; rintro e w3 ⟨rfl, b3⟩
           rw [← HCK.out]
           replace HI : Hid (BqI w bn (.slice adb nb cpb) bs qk qn (.slice adq nq cpq) au g h w3) := HI.out.more b3
           have d0 : w3.cell? ⟨g, 0, none⟩ = some (.string (strB bn)) := HI.out.b.cell 0
           have d1 : w3.cell? ⟨h, 1, none⟩ = some (.string (strB qn)) := HI.out.q.cell 1
           clear b3 c0 c1 c2))
      go_ret
      exact ⟨rfl, HI.out.bel⟩
set_option maxRecDepth 100000 in
set_option maxHeartbeats 8000000 in
theorem polReg_any (th : Bool) (qk : Int) (qn qy au : By) (vk : Value) (w : World) (hk : Reads w vk qy) (ha : au.length = 32) :
    Calls Tryd.prog 20 #[.bool th, .agg (reqV qk qn vk au).toArray] w fun e w' => e = .returned (.tuple #[.int .u64 ((rgE th au).2 : Int), .int .i64 (rgE th au).1]) ∧ Below w.heap.size w w' := by
  obtain ⟨adq, cpq, hvq⟩ := hk.sliceP
  obtain ⟨nq, HNQ⟩ : ∃ x, Hid (x = qy.length) := ⟨_, rfl⟩
  rw [← HNQ.out] at hvq
  subst hvq
  clear hk
  have HA : Hid (au.length = 32) := ha
  clear ha
  obtain ⟨er, HER⟩ : ∃ x, Hid (x = (rgE th au).1) := ⟨_, rfl⟩
  obtain ⟨sn, HSN⟩ : ∃ x, Hid (x = (rgE th au).2) := ⟨_, rfl⟩
  rw [← HER.out, ← HSN.out]
  have key : (th = true ∧ er = 6 ∧ sn = 0) ∨ (th = false ∧ ((au = zb32 ∧ er = 0 ∧ sn = 1) ∨ (au ≠ zb32 ∧ er = 8 ∧ sn = 0))) := by
    have h1 := HER.out
    have h2 := HSN.out
    unfold rgE at h1 h2
    cases th with
    | true => exact Or.inl ⟨rfl, h1, h2⟩
    | false =>
      refine Or.inr ⟨rfl, ?_⟩
      by_cases k : au = zb32
      · rw [if_neg (by simp), if_pos k] at h1 h2; exact Or.inl ⟨k, h1, h2⟩
      · rw [if_neg (by simp), if_neg k] at h1 h2; exact Or.inr ⟨k, h1, h2⟩
  clear HER HSN
  obtain ⟨xs, HXS⟩ : ∃ c, Hid (c = cb au) := ⟨_, rfl⟩
  have HIX : Hid ((Tryd.prog.info? 27).map (·.size) = some xs.length) := by show _ = _; rw [HXS.out]; exact infoD au HA.out
  have hdx : ∀ (zs : List Value) (wx : World), zs = cb zb32 → (Op.equalIn 10000 27 (.agg xs.toArray) (.agg zs.toArray)).run Tryd.prog wx = .ok (decide (au = zb32)) wx := fun zs wx hz => by rw [HXS.out, hz]; exact eq_dig au zb32 HA.out rfl wx
  rcases key with ⟨rfl, rfl, rfl⟩ | ⟨rfl, ⟨k, rfl, rfl⟩ | ⟨k, rfl, rfl⟩⟩
  all_goals first | simp only [decide_eq_true k] at hdx | simp only [decide_eq_false k] at hdx | skip
  all_goals try clear k
  all_goals
    go_enter Tryd.func20, Tryd.ntmps20
    have tk0 : Hid True := trivial
    have tk1 : Hid True := trivial
    have tk2 : Hid True := trivial
    go_wp2_with (first
      | (clear tk0; with_reducible refine wpSeq_boxW 29 (.tmp 1) (reqV qk qn (.slice adq nq cpq) au) ?_ ?_ ?_ ?_
         · rfl
         · rfl
         · rfl
         intro h w2 nq2
         have HQ : Hid (w2.rangeAt h 3 xs) := by rw [HXS.out]; exact reqV_rau nq2.blk
         have HBE : Hid (Below w.heap.size w w2) := nq2.below
         clear nq2)
      | (clear tk1; with_reducible refine wpSeq_loadD (.tmp 9) ?_ ?_ h 3 ?_ xs HQ.out HIX.out ?_
         · rfl
         · rfl
         · rfl)
      | (clear tk2; with_reducible refine wpSeq_build0 ?_ ?_ ?_
         · rfl
         · rfl
         intro zs hzs
         have hxz := fun wx => hdx zs wx hzs.out
         clear hzs))
    refine bodyPost_ret (results_tmp2 (by rfl) _ _ _) rfl ⟨rfl, HBE.out⟩
set_option maxRecDepth 100000 in
set_option maxHeartbeats 8000000 in
theorem polAuth_any (bn bk qy : By) (vb vk : Value) (bs s1 : Nat) (w : World) (hK : KOk w) (hb : Reads w vb bk) (hk : Reads w vk qy) (h1 : IntKind.u64.wrap ((bs : Int) + 1) = (s1 : Int)) (hn : bn.length ≤ 1099511627776 ∧ qy.length ≤ 1099511627776 ∧ s1 < 18446744073709551616 ∧ bk.length ≤ 1099511627776) :
    Calls Tryd.prog 22 #[.agg (bcl bn vb bs).toArray, vk] w fun e w' => e = .returned (.agg (cb (hmac bk (authB bn s1 qy))).toArray) ∧ Below w.heap.size w w' := by
  have HKO : Hid (KOk w) := hK
  have HB : Hid (Reads w vb bk) := hb
  have HK : Hid (Reads w vk qy) := hk
  obtain ⟨adb, cpb, hvb⟩ := hb.sliceP
  obtain ⟨adq, cpq, hvq⟩ := hk.sliceP
  obtain ⟨nb, HNB⟩ : ∃ x, Hid (x = bk.length) := ⟨_, rfl⟩
  obtain ⟨nq, HNQ⟩ : ∃ x, Hid (x = qy.length) := ⟨_, rfl⟩
  rw [← HNB.out] at hvb
  rw [← HNQ.out] at hvq
  subst hvb hvq
  clear hb hk hK
  have HN : Hid (bn.length ≤ 1099511627776 ∧ qy.length ≤ 1099511627776 ∧ s1 < 18446744073709551616 ∧ bk.length ≤ 1099511627776) := hn
  clear hn
  obtain ⟨dg, HDG⟩ : ∃ x, Hid (x = hmac bk (authB bn s1 qy)) := ⟨_, rfl⟩
  have HDL : Hid (dg.length = 32) := by show _ = _; rw [HDG.out]; exact len_dig' _
  rw [← HDG.out]
  go_enter Tryd.func22, Tryd.ntmps22
  have tk0 : Hid True := trivial
  have tk1 : Hid True := trivial
  have tk2 : Hid True := trivial
  have tk3 : Hid True := trivial
  go_wp2_with (first
    | (clear tk0; with_reducible refine wpSeq_boxW 25 (.tmp 0) (bcl bn (.slice adb nb cpb) bs) ?_ ?_ ?_ ?_
       · rfl
       · rfl
       · rfl
       intro g w1 nb1
       have c0 : w1.cell? ⟨g, 0, none⟩ = some (.string (strB bn)) := nb1.blk.cell 0
       have c1 : w1.cell? ⟨g, 1, none⟩ = some (.slice adb nb cpb) := nb1.blk.cell 1
       have c2 : w1.cell? ⟨g, 2, none⟩ = some (.int .u64 (bs : Int)) := nb1.blk.cell 2
       have B1 : Hid (Below w.heap.size w w1) := nb1.below)
    | (clear tk1; with_reducible refine wpSeq_allocD ?_ ?_ ?_
       · rfl
       · rfl
       intro g4 w2 nd
       replace c0 : w2.cell? ⟨g, 0, none⟩ = some (.string (strB bn)) := (nb1.blk.below nd.below nb1.blk.lt).cell 0
       replace c1 : w2.cell? ⟨g, 1, none⟩ = some (.slice adb nb cpb) := (nb1.blk.below nd.below nb1.blk.lt).cell 1
       replace c2 : w2.cell? ⟨g, 2, none⟩ = some (.int .u64 (bs : Int)) := (nb1.blk.below nd.below nb1.blk.lt).cell 2
       have HZ : Hid (Blk w2 g4 (cb zb32) 27) := nd.blk
       have HG4 : Hid (w.heap.size ≤ g4) := Nat.le_trans B1.out.size nd.ge
       replace B1 : Hid (Below w.heap.size w w2) := B1.out.trans (nd.below.mono B1.out.size)
       clear nb1 nd)
    | (clear tk2; go_at_call 28; refine (tAuth_any bk bn qy (.slice adb nb cpb) (.slice adq nq cpq) s1 _ (HKO.out.below B1.out HKO.out.lt) (HB.out.below B1.out) (HK.out.below B1.out) HN.out).mono ?_; rintro e w3 ⟨rfl, b3⟩
       rw [← HDG.out]
       replace HZ : Hid (Blk w3 g4 (cb zb32) 27) := HZ.out.below b3 HZ.out.lt
       replace B1 : Hid (Below w.heap.size w w3) := B1.out.trans (b3.mono B1.out.size)
       clear b3 c0 c1 c2)
    | (clear tk3; with_reducible refine wpSeq_storeRow 27 (.tmp 4) (.tmp 13) g4 (cb zb32) (cb dg) HZ.out (len_zd HDL.out) (infoD dg HDL.out) (cb_one dg) ?_ ?_ ?_ ?_ ?_
       · rfl
       · rfl
       · rfl
       · rfl
       intro w4 sr
       have HR4 : Hid (Blk w4 g4 (cb dg) 27) := sr.blk
       replace B1 : Hid (Below w.heap.size w w4) := B1.out.trans (sr.only.below HG4.out B1.out.size)
       clear sr HZ))
  refine bodyPost_ret (v := .agg (cb dg).toArray) (results_cell_row (by rfl) _ _ g4 27 _ (0, 0) _ rfl HR4.out Tryd.underlying27 rfl (by rw [List.size_toArray]; exact infoD dg HDL.out)) rfl ⟨rfl, B1.out⟩
set_option maxRecDepth 100000 in
set_option maxHeartbeats 8000000 in
theorem polChg_any (bn bk : By) (vb : Value) (bs : Nat) (th : Bool) (qk : Int) (qn qy au : By) (vk : Value) (w : World) (hK : KOk w) (hb : Reads w vb bk) (hk : Reads w vk qy) (ha : au.length = 32) (hbs : bs < 18446744073709551616) (hn : th = true → bn.length ≤ 1099511627776 ∧ qy.length ≤ 1099511627776 ∧ bk.length ≤ 1099511627776) :
    Calls Tryd.prog 21 #[.agg (bcl bn vb bs).toArray, .bool th, .agg (reqV qk qn vk au).toArray] w fun e w' => e = .returned (.tuple #[.int .u64 ((cgE bk bn bs th qy au).2 : Int), .int .i64 (cgE bk bn bs th qy au).1]) ∧ Below w.heap.size w w' := by
  have HKO : Hid (KOk w) := hK
  have HB : Hid (Reads w vb bk) := hb
  have HK : Hid (Reads w vk qy) := hk
  obtain ⟨adb, cpb, hvb⟩ := hb.sliceP
  obtain ⟨adq, cpq, hvq⟩ := hk.sliceP
  obtain ⟨nb, HNB⟩ : ∃ x, Hid (x = bk.length) := ⟨_, rfl⟩
  obtain ⟨nq, HNQ⟩ : ∃ x, Hid (x = qy.length) := ⟨_, rfl⟩
  rw [← HNB.out] at hvb
  rw [← HNQ.out] at hvq
  subst hvb hvq
  clear hb hk hK
  have HN0 : Hid (th = true → bn.length ≤ 1099511627776 ∧ qy.length ≤ 1099511627776 ∧ bk.length ≤ 1099511627776) := hn
  have HA : Hid (au.length = 32) := ha
  have HBS : Hid (bs < 18446744073709551616) := hbs
  clear hn ha hbs
  obtain ⟨er, HER⟩ : ∃ x, Hid (x = (cgE bk bn bs th qy au).1) := ⟨_, rfl⟩
  obtain ⟨sn, HSN⟩ : ∃ x, Hid (x = (cgE bk bn bs th qy au).2) := ⟨_, rfl⟩
  rw [← HER.out, ← HSN.out]
  obtain ⟨dg, HDG⟩ : ∃ x, Hid (x = hmac bk (authB bn (bs + 1) qy)) := ⟨_, rfl⟩
  have HDL : Hid (dg.length = 32) := by show _ = _; rw [HDG.out]; exact len_dig' _
  have key : (th = false ∧ er = 7 ∧ sn = 0) ∨ (th = true ∧ ((bs = 18446744073709551615 ∧ er = 12 ∧ sn = 0) ∨ (bs ≠ 18446744073709551615 ∧ ((au = dg ∧ er = 0 ∧ sn = bs + 1) ∨ (au ≠ dg ∧ er = 8 ∧ sn = 0))))) := by
    have h1 := HER.out
    have h2 := HSN.out
    unfold cgE at h1 h2
    rw [← HDG.out] at h1 h2
    cases th with
    | false => exact Or.inl ⟨rfl, h1, h2⟩
    | true =>
      refine Or.inr ⟨rfl, ?_⟩
      by_cases k0 : bs = 18446744073709551615
      · rw [if_neg (by simp), if_pos k0] at h1 h2; exact Or.inl ⟨k0, h1, h2⟩
      · refine Or.inr ⟨k0, ?_⟩
        by_cases k : au = dg
        · rw [if_neg (by simp), if_neg k0, if_pos k] at h1 h2; exact Or.inl ⟨k, h1, h2⟩
        · rw [if_neg (by simp), if_neg k0, if_neg k] at h1 h2; exact Or.inr ⟨k, h1, h2⟩
  clear HER HSN
  obtain ⟨xs, HXS⟩ : ∃ c, Hid (c = cb au) := ⟨_, rfl⟩
  obtain ⟨ds, HDS⟩ : ∃ c, Hid (c = cb dg) := ⟨_, rfl⟩
  have HIX : Hid ((Tryd.prog.info? 27).map (·.size) = some xs.length) := by show _ = _; rw [HXS.out]; exact infoD au HA.out
  have hdx : ∀ (wx : World), (Op.equalIn 10000 27 (.agg xs.toArray) (.agg ds.toArray)).run Tryd.prog wx = .ok (decide (au = dg)) wx := fun wx => by rw [HXS.out, HDS.out]; exact eq_dig au dg HA.out HDL.out wx
  rcases key with ⟨rfl, rfl, rfl⟩ | ⟨rfl, ⟨k0, rfl, rfl⟩ | ⟨k0, key⟩⟩
  · clear hdx HN0
    go_enter Tryd.func21, Tryd.ntmps21
    have tk0 : Hid True := trivial
    have tk1 : Hid True := trivial
    go_wp2_with (first
      | (clear tk0; with_reducible refine wpSeq_boxW 25 (.tmp 0) (bcl bn (.slice adb nb cpb) bs) ?_ ?_ ?_ ?_
         · rfl
         · rfl
         · rfl
         intro g w1 nb1)
      | (clear tk1; with_reducible refine wpSeq_boxW 29 (.tmp 2) (reqV qk qn (.slice adq nq cpq) au) ?_ ?_ ?_ ?_
         · rfl
         · rfl
         · rfl
         intro h w2 nq2
         have HI : Hid (BqI w bn (.slice adb nb cpb) bs qk qn (.slice adq nq cpq) au g h w2) := ⟨nb1.blk.below nq2.below nb1.blk.lt, nq2.blk, nb1.below.trans (nq2.below.mono nb1.below.size), nb1.ge, Nat.le_trans nb1.below.size nq2.ge⟩
         clear nb1 nq2
         have c2 : w2.cell? ⟨g, 2, none⟩ = some (.int .u64 (bs : Int)) := HI.out.b.cell 2))
    refine bodyPost_ret (results_tmp2 (by rfl) _ _ _) rfl ⟨rfl, HI.out.bel⟩
  · clear hdx HN0
    have e0 : (((bs : Nat) : Int) == 18446744073709551615) = true := by rw [k0]; rfl
    clear k0
    go_enter Tryd.func21, Tryd.ntmps21
    have tk0 : Hid True := trivial
    have tk1 : Hid True := trivial
    go_wp2_with (first
      | (clear tk0; with_reducible refine wpSeq_boxW 25 (.tmp 0) (bcl bn (.slice adb nb cpb) bs) ?_ ?_ ?_ ?_
         · rfl
         · rfl
         · rfl
         intro g w1 nb1)
      | (clear tk1; with_reducible refine wpSeq_boxW 29 (.tmp 2) (reqV qk qn (.slice adq nq cpq) au) ?_ ?_ ?_ ?_
         · rfl
         · rfl
         · rfl
         intro h w2 nq2
         have HI : Hid (BqI w bn (.slice adb nb cpb) bs qk qn (.slice adq nq cpq) au g h w2) := ⟨nb1.blk.below nq2.below nb1.blk.lt, nq2.blk, nb1.below.trans (nq2.below.mono nb1.below.size), nb1.ge, Nat.le_trans nb1.below.size nq2.ge⟩
         clear nb1 nq2
         have c2 : w2.cell? ⟨g, 2, none⟩ = some (.int .u64 (bs : Int)) := HI.out.b.cell 2))
    refine bodyPost_ret (results_tmp2 (by rfl) _ _ _) rfl ⟨rfl, HI.out.bel⟩
  · have HN : Hid (bn.length ≤ 1099511627776 ∧ qy.length ≤ 1099511627776 ∧ bk.length ≤ 1099511627776) := HN0.out rfl
    clear HN0
    have e0 : (((bs : Nat) : Int) == 18446744073709551615) = false := by rw [beq_eq_false_iff_ne]; omega
    have h1 : IntKind.u64.wrap ((bs : Int) + 1) = ((bs + 1 : Nat) : Int) := by rw [IntKind.wrap_u64]; have := HBS.out; omega
    have HB1 : Hid (bs + 1 < 18446744073709551616) := by have := HBS.out; show _ < _; omega
    obtain ⟨s1, HS1⟩ : ∃ x, Hid (x = bs + 1) := ⟨_, rfl⟩
    rw [← HS1.out] at h1 HB1 key HDG
    clear k0
    go_enter Tryd.func21, Tryd.ntmps21
    have tk0 : Hid True := trivial
    have tk1 : Hid True := trivial
    go_wp2_with (first
      | (clear tk0; with_reducible refine wpSeq_boxW 25 (.tmp 0) (bcl bn (.slice adb nb cpb) bs) ?_ ?_ ?_ ?_
         · rfl
         · rfl
         · rfl
         intro g w1 nb1)
      | (clear tk1; with_reducible refine wpSeq_boxW 29 (.tmp 2) (reqV qk qn (.slice adq nq cpq) au) ?_ ?_ ?_ ?_
         · rfl
         · rfl
         · rfl
         intro h w2 nq2
         have HI : Hid (BqI w bn (.slice adb nb cpb) bs qk qn (.slice adq nq cpq) au g h w2) := ⟨nb1.blk.below nq2.below nb1.blk.lt, nq2.blk, nb1.below.trans (nq2.below.mono nb1.below.size), nb1.ge, Nat.le_trans nb1.below.size nq2.ge⟩
         clear nb1 nq2
         have c2 : w2.cell? ⟨g, 2, none⟩ = some (.int .u64 (bs : Int)) := HI.out.b.cell 2))
    clear c2
    refine wp_region_held_drew (S := Below w2.heap.size w2.drew) (by kernel_rfl) (Below.refl _ _) ?_
    intro hS
    clear hS
    have HI2 : Hid (BqI w bn (.slice adb nb cpb) bs qk qn (.slice adq nq cpq) au g h w2.drew) := HI.out.more (Below.refl _ _).drew
    have HLT : Hid (g < w2.heap.size ∧ h < w2.heap.size ∧ w.heap.size ≤ w2.heap.size) := ⟨HI.out.b.lt, HI.out.q.lt, HI.out.bel.size⟩
    clear HI
    obtain ⟨B, HBB⟩ : ∃ x, Hid (x = w2.heap.size) := ⟨_, rfl⟩
    have HBD : Hid (w2.drew.heap.size = B) := by rw [HBB.out]; rfl
    rw [← HBB.out] at HLT ⊢
    change wpAnyH _ _ _ _ _ _ _ _ (World.drew w2)
    generalize World.drew w2 = wd at *
    clear HBB
    have hS : Below B wd wd := Below.refl _ _
    have HC : Hid (∀ wx, Below B wd wx → BqI w bn (.slice adb nb cpb) bs qk qn (.slice adq nq cpq) au g h wx) := fun wx hx => HI2.out.next hx ⟨HLT.out.1, HLT.out.2.1⟩ HLT.out.2.2
    clear HI2
    refine wpAnyH_take (i := 0) (v := .pointer (some ⟨h, 3, none⟩)) rfl (by kernel_rfl) (by kernel_rfl) (by kernel_rfl) (fun _ _ _ h => h) (Or.inl ⟨by rfl, fun wx hx => by simp [go_sem]⟩) hS ?_
    simp only [Act.put, List.getElem_toArray, List.getElem_cons_zero, List.setIfInBounds_toArray, List.set_cons_zero, List.set_cons_succ]
    refine wpAnyH_take (i := 1) (v := .agg xs.toArray) rfl (by kernel_rfl) (by kernel_rfl) (by kernel_rfl) (fun _ _ _ h => h) (Or.inl ⟨by rfl, fun wx hx => by (have hq := (HC.out wx hx).q; exact load_run 27 _ rfl _ _ rfl xs _ (by rw [HXS.out]; exact reqV_rau hq) Tryd.underlying27 rfl HIX.out)⟩) hS ?_
    simp only [Act.put, List.getElem_toArray, List.getElem_cons_succ, List.getElem_cons_zero, List.setIfInBounds_toArray, List.set_cons_zero, List.set_cons_succ]
    refine wpAnyH_take (i := 2) (v := .agg (bcl bn (.slice adb nb cpb) bs).toArray) rfl (by kernel_rfl) (by kernel_rfl) (by kernel_rfl) (fun _ _ _ h => h) (Or.inl ⟨by rfl, fun wx hx => by (have hq := (HC.out wx hx).b; exact load_run 25 _ rfl _ _ rfl (bcl bn (.slice adb nb cpb) bs) _ hq.range Tryd.underlying25 rfl info_bind)⟩) hS ?_
    simp only [Act.put, List.getElem_toArray, List.getElem_cons_succ, List.getElem_cons_zero, List.setIfInBounds_toArray, List.set_cons_zero, List.set_cons_succ]
    refine wpAnyH_take (i := 3) (v := .pointer (some ⟨h, 2, none⟩)) rfl (by kernel_rfl) (by kernel_rfl) (by kernel_rfl) (fun _ _ _ h => h) (Or.inl ⟨by rfl, fun wx hx => by simp [go_sem]⟩) hS ?_
    simp only [Act.put, List.getElem_toArray, List.getElem_cons_succ, List.getElem_cons_zero, List.setIfInBounds_toArray, List.set_cons_zero, List.set_cons_succ]
    refine wpAnyH_take (i := 4) (v := .slice adq nq cpq) rfl (by kernel_rfl) (by kernel_rfl) (by kernel_rfl) (fun _ _ _ h => h) (Or.inl ⟨by rfl, fun wx hx => by (have hq := (HC.out wx hx).q.cell 2; simp [go_sem, reqV] at hq ⊢; simp [hq])⟩) hS ?_
    simp only [Act.put, List.getElem_toArray, List.getElem_cons_succ, List.getElem_cons_zero, List.setIfInBounds_toArray, List.set_cons_zero, List.set_cons_succ]
    have hcc := polAuth_any bn bk qy (.slice adb nb cpb) (.slice adq nq cpq) bs s1 wd (HKO.out.below (HC.out wd hS).bel HKO.out.lt) (HB.out.below (HC.out wd hS).bel) (HK.out.below (HC.out wd hS).bel) h1 ⟨HN.out.1, HN.out.2.1, HB1.out, HN.out.2.2⟩
    rw [← HDG.out, ← HDS.out] at hcc
    refine wpAnyH_enter 5 (by kernel_rfl) rfl (by rfl) (f := 22) (args := #[.agg (bcl bn (.slice adb nb cpb) bs).toArray, .slice adq nq cpq]) (by simp [go_sem]) hcc ?_
    rintro e w3 ⟨rfl, b3⟩
    have hS3 : Below B wd w3 := b3.mono (Nat.le_of_eq HBD.out.symm)
    refine ⟨_, rfl, hS3, ?_⟩
    simp only [Act.put, List.getElem_toArray, List.getElem_cons_succ, List.getElem_cons_zero, List.setIfInBounds_toArray, List.set_cons_zero, List.set_cons_succ]
    clear hcc b3
    rcases key with ⟨k, rfl, rfl⟩ | ⟨k, rfl, rfl⟩
    all_goals first | simp only [decide_eq_true k] at hdx | simp only [decide_eq_false k] at hdx
    all_goals clear k
    · refine wpAnyH_take (i := 6) (v := .bool false) rfl (by kernel_rfl) (by kernel_rfl) (by kernel_rfl) (fun _ _ _ h => h) (Or.inl ⟨by rfl, fun wx hx => by (simp [go_sem, hdx])⟩) hS3 ?_
      simp only [Act.put, List.getElem_toArray, List.getElem_cons_succ, List.getElem_cons_zero, List.setIfInBounds_toArray, List.set_cons_zero, List.set_cons_succ]
      refine wpAnyH_take (i := 7) (v := .bool false) rfl (by kernel_rfl) (by kernel_rfl) (by kernel_rfl) (fun _ _ _ h => h) (Or.inl ⟨by rfl, fun wx hx => by simp [go_sem]⟩) hS3 ?_
      simp only [Act.put, List.getElem_toArray, List.getElem_cons_succ, List.getElem_cons_zero, List.setIfInBounds_toArray, List.set_cons_zero, List.set_cons_succ]
      refine wpAnyH_done (by kernel_rfl) ?_ _
      have HI := HC.out w3 hS3
      have HBL : Hid (Below w.heap.size w w3) := HI.bel
      have c2 : w3.cell? ⟨g, 2, none⟩ = some (.int .u64 (bs : Int)) := HI.b.cell 2
      clear HI hS3 hS hdx
      go_wp2
      refine bodyPost_ret (results_tmp2 (by rfl) _ _ _) rfl ⟨rfl, HBL.out⟩
    · refine wpAnyH_take (i := 6) (v := .bool true) rfl (by kernel_rfl) (by kernel_rfl) (by kernel_rfl) (fun _ _ _ h => h) (Or.inl ⟨by rfl, fun wx hx => by (simp [go_sem, hdx])⟩) hS3 ?_
      simp only [Act.put, List.getElem_toArray, List.getElem_cons_succ, List.getElem_cons_zero, List.setIfInBounds_toArray, List.set_cons_zero, List.set_cons_succ]
      refine wpAnyH_take (i := 7) (v := .bool true) rfl (by kernel_rfl) (by kernel_rfl) (by kernel_rfl) (fun _ _ _ h => h) (Or.inl ⟨by rfl, fun wx hx => by simp [go_sem]⟩) hS3 ?_
      simp only [Act.put, List.getElem_toArray, List.getElem_cons_succ, List.getElem_cons_zero, List.setIfInBounds_toArray, List.set_cons_zero, List.set_cons_succ]
      refine wpAnyH_done (by kernel_rfl) ?_ _
      have HI := HC.out w3 hS3
      have HBL : Hid (Below w.heap.size w w3) := HI.bel
      have c2 : w3.cell? ⟨g, 2, none⟩ = some (.int .u64 (bs : Int)) := HI.b.cell 2
      clear HI hS3 hS hdx
      go_wp2
      refine bodyPost_ret (results_tmp2 (by rfl) _ _ _) rfl ⟨rfl, HBL.out⟩
end Go.Proofs.YtmkjcgjbhibnpaaDoor
/- The walks of policy.Next and Ask (layer 19). -/
namespace Go.Proofs.YtmkjcgjbhibnpaaDoor
open Go.RowKit
set_option maxRecDepth 100000
/-- what Next tells -/
def NxR (bn bk : By) (bs : Nat) (th : Bool) (qk : Int) (qn qy au : By) (w : World) (e : Ending) (w' : World) : Prop :=
  ∃ ad n c, e = .returned (.tuple #[.agg (bcl (if (nxE bn bk bs th qk qn qy au).1 = 0 then qn else []) (.slice ad n c) (nxE bn bk bs th qk qn qy au).2).toArray, .int .i64 (nxE bn bk bs th qk qn qy au).1]) ∧ Reads w' (.slice ad n c) (if (nxE bn bk bs th qk qn qy au).1 = 0 then qy else []) ∧ Below w.heap.size w w'
theorem nxR_no {bn bk : By} {bs : Nat} {th : Bool} {qk er : Int} {qn qy au : By} {w w' : World} (h : nxE bn bk bs th qk qn qy au = (er, 0)) (he : er ≠ 0) (hb : Below w.heap.size w w') : NxR bn bk bs th qk qn qy au w (.returned (.tuple #[.agg (bcl [] (.slice none 0 0) 0).toArray, .int .i64 er])) w' := by
  refine ⟨none, 0, 0, by rw [h, if_neg he], ?_, hb⟩
  rw [h, if_neg he]
  exact ⟨none, 0, rfl, Nat.le_refl _, fun _ => rfl, fun h => by cases h⟩
theorem nxR_ok {bn bk : By} {bs sn : Nat} {th : Bool} {qk : Int} {qn qy au : By} {w w' : World} {ad : Option Addr} {n c : Nat} (h : nxE bn bk bs th qk qn qy au = (0, sn)) (hr : Reads w' (.slice ad n c) qy) (hb : Below w.heap.size w w') : NxR bn bk bs th qk qn qy au w (.returned (.tuple #[.agg (bcl qn (.slice ad n c) sn).toArray, .int .i64 0])) w' := by
  refine ⟨ad, n, c, by rw [h, if_pos rfl], ?_, hb⟩
  rw [h, if_pos rfl]
  exact hr
theorem rg_no {th : Bool} {au : By} (h : (rgE th au).1 ≠ 0) : (rgE th au).2 = 0 := by
  unfold rgE at *
  split
  · rfl
  · rename_i h1
    rw [if_neg h1] at h
    split
    · rename_i h2; rw [if_pos h2] at h; exact absurd rfl h
    · rfl
theorem cg_no {bk bn qy au : By} {bs : Nat} {th : Bool} (h : (cgE bk bn bs th qy au).1 ≠ 0) : (cgE bk bn bs th qy au).2 = 0 := by
  unfold cgE at *
  split
  · rfl
  · rename_i h1
    rw [if_neg h1] at h
    split
    · rfl
    · rename_i h2
      rw [if_neg h2] at h
      split
      · rename_i h3; rw [if_pos h3] at h; exact absurd rfl h
      · rfl
theorem ownB_monoP {w : World} {base B : Nat} {v : Value} {l : By} (h : OwnB w base v l) (hB : B ≤ base) : OwnB w B v l := by
  rcases h with ⟨h1, ⟨rfl, h2⟩ | ⟨g, cap, cur, rfl, hg, hh⟩⟩
  · exact ⟨h1, Or.inl ⟨rfl, h2⟩⟩
  · exact ⟨h1, Or.inr ⟨g, cap, cur, rfl, Nat.le_trans hB hg, hh⟩⟩
structure MkI (w : World) (bn : By) (vb : Value) (bs : Nat) (qk : Int) (qn : By) (vk : Value) (au qy : By) (g h g6 g9 : Nat) (v9 : Value) (sn : Nat) (W : World) : Prop where
  i : BqI w bn vb bs qk qn vk au g h W
  b6 : Blk W g6 (bcl [] (.slice none 0 0) 0) 25
  b9 : Blk W g9 (bcl qn v9 sn) 25
  own : OwnB W w.heap.size v9 qy
  ge : w.heap.size ≤ g6 ∧ w.heap.size ≤ g9 ∧ g6 ≠ g9 ∧ g ≠ g9 ∧ h ≠ g9
theorem MkI.more {w W W' : World} {bn qn au qy : By} {vb vk v9 : Value} {bs g h g6 g9 sn : Nat} {qk : Int} (I : MkI w bn vb bs qk qn vk au qy g h g6 g9 v9 sn W) (hb : Below W.heap.size W W') : MkI w bn vb bs qk qn vk au qy g h g6 g9 v9 sn W' :=
  ⟨I.i.more hb, I.b6.below hb I.b6.lt, I.b9.below hb I.b9.lt, I.own.next hb, I.ge⟩
theorem Blk.onlyP {w w' : World} {g k : Nat} {cs : List Value} {t : TypeId} (h : Blk w g cs t) (ho : Only k w w') (hn : g ≠ k) : Blk w' g cs t := by
  have hl := h.lt
  unfold Blk at h ⊢
  rw [ho.block g hn hl]
  exact h
theorem MkI.set {w W W' : World} {bn qn au qy : By} {vb vk v9 : Value} {bs g h g6 g9 sn s2 : Nat} {qk : Int} (I : MkI w bn vb bs qk qn vk au qy g h g6 g9 v9 sn W) (hb : Blk W' g9 ((bcl qn v9 sn).set 2 (.int .u64 (s2 : Int))) 25) (ho : Only g9 W W') : MkI w bn vb bs qk qn vk au qy g h g6 g9 v9 s2 W' :=
  ⟨⟨I.i.b.onlyP ho I.ge.2.2.2.1, I.i.q.onlyP ho I.ge.2.2.2.2, I.i.bel.trans (ho.below I.ge.2.1 I.i.bel.size), I.i.ge⟩, I.b6.onlyP ho I.ge.2.2.1, hb, I.own.sameP fun k hk => ho.block k (fun e => I.own.ne_blk I.b9 (by decide) (e ▸ hk)) (I.own.ltP k hk).2, I.ge⟩
set_option maxRecDepth 100000 in
set_option maxHeartbeats 8000000 in
theorem polNext_any (bn bk : By) (vb : Value) (bs : Nat) (th : Bool) (qk : Int) (qn qy au : By) (vk : Value) (w : World) (hK : KOk w) (hb : Reads w vb bk) (hk : Reads w vk qy) (ha : au.length = 32) (hbs : bs < 18446744073709551616) (hn : bk.length ≤ 1099511627776) :
    Calls Tryd.prog 10 #[.agg (bcl bn vb bs).toArray, .bool th, .agg (reqV qk qn vk au).toArray] w (NxR bn bk bs th qk qn qy au w) := by
  have HKO : Hid (KOk w) := hK
  have HB : Hid (Reads w vb bk) := hb
  have HK : Hid (Reads w vk qy) := hk
  obtain ⟨adb, cpb, hvb⟩ := hb.sliceP
  obtain ⟨adq, cpq, hvq⟩ := hk.sliceP
  obtain ⟨nb, HNB⟩ : ∃ x, Hid (x = bk.length) := ⟨_, rfl⟩
  obtain ⟨nq, HNQ⟩ : ∃ x, Hid (x = qy.length) := ⟨_, rfl⟩
  rw [← HNB.out] at hvb
  rw [← HNQ.out] at hvq
  subst hvb hvq
  clear hb hk hK
  have HN : Hid (bk.length ≤ 1099511627776) := hn
  have HA : Hid (au.length = 32) := ha
  have HBS : Hid (bs < 18446744073709551616) := hbs
  clear hn ha hbs
  obtain ⟨er, HER⟩ : ∃ x, Hid (x = pcE bn th qk qn qy) := ⟨_, rfl⟩
  by_cases hz : er ≠ 0
  · have HNX : Hid (nxE bn bk bs th qk qn qy au = (er, 0)) := by show _ = _; unfold nxE; rw [if_pos (by rw [← HER.out]; exact hz), HER.out]
    have HZ : Hid (er ≠ 0) := hz
    have e1 : (er == 0) = false := by simpa using hz
    clear hz
    go_enter Tryd.func10, Tryd.ntmps10
    have tk0 : Hid True := trivial
    have tk1 : Hid True := trivial
    have tk2 : Hid True := trivial
    have tk3 : Hid True := trivial
    have tk4 : Hid True := trivial
    have tk5 : Hid True := trivial
    have tk6 : Hid True := trivial
    have tk7 : Hid True := trivial
    go_wp2_with (first
      | (clear tk0; with_reducible refine wpSeq_boxW 25 (.tmp 0) (bcl bn (.slice adb nb cpb) bs) ?_ ?_ ?_ ?_
         · rfl
         · rfl
         · rfl
         intro g w1 nb1)
      | (clear tk1; with_reducible refine wpSeq_boxW 29 (.tmp 2) (reqV qk qn (.slice adq nq cpq) au) ?_ ?_ ?_ ?_
         · rfl
         · rfl
         · rfl
         intro h w2 nq2
         have HI : Hid (BqI w bn (.slice adb nb cpb) bs qk qn (.slice adq nq cpq) au g h w2) := ⟨nb1.blk.below nq2.below nb1.blk.lt, nq2.blk, nb1.below.trans (nq2.below.mono nb1.below.size), nb1.ge, Nat.le_trans nb1.below.size nq2.ge⟩
         have HNE : Hid (g ≠ h) := Nat.ne_of_lt (Nat.lt_of_lt_of_le nb1.blk.lt nq2.ge)
         clear nb1 nq2)
      | (clear tk2; with_reducible refine wpSeq_allocB ?_ ?_ ?_
         · rfl
         · rfl
         intro g6 w3 n6
         have HG6 : Hid (w.heap.size ≤ g6) := Nat.le_trans HI.out.bel.size n6.ge
         replace HI : Hid (BqI w bn (.slice adb nb cpb) bs qk qn (.slice adq nq cpq) au g h w3) := HI.out.more n6.below
         have H6 : Hid (Blk w3 g6 (bcl [] (.slice none 0 0) 0) 25) := n6.blk
         clear n6)
      | (clear tk3; with_reducible refine wpSeq_loadW 25 (.tmp 3) g 0 (bcl bn (.slice adb nb cpb) bs) _ HI.out.b.range Tryd.underlying25 rfl info_bcl ?_ ?_ ?_ ?_
         · rfl
         · rfl
         · rfl)
      | (clear tk4; with_reducible refine wpSeq_loadW 29 (.tmp 5) h 0 (reqV qk qn (.slice adq nq cpq) au) _ HI.out.q.range Tryd.underlying29 rfl (info_reqV HA.out) ?_ ?_ ?_ ?_
         · rfl
         · rfl
         · rfl)
      | (clear tk5; go_at_call 18; refine (polCheck_any bn bk (.slice adb nb cpb) bs th qk qn qy au (.slice adq nq cpq) _ (HB.out.below HI.out.bel) (HK.out.below HI.out.bel)).mono ?_; rintro e w4 ⟨rfl, b4⟩
         rw [← HER.out]
         replace HI : Hid (BqI w bn (.slice adb nb cpb) bs qk qn (.slice adq nq cpq) au g h w4) := HI.out.more b4
         replace H6 : Hid (Blk w4 g6 (bcl [] (.slice none 0 0) 0) 25) := H6.out.below b4 H6.out.lt
         clear b4)
      | (clear tk6; with_reducible refine wpSeq_build 25 [] (bcl [] (.slice none 0 0) 0) (by kernel_rfl) ?_ ?_ ?_
         · rfl
         · rfl)
      | (clear tk7; with_reducible refine wpSeq_storeRow 25 (.tmp 6) (.tmp 16) g6 (bcl [] (.slice none 0 0) 0) (bcl [] (.slice none 0 0) 0) H6.out len_bcl info_bcl bcl_one ?_ ?_ ?_ ?_ ?_
         · rfl
         · rfl
         · rfl
         · rfl
         intro w5 sr
         replace H6 : Hid (Blk w5 g6 (bcl [] (.slice none 0 0) 0) 25) := sr.blk
         have HBL : Hid (Below w.heap.size w w5) := HI.out.bel.trans (sr.only.below HG6.out HI.out.bel.size)
         clear sr HI))
    refine bodyPost_ret (results_row_tmp (by rfl) _ _ g6 _ rfl (var_bind H6.out)) rfl ?_
    exact nxR_no HNX.out HZ.out HBL.out
  · have hz0 : er = 0 := by omega
    have HP : Hid ((qk = 1 ∨ qk = 2) ∧ qn.length ≤ 32 ∧ qy.length ≤ 64 ∧ (th = true → bn = qn)) := pc_len (by rw [← HER.out]; exact hz0)
    have HNX0 : Hid (nxE bn bk bs th qk qn qy au = if qk = 1 then rgE th au else cgE bk bn bs th qy au) := by show _ = _; unfold nxE; rw [if_neg (by rw [← HER.out]; exact hz)]
    clear hz
    subst hz0
    go_enter Tryd.func10, Tryd.ntmps10
    have tk0 : Hid True := trivial
    have tk1 : Hid True := trivial
    have tk2 : Hid True := trivial
    have tk3 : Hid True := trivial
    have tk4 : Hid True := trivial
    have tk5 : Hid True := trivial
    go_wp2_with (first
      | (clear tk0; with_reducible refine wpSeq_boxW 25 (.tmp 0) (bcl bn (.slice adb nb cpb) bs) ?_ ?_ ?_ ?_
         · rfl
         · rfl
         · rfl
         intro g w1 nb1)
      | (clear tk1; with_reducible refine wpSeq_boxW 29 (.tmp 2) (reqV qk qn (.slice adq nq cpq) au) ?_ ?_ ?_ ?_
         · rfl
         · rfl
         · rfl
         intro h w2 nq2
         have HI : Hid (BqI w bn (.slice adb nb cpb) bs qk qn (.slice adq nq cpq) au g h w2) := ⟨nb1.blk.below nq2.below nb1.blk.lt, nq2.blk, nb1.below.trans (nq2.below.mono nb1.below.size), nb1.ge, Nat.le_trans nb1.below.size nq2.ge⟩
         have HNE : Hid (g ≠ h) := Nat.ne_of_lt (Nat.lt_of_lt_of_le nb1.blk.lt nq2.ge)
         clear nb1 nq2)
      | (clear tk2; with_reducible refine wpSeq_allocB ?_ ?_ ?_
         · rfl
         · rfl
         intro g6 w3 n6
         have HG6 : Hid (w.heap.size ≤ g6) := Nat.le_trans HI.out.bel.size n6.ge
         replace HI : Hid (BqI w bn (.slice adb nb cpb) bs qk qn (.slice adq nq cpq) au g h w3) := HI.out.more n6.below
         have H6 : Hid (Blk w3 g6 (bcl [] (.slice none 0 0) 0) 25) := n6.blk
         clear n6)
      | (clear tk3; with_reducible refine wpSeq_loadW 25 (.tmp 3) g 0 (bcl bn (.slice adb nb cpb) bs) _ HI.out.b.range Tryd.underlying25 rfl info_bcl ?_ ?_ ?_ ?_
         · rfl
         · rfl
         · rfl)
      | (clear tk4; with_reducible refine wpSeq_loadW 29 (.tmp 5) h 0 (reqV qk qn (.slice adq nq cpq) au) _ HI.out.q.range Tryd.underlying29 rfl (info_reqV HA.out) ?_ ?_ ?_ ?_
         · rfl
         · rfl
         · rfl)
      | (clear tk5; go_at_call 18; refine (polCheck_any bn bk (.slice adb nb cpb) bs th qk qn qy au (.slice adq nq cpq) _ (HB.out.below HI.out.bel) (HK.out.below HI.out.bel)).mono ?_; rintro e w4 ⟨rfl, b4⟩
         rw [← HER.out]
         replace HI : Hid (BqI w bn (.slice adb nb cpb) bs qk qn (.slice adq nq cpq) au g h w4) := HI.out.more b4
         replace H6 : Hid (Blk w4 g6 (bcl [] (.slice none 0 0) 0) 25) := H6.out.below b4 H6.out.lt
         clear b4))
    go_cut [9] from 18 to 24 (fun a W => ∃ (g9 : Nat) (ak : Option Addr) (nk ck : Nat), a = .pointer (some ⟨g9, 0, none⟩) ∧ MkI w bn (.slice adb nb cpb) bs qk qn (.slice adq nq cpq) au qy g h g6 g9 (.slice ak nk ck) 0 W)
    case first =>
      refine wp_region_held_drew (S := Below w4.heap.size w4.drew) (by kernel_rfl) (Below.refl _ _) ?_
      intro hS
      clear hS
      have HI2 : Hid (BqI w bn (.slice adb nb cpb) bs qk qn (.slice adq nq cpq) au g h w4.drew) := HI.out.more (Below.refl _ _).drew
      have H62 : Hid (Blk w4.drew g6 (bcl [] (.slice none 0 0) 0) 25) := H6.out.below (Below.refl _ _).drew H6.out.lt
      have HLT : Hid (g < w4.heap.size ∧ h < w4.heap.size ∧ g6 < w4.heap.size ∧ w.heap.size ≤ w4.heap.size) := ⟨HI.out.b.lt, HI.out.q.lt, H6.out.lt, HI.out.bel.size⟩
      clear HI H6
      obtain ⟨B, HBB⟩ : ∃ x, Hid (x = w4.heap.size) := ⟨_, rfl⟩
      have HBD : Hid (w4.drew.heap.size = B) := by rw [HBB.out]; rfl
      rw [← HBB.out] at HLT ⊢
      change wpAnyH _ _ _ _ _ _ _ _ (World.drew w4)
      generalize World.drew w4 = wd at *
      clear HBB
      have hS : Below B wd wd := Below.refl _ _
      have HC : Hid (∀ wx, Below B wd wx → BqI w bn (.slice adb nb cpb) bs qk qn (.slice adq nq cpq) au g h wx) := fun wx hx => HI2.out.next hx ⟨HLT.out.1, HLT.out.2.1⟩ HLT.out.2.2.2
      have H6C : Hid (∀ wx, Below B wd wx → Blk wx g6 (bcl [] (.slice none 0 0) 0) 25) := fun wx hx => H62.out.below hx HLT.out.2.2.1
      have HBX : Hid (∀ wx, Below B wd wx → B ≤ wx.heap.size) := fun wx hx => by have := hx.size; rw [HBD.out] at this; exact this
      clear HI2 H62
      refine wpAnyH_take (i := 0) (v := .pointer (some ⟨h, 1, none⟩)) rfl (by kernel_rfl) (by kernel_rfl) (by kernel_rfl) (fun _ _ _ h => h) (Or.inl ⟨by rfl, fun wx hx => by simp [go_sem]⟩) hS ?_
      simp only [Act.put, List.getElem_toArray, List.getElem_cons_zero, List.setIfInBounds_toArray, List.set_cons_zero, List.set_cons_succ]
      refine wpAnyH_take (i := 1) (v := .string (strB qn)) rfl (by kernel_rfl) (by kernel_rfl) (by kernel_rfl) (fun _ _ _ h => h) (Or.inl ⟨by rfl, fun wx hx => by (have hq := (HC.out wx hx).q.cell 1; simp [go_sem, reqV] at hq ⊢; simp [hq])⟩) hS ?_
      simp only [Act.put, List.getElem_toArray, List.getElem_cons_succ, List.getElem_cons_zero, List.setIfInBounds_toArray, List.set_cons_zero, List.set_cons_succ]
      refine wpAnyH_take (i := 2) (v := .pointer (some ⟨h, 2, none⟩)) rfl (by kernel_rfl) (by kernel_rfl) (by kernel_rfl) (fun _ _ _ h => h) (Or.inl ⟨by rfl, fun wx hx => by simp [go_sem]⟩) hS ?_
      simp only [Act.put, List.getElem_toArray, List.getElem_cons_succ, List.getElem_cons_zero, List.setIfInBounds_toArray, List.set_cons_zero, List.set_cons_succ]
      refine wpAnyH_take (i := 3) (v := .slice adq nq cpq) rfl (by kernel_rfl) (by kernel_rfl) (by kernel_rfl) (fun _ _ _ h => h) (Or.inl ⟨by rfl, fun wx hx => by (have hq := (HC.out wx hx).q.cell 2; simp [go_sem, reqV] at hq ⊢; simp [hq])⟩) hS ?_
      simp only [Act.put, List.getElem_toArray, List.getElem_cons_succ, List.getElem_cons_zero, List.setIfInBounds_toArray, List.set_cons_zero, List.set_cons_succ]
      refine wpAnyH_pair 4 6 (by kernel_rfl) ?_ ?_
      · refine wpOp_en 4 (by rfl) (by rfl) (f := 19) (args := #[.slice adq nq cpq]) (by simp [go_sem]) (bclone_any (.slice adq nq cpq) qy wd (HK.out.below (HC.out wd hS).bel) (by have := HP.out.2.2.1; omega)) ?_
        rintro e w5 ⟨v5, rfl, ow, b5⟩
        have hS2 : Below B wd w5 := b5.mono (Nat.le_of_eq HBD.out.symm)
        obtain ⟨ak, ck, rfl⟩ := ow.formP
        obtain ⟨nk, HNK⟩ : ∃ x, Hid (x = qy.length) := ⟨_, rfl⟩
        rw [← HNK.out] at ow ⊢
        refine ⟨_, rfl, hS2, ?_⟩
        simp only [Act.put, List.getElem_toArray, List.getElem_cons_succ, List.getElem_cons_zero, List.setIfInBounds_toArray, List.set_cons_zero, List.set_cons_succ]
        refine wpAnyH_take (i := 5) (v := .agg (bcl qn (.slice ak nk ck) 0).toArray) rfl (by kernel_rfl) (by kernel_rfl) (by kernel_rfl) (fun _ _ _ h => h) (Or.inl ⟨by rfl, fun wx hx => by exact build_op _ _ 25 [(0, .tmp 19), (1, .tmp 22)] rfl _ (by kernel_rfl) _⟩) hS2 ?_
        simp only [Act.put, List.getElem_toArray, List.getElem_cons_succ, List.getElem_cons_zero, List.setIfInBounds_toArray, List.set_cons_zero, List.set_cons_succ]
        refine wpAnyH_step 6 (.pointer (some ⟨w5.heap.size, 0, none⟩)) (w5.alloc (.cells (bcl [] (.slice none 0 0) 0).toArray 25)) (by kernel_rfl) rfl (by rfl) (alloc_bind _ _ rfl _) (hS2.trans ((below_alloc _ _).mono (HBX.out _ hS2))) ?_
        simp only [Act.put, List.getElem_toArray, List.getElem_cons_succ, List.getElem_cons_zero, List.setIfInBounds_toArray, List.set_cons_zero, List.set_cons_succ]
        have hS3 : Below B wd (w5.alloc (.cells (bcl [] (.slice none 0 0) 0).toArray 25)) := hS2.trans ((below_alloc _ _).mono (HBX.out _ hS2))
        have hb9 : Blk (w5.alloc (.cells (bcl [] (.slice none 0 0) 0).toArray 25)) w5.heap.size (bcl [] (.slice none 0 0) 0) 25 := Blk.new _ _ _
        have ow2 := (ownB_monoP ow (by rw [HBD.out]; exact HLT.out.2.2.2)).next (below_alloc w5 (.cells (bcl [] (.slice none 0 0) 0).toArray 25))
        have HG9 : Hid (B ≤ w5.heap.size) := HBX.out _ hS2
        generalize w5.alloc (.cells (bcl [] (.slice none 0 0) 0).toArray 25) = w6 at *
        generalize w5.heap.size = g9 at *
        clear hS2 b5 ow
        refine wpAnyH_storeRow 7 25 (.tmp 9) (.tmp 23) g9 (bcl [] (.slice none 0 0) 0) (bcl qn (.slice ak nk ck) 0) hb9 len_bcl info_bcl bcl_one (by kernel_rfl) rfl (by rfl) (by rfl) (by rfl) (by rfl) ?_
        intro w7 sr
        have hS7 := hS3.trans (sr.only.below HG9.out (HBX.out _ hS3))
        refine ⟨hS7, ?_⟩
        simp only [Act.put, List.getElem_toArray, List.getElem_cons_succ, List.getElem_cons_zero]
        refine wpAnyH_done (by kernel_rfl) ?_ _
        go_wp2
        go_meet
        case rel => exact ⟨g9, ak, nk, ck, rfl, HC.out _ hS7, H6C.out _ hS7, sr.blk, ow2.sameP fun k hk => sr.only.block k (fun e => ow2.ne_blk hb9 (by decide) (e ▸ hk)) (ow2.ltP k hk).2, by have := (H6C.out wd (Below.refl _ _)).lt; have h0 := (HC.out wd (Below.refl _ _)).bel.size; have h1 := HLT.out; have h2 := HG9.out; have h3 := (HC.out wd (Below.refl _ _)).ge; have h4 := HG6.out; refine ⟨?_, ?_, ?_, ?_, ?_⟩ <;> omega⟩
      · refine wpOp_vl 6 (.pointer (some ⟨wd.heap.size, 0, none⟩)) (wd.alloc (.cells (bcl [] (.slice none 0 0) 0).toArray 25)) (by rfl) (by rfl) (alloc_bind _ _ rfl _) ⟨(below_alloc _ _).mono (Nat.le_of_eq HBD.out.symm), ?_⟩
        simp only [Act.put, List.getElem_toArray, List.getElem_cons_succ, List.getElem_cons_zero, List.setIfInBounds_toArray, List.set_cons_zero, List.set_cons_succ]
        have hS2 : Below B wd (wd.alloc (.cells (bcl [] (.slice none 0 0) 0).toArray 25)) := (below_alloc _ _).mono (Nat.le_of_eq HBD.out.symm)
        have hb0 : Blk (wd.alloc (.cells (bcl [] (.slice none 0 0) 0).toArray 25)) wd.heap.size (bcl [] (.slice none 0 0) 0) 25 := Blk.new _ _ _
        have HG9 : Hid (B ≤ wd.heap.size) := HBX.out _ hS
        generalize wd.alloc (.cells (bcl [] (.slice none 0 0) 0).toArray 25) = w5 at *
        obtain ⟨g9, HGG⟩ : ∃ x, Hid (x = wd.heap.size) := ⟨_, rfl⟩
        rw [← HGG.out] at hb0 HG9 ⊢
        refine wpAnyH_enter 4 (by kernel_rfl) rfl (by rfl) (f := 19) (args := #[.slice adq nq cpq]) (by simp [go_sem]) (bclone_any (.slice adq nq cpq) qy w5 (HK.out.below (HC.out w5 hS2).bel) (by have := HP.out.2.2.1; omega)) ?_
        rintro e w6 ⟨v5, rfl, ow, b6⟩
        have hS3 : Below B wd w6 := hS2.trans (b6.mono (HBX.out _ hS2))
        obtain ⟨ak, ck, rfl⟩ := ow.formP
        obtain ⟨nk, HNK⟩ : ∃ x, Hid (x = qy.length) := ⟨_, rfl⟩
        rw [← HNK.out] at ow ⊢
        refine ⟨_, rfl, hS3, ?_⟩
        simp only [Act.put, List.getElem_toArray, List.getElem_cons_succ, List.getElem_cons_zero, List.setIfInBounds_toArray, List.set_cons_zero, List.set_cons_succ]
        refine wpAnyH_take (i := 5) (v := .agg (bcl qn (.slice ak nk ck) 0).toArray) rfl (by kernel_rfl) (by kernel_rfl) (by kernel_rfl) (fun _ _ _ h => h) (Or.inl ⟨by rfl, fun wx hx => by exact build_op _ _ 25 [(0, .tmp 19), (1, .tmp 22)] rfl _ (by kernel_rfl) _⟩) hS3 ?_
        simp only [Act.put, List.getElem_toArray, List.getElem_cons_succ, List.getElem_cons_zero, List.setIfInBounds_toArray, List.set_cons_zero, List.set_cons_succ]
        have hb9 := hb0.below b6 hb0.lt
        have ow2 := ownB_monoP ow (Nat.le_trans HLT.out.2.2.2 (HBX.out _ hS2))
        clear hb0 ow hS2 b6
        refine wpAnyH_storeRow 7 25 (.tmp 9) (.tmp 23) g9 (bcl [] (.slice none 0 0) 0) (bcl qn (.slice ak nk ck) 0) hb9 len_bcl info_bcl bcl_one (by kernel_rfl) rfl (by rfl) (by rfl) (by rfl) (by rfl) ?_
        intro w7 sr
        have hS7 := hS3.trans (sr.only.below HG9.out (HBX.out _ hS3))
        refine ⟨hS7, ?_⟩
        simp only [Act.put, List.getElem_toArray, List.getElem_cons_succ, List.getElem_cons_zero]
        refine wpAnyH_done (by kernel_rfl) ?_ _
        go_wp2
        go_meet
        case rel => exact ⟨g9, ak, nk, ck, rfl, HC.out _ hS7, H6C.out _ hS7, sr.blk, ow2.sameP fun k hk => sr.only.block k (fun e => ow2.ne_blk hb9 (by decide) (e ▸ hk)) (ow2.ltP k hk).2, by have := (H6C.out wd (Below.refl _ _)).lt; have h0 := (HC.out wd (Below.refl _ _)).bel.size; have h1 := HLT.out; have h2 := HG9.out; have h3 := (HC.out wd (Below.refl _ _)).ge; have h4 := HG6.out; refine ⟨?_, ?_, ?_, ?_, ?_⟩ <;> omega⟩
    case rest =>
      clear HI H6
      obtain ⟨g9, ak, nk, ck, rfl, hI⟩ := hcut
      have HI : Hid (MkI w bn (.slice adb nb cpb) bs qk qn (.slice adq nq cpq) au qy g h g6 g9 (.slice ak nk ck) 0 wc) := hI
      clear hI
      obtain ⟨e2, sn, HE2⟩ : ∃ (e2 : Int) (sn : Nat), Hid (((qk = 1 ∧ rgE th au = (e2, sn)) ∨ (qk = 2 ∧ cgE bk bn bs th qy au = (e2, sn))) ∧ nxE bn bk bs th qk qn qy au = (e2, sn) ∧ (e2 ≠ 0 → sn = 0)) := by
        have hn := HNX0.out
        rcases HP.out.1 with h1 | h1
        · rw [if_pos h1] at hn
          exact ⟨_, _, Or.inl ⟨h1, rfl⟩, hn, rg_no⟩
        · rw [if_neg (by omega)] at hn
          exact ⟨_, _, Or.inr ⟨h1, rfl⟩, hn, cg_no⟩
      clear HNX0
      have c0 : wc.cell? ⟨h, 0, none⟩ = some (.int .i64 qk) := HI.out.i.q.cell 0
      have HQK := HE2.out.1
      have key : ((qk == 1) = true ∨ (qk == 1) = false) ∧ ((e2 == 0) = true ∨ (e2 == 0) = false) := ⟨by cases qk == 1 <;> simp, by cases e2 == 0 <;> simp⟩
      obtain ⟨k1, k2⟩ := key
      have HQ : Hid ((qk = 1 ∧ rgE th au = (e2, sn)) ∨ (qk = 2 ∧ cgE bk bn bs th qy au = (e2, sn))) := HQK
      clear HQK
      rcases k1 with k1 | k1 <;> rcases k2 with k2 | k2
      all_goals
        have tk0 : Hid True := trivial
        have tk1 : Hid True := trivial
        have tk2 : Hid True := trivial
        have tk3 : Hid True := trivial
        have tk4 : Hid True := trivial
        have tk5 : Hid True := trivial
        have tk6 : Hid True := trivial
        have tk7 : Hid True := trivial
        have tk8 : Hid True := trivial
        have tk9 : Hid True := trivial
        go_wp2_with (first
          | (clear tk0; with_reducible refine wpSeq_loadW 25 (.tmp 3) g 0 (bcl bn (.slice adb nb cpb) bs) _ HI.out.i.b.range Tryd.underlying25 rfl info_bcl ?_ ?_ ?_ ?_
             · rfl
             · rfl
             · rfl)
          | (clear tk1; with_reducible refine wpSeq_loadW 29 (.tmp 5) h 0 (reqV qk qn (.slice adq nq cpq) au) _ HI.out.i.q.range Tryd.underlying29 rfl (info_reqV HA.out) ?_ ?_ ?_ ?_
             · rfl
             · rfl
             · rfl)
          | (clear tk2; go_at_call 20; refine (polReg_any th qk qn qy au (.slice adq nq cpq) _ (HK.out.below HI.out.i.bel) HA.out).mono ?_; rintro e w6 ⟨rfl, b6⟩
             have hq : rgE th au = (e2, sn) := HQ.out.elim (fun h => h.2) (fun h => absurd k1 (by rw [h.1]; decide))
             rw [hq]
             clear hq c0
             replace HI : Hid (MkI w bn (.slice adb nb cpb) bs qk qn (.slice adq nq cpq) au qy g h g6 g9 (.slice ak nk ck) 0 w6) := HI.out.more b6
             clear b6)
          | (clear tk3; go_at_call 21; refine (polChg_any bn bk (.slice adb nb cpb) bs th qk qn qy au (.slice adq nq cpq) _ (HKO.out.below HI.out.i.bel HKO.out.lt) (HB.out.below HI.out.i.bel) (HK.out.below HI.out.i.bel) HA.out HBS.out (fun ht => by have h1 := HP.out; rw [h1.2.2.2 ht]; have h2 := HN.out; exact ⟨by omega, by omega, h2⟩)).mono ?_; rintro e w6 ⟨rfl, b6⟩
             have hq : cgE bk bn bs th qy au = (e2, sn) := HQ.out.elim (fun h => absurd k1 (by rw [h.1]; decide)) (fun h => h.2)
             rw [hq]
             clear hq c0
             replace HI : Hid (MkI w bn (.slice adb nb cpb) bs qk qn (.slice adq nq cpq) au qy g h g6 g9 (.slice ak nk ck) 0 w6) := HI.out.more b6
             clear b6)
          | (clear tk4; with_reducible refine wpSeq_cellU (.tmp 33) (.tmp 31) g9 2 (bcl qn (.slice ak nk ck) 0) (sn : Int) 25 bcl_two HI.out.b9 ?_ ?_ ?_ ?_ ?_
             · rfl
             · rfl
             · rfl
             · rfl
             intro w7 hb7 ho7
             have HI7 : Hid (MkI w bn (.slice adb nb cpb) bs qk qn (.slice adq nq cpq) au qy g h g6 g9 (.slice ak nk ck) sn w7) := HI.out.set hb7 ho7
             clear hb7 ho7 HI)
          | (clear tk5; with_reducible refine wpSeq_cellU (.tmp 41) (.tmp 39) g9 2 (bcl qn (.slice ak nk ck) 0) (sn : Int) 25 bcl_two HI.out.b9 ?_ ?_ ?_ ?_ ?_
             · rfl
             · rfl
             · rfl
             · rfl
             intro w7 hb7 ho7
             have HI7 : Hid (MkI w bn (.slice adb nb cpb) bs qk qn (.slice adq nq cpq) au qy g h g6 g9 (.slice ak nk ck) sn w7) := HI.out.set hb7 ho7
             clear hb7 ho7 HI)
          | (clear tk6; with_reducible refine wpSeq_build 25 [] (bcl [] (.slice none 0 0) 0) (by kernel_rfl) ?_ ?_ ?_
             · rfl
             · rfl)
          | (clear tk7; with_reducible refine wpSeq_loadW 25 (.tmp 9) g9 0 (bcl qn (.slice ak nk ck) sn) _ HI7.out.b9.range Tryd.underlying25 rfl info_bcl ?_ ?_ ?_ ?_
             · rfl
             · rfl
             · rfl)
          | (clear tk8; with_reducible refine wpSeq_storeRow 25 (.tmp 6) (.tmp 44) g6 (bcl [] (.slice none 0 0) 0) (bcl [] (.slice none 0 0) 0) HI7.out.b6 len_bcl info_bcl bcl_one ?_ ?_ ?_ ?_ ?_
             · rfl
             · rfl
             · rfl
             · rfl
             intro w8 sr
             have H8 : Hid (Blk w8 g6 (bcl [] (.slice none 0 0) 0) 25) := sr.blk
             have HRD : Hid (Reads w8 (.slice ak nk ck) qy) := (HI7.out.own.sameP fun k hk => sr.only.block k (fun e => HI7.out.own.ne_blk HI7.out.b6 (by decide) (e ▸ hk)) (HI7.out.own.ltP k hk).2).reads
             have HBL : Hid (Below w.heap.size w w8) := HI7.out.i.bel.trans (sr.only.below HI7.out.ge.1 HI7.out.i.bel.size)
             clear sr HI7)
          | (clear tk9; with_reducible refine wpSeq_storeRow 25 (.tmp 6) (.tmp 46) g6 (bcl [] (.slice none 0 0) 0) (bcl qn (.slice ak nk ck) sn) HI7.out.b6 len_bcl info_bcl bcl_one ?_ ?_ ?_ ?_ ?_
             · rfl
             · rfl
             · rfl
             · rfl
             intro w8 sr
             have H8 : Hid (Blk w8 g6 (bcl qn (.slice ak nk ck) sn) 25) := sr.blk
             have HRD : Hid (Reads w8 (.slice ak nk ck) qy) := (HI7.out.own.sameP fun k hk => sr.only.block k (fun e => HI7.out.own.ne_blk HI7.out.b6 (by decide) (e ▸ hk)) (HI7.out.own.ltP k hk).2).reads
             have HBL : Hid (Below w.heap.size w w8) := HI7.out.i.bel.trans (sr.only.below HI7.out.ge.1 HI7.out.i.bel.size)
             clear sr HI7))
        first
          | (refine bodyPost_ret (results_row_tmp (by rfl) _ _ g6 _ rfl (var_bind H8.out)) rfl ?_
             have k3 : e2 = 0 := by simpa using k2
             subst k3
             exact nxR_ok HE2.out.2.1 HRD.out HBL.out)
          | (refine bodyPost_ret (results_row_tmp (by rfl) _ _ g6 _ rfl (var_bind H8.out)) rfl ?_
             have k3 : e2 ≠ 0 := by simpa using k2
             have hn := HE2.out.2.1
             rw [HE2.out.2.2 k3] at hn
             exact nxR_no hn k3 HBL.out)
end Go.Proofs.YtmkjcgjbhibnpaaDoor
/- The walks of policy.Ask and of blazonref19 (layer 19). -/
namespace Go.Proofs.YtmkjcgjbhibnpaaDoor
open Go.RowKit
set_option maxRecDepth 100000
/-- what Ask tells -/
def AskR (bn bk ky : By) (s1 : Nat) (w : World) (e : Ending) (w' : World) : Prop :=
  ∃ ad n c, e = .returned (.agg (reqV 2 bn (.slice ad n c) (hmac bk (authB bn s1 ky))).toArray) ∧ Reads w' (.slice ad n c) ky ∧ Below w.heap.size w w'
theorem load_reqW {a : Act} {o : Oper} (x : Operand) (ho : o.op = .load 25 x) (b : Nat) (hx : a.eval x = .pointer (some ⟨b, 0, none⟩)) {nm : By} {v : Value} {sr : Nat} {w : World} (hb : Blk w b (bcl nm v sr) 25) : (execOp a.eval o).run Tryd.prog w = .ok (.value (.agg (bcl nm v sr).toArray)) w :=
  load_run 25 x ho b 0 hx _ _ hb.range Tryd.underlying25 rfl info_bind
set_option maxRecDepth 100000 in
set_option maxHeartbeats 8000000 in
theorem polAsk_any (bn bk ky : By) (vb vk : Value) (bs s1 : Nat) (w : World) (hK : KOk w) (hb : Reads w vb bk) (hk : Reads w vk ky) (h1 : IntKind.u64.wrap ((bs : Int) + 1) = (s1 : Int)) (hn : bn.length ≤ 1099511627776 ∧ ky.length ≤ 1099511627776 ∧ s1 < 18446744073709551616 ∧ bk.length ≤ 1099511627776) :
    Calls Tryd.prog 13 #[.agg (bcl bn vb bs).toArray, vk] w (AskR bn bk ky s1 w) := by
  have HKO : Hid (KOk w) := hK
  have HB : Hid (Reads w vb bk) := hb
  have HK : Hid (Reads w vk ky) := hk
  obtain ⟨adb, cpb, hvb⟩ := hb.sliceP
  obtain ⟨adq, cpq, hvq⟩ := hk.sliceP
  obtain ⟨nb, HNB⟩ : ∃ x, Hid (x = bk.length) := ⟨_, rfl⟩
  obtain ⟨nq, HNQ⟩ : ∃ x, Hid (x = ky.length) := ⟨_, rfl⟩
  rw [← HNB.out] at hvb
  rw [← HNQ.out] at hvq
  subst hvb hvq
  clear hb hk hK
  have HN : Hid (bn.length ≤ 1099511627776 ∧ ky.length ≤ 1099511627776 ∧ s1 < 18446744073709551616 ∧ bk.length ≤ 1099511627776) := hn
  clear hn
  obtain ⟨dg, HDG⟩ : ∃ x, Hid (x = hmac bk (authB bn s1 ky)) := ⟨_, rfl⟩
  have HDL : Hid (dg.length = 32) := by show _ = _; rw [HDG.out]; exact len_dig' _
  go_enter Tryd.func13, Tryd.ntmps13
  have tk0 : Hid True := trivial
  have tk1 : Hid True := trivial
  go_wp2_with (first
    | (clear tk0; with_reducible refine wpSeq_boxW 25 (.tmp 0) (bcl bn (.slice adb nb cpb) bs) ?_ ?_ ?_ ?_
       · rfl
       · rfl
       · rfl
       intro g w1 nb1
       have H1 : Hid (Blk w1 g (bcl bn (.slice adb nb cpb) bs) 25) := nb1.blk
       have HBE : Hid (Below w.heap.size w w1) := nb1.below
       clear nb1)
    | (clear tk1; with_reducible refine wpSeq_allocR ?_ ?_ ?_
       · rfl
       · rfl
       intro h w2 n6
       replace H1 : Hid (Blk w2 g (bcl bn (.slice adb nb cpb) bs) 25) := H1.out.below n6.below H1.out.lt
       have H6 : Hid (Blk w2 h (reqV 0 [] (.slice none 0 0) zb32) 29) := n6.blk
       have HG6 : Hid (w.heap.size ≤ h) := Nat.le_trans HBE.out.size n6.ge
       replace HBE : Hid (Below w.heap.size w w2) := HBE.out.trans (n6.below.mono HBE.out.size)
       clear n6))
  refine wp_region_held_drew (S := fun wx => Below w2.heap.size w2.drew wx ∨ ∃ y, Below w2.heap.size w2.drew y ∧ Only h y wx) (by kernel_rfl) (Or.inl (Below.refl _ _)) ?_
  intro hS
  clear hS
  have H12 : Hid (Blk w2.drew g (bcl bn (.slice adb nb cpb) bs) 25) := H1.out.below (Below.refl _ _).drew H1.out.lt
  have H62 : Hid (Blk w2.drew h (reqV 0 [] (.slice none 0 0) zb32) 29) := H6.out.below (Below.refl _ _).drew H6.out.lt
  have HBE2 : Hid (Below w.heap.size w w2.drew) := HBE.out.trans ((Below.refl _ _).drew.mono HBE.out.size)
  have HLT : Hid (g < w2.heap.size ∧ h < w2.heap.size ∧ w.heap.size ≤ w2.heap.size) := ⟨H1.out.lt, H6.out.lt, HBE.out.size⟩
  clear H1 H6 HBE
  obtain ⟨B, HBB⟩ : ∃ x, Hid (x = w2.heap.size) := ⟨_, rfl⟩
  have HBD : Hid (w2.drew.heap.size = B) := by rw [HBB.out]; rfl
  rw [← HBB.out] at HLT ⊢
  change wpAnyH _ _ _ _ _ _ _ _ (World.drew w2)
  generalize World.drew w2 = wd at *
  clear HBB
  have hS0 : Below B wd wd := Below.refl _ _
  have HGH : Hid (g ≠ h) := fun e => by have a := H12.out; have b := H62.out; rw [e] at a; unfold Blk at a b; rw [a] at b; simp only [Option.some.injEq, Obj.cells.injEq] at b; exact absurd b.2.1 (by decide)
  have HC : Hid (∀ wx, (Below B wd wx ∨ ∃ y, Below B wd y ∧ Only h y wx) → Blk wx g (bcl bn (.slice adb nb cpb) bs) 25) := fun wx hx => hx.elim (fun hx => H12.out.below hx HLT.out.1) fun ⟨y, hy, ho⟩ => (H12.out.below hy HLT.out.1).onlyP ho HGH.out
  have H6C : Hid (∀ wx, Below B wd wx → Blk wx h (reqV 0 [] (.slice none 0 0) zb32) 29) := fun wx hx => H62.out.below hx HLT.out.2.1
  have HBX : Hid (∀ wx, Below B wd wx → B ≤ wx.heap.size) := fun wx hx => by have := hx.size; rw [HBD.out] at this; exact this
  have HBW : Hid (∀ wx, Below B wd wx → Below w.heap.size w wx) := fun wx hx => HBE2.out.trans (hx.mono HLT.out.2.2)
  clear H12 H62
  have hS : Below B wd wd ∨ ∃ y, Below B wd y ∧ Only h y wd := Or.inl hS0
  refine wpAnyH_take (i := 0) (v := .pointer (some ⟨g, 0, none⟩)) rfl (by kernel_rfl) (by kernel_rfl) (by kernel_rfl) (fun _ _ _ h => h) (Or.inl ⟨by rfl, fun wx hx => by simp [go_sem]⟩) hS ?_
  simp only [Act.put, List.getElem_toArray, List.getElem_cons_zero, List.setIfInBounds_toArray, List.set_cons_zero, List.set_cons_succ]
  refine wpAnyH_take (i := 1) (v := .string (strB bn)) rfl (by kernel_rfl) (by kernel_rfl) (by kernel_rfl) (fun _ _ _ h => h) (Or.inl ⟨by rfl, fun wx hx => by (have hq := (HC.out wx hx).cell 0; simp [go_sem, bcl] at hq ⊢; simp [hq])⟩) hS ?_
  simp only [Act.put, List.getElem_toArray, List.getElem_cons_succ, List.getElem_cons_zero, List.setIfInBounds_toArray, List.set_cons_zero, List.set_cons_succ]
  refine wpAnyH_take (i := 2) (v := .slice adq nq cpq) rfl (by kernel_rfl) (by kernel_rfl) (by kernel_rfl) (fun _ _ _ h => h) (Or.inl ⟨by rfl, fun wx hx => by simp [go_sem]⟩) hS ?_
  simp only [Act.put, List.getElem_toArray, List.getElem_cons_succ, List.getElem_cons_zero, List.setIfInBounds_toArray, List.set_cons_zero, List.set_cons_succ]
  refine wpAnyH_take (i := 4) (v := .agg (bcl bn (.slice adb nb cpb) bs).toArray) rfl (by kernel_rfl) (by kernel_rfl) (by kernel_rfl) (fun _ _ _ h => h) (Or.inl ⟨by rfl, fun wx hx => by exact load_reqW _ rfl _ rfl (HC.out wx hx)⟩) hS ?_
  simp only [Act.put, List.getElem_toArray, List.getElem_cons_succ, List.getElem_cons_zero, List.setIfInBounds_toArray, List.set_cons_zero, List.set_cons_succ]
  refine wpAnyH_take (i := 5) (v := .slice adq nq cpq) rfl (by kernel_rfl) (by kernel_rfl) (by kernel_rfl) (fun _ _ _ h => h) (Or.inl ⟨by rfl, fun wx hx => by simp [go_sem]⟩) hS ?_
  simp only [Act.put, List.getElem_toArray, List.getElem_cons_succ, List.getElem_cons_zero, List.setIfInBounds_toArray, List.set_cons_zero, List.set_cons_succ]
  refine wpAnyH_enter 3 (by kernel_rfl) rfl (by rfl) (f := 19) (args := #[.slice adq nq cpq]) (by simp [go_sem]) (bclone_any (.slice adq nq cpq) ky wd (HK.out.below (HBW.out wd hS0)) (by have := HN.out.2.1; omega)) ?_
  rintro e w3 ⟨v3, rfl, ow, b3⟩
  have hS3 : Below B wd w3 := b3.mono (Nat.le_of_eq HBD.out.symm)
  obtain ⟨ak, ck, rfl⟩ := ow.formP
  obtain ⟨nk, HNK⟩ : ∃ x, Hid (x = ky.length) := ⟨_, rfl⟩
  rw [← HNK.out] at ow ⊢
  refine ⟨_, rfl, Or.inl hS3, ?_⟩
  simp only [Act.put, List.getElem_toArray, List.getElem_cons_succ, List.getElem_cons_zero, List.setIfInBounds_toArray, List.set_cons_zero, List.set_cons_succ]
  have hcc := polAuth_any bn bk ky (.slice adb nb cpb) (.slice adq nq cpq) bs s1 w3 (HKO.out.below (HBW.out w3 hS3) HKO.out.lt) (HB.out.below (HBW.out w3 hS3)) (HK.out.below (HBW.out w3 hS3)) h1 HN.out
  rw [← HDG.out] at hcc
  refine wpAnyH_enter 6 (by kernel_rfl) rfl (by rfl) (f := 22) (args := #[.agg (bcl bn (.slice adb nb cpb) bs).toArray, .slice adq nq cpq]) (by simp [go_sem]) hcc ?_
  rintro e w4 ⟨rfl, b4⟩
  have hS4 : Below B wd w4 := hS3.trans (b4.mono (HBX.out _ hS3))
  refine ⟨_, rfl, (Or.inl hS4), ?_⟩
  simp only [Act.put, List.getElem_toArray, List.getElem_cons_succ, List.getElem_cons_zero, List.setIfInBounds_toArray, List.set_cons_zero, List.set_cons_succ]
  replace ow := ow.next b4
  clear hcc hS3 b3 b4
  refine wpAnyH_take (i := 7) (v := .agg (reqV 2 bn (.slice ak nk ck) dg).toArray) rfl (by kernel_rfl) (by kernel_rfl) (by kernel_rfl) (fun _ _ _ h => h) (Or.inl ⟨by rfl, fun wx hx => by exact build_op _ _ 29 [(0, .const (.int .i64 2)), (1, .tmp 6), (2, .tmp 8), (3, .tmp 11)] rfl _ (by rw [built_rq]; exact fill_rq HDL.out) _⟩) (Or.inl hS4) ?_
  simp only [Act.put, List.getElem_toArray, List.getElem_cons_succ, List.getElem_cons_zero, List.setIfInBounds_toArray, List.set_cons_zero, List.set_cons_succ]
  refine wpAnyH_storeRow 8 29 (.tmp 4) (.tmp 12) h (reqV 0 [] (.slice none 0 0) zb32) (reqV 2 bn (.slice ak nk ck) dg) (H6C.out _ hS4) (by rw [len_req HDL.out]; rfl) (info_reqV HDL.out) reqV_one (by kernel_rfl) rfl (by rfl) (by rfl) (by rfl) (by rfl) ?_
  intro w7 sr
  refine ⟨Or.inr ⟨_, hS4, sr.only⟩, ?_⟩
  simp only [Act.put, List.getElem_toArray, List.getElem_cons_succ, List.getElem_cons_zero]
  refine wpAnyH_done (by kernel_rfl) ?_ _
  have HR7 : Hid (Blk w7 h (reqV 2 bn (.slice ak nk ck) dg) 29) := sr.blk
  have HB7 : Hid (Below w.heap.size w w7) := (HBW.out _ hS4).trans (sr.only.below HG6.out (HBW.out _ hS4).size)
  have HRD : Hid (Reads w7 (.slice ak nk ck) ky) := (ow.sameP fun k hk => sr.only.block k (fun e => ow.ne_blk (H6C.out _ hS4) (by decide) (e ▸ hk)) (ow.ltP k hk).2).reads
  clear sr hS4 ow hS
  go_wp2
  refine bodyPost_ret (results_cell_row (by rfl) _ _ h 29 _ (0, 0) _ rfl HR7.out Tryd.underlying29 rfl (by rw [List.size_toArray]; exact info_reqV HDL.out)) rfl ?_
  exact ⟨_, _, _, by rw [HDG.out], HRD.out, HB7.out⟩
set_option maxRecDepth 100000 in
set_option maxHeartbeats 8000000 in
theorem yAsk_any (bn bk ky : By) (vb vk : Value) (bs s1 : Nat) (w : World) (hK : KOk w) (hb : Reads w vb bk) (hk : Reads w vk ky) (h1 : IntKind.u64.wrap ((bs : Int) + 1) = (s1 : Int)) (hn : bn.length ≤ 1099511627776 ∧ ky.length ≤ 1099511627776 ∧ s1 < 18446744073709551616 ∧ bk.length ≤ 1099511627776) :
    Calls Tryd.prog 15 #[.agg (bcl bn vb bs).toArray, vk] w (AskR bn bk ky s1 w) := by
  have HKO : Hid (KOk w) := hK
  have HB : Hid (Reads w vb bk) := hb
  have HK : Hid (Reads w vk ky) := hk
  obtain ⟨adb, cpb, hvb⟩ := hb.sliceP
  obtain ⟨adq, cpq, hvq⟩ := hk.sliceP
  obtain ⟨nb, HNB⟩ : ∃ x, Hid (x = bk.length) := ⟨_, rfl⟩
  obtain ⟨nq, HNQ⟩ : ∃ x, Hid (x = ky.length) := ⟨_, rfl⟩
  rw [← HNB.out] at hvb
  rw [← HNQ.out] at hvq
  subst hvb hvq
  clear hb hk hK
  have HN : Hid (bn.length ≤ 1099511627776 ∧ ky.length ≤ 1099511627776 ∧ s1 < 18446744073709551616 ∧ bk.length ≤ 1099511627776) := hn
  clear hn
  obtain ⟨dg, HDG⟩ : ∃ x, Hid (x = hmac bk (authB bn s1 ky)) := ⟨_, rfl⟩
  have HDL : Hid (dg.length = 32) := by show _ = _; rw [HDG.out]; exact len_dig' _
  go_enter Tryd.func15, Tryd.ntmps15
  have tk0 : Hid True := trivial
  have tk1 : Hid True := trivial
  go_wp2_with (first
    | (clear tk0; with_reducible refine wpSeq_boxW 25 (.tmp 0) (bcl bn (.slice adb nb cpb) bs) ?_ ?_ ?_ ?_
       · rfl
       · rfl
       · rfl
       intro g w1 nb1
       have H1 : Hid (Blk w1 g (bcl bn (.slice adb nb cpb) bs) 25) := nb1.blk
       have HBE : Hid (Below w.heap.size w w1) := nb1.below
       clear nb1)
    | (clear tk1; with_reducible refine wpSeq_allocR ?_ ?_ ?_
       · rfl
       · rfl
       intro h w2 n6
       replace H1 : Hid (Blk w2 g (bcl bn (.slice adb nb cpb) bs) 25) := H1.out.below n6.below H1.out.lt
       have H6 : Hid (Blk w2 h (reqV 0 [] (.slice none 0 0) zb32) 29) := n6.blk
       have HG6 : Hid (w.heap.size ≤ h) := Nat.le_trans HBE.out.size n6.ge
       replace HBE : Hid (Below w.heap.size w w2) := HBE.out.trans (n6.below.mono HBE.out.size)
       clear n6))
  refine wp_region_held_drew (S := fun wx => Below w2.heap.size w2.drew wx ∨ ∃ y, Below w2.heap.size w2.drew y ∧ Only h y wx) (by kernel_rfl) (Or.inl (Below.refl _ _)) ?_
  intro hS
  clear hS
  have H12 : Hid (Blk w2.drew g (bcl bn (.slice adb nb cpb) bs) 25) := H1.out.below (Below.refl _ _).drew H1.out.lt
  have H62 : Hid (Blk w2.drew h (reqV 0 [] (.slice none 0 0) zb32) 29) := H6.out.below (Below.refl _ _).drew H6.out.lt
  have HBE2 : Hid (Below w.heap.size w w2.drew) := HBE.out.trans ((Below.refl _ _).drew.mono HBE.out.size)
  have HLT : Hid (g < w2.heap.size ∧ h < w2.heap.size ∧ w.heap.size ≤ w2.heap.size) := ⟨H1.out.lt, H6.out.lt, HBE.out.size⟩
  clear H1 H6 HBE
  obtain ⟨B, HBB⟩ : ∃ x, Hid (x = w2.heap.size) := ⟨_, rfl⟩
  have HBD : Hid (w2.drew.heap.size = B) := by rw [HBB.out]; rfl
  rw [← HBB.out] at HLT ⊢
  change wpAnyH _ _ _ _ _ _ _ _ (World.drew w2)
  generalize World.drew w2 = wd at *
  clear HBB
  have hS0 : Below B wd wd := Below.refl _ _
  have HGH : Hid (g ≠ h) := fun e => by have a := H12.out; have b := H62.out; rw [e] at a; unfold Blk at a b; rw [a] at b; simp only [Option.some.injEq, Obj.cells.injEq] at b; exact absurd b.2.1 (by decide)
  have HC : Hid (∀ wx, (Below B wd wx ∨ ∃ y, Below B wd y ∧ Only h y wx) → Blk wx g (bcl bn (.slice adb nb cpb) bs) 25) := fun wx hx => hx.elim (fun hx => H12.out.below hx HLT.out.1) fun ⟨y, hy, ho⟩ => (H12.out.below hy HLT.out.1).onlyP ho HGH.out
  have H6C : Hid (∀ wx, Below B wd wx → Blk wx h (reqV 0 [] (.slice none 0 0) zb32) 29) := fun wx hx => H62.out.below hx HLT.out.2.1
  have HBX : Hid (∀ wx, Below B wd wx → B ≤ wx.heap.size) := fun wx hx => by have := hx.size; rw [HBD.out] at this; exact this
  have HBW : Hid (∀ wx, Below B wd wx → Below w.heap.size w wx) := fun wx hx => HBE2.out.trans (hx.mono HLT.out.2.2)
  clear H12 H62
  have hS : Below B wd wd ∨ ∃ y, Below B wd y ∧ Only h y wd := Or.inl hS0
  refine wpAnyH_take (i := 0) (v := .pointer (some ⟨g, 0, none⟩)) rfl (by kernel_rfl) (by kernel_rfl) (by kernel_rfl) (fun _ _ _ h => h) (Or.inl ⟨by rfl, fun wx hx => by simp [go_sem]⟩) hS ?_
  simp only [Act.put, List.getElem_toArray, List.getElem_cons_zero, List.setIfInBounds_toArray, List.set_cons_zero, List.set_cons_succ]
  refine wpAnyH_take (i := 1) (v := .string (strB bn)) rfl (by kernel_rfl) (by kernel_rfl) (by kernel_rfl) (fun _ _ _ h => h) (Or.inl ⟨by rfl, fun wx hx => by (have hq := (HC.out wx hx).cell 0; simp [go_sem, bcl] at hq ⊢; simp [hq])⟩) hS ?_
  simp only [Act.put, List.getElem_toArray, List.getElem_cons_succ, List.getElem_cons_zero, List.setIfInBounds_toArray, List.set_cons_zero, List.set_cons_succ]
  refine wpAnyH_take (i := 2) (v := .slice adq nq cpq) rfl (by kernel_rfl) (by kernel_rfl) (by kernel_rfl) (fun _ _ _ h => h) (Or.inl ⟨by rfl, fun wx hx => by simp [go_sem]⟩) hS ?_
  simp only [Act.put, List.getElem_toArray, List.getElem_cons_succ, List.getElem_cons_zero, List.setIfInBounds_toArray, List.set_cons_zero, List.set_cons_succ]
  refine wpAnyH_take (i := 3) (v := .pointer (some ⟨g, 1, none⟩)) rfl (by kernel_rfl) (by kernel_rfl) (by kernel_rfl) (fun _ _ _ h => h) (Or.inl ⟨by rfl, fun wx hx => by simp [go_sem]⟩) hS ?_
  simp only [Act.put, List.getElem_toArray, List.getElem_cons_succ, List.getElem_cons_zero, List.setIfInBounds_toArray, List.set_cons_zero, List.set_cons_succ]
  refine wpAnyH_take (i := 4) (v := .slice adb nb cpb) rfl (by kernel_rfl) (by kernel_rfl) (by kernel_rfl) (fun _ _ _ h => h) (Or.inl ⟨by rfl, fun wx hx => by (have hq := (HC.out wx hx).cell 1; simp [go_sem, bcl] at hq ⊢; simp [hq])⟩) hS ?_
  simp only [Act.put, List.getElem_toArray, List.getElem_cons_succ, List.getElem_cons_zero, List.setIfInBounds_toArray, List.set_cons_zero, List.set_cons_succ]
  refine wpAnyH_take (i := 5) (v := .pointer (some ⟨g, 0, none⟩)) rfl (by kernel_rfl) (by kernel_rfl) (by kernel_rfl) (fun _ _ _ h => h) (Or.inl ⟨by rfl, fun wx hx => by simp [go_sem]⟩) hS ?_
  simp only [Act.put, List.getElem_toArray, List.getElem_cons_succ, List.getElem_cons_zero, List.setIfInBounds_toArray, List.set_cons_zero, List.set_cons_succ]
  refine wpAnyH_take (i := 6) (v := .string (strB bn)) rfl (by kernel_rfl) (by kernel_rfl) (by kernel_rfl) (fun _ _ _ h => h) (Or.inl ⟨by rfl, fun wx hx => by (have hq := (HC.out wx hx).cell 0; simp [go_sem, bcl] at hq ⊢; simp [hq])⟩) hS ?_
  simp only [Act.put, List.getElem_toArray, List.getElem_cons_succ, List.getElem_cons_zero, List.setIfInBounds_toArray, List.set_cons_zero, List.set_cons_succ]
  refine wpAnyH_take (i := 7) (v := .pointer (some ⟨g, 2, none⟩)) rfl (by kernel_rfl) (by kernel_rfl) (by kernel_rfl) (fun _ _ _ h => h) (Or.inl ⟨by rfl, fun wx hx => by simp [go_sem]⟩) hS ?_
  simp only [Act.put, List.getElem_toArray, List.getElem_cons_succ, List.getElem_cons_zero, List.setIfInBounds_toArray, List.set_cons_zero, List.set_cons_succ]
  refine wpAnyH_take (i := 8) (v := .int .u64 (bs : Int)) rfl (by kernel_rfl) (by kernel_rfl) (by kernel_rfl) (fun _ _ _ h => h) (Or.inl ⟨by rfl, fun wx hx => by (have hq := (HC.out wx hx).cell 2; simp [go_sem, bcl] at hq ⊢; simp [hq])⟩) hS ?_
  simp only [Act.put, List.getElem_toArray, List.getElem_cons_succ, List.getElem_cons_zero, List.setIfInBounds_toArray, List.set_cons_zero, List.set_cons_succ]
  refine wpAnyH_take (i := 9) (v := .int .u64 (s1 : Int)) rfl (by kernel_rfl) (by kernel_rfl) (by kernel_rfl) (fun _ _ _ h => h) (Or.inl ⟨by rfl, fun wx hx => by simp [go_sem, h1]⟩) hS ?_
  simp only [Act.put, List.getElem_toArray, List.getElem_cons_succ, List.getElem_cons_zero, List.setIfInBounds_toArray, List.set_cons_zero, List.set_cons_succ]
  refine wpAnyH_take (i := 10) (v := .slice adq nq cpq) rfl (by kernel_rfl) (by kernel_rfl) (by kernel_rfl) (fun _ _ _ h => h) (Or.inl ⟨by rfl, fun wx hx => by simp [go_sem]⟩) hS ?_
  simp only [Act.put, List.getElem_toArray, List.getElem_cons_succ, List.getElem_cons_zero, List.setIfInBounds_toArray, List.set_cons_zero, List.set_cons_succ]
  have hcc := rAuth_any bk bn ky (.slice adb nb cpb) (.slice adq nq cpq) s1 wd (HB.out.below (HBW.out wd hS0)) (HK.out.below (HBW.out wd hS0)) HN.out
  rw [← HDG.out] at hcc
  refine wpAnyH_enter 11 (by kernel_rfl) rfl (by rfl) (f := 17) (args := #[.slice adb nb cpb, .string (strB bn), .int .u64 (s1 : Int), .slice adq nq cpq]) (by simp [go_sem]) hcc ?_
  rintro e w4 ⟨rfl, b4⟩
  have hS4 : Below B wd w4 := b4.mono (Nat.le_of_eq HBD.out.symm)
  refine ⟨_, rfl, (Or.inl hS4), ?_⟩
  simp only [Act.put, List.getElem_toArray, List.getElem_cons_succ, List.getElem_cons_zero, List.setIfInBounds_toArray, List.set_cons_zero, List.set_cons_succ]
  clear hcc b4
  refine wpAnyH_take (i := 12) (v := .agg (reqV 2 bn (.slice adq nq cpq) dg).toArray) rfl (by kernel_rfl) (by kernel_rfl) (by kernel_rfl) (fun _ _ _ h => h) (Or.inl ⟨by rfl, fun wx hx => by exact build_op _ _ 29 [(0, .const (.int .i64 2)), (1, .tmp 6), (2, .tmp 7), (3, .tmp 16)] rfl _ (by rw [built_rq]; exact fill_rq HDL.out) _⟩) (Or.inl hS4) ?_
  simp only [Act.put, List.getElem_toArray, List.getElem_cons_succ, List.getElem_cons_zero, List.setIfInBounds_toArray, List.set_cons_zero, List.set_cons_succ]
  refine wpAnyH_storeRow 13 29 (.tmp 4) (.tmp 17) h (reqV 0 [] (.slice none 0 0) zb32) (reqV 2 bn (.slice adq nq cpq) dg) (H6C.out _ hS4) (by rw [len_req HDL.out]; rfl) (info_reqV HDL.out) reqV_one (by kernel_rfl) rfl (by rfl) (by rfl) (by rfl) (by rfl) ?_
  intro w7 sr
  refine ⟨Or.inr ⟨_, hS4, sr.only⟩, ?_⟩
  simp only [Act.put, List.getElem_toArray, List.getElem_cons_succ, List.getElem_cons_zero]
  refine wpAnyH_done (by kernel_rfl) ?_ _
  have HR7 : Hid (Blk w7 h (reqV 2 bn (.slice adq nq cpq) dg) 29) := sr.blk
  have HB7 : Hid (Below w.heap.size w w7) := (HBW.out _ hS4).trans (sr.only.below HG6.out (HBW.out _ hS4).size)
  have HRD : Hid (Reads w7 (.slice adq nq cpq) ky) := HK.out.below HB7.out
  clear sr hS4 hS
  go_wp2
  refine bodyPost_ret (results_cell_row (by rfl) _ _ h 29 _ (0, 0) _ rfl HR7.out Tryd.underlying29 rfl (by rw [List.size_toArray]; exact info_reqV HDL.out)) rfl ?_
  exact ⟨_, _, _, by rw [HDG.out], HRD.out, HB7.out⟩
set_option maxRecDepth 100000 in
set_option maxHeartbeats 16000000 in
theorem yNext_any (bn bk : By) (vb : Value) (bs : Nat) (th : Bool) (qk : Int) (qn qy au : By) (vk : Value) (w : World) (hb : Reads w vb bk) (hk : Reads w vk qy) (ha : au.length = 32) (hbs : bs < 18446744073709551616) (hn : bk.length ≤ 1099511627776) :
    Calls Tryd.prog 11 #[.agg (bcl bn vb bs).toArray, .bool th, .agg (reqV qk qn vk au).toArray] w (NxR bn bk bs th qk qn qy au w) := by
  have HB : Hid (Reads w vb bk) := hb
  have HK : Hid (Reads w vk qy) := hk
  obtain ⟨adb, cpb, hvb⟩ := hb.sliceP
  obtain ⟨adq, cpq, hvq⟩ := hk.sliceP
  obtain ⟨nb, HNB⟩ : ∃ x, Hid (x = bk.length) := ⟨_, rfl⟩
  obtain ⟨nq, HNQ⟩ : ∃ x, Hid (x = qy.length) := ⟨_, rfl⟩
  rw [← HNB.out] at hvb
  rw [← HNQ.out] at hvq
  subst hvb hvq
  clear hb hk
  have HN : Hid (bk.length ≤ 1099511627776) := hn
  have HA : Hid (au.length = 32) := ha
  have HBS : Hid (bs < 18446744073709551616) := hbs
  clear hn ha hbs
  obtain ⟨er, sn, HNX⟩ : ∃ er sn, Hid (nxE bn bk bs th qk qn qy au = (er, sn)) := ⟨_, _, rfl⟩
  obtain ⟨ck, HCK⟩ : ∃ x, Hid (x = chk qn qy) := ⟨_, rfl⟩
  have hs1 := strB_inj bn qn
  obtain ⟨s1, HS1⟩ : ∃ x, Hid (x = bs + 1) := ⟨_, rfl⟩
  obtain ⟨dg, HDG⟩ : ∃ x, Hid (x = hmac bk (authB bn s1 qy)) := ⟨_, rfl⟩
  have HDL : Hid (dg.length = 32) := by show _ = _; rw [HDG.out]; exact len_dig' _
  have key : (qk ≠ 1 ∧ qk ≠ 2 ∧ er = 1 ∧ sn = 0) ∨ ((qk = 1 ∨ qk = 2) ∧ ((ck = 4 ∧ er = 4 ∧ sn = 0) ∨ (ck = 5 ∧ er = 5 ∧ sn = 0) ∨ (ck = 0 ∧ th = true ∧ bn ≠ qn ∧ er = 1 ∧ sn = 0))) ∨ (ck = 0 ∧ (th = true → bn = qn) ∧ ((qk = 1 ∧ ((th = true ∧ er = 6 ∧ sn = 0) ∨ (th = false ∧ au = zb32 ∧ er = 0 ∧ sn = 1) ∨ (th = false ∧ au ≠ zb32 ∧ er = 8 ∧ sn = 0))) ∨
      (qk = 2 ∧ ((th = false ∧ er = 7 ∧ sn = 0) ∨ (th = true ∧ bs = 18446744073709551615 ∧ er = 12 ∧ sn = 0) ∨ (th = true ∧ bs ≠ 18446744073709551615 ∧ au = dg ∧ er = 0 ∧ sn = s1) ∨ (th = true ∧ bs ≠ 18446744073709551615 ∧ au ≠ dg ∧ er = 8 ∧ sn = 0))))) := by
    have h0 := HNX.out
    have h2 := HCK.out
    have h3 := chk_in qn qy
    have h4 := HDG.out
    rw [HS1.out] at h4
    rw [HS1.out]
    unfold nxE rgE cgE at h0
    rw [← h4] at h0
    rw [← h2] at h3
    clear HNX HCK HDG hs1
    by_cases k1 : qk ≠ 1 ∧ qk ≠ 2
    · have hp : pcE bn th qk qn qy = 1 := by unfold pcE; rw [if_pos k1]
      rw [hp, if_pos (by decide)] at h0; exact Or.inl ⟨k1.1, k1.2, by cases h0; simp⟩
    · refine Or.inr ?_
      rcases h3 with h3 | h3 | h3
      · subst h3
        by_cases k2 : th = true ∧ bn ≠ qn
        · have hp : pcE bn th qk qn qy = 1 := by unfold pcE; rw [if_neg k1, ← h2, if_neg (by simp), if_pos k2]
          rw [hp, if_pos (by decide)] at h0; cases h0; exact Or.inl ⟨by omega, Or.inr (Or.inr ⟨rfl, k2.1, k2.2, rfl, rfl⟩)⟩
        · have hp : pcE bn th qk qn qy = 0 := by unfold pcE; rw [if_neg k1, ← h2, if_neg (by simp), if_neg k2]
          rw [hp, if_neg (by simp)] at h0
          refine Or.inr ⟨rfl, fun ht => Decidable.not_not.1 fun hn => k2 ⟨ht, hn⟩, ?_⟩
          by_cases k3 : qk = 1
          · rw [if_pos k3] at h0
            refine Or.inl ⟨k3, ?_⟩
            cases th with
            | true => cases h0; exact Or.inl ⟨rfl, rfl, rfl⟩
            | false =>
              rw [if_neg (by simp)] at h0
              by_cases k4 : au = zb32
              · rw [if_pos k4] at h0; cases h0; exact Or.inr (Or.inl ⟨rfl, k4, rfl, rfl⟩)
              · rw [if_neg k4] at h0; cases h0; exact Or.inr (Or.inr ⟨rfl, k4, rfl, rfl⟩)
          · rw [if_neg k3] at h0
            refine Or.inr ⟨by omega, ?_⟩
            cases th with
            | false => cases h0; exact Or.inl ⟨rfl, rfl, rfl⟩
            | true =>
              rw [if_neg (by simp)] at h0
              by_cases k4 : bs = 18446744073709551615
              · rw [if_pos k4] at h0; cases h0; exact Or.inr (Or.inl ⟨rfl, k4, rfl, rfl⟩)
              · rw [if_neg k4] at h0
                by_cases k5 : au = dg
                · rw [if_pos k5] at h0; cases h0; exact Or.inr (Or.inr (Or.inl ⟨rfl, k4, k5, rfl, rfl⟩))
                · rw [if_neg k5] at h0; cases h0; exact Or.inr (Or.inr (Or.inr ⟨rfl, k4, k5, rfl, rfl⟩))
      · subst h3
        have hp : pcE bn th qk qn qy = 4 := by unfold pcE; rw [if_neg k1, ← h2, if_pos (by decide)]
        rw [hp, if_pos (by decide)] at h0; cases h0; exact Or.inl ⟨by omega, Or.inl ⟨rfl, rfl, rfl⟩⟩
      · subst h3
        have hp : pcE bn th qk qn qy = 5 := by unfold pcE; rw [if_neg k1, ← h2, if_pos (by decide)]
        rw [hp, if_pos (by decide)] at h0; cases h0; exact Or.inl ⟨by omega, Or.inr (Or.inl ⟨rfl, rfl, rfl⟩)⟩
  rcases key with ⟨k1, k2, rfl, rfl⟩ | ⟨k1, key⟩ | ⟨hck, k1, ⟨rfl, key⟩ | ⟨rfl, key⟩⟩
  · have e1 : (qk != 1) = true := by simp [k1]
    have e2 : (qk != 2) = true := by simp [k2]
    clear k1 k2 hs1
    go_enter Tryd.func11, Tryd.ntmps11
    have tk0 : Hid True := trivial
    have tk1 : Hid True := trivial
    have tk2 : Hid True := trivial
    have tk3 : Hid True := trivial
    have tk4 : Hid True := trivial
    go_wp2_with (first
      | (clear tk0; with_reducible refine wpSeq_boxW 25 (.tmp 0) (bcl bn (.slice adb nb cpb) bs) ?_ ?_ ?_ ?_
         · rfl
         · rfl
         · rfl
         intro g w1 nb1)
      | (clear tk1; with_reducible refine wpSeq_boxW 29 (.tmp 2) (reqV qk qn (.slice adq nq cpq) au) ?_ ?_ ?_ ?_
         · rfl
         · rfl
         · rfl
         intro h w2 nq2
         have HI : Hid (BqI w bn (.slice adb nb cpb) bs qk qn (.slice adq nq cpq) au g h w2) := ⟨nb1.blk.below nq2.below nb1.blk.lt, nq2.blk, nb1.below.trans (nq2.below.mono nb1.below.size), nb1.ge, Nat.le_trans nb1.below.size nq2.ge⟩
         clear nb1 nq2)
      | (clear tk2; with_reducible refine wpSeq_allocB ?_ ?_ ?_
         · rfl
         · rfl
         intro g6 w3 n6
         have HG6 : Hid (w.heap.size ≤ g6) := Nat.le_trans HI.out.bel.size n6.ge
         replace HI : Hid (BqI w bn (.slice adb nb cpb) bs qk qn (.slice adq nq cpq) au g h w3) := HI.out.more n6.below
         have H6 : Hid (Blk w3 g6 (bcl [] (.slice none 0 0) 0) 25) := n6.blk
         clear n6
         have c0 : w3.cell? ⟨h, 0, none⟩ = some (.int .i64 qk) := HI.out.q.cell 0
         have c1 : w3.cell? ⟨h, 1, none⟩ = some (.string (strB qn)) := HI.out.q.cell 1
         have c2 : w3.cell? ⟨h, 2, none⟩ = some (.slice adq nq cpq) := HI.out.q.cell 2
         have d0 : w3.cell? ⟨g, 0, none⟩ = some (.string (strB bn)) := HI.out.b.cell 0
         have d2 : w3.cell? ⟨g, 2, none⟩ = some (.int .u64 (bs : Int)) := HI.out.b.cell 2)
      | (clear tk3; with_reducible refine wpSeq_build 25 [] (bcl [] (.slice none 0 0) 0) (by kernel_rfl) ?_ ?_ ?_
         · rfl
         · rfl)
      | (clear tk4; with_reducible refine wpSeq_storeRow 25 (.tmp 6) (.tmp 17) g6 (bcl [] (.slice none 0 0) 0) (bcl [] (.slice none 0 0) 0) H6.out len_bcl info_bcl bcl_one ?_ ?_ ?_ ?_ ?_
         · rfl
         · rfl
         · rfl
         · rfl
         intro w5 sr
         have H9 : Hid (Blk w5 g6 (bcl [] (.slice none 0 0) 0) 25) := sr.blk
         have HBL : Hid (Below w.heap.size w w5) := HI.out.bel.trans (sr.only.below HG6.out HI.out.bel.size)
         have HRD : Hid (Reads w5 (.slice adq nq cpq) qy) := HK.out.below HBL.out
         clear sr HI))
    refine bodyPost_ret (results_row_tmp (by rfl) _ _ g6 _ rfl (var_bind H9.out)) rfl ?_
    exact nxR_no HNX.out (by decide) HBL.out
  · have k3 : ((qk != 1) = false ∧ (qk != 2) = true) ∨ ((qk != 1) = true ∧ (qk != 2) = false) := by rcases k1 with k1 | k1 <;> simp [k1]
    clear k1
    rcases k3 with ⟨e1, e2⟩ | ⟨e1, e2⟩ <;> rcases key with ⟨hck, rfl, rfl⟩ | ⟨hck, rfl, rfl⟩ | ⟨hck, rfl, k2, rfl, rfl⟩ <;> subst hck <;> first | rw [decide_eq_false k2] at hs1 | clear hs1
    all_goals try clear k2
    all_goals
      go_enter Tryd.func11, Tryd.ntmps11
      have tk0 : Hid True := trivial
      have tk1 : Hid True := trivial
      have tk2 : Hid True := trivial
      have tk3 : Hid True := trivial
      have tk4 : Hid True := trivial
      have tk5 : Hid True := trivial
      have tk6 : Hid True := trivial
      go_wp2_with (first
        | (clear tk0; with_reducible refine wpSeq_boxW 25 (.tmp 0) (bcl bn (.slice adb nb cpb) bs) ?_ ?_ ?_ ?_
           · rfl
           · rfl
           · rfl
           intro g w1 nb1)
        | (clear tk1; with_reducible refine wpSeq_boxW 29 (.tmp 2) (reqV qk qn (.slice adq nq cpq) au) ?_ ?_ ?_ ?_
           · rfl
           · rfl
           · rfl
           intro h w2 nq2
           have HI : Hid (BqI w bn (.slice adb nb cpb) bs qk qn (.slice adq nq cpq) au g h w2) := ⟨nb1.blk.below nq2.below nb1.blk.lt, nq2.blk, nb1.below.trans (nq2.below.mono nb1.below.size), nb1.ge, Nat.le_trans nb1.below.size nq2.ge⟩
           clear nb1 nq2)
        | (clear tk2; with_reducible refine wpSeq_allocB ?_ ?_ ?_
           · rfl
           · rfl
           intro g6 w3 n6
           have HG6 : Hid (w.heap.size ≤ g6) := Nat.le_trans HI.out.bel.size n6.ge
           replace HI : Hid (BqI w bn (.slice adb nb cpb) bs qk qn (.slice adq nq cpq) au g h w3) := HI.out.more n6.below
           have H6 : Hid (Blk w3 g6 (bcl [] (.slice none 0 0) 0) 25) := n6.blk
           clear n6
           have c0 : w3.cell? ⟨h, 0, none⟩ = some (.int .i64 qk) := HI.out.q.cell 0
           have c1 : w3.cell? ⟨h, 1, none⟩ = some (.string (strB qn)) := HI.out.q.cell 1
           have c2 : w3.cell? ⟨h, 2, none⟩ = some (.slice adq nq cpq) := HI.out.q.cell 2
           have d0 : w3.cell? ⟨g, 0, none⟩ = some (.string (strB bn)) := HI.out.b.cell 0
           have d2 : w3.cell? ⟨g, 2, none⟩ = some (.int .u64 (bs : Int)) := HI.out.b.cell 2)
        | (clear tk3; go_at_call 16; refine (rfcheck_any qn qy (.slice adq nq cpq) _ (HK.out.below HI.out.bel)).mono ?_; rintro e w4 ⟨rfl, q4, rfl⟩
           rw [← HCK.out]
           have b4 : Below w3.heap.size w3 (w3.drewN q4) := ⟨rfl, rfl, rfl, Nat.le_refl _, fun _ _ => rfl⟩
           replace HI : Hid (BqI w bn (.slice adb nb cpb) bs qk qn (.slice adq nq cpq) au g h (w3.drewN q4)) := HI.out.more b4
           replace H6 : Hid (Blk (w3.drewN q4) g6 (bcl [] (.slice none 0 0) 0) 25) := H6.out.below b4 H6.out.lt
           clear b4 c0 c1 c2 d0 d2
           generalize w3.drewN q4 = w4 at *
           have c0 : w4.cell? ⟨h, 0, none⟩ = some (.int .i64 qk) := HI.out.q.cell 0
           have c1 : w4.cell? ⟨h, 1, none⟩ = some (.string (strB qn)) := HI.out.q.cell 1
           have c2 : w4.cell? ⟨h, 2, none⟩ = some (.slice adq nq cpq) := HI.out.q.cell 2
           have d0 : w4.cell? ⟨g, 0, none⟩ = some (.string (strB bn)) := HI.out.b.cell 0
           have d2 : w4.cell? ⟨g, 2, none⟩ = some (.int .u64 (bs : Int)) := HI.out.b.cell 2)
        | (clear tk4; with_reducible refine wpSeq_build 25 [] (bcl [] (.slice none 0 0) 0) (by kernel_rfl) ?_ ?_ ?_
           · rfl
           · rfl)
        | (clear tk5; with_reducible refine wpSeq_storeRow 25 (.tmp 6) (.tmp 25) g6 (bcl [] (.slice none 0 0) 0) (bcl [] (.slice none 0 0) 0) H6.out len_bcl info_bcl bcl_one ?_ ?_ ?_ ?_ ?_
           · rfl
           · rfl
           · rfl
           · rfl
           intro w5 sr
           have H9 : Hid (Blk w5 g6 (bcl [] (.slice none 0 0) 0) 25) := sr.blk
           have HBL : Hid (Below w.heap.size w w5) := HI.out.bel.trans (sr.only.below HG6.out HI.out.bel.size)
           have HRD : Hid (Reads w5 (.slice adq nq cpq) qy) := HK.out.below HBL.out
           clear sr HI)
        | (clear tk6; with_reducible refine wpSeq_storeRow 25 (.tmp 6) (.tmp 35) g6 (bcl [] (.slice none 0 0) 0) (bcl [] (.slice none 0 0) 0) H6.out len_bcl info_bcl bcl_one ?_ ?_ ?_ ?_ ?_
           · rfl
           · rfl
           · rfl
           · rfl
           intro w5 sr
           have H9 : Hid (Blk w5 g6 (bcl [] (.slice none 0 0) 0) 25) := sr.blk
           have HBL : Hid (Below w.heap.size w w5) := HI.out.bel.trans (sr.only.below HG6.out HI.out.bel.size)
           have HRD : Hid (Reads w5 (.slice adq nq cpq) qy) := HK.out.below HBL.out
           clear sr HI))
      refine bodyPost_ret (results_row_tmp (by rfl) _ _ g6 _ rfl (var_bind H9.out)) rfl ?_
      exact nxR_no HNX.out (by decide) HBL.out
  · subst hck
    obtain ⟨xs, HXS⟩ : ∃ c, Hid (c = cb au) := ⟨_, rfl⟩
    have HIX : Hid ((Tryd.prog.info? 27).map (·.size) = some xs.length) := by show _ = _; rw [HXS.out]; exact infoD au HA.out
    have hdx : ∀ (zs : List Value) (wx : World), zs = cb zb32 → (Op.equalIn 10000 27 (.agg xs.toArray) (.agg zs.toArray)).run Tryd.prog wx = .ok (decide (au = zb32)) wx := fun zs wx hz => by rw [HXS.out, hz]; exact eq_dig au zb32 HA.out rfl wx
    rcases key with ⟨rfl, rfl, rfl⟩ | ⟨rfl, k2, rfl, rfl⟩ | ⟨rfl, k2, rfl, rfl⟩
    · have k3 := k1 rfl
      rw [decide_eq_true k3] at hs1
      clear k1 k3 hdx
      go_enter Tryd.func11, Tryd.ntmps11
      have tk0 : Hid True := trivial
      have tk1 : Hid True := trivial
      have tk2 : Hid True := trivial
      have tk3 : Hid True := trivial
      have tk4 : Hid True := trivial
      have tk5 : Hid True := trivial
      go_wp2_with (first
        | (clear tk0; with_reducible refine wpSeq_boxW 25 (.tmp 0) (bcl bn (.slice adb nb cpb) bs) ?_ ?_ ?_ ?_
           · rfl
           · rfl
           · rfl
           intro g w1 nb1)
        | (clear tk1; with_reducible refine wpSeq_boxW 29 (.tmp 2) (reqV 1 qn (.slice adq nq cpq) au) ?_ ?_ ?_ ?_
           · rfl
           · rfl
           · rfl
           intro h w2 nq2
           have HI : Hid (BqI w bn (.slice adb nb cpb) bs 1 qn (.slice adq nq cpq) au g h w2) := ⟨nb1.blk.below nq2.below nb1.blk.lt, nq2.blk, nb1.below.trans (nq2.below.mono nb1.below.size), nb1.ge, Nat.le_trans nb1.below.size nq2.ge⟩
           clear nb1 nq2)
        | (clear tk2; with_reducible refine wpSeq_allocB ?_ ?_ ?_
           · rfl
           · rfl
           intro g6 w3 n6
           have HG6 : Hid (w.heap.size ≤ g6) := Nat.le_trans HI.out.bel.size n6.ge
           replace HI : Hid (BqI w bn (.slice adb nb cpb) bs 1 qn (.slice adq nq cpq) au g h w3) := HI.out.more n6.below
           have H6 : Hid (Blk w3 g6 (bcl [] (.slice none 0 0) 0) 25) := n6.blk
           clear n6
           have c0 : w3.cell? ⟨h, 0, none⟩ = some (.int .i64 1) := HI.out.q.cell 0
           have c1 : w3.cell? ⟨h, 1, none⟩ = some (.string (strB qn)) := HI.out.q.cell 1
           have c2 : w3.cell? ⟨h, 2, none⟩ = some (.slice adq nq cpq) := HI.out.q.cell 2
           have d0 : w3.cell? ⟨g, 0, none⟩ = some (.string (strB bn)) := HI.out.b.cell 0
           have d2 : w3.cell? ⟨g, 2, none⟩ = some (.int .u64 (bs : Int)) := HI.out.b.cell 2)
        | (clear tk3; go_at_call 16; refine (rfcheck_any qn qy (.slice adq nq cpq) _ (HK.out.below HI.out.bel)).mono ?_; rintro e w4 ⟨rfl, q4, rfl⟩
           rw [← HCK.out]
           have b4 : Below w3.heap.size w3 (w3.drewN q4) := ⟨rfl, rfl, rfl, Nat.le_refl _, fun _ _ => rfl⟩
           replace HI : Hid (BqI w bn (.slice adb nb cpb) bs 1 qn (.slice adq nq cpq) au g h (w3.drewN q4)) := HI.out.more b4
           replace H6 : Hid (Blk (w3.drewN q4) g6 (bcl [] (.slice none 0 0) 0) 25) := H6.out.below b4 H6.out.lt
           clear b4 c0 c1 c2 d0 d2
           generalize w3.drewN q4 = w4 at *
           have c0 : w4.cell? ⟨h, 0, none⟩ = some (.int .i64 1) := HI.out.q.cell 0
           have c1 : w4.cell? ⟨h, 1, none⟩ = some (.string (strB qn)) := HI.out.q.cell 1
           have c2 : w4.cell? ⟨h, 2, none⟩ = some (.slice adq nq cpq) := HI.out.q.cell 2
           have d0 : w4.cell? ⟨g, 0, none⟩ = some (.string (strB bn)) := HI.out.b.cell 0
           have d2 : w4.cell? ⟨g, 2, none⟩ = some (.int .u64 (bs : Int)) := HI.out.b.cell 2)
        | (clear tk4; with_reducible refine wpSeq_build 25 [] (bcl [] (.slice none 0 0) 0) (by kernel_rfl) ?_ ?_ ?_
           · rfl
           · rfl)
        | (clear tk5; with_reducible refine wpSeq_storeRow 25 (.tmp 6) (.tmp 40) g6 (bcl [] (.slice none 0 0) 0) (bcl [] (.slice none 0 0) 0) H6.out len_bcl info_bcl bcl_one ?_ ?_ ?_ ?_ ?_
           · rfl
           · rfl
           · rfl
           · rfl
           intro w5 sr
           have H9 : Hid (Blk w5 g6 (bcl [] (.slice none 0 0) 0) 25) := sr.blk
           have HBL : Hid (Below w.heap.size w w5) := HI.out.bel.trans (sr.only.below HG6.out HI.out.bel.size)
           have HRD : Hid (Reads w5 (.slice adq nq cpq) qy) := HK.out.below HBL.out
           clear sr HI))
      refine bodyPost_ret (results_row_tmp (by rfl) _ _ g6 _ rfl (var_bind H9.out)) rfl ?_
      exact nxR_no HNX.out (by decide) HBL.out
    · simp only [decide_eq_true k2] at hdx
      clear k1 k2 hs1
      go_enter Tryd.func11, Tryd.ntmps11
      have tk0 : Hid True := trivial
      have tk1 : Hid True := trivial
      have tk2 : Hid True := trivial
      have tk3 : Hid True := trivial
      have tk4 : Hid True := trivial
      have tk5 : Hid True := trivial
      have tk6 : Hid True := trivial
      have tk7 : Hid True := trivial
      go_wp2_with (first
        | (clear tk0; with_reducible refine wpSeq_boxW 25 (.tmp 0) (bcl bn (.slice adb nb cpb) bs) ?_ ?_ ?_ ?_
           · rfl
           · rfl
           · rfl
           intro g w1 nb1)
        | (clear tk1; with_reducible refine wpSeq_boxW 29 (.tmp 2) (reqV 1 qn (.slice adq nq cpq) au) ?_ ?_ ?_ ?_
           · rfl
           · rfl
           · rfl
           intro h w2 nq2
           have HI : Hid (BqI w bn (.slice adb nb cpb) bs 1 qn (.slice adq nq cpq) au g h w2) := ⟨nb1.blk.below nq2.below nb1.blk.lt, nq2.blk, nb1.below.trans (nq2.below.mono nb1.below.size), nb1.ge, Nat.le_trans nb1.below.size nq2.ge⟩
           clear nb1 nq2)
        | (clear tk2; with_reducible refine wpSeq_allocB ?_ ?_ ?_
           · rfl
           · rfl
           intro g6 w3 n6
           have HG6 : Hid (w.heap.size ≤ g6) := Nat.le_trans HI.out.bel.size n6.ge
           replace HI : Hid (BqI w bn (.slice adb nb cpb) bs 1 qn (.slice adq nq cpq) au g h w3) := HI.out.more n6.below
           have H6 : Hid (Blk w3 g6 (bcl [] (.slice none 0 0) 0) 25) := n6.blk
           clear n6
           have c0 : w3.cell? ⟨h, 0, none⟩ = some (.int .i64 1) := HI.out.q.cell 0
           have c1 : w3.cell? ⟨h, 1, none⟩ = some (.string (strB qn)) := HI.out.q.cell 1
           have c2 : w3.cell? ⟨h, 2, none⟩ = some (.slice adq nq cpq) := HI.out.q.cell 2
           have d0 : w3.cell? ⟨g, 0, none⟩ = some (.string (strB bn)) := HI.out.b.cell 0
           have d2 : w3.cell? ⟨g, 2, none⟩ = some (.int .u64 (bs : Int)) := HI.out.b.cell 2)
        | (clear tk3; go_at_call 16; refine (rfcheck_any qn qy (.slice adq nq cpq) _ (HK.out.below HI.out.bel)).mono ?_; rintro e w4 ⟨rfl, q4, rfl⟩
           rw [← HCK.out]
           have b4 : Below w3.heap.size w3 (w3.drewN q4) := ⟨rfl, rfl, rfl, Nat.le_refl _, fun _ _ => rfl⟩
           replace HI : Hid (BqI w bn (.slice adb nb cpb) bs 1 qn (.slice adq nq cpq) au g h (w3.drewN q4)) := HI.out.more b4
           replace H6 : Hid (Blk (w3.drewN q4) g6 (bcl [] (.slice none 0 0) 0) 25) := H6.out.below b4 H6.out.lt
           clear b4 c0 c1 c2 d0 d2
           generalize w3.drewN q4 = w4 at *
           have c0 : w4.cell? ⟨h, 0, none⟩ = some (.int .i64 1) := HI.out.q.cell 0
           have c1 : w4.cell? ⟨h, 1, none⟩ = some (.string (strB qn)) := HI.out.q.cell 1
           have c2 : w4.cell? ⟨h, 2, none⟩ = some (.slice adq nq cpq) := HI.out.q.cell 2
           have d0 : w4.cell? ⟨g, 0, none⟩ = some (.string (strB bn)) := HI.out.b.cell 0
           have d2 : w4.cell? ⟨g, 2, none⟩ = some (.int .u64 (bs : Int)) := HI.out.b.cell 2)
        | (clear tk4; with_reducible refine wpSeq_loadD (.tmp 41) ?_ ?_ h 3 ?_ xs (by rw [HXS.out]; exact reqV_rau HI.out.q) HIX.out ?_
           · rfl
           · rfl
           · rfl)
        | (clear tk5; with_reducible refine wpSeq_build0 ?_ ?_ ?_
           · rfl
           · rfl
           intro zs hzs
           have hxz := fun wx => hdx zs wx hzs.out
           clear hzs)
        | (clear tk6; with_reducible refine wpSeq_build 25 [(0, .tmp 47), (1, .tmp 49), (2, .const (.int .u64 1))] (bcl qn (.slice adq nq cpq) 1) (by kernel_rfl) ?_ ?_ ?_
           · rfl
           · rfl)
        | (clear tk7; with_reducible refine wpSeq_storeRow 25 (.tmp 6) (.tmp 50) g6 (bcl [] (.slice none 0 0) 0) (bcl qn (.slice adq nq cpq) 1) H6.out len_bcl info_bcl bcl_one ?_ ?_ ?_ ?_ ?_
           · rfl
           · rfl
           · rfl
           · rfl
           intro w5 sr
           have H9 : Hid (Blk w5 g6 (bcl qn (.slice adq nq cpq) 1) 25) := sr.blk
           have HBL : Hid (Below w.heap.size w w5) := HI.out.bel.trans (sr.only.below HG6.out HI.out.bel.size)
           have HRD : Hid (Reads w5 (.slice adq nq cpq) qy) := HK.out.below HBL.out
           clear sr HI))
      refine bodyPost_ret (results_row_tmp (by rfl) _ _ g6 _ rfl (var_bind H9.out)) rfl ?_
      exact nxR_ok HNX.out HRD.out HBL.out
    · simp only [decide_eq_false k2] at hdx
      clear k1 k2 hs1
      go_enter Tryd.func11, Tryd.ntmps11
      have tk0 : Hid True := trivial
      have tk1 : Hid True := trivial
      have tk2 : Hid True := trivial
      have tk3 : Hid True := trivial
      have tk4 : Hid True := trivial
      have tk5 : Hid True := trivial
      have tk6 : Hid True := trivial
      have tk7 : Hid True := trivial
      go_wp2_with (first
        | (clear tk0; with_reducible refine wpSeq_boxW 25 (.tmp 0) (bcl bn (.slice adb nb cpb) bs) ?_ ?_ ?_ ?_
           · rfl
           · rfl
           · rfl
           intro g w1 nb1)
        | (clear tk1; with_reducible refine wpSeq_boxW 29 (.tmp 2) (reqV 1 qn (.slice adq nq cpq) au) ?_ ?_ ?_ ?_
           · rfl
           · rfl
           · rfl
           intro h w2 nq2
           have HI : Hid (BqI w bn (.slice adb nb cpb) bs 1 qn (.slice adq nq cpq) au g h w2) := ⟨nb1.blk.below nq2.below nb1.blk.lt, nq2.blk, nb1.below.trans (nq2.below.mono nb1.below.size), nb1.ge, Nat.le_trans nb1.below.size nq2.ge⟩
           clear nb1 nq2)
        | (clear tk2; with_reducible refine wpSeq_allocB ?_ ?_ ?_
           · rfl
           · rfl
           intro g6 w3 n6
           have HG6 : Hid (w.heap.size ≤ g6) := Nat.le_trans HI.out.bel.size n6.ge
           replace HI : Hid (BqI w bn (.slice adb nb cpb) bs 1 qn (.slice adq nq cpq) au g h w3) := HI.out.more n6.below
           have H6 : Hid (Blk w3 g6 (bcl [] (.slice none 0 0) 0) 25) := n6.blk
           clear n6
           have c0 : w3.cell? ⟨h, 0, none⟩ = some (.int .i64 1) := HI.out.q.cell 0
           have c1 : w3.cell? ⟨h, 1, none⟩ = some (.string (strB qn)) := HI.out.q.cell 1
           have c2 : w3.cell? ⟨h, 2, none⟩ = some (.slice adq nq cpq) := HI.out.q.cell 2
           have d0 : w3.cell? ⟨g, 0, none⟩ = some (.string (strB bn)) := HI.out.b.cell 0
           have d2 : w3.cell? ⟨g, 2, none⟩ = some (.int .u64 (bs : Int)) := HI.out.b.cell 2)
        | (clear tk3; go_at_call 16; refine (rfcheck_any qn qy (.slice adq nq cpq) _ (HK.out.below HI.out.bel)).mono ?_; rintro e w4 ⟨rfl, q4, rfl⟩
           rw [← HCK.out]
           have b4 : Below w3.heap.size w3 (w3.drewN q4) := ⟨rfl, rfl, rfl, Nat.le_refl _, fun _ _ => rfl⟩
           replace HI : Hid (BqI w bn (.slice adb nb cpb) bs 1 qn (.slice adq nq cpq) au g h (w3.drewN q4)) := HI.out.more b4
           replace H6 : Hid (Blk (w3.drewN q4) g6 (bcl [] (.slice none 0 0) 0) 25) := H6.out.below b4 H6.out.lt
           clear b4 c0 c1 c2 d0 d2
           generalize w3.drewN q4 = w4 at *
           have c0 : w4.cell? ⟨h, 0, none⟩ = some (.int .i64 1) := HI.out.q.cell 0
           have c1 : w4.cell? ⟨h, 1, none⟩ = some (.string (strB qn)) := HI.out.q.cell 1
           have c2 : w4.cell? ⟨h, 2, none⟩ = some (.slice adq nq cpq) := HI.out.q.cell 2
           have d0 : w4.cell? ⟨g, 0, none⟩ = some (.string (strB bn)) := HI.out.b.cell 0
           have d2 : w4.cell? ⟨g, 2, none⟩ = some (.int .u64 (bs : Int)) := HI.out.b.cell 2)
        | (clear tk4; with_reducible refine wpSeq_loadD (.tmp 41) ?_ ?_ h 3 ?_ xs (by rw [HXS.out]; exact reqV_rau HI.out.q) HIX.out ?_
           · rfl
           · rfl
           · rfl)
        | (clear tk5; with_reducible refine wpSeq_build0 ?_ ?_ ?_
           · rfl
           · rfl
           intro zs hzs
           have hxz := fun wx => hdx zs wx hzs.out
           clear hzs)
        | (clear tk6; with_reducible refine wpSeq_build 25 [] (bcl [] (.slice none 0 0) 0) (by kernel_rfl) ?_ ?_ ?_
           · rfl
           · rfl)
        | (clear tk7; with_reducible refine wpSeq_storeRow 25 (.tmp 6) (.tmp 45) g6 (bcl [] (.slice none 0 0) 0) (bcl [] (.slice none 0 0) 0) H6.out len_bcl info_bcl bcl_one ?_ ?_ ?_ ?_ ?_
           · rfl
           · rfl
           · rfl
           · rfl
           intro w5 sr
           have H9 : Hid (Blk w5 g6 (bcl [] (.slice none 0 0) 0) 25) := sr.blk
           have HBL : Hid (Below w.heap.size w w5) := HI.out.bel.trans (sr.only.below HG6.out HI.out.bel.size)
           have HRD : Hid (Reads w5 (.slice adq nq cpq) qy) := HK.out.below HBL.out
           clear sr HI))
      refine bodyPost_ret (results_row_tmp (by rfl) _ _ g6 _ rfl (var_bind H9.out)) rfl ?_
      exact nxR_no HNX.out (by decide) HBL.out
  · subst hck
    rcases key with ⟨rfl, rfl, rfl⟩ | ⟨rfl, k2, rfl, rfl⟩ | key
    · clear k1 hs1
      go_enter Tryd.func11, Tryd.ntmps11
      have tk0 : Hid True := trivial
      have tk1 : Hid True := trivial
      have tk2 : Hid True := trivial
      have tk3 : Hid True := trivial
      have tk4 : Hid True := trivial
      have tk5 : Hid True := trivial
      go_wp2_with (first
        | (clear tk0; with_reducible refine wpSeq_boxW 25 (.tmp 0) (bcl bn (.slice adb nb cpb) bs) ?_ ?_ ?_ ?_
           · rfl
           · rfl
           · rfl
           intro g w1 nb1)
        | (clear tk1; with_reducible refine wpSeq_boxW 29 (.tmp 2) (reqV 2 qn (.slice adq nq cpq) au) ?_ ?_ ?_ ?_
           · rfl
           · rfl
           · rfl
           intro h w2 nq2
           have HI : Hid (BqI w bn (.slice adb nb cpb) bs 2 qn (.slice adq nq cpq) au g h w2) := ⟨nb1.blk.below nq2.below nb1.blk.lt, nq2.blk, nb1.below.trans (nq2.below.mono nb1.below.size), nb1.ge, Nat.le_trans nb1.below.size nq2.ge⟩
           clear nb1 nq2)
        | (clear tk2; with_reducible refine wpSeq_allocB ?_ ?_ ?_
           · rfl
           · rfl
           intro g6 w3 n6
           have HG6 : Hid (w.heap.size ≤ g6) := Nat.le_trans HI.out.bel.size n6.ge
           replace HI : Hid (BqI w bn (.slice adb nb cpb) bs 2 qn (.slice adq nq cpq) au g h w3) := HI.out.more n6.below
           have H6 : Hid (Blk w3 g6 (bcl [] (.slice none 0 0) 0) 25) := n6.blk
           clear n6
           have c0 : w3.cell? ⟨h, 0, none⟩ = some (.int .i64 2) := HI.out.q.cell 0
           have c1 : w3.cell? ⟨h, 1, none⟩ = some (.string (strB qn)) := HI.out.q.cell 1
           have c2 : w3.cell? ⟨h, 2, none⟩ = some (.slice adq nq cpq) := HI.out.q.cell 2
           have d0 : w3.cell? ⟨g, 0, none⟩ = some (.string (strB bn)) := HI.out.b.cell 0
           have d2 : w3.cell? ⟨g, 2, none⟩ = some (.int .u64 (bs : Int)) := HI.out.b.cell 2)
        | (clear tk3; go_at_call 16; refine (rfcheck_any qn qy (.slice adq nq cpq) _ (HK.out.below HI.out.bel)).mono ?_; rintro e w4 ⟨rfl, q4, rfl⟩
           rw [← HCK.out]
           have b4 : Below w3.heap.size w3 (w3.drewN q4) := ⟨rfl, rfl, rfl, Nat.le_refl _, fun _ _ => rfl⟩
           replace HI : Hid (BqI w bn (.slice adb nb cpb) bs 2 qn (.slice adq nq cpq) au g h (w3.drewN q4)) := HI.out.more b4
           replace H6 : Hid (Blk (w3.drewN q4) g6 (bcl [] (.slice none 0 0) 0) 25) := H6.out.below b4 H6.out.lt
           clear b4 c0 c1 c2 d0 d2
           generalize w3.drewN q4 = w4 at *
           have c0 : w4.cell? ⟨h, 0, none⟩ = some (.int .i64 2) := HI.out.q.cell 0
           have c1 : w4.cell? ⟨h, 1, none⟩ = some (.string (strB qn)) := HI.out.q.cell 1
           have c2 : w4.cell? ⟨h, 2, none⟩ = some (.slice adq nq cpq) := HI.out.q.cell 2
           have d0 : w4.cell? ⟨g, 0, none⟩ = some (.string (strB bn)) := HI.out.b.cell 0
           have d2 : w4.cell? ⟨g, 2, none⟩ = some (.int .u64 (bs : Int)) := HI.out.b.cell 2)
        | (clear tk4; with_reducible refine wpSeq_build 25 [] (bcl [] (.slice none 0 0) 0) (by kernel_rfl) ?_ ?_ ?_
           · rfl
           · rfl)
        | (clear tk5; with_reducible refine wpSeq_storeRow 25 (.tmp 6) (.tmp 53) g6 (bcl [] (.slice none 0 0) 0) (bcl [] (.slice none 0 0) 0) H6.out len_bcl info_bcl bcl_one ?_ ?_ ?_ ?_ ?_
           · rfl
           · rfl
           · rfl
           · rfl
           intro w5 sr
           have H9 : Hid (Blk w5 g6 (bcl [] (.slice none 0 0) 0) 25) := sr.blk
           have HBL : Hid (Below w.heap.size w w5) := HI.out.bel.trans (sr.only.below HG6.out HI.out.bel.size)
           have HRD : Hid (Reads w5 (.slice adq nq cpq) qy) := HK.out.below HBL.out
           clear sr HI))
      refine bodyPost_ret (results_row_tmp (by rfl) _ _ g6 _ rfl (var_bind H9.out)) rfl ?_
      exact nxR_no HNX.out (by decide) HBL.out
    · have k3 := k1 rfl
      rw [decide_eq_true k3] at hs1
      have e0 : (((bs : Nat) : Int) == 18446744073709551615) = true := by rw [k2]; rfl
      clear k1 k3 k2
      go_enter Tryd.func11, Tryd.ntmps11
      have tk0 : Hid True := trivial
      have tk1 : Hid True := trivial
      have tk2 : Hid True := trivial
      have tk3 : Hid True := trivial
      have tk4 : Hid True := trivial
      have tk5 : Hid True := trivial
      go_wp2_with (first
        | (clear tk0; with_reducible refine wpSeq_boxW 25 (.tmp 0) (bcl bn (.slice adb nb cpb) bs) ?_ ?_ ?_ ?_
           · rfl
           · rfl
           · rfl
           intro g w1 nb1)
        | (clear tk1; with_reducible refine wpSeq_boxW 29 (.tmp 2) (reqV 2 qn (.slice adq nq cpq) au) ?_ ?_ ?_ ?_
           · rfl
           · rfl
           · rfl
           intro h w2 nq2
           have HI : Hid (BqI w bn (.slice adb nb cpb) bs 2 qn (.slice adq nq cpq) au g h w2) := ⟨nb1.blk.below nq2.below nb1.blk.lt, nq2.blk, nb1.below.trans (nq2.below.mono nb1.below.size), nb1.ge, Nat.le_trans nb1.below.size nq2.ge⟩
           clear nb1 nq2)
        | (clear tk2; with_reducible refine wpSeq_allocB ?_ ?_ ?_
           · rfl
           · rfl
           intro g6 w3 n6
           have HG6 : Hid (w.heap.size ≤ g6) := Nat.le_trans HI.out.bel.size n6.ge
           replace HI : Hid (BqI w bn (.slice adb nb cpb) bs 2 qn (.slice adq nq cpq) au g h w3) := HI.out.more n6.below
           have H6 : Hid (Blk w3 g6 (bcl [] (.slice none 0 0) 0) 25) := n6.blk
           clear n6
           have c0 : w3.cell? ⟨h, 0, none⟩ = some (.int .i64 2) := HI.out.q.cell 0
           have c1 : w3.cell? ⟨h, 1, none⟩ = some (.string (strB qn)) := HI.out.q.cell 1
           have c2 : w3.cell? ⟨h, 2, none⟩ = some (.slice adq nq cpq) := HI.out.q.cell 2
           have d0 : w3.cell? ⟨g, 0, none⟩ = some (.string (strB bn)) := HI.out.b.cell 0
           have d2 : w3.cell? ⟨g, 2, none⟩ = some (.int .u64 (bs : Int)) := HI.out.b.cell 2)
        | (clear tk3; go_at_call 16; refine (rfcheck_any qn qy (.slice adq nq cpq) _ (HK.out.below HI.out.bel)).mono ?_; rintro e w4 ⟨rfl, q4, rfl⟩
           rw [← HCK.out]
           have b4 : Below w3.heap.size w3 (w3.drewN q4) := ⟨rfl, rfl, rfl, Nat.le_refl _, fun _ _ => rfl⟩
           replace HI : Hid (BqI w bn (.slice adb nb cpb) bs 2 qn (.slice adq nq cpq) au g h (w3.drewN q4)) := HI.out.more b4
           replace H6 : Hid (Blk (w3.drewN q4) g6 (bcl [] (.slice none 0 0) 0) 25) := H6.out.below b4 H6.out.lt
           clear b4 c0 c1 c2 d0 d2
           generalize w3.drewN q4 = w4 at *
           have c0 : w4.cell? ⟨h, 0, none⟩ = some (.int .i64 2) := HI.out.q.cell 0
           have c1 : w4.cell? ⟨h, 1, none⟩ = some (.string (strB qn)) := HI.out.q.cell 1
           have c2 : w4.cell? ⟨h, 2, none⟩ = some (.slice adq nq cpq) := HI.out.q.cell 2
           have d0 : w4.cell? ⟨g, 0, none⟩ = some (.string (strB bn)) := HI.out.b.cell 0
           have d2 : w4.cell? ⟨g, 2, none⟩ = some (.int .u64 (bs : Int)) := HI.out.b.cell 2)
        | (clear tk4; with_reducible refine wpSeq_build 25 [] (bcl [] (.slice none 0 0) 0) (by kernel_rfl) ?_ ?_ ?_
           · rfl
           · rfl)
        | (clear tk5; with_reducible refine wpSeq_storeRow 25 (.tmp 6) (.tmp 57) g6 (bcl [] (.slice none 0 0) 0) (bcl [] (.slice none 0 0) 0) H6.out len_bcl info_bcl bcl_one ?_ ?_ ?_ ?_ ?_
           · rfl
           · rfl
           · rfl
           · rfl
           intro w5 sr
           have H9 : Hid (Blk w5 g6 (bcl [] (.slice none 0 0) 0) 25) := sr.blk
           have HBL : Hid (Below w.heap.size w w5) := HI.out.bel.trans (sr.only.below HG6.out HI.out.bel.size)
           have HRD : Hid (Reads w5 (.slice adq nq cpq) qy) := HK.out.below HBL.out
           clear sr HI))
      refine bodyPost_ret (results_row_tmp (by rfl) _ _ g6 _ rfl (var_bind H9.out)) rfl ?_
      exact nxR_no HNX.out (by decide) HBL.out
    · have k0 : th = true ∧ bs ≠ 18446744073709551615 ∧ ((au = dg ∧ er = 0 ∧ sn = s1) ∨ (au ≠ dg ∧ er = 8 ∧ sn = 0)) := by
        rcases key with ⟨a, b, c, d⟩ | ⟨a, b, c, d⟩
        · exact ⟨a, b, Or.inl ⟨c, d⟩⟩
        · exact ⟨a, b, Or.inr ⟨c, d⟩⟩
      clear key
      obtain ⟨rfl, k2, key⟩ := k0
      have k3 := k1 rfl
      rw [decide_eq_true k3] at hs1
      have e0 : (((bs : Nat) : Int) == 18446744073709551615) = false := by rw [beq_eq_false_iff_ne]; omega
      have h1 : IntKind.u64.wrap ((bs : Int) + 1) = (s1 : Int) := by rw [IntKind.wrap_u64, HS1.out]; have := HBS.out; omega
      have HB1 : Hid (s1 < 18446744073709551616) := by have := HBS.out; show _ < _; rw [HS1.out]; omega
      have HLN : Hid (qn.length ≤ 32 ∧ qy.length ≤ 64) := chk_len HCK.out.symm
      have HQN : Hid (bn = qn) := k3
      obtain ⟨xs, HXS⟩ : ∃ c, Hid (c = cb au) := ⟨_, rfl⟩
      obtain ⟨ds, HDS⟩ : ∃ c, Hid (c = cb dg) := ⟨_, rfl⟩
      have HIX : Hid ((Tryd.prog.info? 27).map (·.size) = some xs.length) := by show _ = _; rw [HXS.out]; exact infoD au HA.out
      have hdx : ∀ (wx : World), (Op.equalIn 10000 27 (.agg xs.toArray) (.agg ds.toArray)).run Tryd.prog wx = .ok (decide (au = dg)) wx := fun wx => by rw [HXS.out, HDS.out]; exact eq_dig au dg HA.out HDL.out wx
      clear k1 k2 k3
      go_enter Tryd.func11, Tryd.ntmps11
      have tk0 : Hid True := trivial
      have tk1 : Hid True := trivial
      have tk2 : Hid True := trivial
      have tk3 : Hid True := trivial
      go_wp2_with (first
        | (clear tk0; with_reducible refine wpSeq_boxW 25 (.tmp 0) (bcl bn (.slice adb nb cpb) bs) ?_ ?_ ?_ ?_
           · rfl
           · rfl
           · rfl
           intro g w1 nb1)
        | (clear tk1; with_reducible refine wpSeq_boxW 29 (.tmp 2) (reqV 2 qn (.slice adq nq cpq) au) ?_ ?_ ?_ ?_
           · rfl
           · rfl
           · rfl
           intro h w2 nq2
           have HI : Hid (BqI w bn (.slice adb nb cpb) bs 2 qn (.slice adq nq cpq) au g h w2) := ⟨nb1.blk.below nq2.below nb1.blk.lt, nq2.blk, nb1.below.trans (nq2.below.mono nb1.below.size), nb1.ge, Nat.le_trans nb1.below.size nq2.ge⟩
           clear nb1 nq2)
        | (clear tk2; with_reducible refine wpSeq_allocB ?_ ?_ ?_
           · rfl
           · rfl
           intro g6 w3 n6
           have HG6 : Hid (w.heap.size ≤ g6) := Nat.le_trans HI.out.bel.size n6.ge
           replace HI : Hid (BqI w bn (.slice adb nb cpb) bs 2 qn (.slice adq nq cpq) au g h w3) := HI.out.more n6.below
           have H6 : Hid (Blk w3 g6 (bcl [] (.slice none 0 0) 0) 25) := n6.blk
           clear n6
           have c0 : w3.cell? ⟨h, 0, none⟩ = some (.int .i64 2) := HI.out.q.cell 0
           have c1 : w3.cell? ⟨h, 1, none⟩ = some (.string (strB qn)) := HI.out.q.cell 1
           have c2 : w3.cell? ⟨h, 2, none⟩ = some (.slice adq nq cpq) := HI.out.q.cell 2
           have d0 : w3.cell? ⟨g, 0, none⟩ = some (.string (strB bn)) := HI.out.b.cell 0
           have d2 : w3.cell? ⟨g, 2, none⟩ = some (.int .u64 (bs : Int)) := HI.out.b.cell 2)
        | (clear tk3; go_at_call 16; refine (rfcheck_any qn qy (.slice adq nq cpq) _ (HK.out.below HI.out.bel)).mono ?_; rintro e w4 ⟨rfl, q4, rfl⟩
           rw [← HCK.out]
           have b4 : Below w3.heap.size w3 (w3.drewN q4) := ⟨rfl, rfl, rfl, Nat.le_refl _, fun _ _ => rfl⟩
           replace HI : Hid (BqI w bn (.slice adb nb cpb) bs 2 qn (.slice adq nq cpq) au g h (w3.drewN q4)) := HI.out.more b4
           replace H6 : Hid (Blk (w3.drewN q4) g6 (bcl [] (.slice none 0 0) 0) 25) := H6.out.below b4 H6.out.lt
           clear b4 c0 c1 c2 d0 d2
           generalize w3.drewN q4 = w4 at *
           have c0 : w4.cell? ⟨h, 0, none⟩ = some (.int .i64 2) := HI.out.q.cell 0
           have c1 : w4.cell? ⟨h, 1, none⟩ = some (.string (strB qn)) := HI.out.q.cell 1
           have c2 : w4.cell? ⟨h, 2, none⟩ = some (.slice adq nq cpq) := HI.out.q.cell 2
           have d0 : w4.cell? ⟨g, 0, none⟩ = some (.string (strB bn)) := HI.out.b.cell 0
           have d2 : w4.cell? ⟨g, 2, none⟩ = some (.int .u64 (bs : Int)) := HI.out.b.cell 2))
      clear c0 c1 c2 d0 d2
      refine wp_region_held_drew (S := Below w4.heap.size w4.drew) (by kernel_rfl) (Below.refl _ _) ?_
      intro hS
      clear hS
      have HI2 : Hid (BqI w bn (.slice adb nb cpb) bs 2 qn (.slice adq nq cpq) au g h w4.drew) := HI.out.more (Below.refl _ _).drew
      have H62 : Hid (Blk w4.drew g6 (bcl [] (.slice none 0 0) 0) 25) := H6.out.below (Below.refl _ _).drew H6.out.lt
      have HLT : Hid (g < w4.heap.size ∧ h < w4.heap.size ∧ g6 < w4.heap.size ∧ w.heap.size ≤ w4.heap.size) := ⟨HI.out.b.lt, HI.out.q.lt, H6.out.lt, HI.out.bel.size⟩
      clear HI H6
      obtain ⟨B, HBB⟩ : ∃ x, Hid (x = w4.heap.size) := ⟨_, rfl⟩
      have HBD : Hid (w4.drew.heap.size = B) := by rw [HBB.out]; rfl
      rw [← HBB.out] at HLT ⊢
      change wpAnyH _ _ _ _ _ _ _ _ (World.drew w4)
      generalize World.drew w4 = wd at *
      clear HBB
      have hS : Below B wd wd := Below.refl _ _
      have HC : Hid (∀ wx, Below B wd wx → BqI w bn (.slice adb nb cpb) bs 2 qn (.slice adq nq cpq) au g h wx) := fun wx hx => HI2.out.next hx ⟨HLT.out.1, HLT.out.2.1⟩ HLT.out.2.2.2
      clear HI2
      refine wpAnyH_take (i := 0) (v := .pointer (some ⟨h, 3, none⟩)) rfl (by kernel_rfl) (by kernel_rfl) (by kernel_rfl) (fun _ _ _ h => h) (Or.inl ⟨by rfl, fun wx hx => by simp [go_sem]⟩) hS ?_
      simp only [Act.put, List.getElem_toArray, List.getElem_cons_zero, List.setIfInBounds_toArray, List.set_cons_zero, List.set_cons_succ]
      refine wpAnyH_take (i := 1) (v := .agg xs.toArray) rfl (by kernel_rfl) (by kernel_rfl) (by kernel_rfl) (fun _ _ _ h => h) (Or.inl ⟨by rfl, fun wx hx => by (have hq := (HC.out wx hx).q; exact load_run 27 _ rfl _ _ rfl xs _ (by rw [HXS.out]; exact reqV_rau hq) Tryd.underlying27 rfl HIX.out)⟩) hS ?_
      simp only [Act.put, List.getElem_toArray, List.getElem_cons_succ, List.getElem_cons_zero, List.setIfInBounds_toArray, List.set_cons_zero, List.set_cons_succ]
      refine wpAnyH_take (i := 2) (v := .pointer (some ⟨g, 1, none⟩)) rfl (by kernel_rfl) (by kernel_rfl) (by kernel_rfl) (fun _ _ _ h => h) (Or.inl ⟨by rfl, fun wx hx => by simp [go_sem]⟩) hS ?_
      simp only [Act.put, List.getElem_toArray, List.getElem_cons_succ, List.getElem_cons_zero, List.setIfInBounds_toArray, List.set_cons_zero, List.set_cons_succ]
      refine wpAnyH_take (i := 3) (v := .slice adb nb cpb) rfl (by kernel_rfl) (by kernel_rfl) (by kernel_rfl) (fun _ _ _ h => h) (Or.inl ⟨by rfl, fun wx hx => by (have hq := (HC.out wx hx).b.cell 1; simp [go_sem, bcl] at hq ⊢; simp [hq])⟩) hS ?_
      simp only [Act.put, List.getElem_toArray, List.getElem_cons_succ, List.getElem_cons_zero, List.setIfInBounds_toArray, List.set_cons_zero, List.set_cons_succ]
      refine wpAnyH_take (i := 4) (v := .pointer (some ⟨h, 1, none⟩)) rfl (by kernel_rfl) (by kernel_rfl) (by kernel_rfl) (fun _ _ _ h => h) (Or.inl ⟨by rfl, fun wx hx => by simp [go_sem]⟩) hS ?_
      simp only [Act.put, List.getElem_toArray, List.getElem_cons_succ, List.getElem_cons_zero, List.setIfInBounds_toArray, List.set_cons_zero, List.set_cons_succ]
      refine wpAnyH_take (i := 5) (v := .string (strB qn)) rfl (by kernel_rfl) (by kernel_rfl) (by kernel_rfl) (fun _ _ _ h => h) (Or.inl ⟨by rfl, fun wx hx => by (have hq := (HC.out wx hx).q.cell 1; simp [go_sem, reqV] at hq ⊢; simp [hq])⟩) hS ?_
      simp only [Act.put, List.getElem_toArray, List.getElem_cons_succ, List.getElem_cons_zero, List.setIfInBounds_toArray, List.set_cons_zero, List.set_cons_succ]
      refine wpAnyH_take (i := 6) (v := .pointer (some ⟨g, 2, none⟩)) rfl (by kernel_rfl) (by kernel_rfl) (by kernel_rfl) (fun _ _ _ h => h) (Or.inl ⟨by rfl, fun wx hx => by simp [go_sem]⟩) hS ?_
      simp only [Act.put, List.getElem_toArray, List.getElem_cons_succ, List.getElem_cons_zero, List.setIfInBounds_toArray, List.set_cons_zero, List.set_cons_succ]
      refine wpAnyH_take (i := 7) (v := .int .u64 (bs : Int)) rfl (by kernel_rfl) (by kernel_rfl) (by kernel_rfl) (fun _ _ _ h => h) (Or.inl ⟨by rfl, fun wx hx => by (have hq := (HC.out wx hx).b.cell 2; simp [go_sem, bcl] at hq ⊢; simp [hq])⟩) hS ?_
      simp only [Act.put, List.getElem_toArray, List.getElem_cons_succ, List.getElem_cons_zero, List.setIfInBounds_toArray, List.set_cons_zero, List.set_cons_succ]
      refine wpAnyH_take (i := 8) (v := .int .u64 (s1 : Int)) rfl (by kernel_rfl) (by kernel_rfl) (by kernel_rfl) (fun _ _ _ h => h) (Or.inl ⟨by rfl, fun wx hx => by simp [go_sem, h1]⟩) hS ?_
      simp only [Act.put, List.getElem_toArray, List.getElem_cons_succ, List.getElem_cons_zero, List.setIfInBounds_toArray, List.set_cons_zero, List.set_cons_succ]
      refine wpAnyH_take (i := 9) (v := .pointer (some ⟨h, 2, none⟩)) rfl (by kernel_rfl) (by kernel_rfl) (by kernel_rfl) (fun _ _ _ h => h) (Or.inl ⟨by rfl, fun wx hx => by simp [go_sem]⟩) hS ?_
      simp only [Act.put, List.getElem_toArray, List.getElem_cons_succ, List.getElem_cons_zero, List.setIfInBounds_toArray, List.set_cons_zero, List.set_cons_succ]
      refine wpAnyH_take (i := 10) (v := .slice adq nq cpq) rfl (by kernel_rfl) (by kernel_rfl) (by kernel_rfl) (fun _ _ _ h => h) (Or.inl ⟨by rfl, fun wx hx => by (have hq := (HC.out wx hx).q.cell 2; simp [go_sem, reqV] at hq ⊢; simp [hq])⟩) hS ?_
      simp only [Act.put, List.getElem_toArray, List.getElem_cons_succ, List.getElem_cons_zero, List.setIfInBounds_toArray, List.set_cons_zero, List.set_cons_succ]
      have hcc := rAuth_any bk qn qy (.slice adb nb cpb) (.slice adq nq cpq) s1 wd (HB.out.below (HC.out wd hS).bel) (HK.out.below (HC.out wd hS).bel) ⟨by have := HLN.out; omega, by have := HLN.out; omega, HB1.out, HN.out⟩
      rw [← HQN.out, ← HDG.out, ← HDS.out, HQN.out] at hcc
      refine wpAnyH_enter 11 (by kernel_rfl) rfl (by rfl) (f := 17) (args := #[.slice adb nb cpb, .string (strB qn), .int .u64 (s1 : Int), .slice adq nq cpq]) (by simp [go_sem]) hcc ?_
      rintro e w4 ⟨rfl, b4⟩
      have hS3 : Below B wd w4 := b4.mono (Nat.le_of_eq HBD.out.symm)
      refine ⟨_, rfl, hS3, ?_⟩
      simp only [Act.put, List.getElem_toArray, List.getElem_cons_succ, List.getElem_cons_zero, List.setIfInBounds_toArray, List.set_cons_zero, List.set_cons_succ]
      clear hcc b4
      rcases key with ⟨k, rfl, rfl⟩ | ⟨k, rfl, rfl⟩
      all_goals first | simp only [decide_eq_true k] at hdx | simp only [decide_eq_false k] at hdx
      all_goals clear k
      · refine wpAnyH_take (i := 12) (v := .bool false) rfl (by kernel_rfl) (by kernel_rfl) (by kernel_rfl) (fun _ _ _ h => h) (Or.inl ⟨by rfl, fun wx hx => by (simp [go_sem, hdx])⟩) hS3 ?_
        simp only [Act.put, List.getElem_toArray, List.getElem_cons_succ, List.getElem_cons_zero, List.setIfInBounds_toArray, List.set_cons_zero, List.set_cons_succ]
        refine wpAnyH_done (by kernel_rfl) ?_ _
        have HI : Hid (BqI w bn (.slice adb nb cpb) bs 2 qn (.slice adq nq cpq) au g h w4) := HC.out w4 hS3
        have H6 : Hid (Blk w4 g6 (bcl [] (.slice none 0 0) 0) 25) := H62.out.below hS3 HLT.out.2.2.1
        clear hS3 hS hdx
        have c0 : w4.cell? ⟨h, 0, none⟩ = some (.int .i64 2) := HI.out.q.cell 0
        have c1 : w4.cell? ⟨h, 1, none⟩ = some (.string (strB qn)) := HI.out.q.cell 1
        have c2 : w4.cell? ⟨h, 2, none⟩ = some (.slice adq nq cpq) := HI.out.q.cell 2
        have d0 : w4.cell? ⟨g, 0, none⟩ = some (.string (strB bn)) := HI.out.b.cell 0
        have d2 : w4.cell? ⟨g, 2, none⟩ = some (.int .u64 (bs : Int)) := HI.out.b.cell 2
        have tk0 : Hid True := trivial
        have tk1 : Hid True := trivial
        go_wp2_with (first
          | (clear tk0; with_reducible refine wpSeq_build 25 [(0, .tmp 73), (1, .tmp 75), (2, .tmp 78)] (bcl qn (.slice adq nq cpq) sn) (by kernel_rfl) ?_ ?_ ?_
             · rfl
             · rfl)
          | (clear tk1; with_reducible refine wpSeq_storeRow 25 (.tmp 6) (.tmp 79) g6 (bcl [] (.slice none 0 0) 0) (bcl qn (.slice adq nq cpq) sn) H6.out len_bcl info_bcl bcl_one ?_ ?_ ?_ ?_ ?_
             · rfl
             · rfl
             · rfl
             · rfl
             intro w5 sr
             have H9 : Hid (Blk w5 g6 (bcl qn (.slice adq nq cpq) sn) 25) := sr.blk
             have HBL : Hid (Below w.heap.size w w5) := HI.out.bel.trans (sr.only.below HG6.out HI.out.bel.size)
             have HRD : Hid (Reads w5 (.slice adq nq cpq) qy) := HK.out.below HBL.out
             clear sr HI))
        refine bodyPost_ret (results_row_tmp (by rfl) _ _ g6 _ rfl (var_bind H9.out)) rfl ?_
        exact nxR_ok HNX.out HRD.out HBL.out
      · refine wpAnyH_take (i := 12) (v := .bool true) rfl (by kernel_rfl) (by kernel_rfl) (by kernel_rfl) (fun _ _ _ h => h) (Or.inl ⟨by rfl, fun wx hx => by (simp [go_sem, hdx])⟩) hS3 ?_
        simp only [Act.put, List.getElem_toArray, List.getElem_cons_succ, List.getElem_cons_zero, List.setIfInBounds_toArray, List.set_cons_zero, List.set_cons_succ]
        refine wpAnyH_done (by kernel_rfl) ?_ _
        have HI : Hid (BqI w bn (.slice adb nb cpb) bs 2 qn (.slice adq nq cpq) au g h w4) := HC.out w4 hS3
        have H6 : Hid (Blk w4 g6 (bcl [] (.slice none 0 0) 0) 25) := H62.out.below hS3 HLT.out.2.2.1
        clear hS3 hS hdx
        have c0 : w4.cell? ⟨h, 0, none⟩ = some (.int .i64 2) := HI.out.q.cell 0
        have c1 : w4.cell? ⟨h, 1, none⟩ = some (.string (strB qn)) := HI.out.q.cell 1
        have c2 : w4.cell? ⟨h, 2, none⟩ = some (.slice adq nq cpq) := HI.out.q.cell 2
        have d0 : w4.cell? ⟨g, 0, none⟩ = some (.string (strB bn)) := HI.out.b.cell 0
        have d2 : w4.cell? ⟨g, 2, none⟩ = some (.int .u64 (bs : Int)) := HI.out.b.cell 2
        have tk0 : Hid True := trivial
        have tk1 : Hid True := trivial
        go_wp2_with (first
          | (clear tk0; with_reducible refine wpSeq_build 25 [] (bcl [] (.slice none 0 0) 0) (by kernel_rfl) ?_ ?_ ?_
             · rfl
             · rfl)
          | (clear tk1; with_reducible refine wpSeq_storeRow 25 (.tmp 6) (.tmp 71) g6 (bcl [] (.slice none 0 0) 0) (bcl [] (.slice none 0 0) 0) H6.out len_bcl info_bcl bcl_one ?_ ?_ ?_ ?_ ?_
             · rfl
             · rfl
             · rfl
             · rfl
             intro w5 sr
             have H9 : Hid (Blk w5 g6 (bcl [] (.slice none 0 0) 0) 25) := sr.blk
             have HBL : Hid (Below w.heap.size w w5) := HI.out.bel.trans (sr.only.below HG6.out HI.out.bel.size)
             have HRD : Hid (Reads w5 (.slice adq nq cpq) qy) := HK.out.below HBL.out
             clear sr HI))
        refine bodyPost_ret (results_row_tmp (by rfl) _ _ g6 _ rfl (var_bind H9.out)) rfl ?_
        exact nxR_no HNX.out (by decide) HBL.out
end Go.Proofs.YtmkjcgjbhibnpaaDoor
/- The walks of the statements' few and works (layer 19). -/
namespace Go.Proofs.YtmkjcgjbhibnpaaDoor
open Go.RowKit
set_option maxRecDepth 100000
theorem few19_any (v : Value) (l : By) (w : World) (hR : Reads w v l) : Calls Tryd.prog 8 #[v] w fun e w' => e = .returned (.bool (decide (l.length ≤ 2000))) ∧ w' = w := by
  obtain ⟨ad, cp, hv⟩ := hR.sliceP
  obtain ⟨n, HN⟩ : ∃ n, Hid (n = l.length) := ⟨_, rfl⟩
  rw [← HN.out] at hv ⊢
  subst hv
  have HB : Hid (decide (n ≤ 2000) = decide ((n : Int) ≤ 2000)) := decide_eq_decide.2 ⟨fun h => by omega, fun h => by omega⟩
  clear hR
  go_enter Tryd.func8, Tryd.ntmps8
  go_wp2
  go_ret
  exact ⟨by rw [HB.out]; rfl, rfl⟩
def frz1 : Obj → Obj := fun
  | .cells c elem (lo, hi) => .cells c elem (if lo == hi then (1, 1 + 1) else (min lo 1, max hi (1 + 1)))
  | o => o
theorem frz1_eq (w : World) (g : Nat) : w.freeze ⟨g, 1, none⟩ 1 = { w with heap := w.heap.modify g frz1 } := by
  unfold World.freeze
  rw [if_neg (by decide)]
  rfl
/-- a text of one byte, of a constant, whose block is marked -/
theorem convC (w : World) (g : Nat) (c : BitVec 8) (h : Blk w g [.int .u8 (c.toNat : Int)] 5) : ∃ w', (convert 22 22 (.slice (some ⟨g, 0, none⟩) 1 1)).run Tryd.prog w = .ok (.slice (some ⟨g, 0, none⟩) 1 1) w' ∧ Reads w' (.slice (some ⟨g, 0, none⟩) 1 1) [c] ∧ Only g w w' := by
  have hsh : w.shape? g = some (5, 1) := by
    unfold World.shape?
    rw [show w.heap[g]? = some (.cells [.int .u8 (c.toNat : Int)].toArray 5) from h]
    rfl
  refine ⟨w.freeze ⟨g, 1, none⟩ 1, ?_, ?_, ?_⟩
  · simp [convert, run_underlying Tryd.underlying22, run_underlying Tryd.underlying5, markStringish, hsh]
  · have hg : g < w.heap.size := h.lt
    refine ⟨_, 1, rfl, Nat.le_refl _, (fun h => by cases h), fun _ => ⟨_, 0, rfl, fun j hj => ?_⟩⟩
    have hj0 : j = 0 := by simp at hj; exact hj
    subst hj0
    have h2 : (w.heap.modify g frz1)[g]? = some (.cells [.int .u8 (c.toNat : Int)].toArray 5 (1, 2)) := by
      rw [Array.getElem?_modify, if_pos rfl, show w.heap[g]? = some (.cells [.int .u8 (c.toNat : Int)].toArray 5) from h]
      rfl
    rw [frz1_eq]
    unfold World.cell?
    show (match (w.heap.modify g frz1)[g]? with | _ => _) = _
    rw [h2]
    rfl
  · rw [frz1_eq]
    refine ⟨rfl, rfl, rfl, ?_, fun k hk _ => ?_⟩
    · show w.heap.size ≤ (w.heap.modify g frz1).size
      rw [Array.size_modify]; exact Nat.le_refl _
    · show (w.heap.modify g frz1)[k]? = _
      rw [Array.getElem?_modify, if_neg (fun e => hk e.symm)]
theorem wpSeq_constP {ops : Array Oper} {Q : Exit → Act → World → Prop} {rest : List Oper} {o : Oper} {a : Act} (x : Operand) (W : World) (c : BitVec 8) (v : Value) (hv : v = .int .u8 (c.toNat : Int)) (ho : o.op = .convert 22 22 x) (hx : a.eval x = .slice (some ⟨W.heap.size, 0, none⟩) 1 1) (hw : Region.wanted o (yielded ops a.tmps) = true)
    (h : ∀ g w', W.heap.size ≤ g → Reads w' (.slice (some ⟨g, 0, none⟩) 1 1) [c] → Below W.heap.size W w' → wpList Tryd.prog ops Q rest (a.put o.dst (.slice (some ⟨g, 0, none⟩) 1 1)) w') : wpList Tryd.prog ops Q (o :: rest) a (W.alloc (.cells #[v] 5)) := by
  subst hv
  have hb : Blk (W.alloc (.cells #[.int .u8 (c.toNat : Int)] 5)) W.heap.size [.int .u8 (c.toNat : Int)] 5 := Blk.new W _ _
  obtain ⟨w', h1, h2, h3⟩ := convC _ _ c hb
  refine wpSeq_val (.slice (some ⟨W.heap.size, 0, none⟩) 1 1) w' hw ?_ (h _ _ (Nat.le_refl _) h2 ((below_alloc W _).trans (h3.below (Nat.le_refl _) (below_alloc W (.cells #[.int .u8 (c.toNat : Int)] 5)).size)))
  unfold execOp
  rw [ho]
  simp only [hx, Sem.run_bind]
  rw [h1]
  rfl
theorem build_c1 (f : Operand → Value) (o : Oper) (b : BitVec 8) (ho : o.op = .buildSlice 22 1 #[(0, .const (.int .u8 (b.toNat : Int)))]) (hf : f (.const (.int .u8 (b.toNat : Int))) = .int .u8 (b.toNat : Int)) (w : World) : (execOp f o).run Tryd.prog w = .ok (.value (.slice (some ⟨w.heap.size, 0, none⟩) 1 1)) (w.alloc (.cells [.int .u8 (b.toNat : Int)].toArray 5)) := by
  unfold execOp
  rw [ho]
  simp only [List.map_toArray, List.map_cons, List.map_nil, hf]
  kernel_rfl
theorem wpAnyH_one {P : Program} {md : Region.Mode} {ops : Array Oper} {Q : Exit → Act → World → Prop} {S : World → Prop} {fuel : Nat} {listed : Array Bool} {a : Act} {w : World} (i : Nat) (hr : Region.ready md ops listed = [i])
    (h1 : wpOp P ops Q i (fun a' w' => S w' ∧ wpAnyH P md ops Q S fuel (listed.setIfInBounds i true) a' w') a w) : wpAnyH P md ops Q S (fuel + 1) listed a w := by
  refine wpAnyH_all hr (by simp) (fun k hk => ?_)
  obtain rfl : k = i := by simpa using hk
  exact h1
theorem wpOp_new {P : Program} {ops : Array Oper} {Q : Exit → Act → World → Prop} {K : Act → World → Prop} {a : Act} {w : World} (i : Nat) {oi : Oper} (mk : Nat → Value) (cs : List Value) (t : TypeId) (hi : ops[i]? = some oi) (hw : Region.wanted oi (yielded ops a.tmps) = true)
    (he : (execOp a.eval oi).run P w = .ok (.value (mk w.heap.size)) (w.alloc (.cells cs.toArray t))) (h : ∀ g w', NewR cs t w g w' → K (a.put oi.dst (mk g)) w') : wpOp P ops Q i K a w :=
  wpOp_vl i _ _ hi hw he (h _ _ (NewR.of cs t w))
theorem wpOp_convC {ops : Array Oper} {Q : Exit → Act → World → Prop} {K : Act → World → Prop} {a : Act} {w : World} (i : Nat) {oi : Oper} (x : Operand) (g : Nat) (c : BitVec 8) (hb : Blk w g [.int .u8 (c.toNat : Int)] 5) (hi : ops[i]? = some oi) (hw : Region.wanted oi (yielded ops a.tmps) = true)
    (ho : oi.op = .convert 22 22 x) (hx : a.eval x = .slice (some ⟨g, 0, none⟩) 1 1) (h : ∀ w', Reads w' (.slice (some ⟨g, 0, none⟩) 1 1) [c] → Only g w w' → K (a.put oi.dst (.slice (some ⟨g, 0, none⟩) 1 1)) w') : wpOp Tryd.prog ops Q i K a w := by
  obtain ⟨w', h1, h2, h3⟩ := convC _ _ c hb
  refine wpOp_vl i _ w' hi hw ?_ (h _ h2 h3)
  unfold execOp
  rw [ho]
  simp only [hx, Sem.run_bind]
  rw [h1]
  rfl
theorem sto_reads {w w' : World} {v : Value} {l : By} {g : Nat} {nm : By} {vk : Value} {sr : Nat} {ds : List Value} (h : Reads w v l) (hb : Blk w g (bcl nm vk sr) 25) (hk : ∀ n : Int, vk ≠ .int .u8 n) (hs : SetR ds 25 w g w') : Reads w' v l := by
  obtain ⟨ad, cap, rfl, h2, h3, h4⟩ := h
  refine ⟨ad, cap, rfl, h2, h3, fun hp => ?_⟩
  obtain ⟨b, off, rfl, h5⟩ := h4 hp
  refine ⟨b, off, rfl, fun j hj => ?_⟩
  have hc := h5 j hj
  have hl := block_lt_of_cell hc
  rw [← hc]
  by_cases hbg : b = g
  · exfalso
    rw [hbg, hb.cell] at hc
    generalize off + j = k at hc
    match k, hc with
    | 0, hc => cases hc
    | 1, hc => exact hk _ (Option.some.inj hc)
    | 2, hc => cases hc
    | _ + 3, hc => cases hc
  · exact World.cell?_of_block (w := w) (hs.only.block b hbg hl)
theorem strAnn : strB [97, 110, 110] = ⟨#[97, 110, 110]⟩ := by rfl
theorem works_plain19 : nxE [] [] 0 false 1 [97, 110, 110] [107] zb32 = (0, 1) ∧ nxE [97, 110, 110] [107] 1 true 1 [97, 110, 110] [107] zb32 = (6, 0) ∧ nxE [97, 110, 110] [107] 1 true 2 [97, 110, 110] [108] (hmac [107] (authB [97, 110, 110] 2 [108])) = (0, 2) := by
  have hc1 : chk [97, 110, 110] [107] = 0 := by decide
  have hc2 : chk [97, 110, 110] [108] = 0 := by decide
  refine ⟨?_, ?_, ?_⟩
  · unfold nxE pcE rgE
    rw [hc1]
    simp
  · unfold nxE pcE rgE
    rw [hc1]
    simp
  · unfold nxE pcE cgE
    rw [hc2]
    simp
set_option maxRecDepth 100000 in
set_option maxHeartbeats 16000000 in
theorem works19_any (w : World) (hK : KOk w) : Calls Tryd.prog 9 #[] w fun e w' => e = .returned (.bool true) ∧ Below w.heap.size w w' := by
  obtain ⟨p1, p2, p3⟩ := works_plain19
  obtain ⟨nm, HNM⟩ : ∃ x : By, Hid (x = [97, 110, 110]) := ⟨_, rfl⟩
  obtain ⟨au, HAU⟩ : ∃ x : By, Hid (x = zb32) := ⟨_, rfl⟩
  obtain ⟨hm, HHM⟩ : ∃ x : By, Hid (x = hmac [107] (authB nm 2 [108])) := ⟨_, rfl⟩
  have hal : au.length = 32 := by rw [HAU.out]; rfl
  have hml : hm.length = 32 := by rw [HHM.out]; exact len_dig' _
  have hnl : nm.length = 3 := by rw [HNM.out]; rfl
  rw [← HNM.out, ← HAU.out] at p1 p2
  rw [← HNM.out, ← HHM.out] at p3
  have HST : Hid (strB nm = ⟨#[97, 110, 110]⟩) := by show _ = _; rw [HNM.out]; exact strAnn
  have HBQ : Hid (∀ g : Nat, Tryd.prog.built 29 [(0, .int .i64 1), (1, .string ⟨#[97, 110, 110]⟩), (2, .slice (some ⟨g, 0, none⟩) 1 1)] = some (reqV 1 nm (.slice (some ⟨g, 0, none⟩) 1 1) au).toArray) := fun g => by rw [← HST.out, built_rq, fill_rq3, HAU.out]
  have HC1 : Hid (∀ (W : World) (v : Value), KOk W → Reads W v [107] → Calls Tryd.prog 10 #[.agg (bcl [] (.slice none 0 0) 0).toArray, .bool false, .agg (reqV 1 nm v au).toArray] W fun e w' => ∃ ad n c, e = .returned (.tuple #[.agg (bcl nm (.slice ad n c) 1).toArray, .int .i64 0]) ∧ Reads w' (.slice ad n c) [107] ∧ Below W.heap.size W w') := fun W v hk hr => by
    have h := polNext_any [] [] (.slice none 0 0) 0 false 1 nm [107] au v W hk ⟨none, 0, rfl, Nat.le_refl _, fun _ => rfl, fun h => by cases h⟩ hr hal (by decide) (by decide)
    unfold NxR at h
    rw [p1] at h
    exact h
  have HC2 : Hid (∀ (W : World) (v vb : Value), KOk W → Reads W v [107] → Reads W vb [107] → Calls Tryd.prog 10 #[.agg (bcl nm vb 1).toArray, .bool true, .agg (reqV 1 nm v au).toArray] W fun e w' => ∃ ad n c, e = .returned (.tuple #[.agg (bcl [] (.slice ad n c) 0).toArray, .int .i64 6]) ∧ Reads w' (.slice ad n c) [] ∧ Below W.heap.size W w') := fun W v vb hk hr hb => by
    have h := polNext_any nm [107] vb 1 true 1 nm [107] au v W hk hb hr hal (by decide) (by decide)
    unfold NxR at h
    rw [p2] at h
    exact h
  have HC3 : Hid (∀ (W : World) (v vb : Value), KOk W → Reads W v [108] → Reads W vb [107] → Calls Tryd.prog 13 #[.agg (bcl nm vb 1).toArray, v] W fun e w' => ∃ ad n c, e = .returned (.agg (reqV 2 nm (.slice ad n c) hm).toArray) ∧ Reads w' (.slice ad n c) [108] ∧ Below W.heap.size W w') := fun W v vb hk hr hb => by
    have h := polAsk_any nm [107] [108] vb v 1 2 W hk hb hr (by decide) ⟨by rw [hnl]; decide, by decide, by decide, by decide⟩
    unfold AskR at h
    rw [← HHM.out] at h
    exact h
  have HC4 : Hid (∀ (W : World) (v vb : Value), KOk W → Reads W v [108] → Reads W vb [107] → Calls Tryd.prog 10 #[.agg (bcl nm vb 1).toArray, .bool true, .agg (reqV 2 nm v hm).toArray] W fun e w' => ∃ ad n c, e = .returned (.tuple #[.agg (bcl nm (.slice ad n c) 2).toArray, .int .i64 0]) ∧ Reads w' (.slice ad n c) [108] ∧ Below W.heap.size W w') := fun W v vb hk hr hb => by
    have h := polNext_any nm [107] vb 1 true 2 nm [108] hm v W hk hb hr hml (by decide) (by decide)
    unfold NxR at h
    rw [p3] at h
    exact h
  have HK : Hid (KOk w) := hK
  have HBW : Hid (Below w.heap.size w w) := Below.refl _ _
  clear p1 p2 p3 hal hml hnl hK
  go_enter Tryd.func9, Tryd.ntmps9
  have tk0 : Hid True := trivial
  have tk1 : Hid True := trivial
  have tk2 : Hid True := trivial
  have tk3 : Hid True := trivial
  have tk4 : Hid True := trivial
  have tk5 : Hid True := trivial
  have tk6 : Hid True := trivial
  have tk7 : Hid True := trivial
  have tk8 : Hid True := trivial
  have tk9 : Hid True := trivial
  have tk10 : Hid True := trivial
  have tk11 : Hid True := trivial
  go_wp2_with (first
    | (clear tk0; with_reducible refine wpSeq_build 25 [] (bcl [] (.slice none 0 0) 0) (by kernel_rfl) ?_ ?_ ?_
       · rfl
       · rfl)
    | (clear tk1; with_reducible refine wpSeq_constP (.tmp 9) w 107 _ rfl ?_ ?_ ?_ ?_
       · rfl
       · rfl
       · rfl
       intro gc w1 hg1 hr1 hb
       have HR1 : Hid (Reads w1 (.slice (some ⟨gc, 0, none⟩) 1 1) [107]) := hr1
       clear hg1 hr1
       replace HK : Hid (KOk w1) := HK.out.below hb HK.out.lt
       replace HBW : Hid (Below w.heap.size w w1) := HBW.out.trans (hb.mono HBW.out.size)
       clear hb)
    | (clear tk2; with_reducible refine wpSeq_build 29 [(0, .const (.int .i64 1)), (1, .const (.string ⟨#[97, 110, 110]⟩)), (2, .tmp 10)] (reqV 1 nm (.slice (some ⟨gc, 0, none⟩) 1 1) au) (by refine Eq.trans ?_ (HBQ.out gc); kernel_rfl) ?_ ?_ ?_
       · rfl
       · rfl)
    | (clear tk3; go_at_call 10; refine (HC1.out _ _ HK.out HR1.out).mono ?_; rintro e w2 ⟨ab, nb, cb2, rfl, hr, hb⟩
       have HRB : Hid (Reads w2 (.slice ab nb cb2) [107]) := hr
       clear hr HR1 HC1
       replace HK : Hid (KOk w2) := HK.out.below hb HK.out.lt
       replace HBW : Hid (Below w.heap.size w w2) := HBW.out.trans (hb.mono HBW.out.size)
       clear hb)
    | (clear tk4; with_reducible refine wpSeq_allocB ?_ ?_ ?_
       · rfl
       · rfl
       intro g1 w3 nn
       have HN3 : Hid (NewR (bcl [] (.slice none 0 0) 0) 25 w2 g1 w3) := nn
       clear nn)
    | (clear tk5; with_reducible refine wpSeq_storeRow 25 (.tmp 1) (.tmp 13) g1 (bcl [] (.slice none 0 0) 0) (bcl nm (.slice ab nb cb2) 1) HN3.out.blk len_bcl info_bcl bcl_one ?_ ?_ ?_ ?_ ?_
       · rfl
       · rfl
       · rfl
       · rfl
       intro w4 sr
       have hb : Below w2.heap.size w2 w4 := HN3.out.below.trans (sr.only.below HN3.out.ge HN3.out.below.size)
       have HB1 : Hid (Blk w4 g1 (bcl nm (.slice ab nb cb2) 1) 25) := sr.blk
       replace HRB : Hid (Reads w4 (.slice ab nb cb2) [107]) := HRB.out.below hb
       clear sr HN3
       replace HK : Hid (KOk w4) := HK.out.below hb HK.out.lt
       replace HBW : Hid (Below w.heap.size w w4) := HBW.out.trans (hb.mono HBW.out.size)
       clear hb)
    | (clear tk6; with_reducible refine wpSeq_loadW 25 (.tmp 1) g1 0 (bcl nm (.slice ab nb cb2) 1) _ HB1.out.range Tryd.underlying25 rfl info_bcl ?_ ?_ ?_ ?_
       · rfl
       · rfl
       · rfl)
    | (clear tk7; with_reducible refine wpSeq_constP (.tmp 17) w4 107 _ rfl ?_ ?_ ?_ ?_
       · rfl
       · rfl
       · rfl
       intro gd w5 hg1 hr1 hb
       have HR2 : Hid (Reads w5 (.slice (some ⟨gd, 0, none⟩) 1 1) [107]) := hr1
       clear hg1 hr1
       replace HRB : Hid (Reads w5 (.slice ab nb cb2) [107]) := HRB.out.below hb
       replace HB1 : Hid (Blk w5 g1 (bcl nm (.slice ab nb cb2) 1) 25) := HB1.out.below hb HB1.out.lt
       replace HK : Hid (KOk w5) := HK.out.below hb HK.out.lt
       replace HBW : Hid (Below w.heap.size w w5) := HBW.out.trans (hb.mono HBW.out.size)
       clear hb)
    | (clear tk8; with_reducible refine wpSeq_build 29 [(0, .const (.int .i64 1)), (1, .const (.string ⟨#[97, 110, 110]⟩)), (2, .tmp 18)] (reqV 1 nm (.slice (some ⟨gd, 0, none⟩) 1 1) au) (by refine Eq.trans ?_ (HBQ.out gd); kernel_rfl) ?_ ?_ ?_
       · rfl
       · rfl)
    | (clear tk9; go_at_call 10; refine (HC2.out _ _ _ HK.out HR2.out HRB.out).mono ?_; rintro e w6 ⟨ac, nc, cc2, rfl, hr, hb⟩
       clear hr HR2 HC2
       replace HRB : Hid (Reads w6 (.slice ab nb cb2) [107]) := HRB.out.below hb
       replace HB1 : Hid (Blk w6 g1 (bcl nm (.slice ab nb cb2) 1) 25) := HB1.out.below hb HB1.out.lt
       replace HK : Hid (KOk w6) := HK.out.below hb HK.out.lt
       replace HBW : Hid (Below w.heap.size w w6) := HBW.out.trans (hb.mono HBW.out.size)
       clear hb)
    | (clear tk10; with_reducible refine wpSeq_allocB ?_ ?_ ?_
       · rfl
       · rfl
       intro g3 w7 nn
       have HN7 : Hid (NewR (bcl [] (.slice none 0 0) 0) 25 w6 g3 w7) := nn
       clear nn)
    | (clear tk11; with_reducible refine wpSeq_storeRow 25 (.tmp 3) (.tmp 21) g3 (bcl [] (.slice none 0 0) 0) (bcl [] (.slice ac nc cc2) 0) HN7.out.blk len_bcl info_bcl bcl_one ?_ ?_ ?_ ?_ ?_
       · rfl
       · rfl
       · rfl
       · rfl
       intro w8 sr
       have hb : Below w6.heap.size w6 w8 := HN7.out.below.trans (sr.only.below HN7.out.ge HN7.out.below.size)
       clear sr HN7
       replace HRB : Hid (Reads w8 (.slice ab nb cb2) [107]) := HRB.out.below hb
       replace HB1 : Hid (Blk w8 g1 (bcl nm (.slice ab nb cb2) 1) 25) := HB1.out.below hb HB1.out.lt
       replace HK : Hid (KOk w8) := HK.out.below hb HK.out.lt
       replace HBW : Hid (Below w.heap.size w w8) := HBW.out.trans (hb.mono HBW.out.size)
       clear hb))
  go_cut [5, 6] from 23 to 32 (fun a b W => ∃ (g5 : Nat) (an : Option Addr) (nn cn : Nat), a = .pointer (some ⟨g5, 0, none⟩) ∧ b = .int .i64 0 ∧ Blk W g5 (bcl nm (.slice an nn cn) 2) 25 ∧ Reads W (.slice an nn cn) [108] ∧ Blk W g1 (bcl nm (.slice ab nb cb2) 1) 25 ∧ KOk W ∧ Below w.heap.size w W)
  case first =>
    refine wp_region_held_drew (S := Below w8.heap.size w8.drew) (by kernel_rfl) (Below.refl _ _) ?_
    intro hS
    clear hS
    have HKd : Hid (KOk w8.drew) := HK.out.below (Below.refl _ _).drew HK.out.lt
    have HB1d : Hid (Blk w8.drew g1 (bcl nm (.slice ab nb cb2) 1) 25) := HB1.out.below (Below.refl _ _).drew HB1.out.lt
    have HRBd : Hid (Reads w8.drew (.slice ab nb cb2) [107]) := HRB.out.below (Below.refl _ _).drew
    have HBWd : Hid (Below w.heap.size w w8.drew) := HBW.out.trans ((Below.refl _ _).drew.mono HBW.out.size)
    have HL1 : Hid (g1 < w8.heap.size ∧ w.heap.size ≤ w8.heap.size) := ⟨HB1.out.lt, HBW.out.size⟩
    clear HK HB1 HRB HBW
    obtain ⟨B, HBB⟩ : ∃ x, Hid (x = w8.heap.size) := ⟨_, rfl⟩
    have HBD : Hid (w8.drew.heap.size = B) := by rw [HBB.out]; rfl
    rw [← HBB.out] at HL1 ⊢
    change wpAnyH _ _ _ _ _ _ _ _ (World.drew w8)
    generalize World.drew w8 = wd at *
    clear HBB
    have hS : Below B wd wd := Below.refl _ _
    have HX : Hid (∀ W, Below B wd W → B ≤ W.heap.size ∧ KOk W ∧ Blk W g1 (bcl nm (.slice ab nb cb2) 1) 25 ∧ Reads W (.slice ab nb cb2) [107] ∧ Below w.heap.size w W) := fun W hW =>
      have hW2 : Below wd.heap.size wd W := hW.mono (Nat.le_of_eq HBD.out)
      ⟨by have := hW.size; rw [HBD.out] at this; exact this, HKd.out.below hW2 HKd.out.lt, HB1d.out.below hW2 HB1d.out.lt, HRBd.out.below hW2, HBWd.out.trans (hW.mono HL1.out.2)⟩
    clear HKd HB1d HRBd HBWd
    refine wpAnyH_take (i := 0) (v := .agg (bcl nm (.slice ab nb cb2) 1).toArray) rfl (by kernel_rfl) (by kernel_rfl) (by kernel_rfl) (fun _ _ _ h => h) (Or.inl ⟨by rfl, fun wx hx => by exact load_reqW _ rfl _ rfl (HX.out wx hx).2.2.1⟩) hS ?_
    simp only [Act.put, List.getElem_toArray, List.getElem_cons_zero, List.setIfInBounds_toArray, List.set_cons_zero, List.set_cons_succ]
    refine wpAnyH_take (i := 1) (v := .agg (bcl nm (.slice ab nb cb2) 1).toArray) rfl (by kernel_rfl) (by kernel_rfl) (by kernel_rfl) (fun _ _ _ h => h) (Or.inl ⟨by rfl, fun wx hx => by exact load_reqW _ rfl _ rfl (HX.out wx hx).2.2.1⟩) hS ?_
    simp only [Act.put, List.getElem_toArray, List.getElem_cons_succ, List.getElem_cons_zero, List.setIfInBounds_toArray, List.set_cons_zero, List.set_cons_succ]
    refine wpAnyH_pair 2 9 (by kernel_rfl) ?_ ?_
    · refine wpOp_new 2 (fun g => .slice (some ⟨g, 0, none⟩) 1 1) [.int .u8 ((108 : BitVec 8).toNat : Int)] 5 (by rfl) (by rfl) (build_c1 _ _ 108 rfl rfl _) ?_
      intro gc w11 nn
      have hb := nn.below
      have hgc := nn.blk
      have hgb := Nat.le_trans (HX.out _ hS).1 nn.ge
      clear nn
      have hS := hS.trans (hb.mono (HX.out _ hS).1)
      refine ⟨hS, ?_⟩
      simp only [Act.put, List.getElem_toArray, List.getElem_cons_succ, List.getElem_cons_zero, List.setIfInBounds_toArray, List.set_cons_zero, List.set_cons_succ]
      refine wpAnyH_pair 3 9 (by kernel_rfl) ?_ ?_
      · refine wpOp_convC 3 (.tmp 26) gc 108 hgc (by rfl) (by rfl) (by rfl) (by rfl) ?_
        intro w12 hrc ho
        have hS := hS.trans (ho.below hgb (HX.out _ hS).1)
        clear ho hgc
        refine ⟨hS, ?_⟩
        simp only [Act.put, List.getElem_toArray, List.getElem_cons_succ, List.getElem_cons_zero, List.setIfInBounds_toArray, List.set_cons_zero, List.set_cons_succ]
        refine wpAnyH_pair 4 9 (by kernel_rfl) ?_ ?_
        · refine wpOp_en 4 (by rfl) (by rfl) (f := 13) (args := #[.agg (bcl nm (.slice ab nb cb2) 1).toArray, .slice (some ⟨gc, 0, none⟩) 1 1]) (by simp [go_sem]) (HC3.out _ _ _ (HX.out _ hS).2.1 hrc (HX.out _ hS).2.2.2.1) ?_
          rintro e w13 ⟨ak, nk, ck, rfl, hra, hb⟩
          have hS := hS.trans (hb.mono (HX.out _ hS).1)
          refine ⟨_, rfl, hS, ?_⟩
          simp only [Act.put, List.getElem_toArray, List.getElem_cons_succ, List.getElem_cons_zero, List.setIfInBounds_toArray, List.set_cons_zero, List.set_cons_succ]
          refine wpAnyH_pair 5 9 (by kernel_rfl) ?_ ?_
          · refine wpOp_en 5 (by rfl) (by rfl) (f := 10) (args := #[.agg (bcl nm (.slice ab nb cb2) 1).toArray, .bool true, .agg (reqV 2 nm (.slice ak nk ck) hm).toArray]) (by simp [go_sem]) (HC4.out _ _ _ (HX.out _ hS).2.1 hra (HX.out _ hS).2.2.2.1) ?_
            rintro e w14 ⟨an, nn, cn, rfl, hrn, hb⟩
            have hS := hS.trans (hb.mono (HX.out _ hS).1)
            refine ⟨_, rfl, hS, ?_⟩
            simp only [Act.put, List.getElem_toArray, List.getElem_cons_succ, List.getElem_cons_zero, List.setIfInBounds_toArray, List.set_cons_zero, List.set_cons_succ]
            refine wpAnyH_take (i := 6) (v := .tuple #[.agg (bcl nm (.slice an nn cn) 2).toArray, .int .i64 0]) rfl (by kernel_rfl) (by kernel_rfl) (by kernel_rfl) (fun _ _ _ h => h) (Or.inl ⟨by rfl, fun wx hx => by simp [go_sem]⟩) hS ?_
            simp only [Act.put, List.getElem_toArray, List.getElem_cons_succ, List.getElem_cons_zero, List.setIfInBounds_toArray, List.set_cons_zero, List.set_cons_succ]
            refine wpAnyH_take (i := 7) (v := .agg (bcl nm (.slice an nn cn) 2).toArray) rfl (by kernel_rfl) (by kernel_rfl) (by kernel_rfl) (fun _ _ _ h => h) (Or.inl ⟨by rfl, fun wx hx => by simp [go_sem]⟩) hS ?_
            simp only [Act.put, List.getElem_toArray, List.getElem_cons_succ, List.getElem_cons_zero, List.setIfInBounds_toArray, List.set_cons_zero, List.set_cons_succ]
            refine wpAnyH_take (i := 8) (v := .int .i64 0) rfl (by kernel_rfl) (by kernel_rfl) (by kernel_rfl) (fun _ _ _ h => h) (Or.inl ⟨by rfl, fun wx hx => by simp [go_sem]⟩) hS ?_
            simp only [Act.put, List.getElem_toArray, List.getElem_cons_succ, List.getElem_cons_zero, List.setIfInBounds_toArray, List.set_cons_zero, List.set_cons_succ]
            refine wpAnyH_one 9 (by kernel_rfl) ?_
            refine wpOp_new 9 (fun g => .pointer (some ⟨g, 0, none⟩)) (bcl [] (.slice none 0 0) 0) 25 (by rfl) (by rfl) (alloc_bind _ _ rfl _) ?_
            intro g5 w15 nn
            have hb := nn.below
            have hg5 := nn.blk
            have hg5b := Nat.le_trans (HX.out _ hS).1 nn.ge
            have hrn := hrn.below hb
            clear nn
            have hS := hS.trans (hb.mono (HX.out _ hS).1)
            refine ⟨hS, ?_⟩
            simp only [Act.put, List.getElem_toArray, List.getElem_cons_succ, List.getElem_cons_zero, List.setIfInBounds_toArray, List.set_cons_zero, List.set_cons_succ]
            refine wpAnyH_storeRow 10 25 (.tmp 5) (.tmp 30) g5 (bcl [] (.slice none 0 0) 0) (bcl nm (.slice an nn cn) 2) hg5 len_bcl info_bcl bcl_one (by kernel_rfl) rfl (by rfl) (by rfl) (by rfl) (by rfl) ?_
            intro wz sr
            have hrz : Reads wz (.slice an nn cn) [108] := sto_reads hrn hg5 (by intro n h; cases h) sr
            have hSz := hS.trans (sr.only.below hg5b (HX.out _ hS).1)
            refine ⟨hSz, ?_⟩
            simp only [Act.put, List.getElem_toArray, List.getElem_cons_succ, List.getElem_cons_zero]
            refine wpAnyH_take (i := 11) (v := .int .i64 0) rfl (by kernel_rfl) (by kernel_rfl) (by kernel_rfl) (fun _ _ _ h => h) (Or.inl ⟨by rfl, fun wx hx => by simp [go_sem]⟩) hSz ?_
            simp only [Act.put, List.getElem_toArray, List.getElem_cons_succ, List.getElem_cons_zero, List.setIfInBounds_toArray, List.set_cons_zero, List.set_cons_succ]
            refine wpAnyH_done (by kernel_rfl) ?_ _
            go_wp2
            go_meet
            case rel => exact ⟨g5, an, nn, cn, rfl, rfl, sr.blk, hrz, (HX.out _ hSz).2.2.1, (HX.out _ hSz).2.1, (HX.out _ hSz).2.2.2.2⟩
          · refine wpOp_new 9 (fun g => .pointer (some ⟨g, 0, none⟩)) (bcl [] (.slice none 0 0) 0) 25 (by rfl) (by rfl) (alloc_bind _ _ rfl _) ?_
            intro g5 w16 nn
            have hb := nn.below
            have hg5 := nn.blk
            have hg5b := Nat.le_trans (HX.out _ hS).1 nn.ge
            have hra := hra.below hb
            clear nn
            have hS := hS.trans (hb.mono (HX.out _ hS).1)
            refine ⟨hS, ?_⟩
            simp only [Act.put, List.getElem_toArray, List.getElem_cons_succ, List.getElem_cons_zero, List.setIfInBounds_toArray, List.set_cons_zero, List.set_cons_succ]
            refine wpAnyH_one 5 (by kernel_rfl) ?_
            refine wpOp_en 5 (by rfl) (by rfl) (f := 10) (args := #[.agg (bcl nm (.slice ab nb cb2) 1).toArray, .bool true, .agg (reqV 2 nm (.slice ak nk ck) hm).toArray]) (by simp [go_sem]) (HC4.out _ _ _ (HX.out _ hS).2.1 hra (HX.out _ hS).2.2.2.1) ?_
            rintro e w17 ⟨an, nn, cn, rfl, hrn, hb⟩
            have hg5 := hg5.below hb hg5.lt
            have hS := hS.trans (hb.mono (HX.out _ hS).1)
            refine ⟨_, rfl, hS, ?_⟩
            simp only [Act.put, List.getElem_toArray, List.getElem_cons_succ, List.getElem_cons_zero, List.setIfInBounds_toArray, List.set_cons_zero, List.set_cons_succ]
            refine wpAnyH_take (i := 6) (v := .tuple #[.agg (bcl nm (.slice an nn cn) 2).toArray, .int .i64 0]) rfl (by kernel_rfl) (by kernel_rfl) (by kernel_rfl) (fun _ _ _ h => h) (Or.inl ⟨by rfl, fun wx hx => by simp [go_sem]⟩) hS ?_
            simp only [Act.put, List.getElem_toArray, List.getElem_cons_succ, List.getElem_cons_zero, List.setIfInBounds_toArray, List.set_cons_zero, List.set_cons_succ]
            refine wpAnyH_take (i := 7) (v := .agg (bcl nm (.slice an nn cn) 2).toArray) rfl (by kernel_rfl) (by kernel_rfl) (by kernel_rfl) (fun _ _ _ h => h) (Or.inl ⟨by rfl, fun wx hx => by simp [go_sem]⟩) hS ?_
            simp only [Act.put, List.getElem_toArray, List.getElem_cons_succ, List.getElem_cons_zero, List.setIfInBounds_toArray, List.set_cons_zero, List.set_cons_succ]
            refine wpAnyH_take (i := 8) (v := .int .i64 0) rfl (by kernel_rfl) (by kernel_rfl) (by kernel_rfl) (fun _ _ _ h => h) (Or.inl ⟨by rfl, fun wx hx => by simp [go_sem]⟩) hS ?_
            simp only [Act.put, List.getElem_toArray, List.getElem_cons_succ, List.getElem_cons_zero, List.setIfInBounds_toArray, List.set_cons_zero, List.set_cons_succ]
            refine wpAnyH_storeRow 10 25 (.tmp 5) (.tmp 30) g5 (bcl [] (.slice none 0 0) 0) (bcl nm (.slice an nn cn) 2) hg5 len_bcl info_bcl bcl_one (by kernel_rfl) rfl (by rfl) (by rfl) (by rfl) (by rfl) ?_
            intro wz sr
            have hrz : Reads wz (.slice an nn cn) [108] := sto_reads hrn hg5 (by intro n h; cases h) sr
            have hSz := hS.trans (sr.only.below hg5b (HX.out _ hS).1)
            refine ⟨hSz, ?_⟩
            simp only [Act.put, List.getElem_toArray, List.getElem_cons_succ, List.getElem_cons_zero]
            refine wpAnyH_take (i := 11) (v := .int .i64 0) rfl (by kernel_rfl) (by kernel_rfl) (by kernel_rfl) (fun _ _ _ h => h) (Or.inl ⟨by rfl, fun wx hx => by simp [go_sem]⟩) hSz ?_
            simp only [Act.put, List.getElem_toArray, List.getElem_cons_succ, List.getElem_cons_zero, List.setIfInBounds_toArray, List.set_cons_zero, List.set_cons_succ]
            refine wpAnyH_done (by kernel_rfl) ?_ _
            go_wp2
            go_meet
            case rel => exact ⟨g5, an, nn, cn, rfl, rfl, sr.blk, hrz, (HX.out _ hSz).2.2.1, (HX.out _ hSz).2.1, (HX.out _ hSz).2.2.2.2⟩
        · refine wpOp_new 9 (fun g => .pointer (some ⟨g, 0, none⟩)) (bcl [] (.slice none 0 0) 0) 25 (by rfl) (by rfl) (alloc_bind _ _ rfl _) ?_
          intro g5 w18 nn
          have hb := nn.below
          have hg5 := nn.blk
          have hg5b := Nat.le_trans (HX.out _ hS).1 nn.ge
          have hrc := hrc.below hb
          clear nn
          have hS := hS.trans (hb.mono (HX.out _ hS).1)
          refine ⟨hS, ?_⟩
          simp only [Act.put, List.getElem_toArray, List.getElem_cons_succ, List.getElem_cons_zero, List.setIfInBounds_toArray, List.set_cons_zero, List.set_cons_succ]
          refine wpAnyH_one 4 (by kernel_rfl) ?_
          refine wpOp_en 4 (by rfl) (by rfl) (f := 13) (args := #[.agg (bcl nm (.slice ab nb cb2) 1).toArray, .slice (some ⟨gc, 0, none⟩) 1 1]) (by simp [go_sem]) (HC3.out _ _ _ (HX.out _ hS).2.1 hrc (HX.out _ hS).2.2.2.1) ?_
          rintro e w19 ⟨ak, nk, ck, rfl, hra, hb⟩
          have hg5 := hg5.below hb hg5.lt
          have hS := hS.trans (hb.mono (HX.out _ hS).1)
          refine ⟨_, rfl, hS, ?_⟩
          simp only [Act.put, List.getElem_toArray, List.getElem_cons_succ, List.getElem_cons_zero, List.setIfInBounds_toArray, List.set_cons_zero, List.set_cons_succ]
          refine wpAnyH_one 5 (by kernel_rfl) ?_
          refine wpOp_en 5 (by rfl) (by rfl) (f := 10) (args := #[.agg (bcl nm (.slice ab nb cb2) 1).toArray, .bool true, .agg (reqV 2 nm (.slice ak nk ck) hm).toArray]) (by simp [go_sem]) (HC4.out _ _ _ (HX.out _ hS).2.1 hra (HX.out _ hS).2.2.2.1) ?_
          rintro e w20 ⟨an, nn, cn, rfl, hrn, hb⟩
          have hg5 := hg5.below hb hg5.lt
          have hS := hS.trans (hb.mono (HX.out _ hS).1)
          refine ⟨_, rfl, hS, ?_⟩
          simp only [Act.put, List.getElem_toArray, List.getElem_cons_succ, List.getElem_cons_zero, List.setIfInBounds_toArray, List.set_cons_zero, List.set_cons_succ]
          refine wpAnyH_take (i := 6) (v := .tuple #[.agg (bcl nm (.slice an nn cn) 2).toArray, .int .i64 0]) rfl (by kernel_rfl) (by kernel_rfl) (by kernel_rfl) (fun _ _ _ h => h) (Or.inl ⟨by rfl, fun wx hx => by simp [go_sem]⟩) hS ?_
          simp only [Act.put, List.getElem_toArray, List.getElem_cons_succ, List.getElem_cons_zero, List.setIfInBounds_toArray, List.set_cons_zero, List.set_cons_succ]
          refine wpAnyH_take (i := 7) (v := .agg (bcl nm (.slice an nn cn) 2).toArray) rfl (by kernel_rfl) (by kernel_rfl) (by kernel_rfl) (fun _ _ _ h => h) (Or.inl ⟨by rfl, fun wx hx => by simp [go_sem]⟩) hS ?_
          simp only [Act.put, List.getElem_toArray, List.getElem_cons_succ, List.getElem_cons_zero, List.setIfInBounds_toArray, List.set_cons_zero, List.set_cons_succ]
          refine wpAnyH_take (i := 8) (v := .int .i64 0) rfl (by kernel_rfl) (by kernel_rfl) (by kernel_rfl) (fun _ _ _ h => h) (Or.inl ⟨by rfl, fun wx hx => by simp [go_sem]⟩) hS ?_
          simp only [Act.put, List.getElem_toArray, List.getElem_cons_succ, List.getElem_cons_zero, List.setIfInBounds_toArray, List.set_cons_zero, List.set_cons_succ]
          refine wpAnyH_storeRow 10 25 (.tmp 5) (.tmp 30) g5 (bcl [] (.slice none 0 0) 0) (bcl nm (.slice an nn cn) 2) hg5 len_bcl info_bcl bcl_one (by kernel_rfl) rfl (by rfl) (by rfl) (by rfl) (by rfl) ?_
          intro wz sr
          have hrz : Reads wz (.slice an nn cn) [108] := sto_reads hrn hg5 (by intro n h; cases h) sr
          have hSz := hS.trans (sr.only.below hg5b (HX.out _ hS).1)
          refine ⟨hSz, ?_⟩
          simp only [Act.put, List.getElem_toArray, List.getElem_cons_succ, List.getElem_cons_zero]
          refine wpAnyH_take (i := 11) (v := .int .i64 0) rfl (by kernel_rfl) (by kernel_rfl) (by kernel_rfl) (fun _ _ _ h => h) (Or.inl ⟨by rfl, fun wx hx => by simp [go_sem]⟩) hSz ?_
          simp only [Act.put, List.getElem_toArray, List.getElem_cons_succ, List.getElem_cons_zero, List.setIfInBounds_toArray, List.set_cons_zero, List.set_cons_succ]
          refine wpAnyH_done (by kernel_rfl) ?_ _
          go_wp2
          go_meet
          case rel => exact ⟨g5, an, nn, cn, rfl, rfl, sr.blk, hrz, (HX.out _ hSz).2.2.1, (HX.out _ hSz).2.1, (HX.out _ hSz).2.2.2.2⟩
      · refine wpOp_new 9 (fun g => .pointer (some ⟨g, 0, none⟩)) (bcl [] (.slice none 0 0) 0) 25 (by rfl) (by rfl) (alloc_bind _ _ rfl _) ?_
        intro g5 w21 nn
        have hb := nn.below
        have hg5 := nn.blk
        have hg5b := Nat.le_trans (HX.out _ hS).1 nn.ge
        have hne : gc ≠ g5 := fun e => by have := hgc.lt; have := nn.ge; omega
        have hgc := hgc.below hb hgc.lt
        clear nn
        have hS := hS.trans (hb.mono (HX.out _ hS).1)
        refine ⟨hS, ?_⟩
        simp only [Act.put, List.getElem_toArray, List.getElem_cons_succ, List.getElem_cons_zero, List.setIfInBounds_toArray, List.set_cons_zero, List.set_cons_succ]
        refine wpAnyH_one 3 (by kernel_rfl) ?_
        refine wpOp_convC 3 (.tmp 26) gc 108 hgc (by rfl) (by rfl) (by rfl) (by rfl) ?_
        intro w22 hrc ho
        have hg5 := hg5.onlyP ho hne.symm
        have hS := hS.trans (ho.below hgb (HX.out _ hS).1)
        clear ho hgc
        refine ⟨hS, ?_⟩
        simp only [Act.put, List.getElem_toArray, List.getElem_cons_succ, List.getElem_cons_zero, List.setIfInBounds_toArray, List.set_cons_zero, List.set_cons_succ]
        refine wpAnyH_one 4 (by kernel_rfl) ?_
        refine wpOp_en 4 (by rfl) (by rfl) (f := 13) (args := #[.agg (bcl nm (.slice ab nb cb2) 1).toArray, .slice (some ⟨gc, 0, none⟩) 1 1]) (by simp [go_sem]) (HC3.out _ _ _ (HX.out _ hS).2.1 hrc (HX.out _ hS).2.2.2.1) ?_
        rintro e w23 ⟨ak, nk, ck, rfl, hra, hb⟩
        have hg5 := hg5.below hb hg5.lt
        have hS := hS.trans (hb.mono (HX.out _ hS).1)
        refine ⟨_, rfl, hS, ?_⟩
        simp only [Act.put, List.getElem_toArray, List.getElem_cons_succ, List.getElem_cons_zero, List.setIfInBounds_toArray, List.set_cons_zero, List.set_cons_succ]
        refine wpAnyH_one 5 (by kernel_rfl) ?_
        refine wpOp_en 5 (by rfl) (by rfl) (f := 10) (args := #[.agg (bcl nm (.slice ab nb cb2) 1).toArray, .bool true, .agg (reqV 2 nm (.slice ak nk ck) hm).toArray]) (by simp [go_sem]) (HC4.out _ _ _ (HX.out _ hS).2.1 hra (HX.out _ hS).2.2.2.1) ?_
        rintro e w24 ⟨an, nn, cn, rfl, hrn, hb⟩
        have hg5 := hg5.below hb hg5.lt
        have hS := hS.trans (hb.mono (HX.out _ hS).1)
        refine ⟨_, rfl, hS, ?_⟩
        simp only [Act.put, List.getElem_toArray, List.getElem_cons_succ, List.getElem_cons_zero, List.setIfInBounds_toArray, List.set_cons_zero, List.set_cons_succ]
        refine wpAnyH_take (i := 6) (v := .tuple #[.agg (bcl nm (.slice an nn cn) 2).toArray, .int .i64 0]) rfl (by kernel_rfl) (by kernel_rfl) (by kernel_rfl) (fun _ _ _ h => h) (Or.inl ⟨by rfl, fun wx hx => by simp [go_sem]⟩) hS ?_
        simp only [Act.put, List.getElem_toArray, List.getElem_cons_succ, List.getElem_cons_zero, List.setIfInBounds_toArray, List.set_cons_zero, List.set_cons_succ]
        refine wpAnyH_take (i := 7) (v := .agg (bcl nm (.slice an nn cn) 2).toArray) rfl (by kernel_rfl) (by kernel_rfl) (by kernel_rfl) (fun _ _ _ h => h) (Or.inl ⟨by rfl, fun wx hx => by simp [go_sem]⟩) hS ?_
        simp only [Act.put, List.getElem_toArray, List.getElem_cons_succ, List.getElem_cons_zero, List.setIfInBounds_toArray, List.set_cons_zero, List.set_cons_succ]
        refine wpAnyH_take (i := 8) (v := .int .i64 0) rfl (by kernel_rfl) (by kernel_rfl) (by kernel_rfl) (fun _ _ _ h => h) (Or.inl ⟨by rfl, fun wx hx => by simp [go_sem]⟩) hS ?_
        simp only [Act.put, List.getElem_toArray, List.getElem_cons_succ, List.getElem_cons_zero, List.setIfInBounds_toArray, List.set_cons_zero, List.set_cons_succ]
        refine wpAnyH_storeRow 10 25 (.tmp 5) (.tmp 30) g5 (bcl [] (.slice none 0 0) 0) (bcl nm (.slice an nn cn) 2) hg5 len_bcl info_bcl bcl_one (by kernel_rfl) rfl (by rfl) (by rfl) (by rfl) (by rfl) ?_
        intro wz sr
        have hrz : Reads wz (.slice an nn cn) [108] := sto_reads hrn hg5 (by intro n h; cases h) sr
        have hSz := hS.trans (sr.only.below hg5b (HX.out _ hS).1)
        refine ⟨hSz, ?_⟩
        simp only [Act.put, List.getElem_toArray, List.getElem_cons_succ, List.getElem_cons_zero]
        refine wpAnyH_take (i := 11) (v := .int .i64 0) rfl (by kernel_rfl) (by kernel_rfl) (by kernel_rfl) (fun _ _ _ h => h) (Or.inl ⟨by rfl, fun wx hx => by simp [go_sem]⟩) hSz ?_
        simp only [Act.put, List.getElem_toArray, List.getElem_cons_succ, List.getElem_cons_zero, List.setIfInBounds_toArray, List.set_cons_zero, List.set_cons_succ]
        refine wpAnyH_done (by kernel_rfl) ?_ _
        go_wp2
        go_meet
        case rel => exact ⟨g5, an, nn, cn, rfl, rfl, sr.blk, hrz, (HX.out _ hSz).2.2.1, (HX.out _ hSz).2.1, (HX.out _ hSz).2.2.2.2⟩
    · refine wpOp_new 9 (fun g => .pointer (some ⟨g, 0, none⟩)) (bcl [] (.slice none 0 0) 0) 25 (by rfl) (by rfl) (alloc_bind _ _ rfl _) ?_
      intro g5 w25 nn
      have hb := nn.below
      have hg5 := nn.blk
      have hg5b := Nat.le_trans (HX.out _ hS).1 nn.ge
      clear nn
      have hS := hS.trans (hb.mono (HX.out _ hS).1)
      refine ⟨hS, ?_⟩
      simp only [Act.put, List.getElem_toArray, List.getElem_cons_succ, List.getElem_cons_zero, List.setIfInBounds_toArray, List.set_cons_zero, List.set_cons_succ]
      refine wpAnyH_one 2 (by kernel_rfl) ?_
      refine wpOp_new 2 (fun g => .slice (some ⟨g, 0, none⟩) 1 1) [.int .u8 ((108 : BitVec 8).toNat : Int)] 5 (by rfl) (by rfl) (build_c1 _ _ 108 rfl rfl _) ?_
      intro gc w26 nn
      have hb := nn.below
      have hgc := nn.blk
      have hgb := Nat.le_trans (HX.out _ hS).1 nn.ge
      have hne : gc ≠ g5 := fun e => by have := hg5.lt; have := nn.ge; omega
      have hg5 := hg5.below hb hg5.lt
      clear nn
      have hS := hS.trans (hb.mono (HX.out _ hS).1)
      refine ⟨hS, ?_⟩
      simp only [Act.put, List.getElem_toArray, List.getElem_cons_succ, List.getElem_cons_zero, List.setIfInBounds_toArray, List.set_cons_zero, List.set_cons_succ]
      refine wpAnyH_one 3 (by kernel_rfl) ?_
      refine wpOp_convC 3 (.tmp 26) gc 108 hgc (by rfl) (by rfl) (by rfl) (by rfl) ?_
      intro w27 hrc ho
      have hg5 := hg5.onlyP ho hne.symm
      have hS := hS.trans (ho.below hgb (HX.out _ hS).1)
      clear ho hgc
      refine ⟨hS, ?_⟩
      simp only [Act.put, List.getElem_toArray, List.getElem_cons_succ, List.getElem_cons_zero, List.setIfInBounds_toArray, List.set_cons_zero, List.set_cons_succ]
      refine wpAnyH_one 4 (by kernel_rfl) ?_
      refine wpOp_en 4 (by rfl) (by rfl) (f := 13) (args := #[.agg (bcl nm (.slice ab nb cb2) 1).toArray, .slice (some ⟨gc, 0, none⟩) 1 1]) (by simp [go_sem]) (HC3.out _ _ _ (HX.out _ hS).2.1 hrc (HX.out _ hS).2.2.2.1) ?_
      rintro e w28 ⟨ak, nk, ck, rfl, hra, hb⟩
      have hg5 := hg5.below hb hg5.lt
      have hS := hS.trans (hb.mono (HX.out _ hS).1)
      refine ⟨_, rfl, hS, ?_⟩
      simp only [Act.put, List.getElem_toArray, List.getElem_cons_succ, List.getElem_cons_zero, List.setIfInBounds_toArray, List.set_cons_zero, List.set_cons_succ]
      refine wpAnyH_one 5 (by kernel_rfl) ?_
      refine wpOp_en 5 (by rfl) (by rfl) (f := 10) (args := #[.agg (bcl nm (.slice ab nb cb2) 1).toArray, .bool true, .agg (reqV 2 nm (.slice ak nk ck) hm).toArray]) (by simp [go_sem]) (HC4.out _ _ _ (HX.out _ hS).2.1 hra (HX.out _ hS).2.2.2.1) ?_
      rintro e w29 ⟨an, nn, cn, rfl, hrn, hb⟩
      have hg5 := hg5.below hb hg5.lt
      have hS := hS.trans (hb.mono (HX.out _ hS).1)
      refine ⟨_, rfl, hS, ?_⟩
      simp only [Act.put, List.getElem_toArray, List.getElem_cons_succ, List.getElem_cons_zero, List.setIfInBounds_toArray, List.set_cons_zero, List.set_cons_succ]
      refine wpAnyH_take (i := 6) (v := .tuple #[.agg (bcl nm (.slice an nn cn) 2).toArray, .int .i64 0]) rfl (by kernel_rfl) (by kernel_rfl) (by kernel_rfl) (fun _ _ _ h => h) (Or.inl ⟨by rfl, fun wx hx => by simp [go_sem]⟩) hS ?_
      simp only [Act.put, List.getElem_toArray, List.getElem_cons_succ, List.getElem_cons_zero, List.setIfInBounds_toArray, List.set_cons_zero, List.set_cons_succ]
      refine wpAnyH_take (i := 7) (v := .agg (bcl nm (.slice an nn cn) 2).toArray) rfl (by kernel_rfl) (by kernel_rfl) (by kernel_rfl) (fun _ _ _ h => h) (Or.inl ⟨by rfl, fun wx hx => by simp [go_sem]⟩) hS ?_
      simp only [Act.put, List.getElem_toArray, List.getElem_cons_succ, List.getElem_cons_zero, List.setIfInBounds_toArray, List.set_cons_zero, List.set_cons_succ]
      refine wpAnyH_take (i := 8) (v := .int .i64 0) rfl (by kernel_rfl) (by kernel_rfl) (by kernel_rfl) (fun _ _ _ h => h) (Or.inl ⟨by rfl, fun wx hx => by simp [go_sem]⟩) hS ?_
      simp only [Act.put, List.getElem_toArray, List.getElem_cons_succ, List.getElem_cons_zero, List.setIfInBounds_toArray, List.set_cons_zero, List.set_cons_succ]
      refine wpAnyH_storeRow 10 25 (.tmp 5) (.tmp 30) g5 (bcl [] (.slice none 0 0) 0) (bcl nm (.slice an nn cn) 2) hg5 len_bcl info_bcl bcl_one (by kernel_rfl) rfl (by rfl) (by rfl) (by rfl) (by rfl) ?_
      intro wz sr
      have hrz : Reads wz (.slice an nn cn) [108] := sto_reads hrn hg5 (by intro n h; cases h) sr
      have hSz := hS.trans (sr.only.below hg5b (HX.out _ hS).1)
      refine ⟨hSz, ?_⟩
      simp only [Act.put, List.getElem_toArray, List.getElem_cons_succ, List.getElem_cons_zero]
      refine wpAnyH_take (i := 11) (v := .int .i64 0) rfl (by kernel_rfl) (by kernel_rfl) (by kernel_rfl) (fun _ _ _ h => h) (Or.inl ⟨by rfl, fun wx hx => by simp [go_sem]⟩) hSz ?_
      simp only [Act.put, List.getElem_toArray, List.getElem_cons_succ, List.getElem_cons_zero, List.setIfInBounds_toArray, List.set_cons_zero, List.set_cons_succ]
      refine wpAnyH_done (by kernel_rfl) ?_ _
      go_wp2
      go_meet
      case rel => exact ⟨g5, an, nn, cn, rfl, rfl, sr.blk, hrz, (HX.out _ hSz).2.2.1, (HX.out _ hSz).2.1, (HX.out _ hSz).2.2.2.2⟩
  case rest =>
    clear HC3 HC4 HK HRB HB1 HBW
    obtain ⟨g5, an, nn, cn, rfl, rfl, hb5, hr5, hb1, hk, hbw⟩ := hcut
    have c1 : wc.cell? ⟨g1, 2, none⟩ = some (.int .u64 1) := hb1.cell 2
    have c2 : wc.cell? ⟨g5, 2, none⟩ = some (.int .u64 2) := hb5.cell 2
    have c3 : wc.cell? ⟨g5, 1, none⟩ = some (.slice an nn cn) := hb5.cell 1
    have c4 : (convert 22 9 (.slice an nn cn)).run Tryd.prog wc = .ok (.string ⟨#[108]⟩) wc := conv_reads hr5
    have HBZ : Hid (Below w.heap.size w wc) := hbw
    clear hb1 hb5 hr5 hk hbw
    go_wp2
    go_ret
    exact ⟨rfl, HBZ.out⟩
end Go.Proofs.YtmkjcgjbhibnpaaDoor

/- The walk of the function value that mac.blockWriter answers: it writes the key's block, each byte turned, to a Hash. -/
import Derived.Test.YtaleeaocmomjlaaDoorBlockW
namespace Go.Proofs.YtaleeaocmomjlaaDoor
open Go.RowKit
theorem Blk.bytes {w : World} {g gh : Nat} {bs : List (BitVec 8)} {t : TypeId} (h : Blk w g (cb bs) t) (hne : g ≠ gh) {n c : Nat} (hn : n = bs.length) (hc : bs.length ≤ c) : Bytes w gh (.slice (some ⟨g, 0, none⟩) n c) bs := by
  subst hn
  exact ⟨_, _, rfl, hc, fun _ => ⟨g, 0, rfl, hne, fun j hj => by rw [h.cell, Nat.zero_add, cb_get _ j hj]⟩⟩
theorem cells_kb (kb : List (BitVec 8)) (hk : kb.length = 64) : (Tryd.prog.info? 77).map (·.size) = some (cb kb).length := by rw [cb_len, hk]; exact Tryd.info77
set_option maxRecDepth 100000 in
set_option maxHeartbeats 1000000 in
theorem clo_any (g gh : Nat) (kb m : List (BitVec 8)) (t : BitVec 8) (w : World) (hK : KOk w) (hg : 0 ≠ gh) (hB : Blk w g (cb kb) 77) (hk : kb.length = 64) (hH : HashIs 79 w gh m) (hl : m.length + 64 < 4611686018427387904) :
    Calls Tryd.prog 55 #[.pointer (some ⟨gh, 0, none⟩), .int .u8 (t.toNat : Int), .pointer (some ⟨g, 0, none⟩)] w fun e w' => e = .returned (.tuple #[]) ∧ HashIs 79 w' gh (m ++ turnB t kb) ∧ Only gh w w' := by
  have HK : Hid (KOk w) := hK
  have HH : Hid (HashIs 79 w gh m) := hH
  have HKL : Hid (kb.length = 64) := hk
  obtain ⟨cs, HC⟩ : ∃ x, Hid (x = cb kb) := ⟨_, rfl⟩
  have HB : Hid (Blk w g cs 77) := by rw [HC.out]; exact hB
  have HL : Hid (cs.length = 64) := by show _ = _; rw [HC.out, cb_len, hk]
  have HZ : Hid ((Tryd.prog.info? 77).map (·.size) = some cs.length) := by show _ = _; rw [HL.out]; exact Tryd.info77
  have H1 : Hid (∀ v ∈ cs, v.oneCell' = true) := by show ∀ _, _; rw [HC.out]; exact cb_one _
  clear hK hH hk hB
  go_enter Tryd.func55, Tryd.ntmps55
  go_wp2_with (first
    | (refine wpList_load_mid rfl 77 _ rfl g 0 rfl cs _ HB.out.range Tryd.underlying77 rfl HZ.out ?_)
    | (refine wpList_store_mid rfl 77 _ _ rfl _ 0 cs.toArray rfl rfl ?_ (by simpa using HZ.out) (all_oneCell_toArray H1.out) ?_; exact Blk.there (Blk.new_at rfl (cb zb64) _) _ _ (by rw [List.size_toArray, HL.out]; exact Nat.le_refl _); refine Hid.out ?_))
  generalize h0 : Obj.cells _ 77 = o64
  have ho : o64 = Obj.cells (cb zb64).toArray 77 := h0.symm
  clear h0
  subst ho
  have hT : Blk ((w.alloc (.cells (cb zb64).toArray 77)).setCells w.heap.size 0 cs) w.heap.size (cb (turnI t kb 0)) 77 := by
    rw [turnI_zero, ← HC.out]
    exact (Blk.new w (cb zb64) 77).whole cs (by rw [HL.out]; rfl)
  have hB2 : Below w.heap.size w ((w.alloc (.cells (cb zb64).toArray 77)).setCells w.heap.size 0 cs) := Below.setCells _ (Nat.le_refl _) _ _ _ (below_alloc' _ _)
  generalize World.setCells _ _ _ _ = w2 at *
  clear HB HL HZ H1
  unfold Hid
  go_wp2
  go_loopw [8] (fun i wr => ∃ j : Nat, j ≤ 64 ∧ i = .int .i64 j ∧ Blk wr w.heap.size (cb (turnI t kb j)) 77 ∧ Below w.heap.size w wr) (fun i _ => 64 - (intOf i).toNat)
  case atStart => exact ⟨0, by omega, rfl, hT, hB2⟩
  case round =>
    clear hT hB2
    obtain ⟨j, hj, rfl, hT, hbel⟩ := hrel
    by_cases hlt : j < 64
    · obtain ⟨x, HX⟩ : ∃ x, Hid (x = kb.getD j 0) := ⟨_, rfl⟩
      have cT : wr.cell? ⟨w.heap.size, j, none⟩ = some (.int .u8 (x.toNat : Int)) := by
        have hkl := HKL.out
        rw [hT.cell, cb_get _ _ (by rw [len_turnI]; omega), turnI_get t kb j (by omega), HX.out]
      have fT : wr.frozen? ⟨w.heap.size, j, none⟩ = false := hT.frozen _
      have hx := xor_byte x t
      have HT : Hid (Blk wr w.heap.size (cb (turnI t kb j)) 77) := hT
      clear hT
      go_wp2
      go_roundw
      case rel =>
        refine ⟨j + 1, by omega, by go_num, ?_, hbel.setCell (Nat.le_refl _) _⟩
        have h := HT.out.set j (.int .u8 ((x ^^^ t).toNat : Int))
        have hkl := HKL.out
        rw [cb_set, HX.out, turnI_set t kb j (by omega)] at h
        rw [HX.out]
        exact h
      case measure => simp [intOf]; omega
    · have hj8 : j = 64 := by omega
      subst hj8
      have HT : Hid (Blk wr w.heap.size (cb (turnB t kb)) 77) := by
        rw [turnI_all t kb 64 (by have := HKL.out; omega)] at hT
        exact hT
      clear hT
      go_wp2_with fail
      have hne : w.heap.size ≠ gh := by have := HH.out.lt; omega
      refine (write_any gh m (turnB t kb) _ wr hg (HK.out.below hbel HK.out.lt) (HH.out.below hbel HH.out.lt) (HT.out.bytes hne (by rw [len_turnB]; exact HKL.out.symm) (by rw [len_turnB]; have := HKL.out; omega)) (by rw [len_turnB]; have := HKL.out; omega)).mono ?_
      rintro e w3 ⟨rfl, hh3, ho3⟩
      have HH3 : Hid (HashIs 79 w3 gh (m ++ turnB t kb)) := hh3
      have HO3 : Hid (Only gh w w3) := (Only.of_below hbel).trans ho3
      clear hh3 ho3 HT
      go_wp2
      first
        | (go_end0; exact ⟨rfl, HH3.out, HO3.out⟩)
        | (go_ret; exact ⟨rfl, HH3.out, HO3.out⟩)
end Go.Proofs.YtaleeaocmomjlaaDoor

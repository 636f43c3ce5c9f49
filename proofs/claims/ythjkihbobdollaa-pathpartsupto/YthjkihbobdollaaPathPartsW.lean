/- PathParts, walked. -/
import Derived.Test.YthjkihbobdollaaPathE
namespace Go.Proofs.Ythjkihbobdollaa
open Go.RowKit
theorem beq_false_fun (ds : List (List (BitVec 8))) (i : Int) : (ds.filter fun d => bitI d i == false) = ds.filter fun d => !bitI d i := by
  congr 1; funext d; cases bitI d i <;> rfl
theorem beq_true_fun (ds : List (List (BitVec 8))) (i : Int) : (ds.filter fun d => bitI d i == true) = ds.filter fun d => bitI d i := by
  congr 1; funext d; cases bitI d i <;> rfl
set_option maxRecDepth 100000 in
set_option maxHeartbeats 2000000 in
theorem pathParts_walk (v : Value) (ds : List (List (BitVec 8))) (i : Int) (w : World) (hR : ReadsD w v ds) (hl : ds.length < 2000000) :
    Calls Try.prog 6 #[v, .int .i64 i] w fun e w' => e = .returned (.bool true) ∧ Below w.heap.size w w' := by
  have HR : Hid (ReadsD w v ds) := hR
  have HL : Hid (ds.length < 2000000) := hl
  obtain ⟨offs, HOFF⟩ : ∃ l, Hid (l = ds.filter fun d => !bitI d i) := ⟨_, rfl⟩
  obtain ⟨ons, HON⟩ : ∃ l, Hid (l = ds.filter fun d => bitI d i) := ⟨_, rfl⟩
  have HLF : Hid (offs.length < 2000000) := by show _ < _; rw [HOFF.out]; exact Nat.lt_of_le_of_lt (List.length_filter_le _ _) hl
  have HLN : Hid (ons.length < 2000000) := by show _ < _; rw [HON.out]; exact Nat.lt_of_le_of_lt (List.length_filter_le _ _) hl
  clear hR hl
  go_enter Try.func6, Try.ntmps6
  go_wp2_with (go_at_call 22; refine (pPart_any v ds i _ HR.out HL.out).mono ?_; rintro e w1 ⟨v1, v2, rfl, r1, r2, hb⟩; rw [← HOFF.out] at r1; rw [← HON.out] at r2)
  have HBW : Hid (Below w.heap.size w w1) := hb
  have R0 : Hid (ReadsD w1 v ds) := HR.out.below hb
  have R1 : Hid (ReadsD w1 v1 offs) := r1
  have R2 : Hid (ReadsD w1 v2 ons) := r2
  clear r1 r2 hb HR
  refine (sPart_any v ds i false _ R0.out HL.out).mono ?_
  rintro e w2 ⟨v3, rfl, r3, hb⟩
  rw [beq_false_fun, ← HOFF.out] at r3
  have R3 : Hid (ReadsD w2 v3 offs) := r3
  replace R0 : Hid (ReadsD w2 v ds) := R0.out.below hb
  replace R1 : Hid (ReadsD w2 v1 offs) := R1.out.below hb
  replace R2 : Hid (ReadsD w2 v2 ons) := R2.out.below hb
  replace HBW : Hid (Below w.heap.size w w2) := HBW.out.trans (hb.mono HBW.out.size)
  clear r3 hb
  go_wp2_with fail
  refine (sSame_same v1 v3 offs _ R1.out R3.out HLF.out).mono ?_
  rintro e w3 ⟨rfl, hb⟩
  replace R0 : Hid (ReadsD w3 v ds) := R0.out.below hb
  replace R2 : Hid (ReadsD w3 v2 ons) := R2.out.below hb
  replace HBW : Hid (Below w.heap.size w w3) := HBW.out.trans (hb.mono HBW.out.size)
  clear hb
  go_wp2_with fail
  refine (sPart_any v ds i true _ R0.out HL.out).mono ?_
  rintro e w4 ⟨v4, rfl, r4, hb⟩
  rw [beq_true_fun, ← HON.out] at r4
  have R4 : Hid (ReadsD w4 v4 ons) := r4
  replace R2 : Hid (ReadsD w4 v2 ons) := R2.out.below hb
  replace HBW : Hid (Below w.heap.size w w4) := HBW.out.trans (hb.mono HBW.out.size)
  clear r4 hb
  go_wp2_with fail
  refine (sSame_same v2 v4 ons _ R2.out R4.out HLN.out).mono ?_
  rintro e w5 ⟨rfl, hb⟩
  replace HBW : Hid (Below w.heap.size w w5) := HBW.out.trans (hb.mono HBW.out.size)
  clear hb
  go_wp2_with fail
  refine (pworks_any _).mono ?_
  rintro e w6 ⟨rfl, hb⟩
  replace HBW : Hid (Below w.heap.size w w6) := HBW.out.trans (hb.mono HBW.out.size)
  clear hb
  go_wp2
  go_ret
  exact ⟨rfl, HBW.out⟩
end Go.Proofs.Ythjkihbobdollaa

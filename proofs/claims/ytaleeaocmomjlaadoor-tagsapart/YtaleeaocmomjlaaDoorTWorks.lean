/- The walk of the statements' own example (layer 3): works() answers true. -/
import Derived.Test.YtaleeaocmomjlaaDoorTBytes
import Derived.Test.YtaleeaocmomjlaaDoorSmall
import Derived.Test.YtaleeaocmomjlaaDoorKind
import Derived.Lib.SlBytesConst
namespace Go.Proofs.YtaleeaocmomjlaaDoor
open Go.RowKit
def dOne : List (BitVec 8) := 1 :: List.replicate 31 0
def dTwo : List (BitVec 8) := 2 :: List.replicate 31 0
def abc : List (BitVec 8) := [97, 98, 99]
theorem built_one : Tryd.prog.built 23 [(0, .int .u8 1)] = some (cb dOne).toArray := by kernel_rfl
theorem built_two : Tryd.prog.built 23 [(0, .int .u8 2)] = some (cb dTwo).toArray := by kernel_rfl
theorem str_E : strB [69] = ⟨#[69]⟩ := by kernel_rfl
theorem reads_cst (w : World) (l : List (BitVec 8)) (n : Nat) (hn : n = l.length) (fz : Nat × Nat) : Reads (w.alloc (.cells (cb l).toArray 5 fz)) (.slice (some ⟨w.heap.size, 0, none⟩) n n) l := by
  subst hn
  refine ⟨_, l.length, rfl, Nat.le_refl _, (fun h => by cases h), fun _ => ⟨w.heap.size, 0, rfl, fun j hj => ?_⟩⟩
  rw [World.cell?_alloc_mark, Nat.zero_add]
  have := cb_get l j hj
  simpa using this
set_option maxRecDepth 100000 in
set_option maxHeartbeats 1000000 in
theorem tworks_any (w : World) (hK : KOk w) : Calls Tryd.prog 9 #[] w fun e w' => e = .returned (.bool true) ∧ Below w.heap.size w w' := by
  have HK : Hid (KOk w) := hK
  clear hK
  have kc := fun (w : World) (C : Array Value) (n c : Nat) => Lib.run_convert_bytes_const (P := Tryd.prog) w 24 5 C n c Tryd.underlying24 Tryd.underlying5
  go_enter Tryd.func9, Tryd.ntmps9
  go_wp2_with fail
  refine (tEmpty_any _).mono ?_
  rintro e w1 ⟨v1, rfl, r1, b1⟩
  have ca := conv_reads r1
  rw [str_E] at ca
  have HB1 : Hid (Below w.heap.size w w1) := b1
  clear r1 b1
  go_wp2_with fail
  refine (tLeaf_any dOne dTwo rfl rfl _).mono ?_
  rintro e w2 ⟨v2, rfl, r2, b2⟩
  obtain ⟨a2, c2, rfl, _, _, _⟩ := r2
  rw [show (pairB 76 dOne dTwo).length = 65 from rfl]
  have HB2 : Hid (Below w.heap.size w w2) := HB1.out.trans (b2.mono HB1.out.size)
  clear b2 HB1 ca
  have kc0 := fun (C : Array Value) (n c : Nat) => kc w2 C n c
  go_wp2_with fail
  generalize h1 : Obj.cells _ 5 (1, 2) = oa
  have hoa : oa = Obj.cells (cb [69]).toArray 5 (1, 2) := h1.symm
  clear h1 kc0
  have ra : Reads (w2.alloc oa) (.slice (some ⟨w2.heap.size, 0, none⟩) 1 1) [69] := by rw [hoa]; exact reads_cst w2 [69] 1 rfl (1, 2)
  have ba : Below w2.heap.size w2 (w2.alloc oa) := below_alloc _ _
  refine (tKind_any _ [69] _ ra).mono ?_
  rintro e w3 ⟨rfl, b3⟩
  have HB3 : Hid (Below w.heap.size w w3) := HB2.out.trans ((ba.trans (b3.mono (by simp))).mono HB2.out.size)
  rw [show (((kindB [69]).toNat : Nat) : Int) = 69 from rfl]
  clear ra ba b3 hoa HB2
  have kc0 := fun (C : Array Value) (n c : Nat) => kc w3 C n c
  go_wp2_with fail
  generalize h1 : Obj.cells _ 5 (2, 3) = ob
  have hob : ob = Obj.cells (cb [69, 69]).toArray 5 (2, 3) := h1.symm
  clear h1 kc0
  have rb : Reads (w3.alloc ob) (.slice (some ⟨w3.heap.size, 0, none⟩) 2 2) [69, 69] := by rw [hob]; exact reads_cst w3 [69, 69] 2 rfl (2, 3)
  have bb : Below w3.heap.size w3 (w3.alloc ob) := below_alloc _ _
  refine (tKind_any _ [69, 69] _ rb).mono ?_
  rintro e w4 ⟨rfl, b4⟩
  have HB4 : Hid (Below w.heap.size w w4) := HB3.out.trans ((bb.trans (b4.mono (by simp))).mono HB3.out.size)
  rw [show (((kindB [69, 69]).toNat : Nat) : Int) = 0 from rfl]
  clear rb bb b4 hob HB3
  have kc0 := fun (C : Array Value) (n c : Nat) => kc w4 C n c
  go_wp2_with fail
  generalize h1 : Obj.cells _ 5 (3, 4) = oc
  have hoc : oc = Obj.cells (cb abc).toArray 5 (3, 4) := h1.symm
  clear h1 kc0
  have rc : Reads (w4.alloc oc) (.slice (some ⟨w4.heap.size, 0, none⟩) 3 3) abc := by rw [hoc]; exact reads_cst w4 abc 3 rfl (3, 4)
  have bc : Below w4.heap.size w4 (w4.alloc oc) := below_alloc _ _
  have HB4a : Hid (Below w.heap.size w (w4.alloc oc)) := HB4.out.trans (bc.mono HB4.out.size)
  refine (tOf_any _ abc _ (HK.out.below HB4a.out HK.out.lt) rc (by decide)).mono ?_
  rintro e w5 ⟨rfl, b5⟩
  have HB5 : Hid (Below w.heap.size w w5) := HB4a.out.trans (b5.mono HB4a.out.size)
  have heq := fun wx => eq_dig_same (dig abc) (len_dig' abc) wx
  have HD : Hid (∀ l, l = dig abc → l.length = 32) := fun l hl => by rw [hl]; exact len_dig' abc
  obtain ⟨dd, HDD⟩ : ∃ zz, Hid (zz = dig abc) := ⟨_, rfl⟩
  rw [← HDD.out] at heq ⊢
  clear rc bc b5 hoc HB4 HB4a
  have kc0 := fun (C : Array Value) (n c : Nat) => kc w5 C n c
  go_wp2_with fail
  generalize h1 : Obj.cells _ 5 (3, 4) = od
  have hod : od = Obj.cells (cb abc).toArray 5 (3, 4) := h1.symm
  clear h1 kc0
  have rd : Reads (w5.alloc od) (.slice (some ⟨w5.heap.size, 0, none⟩) 3 3) abc := by rw [hod]; exact reads_cst w5 abc 3 rfl (3, 4)
  have bd : Below w5.heap.size w5 (w5.alloc od) := below_alloc _ _
  refine (rsum_any _ abc _ rd (by decide)).mono ?_
  rintro e w6 ⟨rfl, b6⟩
  have HB6 : Hid (Below w.heap.size w w6) := HB5.out.trans ((bd.trans (b6.mono (by simp))).mono HB5.out.size)
  rw [← HDD.out]
  clear rd bd b6 hod HB5 kc
  go_wp2
  go_ret
  exact ⟨rfl, HB6.out⟩
end Go.Proofs.YtaleeaocmomjlaaDoor

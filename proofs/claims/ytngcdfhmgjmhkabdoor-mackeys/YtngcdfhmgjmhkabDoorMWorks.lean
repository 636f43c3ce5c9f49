/- The walks of the statements' own example and bound (layer 2): works() answers true. -/
import Derived.Test.YtngcdfhmgjmhkabDoorMSame
import Derived.Test.YtngcdfhmgjmhkabDoorMacWalk
import Derived.Lib.SlBytesConst
namespace Go.Proofs.YtngcdfhmgjmhkabDoor
open Go.RowKit
def jefe : List (BitVec 8) := [74, 101, 102, 101]
def what : List (BitVec 8) := [119, 104, 97, 116, 32, 100, 111, 32, 121, 97, 32, 119, 97, 110, 116, 32]
def fornothing : List (BitVec 8) := [102, 111, 114, 32, 110, 111, 116, 104, 105, 110, 103, 63]
def jefeDig : List (BitVec 8) := [91, 220, 193, 70, 191, 96, 117, 78, 106, 4, 36, 38, 8, 149, 117, 199, 90, 0, 63, 8, 157, 39, 57, 131, 157, 236, 88, 185, 100, 236, 56, 67]
set_option maxRecDepth 1000000 in
theorem hmac_jefe : hmac jefe [what, fornothing].flatten = jefeDig := by kernel_rfl
theorem mlong_any (v : Value) (bs : List (BitVec 8)) (w : World) (hR : Reads w v bs) :
    Calls Tryd.prog 7 #[v] w fun e w' => e = .returned (.bool (decide (32768 < bs.length))) ∧ w' = w := by
  obtain ⟨ad, cap, rfl, _, _, _⟩ := hR
  generalize bs.length = n
  have hd : decide (32768 < (n : Int)) = decide (32768 < n) := by rw [decide_eq_decide]; omega
  go_enter Tryd.func7, Tryd.ntmps7
  go_wp2
  go_ret
  exact ⟨by first | rfl | rw [← hd] | simp, rfl⟩
theorem reads_const (w : World) (l : List (BitVec 8)) (n : Nat) (hn : n = l.length) (fz : Nat × Nat) : Reads (w.alloc (.cells (cb l).toArray 5 fz)) (.slice (some ⟨w.heap.size, 0, none⟩) n n) l := by
  subst hn
  refine ⟨_, l.length, rfl, Nat.le_refl _, (fun h => by cases h), fun _ => ⟨w.heap.size, 0, rfl, fun j hj => ?_⟩⟩
  rw [World.cell?_alloc_mark, Nat.zero_add]
  have := cb_get l j hj
  simpa using this
theorem reads_const_at (w : World) (N : Nat) (hN : w.heap.size = N) (l : List (BitVec 8)) (n : Nat) (hn : n = l.length) (fz : Nat × Nat) : Reads (w.alloc (.cells (cb l).toArray 5 fz)) (.slice (some ⟨N, 0, none⟩) n n) l := by
  subst hN; exact reads_const w l n hn fz
theorem readsL_two_at {w : World} {N : Nat} (hN : w.heap.size = N) {va vb : Value} {la lb : List (BitVec 8)} (ha : Reads w va la) (hb : Reads w vb lb) :
    ReadsL (w.alloc (.cells #[va, vb] 22)) (.slice (some ⟨N, 0, none⟩) 2 2) [la, lb] := by
  subst hN; exact readsL_two ha hb
set_option maxRecDepth 100000 in
set_option maxHeartbeats 1000000 in
theorem mworks_any (w : World) (hK : KOk w) : Calls Tryd.prog 8 #[] w fun e w' => e = .returned (.bool true) ∧ Below w.heap.size w w' := by
  have HK : Hid (KOk w) := hK
  clear hK
  have kc := fun (w : World) (C : Array Value) (n c : Nat) => Lib.run_convert_bytes_const (P := Tryd.prog) w 22 5 C n c Tryd.underlying22 Tryd.underlying5
  have kc1 := fun (o1 : Obj) (C : Array Value) (n c : Nat) => kc (w.alloc o1) C n c
  have kc2 := fun (o1 o2 : Obj) (C : Array Value) (n c : Nat) => kc ((w.alloc o1).alloc o2) C n c
  simp only [World.size_alloc] at kc1 kc2
  go_enter Tryd.func8, Tryd.ntmps8
  go_wp2_with fail
  generalize h1 : Obj.cells _ 5 (4, 5) = o1
  have ho1 : o1 = Obj.cells (cb jefe).toArray 5 (4, 5) := h1.symm
  generalize h2 : Obj.cells _ 5 (16, 17) = o2
  have ho2 : o2 = Obj.cells (cb what).toArray 5 (16, 17) := h2.symm
  generalize h3 : Obj.cells _ 5 (12, 13) = o3
  have ho3 : o3 = Obj.cells (cb fornothing).toArray 5 (12, 13) := h3.symm
  clear h1 h2 h3 kc1 kc2
  have r1 : Reads (w.alloc o1) (.slice (some ⟨w.heap.size, 0, none⟩) 4 4) jefe := by rw [ho1]; exact reads_const w jefe 4 rfl (4, 5)
  have s1 : (w.alloc o1).heap.size = w.heap.size + 1 := World.size_alloc ..
  have b1 : Below w.heap.size w (w.alloc o1) := below_alloc _ _
  have r2 : Reads ((w.alloc o1).alloc o2) (.slice (some ⟨w.heap.size + 1, 0, none⟩) 16 16) what := by rw [ho2]; exact reads_const_at _ _ s1 what 16 rfl (16, 17)
  have s2 : ((w.alloc o1).alloc o2).heap.size = w.heap.size + 1 + 1 := by rw [World.size_alloc, s1]
  have b2 : Below (w.alloc o1).heap.size (w.alloc o1) ((w.alloc o1).alloc o2) := below_alloc _ _
  have r3 : Reads (((w.alloc o1).alloc o2).alloc o3) (.slice (some ⟨w.heap.size + 1 + 1, 0, none⟩) 12 12) fornothing := by rw [ho3]; exact reads_const_at _ _ s2 fornothing 12 rfl (12, 13)
  have s3 : (((w.alloc o1).alloc o2).alloc o3).heap.size = w.heap.size + 1 + 1 + 1 := by rw [World.size_alloc, s2]
  have b3 : Below ((w.alloc o1).alloc o2).heap.size ((w.alloc o1).alloc o2) (((w.alloc o1).alloc o2).alloc o3) := below_alloc _ _
  have rL := readsL_two_at s3 (r2.below b3) r3
  generalize hw3 : ((w.alloc o1).alloc o2).alloc o3 = w3 at *
  have b4 := below_alloc w3 (.cells #[.slice (some ⟨w.heap.size + 1, 0, none⟩) 16 16, .slice (some ⟨w.heap.size + 1 + 1, 0, none⟩) 12 12] 22)
  have rK := (r1.below (b2.trans (b3.mono b2.size))).below b4
  have bW : Below w.heap.size w w3 := b1.trans ((b2.trans (b3.mono b2.size)).mono b1.size)
  have bW4 := bW.trans (b4.mono bW.size)
  refine (mac_any _ _ jefe [what, fornothing] _ (HK.out.below bW4 HK.out.lt) rK rL (by decide) (by decide) (by decide)).mono ?_
  rintro e w5 ⟨rfl, hb5⟩
  have HS5 : Hid (Below w.heap.size w w5) := bW4.trans (hb5.mono bW4.size)
  rw [hmac_jefe]
  clear r1 s1 b1 r2 s2 b2 r3 s3 b3 rL b4 rK bW bW4 hb5 hw3 ho1 ho2 ho3
  obtain ⟨ds, HDS⟩ : ∃ x, Hid (x = cb jefeDig) := ⟨_, rfl⟩
  have HLd : Hid (ds.length = 32) := by show _ = _; rw [HDS.out]; rfl
  have HZ : Hid ((Tryd.prog.info? 26).map (·.size) = some ds.length) := by show _ = _; rw [HLd.out]; exact Tryd.info26
  have H1 : Hid (∀ v ∈ ds, v.oneCell' = true) := by show ∀ _, _; rw [HDS.out]; exact cb_one _
  rw [← HDS.out]
  go_wp2_with (refine wpList_store_mid rfl 26 _ _ rfl _ 0 ds.toArray rfl rfl ?_ (by simpa using HZ.out) (all_oneCell_toArray H1.out) ?_; exact Blk.there (Blk.new_at rfl (cb zb32) _) _ _ (by rw [List.size_toArray, HLd.out, cb_len, len_zb32]; omega); refine Hid.out ?_)
  generalize h0 : Obj.cells _ 26 = o32
  have ho : o32 = Obj.cells (cb zb32).toArray 26 := h0.symm
  clear h0
  subst ho
  have b6 : Below w.heap.size w ((w5.alloc (.cells (cb zb32).toArray 26)).setCells w5.heap.size 0 ds) := Below.setCells _ HS5.out.size _ _ _ (HS5.out.alloc HS5.out.size _)
  have hD : Blk ((w5.alloc (.cells (cb zb32).toArray 26)).setCells w5.heap.size 0 ds) w5.heap.size (cb jefeDig) 26 := by
    rw [← HDS.out]
    exact (Blk.new w5 (cb zb32) 26).whole ds (by rw [HLd.out, cb_len, len_zb32])
  generalize World.setCells _ _ _ _ = w6 at *
  generalize w5.heap.size = gd at *
  have c0 : w6.cell? ⟨gd, 0, none⟩ = some (.int .u8 91) := by rw [hD.cell]; rfl
  have c1 : w6.cell? ⟨gd, 1, none⟩ = some (.int .u8 220) := by rw [hD.cell]; rfl
  have c31 : w6.cell? ⟨gd, 31, none⟩ = some (.int .u8 67) := by rw [hD.cell]; rfl
  have HB6 : Hid (Below w.heap.size w w6) := b6
  clear hD b6 HDS HLd HZ H1 HS5
  have kc0 := fun (C : Array Value) (n c : Nat) => kc w6 C n c
  have kc1 := fun (o1 : Obj) (C : Array Value) (n c : Nat) => kc (w6.alloc o1) C n c
  simp only [World.size_alloc] at kc1
  unfold Hid
  go_wp2_with fail
  generalize h1 : Obj.cells _ 5 (1, 2) = oa
  have hoa : oa = Obj.cells (cb [97]).toArray 5 (1, 2) := h1.symm
  clear h1 kc0 kc1 c0 c1 c31
  have ra : Reads (w6.alloc oa) (.slice (some ⟨w6.heap.size, 0, none⟩) 1 1) [97] := by rw [hoa]; exact reads_const w6 [97] 1 rfl (1, 2)
  have sa : (w6.alloc oa).heap.size = w6.heap.size + 1 := World.size_alloc ..
  have ba : Below w6.heap.size w6 (w6.alloc oa) := below_alloc _ _
  have rb : Reads ((w6.alloc oa).alloc oa) (.slice (some ⟨w6.heap.size + 1, 0, none⟩) 1 1) [97] := by
    have := reads_const_at _ _ sa [97] 1 rfl (1, 2)
    rw [← hoa] at this; exact this
  have bb : Below (w6.alloc oa).heap.size (w6.alloc oa) ((w6.alloc oa).alloc oa) := below_alloc _ _
  refine (msame_any _ _ [97] [97] _ (ra.below bb) rb (by decide) (by decide)).mono ?_
  rintro e w7 ⟨rfl, hw7⟩
  have HB7 : Hid (Below w.heap.size w w7) := by
    rw [hw7]
    exact HB6.out.trans ((ba.trans (bb.mono ba.size)).mono HB6.out.size)
  simp only [decide_true]
  clear hw7 ra sa ba rb bb hoa HB6
  have kc0 := fun (C : Array Value) (n c : Nat) => kc w7 C n c
  have kc1 := fun (o1 : Obj) (C : Array Value) (n c : Nat) => kc (w7.alloc o1) C n c
  simp only [World.size_alloc] at kc1
  go_wp2_with fail
  generalize h1 : Obj.cells _ 5 (1, 2) = oa
  have hoa : oa = Obj.cells (cb [97]).toArray 5 (1, 2) := h1.symm
  generalize h2 : Obj.cells _ 5 (2, 3) = ob
  have hob : ob = Obj.cells (cb [97, 98]).toArray 5 (2, 3) := h2.symm
  clear h1 h2 kc0 kc1 kc
  have ra : Reads (w7.alloc oa) (.slice (some ⟨w7.heap.size, 0, none⟩) 1 1) [97] := by rw [hoa]; exact reads_const w7 [97] 1 rfl (1, 2)
  have sa : (w7.alloc oa).heap.size = w7.heap.size + 1 := World.size_alloc ..
  have ba : Below w7.heap.size w7 (w7.alloc oa) := below_alloc _ _
  have rb : Reads ((w7.alloc oa).alloc ob) (.slice (some ⟨w7.heap.size + 1, 0, none⟩) 2 2) [97, 98] := by rw [hob]; exact reads_const_at _ _ sa [97, 98] 2 rfl (2, 3)
  have bb : Below (w7.alloc oa).heap.size (w7.alloc oa) ((w7.alloc oa).alloc ob) := below_alloc _ _
  refine (msame_any _ _ [97] [97, 98] _ (ra.below bb) rb (by decide) (by decide)).mono ?_
  rintro e w8 ⟨rfl, hw8⟩
  have HB8 : Hid (Below w.heap.size w w8) := by
    rw [hw8]
    exact HB7.out.trans ((ba.trans (bb.mono ba.size)).mono HB7.out.size)
  rw [show decide (([97] : List (BitVec 8)) = [97, 98]) = false from by decide]
  clear hw8 ra sa ba rb bb hoa hob HB7
  have hnot : ∀ (x : Bool) (w : World), (Op.unary .not (.bool x)).run Tryd.prog w = .ok (.bool (!x)) w := fun _ _ => rfl
  go_wp2
  go_ret
  exact ⟨rfl, HB8.out⟩
end Go.Proofs.YtngcdfhmgjmhkabDoor

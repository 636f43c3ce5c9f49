/- The walk of mac.blockWriter: the function value that it answers knows a block that holds the key's block. -/
import Derived.Test.YtaleeaocmomjlaaDoorMacPlain
import Derived.Test.YtaleeaocmomjlaaDoorMakeN
import Derived.Laws.CopyOwn
namespace Go.Proofs.YtaleeaocmomjlaaDoor
open Go.RowKit
theorem below_alloc' (w : World) (o : Obj) : Below w.heap.size w (w.alloc o) := (Below.refl _ _).alloc (Nat.le_refl _) _
theorem zero_a64b (w : World) : Blk (w.alloc (.cells (cb zb64).toArray 77)) w.heap.size (cb zb64) 77 := Blk.new w _ _
theorem Reads.src {w : World} {ad : Option Addr} {n cap : Nat} {k : List (BitVec 8)} (h : Reads w (.slice ad n cap) k) (hp : 0 < k.length) : ∃ a, ad = some a ∧ ∀ j v, (cb k)[j]? = some v → w.cell? (a.add j) = some v := by
  obtain ⟨ad', cap', hv, _, _, hx⟩ := h
  simp only [Value.slice.injEq] at hv
  obtain ⟨rfl, _, _⟩ := hv
  obtain ⟨b, off, rfl, hc⟩ := hx hp
  refine ⟨⟨b, off, none⟩, rfl, fun j v hj => ?_⟩
  have hjl : j < k.length := by have := (List.getElem?_eq_some_iff.1 hj).1; rwa [cb_len] at this
  rw [Addr.add_mid, hc j hjl, ← hj, cb_get k j hjl]
theorem copy_run {w : World} {g n cap dl dc : Nat} {t T : TypeId} {ad : Option Addr} {k old : List (BitVec 8)} (hB : Blk w g (cb old) t) (hr : Reads w (.slice ad n cap) k) (hk : k.length ≤ dl) (hdl : dl = old.length) :
    (Builtin.copy_ #[24, 24] T #[.slice (some ⟨g, 0, none⟩) dl dc, .slice ad n cap]).run Tryd.prog w = .ok (goInt k.length) (w.setCells g 0 (cb k)) := by
  have hn : n = k.length := by
    obtain ⟨ad', cap', hv, _⟩ := hr
    simp only [Value.slice.injEq] at hv
    exact hv.2.1
  subst hn
  by_cases h0 : 0 < k.length
  · obtain ⟨a, rfl, hsrc⟩ := hr.src h0
    have := run_copy_cells (P := Tryd.prog) w 24 24 T 5 g 0 dl dc a k.length cap (cb k) Tryd.underlying24 Tryd.info5 (by rw [cb_len]; exact (Nat.min_eq_left hk).symm) hsrc
      (fun j hj => ((hB.there 0 k.length (by rw [cb_len]; omega)) j (by rwa [cb_len] at hj)).1) (fun j hj => ((hB.there 0 k.length (by rw [cb_len]; omega)) j (by rwa [cb_len] at hj)).2) (cb_one _)
    rw [cb_len] at this
    exact this
  · have hk0 : k = [] := List.eq_nil_of_length_eq_zero (by omega)
    subst hk0
    exact run_copy_none (P := Tryd.prog) w 24 24 T 5 _ _ dl dc 0 cap Tryd.underlying24 Tryd.info5 (Nat.min_eq_left (Nat.zero_le _))
theorem Blk.copied {w : World} {g : Nat} {t : TypeId} {k : List (BitVec 8)} (h : Blk w g (cb zb64) t) (hk : k.length ≤ 64) : Blk (w.setCells g 0 (cb k)) g (cb (kpad k)) t := by
  have := setCells_eq g (cb k) 0 w _ t h (by rw [cb_len, cb_len]; simp [zb64]; omega)
  rw [← splice_kpad]
  simpa [splice] using this
set_option maxRecDepth 100000 in
set_option maxHeartbeats 1000000 in
theorem bw_any (v : Value) (key : List (BitVec 8)) (w : World) (hK : KOk w) (hR : Reads w v key) (hl : key.length < 2305843009213693952) :
    Calls Tryd.prog 47 #[v] w fun e w' => ∃ g, e = .returned (.func (.func 55) #[] #[.pointer (some ⟨g, 0, none⟩)]) ∧ w.heap.size ≤ g ∧ Blk w' g (cb (kblock key)) 77 ∧ Below w.heap.size w w' := by
  have HK : Hid (KOk w) := hK
  have HR : Hid (Reads w v key) := hR
  obtain ⟨ad, cap, hv, hcap, _, _⟩ := hR
  clear hK
  have hmf : ∀ (fn : Fn) (first cap : Array Value) (w : World), (Instr.makeFunc fn first cap).run Tryd.prog w = .ok (.func fn first cap) w := fun _ _ _ _ => rfl
  by_cases h64 : 64 < key.length
  · have HKB : Hid (kblock key = kpad (dig key)) := kblock_long h64
    obtain ⟨n, HNN⟩ : ∃ n, Hid (n = key.length) := ⟨_, rfl⟩
    rw [← HNN.out] at hv h64 hl
    subst hv
    go_enter Tryd.func47, Tryd.ntmps47
    go_wp2_with fail
    refine (sum_any _ key _ HK.out HR.out (by rw [← HNN.out]; exact hl)).mono ?_
    rintro e w1 ⟨rfl, hb1⟩
    obtain ⟨ds, HDS⟩ : ∃ x, Hid (x = cb (dig key)) := ⟨_, rfl⟩
    have HL : Hid (ds.length = 32) := by show _ = _; rw [HDS.out, cb_len, len_dig']
    have HZ : Hid ((Tryd.prog.info? 23).map (·.size) = some ds.length) := by show _ = _; rw [HL.out]; exact Tryd.info23
    have H1 : Hid (∀ v ∈ ds, v.oneCell' = true) := by show ∀ _, _; rw [HDS.out]; exact cb_one _
    rw [← HDS.out]
    go_wp2_with (refine wpList_store_mid rfl 23 _ _ rfl _ 0 ds.toArray rfl rfl ?_ (by simpa using HZ.out) (all_oneCell_toArray H1.out) ?_; exact Blk.there (Blk.new_at rfl (cb zb32) _) _ _ (by rw [List.size_toArray, HL.out, cb_len, len_zb32]; omega); refine Hid.out ?_)
    generalize h0 : Obj.cells _ 23 = o32
    have ho : o32 = Obj.cells (cb zb32).toArray 23 := h0.symm
    clear h0
    subst ho
    have hD : Blk ((w1.alloc (.cells (cb zb32).toArray 23)).setCells w1.heap.size 0 ds) w1.heap.size (cb (dig key)) 23 := by
      rw [← HDS.out]
      exact (Blk.new w1 (cb zb32) 23).whole ds (by rw [HL.out, cb_len, len_zb32])
    have hB2 : Below w.heap.size w ((w1.alloc (.cells (cb zb32).toArray 23)).setCells w1.heap.size 0 ds) := Below.setCells _ hb1.size _ _ _ (hb1.alloc hb1.size _)
    generalize World.setCells _ _ _ _ = w2 at *
    have hg1 : w.heap.size ≤ w1.heap.size := hb1.size
    generalize w1.heap.size = g1 at *
    clear hb1
    unfold Hid
    go_wp2_with fail
    generalize h0 : Obj.cells _ 77 = o64
    have ho : o64 = Obj.cells (cb zb64).toArray 77 := h0.symm
    clear h0
    subst ho
    have hB := Blk.new w2 (cb zb64) 77
    have hb := below_alloc' w2 (Obj.cells (cb zb64).toArray 77)
    have hr2 : Reads w2 (.slice (some ⟨g1, 0, none⟩) 32 32) (dig key) := hD.reads (len_dig' _).symm (by rw [len_dig']; omega)
    rw [copy_run (dl := 64) (dc := 64) (T := 3) (n := 32) hB (hr2.below hb) (by rw [len_dig']; omega) rfl]
    have HB3 := hB.copied (k := dig key) (by rw [len_dig']; omega)
    have hb3 := Below.setCells w2.heap.size hB2.size (cb (dig key)) 0 _ (hB2.trans (hb.mono hB2.size))
    generalize World.setCells _ _ _ _ = w3 at *
    go_wp2
    go_ret
    exact ⟨w2.heap.size, rfl, hB2.size, by rw [HKB.out]; exact HB3, hb3⟩
  · have HKB : Hid (kblock key = kpad key) := kblock_short h64
    obtain ⟨n, HNN⟩ : ∃ n, Hid (n = key.length) := ⟨_, rfl⟩
    rw [← HNN.out] at hv h64
    subst hv
    go_enter Tryd.func47, Tryd.ntmps47
    go_wp2_with fail
    generalize h0 : Obj.cells _ 77 = o64
    have ho : o64 = Obj.cells (cb zb64).toArray 77 := h0.symm
    clear h0
    subst ho
    have hB := Blk.new w (cb zb64) 77
    have hb := below_alloc' w (Obj.cells (cb zb64).toArray 77)
    rw [copy_run (dl := 64) (dc := 64) (T := 3) (n := n) hB (HR.out.below hb) (by rw [← HNN.out]; omega) rfl]
    have HB2 := hB.copied (k := key) (by rw [← HNN.out]; omega)
    have hb2 := Below.setCells w.heap.size (Nat.le_refl _) (cb key) 0 _ hb
    generalize World.setCells _ _ _ _ = w2 at *
    go_wp2
    go_ret
    exact ⟨w.heap.size, rfl, Nat.le_refl _, by rw [HKB.out]; exact HB2, hb2⟩
end Go.Proofs.YtaleeaocmomjlaaDoor

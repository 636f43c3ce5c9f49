/- The walks of sha.Sum and of the statements' own example: the digest of a text. -/
import Derived.Test.YtaleeaocmomjlaaDoorDigest
namespace Go.Proofs.YtaleeaocmomjlaaDoor
open Go.RowKit
/-- the slice v reads as the bytes bs -/
def Reads (w : World) (v : Value) (bs : List (BitVec 8)) : Prop :=
  ∃ ad cap, v = .slice ad bs.length cap ∧ bs.length ≤ cap ∧ (ad = none → cap = 0) ∧ (0 < bs.length → ∃ b off, ad = some ⟨b, off, none⟩ ∧ ∀ j, j < bs.length → w.cell? ⟨b, off + j, none⟩ = some (.int .u8 ((bs.getD j 0).toNat : Int)))
theorem Reads.bytes {w : World} {v : Value} {bs : List (BitVec 8)} (h : Reads w v bs) {g : Nat} (hg : w.heap.size ≤ g) : Bytes w g v bs := by
  obtain ⟨ad, cap, hv, hc, _, hx⟩ := h
  refine ⟨ad, cap, hv, hc, fun hp => ?_⟩
  obtain ⟨b, off, h1, h2⟩ := hx hp
  refine ⟨b, off, h1, ?_, h2⟩
  have := block_lt_of_cell (h2 0 hp)
  simp at this
  omega
theorem Reads.below {w w' : World} {v : Value} {bs : List (BitVec 8)} (h : Reads w v bs) (hb : Below w.heap.size w w') : Reads w' v bs := by
  obtain ⟨ad, cap, hv, hc, hn, hx⟩ := h
  refine ⟨ad, cap, hv, hc, hn, fun hp => ?_⟩
  obtain ⟨b, off, h1, h2⟩ := hx hp
  exact ⟨b, off, h1, fun j hj => by rw [hb.cell (p := ⟨b, off + j, none⟩) (block_lt_of_cell (h2 j hj))]; exact h2 j hj⟩
set_option maxRecDepth 100000 in
set_option maxHeartbeats 400000 in
theorem sum_any (v : Value) (bs : List (BitVec 8)) (w : World) (hK : KOk w) (hR : Reads w v bs) (hl : bs.length < 2305843009213693952) :
    Calls Tryd.prog 42 #[v] w fun e w' => e = .returned (.agg (cb (dig bs)).toArray) ∧ Below w.heap.size w w' := by
  have HK : Hid (KOk w) := hK
  have HR : Hid (Reads w v bs) := hR
  clear hK hR
  go_enter Tryd.func42, Tryd.ntmps42
  go_wp2_with fail
  generalize h0 : Obj.cells _ 23 = o32
  have ho : o32 = Obj.cells (cb zb32).toArray 23 := h0.symm
  clear h0
  subst ho
  have ha : Below w.heap.size w (w.alloc (.cells (cb zb32).toArray 23)) := (Below.refl _ _).alloc (Nat.le_refl _) _
  refine (new_any _).mono ?_
  rintro e w1 ⟨g, rfl, hg, hh, hb1⟩
  simp at hg hb1
  have HB1 : Hid (Below w.heap.size w w1) := ha.trans (hb1.mono (by omega))
  have HR1 : Hid (Blk w1 w.heap.size (cb zb32) 23) := (Blk.new w (cb zb32) 23).below hb1 (by omega)
  have HG : Hid (w.heap.size + 1 ≤ g) := hg
  clear hg hb1 ha
  go_wp2_with fail
  have hk1 := HK.out.below HB1.out HK.out.lt
  have e1 : 0 ≠ g := by have := HK.out.lt; have := HG.out; omega
  have e2 : Bytes w1 g v bs := by
    have := HG.out
    exact (HR.out.bytes (g := g) (by omega)).below HB1.out
  refine (write_any g [] bs v _ e1 hk1 hh e2 (by simp; omega)).mono ?_
  rintro e w2 ⟨rfl, hh2, ho2⟩
  have HB2 : Hid (Below w.heap.size w w2) := HB1.out.trans (ho2.below (by have := HG.out; omega) HB1.out.size)
  have HR2 : Hid (Blk w2 w.heap.size (cb zb32) 23) := HR1.out.only ho2 (by have := HG.out; omega)
  have hk2 := HK.out.below HB2.out HK.out.lt
  rw [List.nil_append] at hh2
  clear e1 e2 hk1 hh ho2 HR1 HB1
  go_wp2_with fail
  refine (digest_any g bs _ hk2 hh2 hl).mono ?_
  rintro e w3 ⟨rfl, hb3⟩
  obtain ⟨ds, HDS⟩ : ∃ x, Hid (x = cb (dig bs)) := ⟨_, rfl⟩
  have HL2 : Hid (ds.length = 32) := by show _ = _; rw [HDS.out, cb_len, dig, len_outB]
  have HZ2 : Hid ((Tryd.prog.info? 23).map (·.size) = some ds.length) := by show _ = _; rw [HL2.out]; exact Tryd.info23
  have H1 : Hid (∀ v ∈ ds, v.oneCell' = true) := by show ∀ _, _; rw [HDS.out]; exact cb_one _
  have HR3 : Hid (Blk w3 w.heap.size (cb zb32) 23) := HR2.out.below hb3 HR2.out.lt
  rw [← HDS.out]
  clear hk2 hh2
  go_wp2_with (refine wpList_store_mid rfl 23 _ _ rfl w.heap.size 0 ds.toArray rfl rfl (HR3.out.there 0 _ (by rw [List.size_toArray, HL2.out, cb_len, len_zb32]; omega)) (by simpa using HZ2.out) (all_oneCell_toArray H1.out) ?_)
  have hB := HR3.out.whole ds (by rw [HL2.out, cb_len, len_zb32])
  refine bodyPost_ret (v := .agg ds.toArray) (results_cell_row (by rfl) _ _ w.heap.size 23 _ (0, 0) _ rfl hB Tryd.underlying23 rfl (by simpa using HZ2.out)) rfl ⟨by rw [HDS.out], Below.setCells _ (Nat.le_refl _) _ _ _ (HB2.out.trans (hb3.mono HB2.out.size))⟩
end Go.Proofs.YtaleeaocmomjlaaDoor

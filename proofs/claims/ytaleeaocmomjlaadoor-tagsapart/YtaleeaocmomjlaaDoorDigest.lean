/- The walks of (*sha.Hash).Digest and sha.Sum: the digest of what was written. -/
import Derived.Test.YtaleeaocmomjlaaDoorBytes
namespace Go.Proofs.YtaleeaocmomjlaaDoor
open Go.RowKit
/-- the digest of a text -/
def dig (m : List (BitVec 8)) : List (BitVec 8) := outB (blocks ((m ++ pad m.length).length / 64) st0 (m ++ pad m.length)).l 32
theorem len_pad (n : Nat) : (pad n).length = padN n + 9 := len_padL _ _ _
theorem bytes_of {w : World} {g b : Nat} {bs : List (BitVec 8)} {t : TypeId} {n : Nat} (h : Blk w b (cb bs) t) (hn : bs.length = n) (hne : b ≠ g) : Bytes w g (.slice (some ⟨b, 0, none⟩) n n) bs :=
  ⟨_, n, by rw [hn], by omega, fun _ => ⟨b, 0, rfl, hne, fun j hj => by rw [h.cell, Nat.zero_add, cb_get bs j hj]⟩⟩
/-- behind the copy: the result's block, the copy's block, the old one -/
structure DgInv (w : World) (g : Nat) (m : List (BitVec 8)) (L : Nat) (w2 : World) : Prop where
  cell : w2.cell? ⟨g, 72, none⟩ = some (.int .u64 (L : Int))
  kok : KOk w2
  res : Blk w2 w.heap.size (cb zb32) 23
  cpy : HashIs 79 w2 (w.heap.size + 1) m
  bel : Below w.heap.size w w2
theorem DgInv.start {w : World} {g : Nat} {m : List (BitVec 8)} {cs : List Value} {L : Nat} {s : St} {blk : List (BitVec 8)} (hb : Blk w g cs 79) (hK : KOk w) (hC : cs = hc s blk L) (hL : m.length = L) (hS : Says s blk m) :
    DgInv w g m L (((w.alloc (.cells (cb zb32).toArray 23)).alloc (.cells (hc stz zb64 0).toArray 79)).setCells (w.heap.size + 1) 0 cs) := by
  have hb0 : Below w.heap.size w (((w.alloc (.cells (cb zb32).toArray 23)).alloc (.cells (hc stz zb64 0).toArray 79)).setCells (w.heap.size + 1) 0 cs) :=
    Below.setCells _ (by omega) _ _ _ (((Below.refl _ _).alloc (Nat.le_refl _) _).alloc (by simp) _)
  refine ⟨?_, hK.below hb0 hK.lt, ?_, ?_, hb0⟩
  · rw [(hb.below hb0 hb.lt).cell, hC, hc_len s blk L hS.len]
  · exact Blk.others _ _ _ _ ((Blk.new w (cb zb32) _).alloc _) (by omega)
  · refine ⟨s, blk, ?_, hS⟩
    rw [hL, ← hC]
    exact (Blk.new_at (w := w.alloc (.cells (cb zb32).toArray 23)) (by simp) (hc stz zb64 0) _).whole cs (by rw [hC, len_hc s blk L hS.len]; rfl)
set_option maxRecDepth 100000 in
set_option maxHeartbeats 400000 in
theorem digest_any (g : Nat) (m : List (BitVec 8)) (w : World) (hK : KOk w) (hH : HashIs 79 w g m) (hm : m.length < 2305843009213693952) :
    Calls Tryd.prog 50 #[.pointer (some ⟨g, 0, none⟩)] w fun e w' => e = .returned (.agg (cb (dig m)).toArray) ∧ Below w.heap.size w w' := by
  obtain ⟨s, blk, hb, hs⟩ := hH
  obtain ⟨cs, HC⟩ : ∃ x, Hid (x = hc s blk m.length) := ⟨_, rfl⟩
  have HL : Hid (cs.length = 73) := by show _ = _; rw [HC.out]; exact len_hc s blk m.length hs.len
  have cn : w.cell? ⟨g, 72, none⟩ = some (.int .u64 (m.length : Int)) := by rw [hb.cell, hc_len s blk _ hs.len]
  have hlt := hb.lt
  rw [← HC.out] at hb
  have HZ : Hid ((Tryd.prog.info? 79).map (·.size) = some cs.length) := by show _ = _; rw [HL.out]; exact Tryd.info79
  have H1 : Hid (∀ v ∈ cs, v.oneCell' = true) := by
    show ∀ _, _
    rw [HC.out]; intro v hv
    simp only [hc, List.mem_append, List.mem_singleton] at hv
    rcases hv with hv | hv | rfl
    · exact cw_one _ v hv
    · exact cb_one _ v hv
    · rfl
  have HS : Hid (Says s blk m) := hs
  have HK : Hid (KOk w) := hK
  clear hs hK
  generalize hml : m.length = L at *
  have HML : Hid (m.length = L) := hml
  clear hml
  have hal := zero_hash
  have hb2 : w.rangeAt g 0 cs := hb.range
  go_enter Tryd.func50, Tryd.ntmps50
  go_wp2_with (first
    | (refine wpList_load_mid rfl 79 _ rfl g 0 rfl cs _ (World.rangeAt_alloc hb2 _) Tryd.underlying79 rfl HZ.out ?_)
    | (refine wpList_store_mid rfl 79 _ _ rfl _ 0 cs.toArray rfl rfl ?_ (by simpa using HZ.out) (all_oneCell_toArray H1.out) ?_; exact Blk.there (Blk.new_at (by simp) (hc stz zb64 0) _) _ _ (by rw [List.size_toArray, HL.out, len_hc _ _ _ rfl]; omega); refine Hid.out ?_))
  generalize h0 : Obj.cells _ 23 = o32
  have ho : o32 = Obj.cells (cb zb32).toArray 23 := h0.symm
  clear h0
  subst ho
  have hI := DgInv.start (g := g) hb HK.out HC.out HML.out HS.out
  clear hb hb2 HK HS cn H1 HZ HC hal
  generalize World.setCells _ _ _ _ = w2 at *
  unfold Hid
  as_aux_lemma =>
    have cn := hI.cell
    have HI : Hid (DgInv w g m L w2) := hI
    have hp9 : padN L < 64 := by unfold padN; omega
    clear hI
    have HD : Hid (∀ s4 blk4, Says s4 blk4 (m ++ pad L) → outB s4.l 32 = dig m) := by
      intro s4 blk4 h4
      rw [dig, HML.out, ← h4.wds]
    go_wp2_with fail
    refine (pad_any L _).mono ?_
    rintro e w3 ⟨rfl, hp3, hb3⟩
    go_wp2_with fail
    have e1 : 0 ≠ w.heap.size + 1 := by have := HI.out.kok.lt; have := HI.out.bel.size; have := HI.out.cpy.lt; omega
    have e2 : Bytes w3 (w.heap.size + 1) (.slice (some ⟨w2.heap.size, 0, none⟩) (padN L + 9) (padN L + 9)) (pad L) := bytes_of hp3 (len_pad L) (Nat.ne_of_gt HI.out.cpy.lt)
    have e3 : m.length + (pad L).length < 4611686018427387904 := by rw [len_pad, HML.out]; omega
    refine (write_any (w.heap.size + 1) m (pad L) _ _ e1 (HI.out.kok.below hb3 HI.out.kok.lt) (HI.out.cpy.below hb3 HI.out.cpy.lt) e2 e3).mono ?_
    rintro e w4 ⟨rfl, hh4, ho4⟩
    obtain ⟨s4, blk4, hb4, hs4⟩ := hh4
    have HE := HD.out s4 blk4 hs4
    have HR : Hid (Blk w4 w.heap.size (cb zb32) 23) := (HI.out.res.below hb3 (Nat.lt_of_lt_of_le (Nat.lt_succ_self _) (Nat.le_of_lt HI.out.cpy.lt))).only ho4 (by omega)
    have HBel : Hid (Below w.heap.size w w4) := HI.out.bel.trans ((hb3.mono HI.out.bel.size).trans (ho4.below (by omega) (by have := hb3.size; have := HI.out.bel.size; omega)))
    have HX : Hid (outB s4.l 32 = dig m) := HE
    clear e1 e2 e3 HI hp3 hb3 ho4 HD hs4 HE
    go_wp2_with (refine wpList_load_mid rfl 60 _ rfl (w.heap.size + 1) 0 rfl (cw s4.l) _ (hc_range_words hb4) Tryd.underlying60 rfl Tryd.info60 ?_)
    refine (wordBytes_any s4.l rfl _).mono ?_
    rintro e w5 ⟨rfl, hb5⟩
    have HL2 : Hid ((cb (outB s4.l 32)).length = 32) := by show _ = _; rw [cb_len, len_outB]
    have HZ2 : Hid ((Tryd.prog.info? 23).map (·.size) = some (cb (outB s4.l 32)).length) := by show _ = _; rw [HL2.out]; exact Tryd.info23
    have HR5 : Hid (Blk w5 w.heap.size (cb zb32) 23) := HR.out.below hb5 HR.out.lt
    obtain ⟨ds, HDS⟩ : ∃ x, Hid (x = cb (dig m)) := ⟨_, rfl⟩
    rw [HX.out, ← HDS.out] at HL2 HZ2 ⊢
    have H1 : Hid (∀ v ∈ ds, v.oneCell' = true) := by show ∀ _, _; rw [HDS.out]; exact cb_one _
    clear HX
    go_wp2_with (refine wpList_store_mid rfl 23 _ _ rfl w.heap.size 0 ds.toArray rfl rfl (HR5.out.there 0 _ (by rw [List.size_toArray, HL2.out, cb_len, len_zb32]; omega)) (by simpa using HZ2.out) (all_oneCell_toArray H1.out) ?_)
    have hB := HR5.out.whole ds (by rw [HL2.out, cb_len, len_zb32])
    refine bodyPost_ret (v := .agg ds.toArray) (results_cell_row (by rfl) _ _ w.heap.size 23 _ (0, 0) _ rfl hB Tryd.underlying23 rfl (by simpa using HZ2.out)) rfl ⟨by rw [HDS.out], Below.setCells _ (Nat.le_refl _) _ _ _ (HBel.out.trans (hb5.mono HBel.out.size))⟩
end Go.Proofs.YtaleeaocmomjlaaDoor

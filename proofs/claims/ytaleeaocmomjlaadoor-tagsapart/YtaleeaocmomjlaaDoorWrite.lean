/- The walk of (*sha.Hash).Write: what is written goes behind the text that the Hash stands for. -/
import Derived.Test.YtaleeaocmomjlaaDoorMix
import Derived.Test.YtaleeaocmomjlaaDoorHash
import Derived.Deep.RegionLaw
import Derived.Test.YtaleeaocmomjlaaDoorLast
namespace Go.Proofs.YtaleeaocmomjlaaDoor
open Go.RowKit
theorem Tryd.info5 : (Tryd.prog.info? 5).map (·.size) = some 1 := by kernel_rfl
theorem slice_arr (g L : Nat) (w : World) : (Instr.sliceAt 77 (.pointer (some ⟨g, 8, none⟩)) (some (.int .u64 ((L : Int).tmod 64))) none none).run Tryd.prog w = .ok (.slice (some ⟨g, 8 + L % 64, none⟩) (64 - L % 64) (64 - L % 64)) w := by
  have e : (L : Int).tmod 64 = ((L % 64 : Nat) : Int) := by rw [Int.tmod_eq_emod_of_nonneg (by omega)]; omega
  rw [e]
  have h1 : L % 64 < 64 := Nat.mod_lt _ (by omega)
  generalize L % 64 = r at *
  simp [go_sem, Instr.sliceAt, Instr.slice, Instr.sliceBounds]
  rw [if_pos (by omega), if_neg (by omega)]
def sliceLen : Value → Nat
  | .slice _ n _ => n
  | _ => 0
structure WrInv (g : Nat) (w : World) (m bs : List (BitVec 8)) (k : Nat) (v : Value) (wr : World) : Prop where
  le : k ≤ bs.length
  byt : Bytes wr g v (bs.drop k)
  hsh : HashIs 79 wr g (m ++ bs.take k)
  onl : Only g w wr
  kok : KOk wr
theorem mix_enter : ∀ xs w, (callFunc 57 xs).run Tryd.prog w = .ok (.enter 57 xs) w := fun _ _ => by kernel_rfl
/-- the worlds in which the call of mix may be met -/
structure WC (g : Nat) (w w3 : World) (s : St) (blk : List (BitVec 8)) (n : Nat) (w' : World) : Prop where
  blk : Blk w' g (hc s blk n) 79
  onl : Only g w w'
  kok : KOk w'
  onl2 : Only g w3 w'
theorem KOk.only {g : Nat} {w w' : World} (h : KOk w) (ho : Only g w w') (hg : 0 ≠ g) : KOk w' := fun j hj => ho.cell hg (h j hj)
set_option maxRecDepth 100000 in
set_option maxHeartbeats 1000000 in
theorem write_any (g : Nat) (m bs : List (BitVec 8)) (v : Value) (w : World) (hg : 0 ≠ g) (hK : KOk w) (hH : HashIs 79 w g m) (hB : Bytes w g v bs) (hl : m.length + bs.length < 4611686018427387904) :
    Calls Tryd.prog 49 #[.pointer (some ⟨g, 0, none⟩), v] w fun e w' => e = .returned (.tuple #[]) ∧ HashIs 79 w' g (m ++ bs) ∧ Only g w w' := by
  have hI : WrInv g w m bs 0 v w := ⟨Nat.zero_le _, by simpa using hB, by simpa using hH, Only.refl _ _, hK⟩
  clear hK hH hB
  go_enter Tryd.func49, Tryd.ntmps49
  go_wp2
  go_loopw [1] (fun v wr => ∃ k, WrInv g w m bs k v wr) (fun v _ => sliceLen v)
  case atStart => exact ⟨0, hI⟩
  case round =>
    clear hI
    obtain ⟨k, hI⟩ := hrel
    have hle := hI.le
    by_cases hlt : k < bs.length
    · obtain ⟨ad, cap, hv, hcap, hpos⟩ := hI.byt
      obtain ⟨b, off, rfl, hbg, hsrc⟩ := hpos (by simp; omega)
      subst hv
      obtain ⟨s, blk, hblk, hsay⟩ := hI.hsh
      have HL : Hid ((m ++ bs.take k).length < 4611686018427387904) := by show _ < _; simp; omega
      have HN : Hid ((bs.drop k).length = bs.length - k) := by show _ = _; simp
      have hn0 : 0 < (bs.drop k).length := by have := HN.out; omega
      have HM : Hid (m ++ bs = m ++ bs.take k ++ bs.drop k) := by show _ = _; simp
      have hL := HL.out
      obtain ⟨rest, HRest⟩ : ∃ x, Hid (x = bs.drop k) := ⟨_, rfl⟩
      obtain ⟨cur, HCur⟩ : ∃ x, Hid (x = m ++ bs.take k) := ⟨_, rfl⟩
      rw [← HRest.out] at hcap hsrc hn0
      rw [← HCur.out] at hblk hsay hL
      simp only [← HRest.out]
      obtain ⟨L, HLL⟩ : ∃ x, Hid (x = cur.length) := ⟨_, rfl⟩
      obtain ⟨n, HNN⟩ : ∃ x, Hid (x = rest.length) := ⟨_, rfl⟩
      rw [← HNN.out] at hcap hsrc hn0
      rw [← HLL.out] at hblk hL
      simp only [← HNN.out]
      have hs64 := hsay.len
      have cn : wr.cell? ⟨g, 72, none⟩ = some (.int .u64 (L : Int)) := by rw [hblk.cell, hc_len s blk L hs64]
      have hcapn : n < 4611686018427387904 := by have := HN.out; rw [← HRest.out, ← HNN.out] at this; omega
      obtain ⟨cs, HCS⟩ : ∃ x, Hid (x = cb (rest.take (min n (64 - L % 64)))) := ⟨_, rfl⟩
      have HCL : Hid (cs.length = min n (64 - L % 64)) := by show _ = _; rw [HCS.out, cb_len, List.length_take, ← HNN.out]; omega
      have HT : Hid (wr.there g (8 + L % 64) cs.length) := hblk.there _ _ (by rw [len_hc s blk L hs64, HCL.out]; omega)
      have HS : Hid (∀ j v, cs[j]? = some v → wr.cell? ((⟨b, off, none⟩ : Addr).add j) = some v) := by
        intro j v hj
        have hj2 : j < min n (64 - L % 64) := by rw [← HCL.out]; exact (List.getElem?_eq_some_iff.1 hj).1
        rw [Addr.add_mid, hsrc j (by omega)]
        rw [HCS.out, cb_get _ j (by rw [List.length_take, ← HNN.out]; omega)] at hj
        rw [← hj]
        simp [hj2]
      have H1 : Hid (∀ v ∈ cs, v.oneCell' = true) := by show ∀ _, _; rw [HCS.out]; exact cb_one _
      have HJ : Hid (Blk (wr.drew.setCells g (8 + L % 64) cs) g (hc s (blk.take (L % 64) ++ rest.take (min n (64 - L % 64)) ++ blk.drop (L % 64 + (rest.take (min n (64 - L % 64))).length)) L) 79) := by
        have h := setCells_eq g cs (8 + L % 64) wr.drew _ _ hblk.drew (by rw [len_hc s blk L hs64, HCL.out]; omega)
        rw [HCS.out] at h ⊢
        rw [hc_block s blk _ L _ hs64 (by rw [List.length_take, ← HNN.out]; omega)] at h
        exact h
      have HO : Hid (Only g w (wr.drew.setCells g (8 + L % 64) cs)) := Only.setCells _ _ _ hI.onl.drew
      have HP : Hid (KOk (wr.drew.setCells g (8 + L % 64) cs)) := fun j hj => by rw [World.cell?_setCells_out _ _ _ _ _ (fun h => absurd h hg)]; exact hI.kok j hj
      have HY : Hid (Bytes (wr.drew.setCells g (8 + L % 64) cs) g (.slice (some ⟨b, off, none⟩) n cap) rest) := ⟨_, cap, by rw [← HNN.out], by rw [← HNN.out]; exact hcap, fun _ => ⟨b, off, rfl, hbg, fun j hj => by rw [World.cell?_setCells_out _ _ _ _ _ (fun h => absurd h hbg)]; exact hsrc j (by rw [HNN.out]; exact hj)⟩⟩
      have HSay : Hid (Says s blk cur) := hsay
      clear hle hlt hs64 hsrc hblk hsay hI
      have hsl := fun wx => slice_arr g L wx
      go_wp2
      go_region_law (refine step_copy_cells rfl _ _ 24 24 rfl 5 Tryd.underlying24 Tryd.info5 g (8 + L % 64) (64 - L % 64) (64 - L % 64) ⟨b, off, none⟩ n cap rfl rfl cs HCL.out ?_ ?_ H1.out ?_; (intro j v hj; simpa using HS.out j v hj); (simpa using HT.out))
      clear HS HT H1 HCS cn hsl
      obtain ⟨blk2, HB2⟩ : ∃ x, Hid (x = blk.take (L % 64) ++ rest.take (min n (64 - L % 64)) ++ blk.drop (L % 64 + (rest.take (min n (64 - L % 64))).length)) := ⟨_, rfl⟩
      rw [← HB2.out] at HJ
      generalize World.setCells _ _ _ _ = w2 at *
      generalize cs.length = c at *
      as_aux_lemma =>
        have hc0 : 0 < c := by have := HCL.out; omega
        have hcn : c ≤ n := by have := HCL.out; omega
        have hc64 : L % 64 + c ≤ 64 := by have := HCL.out; omega
        have HW2 : Hid ((rest.take (min n (64 - L % 64))).length = c) := by show _ = _; rw [List.length_take, ← HNN.out]; have := HCL.out; omega
        have hb64 : Hid (blk2.length = 64) := by show _ = _; rw [HB2.out]; have := HSay.out.len; have h2 := HW2.out; simp [this] at h2 ⊢; omega
        have cn : w2.cell? ⟨g, 72, none⟩ = some (.int .u64 (L : Int)) := by rw [HJ.out.cell, hc_len s blk2 L hb64.out]
        have fn : w2.frozen? ⟨g, 72, none⟩ = false := HJ.out.frozen 72
        have HE : Hid (∀ w4 v4, HashIs 79 w4 g (cur ++ rest.take c) → Bytes w4 g v4 (rest.drop c) → Only g w w4 → KOk w4 → WrInv g w m bs (k + c) v4 w4) := by
          intro w4 v4 h1 h2 h3 h4
          have e1 : k + c ≤ bs.length := by have := HN.out; rw [← HRest.out, ← HNN.out] at this; omega
          refine ⟨e1, ?_, ?_, h3, h4⟩
          · rw [HRest.out, List.drop_drop] at h2; exact h2
          · rw [HRest.out, HCur.out, List.append_assoc] at h1
            have e2 : bs.take k ++ (bs.drop k).take c = bs.take (k + c) := by rw [List.take_add]
            rw [e2] at h1; exact h1
        have HF : Hid (rest.take (min n (64 - L % 64)) = rest.take c) := by show _ = _; rw [HCL.out]
        clear HRest HCur HN HL HM hpos hl
        by_cases hfull : L % 64 + c = 64
        · have ht : ((((L : Int) + (c : Int)).tmod 64) == 0) = true := by
            rw [Int.tmod_eq_emod_of_nonneg (by omega), beq_iff_eq]; omega
          have H3 : Hid (Blk (w2.setCell ⟨g, 72, none⟩ (.int .u64 ((L : Int) + (c : Int)))) g (hc s blk2 (L + c)) 79) := by
            have h1 := HJ.out.set 72 (.int .u64 (((L + c : Nat) : Int)))
            rw [hc_setn s blk2 L (L + c) hb64.out] at h1
            exact h1
          have HO3 : Hid (Only g w (w2.setCell ⟨g, 72, none⟩ (.int .u64 ((L : Int) + (c : Int))))) := HO.out.setCell _ _
          have HP3 : Hid (KOk (w2.setCell ⟨g, 72, none⟩ (.int .u64 ((L : Int) + (c : Int))))) := HP.out.only ((Only.refl _ _).setCell _ _) hg
          have HY3 : Hid (Bytes (w2.setCell ⟨g, 72, none⟩ (.int .u64 ((L : Int) + (c : Int)))) g (.slice (some ⟨b, off, none⟩) n cap) rest) := HY.out.only ((Only.refl _ _).setCell _ _)
          have HG : Hid (Says (compress s blk2) blk2 (cur ++ rest.take c)) := by
            have h2 := HSay.out.full (y := rest.take c) (by rw [← HLL.out, ← HF.out, HW2.out]; omega)
            rw [← HLL.out, ← HF.out, ← HB2.out, HF.out] at h2
            exact h2
          have HX : Hid ((cur ++ rest.take c).length = L + c) := by show _ = _; rw [List.length_append, ← HLL.out, ← HF.out, HW2.out]
          by_cases hcc : cap = c
          all_goals
            go_wp2
            clear cn fn HJ HO HP HY
            generalize World.setCell _ _ _ = w3 at *
            as_aux_lemma =>
              have HYO : Hid (∀ w5, Only g w3 w5 → Bytes w5 g (.slice (some ⟨b, off, none⟩) n cap) rest) := fun w5 h => HY3.out.only h
              have HZ : Hid ((Tryd.prog.info? 77).map (·.size) = some (cb blk2).length) := by rw [cb_len, hb64.out]; exact Tryd.info77
              refine wp_region_last_lit (C := WC g w w3 s blk2 (L + c)) (by simp) (by kernel_rfl) (by kernel_rfl) (by kernel_rfl) ⟨H3.out.drew, HO3.out.drew, HP3.out, (Only.refl _ _).drew⟩ ?_
              simp only [List.dropLast_cons_cons, List.dropLast_singleton, List.getLast_cons_cons, List.getLast_singleton, List.cons_append, List.nil_append, idle]
              refine wpQuiet_val rfl (.pointer (some ⟨g, 0, none⟩)) (fun _ _ => by simp [go_sem]) ?_
              simp only [Act.put, List.setIfInBounds_toArray, List.set_cons_zero, List.set_cons_succ]
              refine wpQuiet_val rfl (.pointer (some ⟨g, 0, none⟩)) (fun _ _ => by simp [go_sem]) ?_
              simp only [Act.put, List.setIfInBounds_toArray, List.set_cons_zero, List.set_cons_succ]
              refine wpQuiet_val rfl (.pointer (some ⟨g, 0, none⟩)) (fun _ _ => by simp [go_sem]) ?_
              simp only [Act.put, List.setIfInBounds_toArray, List.set_cons_zero, List.set_cons_succ]
              refine wpQuiet_val rfl (.pointer (some ⟨g, 0, none⟩)) (fun _ _ => by simp [go_sem]) ?_
              simp only [Act.put, List.setIfInBounds_toArray, List.set_cons_zero, List.set_cons_succ]
              refine wpQuiet_load rfl 60 _ rfl g 0 rfl (cw s.l) _ (fun _ hx => hc_range_words hx.blk) Tryd.underlying60 rfl Tryd.info60 ?_
              simp only [Act.put, List.setIfInBounds_toArray, List.set_cons_zero, List.set_cons_succ]
              refine wpQuiet_val rfl (.pointer (some ⟨g, 0, none⟩)) (fun _ _ => by simp [go_sem]) ?_
              simp only [Act.put, List.setIfInBounds_toArray, List.set_cons_zero, List.set_cons_succ]
              refine wpQuiet_val rfl (.pointer (some ⟨g, 0, none⟩)) (fun _ _ => by simp [go_sem]) ?_
              simp only [Act.put, List.setIfInBounds_toArray, List.set_cons_zero, List.set_cons_succ]
              refine wpQuiet_val rfl (.pointer (some ⟨g, 8, none⟩)) (fun _ _ => by simp [go_sem]) ?_
              simp only [Act.put, List.setIfInBounds_toArray, List.set_cons_zero, List.set_cons_succ]
              refine wpQuiet_load rfl 77 _ rfl g 8 rfl (cb blk2) _ (fun _ hx => hc_range_block hx.blk hb64.out) Tryd.underlying77 rfl HZ.out ?_
              simp only [Act.put, List.setIfInBounds_toArray, List.set_cons_zero, List.set_cons_succ]
              refine wpQuiet_call rfl 57 _ _ rfl mix_enter #[.agg (cw s.l).toArray, .agg (cb blk2).toArray] (by simp [go_sem]) (.agg (cw (compress s blk2).l).toArray) (fun wx hx => (mix_any s blk2 hb64.out wx hx.kok).mono fun e w' ⟨he, hb⟩ => ⟨he, hx.blk.below hb hx.blk.lt, hx.onl.trans (Only.of_below hb), hx.kok.below hb hx.kok.lt, hx.onl2.trans (Only.of_below hb)⟩) ?_
              simp only [Act.put, List.setIfInBounds_toArray, List.set_cons_zero, List.set_cons_succ]
              refine wpQuiet_val rfl (.pointer (some ⟨g, 0, none⟩)) (fun _ _ => by simp [go_sem]) ?_
              simp only [Act.put, List.setIfInBounds_toArray, List.set_cons_zero, List.set_cons_succ]
              refine wpQuiet_val rfl (.pointer (some ⟨g, 0, none⟩)) (fun _ _ => by simp [go_sem]) ?_
              simp only [Act.put, List.setIfInBounds_toArray, List.set_cons_zero, List.set_cons_succ]
              refine wpQuiet_nil ?_
              intro w5 h5
              refine wp_store_mid 60 _ _ rfl g 0 (cw (compress s blk2).l).toArray rfl rfl (hc_there h5.blk hb64.out) Tryd.info60 (all_oneCell_toArray (cw_one _)) ?_
              have HB5 : Hid (HashIs 79 (w5.setCells g 0 (cw (compress s blk2).l)) g (cur ++ rest.take c)) := ⟨_, blk2, by rw [HX.out]; exact hc_store h5.blk hb64.out _, HG.out⟩
              simp only [Act.put]
              go_wp2
              go_roundw
              case rel =>
                refine ⟨k + c, HE.out _ _ HB5.out ?_ (Only.setCells _ _ _ h5.onl) (h5.kok.only (Only.setCells _ _ _ (Only.refl _ _)) hg)⟩
                have HY5 := HYO.out w5 h5.onl2
                first | exact (HY5.drop_if hcn).only (Only.setCells _ _ _ (Only.refl _ _)) | exact (HY5.drop_eq hcn ‹_›).only (Only.setCells _ _ _ (Only.refl _ _)) | exact (HY5.drop_ne hcn).only (Only.setCells _ _ _ (Only.refl _ _))
              case measure => simp [sliceLen]; omega
        · have ht : ((((L : Int) + (c : Int)).tmod 64) == 0) = false := by
            rw [Int.tmod_eq_emod_of_nonneg (by omega), beq_eq_false_iff_ne]; omega
          have HG : Hid (HashIs 79 (w2.setCell ⟨g, 72, none⟩ (.int .u64 ((L : Int) + (c : Int)))) g (cur ++ rest.take c)) := by
            have h1 := HJ.out.set 72 (.int .u64 (((L + c : Nat) : Int)))
            rw [hc_setn s blk2 L (L + c) hb64.out] at h1
            have h2 := HSay.out.more (y := rest.take c) (by rw [← HLL.out, ← HF.out, HW2.out]; omega)
            rw [← HLL.out, ← HF.out, ← HB2.out, HF.out] at h2
            have e3 : (cur ++ rest.take c).length = L + c := by rw [List.length_append, ← HLL.out, ← HF.out, HW2.out]
            refine ⟨s, blk2, ?_, h2⟩
            rw [e3]; exact h1
          go_wp2
          all_goals
            go_roundw
            case rel =>
              refine ⟨k + c, HE.out _ _ HG.out ?_ (HO.out.setCell _ _) ?_⟩
              · first | exact (HY.out.drop_if hcn).only ((Only.refl _ _).setCell _ _) | exact (HY.out.drop_eq hcn ‹_›).only ((Only.refl _ _).setCell _ _) | exact (HY.out.drop_ne hcn).only ((Only.refl _ _).setCell _ _)
              · exact HP.out.only ((Only.refl _ _).setCell _ _) hg
            case measure => simp [sliceLen]; omega
    · have hk : k = bs.length := by omega
      have HF : Hid (HashIs 79 wr g (m ++ bs)) := by have := hI.hsh; rw [hk, List.take_length] at this; exact this
      obtain ⟨ad, cap, hv, hcap, hpos⟩ := hI.byt
      have hz : (bs.drop k).length = 0 := by simp; omega
      rw [hz] at hv
      subst hv
      have HO : Hid (Only g w wr) := hI.onl
      clear hI hpos
      go_wp2
      go_end0
      exact ⟨rfl, HF.out, HO.out⟩
end Go.Proofs.YtaleeaocmomjlaaDoor

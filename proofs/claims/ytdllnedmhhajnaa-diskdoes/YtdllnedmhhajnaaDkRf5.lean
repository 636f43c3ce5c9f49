/- The walks of the reference's Crash and Load (layer 13). -/
import Derived.Test.YtdllnedmhhajnaaDkRf4
namespace Go.Proofs.Ytdllnedmhhajnaa
open Go.RowKit
set_option maxRecDepth 100000
theorem built_rd2 (ad : Option Addr) (n c : Nat) : Try.prog.built 27 [(0, .slice ad n c), (2, .int .i64 (-1))] = some [Value.slice ad n c, .slice none 0 0, .int .i64 (-1), .bool false].toArray := by kernel_rfl
theorem built_rd0 : Try.prog.built 27 [] = some [Value.slice none 0 0, .slice none 0 0, .int .i64 0, .bool false].toArray := by kernel_rfl
theorem ReadsI.at {w : World} {ad : Option Addr} {n c : Nat} {l : List Int} (h : ReadsI w (.slice ad n c) l) (hp : 0 < l.length) : ∃ b off, ad = some ⟨b, off, none⟩ ∧ ∀ j, j < l.length → w.cell? ⟨b, off + j, none⟩ = some (.int .i64 (l.getD j 0)) := by
  obtain ⟨ad', cap, hv, _, hx⟩ := h
  simp only [Value.slice.injEq] at hv
  obtain ⟨rfl, _, _⟩ := hv
  exact hx hp
set_option maxRecDepth 100000 in
set_option maxHeartbeats 8000000 in
theorem rdCrash_any (P : Nat → Prop) (D : DkT) (vs vw : Value) (vk : Value) (keep : List Int) (w : World) (hS : RdS P w D vs vw) (ok : okD D) (hw : D.wait.length ≤ 200) (hP : ∀ k, P k → k < w.heap.size) (hk : ReadsI w vk keep) :
    Calls Try.prog 30 #[.agg (rdC D vs vw).toArray, vk] w fun r w' => ∃ vs', r = .returned (.agg (rdC (crashD13 D keep) vs' (.slice none 0 0)).toArray) ∧ RdS P w' (crashD13 D keep) vs' (.slice none 0 0) ∧ Below w.heap.size w w' := by
  obtain ⟨ad, cs, aw, cw, hvs, hvw⟩ := hS.form
  obtain ⟨ns, HNS⟩ : ∃ n, Hid (n = D.safe.length) := ⟨_, rfl⟩
  obtain ⟨nw, HNW⟩ : ∃ n, Hid (n = D.wait.length) := ⟨_, rfl⟩
  rw [← HNS.out] at hvs
  rw [← HNW.out] at hvw
  subst hvs hvw
  have HS : Hid (RdS P w D (.slice ad ns cs) (.slice aw nw cw)) := hS
  have HOK : Hid (okD D) := ok
  have HW2 : Hid (nw ≤ 200) := by show _ ≤ _; rw [HNW.out]; exact hw
  have HPL : Hid (∀ k, P k → k < w.heap.size) := hP
  obtain ⟨lf, HLF⟩ : ∃ n, Hid (n = D.left) := ⟨_, rfl⟩
  obtain ⟨dn, HDN⟩ : ∃ n, Hid (n = D.down) := ⟨_, rfl⟩
  have HRC : Hid (rdC D (.slice ad ns cs) (.slice aw nw cw) = [.slice ad ns cs, .slice aw nw cw, .int .i64 lf, .bool dn]) := by show _ = _; rw [rdC, HLF.out, HDN.out]
  rw [HRC.out]
  have HBW : Hid (Below w.heap.size w w) := Below.refl _ _
  clear hS ok hw hP
  obtain ⟨ak, ck, hvk⟩ := hk.form
  obtain ⟨kl, HKL⟩ : ∃ n, Hid (n = keep.length) := ⟨_, rfl⟩
  rw [← HKL.out] at hvk
  subst hvk
  have HK : Hid (ReadsI w (.slice ak kl ck) keep) := hk
  clear hk HLF HDN HRC
  go_enter Try.func30, Try.ntmps30
  have tk0 : Hid True := trivial
  have tk1 : Hid True := trivial
  go_wp2_with (first
    | (clear tk0; with_reducible refine wpSeq_boxW 27 (.tmp 0) [.slice ad ns cs, .slice aw nw cw, .int .i64 lf, .bool dn] ?_ ?_ ?_ ?_
       · rfl
       · rfl
       · rfl
       intro g2 y1 nn
       have GE_g2 : Hid (w.heap.size ≤ g2) := Nat.le_trans HBW.out.size nn.ge
       replace HBW : Hid (Below w.heap.size w y1) := HBW.out.trans (nn.below.mono HBW.out.size)
       have HG2 : Hid (Blk y1 g2 [.slice ad ns cs, .slice aw nw cw, .int .i64 lf, .bool dn] 27) := nn.blk
       have c0 : y1.cell? ⟨g2, 0, none⟩ = some (.slice ad ns cs) := HG2.out.cell 0
       have c1 : y1.cell? ⟨g2, 1, none⟩ = some (.slice aw nw cw) := HG2.out.cell 1
       have c2 : y1.cell? ⟨g2, 2, none⟩ = some (.int .i64 lf) := HG2.out.cell 2
       have c3 : y1.cell? ⟨g2, 3, none⟩ = some (.bool dn) := HG2.out.cell 3
       clear nn)
    | (clear tk1; with_reducible refine wpSeq_allocRd ?_ ?_ ?_
       · rfl
       · rfl
       intro g4 y2 nn
       have NE_g2_g4 : Hid (g2 ≠ g4) := by have h1 := HG2.out.lt; have h2 := nn.ge; show _ ≠ _; omega
       have GE_g4 : Hid (w.heap.size ≤ g4) := Nat.le_trans HBW.out.size nn.ge
       clear c0
       clear c1
       clear c2
       clear c3
       replace HG2 : Hid (Blk y2 g2 [.slice ad ns cs, .slice aw nw cw, .int .i64 lf, .bool dn] 27) := HG2.out.below nn.below HG2.out.lt
       replace HBW : Hid (Below w.heap.size w y2) := HBW.out.trans (nn.below.mono HBW.out.size)
       have c0 : y2.cell? ⟨g2, 0, none⟩ = some (.slice ad ns cs) := HG2.out.cell 0
       have c1 : y2.cell? ⟨g2, 1, none⟩ = some (.slice aw nw cw) := HG2.out.cell 1
       have c2 : y2.cell? ⟨g2, 2, none⟩ = some (.int .i64 lf) := HG2.out.cell 2
       have c3 : y2.cell? ⟨g2, 3, none⟩ = some (.bool dn) := HG2.out.cell 3
       have HG4 : Hid (Blk y2 g4 [.slice none 0 0, .slice none 0 0, .int .i64 0, .bool false] 27) := nn.blk
       clear nn))
  have HI0 : Hid (Sta (Two P g4 g4) y2 (fun W => Reads W (.slice ad ns cs) (crashW D.safe (D.wait.take 0) keep))) := (HS.out.two HBW.out GE_g4.out GE_g4.out).sf
  have HIG : Hid (Blk y2 g2 [.slice ad ns cs, .slice aw nw cw, .int .i64 lf, .bool dn] 27 ∧ Blk y2 g4 [.slice none 0 0, .slice none 0 0, .int .i64 0, .bool false] 27) := ⟨HG2.out, HG4.out⟩
  have HIB := HBW
  have HGW : Hid (w.heap.size ≤ g2 ∧ w.heap.size ≤ g4) := ⟨GE_g2.out, GE_g4.out⟩
  have HL4 : Hid (g2 < y2.heap.size ∧ g4 < y2.heap.size) := ⟨HG2.out.lt, HG4.out.lt⟩
  clear HG2 HG4 HBW c0 c1 c2 c3
  go_loopw [5, 6] (fun b i wr => ∃ (k : Nat) (xa : Option Addr) (xc : Nat), k ≤ nw ∧ i = .int .i64 (k : Int) ∧ b = .slice xa ns xc ∧ Hid (Sta (Two P g4 g4) wr (fun W => Reads W (.slice xa ns xc) (crashW D.safe (D.wait.take k) keep))) ∧ Hid (Blk wr g2 [.slice ad ns cs, .slice aw nw cw, .int .i64 lf, .bool dn] 27 ∧ Blk wr g4 [.slice none 0 0, .slice none 0 0, .int .i64 0, .bool false] 27) ∧ Hid (Below w.heap.size w wr)) (fun _ i _ => nw - (intOf i).toNat)
  case atStart => exact ⟨0, ad, cs, Nat.zero_le _, rfl, rfl, HI0, HIG, HIB⟩
  case round =>
    obtain ⟨k, xa, xc, hkn, rfl, rfl, HI, HGG, HBW⟩ := hrel
    clear HI0 HIG HIB
    have HG2 : Hid (Blk wr g2 [.slice ad ns cs, .slice aw nw cw, .int .i64 lf, .bool dn] 27) := HGG.out.1
    have HG4 : Hid (Blk wr g4 [.slice none 0 0, .slice none 0 0, .int .i64 0, .bool false] 27) := HGG.out.2
    clear HGG
    have c1 : wr.cell? ⟨g2, 1, none⟩ = some (.slice aw nw cw) := HG2.out.cell 1
    by_cases hlt : k < nw
    case neg =>
      have hlk : ¬ ((k : Int) < (nw : Int)) := by omega
      have HO : Hid (Sta (Two P g4 g4) wr (fun W => Reads W (.slice xa ns xc) (crashD13 D keep).safe)) := by
        have h := HI.out
        rw [List.take_of_length_le (by rw [← HNW.out]; omega)] at h
        exact h
      have HB0 : Hid (Below wr.heap.size wr wr) := Below.refl _ _
      have tk8 : Hid True := trivial
      have tk9 : Hid True := trivial
      go_wp2_with (first
        | (clear tk8; with_reducible refine wpSeq_buildO 27 [(0, .tmp 37), (2, .const (.int .i64 (-1)))] [(0, .slice xa ns xc), (2, .int .i64 (-1))] [.slice xa ns xc, .slice none 0 0, .int .i64 (-1), .bool false] ?_ ?_ ?_ ?_ ?_
           · rfl
           · rfl
           · rfl
           · exact built_rd2 _ _ _)
        | (clear tk9; with_reducible refine wpSeq_storeRow 27 (.tmp 4) (.tmp 38) g4 [.slice none 0 0, .slice none 0 0, .int .i64 0, .bool false] [.slice xa ns xc, .slice none 0 0, .int .i64 (-1), .bool false] HG4.out (by simp) (info_rd _ _ _ _) (one_rd _ _ _ _ _ _ _ _) ?_ ?_ ?_ ?_ ?_
           · rfl
           · rfl
           · rfl
           · rfl
           intro y9 hs))
      exact bodyPost_ret (v := .agg [.slice xa ns xc, .slice none 0 0, .int .i64 (-1), .bool false].toArray) (ret_rd (by rfl) _ _ g4 _ _ _ _ rfl hs.blk) rfl ⟨.slice xa ns xc, rfl, ⟨HO.out.go (hs.only.mut (Or.inr (Or.inl rfl))) (fun _ _ h => Or.inl h), StaW.nil _ _⟩, HBW.out.trans (hs.only.below GE_g4.out HBW.out.size)⟩
    case pos =>
      have hlk : (k : Int) < (nw : Int) := by omega
      have k0 : (0 : Int) ≤ (k : Int) := by omega
      have f5 : IntKind.i64.wrap ((k : Int) + 1) = (k : Int) + 1 := by rw [IntKind.wrap_i64]; have := HW2.out; omega
      have HLT : Hid (k < D.wait.length) := by show _ < _; rw [← HNW.out]; exact hlt
      obtain ⟨hmem, htk⟩ := getD_memW HLT.out
      obtain ⟨p, HPP⟩ : ∃ p, Hid (p = D.wait.getD k (0, [])) := ⟨_, rfl⟩
      rw [← HPP.out] at hmem htk
      obtain ⟨c, HCK⟩ : ∃ c, Hid (c = cutK (keep.getD k 0)) := ⟨_, rfl⟩
      have HC64 : Hid (c ≤ 64) := by rw [HCK.out]; exact cutK_le _
      have HTK : Hid (crashW D.safe (D.wait.take (k + 1)) keep = layD (crashW D.safe (D.wait.take k) keep) p.1 p.2 c) := by
        show _ = _
        rw [htk, crashW_snoc, HCK.out, List.length_take, Nat.min_eq_left (Nat.le_of_lt HLT.out)]
      have HDL : Hid ((crashW D.safe (D.wait.take k) keep).length = ns) := by
        show _ = _
        rw [len_crashW _ _ _ HOK.out.size.1 (fun q hq => HOK.out.wait q (List.mem_of_mem_take hq)), ← HOK.out.size.1, HNS.out]
      have HPB : Hid (64 * p.1 + 64 ≤ ns ∧ ns ≤ 1048576 ∧ p.2.length = 64) := by
        have h1 := HOK.out.wait p hmem
        have h2 := HOK.out.size
        have h3 := HNS.out
        exact ⟨by omega, by omega, h1.2⟩
      have hwt := (HS.out.below HBW.out).wt.now
      obtain ⟨b, off, rfl, hat⟩ := hwt.at (Nat.lt_of_le_of_lt (Nat.zero_le _) HLT.out)
      obtain ⟨vj, hc1, hc2, hrj⟩ := hat k HLT.out
      rw [← HPP.out] at hc1 hrj
      obtain ⟨aj, nj, cj, hvj⟩ := hrj.form
      subst hvj
      have HRG : Hid (wr.rangeAt b (off + k * 2) [.int .i64 (p.1 : Int), .slice aj nj cj]) := range2 hc1 hc2
      have hcc := rdLaid_any (.slice xa ns xc) (.slice aj nj cj) (crashW D.safe (D.wait.take k) keep) p.2 p.1 c wr HI.out.now hrj (by rw [HDL.out]; have := HPB.out; omega) (by rw [HDL.out]; have h1 := HPB.out; have h2 := HC64.out; omega) (by rw [HPB.out.2.2]; exact HC64.out)
      clear hmem htk hwt hat hc1 hc2 hrj
      by_cases hkl : k < kl
      case neg =>
        have hl2 : ¬ ((k : Int) < (kl : Int)) := by omega
        have hc0 : c = 0 := by rw [HCK.out, List.getD_eq_getElem?_getD, List.getElem?_eq_none (by rw [← HKL.out]; omega)]; rfl
        have HCC : Hid (Calls Try.prog 31 #[.slice xa ns xc, .agg #[.int .i64 (p.1 : Int), .slice aj nj cj], .int .i64 0] wr fun r w' => ∃ v', r = .returned v' ∧ OwnB w' wr.heap.size v' (layD (crashW D.safe (D.wait.take k) keep) p.1 p.2 c) ∧ Below wr.heap.size wr w') := by rw [hc0] at hcc ⊢; exact hcc
        clear hcc hc0
        have tk1 : Hid True := trivial
        have tk2 : Hid True := trivial
        go_wp2_with (first
          | (clear tk1; with_reducible refine wpSeq_loadW 51 (.tmp 33) b (off + k * 2) [.int .i64 (p.1 : Int), .slice aj nj cj] _ ?_ Try.underlying51 rfl ?_ ?_ ?_ ?_ ?_
             · exact HRG.out
             · exact info_rw _ _
             · rfl
             · rfl
             · rfl)
          | (clear tk2; go_at_call 31; refine (HCC.out).mono ?_; rintro e0 y5 ⟨v5, rfl, ho5, hb5⟩
             have hl5 : (layD (crashW D.safe (D.wait.take k) keep) p.1 p.2 c).length = ns := by rw [len_layD (by rw [HDL.out]; have h1 := HPB.out; have h2 := HC64.out; omega) (by rw [HPB.out.2.2]; exact HC64.out), HDL.out]
             obtain ⟨xa5, xc5, hv5, hq⟩ := id ho5.reads
             clear hq
             rw [hl5] at hv5
             subst hv5
             have HI5 : Hid (Sta (Two P g4 g4) y5 (fun W => Reads W (.slice xa5 ns xc5) (crashW D.safe (D.wait.take (k + 1)) keep))) := by rw [HTK.out]; exact ho5.st (fun j hj => by rcases hj with hj | rfl | rfl; exact Nat.lt_of_lt_of_le (HPL.out j hj) HBW.out.size; exact HG4.out.lt; exact HG4.out.lt)
             have HG5 : Hid (Blk y5 g2 [.slice ad ns cs, .slice (some ⟨b, off, none⟩) nw cw, .int .i64 lf, .bool dn] 27 ∧ Blk y5 g4 [.slice none 0 0, .slice none 0 0, .int .i64 0, .bool false] 27) := ⟨HG2.out.below hb5 HG2.out.lt, HG4.out.below hb5 HG4.out.lt⟩
             have HB5 : Hid (Below w.heap.size w y5) := HBW.out.trans (hb5.mono HBW.out.size)
             clear ho5 hb5 hl5 c1 ))
        go_roundw
        case rel => exact ⟨k + 1, _, _, by omega, by simp, rfl, HI5, HG5, HB5⟩
        case measure => simp [intOf]; omega
      case pos =>
        have hl2 : (k : Int) < (kl : Int) := by omega
        obtain ⟨bk, ok2, rfl, hatk⟩ := HK.out.at (by rw [← HKL.out]; omega)
        obtain ⟨kv, HKV⟩ : ∃ z, Hid (z = keep.getD k 0) := ⟨_, rfl⟩
        have ckk : wr.cell? ⟨bk, ok2 + k, none⟩ = some (.int .i64 kv) := by
          have h := hatk k (by rw [← HKL.out]; exact hkl)
          rw [← HKV.out] at h
          rw [Below.cell HBW.out (block_lt_of_cell h)]
          exact h
        clear hatk
        by_cases hn0 : kv < 0
        · have hc0 : c = 0 := by rw [HCK.out, ← HKV.out, cutK, if_pos hn0]
          have HCC : Hid (Calls Try.prog 31 #[.slice xa ns xc, .agg #[.int .i64 (p.1 : Int), .slice aj nj cj], .int .i64 0] wr fun r w' => ∃ v', r = .returned v' ∧ OwnB w' wr.heap.size v' (layD (crashW D.safe (D.wait.take k) keep) p.1 p.2 c) ∧ Below wr.heap.size wr w') := by rw [hc0] at hcc ⊢; exact hcc
          clear hcc hc0
          have tk1 : Hid True := trivial
          have tk2 : Hid True := trivial
          go_wp2_with (first
            | (clear tk1; with_reducible refine wpSeq_loadW 51 (.tmp 33) b (off + k * 2) [.int .i64 (p.1 : Int), .slice aj nj cj] _ ?_ Try.underlying51 rfl ?_ ?_ ?_ ?_ ?_
               · exact HRG.out
               · exact info_rw _ _
               · rfl
               · rfl
               · rfl)
            | (clear tk2; go_at_call 31; refine (HCC.out).mono ?_; rintro e0 y5 ⟨v5, rfl, ho5, hb5⟩
               have hl5 : (layD (crashW D.safe (D.wait.take k) keep) p.1 p.2 c).length = ns := by rw [len_layD (by rw [HDL.out]; have h1 := HPB.out; have h2 := HC64.out; omega) (by rw [HPB.out.2.2]; exact HC64.out), HDL.out]
               obtain ⟨xa5, xc5, hv5, hq⟩ := id ho5.reads
               clear hq
               rw [hl5] at hv5
               subst hv5
               have HI5 : Hid (Sta (Two P g4 g4) y5 (fun W => Reads W (.slice xa5 ns xc5) (crashW D.safe (D.wait.take (k + 1)) keep))) := by rw [HTK.out]; exact ho5.st (fun j hj => by rcases hj with hj | rfl | rfl; exact Nat.lt_of_lt_of_le (HPL.out j hj) HBW.out.size; exact HG4.out.lt; exact HG4.out.lt)
               have HG5 : Hid (Blk y5 g2 [.slice ad ns cs, .slice (some ⟨b, off, none⟩) nw cw, .int .i64 lf, .bool dn] 27 ∧ Blk y5 g4 [.slice none 0 0, .slice none 0 0, .int .i64 0, .bool false] 27) := ⟨HG2.out.below hb5 HG2.out.lt, HG4.out.below hb5 HG4.out.lt⟩
               have HB5 : Hid (Below w.heap.size w y5) := HBW.out.trans (hb5.mono HBW.out.size)
               clear ho5 hb5 hl5 c1 ckk))
          go_roundw
          case rel => exact ⟨k + 1, _, _, by omega, by simp, rfl, HI5, HG5, HB5⟩
          case measure => simp [intOf]; omega
        by_cases hn6 : 64 < kv
        · have hc0 : c = 64 := by rw [HCK.out, ← HKV.out, cutK, if_neg hn0, if_pos hn6]
          have HCC : Hid (Calls Try.prog 31 #[.slice xa ns xc, .agg #[.int .i64 (p.1 : Int), .slice aj nj cj], .int .i64 64] wr fun r w' => ∃ v', r = .returned v' ∧ OwnB w' wr.heap.size v' (layD (crashW D.safe (D.wait.take k) keep) p.1 p.2 c) ∧ Below wr.heap.size wr w') := by rw [hc0] at hcc ⊢; exact hcc
          have hn7 : kv > 64 := hn6
          clear hcc hc0
          have tk1 : Hid True := trivial
          have tk2 : Hid True := trivial
          go_wp2_with (first
            | (clear tk1; with_reducible refine wpSeq_loadW 51 (.tmp 33) b (off + k * 2) [.int .i64 (p.1 : Int), .slice aj nj cj] _ ?_ Try.underlying51 rfl ?_ ?_ ?_ ?_ ?_
               · exact HRG.out
               · exact info_rw _ _
               · rfl
               · rfl
               · rfl)
            | (clear tk2; go_at_call 31; refine (HCC.out).mono ?_; rintro e0 y5 ⟨v5, rfl, ho5, hb5⟩
               have hl5 : (layD (crashW D.safe (D.wait.take k) keep) p.1 p.2 c).length = ns := by rw [len_layD (by rw [HDL.out]; have h1 := HPB.out; have h2 := HC64.out; omega) (by rw [HPB.out.2.2]; exact HC64.out), HDL.out]
               obtain ⟨xa5, xc5, hv5, hq⟩ := id ho5.reads
               clear hq
               rw [hl5] at hv5
               subst hv5
               have HI5 : Hid (Sta (Two P g4 g4) y5 (fun W => Reads W (.slice xa5 ns xc5) (crashW D.safe (D.wait.take (k + 1)) keep))) := by rw [HTK.out]; exact ho5.st (fun j hj => by rcases hj with hj | rfl | rfl; exact Nat.lt_of_lt_of_le (HPL.out j hj) HBW.out.size; exact HG4.out.lt; exact HG4.out.lt)
               have HG5 : Hid (Blk y5 g2 [.slice ad ns cs, .slice (some ⟨b, off, none⟩) nw cw, .int .i64 lf, .bool dn] 27 ∧ Blk y5 g4 [.slice none 0 0, .slice none 0 0, .int .i64 0, .bool false] 27) := ⟨HG2.out.below hb5 HG2.out.lt, HG4.out.below hb5 HG4.out.lt⟩
               have HB5 : Hid (Below w.heap.size w y5) := HBW.out.trans (hb5.mono HBW.out.size)
               clear ho5 hb5 hl5 c1 ckk))
          go_roundw
          case rel => exact ⟨k + 1, _, _, by omega, by simp, rfl, HI5, HG5, HB5⟩
          case measure => simp [intOf]; omega
        have hc0 : (c : Int) = kv := by rw [HCK.out, ← HKV.out, cutK, if_neg hn0, if_neg hn6]; omega
        have HCC : Hid (Calls Try.prog 31 #[.slice xa ns xc, .agg #[.int .i64 (p.1 : Int), .slice aj nj cj], .int .i64 kv] wr fun r w' => ∃ v', r = .returned v' ∧ OwnB w' wr.heap.size v' (layD (crashW D.safe (D.wait.take k) keep) p.1 p.2 c) ∧ Below wr.heap.size wr w') := by rw [hc0] at hcc; exact hcc
        have hn7 : ¬ (kv > 64) := hn6
        clear hcc hc0
        have tk1 : Hid True := trivial
        have tk2 : Hid True := trivial
        go_wp2_with (first
          | (clear tk1; with_reducible refine wpSeq_loadW 51 (.tmp 33) b (off + k * 2) [.int .i64 (p.1 : Int), .slice aj nj cj] _ ?_ Try.underlying51 rfl ?_ ?_ ?_ ?_ ?_
             · exact HRG.out
             · exact info_rw _ _
             · rfl
             · rfl
             · rfl)
          | (clear tk2; go_at_call 31; refine (HCC.out).mono ?_; rintro e0 y5 ⟨v5, rfl, ho5, hb5⟩
             have hl5 : (layD (crashW D.safe (D.wait.take k) keep) p.1 p.2 c).length = ns := by rw [len_layD (by rw [HDL.out]; have h1 := HPB.out; have h2 := HC64.out; omega) (by rw [HPB.out.2.2]; exact HC64.out), HDL.out]
             obtain ⟨xa5, xc5, hv5, hq⟩ := id ho5.reads
             clear hq
             rw [hl5] at hv5
             subst hv5
             have HI5 : Hid (Sta (Two P g4 g4) y5 (fun W => Reads W (.slice xa5 ns xc5) (crashW D.safe (D.wait.take (k + 1)) keep))) := by rw [HTK.out]; exact ho5.st (fun j hj => by rcases hj with hj | rfl | rfl; exact Nat.lt_of_lt_of_le (HPL.out j hj) HBW.out.size; exact HG4.out.lt; exact HG4.out.lt)
             have HG5 : Hid (Blk y5 g2 [.slice ad ns cs, .slice (some ⟨b, off, none⟩) nw cw, .int .i64 lf, .bool dn] 27 ∧ Blk y5 g4 [.slice none 0 0, .slice none 0 0, .int .i64 0, .bool false] 27) := ⟨HG2.out.below hb5 HG2.out.lt, HG4.out.below hb5 HG4.out.lt⟩
             have HB5 : Hid (Below w.heap.size w y5) := HBW.out.trans (hb5.mono HBW.out.size)
             clear ho5 hb5 hl5 c1 ckk))
        go_roundw
        case rel => exact ⟨k + 1, _, _, by omega, by simp, rfl, HI5, HG5, HB5⟩
        case measure => simp [intOf]; omega
set_option maxRecDepth 100000 in
set_option maxHeartbeats 8000000 in
theorem rdLoad_any (P : Nat → Prop) (v : Value) (b : Bs) (n : Nat) (w : World) (hb : Reads w v b) (hl : b.length = 64 * n) (h1 : 1 ≤ n) (h2 : n ≤ 16384) (hP : ∀ k, P k → k < w.heap.size) :
    Calls Try.prog 18 #[v] w fun r w' => ∃ vs', r = .returned (.tuple #[.agg (rdC (loadD b) vs' (.slice none 0 0)).toArray, .int .i64 0]) ∧ RdS P w' (loadD b) vs' (.slice none 0 0) ∧ Below w.heap.size w w' := by
  obtain ⟨ad, cp, hv, hq⟩ := id hb
  clear hq
  obtain ⟨L, HL⟩ : ∃ n, Hid (n = b.length) := ⟨_, rfl⟩
  rw [← HL.out] at hv
  subst hv
  have HR : Hid (Reads w (.slice ad L cp) b) := hb
  have HLN : Hid (L = 64 * n ∧ 1 ≤ n ∧ n ≤ 16384) := ⟨by rw [HL.out]; exact hl, h1, h2⟩
  have HPL : Hid (∀ k, P k → k < w.heap.size) := hP
  have hm : Int.tmod (L : Int) 64 = 0 := by have h := HLN.out.1; rw [Int.tmod_eq_emod_of_nonneg (by omega)]; omega
  have l0 : ((L : Int) == 0) = false := by rw [beq_eq_false_iff_ne]; have h := HLN.out; omega
  have l1 : ¬ ((L : Int) > 1048576) := by have h := HLN.out; omega
  have HBW : Hid (Below w.heap.size w w) := Below.refl _ _
  clear hb hl h1 h2 hP
  go_enter Try.func18, Try.ntmps18
  have tk0 : Hid True := trivial
  have tk1 : Hid True := trivial
  have tk2 : Hid True := trivial
  have tk3 : Hid True := trivial
  have tk4 : Hid True := trivial
  go_wp2_with (first
    | (clear tk0; with_reducible refine wpSeq_allocRd ?_ ?_ ?_
       · rfl
       · rfl
       intro g2 y1 nn
       have GE_g2 : Hid (w.heap.size ≤ g2) := Nat.le_trans HBW.out.size nn.ge
       replace HBW : Hid (Below w.heap.size w y1) := HBW.out.trans (nn.below.mono HBW.out.size)
       have HG2 : Hid (Blk y1 g2 [.slice none 0 0, .slice none 0 0, .int .i64 0, .bool false] 27) := nn.blk
       clear nn)
    | (clear tk1; with_reducible refine wpSeq_make (.tmp 20) (.tmp 20) L L (Nat.le_refl _) ?_ ?_ ?_ ?_ ?_ ?_
       · have := HLN.out; omega
       · rfl
       · rfl
       · rfl
       · rfl
       intro g4 y2 z hz hge hzb hzl
       have H4 : Hid (Blk y2 g4 (cb z) 5) := hzb
       have HZL : Hid (z.length = L) := by rw [hz]; exact List.length_replicate
       have N24 : Hid (g2 ≠ g4) := by have h := HG2.out.lt; show _ ≠ _; omega
       have GE4 : Hid (w.heap.size ≤ g4) := Nat.le_trans HBW.out.size hge
       replace HG2 : Hid (Blk y2 g2 [.slice none 0 0, .slice none 0 0, .int .i64 0, .bool false] 27) := HG2.out.below hzl HG2.out.lt
       replace HBW : Hid (Below w.heap.size w y2) := HBW.out.trans (hzl.mono HBW.out.size)
       clear hz hge hzb hzl)
    | (clear tk2; with_reducible refine wpSeq_copyB (.tmp 22) (.tmp 23) g4 L L z b (.slice ad L cp) H4.out (by rw [HZL.out, HL.out]) HL.out (HR.out.below HBW.out) ?_ ?_ ?_ ?_ ?_
       · rfl
       · rfl
       · rfl
       · rfl
       intro y3 hbk hon
       replace HG2 : Hid (Blk y3 g2 [.slice none 0 0, .slice none 0 0, .int .i64 0, .bool false] 27) := HG2.out.only hon N24.out
       replace HBW : Hid (Below w.heap.size w y3) := HBW.out.trans (hon.below GE4.out HBW.out.size)
       have HSB : Hid (Sta (Two P g2 g2) y3 (fun W => Reads W (.slice (some ⟨g4, 0, none⟩) L L) b)) := hbk.stB (fun h => by rcases h with h | h | h; have h1 := HPL.out _ h; have h2 := GE4.out; omega; exact N24.out h.symm; exact N24.out h.symm) HL.out (by rw [← HL.out]; exact Nat.le_refl _)
       clear hbk hon H4 HZL)
    | (clear tk3; with_reducible refine wpSeq_buildO 27 [(0, .tmp 25), (2, .const (.int .i64 (-1)))] [(0, .slice (some ⟨g4, 0, none⟩) L L), (2, .int .i64 (-1))] [.slice (some ⟨g4, 0, none⟩) L L, .slice none 0 0, .int .i64 (-1), .bool false] ?_ ?_ ?_ ?_ ?_
       · rfl
       · rfl
       · rfl
       · exact built_rd2 _ _ _)
    | (clear tk4; with_reducible refine wpSeq_storeRow 27 (.tmp 2) (.tmp 26) g2 [.slice none 0 0, .slice none 0 0, .int .i64 0, .bool false] [.slice (some ⟨g4, 0, none⟩) L L, .slice none 0 0, .int .i64 (-1), .bool false] HG2.out (by simp) (info_rd _ _ _ _) (one_rd _ _ _ _ _ _ _ _) ?_ ?_ ?_ ?_ ?_
       · rfl
       · rfl
       · rfl
       · rfl
       intro y9 hs))
  exact bodyPost_ret (results_row_tmp (by rfl) _ _ g2 _ rfl (var_rd hs.blk)) rfl ⟨.slice (some ⟨g4, 0, none⟩) L L, rfl, ⟨HSB.out.go (hs.only.mut (Or.inr (Or.inl rfl))) (fun _ _ h => Or.inl h), StaW.nil _ _⟩, HBW.out.trans (hs.only.below GE_g2.out HBW.out.size)⟩
set_option maxRecDepth 100000 in
set_option maxHeartbeats 8000000 in
theorem rdLoad_arg (v : Value) (b : Bs) (w : World) (hb : Reads w v b) (hl : b.length % 64 ≠ 0) :
    Calls Try.prog 18 #[v] w fun r w' => r = .returned (.tuple #[.agg [.slice none 0 0, .slice none 0 0, .int .i64 0, .bool false].toArray, .int .i64 1]) ∧ Below w.heap.size w w' := by
  obtain ⟨ad, cp, hv, hq⟩ := id hb
  clear hq
  obtain ⟨L, HL⟩ : ∃ n, Hid (n = b.length) := ⟨_, rfl⟩
  rw [← HL.out] at hv
  subst hv
  obtain ⟨m, HM⟩ : ∃ m, Hid (m = L % 64) := ⟨_, rfl⟩
  have hm : Int.tmod (L : Int) 64 = (m : Int) := by rw [Int.tmod_eq_emod_of_nonneg (by omega), HM.out]; omega
  have fm : IntKind.i64.wrap (m : Int) = (m : Int) := by rw [IntKind.wrap_i64, HM.out]; omega
  have q0 : ((m : Int) == 0) = false := by rw [beq_eq_false_iff_ne, HM.out]; have h := HL.out; omega
  have p0 : ((m : Int) != 0) = true := by rw [bne, q0]; rfl
  have HBW : Hid (Below w.heap.size w w) := Below.refl _ _
  clear hb hl HM
  go_enter Try.func18, Try.ntmps18
  have tk0 : Hid True := trivial
  have tk1 : Hid True := trivial
  have tk2 : Hid True := trivial
  go_wp2_with (first
    | (clear tk0; with_reducible refine wpSeq_allocRd ?_ ?_ ?_
       · rfl
       · rfl
       intro g2 y1 nn
       have GE_g2 : Hid (w.heap.size ≤ g2) := Nat.le_trans HBW.out.size nn.ge
       replace HBW : Hid (Below w.heap.size w y1) := HBW.out.trans (nn.below.mono HBW.out.size)
       have HG2 : Hid (Blk y1 g2 [.slice none 0 0, .slice none 0 0, .int .i64 0, .bool false] 27) := nn.blk
       clear nn)
    | (clear tk1; with_reducible refine wpSeq_buildO 27 [] [] [.slice none 0 0, .slice none 0 0, .int .i64 0, .bool false] ?_ ?_ ?_ ?_ ?_
       · rfl
       · rfl
       · rfl
       · exact built_rd0)
    | (clear tk2; with_reducible refine wpSeq_storeRow 27 (.tmp 2) (.tmp 9) g2 [.slice none 0 0, .slice none 0 0, .int .i64 0, .bool false] [.slice none 0 0, .slice none 0 0, .int .i64 0, .bool false] HG2.out (by simp) (info_rd _ _ _ _) (one_rd _ _ _ _ _ _ _ _) ?_ ?_ ?_ ?_ ?_
       · rfl
       · rfl
       · rfl
       · rfl
       intro y2 hs
       have hb := hs.blk
       have ho := hs.only
       replace HBW : Hid (Below w.heap.size w y2) := HBW.out.trans (ho.below GE_g2.out HBW.out.size)
       replace HG2 : Hid (Blk y2 g2 [.slice none 0 0, .slice none 0 0, .int .i64 0, .bool false] 27) := hb
       clear hb ho hs))
  exact bodyPost_ret (results_row_tmp (by rfl) _ _ g2 _ rfl (var_rd HG2.out)) rfl ⟨rfl, HBW.out⟩
set_option maxRecDepth 100000 in
set_option maxHeartbeats 8000000 in
theorem rdLoad_range (v : Value) (w : World) (hb : Reads w v []) :
    Calls Try.prog 18 #[v] w fun r w' => r = .returned (.tuple #[.agg [.slice none 0 0, .slice none 0 0, .int .i64 0, .bool false].toArray, .int .i64 2]) ∧ Below w.heap.size w w' := by
  obtain ⟨ad, cp, hv, hq⟩ := id hb
  clear hq
  subst hv
  have HBW : Hid (Below w.heap.size w w) := Below.refl _ _
  clear hb
  go_enter Try.func18, Try.ntmps18
  have tk0 : Hid True := trivial
  have tk1 : Hid True := trivial
  have tk2 : Hid True := trivial
  go_wp2_with (first
    | (clear tk0; with_reducible refine wpSeq_allocRd ?_ ?_ ?_
       · rfl
       · rfl
       intro g2 y1 nn
       have GE_g2 : Hid (w.heap.size ≤ g2) := Nat.le_trans HBW.out.size nn.ge
       replace HBW : Hid (Below w.heap.size w y1) := HBW.out.trans (nn.below.mono HBW.out.size)
       have HG2 : Hid (Blk y1 g2 [.slice none 0 0, .slice none 0 0, .int .i64 0, .bool false] 27) := nn.blk
       clear nn)
    | (clear tk1; with_reducible refine wpSeq_buildO 27 [] [] [.slice none 0 0, .slice none 0 0, .int .i64 0, .bool false] ?_ ?_ ?_ ?_ ?_
       · rfl
       · rfl
       · rfl
       · exact built_rd0)
    | (clear tk2; with_reducible refine wpSeq_storeRow 27 (.tmp 2) (.tmp 18) g2 [.slice none 0 0, .slice none 0 0, .int .i64 0, .bool false] [.slice none 0 0, .slice none 0 0, .int .i64 0, .bool false] HG2.out (by simp) (info_rd _ _ _ _) (one_rd _ _ _ _ _ _ _ _) ?_ ?_ ?_ ?_ ?_
       · rfl
       · rfl
       · rfl
       · rfl
       intro y2 hs
       have hb := hs.blk
       have ho := hs.only
       replace HBW : Hid (Below w.heap.size w y2) := HBW.out.trans (ho.below GE_g2.out HBW.out.size)
       replace HG2 : Hid (Blk y2 g2 [.slice none 0 0, .slice none 0 0, .int .i64 0, .bool false] 27) := hb
       clear hb ho hs))
  exact bodyPost_ret (results_row_tmp (by rfl) _ _ g2 _ rfl (var_rd HG2.out)) rfl ⟨rfl, HBW.out⟩
end Go.Proofs.Ytdllnedmhhajnaa

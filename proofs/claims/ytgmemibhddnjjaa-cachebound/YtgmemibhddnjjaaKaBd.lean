/- CacheBound (layer 16). -/
import Derived.Test.YtgmemibhddnjjaaKaDs
import Derived.Deep.Cut
import Derived.Deep.CutRange
namespace Go.Proofs.Ytgmemibhddnjjaa
open Go.RowKit
set_option maxRecDepth 100000
set_option maxRecDepth 100000 in
set_option maxHeartbeats 4000000 in
theorem cacheBound_law (w : World) (most : Int) (v : Value) (l : List OpK) (hr : RdO w v l) (hs : ∀ o ∈ l, o.k.size ≤ maxLen) : Calls Try.prog 4 #[.int .i64 most, v] w fun e w' => e = .returned (.bool true) ∧ Below w.heap.size w w' := by
  obtain ⟨C0, HC0⟩ : ∃ X, Hid (X = newC (startN most)) := ⟨_, rfl⟩
  have HST : Hid (Calls Try.prog 8 #[.int .i64 most] w fun r w' => ∃ g P, r = .returned (.tuple #[.pointer (some ⟨g, 0, none⟩), .agg [.int .i64 (C0.most : Int), .slice none 0 0, .slice none 0 0, .int .i64 (C0.hits : Int), .int .i64 (C0.miss : Int)].toArray]) ∧ CaIs w' g P C0 ∧ Below w.heap.size w w' ∧ ∀ k, P k → w.heap.size ≤ k) := by show Calls _ _ _ _ _; rw [HC0.out]; exact start16_any w most
  obtain ⟨ad, cp, hv⟩ := hr.form
  obtain ⟨n, HN⟩ : ∃ n, Hid (n = l.length) := ⟨_, rfl⟩
  rw [← HN.out] at hv
  subst hv
  have HR : Hid (RdO w (.slice ad n cp) l) := hr
  have HSZ : Hid (∀ o ∈ l, o.k.size ≤ maxLen) := hs
  have HRD : Hid (n ≤ 200 → ∀ k, okC (runC C0 (l.take k)) ∧ smC (runC C0 (l.take k)) ∧ (runC C0 (l.take k)).most < 1000000 ∧ cntC (runC C0 (l.take k)) ≤ 200 ∧ (runC C0 (l.take k)).most = C0.most) := fun h k => ready16 C0 (by rw [HC0.out]; exact ok_new _) (by rw [HC0.out]; exact startN_le _) (by rw [HC0.out]; rfl) l (by rw [← HN.out]; exact h) hs k
  clear hr hs
  by_cases hn : n ≤ 200
  · have q1 : decide ((n : Int) ≤ 200) = true := decide_eq_true (by omega)
    have HN200 : Hid (n ≤ 200) := hn
    clear hn
    go_enter Try.func4, Try.ntmps4
    have tk0 : Hid True := trivial
    have tk1 : Hid True := trivial
    have tk2 : Hid True := trivial
    have tk3 : Hid True := trivial
    go_wp2_with (first
      | (clear tk0; go_at_call 8; refine (HST.out).mono ?_; rintro e0 y0 ⟨g, P, rfl, ca, bl, hP⟩
         have HCA : Hid (CaIs y0 g P C0) := ca
         have HB : Hid (Below w.heap.size w y0 ∧ ∀ k, P k → w.heap.size ≤ k) := ⟨bl, hP⟩
         clear ca bl hP)
      | (clear tk1; with_reducible refine wpSeq_allocRc ?_ ?_ ?_
         · rfl
         · rfl
         intro g6 y1 nn
         have H6 : Hid (Blk y1 g6 zRc 27) := nn.blk
         have HG6 : Hid (w.heap.size ≤ g6) := Nat.le_trans HB.out.1.size nn.ge
         replace HCA : Hid (CaIs y1 g P C0) := HCA.out.below nn.below
         replace HB : Hid (Below w.heap.size w y1 ∧ ∀ k, P k → w.heap.size ≤ k) := ⟨HB.out.1.trans (nn.below.mono HB.out.1.size), HB.out.2⟩
         clear nn)
      | (clear tk2; with_reducible refine wpSeq_storeRow 27 (.tmp 6) (.tmp 15) g6 zRc [.int .i64 (C0.most : Int), .slice none 0 0, .slice none 0 0, .int .i64 (C0.hits : Int), .int .i64 (C0.miss : Int)] H6.out rfl (info_rc _ _ _ _ _) ?_ ?_ ?_ ?_ ?_ ?_
         · exact one_rc _ _ _ ⟨rfl, rfl, rfl⟩ _ _ _ _ _ _
         · rfl
         · rfl
         · rfl
         · rfl
         intro y2 sr
         have HI : Hid (LwI w g g6 P C0 (.slice none 0 0) (.slice none 0 0) y2) := ⟨HCA.out.only H6.out sr.only (by decide) (by decide), by rw [HC0.out]; exact RfV.nilC _ _, sr.blk, HB.out.1.trans (sr.only.below HG6.out HB.out.1.size), HB.out.2, HG6.out⟩
         clear sr HCA HB H6 HG6)
      | (clear tk3; go_at_call 9; refine (few16_any _ _ _ _).mono ?_; rintro ef yf ⟨rfl, rfl⟩
         rw [q1]))
    go_loopw [7] (fun i wr => ∃ k : Nat, k ≤ n ∧ i = .int .i64 (k : Int) ∧ ∃ P vk vv, LwI w g g6 P (runC C0 (l.take k)) vk vv wr) (fun i _ => n - (intOf i).toNat)
    case atStart => exact ⟨0, Nat.zero_le _, rfl, P, _, _, HI.out⟩
    case round =>
      clear HI
      obtain ⟨k, hkn, rfl, P, vk, vv, hI⟩ := hrel
      by_cases hlt : k < n
      · obtain ⟨o, ho⟩ : ∃ o, l[k]? = some o := ⟨_, List.getElem?_eq_getElem (by rw [← HN.out]; exact hlt)⟩
        obtain ⟨b, off, e1, hat⟩ := HR.out.at ho
        subst e1
        have HAT : Hid (∀ W, Below w.heap.size w W → W.rangeAt b (off + k * 3) [.int .i64 o.kind, .string o.k, .int .i64 o.v]) := hat
        have hso := HSZ.out o (List.mem_of_getElem? ho)
        obtain ⟨hok, hsm, hmo, _, hmc⟩ := HRD.out HN200.out k
        obtain ⟨hok', hsm', hmo', _, hmc'⟩ := HRD.out HN200.out (k + 1)
        have hrt := run_take C0 ho
        obtain ⟨a1, n1, c1, a2, n2, c2, hv1, hv2⟩ := hI.rf.forms
        subst hv1 hv2
        obtain ⟨C, HC⟩ : ∃ X, Hid (X = runC C0 (l.take k)) := ⟨_, rfl⟩
        obtain ⟨C', HC'⟩ : ∃ X, Hid (X = runC C0 (l.take (k + 1))) := ⟨_, rfl⟩
        rw [← HC.out] at hI hok hsm hmo hrt hmc
        rw [← HC'.out] at hok' hsm' hmo' hrt hmc'
        have HW : Hid (LwI w g g6 P C (.slice a1 n1 c1) (.slice a2 n2 c2) wr) := hI
        have HOK' : Hid (okC C' ∧ smC C' ∧ C'.l.length < 1000000 ∧ C'.most = C0.most) := ⟨hok', hsm', Nat.lt_of_le_of_lt hok'.le hmo', hmc'⟩
        have HSTP : Hid (∀ W P vk vv, Both W g P C vk vv → Calls Try.prog 11 #[.pointer (some ⟨g, 0, none⟩), .agg [.int .i64 (C.most : Int), vk, vv, .int .i64 (C.hits : Int), .int .i64 (C.miss : Int)].toArray, .agg [.int .i64 o.kind, .string o.k, .int .i64 o.v].toArray] W fun r w' => ∃ P' vk' vv', r = .returned (.tuple #[.agg [.int .i64 (C'.most : Int), vk', vv', .int .i64 (C'.hits : Int), .int .i64 (C'.miss : Int)].toArray, .bool true]) ∧ Both w' g P' C' vk' vv' ∧ Mut P W w' ∧ Grew W P P') := fun W P vk vv h => by rw [hrt]; exact step16_any h hsm hmo hok o hso
        have f5 : IntKind.i64.wrap ((k : Int) + 1) = (k : Int) + 1 := by have := HN200.out; rw [IntKind.wrap_i64]; omega
        obtain ⟨nq, HQL⟩ : ∃ n, Hid (n = C'.l.length) := ⟨_, rfl⟩
        have HNQ : Hid (nq < 1000000) := by show nq < _; rw [HQL.out]; exact HOK'.out.2.2.1
        have HLQ : Hid ((C'.l.map (fun p => Value.string p.1)).length = nq) := by show _ = _; rw [List.length_map, HQL.out]
        have hbd : nq = 0 ∨ ((nq : Int) ≤ most ∧ 0 ≤ most) := by
          have h1 : nq ≤ startN most := by
            have h2 := hok'.le
            rw [← HQL.out, hmc', HC0.out] at h2
            exact h2
          unfold startN at h1
          split at h1 <;> omega
        obtain ⟨kd, s, x⟩ := o
        simp only at HAT HSTP
        clear hI hok hsm hmo hok' hsm' hmo' hrt hso hat ho hmc hmc'
        by_cases hz : nq = 0
        · have z1 : ¬ ((0 : Int) < (nq : Int)) := by omega
          clear hbd hz
          go_wp2
          refine wp_region_held_drew (S := fun wx => Below w.heap.size w wx) (by kernel_rfl) HW.out.drew.bel ?_
          intro hS
          replace HW : Hid (LwI w g g6 P C (.slice a1 n1 c1) (.slice a2 n2 c2) (World.drew wr)) := HW.out.drew
          change wpAnyH _ _ _ _ _ _ _ _ (World.drew wr)
          generalize World.drew wr = y0 at *
          try simp only [Act.put, List.setIfInBounds_toArray, List.set_cons_zero, List.set_cons_succ]
          refine wpAnyH_take (i := 0) (v := .pointer (some ⟨g, 0, none⟩)) rfl (by kernel_rfl) (by kernel_rfl) (by kernel_rfl) (fun _ _ _ h => h) (Or.inl ⟨by rfl, fun wx hx => by simp [go_sem]⟩) hS ?_
          simp only [Act.put, List.getElem_toArray, List.getElem_cons_zero, List.setIfInBounds_toArray, List.set_cons_zero, List.set_cons_succ]
          refine wpAnyH_take (i := 2) (v := .slice (some ⟨b, off, none⟩) n cp) rfl (by kernel_rfl) (by kernel_rfl) (by kernel_rfl) (fun _ _ _ h => h) (Or.inl ⟨by rfl, fun wx hx => by simp [go_sem]⟩) hS ?_
          simp only [Act.put, List.getElem_toArray, List.getElem_cons_succ, List.getElem_cons_zero, List.setIfInBounds_toArray, List.set_cons_zero, List.set_cons_succ]
          refine wpAnyH_take (i := 3) (v := .int .i64 (k : Int)) rfl (by kernel_rfl) (by kernel_rfl) (by kernel_rfl) (fun _ _ _ h => h) (Or.inl ⟨by rfl, fun wx hx => by simp [go_sem]⟩) hS ?_
          simp only [Act.put, List.getElem_toArray, List.getElem_cons_succ, List.getElem_cons_zero, List.setIfInBounds_toArray, List.set_cons_zero, List.set_cons_succ]
          refine wpAnyH_take (i := 4) (v := .pointer (some ⟨b, off + k * 3, none⟩)) rfl (by kernel_rfl) (by kernel_rfl) (by kernel_rfl) (fun _ _ _ h => h) (Or.inl ⟨by rfl, fun wx hx => by exact idxO b off n cp k hlt _ _ _ _ rfl rfl rfl _⟩) hS ?_
          simp only [Act.put, List.getElem_toArray, List.getElem_cons_succ, List.getElem_cons_zero, List.setIfInBounds_toArray, List.set_cons_zero, List.set_cons_succ]
          refine wpAnyH_take (i := 5) (v := .agg [.int .i64 kd, .string s, .int .i64 x].toArray) rfl (by kernel_rfl) (by kernel_rfl) (by kernel_rfl) (fun _ _ _ h => h) (Or.inl ⟨by rfl, fun wx hx => by exact load_run 35 _ rfl b (off + k * 3) rfl _ _ (HAT.out _ hx) Try.underlying35 rfl (info_op _ _ _)⟩) hS ?_
          simp only [Act.put, List.getElem_toArray, List.getElem_cons_succ, List.getElem_cons_zero, List.setIfInBounds_toArray, List.set_cons_zero, List.set_cons_succ]
          refine wpAnyH_step 1 (.agg [.int .i64 (C.most : Int), .slice a1 n1 c1, .slice a2 n2 c2, .int .i64 (C.hits : Int), .int .i64 (C.miss : Int)].toArray) y0 (by kernel_rfl) rfl (by rfl) (load_run 27 _ rfl g6 0 rfl [.int .i64 (C.most : Int), .slice a1 n1 c1, .slice a2 n2 c2, .int .i64 (C.hits : Int), .int .i64 (C.miss : Int)] _ HW.out.b6.range Try.underlying27 rfl (info_rc _ _ _ _ _)) hS ?_
          simp only [Act.put, List.getElem_toArray, List.getElem_cons_succ, List.getElem_cons_zero, List.setIfInBounds_toArray, List.set_cons_zero, List.set_cons_succ]
          have hcc := HSTP.out y0 P (.slice a1 n1 c1) (.slice a2 n2 c2) ⟨HW.out.ca, HW.out.rf⟩
          generalize hA : #[Value.pointer (some ⟨g, 0, none⟩), .agg [.int .i64 (C.most : Int), .slice a1 n1 c1, .slice a2 n2 c2, .int .i64 (C.hits : Int), .int .i64 (C.miss : Int)].toArray, .agg [.int .i64 kd, .string s, .int .i64 x].toArray] = AA at hcc
          refine wpAnyH_enter 6 (by kernel_rfl) rfl (by rfl) (f := 11) (args := AA) (by subst hA; simp [go_sem]) hcc ?_
          rintro e z1 ⟨P', vk', vv', rfl, hBo, hmu, hgr⟩
          obtain ⟨a3, n3, c3, a4, n4, c4, hv3, hv4⟩ := hBo.rf.forms
          subst hv3 hv4
          obtain ⟨hb6, hbel, hge⟩ := HW.out.mut hmu hgr
          replace hS := hbel
          refine ⟨_, rfl, hS, ?_⟩
          simp only [Act.put, List.getElem_toArray, List.getElem_cons_succ, List.getElem_cons_zero, List.setIfInBounds_toArray, List.set_cons_zero, List.set_cons_succ]
          refine wpAnyH_take (i := 7) (v := .tuple #[.agg [.int .i64 (C'.most : Int), .slice a3 n3 c3, .slice a4 n4 c4, .int .i64 (C'.hits : Int), .int .i64 (C'.miss : Int)].toArray, .bool true]) rfl (by kernel_rfl) (by kernel_rfl) (by kernel_rfl) (fun _ _ _ h => h) (Or.inl ⟨by rfl, fun wx hx => by simp [go_sem]⟩) hS ?_
          simp only [Act.put, List.getElem_toArray, List.getElem_cons_succ, List.getElem_cons_zero, List.setIfInBounds_toArray, List.set_cons_zero, List.set_cons_succ]
          refine wpAnyH_take (i := 8) (v := .agg [.int .i64 (C'.most : Int), .slice a3 n3 c3, .slice a4 n4 c4, .int .i64 (C'.hits : Int), .int .i64 (C'.miss : Int)].toArray) rfl (by kernel_rfl) (by kernel_rfl) (by kernel_rfl) (fun _ _ _ h => h) (Or.inl ⟨by rfl, fun wx hx => by simp [go_sem]⟩) hS ?_
          simp only [Act.put, List.getElem_toArray, List.getElem_cons_succ, List.getElem_cons_zero, List.setIfInBounds_toArray, List.set_cons_zero, List.set_cons_succ]
          refine wpAnyH_take (i := 9) (v := .bool true) rfl (by kernel_rfl) (by kernel_rfl) (by kernel_rfl) (fun _ _ _ h => h) (Or.inl ⟨by rfl, fun wx hx => by simp [go_sem]⟩) hS ?_
          simp only [Act.put, List.getElem_toArray, List.getElem_cons_succ, List.getElem_cons_zero, List.setIfInBounds_toArray, List.set_cons_zero, List.set_cons_succ]
          refine wpAnyH_storeRow 10 27 (.tmp 6) (.tmp 36) g6 [.int .i64 (C.most : Int), .slice a1 n1 c1, .slice a2 n2 c2, .int .i64 (C.hits : Int), .int .i64 (C.miss : Int)] [.int .i64 (C'.most : Int), .slice a3 n3 c3, .slice a4 n4 c4, .int .i64 (C'.hits : Int), .int .i64 (C'.miss : Int)] hb6 rfl (info_rc _ _ _ _ _) (one_rc _ _ _ ⟨rfl, rfl, rfl⟩ _ _ _ _ _ _) (by kernel_rfl) rfl (by rfl) rfl rfl rfl ?_
          intro yE hs
          have hbE : Below w.heap.size w yE := hS.trans (hs.only.below HW.out.g6 hS.size)
          have HW2 : Hid (LwI w g g6 P' C' (.slice a3 n3 c3) (.slice a4 n4 c4) yE) := ⟨hBo.ca.only hb6 hs.only (by decide) (by decide), hBo.rf.only hb6 (by decide) (by decide) hs.only, hs.blk, hbE, hge, HW.out.g6⟩
          refine ⟨hbE, ?_⟩
          simp only [Act.put, List.getElem_toArray, List.getElem_cons_succ, List.getElem_cons_zero]
          refine wpAnyH_done (by kernel_rfl) ?_ _
          clear hcc hA hbE hs hge hb6 hbel hS hmu hgr hBo HW
          have tk4 : Hid True := trivial
          go_wp2_with (first
              | (clear tk4; go_at_call 14; refine (kaKeys_any HW2.out.ca HOK'.out.2.1).mono ?_; rintro e8 y8 ⟨vq, rfl, ow8, ca8, bl8⟩
                 replace HW2 : Hid (LwI w g g6 P' C' (.slice a3 n3 c3) (.slice a4 n4 c4) y8) := HW2.out.below bl8
                 obtain ⟨aq, cq, hvq⟩ := ow8.form
                 rw [HLQ.out] at hvq
                 subst hvq
                 have HQ : Hid (RdV 9 y8 (.slice aq nq cq) (strV (C'.l.map (·.1)))) := by
                   show RdV _ _ _ _
                   rw [← ky_str]
                   exact ow8.rd
                 clear ow8 ca8 bl8))
          go_loopw [9] (fun i W => ∃ ka : Nat, ka ≤ nq ∧ i = .int .i64 (ka : Int) ∧ LwI w g g6 P' C' (.slice a3 n3 c3) (.slice a4 n4 c4) W ∧ RdV 9 W (.slice aq nq cq) (strV (C'.l.map (·.1)))) (fun i _ => nq - (intOf i).toNat)
          case atStart => exact ⟨0, Nat.zero_le _, rfl, HW2.out, HQ.out⟩
          case round =>
            clear HW2 HQ
            obtain ⟨ka, hka, rfl, hJ, hQ⟩ := hrel
            rename World => W5
            have HJ : Hid (LwI w g g6 P' C' (.slice a3 n3 c3) (.slice a4 n4 c4) W5) := hJ
            have HQ : Hid (RdV 9 W5 (.slice aq nq cq) (strV (C'.l.map (·.1)))) := hQ
            clear hJ hQ
            by_cases hla : ka < nq
            · have f6 : IntKind.i64.wrap ((ka : Int) + 1) = (ka : Int) + 1 := by have := HNQ.out; rw [IntKind.wrap_i64]; omega
              go_wp2
              go_loopw [10] (fun i W => ∃ kb : Nat, kb ≤ ka ∧ i = .int .i64 (kb : Int) ∧ LwI w g g6 P' C' (.slice a3 n3 c3) (.slice a4 n4 c4) W ∧ RdV 9 W (.slice aq nq cq) (strV (C'.l.map (·.1)))) (fun i _ => ka - (intOf i).toNat)
              case atStart => exact ⟨0, Nat.zero_le _, rfl, HJ.out, HQ.out⟩
              case round =>
                clear HJ HQ
                obtain ⟨kb, hkb, rfl, hJ, hQ⟩ := hrel
                rename World => W6
                have HJ : Hid (LwI w g g6 P' C' (.slice a3 n3 c3) (.slice a4 n4 c4) W6) := hJ
                have HQ : Hid (RdV 9 W6 (.slice aq nq cq) (strV (C'.l.map (·.1)))) := hQ
                clear hJ hQ
                by_cases hlb : kb < ka
                · have f7 : IntKind.i64.wrap ((kb : Int) + 1) = (kb : Int) + 1 := by have := HNQ.out; rw [IntKind.wrap_i64]; omega
                  obtain ⟨pa, hpa⟩ : ∃ p, (C'.l.map (·.1))[ka]? = some p := ⟨_, List.getElem?_eq_getElem (by rw [List.length_map, ← HQL.out]; exact hla)⟩
                  obtain ⟨pb, hpb⟩ : ∃ p, (C'.l.map (·.1))[kb]? = some p := ⟨_, List.getElem?_eq_getElem (by rw [List.length_map, ← HQL.out]; omega)⟩
                  obtain ⟨bk, ofk, ek, k1⟩ := HQ.out.at (strV_at hpa)
                  obtain ⟨bk2, ofk2, ek2, k2⟩ := HQ.out.at (strV_at hpb)
                  rw [ek] at ek2
                  simp only [Option.some.injEq, Addr.mk.injEq, and_true] at ek2
                  obtain ⟨e5, e6⟩ := ek2
                  subst e5 e6
                  subst ek
                  have hne : ¬ pa = pb := fun e => by
                    have hd := HOK'.out.1.nd
                    have hll : kb < (C'.l.map (·.1)).length := (List.getElem?_eq_some_iff.1 hpb).1
                    have := (List.getElem?_inj hll hd).1 (hpb.trans (by rw [hpa, e]))
                    omega
                  have hq : (pa.toList == pb.toList) = false := by rw [str_eq]; exact decide_eq_false hne
                  have k0 : (0 : Int) ≤ (ka : Int) := by omega
                  have k3 : (ka : Int) < (nq : Int) := by omega
                  have k4 : (0 : Int) ≤ (kb : Int) := by omega
                  have k5 : (kb : Int) < (nq : Int) := by omega
                  clear hne hpa hpb
                  go_wp2
                  go_region_held3 (fun wx => wx.cell? ⟨bk, ofk + ka, none⟩ = some (.string pa) ∧ wx.cell? ⟨bk, ofk + kb, none⟩ = some (.string pb)) (go_keep) (fail)
                  go_wp2
                  go_roundw
                  case rel => exact ⟨kb + 1, hlb, rfl, HJ.out.drew, HQ.out.drew⟩
                  case measure => simp [intOf]; omega
                · have hkk : kb = ka := by omega
                  subst hkk
                  go_wp2
                  go_roundw
                  case rel => exact ⟨kb + 1, hla, rfl, HJ.out, HQ.out⟩
                  case measure => simp [intOf]; omega
            · have hkk : ka = nq := by omega
              subst hkk
              go_wp2
              go_roundw
              case rel => exact ⟨k + 1, hlt, rfl, P', _, _, by rw [← HC'.out]; exact HJ.out⟩
              case measure => simp [intOf]; omega
        · have z1 : (0 : Int) < (nq : Int) := by omega
          have z2 : ¬ (most < (nq : Int)) := by omega
          have z3 : ¬ (most < 0) := by omega
          clear hbd hz
          go_wp2
          refine wp_region_held_drew (S := fun wx => Below w.heap.size w wx) (by kernel_rfl) HW.out.drew.bel ?_
          intro hS
          replace HW : Hid (LwI w g g6 P C (.slice a1 n1 c1) (.slice a2 n2 c2) (World.drew wr)) := HW.out.drew
          change wpAnyH _ _ _ _ _ _ _ _ (World.drew wr)
          generalize World.drew wr = y0 at *
          try simp only [Act.put, List.setIfInBounds_toArray, List.set_cons_zero, List.set_cons_succ]
          refine wpAnyH_take (i := 0) (v := .pointer (some ⟨g, 0, none⟩)) rfl (by kernel_rfl) (by kernel_rfl) (by kernel_rfl) (fun _ _ _ h => h) (Or.inl ⟨by rfl, fun wx hx => by simp [go_sem]⟩) hS ?_
          simp only [Act.put, List.getElem_toArray, List.getElem_cons_zero, List.setIfInBounds_toArray, List.set_cons_zero, List.set_cons_succ]
          refine wpAnyH_take (i := 2) (v := .slice (some ⟨b, off, none⟩) n cp) rfl (by kernel_rfl) (by kernel_rfl) (by kernel_rfl) (fun _ _ _ h => h) (Or.inl ⟨by rfl, fun wx hx => by simp [go_sem]⟩) hS ?_
          simp only [Act.put, List.getElem_toArray, List.getElem_cons_succ, List.getElem_cons_zero, List.setIfInBounds_toArray, List.set_cons_zero, List.set_cons_succ]
          refine wpAnyH_take (i := 3) (v := .int .i64 (k : Int)) rfl (by kernel_rfl) (by kernel_rfl) (by kernel_rfl) (fun _ _ _ h => h) (Or.inl ⟨by rfl, fun wx hx => by simp [go_sem]⟩) hS ?_
          simp only [Act.put, List.getElem_toArray, List.getElem_cons_succ, List.getElem_cons_zero, List.setIfInBounds_toArray, List.set_cons_zero, List.set_cons_succ]
          refine wpAnyH_take (i := 4) (v := .pointer (some ⟨b, off + k * 3, none⟩)) rfl (by kernel_rfl) (by kernel_rfl) (by kernel_rfl) (fun _ _ _ h => h) (Or.inl ⟨by rfl, fun wx hx => by exact idxO b off n cp k hlt _ _ _ _ rfl rfl rfl _⟩) hS ?_
          simp only [Act.put, List.getElem_toArray, List.getElem_cons_succ, List.getElem_cons_zero, List.setIfInBounds_toArray, List.set_cons_zero, List.set_cons_succ]
          refine wpAnyH_take (i := 5) (v := .agg [.int .i64 kd, .string s, .int .i64 x].toArray) rfl (by kernel_rfl) (by kernel_rfl) (by kernel_rfl) (fun _ _ _ h => h) (Or.inl ⟨by rfl, fun wx hx => by exact load_run 35 _ rfl b (off + k * 3) rfl _ _ (HAT.out _ hx) Try.underlying35 rfl (info_op _ _ _)⟩) hS ?_
          simp only [Act.put, List.getElem_toArray, List.getElem_cons_succ, List.getElem_cons_zero, List.setIfInBounds_toArray, List.set_cons_zero, List.set_cons_succ]
          refine wpAnyH_step 1 (.agg [.int .i64 (C.most : Int), .slice a1 n1 c1, .slice a2 n2 c2, .int .i64 (C.hits : Int), .int .i64 (C.miss : Int)].toArray) y0 (by kernel_rfl) rfl (by rfl) (load_run 27 _ rfl g6 0 rfl [.int .i64 (C.most : Int), .slice a1 n1 c1, .slice a2 n2 c2, .int .i64 (C.hits : Int), .int .i64 (C.miss : Int)] _ HW.out.b6.range Try.underlying27 rfl (info_rc _ _ _ _ _)) hS ?_
          simp only [Act.put, List.getElem_toArray, List.getElem_cons_succ, List.getElem_cons_zero, List.setIfInBounds_toArray, List.set_cons_zero, List.set_cons_succ]
          have hcc := HSTP.out y0 P (.slice a1 n1 c1) (.slice a2 n2 c2) ⟨HW.out.ca, HW.out.rf⟩
          generalize hA : #[Value.pointer (some ⟨g, 0, none⟩), .agg [.int .i64 (C.most : Int), .slice a1 n1 c1, .slice a2 n2 c2, .int .i64 (C.hits : Int), .int .i64 (C.miss : Int)].toArray, .agg [.int .i64 kd, .string s, .int .i64 x].toArray] = AA at hcc
          refine wpAnyH_enter 6 (by kernel_rfl) rfl (by rfl) (f := 11) (args := AA) (by subst hA; simp [go_sem]) hcc ?_
          rintro e z1 ⟨P', vk', vv', rfl, hBo, hmu, hgr⟩
          obtain ⟨a3, n3, c3, a4, n4, c4, hv3, hv4⟩ := hBo.rf.forms
          subst hv3 hv4
          obtain ⟨hb6, hbel, hge⟩ := HW.out.mut hmu hgr
          replace hS := hbel
          refine ⟨_, rfl, hS, ?_⟩
          simp only [Act.put, List.getElem_toArray, List.getElem_cons_succ, List.getElem_cons_zero, List.setIfInBounds_toArray, List.set_cons_zero, List.set_cons_succ]
          refine wpAnyH_take (i := 7) (v := .tuple #[.agg [.int .i64 (C'.most : Int), .slice a3 n3 c3, .slice a4 n4 c4, .int .i64 (C'.hits : Int), .int .i64 (C'.miss : Int)].toArray, .bool true]) rfl (by kernel_rfl) (by kernel_rfl) (by kernel_rfl) (fun _ _ _ h => h) (Or.inl ⟨by rfl, fun wx hx => by simp [go_sem]⟩) hS ?_
          simp only [Act.put, List.getElem_toArray, List.getElem_cons_succ, List.getElem_cons_zero, List.setIfInBounds_toArray, List.set_cons_zero, List.set_cons_succ]
          refine wpAnyH_take (i := 8) (v := .agg [.int .i64 (C'.most : Int), .slice a3 n3 c3, .slice a4 n4 c4, .int .i64 (C'.hits : Int), .int .i64 (C'.miss : Int)].toArray) rfl (by kernel_rfl) (by kernel_rfl) (by kernel_rfl) (fun _ _ _ h => h) (Or.inl ⟨by rfl, fun wx hx => by simp [go_sem]⟩) hS ?_
          simp only [Act.put, List.getElem_toArray, List.getElem_cons_succ, List.getElem_cons_zero, List.setIfInBounds_toArray, List.set_cons_zero, List.set_cons_succ]
          refine wpAnyH_take (i := 9) (v := .bool true) rfl (by kernel_rfl) (by kernel_rfl) (by kernel_rfl) (fun _ _ _ h => h) (Or.inl ⟨by rfl, fun wx hx => by simp [go_sem]⟩) hS ?_
          simp only [Act.put, List.getElem_toArray, List.getElem_cons_succ, List.getElem_cons_zero, List.setIfInBounds_toArray, List.set_cons_zero, List.set_cons_succ]
          refine wpAnyH_storeRow 10 27 (.tmp 6) (.tmp 36) g6 [.int .i64 (C.most : Int), .slice a1 n1 c1, .slice a2 n2 c2, .int .i64 (C.hits : Int), .int .i64 (C.miss : Int)] [.int .i64 (C'.most : Int), .slice a3 n3 c3, .slice a4 n4 c4, .int .i64 (C'.hits : Int), .int .i64 (C'.miss : Int)] hb6 rfl (info_rc _ _ _ _ _) (one_rc _ _ _ ⟨rfl, rfl, rfl⟩ _ _ _ _ _ _) (by kernel_rfl) rfl (by rfl) rfl rfl rfl ?_
          intro yE hs
          have hbE : Below w.heap.size w yE := hS.trans (hs.only.below HW.out.g6 hS.size)
          have HW2 : Hid (LwI w g g6 P' C' (.slice a3 n3 c3) (.slice a4 n4 c4) yE) := ⟨hBo.ca.only hb6 hs.only (by decide) (by decide), hBo.rf.only hb6 (by decide) (by decide) hs.only, hs.blk, hbE, hge, HW.out.g6⟩
          refine ⟨hbE, ?_⟩
          simp only [Act.put, List.getElem_toArray, List.getElem_cons_succ, List.getElem_cons_zero]
          refine wpAnyH_done (by kernel_rfl) ?_ _
          clear hcc hA hbE hs hge hb6 hbel hS hmu hgr hBo HW
          have tk4 : Hid True := trivial
          go_wp2_with (first
              | (clear tk4; go_at_call 14; refine (kaKeys_any HW2.out.ca HOK'.out.2.1).mono ?_; rintro e8 y8 ⟨vq, rfl, ow8, ca8, bl8⟩
                 replace HW2 : Hid (LwI w g g6 P' C' (.slice a3 n3 c3) (.slice a4 n4 c4) y8) := HW2.out.below bl8
                 obtain ⟨aq, cq, hvq⟩ := ow8.form
                 rw [HLQ.out] at hvq
                 subst hvq
                 have HQ : Hid (RdV 9 y8 (.slice aq nq cq) (strV (C'.l.map (·.1)))) := by
                   show RdV _ _ _ _
                   rw [← ky_str]
                   exact ow8.rd
                 clear ow8 ca8 bl8))
          go_loopw [9] (fun i W => ∃ ka : Nat, ka ≤ nq ∧ i = .int .i64 (ka : Int) ∧ LwI w g g6 P' C' (.slice a3 n3 c3) (.slice a4 n4 c4) W ∧ RdV 9 W (.slice aq nq cq) (strV (C'.l.map (·.1)))) (fun i _ => nq - (intOf i).toNat)
          case atStart => exact ⟨0, Nat.zero_le _, rfl, HW2.out, HQ.out⟩
          case round =>
            clear HW2 HQ
            obtain ⟨ka, hka, rfl, hJ, hQ⟩ := hrel
            rename World => W5
            have HJ : Hid (LwI w g g6 P' C' (.slice a3 n3 c3) (.slice a4 n4 c4) W5) := hJ
            have HQ : Hid (RdV 9 W5 (.slice aq nq cq) (strV (C'.l.map (·.1)))) := hQ
            clear hJ hQ
            by_cases hla : ka < nq
            · have f6 : IntKind.i64.wrap ((ka : Int) + 1) = (ka : Int) + 1 := by have := HNQ.out; rw [IntKind.wrap_i64]; omega
              go_wp2
              go_loopw [10] (fun i W => ∃ kb : Nat, kb ≤ ka ∧ i = .int .i64 (kb : Int) ∧ LwI w g g6 P' C' (.slice a3 n3 c3) (.slice a4 n4 c4) W ∧ RdV 9 W (.slice aq nq cq) (strV (C'.l.map (·.1)))) (fun i _ => ka - (intOf i).toNat)
              case atStart => exact ⟨0, Nat.zero_le _, rfl, HJ.out, HQ.out⟩
              case round =>
                clear HJ HQ
                obtain ⟨kb, hkb, rfl, hJ, hQ⟩ := hrel
                rename World => W6
                have HJ : Hid (LwI w g g6 P' C' (.slice a3 n3 c3) (.slice a4 n4 c4) W6) := hJ
                have HQ : Hid (RdV 9 W6 (.slice aq nq cq) (strV (C'.l.map (·.1)))) := hQ
                clear hJ hQ
                by_cases hlb : kb < ka
                · have f7 : IntKind.i64.wrap ((kb : Int) + 1) = (kb : Int) + 1 := by have := HNQ.out; rw [IntKind.wrap_i64]; omega
                  obtain ⟨pa, hpa⟩ : ∃ p, (C'.l.map (·.1))[ka]? = some p := ⟨_, List.getElem?_eq_getElem (by rw [List.length_map, ← HQL.out]; exact hla)⟩
                  obtain ⟨pb, hpb⟩ : ∃ p, (C'.l.map (·.1))[kb]? = some p := ⟨_, List.getElem?_eq_getElem (by rw [List.length_map, ← HQL.out]; omega)⟩
                  obtain ⟨bk, ofk, ek, k1⟩ := HQ.out.at (strV_at hpa)
                  obtain ⟨bk2, ofk2, ek2, k2⟩ := HQ.out.at (strV_at hpb)
                  rw [ek] at ek2
                  simp only [Option.some.injEq, Addr.mk.injEq, and_true] at ek2
                  obtain ⟨e5, e6⟩ := ek2
                  subst e5 e6
                  subst ek
                  have hne : ¬ pa = pb := fun e => by
                    have hd := HOK'.out.1.nd
                    have hll : kb < (C'.l.map (·.1)).length := (List.getElem?_eq_some_iff.1 hpb).1
                    have := (List.getElem?_inj hll hd).1 (hpb.trans (by rw [hpa, e]))
                    omega
                  have hq : (pa.toList == pb.toList) = false := by rw [str_eq]; exact decide_eq_false hne
                  have k0 : (0 : Int) ≤ (ka : Int) := by omega
                  have k3 : (ka : Int) < (nq : Int) := by omega
                  have k4 : (0 : Int) ≤ (kb : Int) := by omega
                  have k5 : (kb : Int) < (nq : Int) := by omega
                  clear hne hpa hpb
                  go_wp2
                  go_region_held3 (fun wx => wx.cell? ⟨bk, ofk + ka, none⟩ = some (.string pa) ∧ wx.cell? ⟨bk, ofk + kb, none⟩ = some (.string pb)) (go_keep) (fail)
                  go_wp2
                  go_roundw
                  case rel => exact ⟨kb + 1, hlb, rfl, HJ.out.drew, HQ.out.drew⟩
                  case measure => simp [intOf]; omega
                · have hkk : kb = ka := by omega
                  subst hkk
                  go_wp2
                  go_roundw
                  case rel => exact ⟨kb + 1, hla, rfl, HJ.out, HQ.out⟩
                  case measure => simp [intOf]; omega
            · have hkk : ka = nq := by omega
              subst hkk
              go_wp2
              go_roundw
              case rel => exact ⟨k + 1, hlt, rfl, P', _, _, by rw [← HC'.out]; exact HJ.out⟩
              case measure => simp [intOf]; omega
      · have hkk : k = n := by omega
        subst hkk
        have HBL : Hid (Below w.heap.size w wr) := hI.bel
        clear hI
        have tk4 : Hid True := trivial
        go_wp2_with (first
            | (clear tk4; go_at_call 10; refine (works16_any _).mono ?_; rintro ew yw ⟨rfl, blw⟩
               have HBW : Hid (Below w.heap.size w yw) := HBL.out.trans (blw.mono HBL.out.size)
               clear blw))
        go_ret
        exact ⟨rfl, HBW.out⟩
  · have q1 : decide ((n : Int) ≤ 200) = false := decide_eq_false (by omega)
    clear hn
    go_enter Try.func4, Try.ntmps4
    have tk0 : Hid True := trivial
    have tk1 : Hid True := trivial
    have tk2 : Hid True := trivial
    have tk3 : Hid True := trivial
    have tk4 : Hid True := trivial
    go_wp2_with (first
      | (clear tk0; go_at_call 8; refine (HST.out).mono ?_; rintro e0 y0 ⟨g, P, rfl, ca, bl, hP⟩
         have HCA : Hid (CaIs y0 g P C0) := ca
         have HB : Hid (Below w.heap.size w y0 ∧ ∀ k, P k → w.heap.size ≤ k) := ⟨bl, hP⟩
         clear ca bl hP)
      | (clear tk1; with_reducible refine wpSeq_allocRc ?_ ?_ ?_
         · rfl
         · rfl
         intro g6 y1 nn
         have H6 : Hid (Blk y1 g6 zRc 27) := nn.blk
         have HG6 : Hid (w.heap.size ≤ g6) := Nat.le_trans HB.out.1.size nn.ge
         replace HCA : Hid (CaIs y1 g P C0) := HCA.out.below nn.below
         replace HB : Hid (Below w.heap.size w y1 ∧ ∀ k, P k → w.heap.size ≤ k) := ⟨HB.out.1.trans (nn.below.mono HB.out.1.size), HB.out.2⟩
         clear nn)
      | (clear tk2; with_reducible refine wpSeq_storeRow 27 (.tmp 6) (.tmp 15) g6 zRc [.int .i64 (C0.most : Int), .slice none 0 0, .slice none 0 0, .int .i64 (C0.hits : Int), .int .i64 (C0.miss : Int)] H6.out rfl (info_rc _ _ _ _ _) ?_ ?_ ?_ ?_ ?_ ?_
         · exact one_rc _ _ _ ⟨rfl, rfl, rfl⟩ _ _ _ _ _ _
         · rfl
         · rfl
         · rfl
         · rfl
         intro y2 sr
         have HI : Hid (LwI w g g6 P C0 (.slice none 0 0) (.slice none 0 0) y2) := ⟨HCA.out.only H6.out sr.only (by decide) (by decide), by rw [HC0.out]; exact RfV.nilC _ _, sr.blk, HB.out.1.trans (sr.only.below HG6.out HB.out.1.size), HB.out.2, HG6.out⟩
         clear sr HCA HB H6 HG6)
      | (clear tk3; go_at_call 9; refine (few16_any _ _ _ _).mono ?_; rintro ef yf ⟨rfl, rfl⟩
         rw [q1])
      | (clear tk4; go_at_call 10; refine (works16_any _).mono ?_; rintro ew yw ⟨rfl, blw⟩
         have HBW : Hid (Below w.heap.size w yw) := HI.out.bel.trans (blw.mono HI.out.bel.size)
         clear blw))
    go_ret
    exact ⟨rfl, HBW.out⟩
end Go.Proofs.Ytgmemibhddnjjaa

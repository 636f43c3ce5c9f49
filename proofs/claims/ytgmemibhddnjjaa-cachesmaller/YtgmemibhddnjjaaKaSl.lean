/- CacheSmaller (layer 16). -/
import Derived.Test.YtgmemibhddnjjaaKaTw
import Derived.Deep.Cut
import Derived.Deep.CutRange
namespace Go.Proofs.Ytgmemibhddnjjaa
open Go.RowKit
set_option maxRecDepth 100000
set_option maxRecDepth 100000 in
set_option maxHeartbeats 4000000 in
theorem cacheSmaller_law (w : World) (most : Int) (mr : Nat) (hmr : mr < 256) (v : Value) (l : List OpK) (hr : RdO w v l) (hs : ∀ o ∈ l, o.k.size ≤ maxLen) : Calls Try.prog 6 #[.int .i64 most, .int .u8 (mr : Int), v] w fun e w' => e = .returned (.bool true) ∧ Below w.heap.size w w' := by
  obtain ⟨ad, cp, hv⟩ := hr.form
  obtain ⟨n, HN⟩ : ∃ n, Hid (n = l.length) := ⟨_, rfl⟩
  rw [← HN.out] at hv
  subst hv
  have HR : Hid (RdO w (.slice ad n cp) l) := hr
  have HSZ : Hid (∀ o ∈ l, o.k.size ≤ maxLen) := hs
  have HMR : Hid (mr < 256) := hmr
  clear hr hs hmr
  by_cases m0 : most < 0
  · have tk0 : Hid True := trivial
    go_enter Try.func6, Try.ntmps6
    go_wp2_with (first
      | (clear tk0; go_at_call 10; refine (works16_any _).mono ?_; rintro ew yw ⟨rfl, blw⟩
         have HBW : Hid (Below w.heap.size w yw) := blw
         clear blw))
    go_ret
    exact ⟨rfl, HBW.out⟩
  by_cases m1 : 500 < most
  · have tk0 : Hid True := trivial
    go_enter Try.func6, Try.ntmps6
    go_wp2_with (first
      | (clear tk0; go_at_call 10; refine (works16_any _).mono ?_; rintro ew yw ⟨rfl, blw⟩
         have HBW : Hid (Below w.heap.size w yw) := blw
         clear blw))
    go_ret
    exact ⟨rfl, HBW.out⟩
  by_cases hn : n ≤ 200
  · have q1 : decide ((n : Int) ≤ 200) = true := decide_eq_true (by omega)
    have HN200 : Hid (n ≤ 200) := hn
    obtain ⟨ma, HMA⟩ : ∃ x : Nat, Hid ((x : Int) = most) := ⟨most.toNat, by show _ = _; omega⟩
    obtain ⟨mb, HMB⟩ : ∃ x : Nat, Hid (x = ma + mr) := ⟨_, rfl⟩
    have w0 : IntKind.i64.wrap (mr : Int) = (mr : Int) := by have h3 := HMR.out; rw [IntKind.wrap_i64]; omega
    have w1 : IntKind.i64.wrap (most + (mr : Int)) = (mb : Int) := by have h1 := HMA.out; have h2 := HMB.out; have h3 := HMR.out; rw [IntKind.wrap_i64]; omega
    have HML : Hid (ma ≤ 500 ∧ mb ≤ 800 ∧ ma ≤ mb) := by have h1 := HMA.out; have h2 := HMB.out; have h3 := HMR.out; exact ⟨by omega, by omega, by omega⟩
    obtain ⟨A0, HA0⟩ : ∃ X, Hid (X = newC ma) := ⟨_, rfl⟩
    obtain ⟨B0, HB0⟩ : ∃ X, Hid (X = newC mb) := ⟨_, rfl⟩
    have HNA : Hid (∀ y, Calls Try.prog 16 #[.int .i64 most] y fun r w' => ∃ g P, r = .returned (.pointer (some ⟨g, 0, none⟩)) ∧ CaIs w' g P A0 ∧ Below y.heap.size y w' ∧ ∀ k, P k → y.heap.size ≤ k) := fun y => by
      have h := kaNew_any y most
      rw [show most.toNat = ma by have h1 := HMA.out; omega] at h
      rw [HA0.out]
      exact h
    have HNB : Hid (∀ y, Calls Try.prog 16 #[.int .i64 (mb : Int)] y fun r w' => ∃ g P, r = .returned (.pointer (some ⟨g, 0, none⟩)) ∧ CaIs w' g P B0 ∧ Below y.heap.size y w' ∧ ∀ k, P k → y.heap.size ≤ k) := fun y => by
      have h := kaNew_any y (mb : Int)
      rw [show ((mb : Int)).toNat = mb by omega] at h
      rw [HB0.out]
      exact h
    have HRUN : Hid (∀ k, SubC (runC A0 (l.take k)) (runC B0 (l.take k)) ∧ smC (runC A0 (l.take k)) ∧ smC (runC B0 (l.take k)) ∧ cntC (runC A0 (l.take k)) ≤ 200 ∧ cntC (runC B0 (l.take k)) ≤ 200 ∧ (runC A0 (l.take k)).most = ma ∧ (runC B0 (l.take k)).most = mb) := fun k => by
      have hl : (l.take k).length ≤ 200 := by rw [List.length_take, ← HN.out]; have := HN200.out; omega
      have h1 := run_cnt A0 (l.take k)
      have h2 := run_cnt B0 (l.take k)
      have e1 : cntC A0 = 0 := by rw [HA0.out]; rfl
      have e2 : cntC B0 = 0 := by rw [HB0.out]; rfl
      have e3 : A0.most = ma := by rw [HA0.out]; rfl
      have e4 : B0.most = mb := by rw [HB0.out]; rfl
      have h3 := HML.out
      refine ⟨sub_run (by rw [HA0.out, HB0.out]; exact sub_new h3.2.2) _ (fun o ho => HSZ.out o ((List.take_sublist k l).mem ho)), sm_of (by omega) (by omega), sm_of (by omega) (by omega), by omega, by omega, by omega, by omega⟩
    have q2 : ¬ most < 0 := m0
    have q3 : ¬ 500 < most := m1
    clear hn m0 m1 HA0 HB0
    go_enter Try.func6, Try.ntmps6
    have tk0 : Hid True := trivial
    have tk1 : Hid True := trivial
    have tk2 : Hid True := trivial
    go_wp2_with (first
      | (clear tk0; go_at_call 9; refine (few16_any _ _ _ _).mono ?_; rintro ef yf ⟨rfl, hyf⟩
         have hyf2 := hyf.symm
         subst hyf2
         rw [q1])
      | (clear tk1; go_at_call 16; refine (HNA.out _).mono ?_; rintro e0 y0 ⟨ga, PA, rfl, ca, bl, hP⟩
         have HCA : Hid (CaIs y0 ga PA A0) := ca
         have HBA : Hid (Below w.heap.size w y0 ∧ ∀ k, PA k → w.heap.size ≤ k) := ⟨bl, hP⟩
         clear ca bl hP)
      | (clear tk2; go_at_call 16; refine (HNB.out _).mono ?_; rintro e1 y1 ⟨gb, PB, rfl, ca, bl, hP⟩
         have HTW : Hid (TwI w ga gb PA PB A0 B0 y1) := ⟨HCA.out.below bl, ca, fun k hk hb => absurd (HCA.out.lt k hk) (by have := hP k hb; omega), HBA.out.1.trans (bl.mono HBA.out.1.size), HBA.out.2, fun k hk => Nat.le_trans HBA.out.1.size (hP k hk)⟩
         clear ca bl hP HCA HBA))
    go_loopw [9] (fun i wr => ∃ k : Nat, k ≤ n ∧ i = .int .i64 (k : Int) ∧ ∃ PA PB, TwI w ga gb PA PB (runC A0 (l.take k)) (runC B0 (l.take k)) wr) (fun i _ => n - (intOf i).toNat)
    case atStart => exact ⟨0, Nat.zero_le _, rfl, PA, PB, HTW.out⟩
    case round =>
      clear HTW
      obtain ⟨k, hkn, rfl, PA, PB, hI⟩ := hrel
      by_cases hlt : k < n
      · obtain ⟨o, ho⟩ : ∃ o, l[k]? = some o := ⟨_, List.getElem?_eq_getElem (by rw [← HN.out]; exact hlt)⟩
        obtain ⟨b, off, e1, hat⟩ := HR.out.at ho
        subst e1
        have HAT : Hid (∀ W, Below w.heap.size w W → W.rangeAt b (off + k * 3) [.int .i64 o.kind, .string o.k, .int .i64 o.v]) := hat
        have hso := HSZ.out o (List.mem_of_getElem? ho)
        obtain ⟨hsu, hsa, hsb, _, _, _, _⟩ := HRUN.out k
        have hra := run_take A0 ho
        have hrb := run_take B0 ho
        obtain ⟨A, HA⟩ : ∃ X, Hid (X = runC A0 (l.take k)) := ⟨_, rfl⟩
        obtain ⟨B, HB⟩ : ∃ X, Hid (X = runC B0 (l.take k)) := ⟨_, rfl⟩
        rw [← HA.out] at hI hsa hra hsu
        rw [← HB.out] at hI hsb hrb hsu
        have f5 : IntKind.i64.wrap ((k : Int) + 1) = (k : Int) + 1 := by have := HN200.out; rw [IntKind.wrap_i64]; omega
        have k0 : (0 : Int) ≤ (k : Int) := by omega
        have k3 : (k : Int) < (n : Int) := by omega
        obtain ⟨kd, s, x⟩ := o
        simp only at HAT hso
        have hrg := HAT.out wr hI.bel
        have r0 : wr.cell? ⟨b, off + k * 3, none⟩ = some (.int .i64 kd) := hrg 0 _ rfl
        have r1 : wr.cell? ⟨b, off + k * 3 + 1, none⟩ = some (.string s) := hrg 1 _ rfl
        have r2 : wr.cell? ⟨b, off + k * 3 + 2, none⟩ = some (.int .i64 x) := hrg 2 _ rfl
        have HW : Hid (TwI w ga gb PA PB A B wr) := hI
        clear hI hat ho HA HB hrg
        by_cases e0 : kd = 0
        · subst e0
          have hra2 : runC A0 (l.take (k + 1)) = getC A s := by rw [hra]; unfold stepC; simp
          have hrb2 : runC B0 (l.take (k + 1)) = getC B s := by rw [hrb]; unfold stepC; simp
          have H1 : Hid (∀ y P, CaIs y ga P A → Calls Try.prog 15 #[.pointer (some ⟨ga, 0, none⟩), .string s] y fun r w' => ∃ P', r = .returned (.tuple #[.int .i64 (getV A s), .bool (hasK A s)]) ∧ CaIs w' ga P' (getC A s) ∧ Mut P y w' ∧ Grew y P P') := fun y P h => kaGet_any h hsa hso
          have H2 : Hid (∀ y P, CaIs y gb P B → Calls Try.prog 15 #[.pointer (some ⟨gb, 0, none⟩), .string s] y fun r w' => ∃ P', r = .returned (.tuple #[.int .i64 (getV B s), .bool (hasK B s)]) ∧ CaIs w' gb P' (getC B s) ∧ Mut P y w' ∧ Grew y P P') := fun y P h => kaGet_any h hsb hso
          clear hra hrb hsa hsb hso hsu
          have tkA : Hid True := trivial
          have tkB : Hid True := trivial
          go_wp2_with (first
              | (clear tkA; go_at_call 15; refine (H1.out _ PA HW.out.ca).mono ?_; rintro e7 z1 ⟨PA2, rfl, ca7, mu7, gr7⟩
                 replace HW : Hid (TwI w ga gb PA2 PB (getC A s) B z1) := HW.out.a ca7 mu7 gr7
                 have hrg := HAT.out z1 HW.out.bel
                 have s0 : z1.cell? ⟨b, off + k * 3, none⟩ = some (.int .i64 0) := hrg 0 _ rfl
                 have s1 : z1.cell? ⟨b, off + k * 3 + 1, none⟩ = some (.string s) := hrg 1 _ rfl
                 have s2 : z1.cell? ⟨b, off + k * 3 + 2, none⟩ = some (.int .i64 x) := hrg 2 _ rfl
                 clear hrg
                 clear ca7 mu7 gr7)
              | (clear tkB; go_at_call 15; refine (H2.out _ PB HW.out.cb).mono ?_; rintro e8 z2 ⟨PB2, rfl, ca8, mu8, gr8⟩
                 replace HW : Hid (TwI w ga gb PA2 PB2 (getC A s) (getC B s) z2) := HW.out.b ca8 mu8 gr8
                 clear ca8 mu8 gr8))
          go_roundw
          case rel => exact ⟨k + 1, hlt, rfl, PA2, PB2, by rw [hra2, hrb2]; exact HW.out⟩
          case measure => simp [intOf]; omega
        by_cases e1 : kd = 1
        · subst e1
          have hra2 : runC A0 (l.take (k + 1)) = putC A s x := by rw [hra]; unfold stepC; simp
          have hrb2 : runC B0 (l.take (k + 1)) = putC B s x := by rw [hrb]; unfold stepC; simp
          have H1 : Hid (∀ y P, CaIs y ga P A → Calls Try.prog 17 #[.pointer (some ⟨ga, 0, none⟩), .string s, .int .i64 x] y fun r w' => ∃ P', r = .returned (.tuple #[]) ∧ CaIs w' ga P' (putC A s x) ∧ Mut P y w' ∧ Grew y P P') := fun y P h => kaPut_any h hsa hso x
          have H2 : Hid (∀ y P, CaIs y gb P B → Calls Try.prog 17 #[.pointer (some ⟨gb, 0, none⟩), .string s, .int .i64 x] y fun r w' => ∃ P', r = .returned (.tuple #[]) ∧ CaIs w' gb P' (putC B s x) ∧ Mut P y w' ∧ Grew y P P') := fun y P h => kaPut_any h hsb hso x
          clear hra hrb hsa hsb hso hsu
          go_wp2
          go_region_held3 (fun wx => wx.cell? ⟨b, off + k * 3 + 1, none⟩ = some (.string s) ∧ wx.cell? ⟨b, off + k * 3 + 2, none⟩ = some (.int .i64 x)) (go_keep)
            (first
              | (go_at_call 17; refine (H1.out _ PA HW.out.drew.ca).mono ?_; rintro e7 z1 ⟨PA2, rfl, ca7, mu7, gr7⟩
                 replace HW : Hid (TwI w ga gb PA2 PB (putC A s x) B z1) := HW.out.drew.a ca7 mu7 gr7
                 have hrg := HAT.out z1 HW.out.bel
                 have s0 : z1.cell? ⟨b, off + k * 3, none⟩ = some (.int .i64 1) := hrg 0 _ rfl
                 have s1 : z1.cell? ⟨b, off + k * 3 + 1, none⟩ = some (.string s) := hrg 1 _ rfl
                 have s2 : z1.cell? ⟨b, off + k * 3 + 2, none⟩ = some (.int .i64 x) := hrg 2 _ rfl
                 clear hrg
                 clear ca7 mu7 gr7))
          go_wp2
          have HT2 := HAT.out
          go_region_held3 (fun wx => wx.cell? ⟨b, off + k * 3 + 1, none⟩ = some (.string s) ∧ wx.cell? ⟨b, off + k * 3 + 2, none⟩ = some (.int .i64 x)) (go_keep)
            (first
              | (go_at_call 17; refine (H2.out _ PB HW.out.drew.cb).mono ?_; rintro e8 z2 ⟨PB2, rfl, ca8, mu8, gr8⟩
                 replace HW : Hid (TwI w ga gb PA2 PB2 (putC A s x) (putC B s x) z2) := HW.out.drew.b ca8 mu8 gr8
                 clear ca8 mu8 gr8
                 have hrg2 := HAT.out z2 HW.out.bel
                 have t1 : z2.cell? ⟨b, off + k * 3 + 1, none⟩ = some (.string s) := hrg2 1 _ rfl
                 have t2 : z2.cell? ⟨b, off + k * 3 + 2, none⟩ = some (.int .i64 x) := hrg2 2 _ rfl
                 clear hrg2))
          go_wp2
          go_roundw
          case rel => exact ⟨k + 1, hlt, rfl, PA2, PB2, by rw [hra2, hrb2]; exact HW.out⟩
          case measure => simp [intOf]; omega
        by_cases e2 : kd = 2
        · subst e2
          have hra2 : runC A0 (l.take (k + 1)) = dropC A s := by rw [hra]; unfold stepC; simp
          have hrb2 : runC B0 (l.take (k + 1)) = dropC B s := by rw [hrb]; unfold stepC; simp
          have H1 : Hid (∀ y P, CaIs y ga P A → Calls Try.prog 18 #[.pointer (some ⟨ga, 0, none⟩), .string s] y fun r w' => ∃ P', r = .returned (.bool (hasK A s)) ∧ CaIs w' ga P' (dropC A s) ∧ Mut P y w' ∧ Grew y P P') := fun y P h => kaDrop_any h hsa hso
          have H2 : Hid (∀ y P, CaIs y gb P B → Calls Try.prog 18 #[.pointer (some ⟨gb, 0, none⟩), .string s] y fun r w' => ∃ P', r = .returned (.bool (hasK B s)) ∧ CaIs w' gb P' (dropC B s) ∧ Mut P y w' ∧ Grew y P P') := fun y P h => kaDrop_any h hsb hso
          clear hra hrb hsa hsb hso hsu
          have tkA : Hid True := trivial
          have tkB : Hid True := trivial
          go_wp2_with (first
              | (clear tkA; go_at_call 18; refine (H1.out _ PA HW.out.ca).mono ?_; rintro e7 z1 ⟨PA2, rfl, ca7, mu7, gr7⟩
                 replace HW : Hid (TwI w ga gb PA2 PB (dropC A s) B z1) := HW.out.a ca7 mu7 gr7
                 have hrg := HAT.out z1 HW.out.bel
                 have s0 : z1.cell? ⟨b, off + k * 3, none⟩ = some (.int .i64 2) := hrg 0 _ rfl
                 have s1 : z1.cell? ⟨b, off + k * 3 + 1, none⟩ = some (.string s) := hrg 1 _ rfl
                 have s2 : z1.cell? ⟨b, off + k * 3 + 2, none⟩ = some (.int .i64 x) := hrg 2 _ rfl
                 clear hrg
                 clear ca7 mu7 gr7)
              | (clear tkB; go_at_call 18; refine (H2.out _ PB HW.out.cb).mono ?_; rintro e8 z2 ⟨PB2, rfl, ca8, mu8, gr8⟩
                 replace HW : Hid (TwI w ga gb PA2 PB2 (dropC A s) (dropC B s) z2) := HW.out.b ca8 mu8 gr8
                 clear ca8 mu8 gr8))
          go_roundw
          case rel => exact ⟨k + 1, hlt, rfl, PA2, PB2, by rw [hra2, hrb2]; exact HW.out⟩
          case measure => simp [intOf]; omega
        have hra2 : runC A0 (l.take (k + 1)) = A := by rw [hra]; unfold stepC; rw [if_neg e0, if_neg e1, if_neg e2]
        have hrb2 : runC B0 (l.take (k + 1)) = B := by rw [hrb]; unfold stepC; rw [if_neg e0, if_neg e1, if_neg e2]
        clear hra hrb hsa hsb hso hsu
        go_wp2
        go_roundw
        case rel => exact ⟨k + 1, hlt, rfl, PA, PB, by rw [hra2, hrb2]; exact HW.out⟩
        case measure => simp [intOf]; omega
      · have hkk : k = n := by omega
        subst hkk
        obtain ⟨hsu, hsa, hsb, hca, hcb, hma, hmb⟩ := HRUN.out k
        obtain ⟨A, HA⟩ : ∃ X, Hid (X = runC A0 (l.take k)) := ⟨_, rfl⟩
        obtain ⟨B, HB⟩ : ∃ X, Hid (X = runC B0 (l.take k)) := ⟨_, rfl⟩
        rw [← HA.out] at hI hsa hsu hca hma
        rw [← HB.out] at hI hsb hsu hcb hmb
        obtain ⟨KW, HKW⟩ : ∃ X, Hid (X = A.l.map (·.1)) := ⟨_, rfl⟩
        obtain ⟨m, HM⟩ : ∃ X, Hid (X = KW.length) := ⟨_, rfl⟩
        have HMM : Hid (m ≤ 500) := by
          show m ≤ 500
          rw [HM.out, HKW.out, List.length_map]
          have h1 := hsu.okA.le
          have h2 := HML.out.1
          omega
        have HSM : Hid (smC A) := hsa
        have HST0 : Hid (SubC A B ∧ cntC A ≤ 200 ∧ cntC B ≤ 200 ∧ A.most = ma ∧ B.most = mb ∧ ∀ p ∈ KW, hasK A p = true ∧ p.size ≤ maxLen) := ⟨hsu, hca, hcb, hma, hmb, fun p hp => by
          rw [HKW.out] at hp
          obtain ⟨q, hq, e⟩ := List.mem_map.1 hp
          refine ⟨?_, by rw [← e]; exact hsu.okA.sz q hq⟩
          unfold hasK
          rw [← e, fd_mem hsu.okA.nd (show (q.1, q.2) ∈ A.l from hq)]
          rfl⟩
        have HW : Hid (TwI w ga gb PA PB A B wr) := hI
        clear hI hsu hsa hsb hca hcb hma hmb HA HB
        have tk4 : Hid True := trivial
        go_wp2_with (first
            | (clear tk4; go_at_call 14; refine (kaKeys_any HW.out.ca HSM.out).mono ?_; rintro e6 y6 ⟨vq, rfl, ow6, ca6, bl6⟩
               obtain ⟨aq, cq, hvq⟩ := ow6.form
               rw [show (A.l.map (fun p => Value.string p.1)).length = m by rw [List.length_map, HM.out, HKW.out, List.length_map]] at hvq
               subst hvq
               have HQ : Hid (RdV 9 y6 (.slice aq m cq) (strV KW)) := by
                 show RdV _ _ _ _
                 rw [HKW.out, ← ky_str]
                 exact ow6.rd
               replace HW : Hid (TwI w ga gb PA PB A B y6) := HW.out.below bl6
               clear ow6 ca6 bl6))
        go_loopw [11] (fun i W => ∃ j : Nat, j ≤ m ∧ i = .int .i64 (j : Int) ∧ ∃ PA PB A B, TwI w ga gb PA PB A B W ∧ RdV 9 W (.slice aq m cq) (strV KW) ∧ (SubC A B ∧ cntC A ≤ 200 + j ∧ cntC B ≤ 200 + j ∧ A.most = ma ∧ B.most = mb ∧ ∀ p ∈ KW, hasK A p = true ∧ p.size ≤ maxLen)) (fun i _ => m - (intOf i).toNat)
        case atStart => exact ⟨0, Nat.zero_le _, rfl, PA, PB, A, B, HW.out, HQ.out, HST0.out⟩
        case round =>
          clear HW HQ HST0 HSM
          obtain ⟨j, hjm, rfl, PA, PB, A, B, hJ, hQ, hS⟩ := hrel
          rename World => W5
          have HJ : Hid (TwI w ga gb PA PB A B W5) := hJ
          have HQ : Hid (RdV 9 W5 (.slice aq m cq) (strV KW)) := hQ
          have HS : Hid (SubC A B ∧ cntC A ≤ 200 + j ∧ cntC B ≤ 200 + j ∧ A.most = ma ∧ B.most = mb ∧ ∀ p ∈ KW, hasK A p = true ∧ p.size ≤ maxLen) := hS
          clear hJ hQ
          by_cases hj : j < m
          · have f6 : IntKind.i64.wrap ((j : Int) + 1) = (j : Int) + 1 := by have := HMM.out; rw [IntKind.wrap_i64]; omega
            obtain ⟨p, hp⟩ : ∃ p, KW[j]? = some p := ⟨_, List.getElem?_eq_getElem (by rw [← HM.out]; exact hj)⟩
            obtain ⟨b1, o1, e1, k1⟩ := HQ.out.at (strV_at hp)
            subst e1
            have j0 : (0 : Int) ≤ (j : Int) := by omega
            have j1 : (j : Int) < (m : Int) := by omega
            obtain ⟨hsub, hc1, hc2, hm1, hm2, hks⟩ := hS
            obtain ⟨hhas, hpsz⟩ := hks p (List.mem_of_getElem? hp)
            have hmm := HMM.out
            have hml := HML.out
            have smA : smC A := sm_of (by omega) (by omega)
            have smB : smC B := sm_of (by omega) (by omega)
            obtain ⟨v0, hv0⟩ : ∃ v, fdK A.l p = some v := Option.isSome_iff_exists.1 hhas
            have hvB := hsub.fd hv0
            have HGA : Hid (∀ y P, CaIs y ga P A → Calls Try.prog 15 #[.pointer (some ⟨ga, 0, none⟩), .string p] y fun r w' => ∃ P', r = .returned (.tuple #[.int .i64 v0, .bool true]) ∧ CaIs w' ga P' (getC A p) ∧ Mut P y w' ∧ Grew y P P') := fun y P h => by
              have h1 := kaGet_any h smA hpsz
              rw [show getV A p = v0 by unfold getV; rw [hv0]; rfl, hhas] at h1
              exact h1
            have HGB : Hid (∀ y P, CaIs y gb P B → Calls Try.prog 15 #[.pointer (some ⟨gb, 0, none⟩), .string p] y fun r w' => ∃ P', r = .returned (.tuple #[.int .i64 v0, .bool true]) ∧ CaIs w' gb P' (getC B p) ∧ Mut P y w' ∧ Grew y P P') := fun y P h => by
              have h1 := kaGet_any h smB hpsz
              rw [show getV B p = v0 by unfold getV; rw [hvB]; rfl, show hasK B p = true by unfold hasK; rw [hvB]; rfl] at h1
              exact h1
            have HS2 : Hid (SubC (getC A p) (getC B p) ∧ cntC (getC A p) ≤ 200 + (j + 1) ∧ cntC (getC B p) ≤ 200 + (j + 1) ∧ (getC A p).most = ma ∧ (getC B p).most = mb ∧ ∀ q ∈ KW, hasK (getC A p) q = true ∧ q.size ≤ maxLen) := by
              have g1 := cnt_get A p
              have g2 := cnt_get B p
              exact ⟨sub_get hsub p hpsz, by omega, by omega, by omega, by omega, fun q hq => ⟨by rw [has_get]; exact (hks q hq).1, (hks q hq).2⟩⟩
            have HAT2 : Hid (∀ W, RdV 9 W (.slice (some ⟨b1, o1, none⟩) m cq) (strV KW) → W.cell? ⟨b1, o1 + j, none⟩ = some (.string p)) := fun W h => by
              obtain ⟨b', o', e', h'⟩ := h.at (strV_at hp)
              simp only [Option.some.injEq, Addr.mk.injEq] at e'
              obtain ⟨rfl, rfl, _⟩ := e'
              exact h'
            clear hsub hc1 hc2 hm1 hm2 hks hhas hpsz hmm hml smA smB hv0 hvB hp HS
            have tk8 : Hid True := trivial
            have tk9 : Hid True := trivial
            go_wp2_with (first
              | (clear tk8; go_at_call 15; refine (HGA.out W5 PA HJ.out.ca).mono ?_; rintro e7 z1 ⟨PA2, rfl, ca7, mu7, gr7⟩
                 replace HQ : Hid (RdV 9 z1 (.slice (some ⟨b1, o1, none⟩) m cq) (strV KW)) := HQ.out.mut HJ.out.ca mu7 (by decide) (by decide)
                 replace HJ : Hid (TwI w ga gb PA2 PB (getC A p) B z1) := HJ.out.a ca7 mu7 gr7
                 have k7 := HAT2.out z1 HQ.out
                 clear ca7 mu7 gr7)
              | (clear tk9; go_at_call 15; refine (HGB.out z1 PB HJ.out.cb).mono ?_; rintro e8 z2 ⟨PB2, rfl, ca8, mu8, gr8⟩
                 replace HQ : Hid (RdV 9 z2 (.slice (some ⟨b1, o1, none⟩) m cq) (strV KW)) := HQ.out.mut HJ.out.cb mu8 (by decide) (by decide)
                 replace HJ : Hid (TwI w ga gb PA2 PB2 (getC A p) (getC B p) z2) := HJ.out.b ca8 mu8 gr8
                 clear ca8 mu8 gr8))
            go_roundw
            case rel => exact ⟨j + 1, hj, rfl, PA2, PB2, _, _, HJ.out, HQ.out, HS2.out⟩
            case measure => simp [intOf]; omega
          · have hjj : j = m := by omega
            subst hjj
            have HB5 : Hid (Below w.heap.size w W5) := HJ.out.bel
            clear hS
            have tk9 : Hid True := trivial
            go_wp2_with (first
              | (clear tk9; go_at_call 10; refine (works16_any _).mono ?_; rintro ew yw ⟨rfl, blw⟩
                 have HBW : Hid (Below w.heap.size w yw) := HB5.out.trans (blw.mono HB5.out.size)
                 clear blw))
            go_ret
            exact ⟨rfl, HBW.out⟩
  · have q1 : decide ((n : Int) ≤ 200) = false := decide_eq_false (by omega)
    have tk0 : Hid True := trivial
    have tk1 : Hid True := trivial
    clear hn
    go_enter Try.func6, Try.ntmps6
    go_wp2_with (first
      | (clear tk0; go_at_call 9; refine (few16_any _ _ _ _).mono ?_; rintro ef yf ⟨rfl, hyf⟩
         have hyf2 := hyf.symm
         subst hyf2
         rw [q1])
      | (clear tk1; go_at_call 10; refine (works16_any _).mono ?_; rintro ew yw ⟨rfl, blw⟩
         have HBW : Hid (Below w.heap.size w yw) := blw
         clear blw))
    go_ret
    exact ⟨rfl, HBW.out⟩
end Go.Proofs.Ytgmemibhddnjjaa

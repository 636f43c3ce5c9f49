/- Texts that the proof leans on, one behind the other: slices.symMergeCmpFunc, stableCmpFunc and SortStableFunc at trees: a sort that keeps the order of equals. Worlds of the sort; the walks of tree.rising's two functions that are handed to slices. The walk of slices.CompactFunc at trees: of equals that stand one behind the other the first. .. -/
import Derived.Test.YtlhbbkohndggmaaDoorMrb
import Derived.Lib.SliceRun
import Derived.Test.YtlhbbkohndggmaaDoorMra
/- slices.symMergeCmpFunc, stableCmpFunc and SortStableFunc at trees: a sort that keeps the order of equals. -/
namespace Go.Proofs.YtlhbbkohndggmaaDoor
open Go.Shelf Go.RowKit Go.Lib Go.Sort
set_option maxRecDepth 100000
variable {α : Type} [Inhabited α]
theorem symMerge_any (enc : α → Value) (cf : α → α → Int) (Rr : α → α → Prop) (K : Keep (ltOf cf) Rr) (g : Nat) (cb : Array Value) (eg : ∀ args w, (callFunc g args).run Tryd.prog w = .ok (.enter g args) w) (blk off L cap : Nat) (d0 : Array α) (w0 : World) (hcmp : CmpLays1 Tryd.prog g cb enc cf blk off d0.size w0) (R : Row1 enc w0 blk off d0) (hL : d0.size = L) (hsz : L < 1000000000) : ∀ (NN a m b : Nat) (d : Array α) (w : World), b - a < NN → d0.size = d.size → SW enc w0 blk off d w → a < m → m < b → b ≤ d.size → Ris Rr a m d → Ris Rr m b d → Ahead (ltOf cf) Rr a m b d → Calls Tryd.prog 84 #[.slice (some ⟨blk, off, none⟩) L cap, .int .i64 a, .int .i64 m, .int .i64 b, .func (.func g) #[] cb] w fun e w' => e = .returned (.tuple #[]) ∧ ∃ d', Merged Rr a b d d' ∧ SW enc w0 blk off d' w'
  | 0, a, m, b, d, w, h, _, _, _, _, _, _, _, _ => by omega
  | NN + 1, a, m, b, d, w, h, hz, S, ham, hmb, hb, h1, h2, hx => by
    have IH := symMerge_any enc cf Rr K g cb eg blk off L cap d0 w0 hcmp R hL hsz NN
    by_cases c1 : m = a + 1
    · exact symLeft_any enc cf Rr K g cb eg blk off L cap a m b d0 d w0 w hcmp R hz (by omega) S c1 hmb hb (by omega) h2 hx
    · by_cases c2 : b = m + 1
      · exact symRight_any enc cf Rr K g cb eg blk off L cap a m b d0 d w0 w hcmp R hz (by omega) S ham c1 c2 hb (by omega) h1 hx
      · by_cases c3 : (a + b) / 2 < m
        · exact symMidA_any enc cf Rr K g cb eg blk off L cap a m b d0 d w0 w hcmp R hz (by omega) S NN (by omega) IH ham c1 hmb c2 ((a + b) / 2) ⟨by omega, by omega⟩ c3 hb (by omega) h1 h2 hx
        · exact symMidB_any enc cf Rr K g cb eg blk off L cap a m b d0 d w0 w hcmp R hz (by omega) S NN (by omega) IH ham c1 hmb c2 ((a + b) / 2) ⟨by omega, by omega⟩ (by omega) hb (by omega) h1 h2 hx
/-- blocks of B: those below hi rise, no two are mixed -/
structure Blkd (lt : α → α → Bool) (R : α → α → Prop) (B hi n : Nat) (d dk : Array α) : Prop where
  perm : PermIn 0 n d dk
  cut : ∀ k, Cut lt R (k * B) n dk
  ris : ∀ k, k * B < hi → Ris R (k * B) (min (k * B + B) n) dk
/-- in the midst of making blocks of B into blocks of 2 B: those of 2 B below a, those of B from a on -/
structure Half (lt : α → α → Bool) (R : α → α → Prop) (B k n : Nat) (d dk : Array α) : Prop where
  perm : PermIn 0 n d dk
  cut2 : ∀ j, Cut lt R (j * (2 * B)) n dk
  cut1 : ∀ j, k * (2 * B) ≤ j * B → Cut lt R (j * B) n dk
  ris2 : ∀ j, j < k → Ris R (j * (2 * B)) (min (j * (2 * B) + 2 * B) n) dk
  ris1 : ∀ j, k * (2 * B) ≤ j * B → j * B < n → Ris R (j * B) (min (j * B + B) n) dk
theorem Blkd.first {lt : α → α → Bool} {R : α → α → Prop} {n : Nat} {d : Array α} (h : Stood lt R 0 n d) : Blkd lt R 20 0 n d d :=
  ⟨permIn_refl _ _ _, fun k i j _ hi hj hj2 hl => h i j (Nat.zero_le _) (by omega) hj2 hl, fun k hk => by omega⟩
/-- one block of 20 more, up to e -/
theorem Blkd.next {lt : α → α → Bool} {R : α → α → Prop} {k e n : Nat} {d dk dj : Array α} (h : Blkd lt R 20 (k * 20) n d dk) (he : e = min (k * 20 + 20) n) (hk : k * 20 ≤ n) (hn : n ≤ d.size) (hm : Merged R (k * 20) e dk dj) : Blkd lt R 20 (k * 20 + 20) n d dj := by
  have hz : dk.size = d.size := h.perm.1
  refine ⟨permIn_trans _ _ _ _ _ h.perm (PermIn.wide hm.1 (Nat.zero_le _) (by omega) (by omega)), fun c => (h.cut c).perm hm.1 (by omega) (by omega) ?_, fun c hc => ?_⟩
  · by_cases c1 : c ≤ k
    · exact Or.inr (Nat.mul_le_mul_right 20 c1)
    · have : (k + 1) * 20 ≤ c * 20 := Nat.mul_le_mul_right 20 (by omega)
      exact Or.inl (by omega)
  · by_cases c1 : c < k
    · have h1 : (c + 1) * 20 ≤ k * 20 := Nat.mul_le_mul_right 20 (by omega)
      exact (h.ris c (by omega)).other hm.1 (Or.inl (by omega))
    · have e1 : c = k := by
        by_cases c2 : k < c
        · have : (k + 1) * 20 ≤ c * 20 := Nat.mul_le_mul_right 20 (by omega)
          omega
        · omega
      rw [e1, ← he]
      exact hm.2
theorem Blkd.half {lt : α → α → Bool} {R : α → α → Prop} {B n : Nat} {d dk : Array α} (h : Blkd lt R B n n d dk) : Half lt R B 0 n d dk :=
  ⟨h.perm, fun j => by rw [show j * (2 * B) = (j * 2) * B by rw [Nat.mul_assoc]]; exact h.cut _, fun j _ => h.cut j, fun j hj => by omega, fun j _ hj => h.ris j hj⟩
/-- two blocks of B, merged -/
theorem Half.next {lt : α → α → Bool} {R : α → α → Prop} {B k e n : Nat} {d dk dj : Array α} (h : Half lt R B k n d dk) (he : e = min (k * (2 * B) + 2 * B) n) (hn : n ≤ d.size) (hm : Merged R (k * (2 * B)) e dk dj) : Half lt R B (k + 1) n d dj := by
  have hz : dk.size = d.size := h.perm.1
  have hk1 : (k + 1) * (2 * B) = k * (2 * B) + 2 * B := Nat.succ_mul _ _
  refine ⟨permIn_trans _ _ _ _ _ h.perm (PermIn.wide hm.1 (Nat.zero_le _) (by omega) (by omega)), fun c => (h.cut2 c).perm hm.1 (by omega) (by omega) ?_, fun c hc => (h.cut1 c (by omega)).perm hm.1 (by omega) (by omega) (Or.inl (by omega)), fun c hc => ?_, fun c hc hcn => (h.ris1 c (by omega) hcn).other hm.1 (Or.inr (by omega))⟩
  · by_cases c1 : c ≤ k
    · exact Or.inr (Nat.mul_le_mul_right _ c1)
    · have : (k + 1) * (2 * B) ≤ c * (2 * B) := Nat.mul_le_mul_right _ (by omega)
      exact Or.inl (by omega)
  · by_cases c1 : c < k
    · have h1 : (c + 1) * (2 * B) ≤ k * (2 * B) := Nat.mul_le_mul_right _ (by omega)
      rw [Nat.succ_mul] at h1
      exact (h.ris2 c c1).other hm.1 (Or.inl (by omega))
    · rw [show c = k by omega, ← he]
      exact hm.2
/-- what a merge of two blocks asks -/
theorem Half.asks {lt : α → α → Bool} {R : α → α → Prop} {B k e n : Nat} {d dk : Array α} (h : Half lt R B k n d dk) (he : e = min (k * (2 * B) + 2 * B) n) (hB : 0 < B) (hm : k * (2 * B) + B < n) : Ris R (k * (2 * B)) (k * (2 * B) + B) dk ∧ Ris R (k * (2 * B) + B) e dk ∧ Ahead lt R (k * (2 * B)) (k * (2 * B) + B) e dk := by
  have e1 : k * (2 * B) = (2 * k) * B := by rw [Nat.mul_comm k, Nat.mul_assoc, Nat.mul_assoc, Nat.mul_comm B k]
  have e2 : k * (2 * B) + B = (2 * k + 1) * B := by rw [Nat.succ_mul (2 * k), e1]
  have q1 := h.ris1 (2 * k) (by omega) (by omega)
  have q2 := h.ris1 (2 * k + 1) (by omega) (by omega)
  have q3 := h.cut1 (2 * k + 1) (by omega)
  rw [← e1] at q1
  rw [← e2] at q2 q3
  exact ⟨q1.mono (Nat.le_refl _) (by omega), q2.mono (Nat.le_refl _) (by omega), q3.mono (Nat.zero_le _) (Nat.le_refl _) (Nat.le_refl _) (by omega)⟩
/-- the last, lone block -/
theorem Half.last {lt : α → α → Bool} {R : α → α → Prop} {B k n : Nat} {d dk : Array α} (h : Half lt R B k n d dk) (hB : 0 < B) (h1 : n ≤ k * (2 * B) + B) : Blkd lt R (2 * B) n n d dk := by
  refine ⟨h.perm, h.cut2, fun c hc => ?_⟩
  by_cases c1 : c < k
  · exact h.ris2 c c1
  · by_cases c2 : k < c
    · have : (k + 1) * (2 * B) ≤ c * (2 * B) := Nat.mul_le_mul_right _ (by omega)
      rw [Nat.succ_mul] at this
      omega
    · have e : c = k := by omega
      subst e
      have e1 : c * (2 * B) = (2 * c) * B := by rw [Nat.mul_comm c, Nat.mul_assoc, Nat.mul_assoc, Nat.mul_comm B c]
      have q1 := h.ris1 (2 * c) (by omega) (by omega)
      rw [← e1] at q1
      exact q1.mono (Nat.le_refl _) (by omega)
theorem Half.done {lt : α → α → Bool} {R : α → α → Prop} {B k n : Nat} {d dk : Array α} (h : Half lt R B k n d dk) (h1 : n ≤ k * (2 * B)) : Blkd lt R (2 * B) n n d dk := by
  refine ⟨h.perm, h.cut2, fun c hc => h.ris2 c ?_⟩
  by_cases c2 : c < k
  · exact c2
  · have : k * (2 * B) ≤ c * (2 * B) := Nat.mul_le_mul_right _ (by omega)
    omega
theorem Blkd.wide {lt : α → α → Bool} {R : α → α → Prop} {B hi n : Nat} {d dk : Array α} (h : Blkd lt R B hi n d dk) (hh : n ≤ hi) : Blkd lt R B n n d dk := ⟨h.perm, h.cut, fun k hk => h.ris k (by omega)⟩
theorem Blkd.whole {lt : α → α → Bool} {R : α → α → Prop} {B n : Nat} {d dk : Array α} (h : Blkd lt R B n n d dk) (hB : n ≤ B) : Merged R 0 n d dk := by
  refine ⟨h.perm, ?_⟩
  by_cases hn : n = 0
  · intro i j _ _ hj; omega
  · have := h.ris 0 (by omega)
    rw [Nat.zero_mul, Nat.zero_add, show min B n = n by omega] at this
    exact this
set_option maxHeartbeats 8000000 in
set_option maxRecDepth 1000000 in
theorem stable_any (enc : α → Value) (cf : α → α → Int) (Rr : α → α → Prop) (K : Keep (ltOf cf) Rr) (g : Nat) (cb : Array Value) (eg : ∀ args w, (callFunc g args).run Tryd.prog w = .ok (.enter g args) w) (blk off n cap : Nat) (d : Array α) (w0 w : World) (hcmp : CmpLays1 Tryd.prog g cb enc cf blk off d.size w0) (R : Row1 enc w0 blk off d) (hn : d.size = n) (S : SW enc w0 blk off d w) (hsz : n < 1000000000) (hS : Stood (ltOf cf) Rr 0 n d) :
    Calls Tryd.prog 67 #[.slice (some ⟨blk, off, none⟩) n cap, .int .i64 n, .func (.func g) #[] cb] w fun e w' => e = .returned (.tuple #[]) ∧ ∃ d', Merged Rr 0 n d d' ∧ SW enc w0 blk off d' w' := by
  have CI : Aside (∀ (a b : Nat) (dk : Array α) (w : World), dk.size = n → SW enc w0 blk off dk w → a ≤ b → b ≤ n → Stood (ltOf cf) Rr a b dk → Calls Tryd.prog 83 #[.slice (some ⟨blk, off, none⟩) n cap, .int .i64 a, .int .i64 b, .func (.func g) #[] cb] w fun e w' => e = .returned (.tuple #[]) ∧ ∃ d', Merged Rr a b dk d' ∧ SW enc w0 blk off d' w') := fun a b dk w h1 h2 h3 h4 h5 => insertion_any enc cf Rr K g cb eg blk off n cap a b d dk w0 w hcmp R (by omega) h1 h2 h3 (by omega) (by omega) h5
  have CM : Aside (∀ (a m b : Nat) (dk : Array α) (w : World), dk.size = n → SW enc w0 blk off dk w → a < m → m < b → b ≤ n → (Ris Rr a m dk ∧ Ris Rr m b dk ∧ Ahead (ltOf cf) Rr a m b dk) → Calls Tryd.prog 84 #[.slice (some ⟨blk, off, none⟩) n cap, .int .i64 a, .int .i64 m, .int .i64 b, .func (.func g) #[] cb] w fun e w' => e = .returned (.tuple #[]) ∧ ∃ d', Merged Rr a b dk d' ∧ SW enc w0 blk off d' w') := fun a m b dk w h1 h2 h3 h4 h5 h6 => symMerge_any enc cf Rr K g cb eg blk off n cap d w0 hcmp R hn hsz (b - a + 1) a m b dk w (by omega) (by omega) h2 h3 h4 (by omega) h6.1 h6.2.1 h6.2.2
  have HST : Hid (Stood (ltOf cf) Rr 0 n d) := hS
  have S0 : Aside (SW enc w0 blk off d w) := S
  have n1 : n ≤ d.size := Nat.le_of_eq hn.symm
  have n2 : d.size ≤ n := Nat.le_of_eq hn
  clear S hcmp R K hS hn
  go_enter Tryd.func67, Tryd.ntmps67
  go_wp2
  go_loopg [7, 8] n (fun kx s7 s8 wr => ∃ (aN bN : Nat) (dk : Array α), s7 = .int .i64 aN ∧ s8 = .int .i64 bN ∧ bN ≤ aN + 20 ∧ aN + 20 ≤ bN ∧ aN ≤ n ∧ n - aN ≤ kx ∧ Hid (dk.size = n) ∧ Aside (SW enc w0 blk off dk wr) ∧ Hid (∀ i, aN ≤ i → dk[i]! = d[i]!) ∧ Hid (∃ k, aN = k * 20 ∧ Blkd (ltOf cf) Rr 20 (k * 20) n d dk))
  case atStart => exact ⟨0, 20, d, rfl, rfl, by omega, by omega, by omega, by omega, (show d.size = n by omega), S0, fun _ _ => rfl, ⟨0, rfl, Blkd.first HST.out⟩⟩
  case round =>
    clear S0
    obtain ⟨aN, bN, dk, rfl, rfl, hb1, hb2, han, hkx, HZ, S1, HSA, HB⟩ := hrel
    by_cases hlt : bN ≤ n
    · have hltz : (bN : Int) ≤ (n : Int) := by omega
      have rb : IntKind.i64.wrap ((bN : Int) + 20) = (bN : Int) + 20 := by rw [IntKind.wrap_i64]; omega
      have HSS : Hid (Stood (ltOf cf) Rr aN bN dk) := fun i j hi hij hj hl => by
        rw [HSA.out i hi, HSA.out j (by omega)] at hl ⊢
        exact HST.out i j (Nat.zero_le _) hij (by omega) hl
      go_wp2_with (go_at_call 83; refine (CI.out aN bN dk _ HZ.out S1.out (by omega) (by omega) HSS.out).mono ?_; rintro e w2 ⟨rfl, d2, hmg, hS2⟩)
      go_roundg (n - bN)
      case measure => omega
      case rel =>
        refine ⟨bN, bN + 20, d2, rfl, by go_num, by omega, by omega, by omega, Nat.le_refl _, (show d2.size = n by rw [hmg.1.1]; exact HZ.out), hS2, fun i hi => ?_, ?_⟩
        · rw [hmg.1.2.1 i (by omega)]
          exact HSA.out i (by omega)
        · obtain ⟨k, hk, hB⟩ := HB.out
          have e : bN = (k + 1) * 20 := by omega
          refine ⟨k + 1, e, ?_⟩
          rw [hk] at hmg
          have := hB.next (e := bN) (by omega) (by omega) n1 hmg
          rw [Nat.succ_mul]
          exact this
    · have hltz : ¬ (bN : Int) ≤ (n : Int) := by omega
      have HSS : Hid (Stood (ltOf cf) Rr aN n dk) := fun i j hi hij hj hl => by
        rw [HSA.out i hi, HSA.out j (by omega)] at hl ⊢
        exact HST.out i j (Nat.zero_le _) hij (by omega) hl
      go_wp2_with (go_at_call 83; refine (CI.out aN n dk _ HZ.out S1.out han (Nat.le_refl _) HSS.out).mono ?_; rintro e w2 ⟨rfl, d2, hmg, hS2⟩)
      have HB2 : Hid (Blkd (ltOf cf) Rr 20 n n d d2) := by
        obtain ⟨k, hk, hB⟩ := HB.out
        rw [hk] at hmg
        exact (hB.next (e := n) (by omega) (by omega) n1 hmg).wide (by omega)
      have HZ2 : Hid (d2.size = n) := (show d2.size = n by rw [hmg.1.1]; exact HZ.out)
      have S2 : Aside (SW enc w0 blk off d2 w2) := hS2
      clear CI HST HSA HB HSS hmg hS2 S1 HZ
      go_loopg [6] n (fun kx s6 wr => ∃ (B : Nat) (dk : Array α), s6 = .int .i64 B ∧ 0 < B ∧ B ≤ 2 * n + 20 ∧ n - B ≤ kx ∧ Hid (dk.size = n) ∧ Aside (SW enc w0 blk off dk wr) ∧ Hid (Blkd (ltOf cf) Rr B n n d dk))
      case atStart => exact ⟨20, d2, rfl, by omega, by omega, by omega, HZ2, S2, HB2⟩
      case round =>
        clear S2 HB2 HZ2
        obtain ⟨B, dk, rfl, hB0, hB1, hkx2, HZ, S1, HB⟩ := hrel
        by_cases hBn : B < n
        · have hBz : (B : Int) < (n : Int) := by omega
          have r2 : IntKind.i64.wrap (2 * (B : Int)) = 2 * (B : Int) := by rw [IntKind.wrap_i64]; omega
          go_wp2
          go_loopg [7, 8] n (fun kx s7 s8 wr => ∃ (aN bN : Nat) (dj : Array α), s7 = .int .i64 aN ∧ s8 = .int .i64 bN ∧ bN ≤ aN + 2 * B ∧ aN + 2 * B ≤ bN ∧ aN ≤ n ∧ n - aN ≤ kx ∧ Hid (dj.size = n) ∧ Aside (SW enc w0 blk off dj wr) ∧ Hid (∃ k, aN = k * (2 * B) ∧ Half (ltOf cf) Rr B k n d dj))
          case atStart => exact ⟨0, 2 * B, dk, rfl, by first | rfl | go_num, by omega, by omega, by omega, by omega, HZ, S1, ⟨0, by omega, HB.out.half⟩⟩
          case round =>
            clear S1 HZ HB
            obtain ⟨aN, bN, dj, rfl, rfl, hb3, hb4, han2, hkx3, HZ, S1, HH⟩ := hrel
            by_cases hlt2 : bN ≤ n
            · have hltz2 : (bN : Int) ≤ (n : Int) := by omega
              have ra : IntKind.i64.wrap ((aN : Int) + (B : Int)) = ((aN + B : Nat) : Int) := by rw [IntKind.wrap_i64]; omega
              have rb : IntKind.i64.wrap ((bN : Int) + 2 * (B : Int)) = (bN : Int) + 2 * (B : Int) := by rw [IntKind.wrap_i64]; omega
              have HA : Hid (Ris Rr aN (aN + B) dj ∧ Ris Rr (aN + B) bN dj ∧ Ahead (ltOf cf) Rr aN (aN + B) bN dj) := by
                obtain ⟨k, hk, hH⟩ := HH.out
                have := hH.asks (e := bN) (by omega) hB0 (by omega)
                rw [← hk] at this
                exact this
              go_wp2_with (go_at_call 84; refine (CM.out aN (aN + B) bN dj _ HZ.out S1.out (by omega) (by omega) hlt2 HA.out).mono ?_; rintro e w3 ⟨rfl, d3, hmg, hS3⟩)
              go_roundg (n - bN)
              case measure => omega
              case rel =>
                refine ⟨bN, bN + 2 * B, d3, rfl, by go_num, by omega, by omega, by omega, Nat.le_refl _, (show d3.size = n by rw [hmg.1.1]; exact HZ.out), hS3, ?_⟩
                obtain ⟨k, hk, hH⟩ := HH.out
                have e : bN = (k + 1) * (2 * B) := by rw [Nat.succ_mul]; omega
                refine ⟨k + 1, e, ?_⟩
                rw [hk] at hmg
                exact hH.next (e := bN) (by omega) n1 hmg
            · have hltz2 : ¬ (bN : Int) ≤ (n : Int) := by omega
              obtain ⟨mN, hmN⟩ : ∃ x, x = aN + B := ⟨_, rfl⟩
              have ra : IntKind.i64.wrap ((aN : Int) + (B : Int)) = (mN : Int) := by rw [IntKind.wrap_i64]; omega
              have m1 : mN ≤ aN + B := Nat.le_of_eq hmN
              have m2 : aN + B ≤ mN := Nat.le_of_eq hmN.symm
              have HMN : Hid (mN = aN + B) := hmN
              clear hmN
              have rB : IntKind.i64.wrap ((B : Int) * 2) = (B : Int) * 2 := by rw [IntKind.wrap_i64]; omega
              by_cases hmn : mN < n
              · have hmz : (mN : Int) < (n : Int) := by omega
                have HA : Hid (Ris Rr aN mN dj ∧ Ris Rr mN n dj ∧ Ahead (ltOf cf) Rr aN mN n dj) := by
                  obtain ⟨k, hk, hH⟩ := HH.out
                  have := hH.asks (e := n) (by omega) hB0 (by omega)
                  rw [← hk, ← HMN.out] at this
                  exact this
                go_wp2_with (go_at_call 84; refine (CM.out aN mN n dj _ HZ.out S1.out (by omega) hmn (Nat.le_refl _) HA.out).mono ?_; rintro e w3 ⟨rfl, d3, hmg, hS3⟩)
                go_roundg (n - 2 * B)
                case measure => omega
                case rel =>
                  refine ⟨2 * B, d3, by first | rfl | go_num | (congr 1; omega), by omega, by omega, Nat.le_refl _, (show d3.size = n by rw [hmg.1.1]; exact HZ.out), hS3, ?_⟩
                  obtain ⟨k, hk, hH⟩ := HH.out
                  rw [hk] at hmg
                  exact (hH.next (e := n) (by omega) n1 hmg).done (by rw [Nat.succ_mul]; omega)
              · have hmz : ¬ (mN : Int) < (n : Int) := by omega
                go_wp2_with fail
                go_roundg (n - 2 * B)
                case measure => omega
                case rel =>
                  refine ⟨2 * B, dj, by first | rfl | go_num | (congr 1; omega), by omega, by omega, Nat.le_refl _, HZ, S1, ?_⟩
                  obtain ⟨k, hk, hH⟩ := HH.out
                  exact hH.last hB0 (by omega)
        · have hBz : ¬ (B : Int) < (n : Int) := by omega
          go_wp2
          go_end0
          exact ⟨rfl, dk, HB.out.whole (by omega), S1.out⟩
end Go.Proofs.YtlhbbkohndggmaaDoor
/- Worlds of the sort; the walks of tree.rising's two functions that are handed to slices. -/
namespace Go.Proofs.YtlhbbkohndggmaaDoor
open Go.Shelf Go.RowKit Go.Lib Go.Sort
set_option maxRecDepth 100000
theorem heap_mapBlock (w : World) (blk j : Nat) (f : Array Value → Array Value) (h : j ≠ blk) : (mapBlock w blk f).heap[j]? = w.heap[j]? := by
  unfold mapBlock
  simp [Array.getElem?_modify, Ne.symm h]
section
variable {α : Type} [Inhabited α] {enc : α → Value} {w0 W : World} {blk off : Nat} {dk : Array α}
theorem heap_sortWorld (n j : Nat) (os : Array Obj) (h : j ≠ blk) (hj : j < w0.heap.size) : (sortWorld enc w0 blk off n dk os).heap[j]? = w0.heap[j]? := by
  unfold sortWorld
  show ((putRow enc (Sort.ahead w0 n) blk off dk).heap ++ os)[j]? = _
  rw [Array.getElem?_append_left (by rw [Go.Sort.size_putRow]; exact hj)]
  exact heap_mapBlock _ _ _ _ h
theorem sw_heap (h : SW enc w0 blk off dk W) (j : Nat) (hj : j ≠ blk) (hl : j < w0.heap.size) : W.heap[j]? = w0.heap[j]? := by
  obtain ⟨n, os, rfl⟩ := h
  exact heap_sortWorld n j os hj hl
theorem sw_bel {w : World} {B : Nat} (h : SW enc w0 blk off dk W) (hb : Below B w w0) (hB : B ≤ blk) (hs : B ≤ w0.heap.size) : Below B w W := by
  have hh := sw_heap h
  have hle := h.le
  obtain ⟨n, os, rfl⟩ := h
  refine ⟨hb.os, hb.tape, hb.output, Nat.le_trans hb.size hle, fun k hk => ?_⟩
  rw [hh k (by omega) (by omega)]
  exact hb.block k hk
theorem sw_set (h : SW enc w0 blk off dk W) (hblk : blk < w0.heap.size) (i : Nat) (x : α) (hi : i < dk.size) : SW enc w0 blk off (dk.setIfInBounds i x) (W.setCell ⟨blk, off + i, none⟩ (enc x)) := by
  obtain ⟨n, os, rfl⟩ := h
  refine ⟨n, os, ?_⟩
  unfold sortWorld
  rw [← putRow_grow enc (Sort.ahead w0 n) os blk off dk hblk, putRow_set enc _ blk off dk i x hi, putRow_grow enc (Sort.ahead w0 n) os blk off _ hblk]
end
theorem blk_heap {W W' : World} {g : Nat} {cs : List Value} {t : TypeId} (h : Blk W g cs t) (e : W'.heap[g]? = W.heap[g]?) : Blk W' g cs t := by
  unfold Blk at *
  rw [e]; exact h
theorem TreeC.heap {W W' : World} {g c : Nat} {rt ix vl : List (BitVec 8)} {p q : Value} (h : TreeC W g c rt ix vl p q) (e : W'.heap[g]? = W.heap[g]?) : TreeC W' g c rt ix vl p q := ⟨blk_heap h.blk e, h.l1, h.l2, h.l3⟩
abbrev cmpB (x y : List (BitVec 8)) : Int := Lib.compareBytes (x.map UInt8.ofBitVec) (y.map UInt8.ofBitVec)
theorem loadB (z : List (BitVec 8)) (b o : Nat) (w : World) (hz : z.length = 32) (hb : w.rangeAt b o (cb z)) : (Extern.Bytes.loadBytes ⟨b, o, none⟩ 32 .empty).run Tryd.prog w = .ok ⟨(z.map UInt8.ofBitVec).toArray⟩ w := by
  have hl := Lib.run_loadBytesX (P := Tryd.prog) w (z.map fun b => (b.toNat : Int)) ⟨b, o, none⟩ .empty (fun j v hj => by
    have hjl : j < z.length := by have := (List.getElem?_eq_some_iff.1 hj).1; simpa using this
    rw [Addr.add_mid, hb j _ (cb_get z j hjl)]
    rw [List.getElem?_map, List.getElem?_eq_getElem hjl] at hj
    simp only [Option.map_some, Option.some.injEq] at hj
    rw [← hj, List.getD_eq_getElem?_getD, List.getElem?_eq_getElem hjl, Option.getD_some])
  rw [List.length_map, hz, bytes_cb] at hl
  simpa using hl
theorem run_compareR (x y : List (BitVec 8)) (hx : x.length = 32) (hy : y.length = 32) (g h o p : Nat) {w : World} (h1 : w.rangeAt g o (cb x)) (h2 : w.rangeAt h p (cb y)) :
    (Extern.BytealgCompare.compare #[.slice (some ⟨g, o, none⟩) 32 32, .slice (some ⟨h, p, none⟩) 32 32]).run Tryd.prog w = .ok (.int .i64 (cmpB x y)) w := by
  change Sem.run Tryd.prog (do pure (goInt (Extern.BytealgCompare.cmp (← Extern.Bytes.bytesOf (.slice (some ⟨g, o, none⟩) 32 32)) (← Extern.Bytes.bytesOf (.slice (some ⟨h, p, none⟩) 32 32))))) w = _
  simp only [Extern.Bytes.bytesOf, Sem.run_bind, Sem.run_pure, loadB x g o w hx h1, loadB y h p w hy h2, Result.andThen]
  rw [Lib.cmp_eq]
  rfl
theorem slice_dig33 (g : Nat) (w : World) : (Instr.sliceAt 28 (.pointer (some ⟨g, 33, none⟩)) none none none).run Tryd.prog w = .ok (.slice (some ⟨g, 33, none⟩) 32 32) w := by kernel_rfl
set_option maxRecDepth 100000 in
theorem bCompareR_any (x y : List (BitVec 8)) (hx : x.length = 32) (hy : y.length = 32) (g h o p : Nat) (w : World) (h1 : w.rangeAt g o (cb x)) (h2 : w.rangeAt h p (cb y)) :
    Calls Tryd.prog 44 #[.slice (some ⟨g, o, none⟩) 32 32, .slice (some ⟨h, p, none⟩) 32 32] w fun e w' => e = .returned (.int .i64 (cmpB x y)) ∧ w' = w := by
  have hr := run_compareR x y hx hy g h o p h1 h2
  obtain ⟨c, HC⟩ : ∃ c, Hid (c = cmpB x y) := ⟨_, rfl⟩
  rw [← HC.out] at hr ⊢
  clear h1 h2
  go_enter Tryd.func44, Tryd.ntmps44
  go_wp2
  rw [run_callFunc_extern Tryd.func68 (by kernel_rfl) (by kernel_rfl) (by kernel_rfl) (e := Extern.BytealgCompare.compare) (by kernel_rfl), hr]
  simp only [Result.andThen]
  rw [Oper.upon_value]
  go_wp2
  go_ret
  exact ⟨rfl, rfl⟩
set_option maxRecDepth 100000 in
set_option maxHeartbeats 1000000 in
theorem trRising1_any (gx gy : Nat) (x y : List (BitVec 8)) (w : World) (hx : w.rangeAt gx 33 (cb x)) (hy : w.rangeAt gy 33 (cb y)) (h1 : x.length = 32) (h2 : y.length = 32) : Calls Tryd.prog 43 #[.pointer (some ⟨gx, 0, none⟩), .pointer (some ⟨gy, 0, none⟩)] w fun e w' => e = .returned (.int .i64 (cmpB x y)) ∧ w' = w.drew := by
  have HX : Hid (w.drew.rangeAt gx 33 (cb x)) := hx
  have HY : Hid (w.drew.rangeAt gy 33 (cb y)) := hy
  have H1 : Hid (x.length = 32) := h1
  have H2 : Hid (y.length = 32) := h2
  obtain ⟨c, HC⟩ : ∃ c, Hid (c = cmpB x y) := ⟨_, rfl⟩
  rw [← HC.out]
  clear hx hy h1 h2
  go_enter Tryd.func43, Tryd.ntmps43
  go_wp2_with fail
  refine wp_region_any (by kernel_rfl) ?_
  change wpAny _ _ _ _ _ _ _ (World.drew w)
  refine wpAny_take (i := 0) (v := .pointer (some ⟨gx, 0, none⟩)) rfl (by kernel_rfl) (by kernel_rfl) (by kernel_rfl) (fun _ _ _ h => h) (Or.inl ⟨by rfl, fun wx => by simp [go_sem]⟩) ?_
  simp only [Act.put, List.getElem_toArray, List.getElem_cons_zero, List.setIfInBounds_toArray, List.set_cons_zero, List.set_cons_succ]
  refine wpAny_take (i := 1) (v := .pointer (some ⟨gx, 0, none⟩)) rfl (by kernel_rfl) (by kernel_rfl) (by kernel_rfl) (fun _ _ _ h => h) (Or.inl ⟨by rfl, fun wx => by simp [go_sem]⟩) ?_
  simp only [Act.put, List.getElem_toArray, List.getElem_cons_succ, List.getElem_cons_zero, List.setIfInBounds_toArray, List.set_cons_zero, List.set_cons_succ]
  refine wpAny_take (i := 2) (v := .pointer (some ⟨gx, 33, none⟩)) rfl (by kernel_rfl) (by kernel_rfl) (by kernel_rfl) (fun _ _ _ h => h) (Or.inl ⟨by rfl, fun wx => by simp [go_sem]⟩) ?_
  simp only [Act.put, List.getElem_toArray, List.getElem_cons_succ, List.getElem_cons_zero, List.setIfInBounds_toArray, List.set_cons_zero, List.set_cons_succ]
  refine wpAny_take (i := 3) (v := .slice (some ⟨gx, 33, none⟩) 32 32) rfl (by kernel_rfl) (by kernel_rfl) (by kernel_rfl) (fun _ _ _ h => h) (Or.inl ⟨by rfl, fun wx => by simp [execOp, Act.eval, slice_dig33]⟩) ?_
  simp only [Act.put, List.getElem_toArray, List.getElem_cons_succ, List.getElem_cons_zero, List.setIfInBounds_toArray, List.set_cons_zero, List.set_cons_succ]
  refine wpAny_take (i := 4) (v := .pointer (some ⟨gy, 0, none⟩)) rfl (by kernel_rfl) (by kernel_rfl) (by kernel_rfl) (fun _ _ _ h => h) (Or.inl ⟨by rfl, fun wx => by simp [go_sem]⟩) ?_
  simp only [Act.put, List.getElem_toArray, List.getElem_cons_succ, List.getElem_cons_zero, List.setIfInBounds_toArray, List.set_cons_zero, List.set_cons_succ]
  refine wpAny_take (i := 5) (v := .pointer (some ⟨gy, 0, none⟩)) rfl (by kernel_rfl) (by kernel_rfl) (by kernel_rfl) (fun _ _ _ h => h) (Or.inl ⟨by rfl, fun wx => by simp [go_sem]⟩) ?_
  simp only [Act.put, List.getElem_toArray, List.getElem_cons_succ, List.getElem_cons_zero, List.setIfInBounds_toArray, List.set_cons_zero, List.set_cons_succ]
  refine wpAny_take (i := 6) (v := .pointer (some ⟨gy, 33, none⟩)) rfl (by kernel_rfl) (by kernel_rfl) (by kernel_rfl) (fun _ _ _ h => h) (Or.inl ⟨by rfl, fun wx => by simp [go_sem]⟩) ?_
  simp only [Act.put, List.getElem_toArray, List.getElem_cons_succ, List.getElem_cons_zero, List.setIfInBounds_toArray, List.set_cons_zero, List.set_cons_succ]
  refine wpAny_take (i := 7) (v := .slice (some ⟨gy, 33, none⟩) 32 32) rfl (by kernel_rfl) (by kernel_rfl) (by kernel_rfl) (fun _ _ _ h => h) (Or.inl ⟨by rfl, fun wx => by simp [execOp, Act.eval, slice_dig33]⟩) ?_
  simp only [Act.put, List.getElem_toArray, List.getElem_cons_succ, List.getElem_cons_zero, List.setIfInBounds_toArray, List.set_cons_zero, List.set_cons_succ]
  refine wpAny_enter 8 (by kernel_rfl) rfl (by rfl) (f := 44) (args := #[.slice (some ⟨gx, 33, none⟩) 32 32, .slice (some ⟨gy, 33, none⟩) 32 32]) (by simp [go_sem]) (bCompareR_any x y H1.out H2.out gx gy 33 33 _ HX.out HY.out) ?_
  rintro e wz ⟨rfl, hz⟩
  rw [hz, ← HC.out]; clear hz wz
  refine ⟨_, rfl, ?_⟩
  simp only [Act.put, List.getElem_toArray, List.getElem_cons_succ, List.getElem_cons_zero, List.setIfInBounds_toArray, List.set_cons_zero, List.set_cons_succ]
  refine wpAny_take (i := 9) (v := .int .i64 c) rfl (by kernel_rfl) (by kernel_rfl) (by kernel_rfl) (fun _ _ _ h => h) (Or.inl ⟨by rfl, fun wx => by simp [go_sem]⟩) ?_
  simp only [Act.put, List.getElem_toArray, List.getElem_cons_succ, List.getElem_cons_zero, List.setIfInBounds_toArray, List.set_cons_zero, List.set_cons_succ]
  refine wpAny_done (by kernel_rfl) ?_ _
  go_wp2_with fail
  go_ret
  exact ⟨rfl, rfl⟩
set_option maxRecDepth 100000 in
set_option maxHeartbeats 1000000 in
theorem trRising2_any (gx gy : Nat) (x y : List (BitVec 8)) (w : World) (hx : w.rangeAt gx 33 (cb x)) (hy : w.rangeAt gy 33 (cb y)) (h1 : x.length = 32) (h2 : y.length = 32) : Calls Tryd.prog 46 #[.pointer (some ⟨gx, 0, none⟩), .pointer (some ⟨gy, 0, none⟩)] w fun e w' => e = .returned (.bool (decide (x = y))) ∧ w' = w.drew := by
  have HX : Hid (∀ wx, Over w.drew wx → wx.rangeAt gx 33 (cb x)) := fun wx hw => rangeAt_below (w := w.drew) hx hw.out (rangeAt_lt hx h1)
  have HY : Hid (∀ wx, Over w.drew wx → wx.rangeAt gy 33 (cb y)) := fun wx hw => rangeAt_below (w := w.drew) hy hw.out (rangeAt_lt hy h2)
  have H1 : Hid (x.length = 32) := h1
  have H2 : Hid (y.length = 32) := h2
  have heq : ∀ wx : World, (Op.equalIn 10000 28 (.agg (cb x).toArray) (.agg (cb y).toArray)).run Tryd.prog wx = .ok (decide (x = y)) wx := fun wx => eq_dig x y h1 h2 wx
  clear hx hy h1 h2
  go_enter Tryd.func46, Tryd.ntmps46
  go_wp2_with fail
  refine wp_region_held_drew (S := Over w.drew) (by kernel_rfl) (Over.refl _) ?_
  intro hS
  refine wpAnyH_take (i := 0) (v := .pointer (some ⟨gx, 0, none⟩)) rfl (by kernel_rfl) (by kernel_rfl) (by kernel_rfl) (fun _ _ _ h => h) (Or.inl ⟨by rfl, fun wx hx => by simp [go_sem]⟩) hS ?_
  simp only [Act.put, List.getElem_toArray, List.getElem_cons_zero, List.setIfInBounds_toArray, List.set_cons_zero, List.set_cons_succ]
  refine wpAnyH_take (i := 1) (v := .pointer (some ⟨gx, 0, none⟩)) rfl (by kernel_rfl) (by kernel_rfl) (by kernel_rfl) (fun _ _ _ h => h) (Or.inl ⟨by rfl, fun wx hx => by simp [go_sem]⟩) hS ?_
  simp only [Act.put, List.getElem_toArray, List.getElem_cons_succ, List.getElem_cons_zero, List.setIfInBounds_toArray, List.set_cons_zero, List.set_cons_succ]
  refine wpAnyH_take (i := 2) (v := .pointer (some ⟨gx, 33, none⟩)) rfl (by kernel_rfl) (by kernel_rfl) (by kernel_rfl) (fun _ _ _ h => h) (Or.inl ⟨by rfl, fun wx hx => by simp [go_sem]⟩) hS ?_
  simp only [Act.put, List.getElem_toArray, List.getElem_cons_succ, List.getElem_cons_zero, List.setIfInBounds_toArray, List.set_cons_zero, List.set_cons_succ]
  refine wpAnyH_take (i := 3) (v := .agg (cb x).toArray) rfl (by kernel_rfl) (by kernel_rfl) (by kernel_rfl) (fun _ _ _ h => h) (Or.inl ⟨by rfl, fun wx hx => by exact load_run 28 _ rfl _ _ rfl (cb x) _ (HX.out wx hx) Tryd.underlying28 rfl (by rw [cb_len, H1.out]; exact info_digest)⟩) hS ?_
  simp only [Act.put, List.getElem_toArray, List.getElem_cons_succ, List.getElem_cons_zero, List.setIfInBounds_toArray, List.set_cons_zero, List.set_cons_succ]
  refine wpAnyH_take (i := 4) (v := .pointer (some ⟨gy, 0, none⟩)) rfl (by kernel_rfl) (by kernel_rfl) (by kernel_rfl) (fun _ _ _ h => h) (Or.inl ⟨by rfl, fun wx hx => by simp [go_sem]⟩) hS ?_
  simp only [Act.put, List.getElem_toArray, List.getElem_cons_succ, List.getElem_cons_zero, List.setIfInBounds_toArray, List.set_cons_zero, List.set_cons_succ]
  refine wpAnyH_take (i := 5) (v := .pointer (some ⟨gy, 0, none⟩)) rfl (by kernel_rfl) (by kernel_rfl) (by kernel_rfl) (fun _ _ _ h => h) (Or.inl ⟨by rfl, fun wx hx => by simp [go_sem]⟩) hS ?_
  simp only [Act.put, List.getElem_toArray, List.getElem_cons_succ, List.getElem_cons_zero, List.setIfInBounds_toArray, List.set_cons_zero, List.set_cons_succ]
  refine wpAnyH_take (i := 6) (v := .pointer (some ⟨gy, 33, none⟩)) rfl (by kernel_rfl) (by kernel_rfl) (by kernel_rfl) (fun _ _ _ h => h) (Or.inl ⟨by rfl, fun wx hx => by simp [go_sem]⟩) hS ?_
  simp only [Act.put, List.getElem_toArray, List.getElem_cons_succ, List.getElem_cons_zero, List.setIfInBounds_toArray, List.set_cons_zero, List.set_cons_succ]
  refine wpAnyH_take (i := 7) (v := .agg (cb y).toArray) rfl (by kernel_rfl) (by kernel_rfl) (by kernel_rfl) (fun _ _ _ h => h) (Or.inl ⟨by rfl, fun wx hx => by exact load_run 28 _ rfl _ _ rfl (cb y) _ (HY.out wx hx) Tryd.underlying28 rfl (by rw [cb_len, H2.out]; exact info_digest)⟩) hS ?_
  simp only [Act.put, List.getElem_toArray, List.getElem_cons_succ, List.getElem_cons_zero, List.setIfInBounds_toArray, List.set_cons_zero, List.set_cons_succ]
  refine wpAnyH_take (i := 8) (v := .bool (decide (x = y))) rfl (by kernel_rfl) (by kernel_rfl) (by kernel_rfl) (fun _ _ _ h => h) (Or.inl ⟨by rfl, fun wx hx => by simp [go_sem, heq]⟩) hS ?_
  simp only [Act.put, List.getElem_toArray, List.getElem_cons_succ, List.getElem_cons_zero, List.setIfInBounds_toArray, List.set_cons_zero, List.set_cons_succ]
  refine wpAnyH_take (i := 9) (v := .bool (decide (x = y))) rfl (by kernel_rfl) (by kernel_rfl) (by kernel_rfl) (fun _ _ _ h => h) (Or.inl ⟨by rfl, fun wx hx => by simp [go_sem]⟩) hS ?_
  simp only [Act.put, List.getElem_toArray, List.getElem_cons_succ, List.getElem_cons_zero, List.setIfInBounds_toArray, List.set_cons_zero, List.set_cons_succ]
  refine wpAnyH_done (by kernel_rfl) ?_ _
  go_wp2_with fail
  go_ret
  exact ⟨rfl, rfl⟩
end Go.Proofs.YtlhbbkohndggmaaDoor
/- The walk of slices.CompactFunc at trees: of equals that stand one behind the other the first. -/
namespace Go.Proofs.YtlhbbkohndggmaaDoor
open Go.Shelf Go.RowKit Go.Lib Go.Sort
set_option maxRecDepth 100000
variable {α : Type} [Inhabited α]
/-- what is asked of eq, in the worlds of a row -/
def EqLays (g : Nat) (cb : Array Value) (enc : α → Value) (eqf : α → α → Bool) (blk off size : Nat) (w : World) : Prop :=
  ∀ (m : Nat) (os : Array Obj) (dk : Array α), dk.size = size → ∀ x y : α,
    Calls Tryd.prog g (#[enc x, enc y] ++ cb) (sortWorld enc w blk off m dk os) fun e w' => e = .returned (.bool (eqf x y)) ∧ ∃ q os', w' = grow ((sortWorld enc w blk off m dk os).drewN q) os'
theorem swEq {enc : α → Value} {w0 W : World} {blk off : Nat} {dk : Array α} {g : Nat} {cb : Array Value} {eqf : α → α → Bool} {size : Nat} (h : SW enc w0 blk off dk W) (hC : EqLays g cb enc eqf blk off size w0) (hs : dk.size = size) (x y : α) (n : Nat) (os : Array Obj) :
    Calls Tryd.prog g (#[enc x, enc y] ++ cb) (grow (W.drewN n) os) fun e w' => e = .returned (.bool (eqf x y)) ∧ ∃ q os', w' = grow ((grow (W.drewN n) os).drewN q) os' := by
  obtain ⟨m, os0, hw⟩ := h.grown n os
  rw [hw]
  exact hC m os0 dk hs x y
/-- place k is not like the one ahead of it -/
def keptB (eqf : α → α → Bool) (d : Array α) (k : Nat) : Bool := k == 0 || !eqf d[k]! d[k - 1]!
def keptL (eqf : α → α → Bool) (d : Array α) (n : Nat) : List α := ((List.range n).filter (keptB eqf d)).map fun k => d[k]!
theorem keptL_succ (eqf : α → α → Bool) (d : Array α) (n : Nat) : keptL eqf d (n + 1) = keptL eqf d n ++ (if keptB eqf d n then [d[n]!] else []) := by
  unfold keptL
  rw [List.range_succ, List.filter_append, List.map_append]
  congr 1
  rw [List.filter_cons]
  split <;> simp
theorem keptL_le (eqf : α → α → Bool) (d : Array α) (n : Nat) : (keptL eqf d n).length ≤ n := by
  unfold keptL
  rw [List.length_map]
  exact Nat.le_trans (List.length_filter_le _ _) (by simp)
theorem keptL_all (eqf : α → α → Bool) (d : Array α) (n : Nat) (hn : n ≤ d.size) (h : ∀ k, 1 ≤ k → k < n → eqf d[k]! d[k - 1]! = false) : keptL eqf d n = d.toList.take n := by
  induction n with
  | zero => simp [keptL]
  | succ n ih =>
    rw [keptL_succ, ih (by omega) (fun k h1 h2 => h k h1 (by omega)), List.take_add_one]
    congr 1
    have hk : keptB eqf d n = true := by
      unfold keptB
      by_cases e : n = 0
      · simp [e]
      · rw [h n (by omega) (by omega)]; simp
    rw [if_pos hk, Array.getElem?_toList, Array.getElem?_eq_getElem (by omega), getElem!_pos d n (by omega)]
    rfl
/-- in the midst: the places below kk hold what is kept of those below i; from i - 1 on all is as it was -/
structure Cpt (eqf : α → α → Bool) (d : Array α) (i kk : Nat) (dk : Array α) : Prop where
  size : dk.size = d.size
  take : dk.toList.take kk = keptL eqf d i
  len : kk = (keptL eqf d i).length
  lt : kk < i
  same : ∀ k, i ≤ k + 1 → dk[k]! = d[k]!
theorem Cpt.skip {eqf : α → α → Bool} {d dk : Array α} {i kk : Nat} (h : Cpt eqf d i kk dk) (h0 : 0 < i) (he : eqf d[i]! d[i - 1]! = true) : Cpt eqf d (i + 1) kk dk := by
  have hk : keptB eqf d i = false := by unfold keptB; rw [he]; simp; omega
  have e : keptL eqf d (i + 1) = keptL eqf d i := by rw [keptL_succ, hk]; simp
  exact ⟨h.size, by rw [e]; exact h.take, by rw [e]; exact h.len, by have := h.lt; omega, fun k hk => h.same k (by omega)⟩
theorem Cpt.keep {eqf : α → α → Bool} {d dk : Array α} {i kk : Nat} (h : Cpt eqf d i kk dk) (hi : i < d.size) (he : eqf d[i]! d[i - 1]! = false) : Cpt eqf d (i + 1) (kk + 1) (dk.setIfInBounds kk d[i]!) := by
  have hz := h.size
  have hl := h.lt
  have hk : keptB eqf d i = true := by unfold keptB; rw [he]; simp
  have e : keptL eqf d (i + 1) = keptL eqf d i ++ [d[i]!] := by rw [keptL_succ, hk]; simp
  refine ⟨by simpa using hz, ?_, by rw [e, List.length_append, ← h.len]; rfl, by omega, fun k hk => ?_⟩
  · rw [e, ← h.take, Array.toList_setIfInBounds, List.take_add_one, List.getElem?_set_self (by rw [Array.length_toList]; omega), List.take_set_of_le (Nat.le_refl _)]
    rfl
  · rw [getElem!_set_other _ _ _ _ (by omega), h.same k (by omega)]
/-- behind a compaction of the row -/
structure Cmpd (enc : α → Value) (eqf : α → α → Bool) (d : Array α) (blk off kk : Nat) (w0 W : World) : Prop where
  len : kk = (keptL eqf d d.size).length
  cell : ∀ j, j < kk → W.cell? ⟨blk, off + j, none⟩ = some (enc (keptL eqf d d.size)[j]!)
  heap : ∀ j, j ≠ blk → j < w0.heap.size → W.heap[j]? = w0.heap[j]?
  bel : ∀ (B : Nat) (w : World), Below B w w0 → B ≤ blk → B ≤ w0.heap.size → Below B w W
theorem cell_setCells (g j : Nat) : ∀ (vs : List Value) (o : Nat) (w : World), j < o → (w.setCells g o vs).cell? ⟨g, j, none⟩ = w.cell? ⟨g, j, none⟩
  | [], _, _, _ => rfl
  | v :: r, o, w, h => by
    rw [World.setCells, cell_setCells g j r (o + 1) _ (by omega), World.cell?_setCell_other _ _ _ _ (by intro e; simp only [Addr.mk.injEq] at e; omega)]
theorem take_get {dk : Array α} {kk : Nat} {l : List α} (h : dk.toList.take kk = l) (hk : kk ≤ dk.size) (j : Nat) (hj : j < kk) : dk[j]! = l[j]! := by
  rw [← h, getElem!_pos dk j (by omega), getElem!_pos _ j (by rw [List.length_take, Array.length_toList]; omega), List.getElem_take, Array.getElem_toList]
set_option maxHeartbeats 8000000 in
set_option maxRecDepth 1000000 in
theorem compact_any (enc : α → Value) (eqf : α → α → Bool) (g : Nat) (cb : Array Value) (eg : ∀ args w, (callFunc g args).run Tryd.prog w = .ok (.enter g args) w) (blk off L cap : Nat) (d : Array α) (w0 w : World) (hE : EqLays g cb enc eqf blk off d.size w0) (R : Row1 enc w0 blk off d) (hL : d.size = L) (S : SW enc w0 blk off d w) (h1 : 1 ≤ L) (hcap : L ≤ cap) (hsz : L < 1000000000) :
    Calls Tryd.prog 45 #[.slice (some ⟨blk, off, none⟩) L cap, .func (.func g) #[] cb] w fun e w' => ∃ kk, e = .returned (.slice (some ⟨blk, off, none⟩) kk cap) ∧ Cmpd enc eqf d blk off kk w0 w' := by
  have mixed : Tryd.prog.follows .mixedOrders = true := by kernel_rfl
  have hcl0 := R.hO.cells
  simp only [Value.cells] at hcl0
  have hst := R.hO.store Tryd.prog
  have HE : Aside _ := hE
  have S0 : Aside (SW enc w0 blk off d w) := S
  have l1 : d.size ≤ L := Nat.le_of_eq hL
  have l2 : L ≤ d.size := Nat.le_of_eq hL.symm
  have HL : Hid (d.size = L) := hL
  have HFULL : Hid (∀ W, SW enc w0 blk off d W → (∀ k, 1 ≤ k → k < L → eqf d[k]! d[k - 1]! = false) → Cmpd enc eqf d blk off L w0 W) := fun W hS hk => by
    have e : keptL eqf d d.size = d.toList := by rw [keptL_all eqf d d.size (Nat.le_refl _) (by rw [HL.out]; exact hk), ← Array.length_toList, List.take_length]
    refine ⟨by rw [e, Array.length_toList, HL.out], fun j hj => ?_, fun j h1 h2 => sw_heap hS j h1 h2, fun B w hb h1 h2 => sw_bel hS hb h1 h2⟩
    rw [hS.c1 R rfl j (by omega), e, getElem!_pos d j (by omega), getElem!_pos _ j (by rw [Array.length_toList]; omega), Array.getElem_toList]
  clear S hL hE
  go_enter Tryd.func45, Tryd.ntmps45
  by_cases hL2 : L < 2
  · have hz : (L : Int) < 2 := by omega
    have HF : Hid (Cmpd enc eqf d blk off L w0 w) := HFULL.out w S0.out (fun k a b => by omega)
    go_wp2
    go_ret
    exact ⟨L, rfl, HF.out⟩
  · have hz : ¬ (L : Int) < 2 := by omega
    go_wp2
    go_loopg [5] L (fun kx s5 wr => ∃ (k : Nat), s5 = .int .i64 k ∧ 1 ≤ k ∧ k ≤ L ∧ L - k ≤ kx ∧ Aside (SW enc w0 blk off d wr) ∧ Hid (∀ j, 1 ≤ j → j < k → eqf d[j]! d[j - 1]! = false))
    case atStart => exact ⟨1, rfl, by omega, by omega, by omega, S0, fun j h1 h2 => by omega⟩
    case round =>
      clear S0
      obtain ⟨k, rfl, hk1, hkL, hkx, S1, HA⟩ := hrel
      by_cases hlt : k < L
      · have hltz : (k : Int) < (L : Int) := by omega
        obtain ⟨kp, rfl⟩ : ∃ q, k = q + 1 := ⟨k - 1, by omega⟩
        have rk : IntKind.i64.wrap ((kp : Int) + 1 - 1) = (kp : Int) := by rw [IntKind.wrap_i64]; omega
        have hltz2 : (kp : Int) + 1 < (L : Int) := by omega
        cases hlv : eqf d[kp + 1]! d[kp]! with
        | false =>
          go_wp2_with fail
          obtain ⟨iNp, hiNp⟩ : ∃ q, q = kp + 1 := ⟨_, rfl⟩
          obtain ⟨jNp, hjNp⟩ : ∃ q, q = kp := ⟨_, rfl⟩
          have eap : ((kp : Int) + 1).toNat = iNp := by omega
          have pap : (0 : Int) ≤ (kp : Int) + 1 := by omega
          have bap : (kp : Int) + 1 < (L : Int) := by omega
          have rap : IntKind.i64.wrap ((kp : Int) + 1) = (kp : Int) + 1 := by rw [IntKind.wrap_i64]; omega
          have ecp : ((kp : Int)).toNat = jNp := by omega
          have pcp : (0 : Int) ≤ (kp : Int) := by omega
          have bcp : (kp : Int) < (L : Int) := by omega
          have rcp : IntKind.i64.wrap ((kp : Int)) = (kp : Int) := by rw [IntKind.wrap_i64]; omega
          obtain ⟨xp, hxp⟩ : ∃ x, x = d[kp + 1]! := ⟨_, rfl⟩
          obtain ⟨yp, hyp⟩ : ∃ x, x = d[kp]! := ⟨_, rfl⟩
          have lap := S1.out.cl R (by omega) (kp + 1) (by omega)
          have lbp := S1.out.cl R (by omega) (kp) (by omega)
          rw [← hxp, show off + (kp + 1) = off + iNp by omega] at lap
          rw [← hyp, show off + (kp) = off + jNp by omega] at lbp
          have hcp := swEq S1.out HE.out (by omega) xp yp
          rw [show eqf xp yp = false by rw [hxp, hyp]; exact hlv] at hcp
          clear hxp hyp hiNp hjNp
          go_quiet_grown (first | (go_at_fn g; refine Calls.grown_of (hcp _ _)))
          have S2 : Aside (SW enc w0 blk off d (grow (wr.drewN nq) osq)) := S1.out.grown nq osq
          clear lap lbp hcp S1
          generalize grow (wr.drewN nq) osq = wp at S2 ⊢
          clear nq osq
          clear eap ecp
          have rk2 : IntKind.i64.wrap ((kp : Int) + 1 + 1) = (kp : Int) + 1 + 1 := by rw [IntKind.wrap_i64]; omega
          go_wp2
          go_roundg (L - (kp + 1 + 1))
          case measure => omega
          case rel =>
            refine ⟨kp + 1 + 1, by go_num, by omega, by omega, Nat.le_refl _, S2, fun j h1 h2 => ?_⟩
            by_cases e : j = kp + 1
            · rw [e]; exact hlv
            · exact HA.out j h1 (by omega)
        | true =>
          go_wp2_with fail
          obtain ⟨iNp, hiNp⟩ : ∃ q, q = kp + 1 := ⟨_, rfl⟩
          obtain ⟨jNp, hjNp⟩ : ∃ q, q = kp := ⟨_, rfl⟩
          have eap : ((kp : Int) + 1).toNat = iNp := by omega
          have pap : (0 : Int) ≤ (kp : Int) + 1 := by omega
          have bap : (kp : Int) + 1 < (L : Int) := by omega
          have rap : IntKind.i64.wrap ((kp : Int) + 1) = (kp : Int) + 1 := by rw [IntKind.wrap_i64]; omega
          have ecp : ((kp : Int)).toNat = jNp := by omega
          have pcp : (0 : Int) ≤ (kp : Int) := by omega
          have bcp : (kp : Int) < (L : Int) := by omega
          have rcp : IntKind.i64.wrap ((kp : Int)) = (kp : Int) := by rw [IntKind.wrap_i64]; omega
          obtain ⟨xp, hxp⟩ : ∃ x, x = d[kp + 1]! := ⟨_, rfl⟩
          obtain ⟨yp, hyp⟩ : ∃ x, x = d[kp]! := ⟨_, rfl⟩
          have lap := S1.out.cl R (by omega) (kp + 1) (by omega)
          have lbp := S1.out.cl R (by omega) (kp) (by omega)
          rw [← hxp, show off + (kp + 1) = off + iNp by omega] at lap
          rw [← hyp, show off + (kp) = off + jNp by omega] at lbp
          have hcp := swEq S1.out HE.out (by omega) xp yp
          rw [show eqf xp yp = true by rw [hxp, hyp]; exact hlv] at hcp
          clear hxp hyp hiNp hjNp
          go_quiet_grown (first | (go_at_fn g; refine Calls.grown_of (hcp _ _)))
          have S2 : Aside (SW enc w0 blk off d (grow (wr.drewN nq) osq)) := S1.out.grown nq osq
          clear lap lbp hcp S1
          generalize grow (wr.drewN nq) osq = wp at S2 ⊢
          clear nq osq
          clear eap ecp
          obtain ⟨oK, hoK⟩ : ∃ q, q = off + (kp + 1) := ⟨_, rfl⟩
          obtain ⟨nK, hnK⟩ : ∃ q, q = L - (kp + 1) := ⟨_, rfl⟩
          obtain ⟨cK, hcK⟩ : ∃ q, q = cap - (kp + 1) := ⟨_, rfl⟩
          have hsh : ∀ w : World, (Instr.sliceAt 53 (.slice (some ⟨blk, off, none⟩) L cap) (some (.int .i64 ((kp : Int) + 1))) none none).run Tryd.prog w = .ok (.slice (some ⟨blk, oK, none⟩) nK cK) w := fun w => by
            have := slHi blk off L cap (kp + 1) (by omega) w
            rw [if_neg (by omega), ← hoK, ← hnK, ← hcK] at this
            exact this
          have o1 : oK ≤ off + (kp + 1) := Nat.le_of_eq hoK
          have o2 : off + (kp + 1) ≤ oK := Nat.le_of_eq hoK.symm
          have n1 : nK ≤ L - (kp + 1) := Nat.le_of_eq hnK
          have n2 : L - (kp + 1) ≤ nK := Nat.le_of_eq hnK.symm
          clear hoK hnK hcK
          have HC0 : Hid (Cpt eqf d (kp + 2) (kp + 1) d) := by
            have e1 : keptL eqf d (kp + 1) = d.toList.take (kp + 1) := keptL_all eqf d (kp + 1) (by omega) (fun j h1 h2 => HA.out j h1 h2)
            have e2 : keptL eqf d (kp + 2) = keptL eqf d (kp + 1) := by rw [keptL_succ]; simp [keptB, hlv]
            exact ⟨rfl, by rw [e2, e1], by rw [e2, e1, List.length_take, Array.length_toList]; omega, by omega, fun _ _ => rfl⟩
          clear hlv HA HFULL
          go_wp2_with fail
          go_loopg [5, 7] L (fun kx s5 s7 wr => ∃ (kk k2 : Nat) (dk : Array α), s5 = .int .i64 kk ∧ s7 = .int .i64 k2 ∧ 1 ≤ k2 ∧ k2 ≤ nK ∧ nK - k2 ≤ kx ∧ Aside (SW enc w0 blk off dk wr) ∧ Hid (Cpt eqf d (kp + 1 + k2) kk dk))
          case atStart => exact ⟨kp + 1, 1, d, by first | rfl | go_num, rfl, by omega, by omega, by omega, S2, HC0⟩
          case round =>
            clear S2 HC0 hsh
            obtain ⟨kk, k2, dk, rfl, rfl, hk21, hk22, hkx2, S3, HP⟩ := hrel
            have hdz : dk.size = d.size := HP.out.size
            have hkklt : kk < kp + 1 + k2 := HP.out.lt
            by_cases hlt2 : k2 < nK
            · have hltz3 : (k2 : Int) < (nK : Int) := by omega
              obtain ⟨kq, rfl⟩ : ∃ q, k2 = q + 1 := ⟨k2 - 1, by omega⟩
              have hltz4 : (kq : Int) + 1 < (nK : Int) := by omega
              have rq : IntKind.i64.wrap ((kq : Int) + 1 - 1) = (kq : Int) := by rw [IntKind.wrap_i64]; omega
              have rq2 : IntKind.i64.wrap ((kq : Int) + 1 + 1) = (kq : Int) + 1 + 1 := by rw [IntKind.wrap_i64]; omega
              have HS1 : Hid (dk[kp + 1 + (kq + 1)]! = d[kp + 1 + (kq + 1)]!) := HP.out.same _ (by omega)
              have HS2 : Hid (dk[kp + 1 + kq]! = d[kp + 1 + kq]!) := HP.out.same _ (by omega)
              cases hlw : eqf dk[kp + 1 + (kq + 1)]! dk[kp + 1 + kq]! with
              | true =>
                go_wp2_with fail
                obtain ⟨iNr, hiNr⟩ : ∃ q, q = kq + 1 := ⟨_, rfl⟩
                obtain ⟨jNr, hjNr⟩ : ∃ q, q = kq := ⟨_, rfl⟩
                have ear : ((kq : Int) + 1).toNat = iNr := by omega
                have par : (0 : Int) ≤ (kq : Int) + 1 := by omega
                have bar : (kq : Int) + 1 < (nK : Int) := by omega
                have rar : IntKind.i64.wrap ((kq : Int) + 1) = (kq : Int) + 1 := by rw [IntKind.wrap_i64]; omega
                have ecr : ((kq : Int)).toNat = jNr := by omega
                have pcr : (0 : Int) ≤ (kq : Int) := by omega
                have bcr : (kq : Int) < (nK : Int) := by omega
                have rcr : IntKind.i64.wrap ((kq : Int)) = (kq : Int) := by rw [IntKind.wrap_i64]; omega
                obtain ⟨xr, hxr⟩ : ∃ x, x = dk[kp + 1 + (kq + 1)]! := ⟨_, rfl⟩
                obtain ⟨yr, hyr⟩ : ∃ x, x = dk[kp + 1 + kq]! := ⟨_, rfl⟩
                have lar := S3.out.cl R (by omega) (kp + 1 + (kq + 1)) (by omega)
                have lbr := S3.out.cl R (by omega) (kp + 1 + kq) (by omega)
                rw [← hxr, show off + (kp + 1 + (kq + 1)) = oK + iNr by omega] at lar
                rw [← hyr, show off + (kp + 1 + kq) = oK + jNr by omega] at lbr
                have hcr := swEq S3.out HE.out (by omega) xr yr
                rw [show eqf xr yr = true by rw [hxr, hyr]; exact hlw] at hcr
                clear hxr hyr hiNr hjNr
                go_quiet_grown (first | (go_at_fn g; refine Calls.grown_of (hcr _ _)))
                have S4 : Aside (SW enc w0 blk off dk (grow (wr.drewN nq) osq)) := S3.out.grown nq osq
                clear lar lbr hcr S3
                generalize grow (wr.drewN nq) osq = wr at S4 ⊢
                clear nq osq
                clear ear ecr
                go_wp2
                go_roundg (nK - (kq + 1 + 1))
                case measure => omega
                case rel =>
                  refine ⟨kk, kq + 1 + 1, dk, rfl, by go_num, by omega, by omega, Nat.le_refl _, S4, ?_⟩
                  rw [HS1.out, HS2.out] at hlw
                  exact HP.out.skip (by omega) hlw
              | false =>
                go_wp2_with fail
                obtain ⟨iNr, hiNr⟩ : ∃ q, q = kq + 1 := ⟨_, rfl⟩
                obtain ⟨jNr, hjNr⟩ : ∃ q, q = kq := ⟨_, rfl⟩
                have ear : ((kq : Int) + 1).toNat = iNr := by omega
                have par : (0 : Int) ≤ (kq : Int) + 1 := by omega
                have bar : (kq : Int) + 1 < (nK : Int) := by omega
                have rar : IntKind.i64.wrap ((kq : Int) + 1) = (kq : Int) + 1 := by rw [IntKind.wrap_i64]; omega
                have ecr : ((kq : Int)).toNat = jNr := by omega
                have pcr : (0 : Int) ≤ (kq : Int) := by omega
                have bcr : (kq : Int) < (nK : Int) := by omega
                have rcr : IntKind.i64.wrap ((kq : Int)) = (kq : Int) := by rw [IntKind.wrap_i64]; omega
                obtain ⟨xr, hxr⟩ : ∃ x, x = dk[kp + 1 + (kq + 1)]! := ⟨_, rfl⟩
                obtain ⟨yr, hyr⟩ : ∃ x, x = dk[kp + 1 + kq]! := ⟨_, rfl⟩
                have lar := S3.out.cl R (by omega) (kp + 1 + (kq + 1)) (by omega)
                have lbr := S3.out.cl R (by omega) (kp + 1 + kq) (by omega)
                rw [← hxr, show off + (kp + 1 + (kq + 1)) = oK + iNr by omega] at lar
                rw [← hyr, show off + (kp + 1 + kq) = oK + jNr by omega] at lbr
                have hcr := swEq S3.out HE.out (by omega) xr yr
                rw [show eqf xr yr = false by rw [hxr, hyr]; exact hlw] at hcr
                clear hxr hyr hiNr hjNr
                go_quiet_grown (first | (go_at_fn g; refine Calls.grown_of (hcr _ _)))
                have S4 : Aside (SW enc w0 blk off dk (grow (wr.drewN nq) osq)) := S3.out.grown nq osq
                clear lar lbr hcr S3
                generalize grow (wr.drewN nq) osq = wr at S4 ⊢
                clear nq osq
                clear ear ecr
                obtain ⟨iN, hiN⟩ : ∃ q, q = kq + 1 := ⟨_, rfl⟩
                have ea : ((kq : Int) + 1).toNat = iN := by omega
                obtain ⟨u, hu⟩ : ∃ x, x = dk[kp + 1 + (kq + 1)]! := ⟨_, rfl⟩
                have c1 := S4.out.c1 R (by omega) (kp + 1 + (kq + 1)) (by omega)
                rw [← hu, show off + (kp + 1 + (kq + 1)) = oK + iN by omega] at c1
                have c2 := S4.out.c1 R (by omega) kk (by omega)
                have f2 := S4.out.f1 R (by omega) kk (by omega)
                have S5 : Aside (SW enc w0 blk off (dk.setIfInBounds kk u) (wr.setCell ⟨blk, off + kk, none⟩ (enc u))) := sw_set S4.out R.hblk kk u (by omega)
                have rkk : IntKind.i64.wrap ((kk : Int) + 1) = (kk : Int) + 1 := by rw [IntKind.wrap_i64]; omega
                have hkL : (kk : Int) < (L : Int) := by omega
                have hk0 : (0 : Int) ≤ (kk : Int) := by omega
                have ek : ((kk : Int)).toNat = kk := by omega
                have HU : Hid (u = dk[kp + 1 + (kq + 1)]!) := hu
                clear S4 hiN hu
                go_wp2_with fail
                clear c1 c2 f2 ea
                go_roundg (nK - (kq + 1 + 1))
                case measure => omega
                case rel =>
                  refine ⟨kk + 1, kq + 1 + 1, dk.setIfInBounds kk u, by go_num, by go_num, by omega, by omega, Nat.le_refl _, S5, ?_⟩
                  rw [HS1.out, HS2.out] at hlw
                  rw [HU.out, HS1.out]
                  exact HP.out.keep (by omega) hlw
            · have hltz3 : ¬ (k2 : Int) < (nK : Int) := by omega
              have ekk : kp + 1 + k2 = d.size := by omega
              have HP2 : Hid (Cpt eqf d d.size kk dk) := by have := HP.out; rw [ekk] at this; exact this
              clear HP
              obtain ⟨oF, hoF⟩ : ∃ q, q = off + kk := ⟨_, rfl⟩
              obtain ⟨nF, hnF⟩ : ∃ q, q = L - kk := ⟨_, rfl⟩
              obtain ⟨cF, hcF⟩ : ∃ q, q = cap - kk := ⟨_, rfl⟩
              have hsf : ∀ w : World, (Instr.sliceAt 53 (.slice (some ⟨blk, off, none⟩) L cap) (some (.int .i64 (kk : Int))) none none).run Tryd.prog w = .ok (.slice (some ⟨blk, oF, none⟩) nF cF) w := fun w => by
                have := slHi blk off L cap kk (by omega) w
                rw [if_neg (by omega), ← hoF, ← hnF, ← hcF] at this
                exact this
              have hsg := slLo blk off L cap kk (by omega)
              have hcl : ∀ ty, (Builtin.clear_ #[53] ty #[.slice (some ⟨blk, oF, none⟩) nF cF]).run Tryd.prog wr = .ok (.tuple #[]) (wr.setCells blk oF (List.replicate nF (.pointer none))) := fun ty =>
                Lib.run_clear_slice wr _ 25 ty (.pointer none) Tryd.underlying53 (fun w => by kernel_rfl) rfl rfl blk oF nF cF (by omega) (fun j hj => by rw [show oF + j = off + (kk + j) by omega, S3.out.c1 R (by omega) (kk + j) (by omega)]; rfl) (fun j hj => by rw [show oF + j = off + (kk + j) by omega]; exact S3.out.f1 R (by omega) (kk + j) (by omega))
              have HFI : Hid (Cmpd enc eqf d blk off kk w0 (wr.setCells blk oF (List.replicate nF (.pointer none)))) := by
                refine ⟨HP2.out.len, fun j hj => ?_, fun j h1 h2 => ?_, fun B w hb h1 h2 => Below.setCells _ h1 _ _ _ (sw_bel S3.out hb h1 h2)⟩
                · rw [cell_setCells _ _ _ _ _ (by omega), S3.out.c1 R (by omega) j (by omega), take_get HP2.out.take (by omega) j hj]
                · rw [At'.setCells _ _ wr (fun _ _ => rfl) j h1]
                  exact sw_heap S3.out j h1 h2
              clear S3 HP2 hoF hnF hcF
              go_wp2_with fail
              go_ret
              exact ⟨kk, rfl, HFI.out⟩
      · have hltz : ¬ (k : Int) < (L : Int) := by omega
        have e : k = L := by omega
        have HF : Hid (Cmpd enc eqf d blk off L w0 wr) := HFULL.out wr S1.out (by rw [← e]; exact HA.out)
        go_wp2
        go_ret
        exact ⟨L, rfl, HF.out⟩
end Go.Proofs.YtlhbbkohndggmaaDoor
/- Plain: leaves sorted by their indexes, the later ones ahead, the first of each index kept: the leaves as if put one behind the other. -/
namespace Go.Proofs.YtlhbbkohndggmaaDoor
open Go.Shelf Go.RowKit Go.Lib Go.Sort
set_option maxRecDepth 100000
variable {α : Type} (f : α → Nat × Lf)
/-- by rising indexes; of one index the later one ahead -/
def ordR (a b : α) : Prop := lessB (f a).2.1 (f b).2.1 = true ∨ ((f a).2.1 = (f b).2.1 ∧ (f b).1 < (f a).1)
def sameK (a b : α) : Bool := decide ((f a).2.1 = (f b).2.1)
def cmpF (a b : α) : Int := cmpB (f a).2.1 (f b).2.1
variable {f}
theorem ordR.trans {a b c : α} (h1 : ordR f a b) (h2 : ordR f b c) : ordR f a c := by
  rcases h1 with h1 | ⟨e1, h1⟩
  · rcases h2 with h2 | ⟨e2, h2⟩
    · exact Or.inl (lessB_trans _ _ _ h1 h2)
    · exact Or.inl (by rw [← e2]; exact h1)
  · rcases h2 with h2 | ⟨e2, h2⟩
    · exact Or.inl (by rw [e1]; exact h2)
    · exact Or.inr ⟨e1.trans e2, by omega⟩
theorem ltF_is (h32 : ∀ a, (f a).2.1.length = 32) (a b : α) : ltOf (cmpF f) a b = lessB (f a).2.1 (f b).2.1 := by
  unfold ltOf cmpF
  exact cmp_less _ _ (by rw [h32, h32])
theorem keep_ordR (h32 : ∀ a, (f a).2.1.length = 32) : Keep (ltOf (cmpF f)) (ordR f) :=
  ⟨fun _ _ _ => ordR.trans, fun a b h => Or.inl (by rw [← ltF_is h32]; exact h)⟩
theorem ordR.le {a b : α} (h : ordR f a b) : lessB (f b).2.1 (f a).2.1 = false := by
  rcases h with h | ⟨e, _⟩
  · exact less_asym h
  · rw [e]; exact lessB_self _
variable [Inhabited α]
/-- what stands as it was laid, the later ones ahead -/
theorem stood_ordR (h32 : ∀ a, (f a).2.1.length = 32) {n : Nat} {d : Array α} (h : ∀ i j, i < j → j < n → (f d[j]!).1 < (f d[i]!).1) : Stood (ltOf (cmpF f)) (ordR f) 0 n d := by
  intro i j _ hij hj hl
  rw [ltF_is h32] at hl
  by_cases e : (f d[i]!).2.1 = (f d[j]!).2.1
  · exact Or.inr ⟨e, h i j hij hj⟩
  · rcases less_total (h32 _) (h32 _) e with h1 | h1
    · exact Or.inl h1
    · rw [h1] at hl; cases hl
theorem mem_kept {eqf : α → α → Bool} {d : Array α} {n : Nat} {a : α} : a ∈ keptL eqf d n ↔ ∃ k, k < n ∧ keptB eqf d k = true ∧ d[k]! = a := by
  unfold keptL
  simp only [List.mem_map, List.mem_filter, List.mem_range]
  constructor
  · rintro ⟨k, ⟨h1, h2⟩, h3⟩; exact ⟨k, h1, h2, h3⟩
  · rintro ⟨k, h1, h2, h3⟩; exact ⟨k, ⟨h1, h2⟩, h3⟩
/-- of one index no later one -/
def Last (f : α → Nat × Lf) (d : Array α) (k : Nat) : Prop := ∀ j, j < d.size → (f d[j]!).2.1 = (f d[k]!).2.1 → (f d[j]!).1 ≤ (f d[k]!).1
theorem same_ahead (h32 : ∀ a, (f a).2.1.length = 32) {d : Array α} (h : Ris (ordR f) 0 d.size d) {j k : Nat} (hjk : j < k) (hk : k < d.size) (e : (f d[j]!).2.1 = (f d[k]!).2.1) : (f d[k]!).2.1 = (f d[k - 1]!).2.1 := by
  by_cases c : j = k - 1
  · rw [← c, e]
  · have h1 := (h j (k - 1) (Nat.zero_le _) (by omega) (by omega)).le
    have h2 := (h (k - 1) k (Nat.zero_le _) (by omega) hk).le
    by_cases e2 : (f d[k]!).2.1 = (f d[k - 1]!).2.1
    · exact e2
    · rcases less_total (h32 _) (h32 _) e2 with h3 | h3
      · rw [h3] at h2; cases h2
      · rw [e, h3] at h1; cases h1
theorem kept_last (h32 : ∀ a, (f a).2.1.length = 32) {d : Array α} (h : Ris (ordR f) 0 d.size d) {k : Nat} (hk : k < d.size) : keptB (sameK f) d k = true ↔ Last f d k := by
  unfold keptB
  constructor
  · intro hb j hj e
    rcases Nat.lt_trichotomy j k with c | c | c
    · have := same_ahead h32 h c hk e
      simp [sameK, this] at hb
      omega
    · rw [c]; exact Nat.le_refl _
    · rcases h k j (Nat.zero_le _) c hj with h1 | ⟨_, h1⟩
      · rw [← e, lessB_self] at h1; cases h1
      · omega
  · intro hl
    by_cases c : k = 0
    · simp [c]
    · have hne : (f d[k]!).2.1 ≠ (f d[k - 1]!).2.1 := fun e => by
        have h1 := hl (k - 1) (by omega) e.symm
        rcases h (k - 1) k (Nat.zero_le _) (by omega) hk with h2 | ⟨_, h2⟩
        · rw [e, lessB_self] at h2; cases h2
        · omega
      simp [sameK, hne]
theorem kept_up (h32 : ∀ a, (f a).2.1.length = 32) {d : Array α} (h : Ris (ordR f) 0 d.size d) : Up ((keptL (sameK f) d d.size).map fun a => (f a).2) := by
  unfold Up keptL
  rw [List.map_map, List.pairwise_map, List.pairwise_filter]
  have hr : (List.range d.size).Pairwise (· < ·) := List.pairwise_lt_range
  refine hr.imp_of_mem fun {i j} hi hj hij hki hkj => ?_
  have hj' := List.mem_range.1 hj
  rcases h i j (Nat.zero_le _) hij hj' with h1 | ⟨e, h1⟩
  · exact h1
  · have h2 := (kept_last h32 h hj').1 hkj i (by omega) e
    omega
/-- of leaves with rising blocks: those that stay -/
theorem mem_ofLb : ∀ (ps : List (Nat × Lf)), (ps.Pairwise fun p q => p.1 < q.1) → ∀ p : Lf, p ∈ ofL (ps.map (·.2)) ↔ ∃ g, (g, p) ∈ ps ∧ ∀ q ∈ ps, q.2.1 = p.1 → q.1 ≤ g := by
  intro ps
  induction hn : ps.length generalizing ps with
  | zero =>
    intro _ p
    have : ps = [] := List.length_eq_zero_iff.1 hn
    subst this
    simp [ofL]
  | succ n ih =>
    intro hp p
    obtain ⟨r, b, rfl⟩ : ∃ r b, ps = r ++ [b] := ⟨ps.dropLast, ps.getLast (by intro e; rw [e] at hn; simp at hn), (List.dropLast_concat_getLast _).symm⟩
    rw [List.pairwise_append] at hp
    obtain ⟨hp1, _, hp3⟩ := hp
    have hr := ih r (by rw [List.length_append] at hn; simpa using hn) hp1
    have e : ofL ((r ++ [b]).map (·.2)) = putL (ofL (r.map (·.2))) b.2.1 b.2.2 := by
      unfold ofL
      rw [List.map_append, List.foldl_append]
      rfl
    rw [e, mem_putL, hr]
    constructor
    · rintro (h | ⟨h1, g, h2, h3⟩)
      · refine ⟨b.1, by rw [h]; simp, fun q hq _ => ?_⟩
        rcases List.mem_append.1 hq with hq | hq
        · exact Nat.le_of_lt (hp3 q hq b (by simp))
        · rw [List.mem_singleton] at hq; rw [hq]; exact Nat.le_refl _
      · refine ⟨g, List.mem_append_left _ h2, fun q hq e => ?_⟩
        rcases List.mem_append.1 hq with hq | hq
        · exact h3 q hq e
        · rw [List.mem_singleton] at hq; rw [hq] at e; exact absurd e.symm h1
    · rintro ⟨g, h1, h2⟩
      rcases List.mem_append.1 h1 with h1 | h1
      · by_cases c : p.1 = b.2.1
        · have h3 := h2 b (by simp) c.symm
          have h4 := hp3 (g, p) h1 b (by simp)
          simp only at h4
          omega
        · exact Or.inr ⟨c, g, h1, fun q hq => h2 q (List.mem_append_left _ hq)⟩
      · rw [List.mem_singleton] at h1
        exact Or.inl (by rw [← h1])
/-- rising's leaves are those of a tree to which they were put one behind the other -/
theorem rising_is (h32 : ∀ a, (f a).2.1.length = 32) {d : Array α} (h : Ris (ordR f) 0 d.size d) {ps : List (Nat × Lf)} (hp : ps.Pairwise fun p q => p.1 < q.1) (hok : okLf (ps.map (·.2))) (hm : ∀ q, q ∈ ps ↔ ∃ k, k < d.size ∧ f d[k]! = q) : (keptL (sameK f) d d.size).map (fun a => (f a).2) = ofL (ps.map (·.2)) := by
  refine up_ext (kept_up h32 h) (ofL_good _ hok).2 fun p => ?_
  rw [mem_ofLb ps hp]
  simp only [List.mem_map, mem_kept]
  constructor
  · rintro ⟨a, ⟨k, hk, hb, rfl⟩, rfl⟩
    refine ⟨(f d[k]!).1, (hm _).2 ⟨k, hk, rfl⟩, fun q hq e => ?_⟩
    obtain ⟨j, hj, rfl⟩ := (hm q).1 hq
    exact (kept_last h32 h hk).1 hb j hj e
  · rintro ⟨g, h1, h2⟩
    obtain ⟨k, hk, e⟩ := (hm _).1 h1
    refine ⟨d[k]!, ⟨k, hk, (kept_last h32 h hk).2 fun j hj ej => ?_, rfl⟩, by rw [e]⟩
    rw [e] at ej ⊢
    exact h2 _ ((hm _).2 ⟨j, hj, rfl⟩) ej
end Go.Proofs.YtlhbbkohndggmaaDoor
/- The walk of slices.Reverse at trees. -/
namespace Go.Proofs.YtlhbbkohndggmaaDoor
open Go.Shelf Go.RowKit Go.Lib Go.Sort
set_option maxRecDepth 100000
variable {α : Type} [Inhabited α]
/-- the first i and the last i places are exchanged -/
structure Rvd (i : Nat) (d dk : Array α) : Prop where
  size : dk.size = d.size
  out : ∀ k, k < d.size → (k < i ∨ d.size ≤ k + i) → dk[k]! = d[d.size - 1 - k]!
  mid : ∀ k, i ≤ k → k + i < d.size → dk[k]! = d[k]!
theorem Rvd.step {i : Nat} {d dk : Array α} (h : Rvd i d dk) (hi : i < d.size - 1 - i) : Rvd (i + 1) d (swp dk i (d.size - 1 - i)) := by
  have hz := h.size
  refine ⟨by rw [size_swp]; exact hz, fun k hk hk2 => ?_, fun k hk hk2 => ?_⟩
  · by_cases e1 : k = i
    · rw [e1, swp_left _ _ _ (by omega) (by omega), h.mid _ (by omega) (by omega)]
    · by_cases e2 : k = d.size - 1 - i
      · rw [e2, swp_right _ _ _ (by omega), h.mid _ (by omega) (by omega)]
        congr 1; omega
      · rw [swp_other _ _ _ _ e1 e2, h.out k hk (by omega)]
  · rw [swp_other _ _ _ _ (by omega) (by omega), h.mid k (by omega) (by omega)]
theorem Rvd.done {i : Nat} {d dk : Array α} (h : Rvd i d dk) (hi : d.size ≤ i + i + 1) : dk.toList = d.toList.reverse := by
  apply List.ext_getElem
  · rw [Array.length_toList, List.length_reverse, Array.length_toList, h.size]
  · intro k h1 h2
    rw [Array.length_toList, h.size] at h1
    rw [List.getElem_reverse, Array.getElem_toList, Array.getElem_toList]
    have e : dk[k]! = d[d.size - 1 - k]! := by
      by_cases c : k < i ∨ d.size ≤ k + i
      · exact h.out k h1 c
      · rw [h.mid k (by omega) (by omega)]
        congr 1; omega
    rw [getElem!_pos dk k (by rw [h.size]; exact h1), getElem!_pos d _ (by omega)] at e
    rw [e]
    simp
set_option maxHeartbeats 4000000 in
set_option maxRecDepth 1000000 in
theorem reverse_any (enc : α → Value) (blk off L cap : Nat) (d : Array α) (w0 w : World) (R : Row1 enc w0 blk off d) (hL : d.size = L) (S : SW enc w0 blk off d w) (h1 : 1 ≤ L) (hsz : L < 1000000000) :
    Calls Tryd.prog 41 #[.slice (some ⟨blk, off, none⟩) L cap] w fun e w' => e = .returned (.tuple #[]) ∧ ∃ d', d'.toList = d.toList.reverse ∧ SW enc w0 blk off d' w' := by
  have mixed : Tryd.prog.follows .mixedOrders = true := by kernel_rfl
  have hcl0 := R.hO.cells
  simp only [Value.cells] at hcl0
  have hst := R.hO.store Tryd.prog
  have S0 : Aside (SW enc w0 blk off d w) := S
  have l1 : d.size ≤ L := Nat.le_of_eq hL
  have l2 : L ≤ d.size := Nat.le_of_eq hL.symm
  have HL : Hid (d.size = L) := hL
  clear S hL
  have r0 : IntKind.i64.wrap ((L : Int) - 1) = ((L - 1 : Nat) : Int) := by rw [IntKind.wrap_i64]; omega
  go_enter Tryd.func41, Tryd.ntmps41
  go_wp2
  clear r0
  go_loopg [2, 3] L (fun kx s2 s3 wr => ∃ (i j : Nat) (dk : Array α), s2 = .int .i64 i ∧ s3 = .int .i64 j ∧ j + i ≤ L - 1 ∧ L - 1 ≤ j + i ∧ L - i ≤ kx ∧ Aside (SW enc w0 blk off dk wr) ∧ Hid (Rvd i d dk))
  case atStart => exact ⟨0, L - 1, d, rfl, by first | rfl | go_num, by omega, by omega, by omega, S0, ⟨rfl, fun k hk h => by omega, fun k _ _ => rfl⟩⟩
  case round =>
    clear S0
    obtain ⟨i, j, dk, rfl, rfl, hij1, hij2, hkx, S1, HR⟩ := hrel
    by_cases hlt : i < j
    · have hltz : (i : Int) < (j : Int) := by omega
      have hsk : dk.size = d.size := HR.out.size
      go_wp2_with fail
      obtain ⟨iNq, hiNq⟩ : ∃ q, q = i := ⟨_, rfl⟩
      obtain ⟨jNq, hjNq⟩ : ∃ q, q = j := ⟨_, rfl⟩
      have eaq : ((i : Int)).toNat = iNq := by omega
      have paq : (0 : Int) ≤ (i : Int) := by omega
      have baq : (i : Int) < (L : Int) := by omega
      have raq : IntKind.i64.wrap ((i : Int)) = (i : Int) := by rw [IntKind.wrap_i64]; omega
      have ecq : ((j : Int)).toNat = jNq := by omega
      have pcq : (0 : Int) ≤ (j : Int) := by omega
      have bcq : (j : Int) < (L : Int) := by omega
      have rcq : IntKind.i64.wrap ((j : Int)) = (j : Int) := by rw [IntKind.wrap_i64]; omega
      obtain ⟨xq, hxq⟩ : ∃ x, x = dk[i]! := ⟨_, rfl⟩
      obtain ⟨yq, hyq⟩ : ∃ x, x = dk[j]! := ⟨_, rfl⟩
      have S2 : Aside (SW enc w0 blk off (swp dk (i) (j)) ((wr.setCell ⟨blk, off + iNq, none⟩ (enc yq)).setCell ⟨blk, off + jNq, none⟩ (enc xq)).drew) := by rw [hiNq, hjNq, hxq, hyq]; exact S1.out.swapped R (i) (j) (by omega) (by omega)
      have caq := S1.out.c1 R (by omega) (i) (by omega)
      have ccq := S1.out.c1 R (by omega) (j) (by omega)
      have faq := S1.out.f1 R (by omega) (i) (by omega)
      have fbq := S1.out.f1 R (by omega) (j) (by omega)
      obtain ⟨uq, cuq⟩ := S1.out.c2 R (by omega) (i) (j) (by omega) (by omega) (enc yq)
      rw [← hjNq, ← hiNq] at cuq
      rw [← hxq, ← hiNq] at caq
      rw [← hyq, ← hjNq] at ccq
      rw [← hiNq] at faq
      rw [← hjNq] at fbq
      clear S1 hxq hyq hiNq hjNq
      go_wp2_with fail
      go_big_region_o
      clear caq ccq cuq faq fbq
      generalize ((wr.setCell ⟨blk, off + iNq, none⟩ (enc yq)).setCell ⟨blk, off + jNq, none⟩ (enc xq)).drew = wq at S2 ⊢
      clear eaq ecq
      have rj : IntKind.i64.wrap ((j : Int) - 1) = ((j - 1 : Nat) : Int) := by rw [IntKind.wrap_i64]; omega
      go_wp2
      go_roundg (L - (i + 1))
      case measure => omega
      case rel =>
        refine ⟨i + 1, j - 1, swp dk i j, by go_num, by first | rfl | go_num, by omega, by omega, Nat.le_refl _, S2, ?_⟩
        have e : j = d.size - 1 - i := by omega
        have := HR.out.step (by omega)
        rw [← e] at this
        exact this
    · have hltz : ¬ (i : Int) < (j : Int) := by omega
      go_wp2
      go_end0
      exact ⟨rfl, dk, HR.out.done (by omega), S1.out⟩
end Go.Proofs.YtlhbbkohndggmaaDoor
/- A row of leaves, reversed, sorted, compacted (tree.rising behind its loop). -/
namespace Go.Proofs.YtlhbbkohndggmaaDoor
open Go.Shelf Go.RowKit Go.Lib Go.Sort
set_option maxRecDepth 100000
/-- a row of leaves in block B; ps: their blocks and what they hold -/
structure RowS (W : World) (B n cap : Nat) (ps : List (Nat × Lf)) : Prop where
  len : ps.length = n
  cap : n ≤ cap
  lt : B < W.heap.size
  cell : ∀ j, j < n → W.cell? ⟨B, j, none⟩ = some (ptr (ps.getD j default).1)
  free : ∀ j, j < n → W.frozen? ⟨B, j, none⟩ = false
  leaf : ∀ q ∈ ps, TreeC W q.1 1 (dig (pairB 76 q.2.1 q.2.2)) q.2.1 q.2.2 (.pointer none) (.pointer none)
  ne : ∀ q ∈ ps, q.1 ≠ B
  up : ps.Pairwise fun p q => p.1 < q.1
abbrev Ap (ps : List (Nat × Lf)) : Type := { q : Nat × Lf // q ∈ ps }
def encP (ps : List (Nat × Lf)) (a : Ap ps) : Value := ptr a.1.1
theorem oneP (ps : List (Nat × Lf)) : OneCell (encP ps) := fun _ => rfl
theorem inhP {ps : List (Nat × Lf)} (h : 0 < ps.length) : Nonempty (Inhabited (Ap ps)) := ⟨⟨⟨ps[0], List.getElem_mem h⟩⟩⟩
theorem len32P {W : World} {B n cap : Nat} {ps : List (Nat × Lf)} (h : RowS W B n cap ps) (a : Ap ps) : (a.1).2.1.length = 32 := (h.leaf a.1 a.2).l2
/-- the leaves lie as they lay -/
def Lies (W W' : World) (ps : List (Nat × Lf)) : Prop := ∀ q ∈ ps, W'.heap[q.1]? = W.heap[q.1]? ∧ q.1 < W'.heap.size
theorem RowS.index {W w1 : World} {B n cap : Nat} {ps : List (Nat × Lf)} (h : RowS W B n cap ps) (hl : Lies W w1 ps) (a : Ap ps) : w1.rangeAt a.1.1 33 (cb a.1.2.1) := ((h.leaf a.1 a.2).heap (hl a.1 a.2).1).index
section
variable {ps : List (Nat × Lf)} [Inhabited (Ap ps)]
theorem attach_get (k : Nat) (hk : k < ps.length) : (ps.attach.toArray[k]!).1 = ps.getD k default := by
  rw [getElem!_pos _ k (by simpa using hk), List.getD_eq_getElem?_getD, List.getElem?_eq_getElem hk, Option.getD_some]
  simp
theorem RowS.row1 {W : World} {B n cap : Nat} (h : RowS W B n cap ps) : Row1 (encP ps) W B 0 ps.attach.toArray := by
  refine ⟨oneP ps, fun j hj => ?_, h.lt⟩
  have hj' : j < ps.length := by simpa using hj
  rw [Nat.zero_add]
  refine ⟨?_, h.free j (by rw [← h.len]; exact hj')⟩
  rw [h.cell j (by rw [← h.len]; exact hj'), encP, attach_get j hj']
theorem row1_of_sw {w0 W : World} {B : Nat} {d0 d : Array (Ap ps)} (R : Row1 (encP ps) w0 B 0 d0) (S : SW (encP ps) w0 B 0 d W) (hs : d.size = d0.size) : Row1 (encP ps) W B 0 d := ⟨R.hO, S.holds R.hblk R.hH hs, S.lt R.hblk⟩
theorem lies_sw {W w0 w1 : World} {B : Nat} {d : Array (Ap ps)} (hl : Lies W w0 ps) (hne : ∀ q ∈ ps, q.1 ≠ B) (S : SW (encP ps) w0 B 0 d w1) : Lies W w1 ps := fun q hq =>
  ⟨(sw_heap S q.1 (hne q hq) (hl q hq).2).trans (hl q hq).1, Nat.lt_of_lt_of_le (hl q hq).2 S.le⟩
theorem RowS.cmp {W w1 : World} {B n cap : Nat} (h : RowS W B n cap ps) (hl : Lies W w1 ps) (size : Nat) : CmpLays1 Tryd.prog 43 #[] (encP ps) (cmpF Subtype.val) B 0 size w1 := by
  intro m os dk _ x y
  have hl2 : Lies W (sortWorld (encP ps) w1 B 0 m dk os) ps := lies_sw hl h.ne ⟨m, os, rfl⟩
  refine (trRising1_any x.1.1 y.1.1 x.1.2.1 y.1.2.1 _ (h.index hl2 x) (h.index hl2 y) (len32P h x) (len32P h y)).mono fun e w' hh => ⟨hh.1, 1, #[], ?_⟩
  rw [hh.2, grow_empty]; rfl
theorem RowS.eq {W w1 : World} {B n cap : Nat} (h : RowS W B n cap ps) (hl : Lies W w1 ps) (size : Nat) : EqLays 46 #[] (encP ps) (sameK Subtype.val) B 0 size w1 := by
  intro m os dk _ x y
  have hl2 : Lies W (sortWorld (encP ps) w1 B 0 m dk os) ps := lies_sw hl h.ne ⟨m, os, rfl⟩
  refine (trRising2_any x.1.1 y.1.1 x.1.2.1 y.1.2.1 _ (h.index hl2 x) (h.index hl2 y) (len32P h x) (len32P h y)).mono fun e w' hh => ⟨hh.1, 1, #[], ?_⟩
  rw [hh.2, grow_empty]; rfl
end
set_option maxHeartbeats 1000000 in
theorem sortStable_any {α : Type} [Inhabited α] (enc : α → Value) (cf : α → α → Int) (Rr : α → α → Prop) (K : Keep (ltOf cf) Rr) (g : Nat) (cb : Array Value) (eg : ∀ args w, (callFunc g args).run Tryd.prog w = .ok (.enter g args) w) (blk off n cap : Nat) (d : Array α) (w0 w : World) (hcmp : CmpLays1 Tryd.prog g cb enc cf blk off d.size w0) (R : Row1 enc w0 blk off d) (hn : d.size = n) (S : SW enc w0 blk off d w) (hsz : n < 1000000000) (hS : Stood (ltOf cf) Rr 0 n d) :
    Calls Tryd.prog 42 #[.slice (some ⟨blk, off, none⟩) n cap, .func (.func g) #[] cb] w fun e w' => e = .returned (.tuple #[]) ∧ ∃ d', Merged Rr 0 n d d' ∧ SW enc w0 blk off d' w' := by
  have HH : Hid (Calls Tryd.prog 67 #[.slice (some ⟨blk, off, none⟩) n cap, .int .i64 n, .func (.func g) #[] cb] w fun e w' => e = .returned (.tuple #[]) ∧ ∃ d', Merged Rr 0 n d d' ∧ SW enc w0 blk off d' w') := stable_any enc cf Rr K g cb eg blk off n cap d w0 w hcmp R hn S hsz hS
  clear hcmp R hn S hS K
  go_enter Tryd.func42, Tryd.ntmps42
  go_wp2_with (go_at_call 67; refine HH.out.mono ?_; rintro e w2 ⟨rfl, hd⟩)
  go_end0
  exact ⟨rfl, hd⟩
/-- the row behind Reverse -/
def Rv1 (W : World) (B n : Nat) (ps : List (Nat × Lf)) (w1 : World) : Prop := ∃ (_ : Inhabited (Ap ps)) (d1 : Array (Ap ps)), d1.toList = ps.attach.reverse ∧ d1.size = n ∧ Row1 (encP ps) w1 B 0 d1 ∧ SW (encP ps) W B 0 d1 w1
theorem row_reverse {W : World} {B n cap : Nat} {ps : List (Nat × Lf)} (h : RowS W B n cap ps) (h1 : 1 ≤ n) (hn : n < 1000000) : Calls Tryd.prog 41 #[.slice (some ⟨B, 0, none⟩) n cap] W fun e w' => e = .returned (.tuple #[]) ∧ Rv1 W B n ps w' := by
  obtain ⟨inh⟩ := inhP (ps := ps) (by rw [h.len]; omega)
  have hz : ps.attach.toArray.size = n := by simpa using h.len
  refine (reverse_any (encP ps) B 0 n cap ps.attach.toArray W W h.row1 hz (SW.start h.row1.hH) h1 (by omega)).mono ?_
  rintro e w' ⟨he, d', hd, hS⟩
  have hz2 : d'.size = n := by rw [← Array.length_toList, hd, List.length_reverse]; simpa using h.len
  exact ⟨he, inh, d', by simpa using hd, hz2, row1_of_sw h.row1 hS (by rw [hz2, hz]), hS⟩
/-- the row behind the sort -/
def Rv2 (W : World) (B n : Nat) (ps : List (Nat × Lf)) (w2 : World) : Prop := ∃ (_ : Inhabited (Ap ps)) (d2 : Array (Ap ps)), d2.toList.Perm ps.attach ∧ d2.size = n ∧ Row1 (encP ps) w2 B 0 d2 ∧ Lies W w2 ps ∧ Ris (ordR Subtype.val) 0 n d2 ∧ ∀ (C : Nat) (w : World), Below C w W → C ≤ B → C ≤ W.heap.size → Below C w w2
theorem row_sort {W w1 : World} {B n cap : Nat} {ps : List (Nat × Lf)} (h : RowS W B n cap ps) (hn : n < 1000000) (hr : Rv1 W B n ps w1) : Calls Tryd.prog 42 #[.slice (some ⟨B, 0, none⟩) n cap, .func (.func 43) #[] #[]] w1 fun e w' => e = .returned (.tuple #[]) ∧ Rv2 W B n ps w' := by
  obtain ⟨inh, d1, hd, hz, hR, hS⟩ := hr
  have hl0 : Lies W W ps := fun q hq => ⟨rfl, (h.leaf q hq).blk.lt⟩
  have hl : Lies W w1 ps := lies_sw hl0 h.ne hS
  have hst : Stood (ltOf (cmpF Subtype.val)) (ordR Subtype.val) 0 n d1 := by
    refine stood_ordR (len32P h) fun i j hij hj => ?_
    have e : ∀ k, k < n → (d1[k]!).1 = ps.getD (n - 1 - k) default := fun k hk => by
      rw [getElem!_pos d1 k (by omega), ← Array.getElem_toList]
      have hk2 : k < (ps.attach.reverse).length := by rw [List.length_reverse, List.length_attach, h.len]; exact hk
      have e2 : d1.toList[k]'(by rw [Array.length_toList]; omega) = (ps.attach.reverse)[k]'hk2 := by simp only [hd]
      rw [e2, List.getElem_reverse, List.getD_eq_getElem?_getD, List.getElem?_eq_getElem (by rw [h.len]; omega), Option.getD_some]
      simp [h.len]
    rw [e i (by omega), e j hj]
    have hp := List.pairwise_iff_getElem.1 h.up (n - 1 - j) (n - 1 - i) (by rw [h.len]; omega) (by rw [h.len]; omega) (by omega)
    rw [List.getD_eq_getElem?_getD, List.getD_eq_getElem?_getD, List.getElem?_eq_getElem (by rw [h.len]; omega), List.getElem?_eq_getElem (by rw [h.len]; omega)]
    exact hp
  refine (sortStable_any (encP ps) (cmpF Subtype.val) (ordR Subtype.val) (keep_ordR (len32P h)) 43 #[] (enters_of Tryd.func43 (by kernel_rfl) rfl) B 0 n cap d1 w1 w1 (h.cmp hl _) hR hz (SW.start hR.hH) (by omega) hst).mono ?_
  rintro e w' ⟨he, d2, hm, hS2⟩
  have hz2 : d2.size = n := by rw [hm.1.1, hz]
  have hp : d2.toList.Perm d1.toList := by
    have := hm.1.2.2
    have e1 : d2.extract 0 n = d2 := by rw [← hz2]; simp
    have e2 : d1.extract 0 n = d1 := by rw [← hz]; simp
    rwa [e1, e2] at this
  refine ⟨he, inh, d2, hp.trans (by rw [hd]; exact List.reverse_perm _), hz2, row1_of_sw hR hS2 (by rw [hz2, hz]), lies_sw hl h.ne hS2, hm.2, fun C w hb h1 h2 => ?_⟩
  exact sw_bel hS2 (sw_bel hS hb h1 h2) h1 (Nat.le_trans h2 hS.le)
/-- the row behind CompactFunc -/
theorem row_compact {W w2 : World} {B n cap : Nat} {ps : List (Nat × Lf)} (h : RowS W B n cap ps) (h1 : 1 ≤ n) (hn : n < 1000000) (hr : Rv2 W B n ps w2) : Calls Tryd.prog 45 #[.slice (some ⟨B, 0, none⟩) n cap, .func (.func 46) #[] #[]] w2 fun e w' => ∃ kk qs, e = .returned (.slice (some ⟨B, 0, none⟩) kk cap) ∧ qs.length = kk ∧ kk ≤ n ∧ LvRow w' B 0 qs ∧ qs.map (·.2) = ofL (ps.map (·.2)) ∧ ∀ (C : Nat) (w : World), Below C w W → C ≤ B → C ≤ W.heap.size → Below C w w' := by
  obtain ⟨inh, d2, hp, hz, hR, hl, hris, hbel⟩ := hr
  have hlw : W.heap.size ≤ w2.heap.size := (hbel 0 W (Below.refl _ _) (Nat.zero_le _) (Nat.zero_le _)).size
  refine (compact_any (encP ps) (sameK Subtype.val) 46 #[] (enters_of Tryd.func46 (by kernel_rfl) rfl) B 0 n cap d2 w2 w2 (h.eq hl _) hR hz (SW.start hR.hH) h1 h.cap (by omega)).mono ?_
  rintro e w' ⟨kk, he, hc⟩
  refine ⟨kk, (keptL (sameK Subtype.val) d2 d2.size).map Subtype.val, he, by rw [List.length_map, ← hc.len], by rw [hc.len]; exact Nat.le_trans (keptL_le _ _ _) (Nat.le_of_eq hz), ⟨fun k hk => ?_, fun q hq => ?_⟩, ?_, fun C w hb g1 g2 => hc.bel C w (hbel C w hb g1 g2) g1 (Nat.le_trans g2 hlw)⟩
  · rw [List.length_map, ← hc.len] at hk
    rw [hc.cell k hk, encP, List.getD_eq_getElem?_getD, List.getElem?_map, List.getElem?_eq_getElem (by rw [← hc.len]; exact hk), getElem!_pos _ k (by rw [← hc.len]; exact hk)]
    rfl
  · obtain ⟨a, _, rfl⟩ := List.mem_map.1 hq
    refine (h.leaf a.1 a.2).heap ?_
    rw [hc.heap a.1.1 (h.ne a.1 a.2) (hl a.1 a.2).2]
    exact (hl a.1 a.2).1
  · rw [List.map_map]
    refine rising_is (len32P h) (by rw [hz]; exact hris) h.up (fun p hp => ?_) fun q => ?_
    · obtain ⟨q, hq, rfl⟩ := List.mem_map.1 hp
      exact ⟨(h.leaf q hq).l2, (h.leaf q hq).l3⟩
    · constructor
      · intro hq
        have hm : (⟨q, hq⟩ : Ap ps) ∈ d2.toList := hp.mem_iff.2 (List.mem_attach _ _)
        obtain ⟨k, hk, e⟩ := List.getElem_of_mem hm
        rw [Array.length_toList] at hk
        refine ⟨k, hk, ?_⟩
        rw [getElem!_pos d2 k hk, ← Array.getElem_toList, e]
      · rintro ⟨k, _, rfl⟩
        exact (d2[k]!).2
end Go.Proofs.YtlhbbkohndggmaaDoor
/- The walk of tree.rising. -/
namespace Go.Proofs.YtlhbbkohndggmaaDoor
open Go.Shelf Go.RowKit Go.Lib Go.Sort
set_option maxRecDepth 100000
def ptrs (ps : List (Nat × Lf)) : List Value := ps.map fun q => ptr q.1
/-- where rising's loop stands: leaves that were made, and the slice of them -/
structure Rg (w : World) (gl : Nat) (v : Value) (ps : List (Nat × Lf)) (W : World) : Prop where
  own : W.ownsRow gl 25 1 v ps.length (ptrs ps)
  leaf : ∀ q ∈ ps, TreeC W q.1 1 (dig (pairB 76 q.2.1 q.2.2)) q.2.1 q.2.2 (.pointer none) (.pointer none)
  ne : ∀ q ∈ ps, v.ownBlock ≠ some q.1
  up : ps.Pairwise fun p q => p.1 < q.1
  bel : Below gl w W
  ge : gl ≤ W.heap.size
  nil : ps = [] → v = .slice none 0 0
theorem own_keep {w w' : World} {base n : Nat} {v : Value} {cs : List Value} (h : w.ownsRow base 25 1 v n cs) (hs : ∀ k, base ≤ k → k < w.heap.size → w'.heap[k]? = w.heap[k]?) : w'.ownsRow base 25 1 v n cs := by
  have hlt := World.ownsRow.lt h
  rcases h with ⟨h1, ⟨rfl, h2⟩ | ⟨g, cap, cur, rfl, hg, hh, h3⟩⟩
  · exact ⟨h1, Or.inl ⟨rfl, h2⟩⟩
  · exact ⟨h1, Or.inr ⟨g, cap, cur, rfl, hg, by rw [hs g hg (hlt g rfl).2]; exact hh, h3⟩⟩
theorem Rg.next {w W W' : World} {gl : Nat} {v : Value} {ps : List (Nat × Lf)} (h : Rg w gl v ps W) (hb : Below W.heap.size W W') : Rg w gl v ps W' :=
  ⟨own_keep h.own fun k _ hk => hb.block k hk, fun q hq => (h.leaf q hq).next hb, h.ne, h.up, h.bel.trans (hb.mono h.ge), Nat.le_trans h.ge hb.size, h.nil⟩
theorem own_slice {w : World} {base n : Nat} {v : Value} {cs : List Value} (h : w.ownsRow base 25 1 v n cs) : ∃ ad c, v = .slice ad n c := by
  rcases h with ⟨_, ⟨rfl, h2⟩ | ⟨g, cap, cur, rfl, _⟩⟩
  · exact ⟨none, 0, by rw [h2]⟩
  · exact ⟨_, _, rfl⟩
theorem Tryd.infop : (Tryd.prog.info? 25).map (fun i => (i.zero, i.size, i.bytes)) = some (some (.pointer none), 1, 8) := by kernel_rfl
/-- one leaf more behind the slice -/
theorem wp_appendP {o : Oper} {a : Act} {w w0 : World} {K : Act → World → Prop} {Q : Exit → Act → World → Prop} (s x : Operand) (gl : Nat) (v : Value) (ps : List (Nat × Lf)) (q : Nat × Lf) (g : Nat)
    (hR : Rg w0 gl v ps w) (hu : Blk w g [ptr q.1] 25) (hq : TreeC w q.1 1 (dig (pairB 76 q.2.1 q.2.2)) q.2.1 q.2.2 (.pointer none) (.pointer none)) (hup : ∀ p ∈ ps, p.1 < q.1) (hnew : ∀ j, v.ownBlock = some j → j < q.1) (hl : ps.length < 2000000)
    (ho : o.op = .call { callee := .builtin .append, args := #[s, x], argTypes := #[53, 53] }) (hs : a.eval s = v) (hx : a.eval x = .slice (some ⟨g, 0, none⟩) 1 1)
    (h : ∀ v' w', Rg w0 gl v' (ps ++ [q]) w' → K (a.put o.dst v') w') : o.wp Tryd.prog a w K Q := by
  obtain ⟨i0, hi, hz0, hz1, hz2⟩ := info_parts Tryd.infop
  have hown := hR.own
  obtain ⟨v', w', hr, h2, h3, h4, h5⟩ := run_append_own_at (P := Tryd.prog) w gl 53 o.type 25 i0 (.pointer none) 1 8 Tryd.underlying53 hi hz0 hz1 hz2 rfl (by decide) v ps.length (ptrs ps) hown ⟨g, 0, none⟩ 1 1 [ptr q.1] rfl (by intro j u hj; rw [Addr.add_mid, Nat.zero_add, hu.cell, hj]) (by intro u hu; rw [List.mem_singleton] at hu; rw [hu]; rfl) (by unfold maxLen; omega) (by omega) hR.ge
  unfold Oper.wp execOp
  simp only [ho, resolve, invoke, builtin, Sem.run_bind, Sem.run_pure, Result.andThen_ok, List.map_toArray, List.map_cons, List.map_nil, hs, hx, hr]
  have hlt := World.ownsRow.lt hown
  have other : ∀ k, v.ownBlock ≠ some k → k < w.heap.size → w'.heap[k]? = w.heap[k]? := fun k hk hl => h3.block k hl (fun e => hk e.symm)
  have hbel : Below gl w w' := (Below.refl _ _).grown h3 hR.ge (fun k hk => (hlt k hk).1)
  refine h v' w' ⟨?_, fun p hp => ?_, fun p hp => ?_, ?_, hR.bel.trans hbel, Nat.le_trans hR.ge hbel.size, fun e => by simp at e⟩
  · rw [List.length_append]
    have e : ptrs (ps ++ [q]) = ptrs ps ++ [ptr q.1] := by unfold ptrs; rw [List.map_append]; rfl
    rw [e]
    exact h2
  · rcases List.mem_append.1 hp with hp | hp
    · exact (hR.leaf p hp).heap (other _ (hR.ne p hp) (hR.leaf p hp).blk.lt)
    · rw [List.mem_singleton] at hp; subst hp
      exact hq.heap (other _ (fun e => by have := hnew _ e; omega) hq.blk.lt)
  · rcases h5 with e | e
    · rw [e]
      rcases List.mem_append.1 hp with hp | hp
      · exact hR.ne p hp
      · rw [List.mem_singleton] at hp; subst hp
        exact fun e => by have := hnew _ e; omega
    · rw [e]
      have hplt : p.1 < w.heap.size := by
        rcases List.mem_append.1 hp with hp | hp
        · exact (hR.leaf p hp).blk.lt
        · rw [List.mem_singleton] at hp; subst hp; exact hq.blk.lt
      exact fun e => by simp only [Option.some.injEq] at e; omega
  · rw [List.pairwise_append]
    exact ⟨hR.up, List.pairwise_singleton _ _, fun p hp r hr => by rw [List.mem_singleton] at hr; rw [hr]; exact hup p hp⟩
/-- behind the loop: a row, if there is a leaf -/
theorem Rg.row {w W : World} {gl n cap : Nat} {ad : Option Addr} {ps : List (Nat × Lf)} (h : Rg w gl (.slice ad n cap) ps W) (hn : ps.length = n) (h1 : 1 ≤ n) : ∃ B, ad = some ⟨B, 0, none⟩ ∧ gl ≤ B ∧ RowS W B n cap ps := by
  rcases h.own with ⟨e1, ⟨e2, e3⟩ | ⟨g, cp, cur, e2, hg, hh, hc, hm, hs, ht⟩⟩
  · omega
  · simp only [Value.slice.injEq] at e2
    obtain ⟨rfl, e4, rfl⟩ := e2
    have hlt := World.ownsRow.lt h.own
    refine ⟨g, rfl, hg, ⟨hn, by omega, (hlt g rfl).2, fun j hj => ?_, fun j _ => frozen_of_row W g j cur 25 hh, h.leaf, fun q hq e => h.ne q hq (by rw [e]; rfl), h.up⟩⟩
    rw [cell_of_row W g _ cur 25 (0, 0) hh]
    have h2 : (cur.toList.take (ps.length * 1))[j]? = (ptrs ps)[j]? := by rw [ht]
    rw [List.getElem?_take, if_pos (by omega)] at h2
    rw [← Array.getElem?_toList, h2]
    unfold ptrs
    rw [List.getElem?_map, List.getElem?_eq_getElem (by omega), List.getD_eq_getElem?_getD, List.getElem?_eq_getElem (by omega)]
    rfl
set_option maxHeartbeats 1000000 in
theorem reverse_none (w : World) : Calls Tryd.prog 41 #[.slice none 0 0] w fun e w' => e = .returned (.tuple #[]) ∧ w' = w := by
  go_enter Tryd.func41, Tryd.ntmps41
  go_wp2
  go_loopg [2, 3] 0 (fun _ s2 s3 wr => s2 = .int .i64 0 ∧ s3 = .int .i64 (-1) ∧ wr = w)
  case atStart => exact ⟨rfl, rfl, rfl⟩
  case round =>
    obtain ⟨rfl, rfl, rfl⟩ := hrel
    go_wp2
    go_end0
    exact ⟨rfl, rfl⟩
set_option maxHeartbeats 1000000 in
theorem insertion_none (g : Nat) (cb : Array Value) (w : World) : Calls Tryd.prog 83 #[.slice none 0 0, .int .i64 0, .int .i64 0, .func (.func g) #[] cb] w fun e w' => e = .returned (.tuple #[]) ∧ w' = w := by
  go_enter Tryd.func83, Tryd.ntmps83
  go_wp2
  go_loopg [8] 0 (fun _ s8 wr => s8 = .int .i64 1 ∧ wr = w)
  case atStart => exact ⟨rfl, rfl⟩
  case round =>
    obtain ⟨rfl, rfl⟩ := hrel
    go_wp2
    go_end0
    exact ⟨rfl, rfl⟩
set_option maxHeartbeats 1000000 in
theorem stable_none (g : Nat) (cb : Array Value) (w W0 : World) (hw : w = W0) : Calls Tryd.prog 67 #[.slice none 0 0, .int .i64 0, .func (.func g) #[] cb] w fun e w' => e = .returned (.tuple #[]) ∧ w' = W0 := by
  have HW : Hid (w = W0) := hw
  clear hw
  go_enter Tryd.func67, Tryd.ntmps67
  go_wp2
  go_loopg [7, 8] 0 (fun _ s7 s8 wr => s7 = .int .i64 0 ∧ s8 = .int .i64 20 ∧ Hid (wr = W0))
  case atStart => exact ⟨rfl, rfl, HW⟩
  case round =>
    clear HW
    obtain ⟨rfl, rfl, HW⟩ := hrel
    go_wp2_with (go_at_call 83; refine (insertion_none g cb _).mono ?_; rintro e w2 ⟨rfl, hq⟩; rw [hq]; clear hq w2)
    go_loopg [6] 0 (fun _ s6 wx => s6 = .int .i64 20 ∧ Hid (wx = W0))
    case atStart => exact ⟨rfl, HW⟩
    case round =>
      clear HW
      obtain ⟨rfl, HW⟩ := hrel
      go_wp2
      go_end0
      exact ⟨rfl, HW.out⟩
theorem sortStable_none (g : Nat) (cb : Array Value) (w : World) : Calls Tryd.prog 42 #[.slice none 0 0, .func (.func g) #[] cb] w fun e w' => e = .returned (.tuple #[]) ∧ w' = w := by
  go_enter Tryd.func42, Tryd.ntmps42
  go_wp2_with (go_at_call 67; refine (stable_none g cb _ _ rfl).mono ?_; rintro e w2 ⟨rfl, rfl⟩)
  go_end0
  exact ⟨rfl, rfl⟩
theorem compact_none (g : Nat) (cb : Array Value) (w : World) : Calls Tryd.prog 45 #[.slice none 0 0, .func (.func g) #[] cb] w fun e w' => e = .returned (.slice none 0 0) ∧ w' = w := by
  go_enter Tryd.func45, Tryd.ntmps45
  go_wp2
  go_ret
  exact ⟨rfl, rfl⟩
theorem buildP (f : Operand → Value) (o : Oper) (x : Operand) (ho : o.op = .buildSlice 53 1 #[(0, x)]) (g : Nat) (hx : f x = .pointer (some ⟨g, 0, none⟩)) (w : World) : (execOp f o).run Tryd.prog w = .ok (.value (.slice (some ⟨w.heap.size, 0, none⟩) 1 1)) (w.alloc (.cells [ptr g].toArray 25)) := by
  unfold execOp
  rw [ho]
  simp only [List.map_toArray, List.map_cons, List.map_nil, hx]
  kernel_rfl
set_option maxRecDepth 100000 in
set_option maxHeartbeats 8000000 in
theorem trRising_any (w : World) (vt vu : Value) (ds es : List (List (BitVec 8))) (hK : KOk w) (hA : ReadsD w vt ds) (hB : ReadsD w vu es) (hl : ds.length < 50000) :
    Calls Tryd.prog 22 #[vt, vu] w fun e w' => ∃ ad B n cap qs, e = .returned (.slice ad n cap) ∧ qs.length = n ∧ n ≤ cap ∧ (n = 0 ∨ ad = some ⟨B, 0, none⟩) ∧ n < 100000 ∧ LvRow w' B 0 qs ∧ qs.map (·.2) = ofL (ds.zip es) ∧ Below w.heap.size w w' := by
  have HK : Hid (KOk w) := hK
  have HRA : Hid (ReadsD w vt ds) := hA
  have HRB : Hid (ReadsD w vu es) := hB
  obtain ⟨na, HNA⟩ : ∃ n, Hid (n = ds.length) := ⟨_, rfl⟩
  obtain ⟨nb, HNB⟩ : ∃ n, Hid (n = es.length) := ⟨_, rfl⟩
  obtain ⟨ada, cpa, hva⟩ := hA.slice
  obtain ⟨adb, cpb, hvb⟩ := hB.slice
  rw [← HNA.out] at hva
  rw [← HNB.out] at hvb
  subst hva hvb
  obtain ⟨gl, HGL⟩ : ∃ g, Hid (g = w.heap.size) := ⟨_, rfl⟩
  obtain ⟨m, hm1, hm2, hm3⟩ : ∃ m, m ≤ na ∧ m ≤ nb ∧ (na ≤ m ∨ nb ≤ m) := ⟨min na nb, by omega, by omega, by omega⟩
  have hna : na < 50000 := by rw [HNA.out]; exact hl
  have HI : Hid (Rg w gl (.slice none 0 0) [] w) := by
    rw [HGL.out]
    exact ⟨World.ownsRow_nil _ _ _ _, fun q hq => by simp at hq, fun q hq => by simp at hq, List.Pairwise.nil, Below.refl _ _, Nat.le_refl _, fun _ => rfl⟩
  clear hK hA hB hl
  have emin : min (na : Int) (nb : Int) = (m : Int) := by omega
  go_enter Tryd.func22, Tryd.ntmps22
  go_wp2_with fail
  clear emin
  go_loopg [5, 12] m (fun kx s5 s12 wr => ∃ (k : Nat) (v : Value) (ps : List (Nat × Lf)), s5 = v ∧ s12 = .int .i64 (k : Int) ∧ k ≤ m ∧ m - k ≤ kx ∧ Hid (Rg w gl v ps wr) ∧ Hid (ps.map (·.2) = (ds.zip es).take k))
  case atStart => exact ⟨0, _, [], rfl, rfl, by omega, by omega, HI, rfl⟩
  case round =>
    clear HI
    obtain ⟨k, v, ps, rfl, rfl, hkm, hkx, HG, HP⟩ := hrel
    obtain ⟨nv, HNV⟩ : ∃ z : Nat, Hid (z = ps.length) := ⟨_, rfl⟩
    obtain ⟨adv, cpv, hvv⟩ := own_slice HG.out.own
    rw [← HNV.out] at hvv
    subst hvv
    have HKN : Hid (nv = k) := by
      have := congrArg List.length HP.out
      rw [List.length_map, ← HNV.out, List.length_take, List.length_zip, ← HNA.out, ← HNB.out] at this
      show _ = _
      omega
    by_cases hlt : k < m
    · have hltz : (k : Int) < (m : Int) := by omega
      have hkd : k < ds.length := by rw [← HNA.out]; omega
      have hke : k < es.length := by rw [← HNB.out]; omega
      obtain ⟨ba, offa, cpa', hva, hya⟩ := HRA.out.at (by omega)
      obtain ⟨bb, offb, cpb', hvb, hyb⟩ := HRB.out.at (by omega)
      simp only [Value.slice.injEq] at hva hvb
      obtain ⟨rfl, hq1, rfl⟩ := hva
      obtain ⟨rfl, hq2, rfl⟩ := hvb
      clear hq1 hq2
      obtain ⟨dx, HDX⟩ : ∃ d, Hid (d = ds.getD k []) := ⟨_, rfl⟩
      obtain ⟨dv, HDV⟩ : ∃ d, Hid (d = es.getD k []) := ⟨_, rfl⟩
      have HX32 : Hid (dx.length = 32) := by show _ = _; rw [HDX.out]; exact getD_mem32 HRA.out.2 hkd
      have HV32 : Hid (dv.length = 32) := by show _ = _; rw [HDV.out]; exact getD_mem32 HRB.out.2 hke
      have HXA : Hid (∀ wx, Below gl w wx → wx.rangeAt ba (offa + k * 32) (cb dx)) := fun wx hx => by
        have h := hya k hkd
        rw [← HDX.out] at h
        exact rangeAt_below h hx (by rw [HGL.out]; exact rangeAt_lt h HX32.out)
      have HXB : Hid (∀ wx, Below gl w wx → wx.rangeAt bb (offb + k * 32) (cb dv)) := fun wx hx => by
        have h := hyb k hke
        rw [← HDV.out] at h
        exact rangeAt_below h hx (by rw [HGL.out]; exact rangeAt_lt h HV32.out)
      have HZ : Hid ((ds.zip es).take (k + 1) = (ds.zip es).take k ++ [(dx, dv)]) := by show _ = _; rw [zip_take hkd hke, HDX.out, HDV.out]
      have HLL : Hid (ps.length < 2000000) := by show _ < _; have h1 := HNV.out; have h2 := HKN.out; omega
      clear hya hyb hkd hke HDX HDV
      have k0 : (0 : Int) ≤ (k : Int) := by omega
      have ka : (k : Int) < (na : Int) := by omega
      have kb : (k : Int) < (nb : Int) := by omega
      have rk : IntKind.i64.wrap ((k : Int) + 1) = (k : Int) + 1 := by rw [IntKind.wrap_i64]; omega
      go_upto_region 5 with fail
      refine wp_region_held_drew (S := Below gl w) (by kernel_rfl) (HG.out.next (Below.refl _ wr).drew).bel ?_
      intro hS
      have hI := HG.out.next (Below.refl _ wr).drew
      clear HG
      change wpAnyH _ _ _ _ _ _ _ _ (World.drew wr)
      generalize World.drew wr = y0 at *
      refine wpAnyH_take (i := 0) (v := .slice adv nv cpv) rfl (by kernel_rfl) (by kernel_rfl) (by kernel_rfl) (fun _ _ _ h => h) (Or.inl ⟨by rfl, fun wx hx => by simp [go_sem]⟩) hS ?_
      simp only [Act.put, List.getElem_toArray, List.getElem_cons_zero, List.setIfInBounds_toArray, List.set_cons_zero, List.set_cons_succ]
      refine wpAnyH_take (i := 1) (v := .slice (some ⟨ba, offa, none⟩) na cpa) rfl (by kernel_rfl) (by kernel_rfl) (by kernel_rfl) (fun _ _ _ h => h) (Or.inl ⟨by rfl, fun wx hx => by simp [go_sem]⟩) hS ?_
      simp only [Act.put, List.getElem_toArray, List.getElem_cons_succ, List.getElem_cons_zero, List.setIfInBounds_toArray, List.set_cons_zero, List.set_cons_succ]
      refine wpAnyH_take (i := 2) (v := .int .i64 (k : Int)) rfl (by kernel_rfl) (by kernel_rfl) (by kernel_rfl) (fun _ _ _ h => h) (Or.inl ⟨by rfl, fun wx hx => by simp [go_sem]⟩) hS ?_
      simp only [Act.put, List.getElem_toArray, List.getElem_cons_succ, List.getElem_cons_zero, List.setIfInBounds_toArray, List.set_cons_zero, List.set_cons_succ]
      refine wpAnyH_take (i := 3) (v := .pointer (some ⟨ba, offa + k * 32, none⟩)) rfl (by kernel_rfl) (by kernel_rfl) (by kernel_rfl) (fun _ _ _ h => h) (Or.inl ⟨by rfl, fun wx hx => by (simp [go_sem, ka, k0])⟩) hS ?_
      simp only [Act.put, List.getElem_toArray, List.getElem_cons_succ, List.getElem_cons_zero, List.setIfInBounds_toArray, List.set_cons_zero, List.set_cons_succ]
      refine wpAnyH_take (i := 4) (v := .agg (cb dx).toArray) rfl (by kernel_rfl) (by kernel_rfl) (by kernel_rfl) (fun _ _ _ h => h) (Or.inl ⟨by rfl, fun wx hx => by exact load_run 28 _ rfl _ _ rfl (cb dx) _ (HXA.out wx hx) Tryd.underlying28 rfl (by rw [cb_len, HX32.out]; exact info_digest)⟩) hS ?_
      simp only [Act.put, List.getElem_toArray, List.getElem_cons_succ, List.getElem_cons_zero, List.setIfInBounds_toArray, List.set_cons_zero, List.set_cons_succ]
      refine wpAnyH_take (i := 5) (v := .slice (some ⟨bb, offb, none⟩) nb cpb) rfl (by kernel_rfl) (by kernel_rfl) (by kernel_rfl) (fun _ _ _ h => h) (Or.inl ⟨by rfl, fun wx hx => by simp [go_sem]⟩) hS ?_
      simp only [Act.put, List.getElem_toArray, List.getElem_cons_succ, List.getElem_cons_zero, List.setIfInBounds_toArray, List.set_cons_zero, List.set_cons_succ]
      refine wpAnyH_take (i := 6) (v := .int .i64 (k : Int)) rfl (by kernel_rfl) (by kernel_rfl) (by kernel_rfl) (fun _ _ _ h => h) (Or.inl ⟨by rfl, fun wx hx => by simp [go_sem]⟩) hS ?_
      simp only [Act.put, List.getElem_toArray, List.getElem_cons_succ, List.getElem_cons_zero, List.setIfInBounds_toArray, List.set_cons_zero, List.set_cons_succ]
      refine wpAnyH_take (i := 7) (v := .pointer (some ⟨bb, offb + k * 32, none⟩)) rfl (by kernel_rfl) (by kernel_rfl) (by kernel_rfl) (fun _ _ _ h => h) (Or.inl ⟨by rfl, fun wx hx => by (simp [go_sem, kb, k0])⟩) hS ?_
      simp only [Act.put, List.getElem_toArray, List.getElem_cons_succ, List.getElem_cons_zero, List.setIfInBounds_toArray, List.set_cons_zero, List.set_cons_succ]
      refine wpAnyH_take (i := 8) (v := .agg (cb dv).toArray) rfl (by kernel_rfl) (by kernel_rfl) (by kernel_rfl) (fun _ _ _ h => h) (Or.inl ⟨by rfl, fun wx hx => by exact load_run 28 _ rfl _ _ rfl (cb dv) _ (HXB.out wx hx) Tryd.underlying28 rfl (by rw [cb_len, HV32.out]; exact info_digest)⟩) hS ?_
      simp only [Act.put, List.getElem_toArray, List.getElem_cons_succ, List.getElem_cons_zero, List.setIfInBounds_toArray, List.set_cons_zero, List.set_cons_succ]
      refine wpAnyH_enter 9 (by kernel_rfl) rfl (by rfl) (f := 35) (args := #[.agg (cb dx).toArray, .agg (cb dv).toArray]) (by simp [go_sem]) (trSingle_any dx dv HX32.out HV32.out _ (HK.out.below hI.bel (by rw [HGL.out]; exact HK.out.lt))) ?_
      rintro e y1 ⟨gN, rfl, hge, hcN, hbq⟩
      have hup : ∀ p ∈ ps, p.1 < gN := fun p hp => Nat.lt_of_lt_of_le (hI.leaf p hp).blk.lt hge
      have hnew : ∀ j, (Value.slice adv nv cpv).ownBlock = some j → j < gN := fun j hj => Nat.lt_of_lt_of_le (World.ownsRow.lt hI.own j hj).2 hge
      replace hI := hI.next hbq
      refine ⟨_, rfl, hI.bel, ?_⟩
      replace hS := hI.bel
      clear hbq hge
      simp only [Act.put, List.getElem_toArray, List.getElem_cons_succ, List.getElem_cons_zero, List.setIfInBounds_toArray, List.set_cons_zero, List.set_cons_succ]
      have hn1 := hI.next (below_alloc y1 (.cells [ptr gN].toArray 25))
      have hc1 := hcN.next (below_alloc y1 (.cells [ptr gN].toArray 25))
      have hu1 : Blk (y1.alloc (.cells [ptr gN].toArray 25)) y1.heap.size [ptr gN] 25 := Blk.new _ _ _
      refine wpAnyH_step 10 (.slice (some ⟨y1.heap.size, 0, none⟩) 1 1) (y1.alloc (.cells [ptr gN].toArray 25)) (by kernel_rfl) rfl (by rfl) (buildP _ _ _ rfl gN rfl _) hn1.bel ?_
      simp only [Act.put, List.getElem_toArray, List.getElem_cons_succ, List.getElem_cons_zero, List.setIfInBounds_toArray, List.set_cons_zero, List.set_cons_succ]
      refine wpAnyH_law 11 (by kernel_rfl) rfl (by rfl) (wp_appendP (.tmp 15) (.tmp 25) gl (.slice adv nv cpv) ps (gN, (dx, dv)) y1.heap.size hn1 hu1 hc1 hup hnew HLL.out rfl rfl rfl ?_)
      intro z9 q9 hJ
      refine ⟨hJ.bel, ?_⟩
      obtain ⟨a9, c9, hx9⟩ := own_slice hJ.own
      obtain ⟨n9, HN9⟩ : ∃ z : Nat, Hid (z = (ps ++ [(gN, (dx, dv))]).length) := ⟨_, rfl⟩
      rw [← HN9.out] at hx9
      subst hx9
      simp only [Act.put, List.getElem_toArray, List.getElem_cons_succ, List.getElem_cons_zero, List.setIfInBounds_toArray, List.set_cons_zero, List.set_cons_succ]
      refine wpAnyH_take (i := 12) (v := .slice a9 n9 c9) rfl (by kernel_rfl) (by kernel_rfl) (by kernel_rfl) (fun _ _ _ h => h) (Or.inl ⟨by rfl, fun wx hx => by simp [go_sem]⟩) hJ.bel ?_
      simp only [Act.put, List.getElem_toArray, List.getElem_cons_succ, List.getElem_cons_zero, List.setIfInBounds_toArray, List.set_cons_zero, List.set_cons_succ]
      refine wpAnyH_done (by kernel_rfl) ?_ _
      have HJ : Hid (Rg w gl (.slice a9 n9 c9) (ps ++ [(gN, (dx, dv))]) q9) := hJ
      clear hI hn1 hc1 hu1 hcN hup hnew hJ hS
      go_wp2_with fail
      go_roundg (m - (k + 1))
      case measure => omega
      case rel =>
        refine ⟨k + 1, _, ps ++ [(gN, (dx, dv))], rfl, by go_num, by omega, Nat.le_refl _, HJ, ?_⟩
        show _ = _
        rw [List.map_append, HP.out, HZ.out]
        rfl
    · have hltz : ¬ (k : Int) < (m : Int) := by omega
      have HPZ : Hid (ps.map (·.2) = ds.zip es) := by
        show _ = _
        rw [HP.out]
        refine List.take_of_length_le ?_
        rw [List.length_zip, ← HNA.out, ← HNB.out]
        omega
      have HBG : Hid (Below w.heap.size w wr) := by rw [← HGL.out]; exact HG.out.bel
      by_cases hz : nv = 0
      · subst hz
        have hps : ps = [] := List.length_eq_zero_iff.1 HNV.out.symm
        obtain ⟨e1, e2⟩ : adv = none ∧ cpv = 0 := by
          have e2 := HG.out.nil hps
          simp only [Value.slice.injEq] at e2
          exact ⟨e2.1, e2.2.2⟩
        subst e1 e2
        go_wp2_with (first
          | (go_at_call 41; refine (reverse_none _).mono ?_; rintro e w2 ⟨rfl, rfl⟩)
          | (go_at_call 42; refine (sortStable_none _ _ _).mono ?_; rintro e w2 ⟨rfl, rfl⟩)
          | (go_at_call 45; refine (compact_none _ _ _).mono ?_; rintro e w2 ⟨rfl, rfl⟩))
        go_ret
        exact ⟨none, 0, 0, 0, [], rfl, rfl, Nat.le_refl _, Or.inl rfl, by omega, ⟨fun k hk => absurd hk (Nat.not_lt_zero _), fun q hq => by simp at hq⟩, by rw [← HPZ.out, hps]; rfl, HBG.out⟩
      · obtain ⟨B, hB, hgB, hrow⟩ := HG.out.row HNV.out.symm (by omega)
        subst hB
        have HRW : Hid (RowS wr B nv cpv ps) := hrow
        have hnv : nv < 50000 := by have := HKN.out; omega
        have HGE : Hid (gl ≤ wr.heap.size) := HG.out.ge
        clear hrow HG
        go_wp2_with (first
          | (go_at_call 41; refine (row_reverse HRW.out (by omega) (by omega)).mono ?_; rintro e w2 ⟨rfl, hr1⟩
             have HR1 : Hid (Rv1 wr B nv ps w2) := hr1
             clear hr1)
          | (go_at_call 42; refine (row_sort HRW.out (by omega) HR1.out).mono ?_; rintro e w3 ⟨rfl, hr1⟩
             have HR2 : Hid (Rv2 wr B nv ps w3) := hr1
             clear hr1)
          | (go_at_call 45; refine (row_compact HRW.out (by omega) (by omega) HR2.out).mono ?_; rintro e w4 ⟨kk, qs, rfl, hq1, hq2, hq3, hq4, hq5⟩
             have HQ : Hid (qs.length = kk ∧ kk ≤ nv ∧ LvRow w4 B 0 qs ∧ qs.map (·.2) = ofL (ps.map (·.2)) ∧ ∀ (C : Nat) (w : World), Below C w wr → C ≤ B → C ≤ wr.heap.size → Below C w w4) := ⟨hq1, hq2, hq3, hq4, hq5⟩
             clear hq1 hq2 hq3 hq4 hq5))
        go_ret
        obtain ⟨q1, q2, q3, q4, q5⟩ := HQ.out
        exact ⟨_, B, kk, cpv, qs, rfl, q1, Nat.le_trans q2 HRW.out.cap, Or.inr rfl, by omega, q3, by rw [q4, HPZ.out], q5 _ _ HBG.out (by rw [← HGL.out]; exact hgB) (by rw [← HGL.out]; exact HGE.out)⟩
end Go.Proofs.YtlhbbkohndggmaaDoor
/- The walks of tree's with and Put. -/
namespace Go.Proofs.YtlhbbkohndggmaaDoor
open Go.RowKit
set_option maxRecDepth 100000
/-- the two trees a leaf is held against: t at g, with n leaves; the leaf at gl -/
structure Wt (w : World) (d g gl : Nat) (l : List Lf) (x v : List (BitVec 8)) : Prop where
  kok : KOk w
  tree : TreeIs w d g l
  leaf : TreeC w gl 1 (dig (pairB 76 x v)) x v (.pointer none) (.pointer none)
theorem Wt.next {w w' : World} {d g gl : Nat} {l : List Lf} {x v : List (BitVec 8)} (h : Wt w d g gl l x v) (hb : Below w.heap.size w w') : Wt w' d g gl l x v :=
  ⟨h.kok.below hb h.kok.lt, h.tree.next hb, h.leaf.next hb⟩
theorem Wt.cnt {w : World} {d g gl : Nat} {l : List Lf} {x v : List (BitVec 8)} (h : Wt w d g gl l x v) : w.cell? ⟨g, 0, none⟩ = some (.int .i64 (l.length : Int)) := by
  obtain ⟨ix, vl, p, q, hc⟩ := h.tree.cells
  exact hc.cnt
def WithDoes (d g gl : Nat) (l : List Lf) (x v : List (BitVec 8)) (w : World) : Prop := Calls Tryd.prog 34 #[.pointer (some ⟨g, 0, none⟩), .pointer (some ⟨gl, 0, none⟩), .int .i64 (d : Int)] w fun e w' => ∃ g', e = .returned (.pointer (some ⟨g', 0, none⟩)) ∧ TreeIs w' d g' (putL l x v) ∧ Below w.heap.size w w'
set_option maxRecDepth 100000 in
set_option maxHeartbeats 4000000 in
theorem trWith_nil (w : World) (d g gl : Nat) (l : List Lf) (x v : List (BitVec 8)) (hW : Wt w d g gl l x v) (hl : l = []) : WithDoes d g gl l x v w := by
  unfold WithDoes
  have HW : Hid (Wt w d g gl l x v) := hW
  have HLN : Hid (l.length = 0) := by show _ = _; rw [hl]; rfl
  subst hl
  have hS0 : Hid (∀ wx, Over w.drew wx → Below w.heap.size w wx) := fun wx hx => Over.after hx (Below.refl _ w).drew
  clear hW
  go_enter Tryd.func34, Tryd.ntmps34
  go_wp2_with fail
  refine wp_region_held_drew (S := Over w.drew) (by kernel_rfl) (Over.refl _) ?_
  intro hS
  refine wpAnyH_take (i := 0) (v := .pointer (some ⟨g, 0, none⟩)) rfl (by kernel_rfl) (by kernel_rfl) (by kernel_rfl) (fun _ _ _ h => h) (Or.inl ⟨by rfl, fun wx hx => by simp [go_sem]⟩) hS ?_
  simp only [Act.put, List.getElem_toArray, List.getElem_cons_zero, List.setIfInBounds_toArray, List.set_cons_zero, List.set_cons_succ]
  refine wpAnyH_take (i := 1) (v := .pointer (some ⟨g, 0, none⟩)) rfl (by kernel_rfl) (by kernel_rfl) (by kernel_rfl) (fun _ _ _ h => h) (Or.inl ⟨by rfl, fun wx hx => by simp [go_sem]⟩) hS ?_
  simp only [Act.put, List.getElem_toArray, List.getElem_cons_succ, List.getElem_cons_zero, List.setIfInBounds_toArray, List.set_cons_zero, List.set_cons_succ]
  refine wpAnyH_take (i := 2) (v := .pointer (some ⟨g, 0, none⟩)) rfl (by kernel_rfl) (by kernel_rfl) (by kernel_rfl) (fun _ _ _ h => h) (Or.inl ⟨by rfl, fun wx hx => by simp [go_sem]⟩) hS ?_
  simp only [Act.put, List.getElem_toArray, List.getElem_cons_succ, List.getElem_cons_zero, List.setIfInBounds_toArray, List.set_cons_zero, List.set_cons_succ]
  refine wpAnyH_take (i := 3) (v := .int .i64 0) rfl (by kernel_rfl) (by kernel_rfl) (by kernel_rfl) (fun _ _ _ h => h) (Or.inl ⟨by rfl, fun wx hx => by (have hc := (HW.out.next (hS0.out wx hx)).cnt; simp [go_sem, hc])⟩) hS ?_
  simp only [Act.put, List.getElem_toArray, List.getElem_cons_succ, List.getElem_cons_zero, List.setIfInBounds_toArray, List.set_cons_zero, List.set_cons_succ]
  refine wpAnyH_take (i := 4) (v := .bool true) rfl (by kernel_rfl) (by kernel_rfl) (by kernel_rfl) (fun _ _ _ h => h) (Or.inl ⟨by rfl, fun wx hx => by simp [go_sem]⟩) hS ?_
  simp only [Act.put, List.getElem_toArray, List.getElem_cons_succ, List.getElem_cons_zero, List.setIfInBounds_toArray, List.set_cons_zero, List.set_cons_succ]
  refine wpAnyH_take (i := 5) (v := .bool true) rfl (by kernel_rfl) (by kernel_rfl) (by kernel_rfl) (fun _ _ _ h => h) (Or.inl ⟨by rfl, fun wx hx => by simp [go_sem]⟩) hS ?_
  simp only [Act.put, List.getElem_toArray, List.getElem_cons_succ, List.getElem_cons_zero, List.setIfInBounds_toArray, List.set_cons_zero, List.set_cons_succ]
  refine wpAnyH_take (i := 6) (v := undef) rfl (by kernel_rfl) (by kernel_rfl) (by kernel_rfl) (fun _ _ _ h => h) (Or.inr ⟨by rfl, rfl⟩) hS ?_
  simp only [Act.put, List.getElem_toArray, List.getElem_cons_succ, List.getElem_cons_zero, List.setIfInBounds_toArray, List.set_cons_zero, List.set_cons_succ]
  refine wpAnyH_take (i := 7) (v := undef) rfl (by kernel_rfl) (by kernel_rfl) (by kernel_rfl) (fun _ _ _ h => h) (Or.inr ⟨by rfl, rfl⟩) hS ?_
  simp only [Act.put, List.getElem_toArray, List.getElem_cons_succ, List.getElem_cons_zero, List.setIfInBounds_toArray, List.set_cons_zero, List.set_cons_succ]
  refine wpAnyH_take (i := 8) (v := undef) rfl (by kernel_rfl) (by kernel_rfl) (by kernel_rfl) (fun _ _ _ h => h) (Or.inr ⟨by rfl, rfl⟩) hS ?_
  simp only [Act.put, List.getElem_toArray, List.getElem_cons_succ, List.getElem_cons_zero, List.setIfInBounds_toArray, List.set_cons_zero, List.set_cons_succ]
  refine wpAnyH_take (i := 9) (v := undef) rfl (by kernel_rfl) (by kernel_rfl) (by kernel_rfl) (fun _ _ _ h => h) (Or.inr ⟨by rfl, rfl⟩) hS ?_
  simp only [Act.put, List.getElem_toArray, List.getElem_cons_succ, List.getElem_cons_zero, List.setIfInBounds_toArray, List.set_cons_zero, List.set_cons_succ]
  refine wpAnyH_take (i := 10) (v := undef) rfl (by kernel_rfl) (by kernel_rfl) (by kernel_rfl) (fun _ _ _ h => h) (Or.inr ⟨by rfl, rfl⟩) hS ?_
  simp only [Act.put, List.getElem_toArray, List.getElem_cons_succ, List.getElem_cons_zero, List.setIfInBounds_toArray, List.set_cons_zero, List.set_cons_succ]
  refine wpAnyH_take (i := 11) (v := undef) rfl (by kernel_rfl) (by kernel_rfl) (by kernel_rfl) (fun _ _ _ h => h) (Or.inr ⟨by rfl, rfl⟩) hS ?_
  simp only [Act.put, List.getElem_toArray, List.getElem_cons_succ, List.getElem_cons_zero, List.setIfInBounds_toArray, List.set_cons_zero, List.set_cons_succ]
  refine wpAnyH_take (i := 12) (v := undef) rfl (by kernel_rfl) (by kernel_rfl) (by kernel_rfl) (fun _ _ _ h => h) (Or.inr ⟨by rfl, rfl⟩) hS ?_
  simp only [Act.put, List.getElem_toArray, List.getElem_cons_succ, List.getElem_cons_zero, List.setIfInBounds_toArray, List.set_cons_zero, List.set_cons_succ]
  refine wpAnyH_take (i := 13) (v := undef) rfl (by kernel_rfl) (by kernel_rfl) (by kernel_rfl) (fun _ _ _ h => h) (Or.inr ⟨by rfl, rfl⟩) hS ?_
  simp only [Act.put, List.getElem_toArray, List.getElem_cons_succ, List.getElem_cons_zero, List.setIfInBounds_toArray, List.set_cons_zero, List.set_cons_succ]
  refine wpAnyH_take (i := 14) (v := undef) rfl (by kernel_rfl) (by kernel_rfl) (by kernel_rfl) (fun _ _ _ h => h) (Or.inr ⟨by rfl, rfl⟩) hS ?_
  simp only [Act.put, List.getElem_toArray, List.getElem_cons_succ, List.getElem_cons_zero, List.setIfInBounds_toArray, List.set_cons_zero, List.set_cons_succ]
  refine wpAnyH_take (i := 15) (v := undef) rfl (by kernel_rfl) (by kernel_rfl) (by kernel_rfl) (fun _ _ _ h => h) (Or.inr ⟨by rfl, rfl⟩) hS ?_
  simp only [Act.put, List.getElem_toArray, List.getElem_cons_succ, List.getElem_cons_zero, List.setIfInBounds_toArray, List.set_cons_zero, List.set_cons_succ]
  refine wpAnyH_take (i := 16) (v := undef) rfl (by kernel_rfl) (by kernel_rfl) (by kernel_rfl) (fun _ _ _ h => h) (Or.inr ⟨by rfl, rfl⟩) hS ?_
  simp only [Act.put, List.getElem_toArray, List.getElem_cons_succ, List.getElem_cons_zero, List.setIfInBounds_toArray, List.set_cons_zero, List.set_cons_succ]
  refine wpAnyH_take (i := 17) (v := undef) rfl (by kernel_rfl) (by kernel_rfl) (by kernel_rfl) (fun _ _ _ h => h) (Or.inr ⟨by rfl, rfl⟩) hS ?_
  simp only [Act.put, List.getElem_toArray, List.getElem_cons_succ, List.getElem_cons_zero, List.setIfInBounds_toArray, List.set_cons_zero, List.set_cons_succ]
  refine wpAnyH_take (i := 18) (v := undef) rfl (by kernel_rfl) (by kernel_rfl) (by kernel_rfl) (fun _ _ _ h => h) (Or.inr ⟨by rfl, rfl⟩) hS ?_
  simp only [Act.put, List.getElem_toArray, List.getElem_cons_succ, List.getElem_cons_zero, List.setIfInBounds_toArray, List.set_cons_zero, List.set_cons_succ]
  refine wpAnyH_take (i := 19) (v := undef) rfl (by kernel_rfl) (by kernel_rfl) (by kernel_rfl) (fun _ _ _ h => h) (Or.inr ⟨by rfl, rfl⟩) hS ?_
  simp only [Act.put, List.getElem_toArray, List.getElem_cons_succ, List.getElem_cons_zero, List.setIfInBounds_toArray, List.set_cons_zero, List.set_cons_succ]
  refine wpAnyH_take (i := 20) (v := undef) rfl (by kernel_rfl) (by kernel_rfl) (by kernel_rfl) (fun _ _ _ h => h) (Or.inr ⟨by rfl, rfl⟩) hS ?_
  simp only [Act.put, List.getElem_toArray, List.getElem_cons_succ, List.getElem_cons_zero, List.setIfInBounds_toArray, List.set_cons_zero, List.set_cons_succ]
  refine wpAnyH_take (i := 21) (v := undef) rfl (by kernel_rfl) (by kernel_rfl) (by kernel_rfl) (fun _ _ _ h => h) (Or.inr ⟨by rfl, rfl⟩) hS ?_
  simp only [Act.put, List.getElem_toArray, List.getElem_cons_succ, List.getElem_cons_zero, List.setIfInBounds_toArray, List.set_cons_zero, List.set_cons_succ]
  refine wpAnyH_take (i := 22) (v := .bool true) rfl (by kernel_rfl) (by kernel_rfl) (by kernel_rfl) (fun _ _ _ h => h) (Or.inl ⟨by rfl, fun wx hx => by simp [go_sem]⟩) hS ?_
  simp only [Act.put, List.getElem_toArray, List.getElem_cons_succ, List.getElem_cons_zero, List.setIfInBounds_toArray, List.set_cons_zero, List.set_cons_succ]
  refine wpAnyH_take (i := 23) (v := .bool true) rfl (by kernel_rfl) (by kernel_rfl) (by kernel_rfl) (fun _ _ _ h => h) (Or.inl ⟨by rfl, fun wx hx => by simp [go_sem]⟩) hS ?_
  simp only [Act.put, List.getElem_toArray, List.getElem_cons_succ, List.getElem_cons_zero, List.setIfInBounds_toArray, List.set_cons_zero, List.set_cons_succ]
  refine wpAnyH_done (by kernel_rfl) ?_ _
  go_wp2_with fail
  go_ret
  exact ⟨gl, rfl, .leaf d gl x v (HW.out.next (Below.refl _ w).drew).leaf, (Below.refl _ w).drew⟩
set_option maxRecDepth 100000 in
set_option maxHeartbeats 4000000 in
theorem trWith_same (w : World) (d g gl : Nat) (l : List Lf) (x v : List (BitVec 8)) (hW : Wt w d g gl l x v) (u : List (BitVec 8)) (hl : l = [(x, u)]) : WithDoes d g gl l x v w := by
  unfold WithDoes
  have HW : Hid (Wt w d g gl l x v) := hW
  subst hl
  have HX0 : Hid (x.length = 32) := HW.out.tree.one.l2
  have HX : Hid (x.length = 32) := HW.out.leaf.l2
  have heq : ∀ wx : World, (Op.equalIn 10000 28 (.agg (cb x).toArray) (.agg (cb x).toArray)).run Tryd.prog wx = .ok true wx := fun wx => eq_dig_same x HX.out wx
  have hS0 : Hid (∀ wx, Over w.drew wx → Below w.heap.size w wx) := fun wx hx => Over.after hx (Below.refl _ w).drew
  clear hW
  go_enter Tryd.func34, Tryd.ntmps34
  go_wp2_with fail
  refine wp_region_held_drew (S := Over w.drew) (by kernel_rfl) (Over.refl _) ?_
  intro hS
  refine wpAnyH_take (i := 0) (v := .pointer (some ⟨g, 0, none⟩)) rfl (by kernel_rfl) (by kernel_rfl) (by kernel_rfl) (fun _ _ _ h => h) (Or.inl ⟨by rfl, fun wx hx => by simp [go_sem]⟩) hS ?_
  simp only [Act.put, List.getElem_toArray, List.getElem_cons_zero, List.setIfInBounds_toArray, List.set_cons_zero, List.set_cons_succ]
  refine wpAnyH_take (i := 1) (v := .pointer (some ⟨g, 0, none⟩)) rfl (by kernel_rfl) (by kernel_rfl) (by kernel_rfl) (fun _ _ _ h => h) (Or.inl ⟨by rfl, fun wx hx => by simp [go_sem]⟩) hS ?_
  simp only [Act.put, List.getElem_toArray, List.getElem_cons_succ, List.getElem_cons_zero, List.setIfInBounds_toArray, List.set_cons_zero, List.set_cons_succ]
  refine wpAnyH_take (i := 2) (v := .pointer (some ⟨g, 0, none⟩)) rfl (by kernel_rfl) (by kernel_rfl) (by kernel_rfl) (fun _ _ _ h => h) (Or.inl ⟨by rfl, fun wx hx => by simp [go_sem]⟩) hS ?_
  simp only [Act.put, List.getElem_toArray, List.getElem_cons_succ, List.getElem_cons_zero, List.setIfInBounds_toArray, List.set_cons_zero, List.set_cons_succ]
  refine wpAnyH_take (i := 3) (v := .int .i64 1) rfl (by kernel_rfl) (by kernel_rfl) (by kernel_rfl) (fun _ _ _ h => h) (Or.inl ⟨by rfl, fun wx hx => by (have hc := (HW.out.next (hS0.out wx hx)).cnt; simp [go_sem, hc])⟩) hS ?_
  simp only [Act.put, List.getElem_toArray, List.getElem_cons_succ, List.getElem_cons_zero, List.setIfInBounds_toArray, List.set_cons_zero, List.set_cons_succ]
  refine wpAnyH_take (i := 4) (v := .bool false) rfl (by kernel_rfl) (by kernel_rfl) (by kernel_rfl) (fun _ _ _ h => h) (Or.inl ⟨by rfl, fun wx hx => by simp [go_sem]⟩) hS ?_
  simp only [Act.put, List.getElem_toArray, List.getElem_cons_succ, List.getElem_cons_zero, List.setIfInBounds_toArray, List.set_cons_zero, List.set_cons_succ]
  refine wpAnyH_take (i := 5) (v := .bool false) rfl (by kernel_rfl) (by kernel_rfl) (by kernel_rfl) (fun _ _ _ h => h) (Or.inl ⟨by rfl, fun wx hx => by simp [go_sem]⟩) hS ?_
  simp only [Act.put, List.getElem_toArray, List.getElem_cons_succ, List.getElem_cons_zero, List.setIfInBounds_toArray, List.set_cons_zero, List.set_cons_succ]
  refine wpAnyH_take (i := 6) (v := .pointer (some ⟨g, 0, none⟩)) rfl (by kernel_rfl) (by kernel_rfl) (by kernel_rfl) (fun _ _ _ h => h) (Or.inl ⟨by rfl, fun wx hx => by simp [go_sem]⟩) hS ?_
  simp only [Act.put, List.getElem_toArray, List.getElem_cons_succ, List.getElem_cons_zero, List.setIfInBounds_toArray, List.set_cons_zero, List.set_cons_succ]
  refine wpAnyH_take (i := 7) (v := .pointer (some ⟨g, 0, none⟩)) rfl (by kernel_rfl) (by kernel_rfl) (by kernel_rfl) (fun _ _ _ h => h) (Or.inl ⟨by rfl, fun wx hx => by simp [go_sem]⟩) hS ?_
  simp only [Act.put, List.getElem_toArray, List.getElem_cons_succ, List.getElem_cons_zero, List.setIfInBounds_toArray, List.set_cons_zero, List.set_cons_succ]
  refine wpAnyH_take (i := 8) (v := .pointer (some ⟨g, 0, none⟩)) rfl (by kernel_rfl) (by kernel_rfl) (by kernel_rfl) (fun _ _ _ h => h) (Or.inl ⟨by rfl, fun wx hx => by simp [go_sem]⟩) hS ?_
  simp only [Act.put, List.getElem_toArray, List.getElem_cons_succ, List.getElem_cons_zero, List.setIfInBounds_toArray, List.set_cons_zero, List.set_cons_succ]
  refine wpAnyH_take (i := 9) (v := .int .i64 1) rfl (by kernel_rfl) (by kernel_rfl) (by kernel_rfl) (fun _ _ _ h => h) (Or.inl ⟨by rfl, fun wx hx => by (have hc := (HW.out.next (hS0.out wx hx)).cnt; simp [go_sem, hc])⟩) hS ?_
  simp only [Act.put, List.getElem_toArray, List.getElem_cons_succ, List.getElem_cons_zero, List.setIfInBounds_toArray, List.set_cons_zero, List.set_cons_succ]
  refine wpAnyH_take (i := 10) (v := .bool true) rfl (by kernel_rfl) (by kernel_rfl) (by kernel_rfl) (fun _ _ _ h => h) (Or.inl ⟨by rfl, fun wx hx => by simp [go_sem]⟩) hS ?_
  simp only [Act.put, List.getElem_toArray, List.getElem_cons_succ, List.getElem_cons_zero, List.setIfInBounds_toArray, List.set_cons_zero, List.set_cons_succ]
  refine wpAnyH_take (i := 11) (v := .bool true) rfl (by kernel_rfl) (by kernel_rfl) (by kernel_rfl) (fun _ _ _ h => h) (Or.inl ⟨by rfl, fun wx hx => by simp [go_sem]⟩) hS ?_
  simp only [Act.put, List.getElem_toArray, List.getElem_cons_succ, List.getElem_cons_zero, List.setIfInBounds_toArray, List.set_cons_zero, List.set_cons_succ]
  refine wpAnyH_take (i := 12) (v := .pointer (some ⟨g, 0, none⟩)) rfl (by kernel_rfl) (by kernel_rfl) (by kernel_rfl) (fun _ _ _ h => h) (Or.inl ⟨by rfl, fun wx hx => by simp [go_sem]⟩) hS ?_
  simp only [Act.put, List.getElem_toArray, List.getElem_cons_succ, List.getElem_cons_zero, List.setIfInBounds_toArray, List.set_cons_zero, List.set_cons_succ]
  refine wpAnyH_take (i := 13) (v := .pointer (some ⟨g, 0, none⟩)) rfl (by kernel_rfl) (by kernel_rfl) (by kernel_rfl) (fun _ _ _ h => h) (Or.inl ⟨by rfl, fun wx hx => by simp [go_sem]⟩) hS ?_
  simp only [Act.put, List.getElem_toArray, List.getElem_cons_succ, List.getElem_cons_zero, List.setIfInBounds_toArray, List.set_cons_zero, List.set_cons_succ]
  refine wpAnyH_take (i := 14) (v := .pointer (some ⟨g, 33, none⟩)) rfl (by kernel_rfl) (by kernel_rfl) (by kernel_rfl) (fun _ _ _ h => h) (Or.inl ⟨by rfl, fun wx hx => by simp [go_sem]⟩) hS ?_
  simp only [Act.put, List.getElem_toArray, List.getElem_cons_succ, List.getElem_cons_zero, List.setIfInBounds_toArray, List.set_cons_zero, List.set_cons_succ]
  refine wpAnyH_take (i := 15) (v := .agg (cb x).toArray) rfl (by kernel_rfl) (by kernel_rfl) (by kernel_rfl) (fun _ _ _ h => h) (Or.inl ⟨by rfl, fun wx hx => by exact load_run 28 _ rfl _ _ rfl (cb x) _ ((HW.out.next (hS0.out wx hx)).tree.one.index) Tryd.underlying28 rfl (by rw [cb_len, HX.out]; exact info_digest)⟩) hS ?_
  simp only [Act.put, List.getElem_toArray, List.getElem_cons_succ, List.getElem_cons_zero, List.setIfInBounds_toArray, List.set_cons_zero, List.set_cons_succ]
  refine wpAnyH_take (i := 16) (v := .pointer (some ⟨gl, 0, none⟩)) rfl (by kernel_rfl) (by kernel_rfl) (by kernel_rfl) (fun _ _ _ h => h) (Or.inl ⟨by rfl, fun wx hx => by simp [go_sem]⟩) hS ?_
  simp only [Act.put, List.getElem_toArray, List.getElem_cons_succ, List.getElem_cons_zero, List.setIfInBounds_toArray, List.set_cons_zero, List.set_cons_succ]
  refine wpAnyH_take (i := 17) (v := .pointer (some ⟨gl, 0, none⟩)) rfl (by kernel_rfl) (by kernel_rfl) (by kernel_rfl) (fun _ _ _ h => h) (Or.inl ⟨by rfl, fun wx hx => by simp [go_sem]⟩) hS ?_
  simp only [Act.put, List.getElem_toArray, List.getElem_cons_succ, List.getElem_cons_zero, List.setIfInBounds_toArray, List.set_cons_zero, List.set_cons_succ]
  refine wpAnyH_take (i := 18) (v := .pointer (some ⟨gl, 33, none⟩)) rfl (by kernel_rfl) (by kernel_rfl) (by kernel_rfl) (fun _ _ _ h => h) (Or.inl ⟨by rfl, fun wx hx => by simp [go_sem]⟩) hS ?_
  simp only [Act.put, List.getElem_toArray, List.getElem_cons_succ, List.getElem_cons_zero, List.setIfInBounds_toArray, List.set_cons_zero, List.set_cons_succ]
  refine wpAnyH_take (i := 19) (v := .agg (cb x).toArray) rfl (by kernel_rfl) (by kernel_rfl) (by kernel_rfl) (fun _ _ _ h => h) (Or.inl ⟨by rfl, fun wx hx => by exact load_run 28 _ rfl _ _ rfl (cb x) _ ((HW.out.next (hS0.out wx hx)).leaf.index) Tryd.underlying28 rfl (by rw [cb_len, HX.out]; exact info_digest)⟩) hS ?_
  simp only [Act.put, List.getElem_toArray, List.getElem_cons_succ, List.getElem_cons_zero, List.setIfInBounds_toArray, List.set_cons_zero, List.set_cons_succ]
  refine wpAnyH_take (i := 20) (v := .bool true) rfl (by kernel_rfl) (by kernel_rfl) (by kernel_rfl) (fun _ _ _ h => h) (Or.inl ⟨by rfl, fun wx hx => by simp [go_sem, heq]⟩) hS ?_
  simp only [Act.put, List.getElem_toArray, List.getElem_cons_succ, List.getElem_cons_zero, List.setIfInBounds_toArray, List.set_cons_zero, List.set_cons_succ]
  refine wpAnyH_take (i := 21) (v := .bool true) rfl (by kernel_rfl) (by kernel_rfl) (by kernel_rfl) (fun _ _ _ h => h) (Or.inl ⟨by rfl, fun wx hx => by simp [go_sem]⟩) hS ?_
  simp only [Act.put, List.getElem_toArray, List.getElem_cons_succ, List.getElem_cons_zero, List.setIfInBounds_toArray, List.set_cons_zero, List.set_cons_succ]
  refine wpAnyH_take (i := 22) (v := .bool true) rfl (by kernel_rfl) (by kernel_rfl) (by kernel_rfl) (fun _ _ _ h => h) (Or.inl ⟨by rfl, fun wx hx => by simp [go_sem]⟩) hS ?_
  simp only [Act.put, List.getElem_toArray, List.getElem_cons_succ, List.getElem_cons_zero, List.setIfInBounds_toArray, List.set_cons_zero, List.set_cons_succ]
  refine wpAnyH_take (i := 23) (v := .bool true) rfl (by kernel_rfl) (by kernel_rfl) (by kernel_rfl) (fun _ _ _ h => h) (Or.inl ⟨by rfl, fun wx hx => by simp [go_sem]⟩) hS ?_
  simp only [Act.put, List.getElem_toArray, List.getElem_cons_succ, List.getElem_cons_zero, List.setIfInBounds_toArray, List.set_cons_zero, List.set_cons_succ]
  refine wpAnyH_done (by kernel_rfl) ?_ _
  go_wp2_with fail
  go_ret
  refine ⟨gl, rfl, ?_, (Below.refl _ w).drew⟩
  rw [putL_one]
  exact .leaf d gl x v (HW.out.next (Below.refl _ w).drew).leaf
set_option maxRecDepth 100000 in
set_option maxHeartbeats 4000000 in
theorem trWith_less (w : World) (d g gl : Nat) (l : List Lf) (x v : List (BitVec 8)) (hW : Wt w d g gl l x v) (y u : List (BitVec 8)) (hl : l = [(y, u)]) (hne : y ≠ x) (hls : lessB y x = true) (hF : Fits l d) (hN : Near l x d) (hd : d ≤ 256) : WithDoes d g gl l x v w := by
  unfold WithDoes
  have HW : Hid (Wt w d g gl l x v) := hW
  subst hl
  have HY : Hid (y.length = 32) := HW.out.tree.one.l2
  have HX : Hid (x.length = 32) := HW.out.leaf.l2
  have HLS : Hid (lessB y x = true) := hls
  have heq : ∀ wx : World, (Op.equalIn 10000 28 (.agg (cb y).toArray) (.agg (cb x).toArray)).run Tryd.prog wx = .ok false wx := fun wx => by
    have := eq_dig y x HY.out HX.out wx
    rw [decide_eq_false hne] at this
    exact this
  have HPU : Hid (putL [(y, u)] x v = [(y, u), (x, v)]) := by
    show _ = _
    unfold putL
    simp [hls]
  have HFP : Hid (Fits (putL [(y, u)] x v) d) := hF.put hN HX.out HW.out.leaf.l3
  clear hF hN hne hls
  have hS0 : Hid (∀ wx, Over w.drew wx → Below w.heap.size w wx) := fun wx hx => Over.after hx (Below.refl _ w).drew
  clear hW
  go_enter Tryd.func34, Tryd.ntmps34
  go_wp2_with fail
  refine wp_region_held_drew (S := Over w.drew) (by kernel_rfl) (Over.refl _) ?_
  intro hS
  refine wpAnyH_take (i := 0) (v := .pointer (some ⟨g, 0, none⟩)) rfl (by kernel_rfl) (by kernel_rfl) (by kernel_rfl) (fun _ _ _ h => h) (Or.inl ⟨by rfl, fun wx hx => by simp [go_sem]⟩) hS ?_
  simp only [Act.put, List.getElem_toArray, List.getElem_cons_zero, List.setIfInBounds_toArray, List.set_cons_zero, List.set_cons_succ]
  refine wpAnyH_take (i := 1) (v := .pointer (some ⟨g, 0, none⟩)) rfl (by kernel_rfl) (by kernel_rfl) (by kernel_rfl) (fun _ _ _ h => h) (Or.inl ⟨by rfl, fun wx hx => by simp [go_sem]⟩) hS ?_
  simp only [Act.put, List.getElem_toArray, List.getElem_cons_succ, List.getElem_cons_zero, List.setIfInBounds_toArray, List.set_cons_zero, List.set_cons_succ]
  refine wpAnyH_take (i := 2) (v := .pointer (some ⟨g, 0, none⟩)) rfl (by kernel_rfl) (by kernel_rfl) (by kernel_rfl) (fun _ _ _ h => h) (Or.inl ⟨by rfl, fun wx hx => by simp [go_sem]⟩) hS ?_
  simp only [Act.put, List.getElem_toArray, List.getElem_cons_succ, List.getElem_cons_zero, List.setIfInBounds_toArray, List.set_cons_zero, List.set_cons_succ]
  refine wpAnyH_take (i := 3) (v := .int .i64 1) rfl (by kernel_rfl) (by kernel_rfl) (by kernel_rfl) (fun _ _ _ h => h) (Or.inl ⟨by rfl, fun wx hx => by (have hc := (HW.out.next (hS0.out wx hx)).cnt; simp [go_sem, hc])⟩) hS ?_
  simp only [Act.put, List.getElem_toArray, List.getElem_cons_succ, List.getElem_cons_zero, List.setIfInBounds_toArray, List.set_cons_zero, List.set_cons_succ]
  refine wpAnyH_take (i := 4) (v := .bool false) rfl (by kernel_rfl) (by kernel_rfl) (by kernel_rfl) (fun _ _ _ h => h) (Or.inl ⟨by rfl, fun wx hx => by simp [go_sem]⟩) hS ?_
  simp only [Act.put, List.getElem_toArray, List.getElem_cons_succ, List.getElem_cons_zero, List.setIfInBounds_toArray, List.set_cons_zero, List.set_cons_succ]
  refine wpAnyH_take (i := 5) (v := .bool false) rfl (by kernel_rfl) (by kernel_rfl) (by kernel_rfl) (fun _ _ _ h => h) (Or.inl ⟨by rfl, fun wx hx => by simp [go_sem]⟩) hS ?_
  simp only [Act.put, List.getElem_toArray, List.getElem_cons_succ, List.getElem_cons_zero, List.setIfInBounds_toArray, List.set_cons_zero, List.set_cons_succ]
  refine wpAnyH_take (i := 6) (v := .pointer (some ⟨g, 0, none⟩)) rfl (by kernel_rfl) (by kernel_rfl) (by kernel_rfl) (fun _ _ _ h => h) (Or.inl ⟨by rfl, fun wx hx => by simp [go_sem]⟩) hS ?_
  simp only [Act.put, List.getElem_toArray, List.getElem_cons_succ, List.getElem_cons_zero, List.setIfInBounds_toArray, List.set_cons_zero, List.set_cons_succ]
  refine wpAnyH_take (i := 7) (v := .pointer (some ⟨g, 0, none⟩)) rfl (by kernel_rfl) (by kernel_rfl) (by kernel_rfl) (fun _ _ _ h => h) (Or.inl ⟨by rfl, fun wx hx => by simp [go_sem]⟩) hS ?_
  simp only [Act.put, List.getElem_toArray, List.getElem_cons_succ, List.getElem_cons_zero, List.setIfInBounds_toArray, List.set_cons_zero, List.set_cons_succ]
  refine wpAnyH_take (i := 8) (v := .pointer (some ⟨g, 0, none⟩)) rfl (by kernel_rfl) (by kernel_rfl) (by kernel_rfl) (fun _ _ _ h => h) (Or.inl ⟨by rfl, fun wx hx => by simp [go_sem]⟩) hS ?_
  simp only [Act.put, List.getElem_toArray, List.getElem_cons_succ, List.getElem_cons_zero, List.setIfInBounds_toArray, List.set_cons_zero, List.set_cons_succ]
  refine wpAnyH_take (i := 9) (v := .int .i64 1) rfl (by kernel_rfl) (by kernel_rfl) (by kernel_rfl) (fun _ _ _ h => h) (Or.inl ⟨by rfl, fun wx hx => by (have hc := (HW.out.next (hS0.out wx hx)).cnt; simp [go_sem, hc])⟩) hS ?_
  simp only [Act.put, List.getElem_toArray, List.getElem_cons_succ, List.getElem_cons_zero, List.setIfInBounds_toArray, List.set_cons_zero, List.set_cons_succ]
  refine wpAnyH_take (i := 10) (v := .bool true) rfl (by kernel_rfl) (by kernel_rfl) (by kernel_rfl) (fun _ _ _ h => h) (Or.inl ⟨by rfl, fun wx hx => by simp [go_sem]⟩) hS ?_
  simp only [Act.put, List.getElem_toArray, List.getElem_cons_succ, List.getElem_cons_zero, List.setIfInBounds_toArray, List.set_cons_zero, List.set_cons_succ]
  refine wpAnyH_take (i := 11) (v := .bool true) rfl (by kernel_rfl) (by kernel_rfl) (by kernel_rfl) (fun _ _ _ h => h) (Or.inl ⟨by rfl, fun wx hx => by simp [go_sem]⟩) hS ?_
  simp only [Act.put, List.getElem_toArray, List.getElem_cons_succ, List.getElem_cons_zero, List.setIfInBounds_toArray, List.set_cons_zero, List.set_cons_succ]
  refine wpAnyH_take (i := 12) (v := .pointer (some ⟨g, 0, none⟩)) rfl (by kernel_rfl) (by kernel_rfl) (by kernel_rfl) (fun _ _ _ h => h) (Or.inl ⟨by rfl, fun wx hx => by simp [go_sem]⟩) hS ?_
  simp only [Act.put, List.getElem_toArray, List.getElem_cons_succ, List.getElem_cons_zero, List.setIfInBounds_toArray, List.set_cons_zero, List.set_cons_succ]
  refine wpAnyH_take (i := 13) (v := .pointer (some ⟨g, 0, none⟩)) rfl (by kernel_rfl) (by kernel_rfl) (by kernel_rfl) (fun _ _ _ h => h) (Or.inl ⟨by rfl, fun wx hx => by simp [go_sem]⟩) hS ?_
  simp only [Act.put, List.getElem_toArray, List.getElem_cons_succ, List.getElem_cons_zero, List.setIfInBounds_toArray, List.set_cons_zero, List.set_cons_succ]
  refine wpAnyH_take (i := 14) (v := .pointer (some ⟨g, 33, none⟩)) rfl (by kernel_rfl) (by kernel_rfl) (by kernel_rfl) (fun _ _ _ h => h) (Or.inl ⟨by rfl, fun wx hx => by simp [go_sem]⟩) hS ?_
  simp only [Act.put, List.getElem_toArray, List.getElem_cons_succ, List.getElem_cons_zero, List.setIfInBounds_toArray, List.set_cons_zero, List.set_cons_succ]
  refine wpAnyH_take (i := 15) (v := .agg (cb y).toArray) rfl (by kernel_rfl) (by kernel_rfl) (by kernel_rfl) (fun _ _ _ h => h) (Or.inl ⟨by rfl, fun wx hx => by exact load_run 28 _ rfl _ _ rfl (cb y) _ ((HW.out.next (hS0.out wx hx)).tree.one.index) Tryd.underlying28 rfl (by rw [cb_len, HY.out]; exact info_digest)⟩) hS ?_
  simp only [Act.put, List.getElem_toArray, List.getElem_cons_succ, List.getElem_cons_zero, List.setIfInBounds_toArray, List.set_cons_zero, List.set_cons_succ]
  refine wpAnyH_take (i := 16) (v := .pointer (some ⟨gl, 0, none⟩)) rfl (by kernel_rfl) (by kernel_rfl) (by kernel_rfl) (fun _ _ _ h => h) (Or.inl ⟨by rfl, fun wx hx => by simp [go_sem]⟩) hS ?_
  simp only [Act.put, List.getElem_toArray, List.getElem_cons_succ, List.getElem_cons_zero, List.setIfInBounds_toArray, List.set_cons_zero, List.set_cons_succ]
  refine wpAnyH_take (i := 17) (v := .pointer (some ⟨gl, 0, none⟩)) rfl (by kernel_rfl) (by kernel_rfl) (by kernel_rfl) (fun _ _ _ h => h) (Or.inl ⟨by rfl, fun wx hx => by simp [go_sem]⟩) hS ?_
  simp only [Act.put, List.getElem_toArray, List.getElem_cons_succ, List.getElem_cons_zero, List.setIfInBounds_toArray, List.set_cons_zero, List.set_cons_succ]
  refine wpAnyH_take (i := 18) (v := .pointer (some ⟨gl, 33, none⟩)) rfl (by kernel_rfl) (by kernel_rfl) (by kernel_rfl) (fun _ _ _ h => h) (Or.inl ⟨by rfl, fun wx hx => by simp [go_sem]⟩) hS ?_
  simp only [Act.put, List.getElem_toArray, List.getElem_cons_succ, List.getElem_cons_zero, List.setIfInBounds_toArray, List.set_cons_zero, List.set_cons_succ]
  refine wpAnyH_take (i := 19) (v := .agg (cb x).toArray) rfl (by kernel_rfl) (by kernel_rfl) (by kernel_rfl) (fun _ _ _ h => h) (Or.inl ⟨by rfl, fun wx hx => by exact load_run 28 _ rfl _ _ rfl (cb x) _ ((HW.out.next (hS0.out wx hx)).leaf.index) Tryd.underlying28 rfl (by rw [cb_len, HX.out]; exact info_digest)⟩) hS ?_
  simp only [Act.put, List.getElem_toArray, List.getElem_cons_succ, List.getElem_cons_zero, List.setIfInBounds_toArray, List.set_cons_zero, List.set_cons_succ]
  refine wpAnyH_take (i := 20) (v := .bool false) rfl (by kernel_rfl) (by kernel_rfl) (by kernel_rfl) (fun _ _ _ h => h) (Or.inl ⟨by rfl, fun wx hx => by simp [go_sem, heq]⟩) hS ?_
  simp only [Act.put, List.getElem_toArray, List.getElem_cons_succ, List.getElem_cons_zero, List.setIfInBounds_toArray, List.set_cons_zero, List.set_cons_succ]
  refine wpAnyH_take (i := 21) (v := .bool false) rfl (by kernel_rfl) (by kernel_rfl) (by kernel_rfl) (fun _ _ _ h => h) (Or.inl ⟨by rfl, fun wx hx => by simp [go_sem]⟩) hS ?_
  simp only [Act.put, List.getElem_toArray, List.getElem_cons_succ, List.getElem_cons_zero, List.setIfInBounds_toArray, List.set_cons_zero, List.set_cons_succ]
  refine wpAnyH_take (i := 22) (v := .bool false) rfl (by kernel_rfl) (by kernel_rfl) (by kernel_rfl) (fun _ _ _ h => h) (Or.inl ⟨by rfl, fun wx hx => by simp [go_sem]⟩) hS ?_
  simp only [Act.put, List.getElem_toArray, List.getElem_cons_succ, List.getElem_cons_zero, List.setIfInBounds_toArray, List.set_cons_zero, List.set_cons_succ]
  refine wpAnyH_take (i := 23) (v := .bool false) rfl (by kernel_rfl) (by kernel_rfl) (by kernel_rfl) (fun _ _ _ h => h) (Or.inl ⟨by rfl, fun wx hx => by simp [go_sem]⟩) hS ?_
  simp only [Act.put, List.getElem_toArray, List.getElem_cons_succ, List.getElem_cons_zero, List.setIfInBounds_toArray, List.set_cons_zero, List.set_cons_succ]
  refine wpAnyH_done (by kernel_rfl) ?_ _
  clear heq
  have HW2 : Hid (Wt w.drew d g gl [(y, u)] x v) := HW.out.next (Below.refl _ w).drew
  have HBW : Hid (Below w.heap.size w w.drew) := (Below.refl _ w).drew
  clear HW hS0 hS
  generalize World.drew w = w1 at *
  have hS0 : Hid (∀ wx, Over w1.drew wx → Below w1.heap.size w1 wx) := fun wx hx => Over.after hx (Below.refl _ w1).drew
  go_wp2_with fail
  refine wp_region_held_drew (S := Over w1.drew) (by kernel_rfl) (Over.refl _) ?_
  intro hS
  refine wpAnyH_take (i := 0) (v := .pointer (some ⟨g, 0, none⟩)) rfl (by kernel_rfl) (by kernel_rfl) (by kernel_rfl) (fun _ _ _ h => h) (Or.inl ⟨by rfl, fun wx hx => by simp [go_sem]⟩) hS ?_
  simp only [Act.put, List.getElem_toArray, List.getElem_cons_zero, List.setIfInBounds_toArray, List.set_cons_zero, List.set_cons_succ]
  refine wpAnyH_take (i := 1) (v := .pointer (some ⟨g, 0, none⟩)) rfl (by kernel_rfl) (by kernel_rfl) (by kernel_rfl) (fun _ _ _ h => h) (Or.inl ⟨by rfl, fun wx hx => by simp [go_sem]⟩) hS ?_
  simp only [Act.put, List.getElem_toArray, List.getElem_cons_succ, List.getElem_cons_zero, List.setIfInBounds_toArray, List.set_cons_zero, List.set_cons_succ]
  refine wpAnyH_take (i := 2) (v := .pointer (some ⟨g, 0, none⟩)) rfl (by kernel_rfl) (by kernel_rfl) (by kernel_rfl) (fun _ _ _ h => h) (Or.inl ⟨by rfl, fun wx hx => by simp [go_sem]⟩) hS ?_
  simp only [Act.put, List.getElem_toArray, List.getElem_cons_succ, List.getElem_cons_zero, List.setIfInBounds_toArray, List.set_cons_zero, List.set_cons_succ]
  refine wpAnyH_take (i := 3) (v := .int .i64 1) rfl (by kernel_rfl) (by kernel_rfl) (by kernel_rfl) (fun _ _ _ h => h) (Or.inl ⟨by rfl, fun wx hx => by (have hc := (HW2.out.next (hS0.out wx hx)).cnt; simp [go_sem, hc])⟩) hS ?_
  simp only [Act.put, List.getElem_toArray, List.getElem_cons_succ, List.getElem_cons_zero, List.setIfInBounds_toArray, List.set_cons_zero, List.set_cons_succ]
  refine wpAnyH_take (i := 4) (v := .bool true) rfl (by kernel_rfl) (by kernel_rfl) (by kernel_rfl) (fun _ _ _ h => h) (Or.inl ⟨by rfl, fun wx hx => by simp [go_sem]⟩) hS ?_
  simp only [Act.put, List.getElem_toArray, List.getElem_cons_succ, List.getElem_cons_zero, List.setIfInBounds_toArray, List.set_cons_zero, List.set_cons_succ]
  refine wpAnyH_take (i := 5) (v := .bool true) rfl (by kernel_rfl) (by kernel_rfl) (by kernel_rfl) (fun _ _ _ h => h) (Or.inl ⟨by rfl, fun wx hx => by simp [go_sem]⟩) hS ?_
  simp only [Act.put, List.getElem_toArray, List.getElem_cons_succ, List.getElem_cons_zero, List.setIfInBounds_toArray, List.set_cons_zero, List.set_cons_succ]
  refine wpAnyH_take (i := 6) (v := .pointer (some ⟨g, 0, none⟩)) rfl (by kernel_rfl) (by kernel_rfl) (by kernel_rfl) (fun _ _ _ h => h) (Or.inl ⟨by rfl, fun wx hx => by simp [go_sem]⟩) hS ?_
  simp only [Act.put, List.getElem_toArray, List.getElem_cons_succ, List.getElem_cons_zero, List.setIfInBounds_toArray, List.set_cons_zero, List.set_cons_succ]
  refine wpAnyH_take (i := 7) (v := .pointer (some ⟨g, 0, none⟩)) rfl (by kernel_rfl) (by kernel_rfl) (by kernel_rfl) (fun _ _ _ h => h) (Or.inl ⟨by rfl, fun wx hx => by simp [go_sem]⟩) hS ?_
  simp only [Act.put, List.getElem_toArray, List.getElem_cons_succ, List.getElem_cons_zero, List.setIfInBounds_toArray, List.set_cons_zero, List.set_cons_succ]
  refine wpAnyH_take (i := 8) (v := .pointer (some ⟨g, 33, none⟩)) rfl (by kernel_rfl) (by kernel_rfl) (by kernel_rfl) (fun _ _ _ h => h) (Or.inl ⟨by rfl, fun wx hx => by simp [go_sem]⟩) hS ?_
  simp only [Act.put, List.getElem_toArray, List.getElem_cons_succ, List.getElem_cons_zero, List.setIfInBounds_toArray, List.set_cons_zero, List.set_cons_succ]
  refine wpAnyH_take (i := 9) (v := .agg (cb y).toArray) rfl (by kernel_rfl) (by kernel_rfl) (by kernel_rfl) (fun _ _ _ h => h) (Or.inl ⟨by rfl, fun wx hx => by exact load_run 28 _ rfl _ _ rfl (cb y) _ ((HW2.out.next (hS0.out wx hx)).tree.one.index) Tryd.underlying28 rfl (by rw [cb_len, HY.out]; exact info_digest)⟩) hS ?_
  simp only [Act.put, List.getElem_toArray, List.getElem_cons_succ, List.getElem_cons_zero, List.setIfInBounds_toArray, List.set_cons_zero, List.set_cons_succ]
  refine wpAnyH_take (i := 10) (v := .pointer (some ⟨gl, 0, none⟩)) rfl (by kernel_rfl) (by kernel_rfl) (by kernel_rfl) (fun _ _ _ h => h) (Or.inl ⟨by rfl, fun wx hx => by simp [go_sem]⟩) hS ?_
  simp only [Act.put, List.getElem_toArray, List.getElem_cons_succ, List.getElem_cons_zero, List.setIfInBounds_toArray, List.set_cons_zero, List.set_cons_succ]
  refine wpAnyH_take (i := 11) (v := .pointer (some ⟨gl, 0, none⟩)) rfl (by kernel_rfl) (by kernel_rfl) (by kernel_rfl) (fun _ _ _ h => h) (Or.inl ⟨by rfl, fun wx hx => by simp [go_sem]⟩) hS ?_
  simp only [Act.put, List.getElem_toArray, List.getElem_cons_succ, List.getElem_cons_zero, List.setIfInBounds_toArray, List.set_cons_zero, List.set_cons_succ]
  refine wpAnyH_take (i := 12) (v := .pointer (some ⟨gl, 33, none⟩)) rfl (by kernel_rfl) (by kernel_rfl) (by kernel_rfl) (fun _ _ _ h => h) (Or.inl ⟨by rfl, fun wx hx => by simp [go_sem]⟩) hS ?_
  simp only [Act.put, List.getElem_toArray, List.getElem_cons_succ, List.getElem_cons_zero, List.setIfInBounds_toArray, List.set_cons_zero, List.set_cons_succ]
  refine wpAnyH_take (i := 13) (v := .agg (cb x).toArray) rfl (by kernel_rfl) (by kernel_rfl) (by kernel_rfl) (fun _ _ _ h => h) (Or.inl ⟨by rfl, fun wx hx => by exact load_run 28 _ rfl _ _ rfl (cb x) _ ((HW2.out.next (hS0.out wx hx)).leaf.index) Tryd.underlying28 rfl (by rw [cb_len, HX.out]; exact info_digest)⟩) hS ?_
  simp only [Act.put, List.getElem_toArray, List.getElem_cons_succ, List.getElem_cons_zero, List.setIfInBounds_toArray, List.set_cons_zero, List.set_cons_succ]
  refine wpAnyH_enter 14 (by kernel_rfl) rfl (by rfl) (f := 61) (args := #[.agg (cb y).toArray, .agg (cb x).toArray]) (by simp [go_sem]) (pLess_any y x HY.out HX.out _) ?_
  rintro e wy ⟨rfl, hbq⟩
  refine ⟨_, rfl, hS.more hbq, ?_⟩
  replace hS := hS.more hbq
  clear hbq
  rw [HLS.out]
  simp only [Act.put, List.getElem_toArray, List.getElem_cons_succ, List.getElem_cons_zero, List.setIfInBounds_toArray, List.set_cons_zero, List.set_cons_succ]
  refine wpAnyH_take (i := 15) (v := .bool true) rfl (by kernel_rfl) (by kernel_rfl) (by kernel_rfl) (fun _ _ _ h => h) (Or.inl ⟨by rfl, fun wx hx => by simp [go_sem]⟩) hS ?_
  simp only [Act.put, List.getElem_toArray, List.getElem_cons_succ, List.getElem_cons_zero, List.setIfInBounds_toArray, List.set_cons_zero, List.set_cons_succ]
  refine wpAnyH_take (i := 16) (v := .bool true) rfl (by kernel_rfl) (by kernel_rfl) (by kernel_rfl) (fun _ _ _ h => h) (Or.inl ⟨by rfl, fun wx hx => by simp [go_sem]⟩) hS ?_
  simp only [Act.put, List.getElem_toArray, List.getElem_cons_succ, List.getElem_cons_zero, List.setIfInBounds_toArray, List.set_cons_zero, List.set_cons_succ]
  refine wpAnyH_done (by kernel_rfl) ?_ _
  have HW3 : Hid (Wt wy d g gl [(y, u)] x v) := HW2.out.next (hS0.out _ hS)
  replace HBW : Hid (Below w.heap.size w wy) := HBW.out.trans ((hS0.out _ hS).mono HBW.out.size)
  clear HW2 hS hS0 HLS
  have c0 : wy.cell? ⟨g, 0, none⟩ = some (.int .i64 1) := HW3.out.cnt
  obtain ⟨wB, HWB⟩ : ∃ z, Hid (z = wy.alloc (.cells #[.pointer (some ⟨g, 0, none⟩), .pointer (some ⟨gl, 0, none⟩)] 25)) := ⟨_, rfl⟩
  have hbB : Below wy.heap.size wy wB := by rw [HWB.out]; exact below_alloc _ _
  have HRW : Hid (LvRow wB wy.heap.size 0 [(g, (y, u)), (gl, (x, v))]) := by
    refine ⟨fun k hk => ?_, fun q hq => ?_⟩
    · rw [HWB.out]
      match k, hk with
      | 0, _ => simp [ptr]
      | 1, _ => simp [ptr]
      | k + 2, hk => simp at hk; omega
    · simp only [List.mem_cons, List.not_mem_nil, or_false] at hq
      rcases hq with rfl | rfl
      · exact (HW3.out.next hbB).tree.one
      · exact (HW3.out.next hbB).leaf
  have HBE : Hid (Calls Tryd.prog 21 #[.slice (some ⟨wy.heap.size, 0, none⟩) 2 2, .int .i64 (d : Int)] wB fun e w' => ∃ g, e = .returned (.pointer (some ⟨g, 0, none⟩)) ∧ TreeIs w' d g (putL [(y, u)] x v) ∧ Below wB.heap.size wB w') := by
    have := trBelow_any 256 d (some ⟨wy.heap.size, 0, none⟩) wy.heap.size 0 2 2 [(g, (y, u)), (gl, (x, v))] wB (by omega) (HW3.out.next hbB).kok HRW.out rfl (Nat.le_refl _) (Or.inr rfl) (by decide) (by have h := HFP.out; rw [HPU.out] at h; exact h)
    rw [HPU.out]
    exact this
  have HBB : Hid (Below w.heap.size w wB) := HBW.out.trans (hbB.mono HBW.out.size)
  clear hbB HRW HFP HPU
  go_wp2_with (first
    | (go_at_call 21; rw [← HWB.out]; refine HBE.out.mono ?_; rintro e wz ⟨gz, rfl, htz, hbz⟩))
  go_ret
  exact ⟨gz, rfl, htz, HBB.out.trans (hbz.mono HBB.out.size)⟩
set_option maxRecDepth 100000 in
set_option maxHeartbeats 4000000 in
theorem trWith_more (w : World) (d g gl : Nat) (l : List Lf) (x v : List (BitVec 8)) (hW : Wt w d g gl l x v) (y u : List (BitVec 8)) (hl : l = [(y, u)]) (hne : y ≠ x) (hls : lessB y x = false) (hF : Fits l d) (hN : Near l x d) (hd : d ≤ 256) : WithDoes d g gl l x v w := by
  unfold WithDoes
  have HW : Hid (Wt w d g gl l x v) := hW
  subst hl
  have HY : Hid (y.length = 32) := HW.out.tree.one.l2
  have HX : Hid (x.length = 32) := HW.out.leaf.l2
  have HLS : Hid (lessB y x = false) := hls
  have heq : ∀ wx : World, (Op.equalIn 10000 28 (.agg (cb y).toArray) (.agg (cb x).toArray)).run Tryd.prog wx = .ok false wx := fun wx => by
    have := eq_dig y x HY.out HX.out wx
    rw [decide_eq_false hne] at this
    exact this
  have HPU : Hid (putL [(y, u)] x v = [(x, v), (y, u)]) := by
    show _ = _
    unfold putL
    simp [hls, hne]
  have HFP : Hid (Fits (putL [(y, u)] x v) d) := hF.put hN HX.out HW.out.leaf.l3
  clear hF hN hne hls
  have hS0 : Hid (∀ wx, Over w.drew wx → Below w.heap.size w wx) := fun wx hx => Over.after hx (Below.refl _ w).drew
  clear hW
  go_enter Tryd.func34, Tryd.ntmps34
  go_wp2_with fail
  refine wp_region_held_drew (S := Over w.drew) (by kernel_rfl) (Over.refl _) ?_
  intro hS
  refine wpAnyH_take (i := 0) (v := .pointer (some ⟨g, 0, none⟩)) rfl (by kernel_rfl) (by kernel_rfl) (by kernel_rfl) (fun _ _ _ h => h) (Or.inl ⟨by rfl, fun wx hx => by simp [go_sem]⟩) hS ?_
  simp only [Act.put, List.getElem_toArray, List.getElem_cons_zero, List.setIfInBounds_toArray, List.set_cons_zero, List.set_cons_succ]
  refine wpAnyH_take (i := 1) (v := .pointer (some ⟨g, 0, none⟩)) rfl (by kernel_rfl) (by kernel_rfl) (by kernel_rfl) (fun _ _ _ h => h) (Or.inl ⟨by rfl, fun wx hx => by simp [go_sem]⟩) hS ?_
  simp only [Act.put, List.getElem_toArray, List.getElem_cons_succ, List.getElem_cons_zero, List.setIfInBounds_toArray, List.set_cons_zero, List.set_cons_succ]
  refine wpAnyH_take (i := 2) (v := .pointer (some ⟨g, 0, none⟩)) rfl (by kernel_rfl) (by kernel_rfl) (by kernel_rfl) (fun _ _ _ h => h) (Or.inl ⟨by rfl, fun wx hx => by simp [go_sem]⟩) hS ?_
  simp only [Act.put, List.getElem_toArray, List.getElem_cons_succ, List.getElem_cons_zero, List.setIfInBounds_toArray, List.set_cons_zero, List.set_cons_succ]
  refine wpAnyH_take (i := 3) (v := .int .i64 1) rfl (by kernel_rfl) (by kernel_rfl) (by kernel_rfl) (fun _ _ _ h => h) (Or.inl ⟨by rfl, fun wx hx => by (have hc := (HW.out.next (hS0.out wx hx)).cnt; simp [go_sem, hc])⟩) hS ?_
  simp only [Act.put, List.getElem_toArray, List.getElem_cons_succ, List.getElem_cons_zero, List.setIfInBounds_toArray, List.set_cons_zero, List.set_cons_succ]
  refine wpAnyH_take (i := 4) (v := .bool false) rfl (by kernel_rfl) (by kernel_rfl) (by kernel_rfl) (fun _ _ _ h => h) (Or.inl ⟨by rfl, fun wx hx => by simp [go_sem]⟩) hS ?_
  simp only [Act.put, List.getElem_toArray, List.getElem_cons_succ, List.getElem_cons_zero, List.setIfInBounds_toArray, List.set_cons_zero, List.set_cons_succ]
  refine wpAnyH_take (i := 5) (v := .bool false) rfl (by kernel_rfl) (by kernel_rfl) (by kernel_rfl) (fun _ _ _ h => h) (Or.inl ⟨by rfl, fun wx hx => by simp [go_sem]⟩) hS ?_
  simp only [Act.put, List.getElem_toArray, List.getElem_cons_succ, List.getElem_cons_zero, List.setIfInBounds_toArray, List.set_cons_zero, List.set_cons_succ]
  refine wpAnyH_take (i := 6) (v := .pointer (some ⟨g, 0, none⟩)) rfl (by kernel_rfl) (by kernel_rfl) (by kernel_rfl) (fun _ _ _ h => h) (Or.inl ⟨by rfl, fun wx hx => by simp [go_sem]⟩) hS ?_
  simp only [Act.put, List.getElem_toArray, List.getElem_cons_succ, List.getElem_cons_zero, List.setIfInBounds_toArray, List.set_cons_zero, List.set_cons_succ]
  refine wpAnyH_take (i := 7) (v := .pointer (some ⟨g, 0, none⟩)) rfl (by kernel_rfl) (by kernel_rfl) (by kernel_rfl) (fun _ _ _ h => h) (Or.inl ⟨by rfl, fun wx hx => by simp [go_sem]⟩) hS ?_
  simp only [Act.put, List.getElem_toArray, List.getElem_cons_succ, List.getElem_cons_zero, List.setIfInBounds_toArray, List.set_cons_zero, List.set_cons_succ]
  refine wpAnyH_take (i := 8) (v := .pointer (some ⟨g, 0, none⟩)) rfl (by kernel_rfl) (by kernel_rfl) (by kernel_rfl) (fun _ _ _ h => h) (Or.inl ⟨by rfl, fun wx hx => by simp [go_sem]⟩) hS ?_
  simp only [Act.put, List.getElem_toArray, List.getElem_cons_succ, List.getElem_cons_zero, List.setIfInBounds_toArray, List.set_cons_zero, List.set_cons_succ]
  refine wpAnyH_take (i := 9) (v := .int .i64 1) rfl (by kernel_rfl) (by kernel_rfl) (by kernel_rfl) (fun _ _ _ h => h) (Or.inl ⟨by rfl, fun wx hx => by (have hc := (HW.out.next (hS0.out wx hx)).cnt; simp [go_sem, hc])⟩) hS ?_
  simp only [Act.put, List.getElem_toArray, List.getElem_cons_succ, List.getElem_cons_zero, List.setIfInBounds_toArray, List.set_cons_zero, List.set_cons_succ]
  refine wpAnyH_take (i := 10) (v := .bool true) rfl (by kernel_rfl) (by kernel_rfl) (by kernel_rfl) (fun _ _ _ h => h) (Or.inl ⟨by rfl, fun wx hx => by simp [go_sem]⟩) hS ?_
  simp only [Act.put, List.getElem_toArray, List.getElem_cons_succ, List.getElem_cons_zero, List.setIfInBounds_toArray, List.set_cons_zero, List.set_cons_succ]
  refine wpAnyH_take (i := 11) (v := .bool true) rfl (by kernel_rfl) (by kernel_rfl) (by kernel_rfl) (fun _ _ _ h => h) (Or.inl ⟨by rfl, fun wx hx => by simp [go_sem]⟩) hS ?_
  simp only [Act.put, List.getElem_toArray, List.getElem_cons_succ, List.getElem_cons_zero, List.setIfInBounds_toArray, List.set_cons_zero, List.set_cons_succ]
  refine wpAnyH_take (i := 12) (v := .pointer (some ⟨g, 0, none⟩)) rfl (by kernel_rfl) (by kernel_rfl) (by kernel_rfl) (fun _ _ _ h => h) (Or.inl ⟨by rfl, fun wx hx => by simp [go_sem]⟩) hS ?_
  simp only [Act.put, List.getElem_toArray, List.getElem_cons_succ, List.getElem_cons_zero, List.setIfInBounds_toArray, List.set_cons_zero, List.set_cons_succ]
  refine wpAnyH_take (i := 13) (v := .pointer (some ⟨g, 0, none⟩)) rfl (by kernel_rfl) (by kernel_rfl) (by kernel_rfl) (fun _ _ _ h => h) (Or.inl ⟨by rfl, fun wx hx => by simp [go_sem]⟩) hS ?_
  simp only [Act.put, List.getElem_toArray, List.getElem_cons_succ, List.getElem_cons_zero, List.setIfInBounds_toArray, List.set_cons_zero, List.set_cons_succ]
  refine wpAnyH_take (i := 14) (v := .pointer (some ⟨g, 33, none⟩)) rfl (by kernel_rfl) (by kernel_rfl) (by kernel_rfl) (fun _ _ _ h => h) (Or.inl ⟨by rfl, fun wx hx => by simp [go_sem]⟩) hS ?_
  simp only [Act.put, List.getElem_toArray, List.getElem_cons_succ, List.getElem_cons_zero, List.setIfInBounds_toArray, List.set_cons_zero, List.set_cons_succ]
  refine wpAnyH_take (i := 15) (v := .agg (cb y).toArray) rfl (by kernel_rfl) (by kernel_rfl) (by kernel_rfl) (fun _ _ _ h => h) (Or.inl ⟨by rfl, fun wx hx => by exact load_run 28 _ rfl _ _ rfl (cb y) _ ((HW.out.next (hS0.out wx hx)).tree.one.index) Tryd.underlying28 rfl (by rw [cb_len, HY.out]; exact info_digest)⟩) hS ?_
  simp only [Act.put, List.getElem_toArray, List.getElem_cons_succ, List.getElem_cons_zero, List.setIfInBounds_toArray, List.set_cons_zero, List.set_cons_succ]
  refine wpAnyH_take (i := 16) (v := .pointer (some ⟨gl, 0, none⟩)) rfl (by kernel_rfl) (by kernel_rfl) (by kernel_rfl) (fun _ _ _ h => h) (Or.inl ⟨by rfl, fun wx hx => by simp [go_sem]⟩) hS ?_
  simp only [Act.put, List.getElem_toArray, List.getElem_cons_succ, List.getElem_cons_zero, List.setIfInBounds_toArray, List.set_cons_zero, List.set_cons_succ]
  refine wpAnyH_take (i := 17) (v := .pointer (some ⟨gl, 0, none⟩)) rfl (by kernel_rfl) (by kernel_rfl) (by kernel_rfl) (fun _ _ _ h => h) (Or.inl ⟨by rfl, fun wx hx => by simp [go_sem]⟩) hS ?_
  simp only [Act.put, List.getElem_toArray, List.getElem_cons_succ, List.getElem_cons_zero, List.setIfInBounds_toArray, List.set_cons_zero, List.set_cons_succ]
  refine wpAnyH_take (i := 18) (v := .pointer (some ⟨gl, 33, none⟩)) rfl (by kernel_rfl) (by kernel_rfl) (by kernel_rfl) (fun _ _ _ h => h) (Or.inl ⟨by rfl, fun wx hx => by simp [go_sem]⟩) hS ?_
  simp only [Act.put, List.getElem_toArray, List.getElem_cons_succ, List.getElem_cons_zero, List.setIfInBounds_toArray, List.set_cons_zero, List.set_cons_succ]
  refine wpAnyH_take (i := 19) (v := .agg (cb x).toArray) rfl (by kernel_rfl) (by kernel_rfl) (by kernel_rfl) (fun _ _ _ h => h) (Or.inl ⟨by rfl, fun wx hx => by exact load_run 28 _ rfl _ _ rfl (cb x) _ ((HW.out.next (hS0.out wx hx)).leaf.index) Tryd.underlying28 rfl (by rw [cb_len, HX.out]; exact info_digest)⟩) hS ?_
  simp only [Act.put, List.getElem_toArray, List.getElem_cons_succ, List.getElem_cons_zero, List.setIfInBounds_toArray, List.set_cons_zero, List.set_cons_succ]
  refine wpAnyH_take (i := 20) (v := .bool false) rfl (by kernel_rfl) (by kernel_rfl) (by kernel_rfl) (fun _ _ _ h => h) (Or.inl ⟨by rfl, fun wx hx => by simp [go_sem, heq]⟩) hS ?_
  simp only [Act.put, List.getElem_toArray, List.getElem_cons_succ, List.getElem_cons_zero, List.setIfInBounds_toArray, List.set_cons_zero, List.set_cons_succ]
  refine wpAnyH_take (i := 21) (v := .bool false) rfl (by kernel_rfl) (by kernel_rfl) (by kernel_rfl) (fun _ _ _ h => h) (Or.inl ⟨by rfl, fun wx hx => by simp [go_sem]⟩) hS ?_
  simp only [Act.put, List.getElem_toArray, List.getElem_cons_succ, List.getElem_cons_zero, List.setIfInBounds_toArray, List.set_cons_zero, List.set_cons_succ]
  refine wpAnyH_take (i := 22) (v := .bool false) rfl (by kernel_rfl) (by kernel_rfl) (by kernel_rfl) (fun _ _ _ h => h) (Or.inl ⟨by rfl, fun wx hx => by simp [go_sem]⟩) hS ?_
  simp only [Act.put, List.getElem_toArray, List.getElem_cons_succ, List.getElem_cons_zero, List.setIfInBounds_toArray, List.set_cons_zero, List.set_cons_succ]
  refine wpAnyH_take (i := 23) (v := .bool false) rfl (by kernel_rfl) (by kernel_rfl) (by kernel_rfl) (fun _ _ _ h => h) (Or.inl ⟨by rfl, fun wx hx => by simp [go_sem]⟩) hS ?_
  simp only [Act.put, List.getElem_toArray, List.getElem_cons_succ, List.getElem_cons_zero, List.setIfInBounds_toArray, List.set_cons_zero, List.set_cons_succ]
  refine wpAnyH_done (by kernel_rfl) ?_ _
  clear heq
  have HW2 : Hid (Wt w.drew d g gl [(y, u)] x v) := HW.out.next (Below.refl _ w).drew
  have HBW : Hid (Below w.heap.size w w.drew) := (Below.refl _ w).drew
  clear HW hS0 hS
  generalize World.drew w = w1 at *
  have hS0 : Hid (∀ wx, Over w1.drew wx → Below w1.heap.size w1 wx) := fun wx hx => Over.after hx (Below.refl _ w1).drew
  go_wp2_with fail
  refine wp_region_held_drew (S := Over w1.drew) (by kernel_rfl) (Over.refl _) ?_
  intro hS
  refine wpAnyH_take (i := 0) (v := .pointer (some ⟨g, 0, none⟩)) rfl (by kernel_rfl) (by kernel_rfl) (by kernel_rfl) (fun _ _ _ h => h) (Or.inl ⟨by rfl, fun wx hx => by simp [go_sem]⟩) hS ?_
  simp only [Act.put, List.getElem_toArray, List.getElem_cons_zero, List.setIfInBounds_toArray, List.set_cons_zero, List.set_cons_succ]
  refine wpAnyH_take (i := 1) (v := .pointer (some ⟨g, 0, none⟩)) rfl (by kernel_rfl) (by kernel_rfl) (by kernel_rfl) (fun _ _ _ h => h) (Or.inl ⟨by rfl, fun wx hx => by simp [go_sem]⟩) hS ?_
  simp only [Act.put, List.getElem_toArray, List.getElem_cons_succ, List.getElem_cons_zero, List.setIfInBounds_toArray, List.set_cons_zero, List.set_cons_succ]
  refine wpAnyH_take (i := 2) (v := .pointer (some ⟨g, 0, none⟩)) rfl (by kernel_rfl) (by kernel_rfl) (by kernel_rfl) (fun _ _ _ h => h) (Or.inl ⟨by rfl, fun wx hx => by simp [go_sem]⟩) hS ?_
  simp only [Act.put, List.getElem_toArray, List.getElem_cons_succ, List.getElem_cons_zero, List.setIfInBounds_toArray, List.set_cons_zero, List.set_cons_succ]
  refine wpAnyH_take (i := 3) (v := .int .i64 1) rfl (by kernel_rfl) (by kernel_rfl) (by kernel_rfl) (fun _ _ _ h => h) (Or.inl ⟨by rfl, fun wx hx => by (have hc := (HW2.out.next (hS0.out wx hx)).cnt; simp [go_sem, hc])⟩) hS ?_
  simp only [Act.put, List.getElem_toArray, List.getElem_cons_succ, List.getElem_cons_zero, List.setIfInBounds_toArray, List.set_cons_zero, List.set_cons_succ]
  refine wpAnyH_take (i := 4) (v := .bool true) rfl (by kernel_rfl) (by kernel_rfl) (by kernel_rfl) (fun _ _ _ h => h) (Or.inl ⟨by rfl, fun wx hx => by simp [go_sem]⟩) hS ?_
  simp only [Act.put, List.getElem_toArray, List.getElem_cons_succ, List.getElem_cons_zero, List.setIfInBounds_toArray, List.set_cons_zero, List.set_cons_succ]
  refine wpAnyH_take (i := 5) (v := .bool true) rfl (by kernel_rfl) (by kernel_rfl) (by kernel_rfl) (fun _ _ _ h => h) (Or.inl ⟨by rfl, fun wx hx => by simp [go_sem]⟩) hS ?_
  simp only [Act.put, List.getElem_toArray, List.getElem_cons_succ, List.getElem_cons_zero, List.setIfInBounds_toArray, List.set_cons_zero, List.set_cons_succ]
  refine wpAnyH_take (i := 6) (v := .pointer (some ⟨g, 0, none⟩)) rfl (by kernel_rfl) (by kernel_rfl) (by kernel_rfl) (fun _ _ _ h => h) (Or.inl ⟨by rfl, fun wx hx => by simp [go_sem]⟩) hS ?_
  simp only [Act.put, List.getElem_toArray, List.getElem_cons_succ, List.getElem_cons_zero, List.setIfInBounds_toArray, List.set_cons_zero, List.set_cons_succ]
  refine wpAnyH_take (i := 7) (v := .pointer (some ⟨g, 0, none⟩)) rfl (by kernel_rfl) (by kernel_rfl) (by kernel_rfl) (fun _ _ _ h => h) (Or.inl ⟨by rfl, fun wx hx => by simp [go_sem]⟩) hS ?_
  simp only [Act.put, List.getElem_toArray, List.getElem_cons_succ, List.getElem_cons_zero, List.setIfInBounds_toArray, List.set_cons_zero, List.set_cons_succ]
  refine wpAnyH_take (i := 8) (v := .pointer (some ⟨g, 33, none⟩)) rfl (by kernel_rfl) (by kernel_rfl) (by kernel_rfl) (fun _ _ _ h => h) (Or.inl ⟨by rfl, fun wx hx => by simp [go_sem]⟩) hS ?_
  simp only [Act.put, List.getElem_toArray, List.getElem_cons_succ, List.getElem_cons_zero, List.setIfInBounds_toArray, List.set_cons_zero, List.set_cons_succ]
  refine wpAnyH_take (i := 9) (v := .agg (cb y).toArray) rfl (by kernel_rfl) (by kernel_rfl) (by kernel_rfl) (fun _ _ _ h => h) (Or.inl ⟨by rfl, fun wx hx => by exact load_run 28 _ rfl _ _ rfl (cb y) _ ((HW2.out.next (hS0.out wx hx)).tree.one.index) Tryd.underlying28 rfl (by rw [cb_len, HY.out]; exact info_digest)⟩) hS ?_
  simp only [Act.put, List.getElem_toArray, List.getElem_cons_succ, List.getElem_cons_zero, List.setIfInBounds_toArray, List.set_cons_zero, List.set_cons_succ]
  refine wpAnyH_take (i := 10) (v := .pointer (some ⟨gl, 0, none⟩)) rfl (by kernel_rfl) (by kernel_rfl) (by kernel_rfl) (fun _ _ _ h => h) (Or.inl ⟨by rfl, fun wx hx => by simp [go_sem]⟩) hS ?_
  simp only [Act.put, List.getElem_toArray, List.getElem_cons_succ, List.getElem_cons_zero, List.setIfInBounds_toArray, List.set_cons_zero, List.set_cons_succ]
  refine wpAnyH_take (i := 11) (v := .pointer (some ⟨gl, 0, none⟩)) rfl (by kernel_rfl) (by kernel_rfl) (by kernel_rfl) (fun _ _ _ h => h) (Or.inl ⟨by rfl, fun wx hx => by simp [go_sem]⟩) hS ?_
  simp only [Act.put, List.getElem_toArray, List.getElem_cons_succ, List.getElem_cons_zero, List.setIfInBounds_toArray, List.set_cons_zero, List.set_cons_succ]
  refine wpAnyH_take (i := 12) (v := .pointer (some ⟨gl, 33, none⟩)) rfl (by kernel_rfl) (by kernel_rfl) (by kernel_rfl) (fun _ _ _ h => h) (Or.inl ⟨by rfl, fun wx hx => by simp [go_sem]⟩) hS ?_
  simp only [Act.put, List.getElem_toArray, List.getElem_cons_succ, List.getElem_cons_zero, List.setIfInBounds_toArray, List.set_cons_zero, List.set_cons_succ]
  refine wpAnyH_take (i := 13) (v := .agg (cb x).toArray) rfl (by kernel_rfl) (by kernel_rfl) (by kernel_rfl) (fun _ _ _ h => h) (Or.inl ⟨by rfl, fun wx hx => by exact load_run 28 _ rfl _ _ rfl (cb x) _ ((HW2.out.next (hS0.out wx hx)).leaf.index) Tryd.underlying28 rfl (by rw [cb_len, HX.out]; exact info_digest)⟩) hS ?_
  simp only [Act.put, List.getElem_toArray, List.getElem_cons_succ, List.getElem_cons_zero, List.setIfInBounds_toArray, List.set_cons_zero, List.set_cons_succ]
  refine wpAnyH_enter 14 (by kernel_rfl) rfl (by rfl) (f := 61) (args := #[.agg (cb y).toArray, .agg (cb x).toArray]) (by simp [go_sem]) (pLess_any y x HY.out HX.out _) ?_
  rintro e wy ⟨rfl, hbq⟩
  refine ⟨_, rfl, hS.more hbq, ?_⟩
  replace hS := hS.more hbq
  clear hbq
  rw [HLS.out]
  simp only [Act.put, List.getElem_toArray, List.getElem_cons_succ, List.getElem_cons_zero, List.setIfInBounds_toArray, List.set_cons_zero, List.set_cons_succ]
  refine wpAnyH_take (i := 15) (v := .bool false) rfl (by kernel_rfl) (by kernel_rfl) (by kernel_rfl) (fun _ _ _ h => h) (Or.inl ⟨by rfl, fun wx hx => by simp [go_sem]⟩) hS ?_
  simp only [Act.put, List.getElem_toArray, List.getElem_cons_succ, List.getElem_cons_zero, List.setIfInBounds_toArray, List.set_cons_zero, List.set_cons_succ]
  refine wpAnyH_take (i := 16) (v := .bool false) rfl (by kernel_rfl) (by kernel_rfl) (by kernel_rfl) (fun _ _ _ h => h) (Or.inl ⟨by rfl, fun wx hx => by simp [go_sem]⟩) hS ?_
  simp only [Act.put, List.getElem_toArray, List.getElem_cons_succ, List.getElem_cons_zero, List.setIfInBounds_toArray, List.set_cons_zero, List.set_cons_succ]
  refine wpAnyH_done (by kernel_rfl) ?_ _
  have HW3 : Hid (Wt wy d g gl [(y, u)] x v) := HW2.out.next (hS0.out _ hS)
  replace HBW : Hid (Below w.heap.size w wy) := HBW.out.trans ((hS0.out _ hS).mono HBW.out.size)
  clear HW2 hS hS0 HLS
  have c0 : wy.cell? ⟨g, 0, none⟩ = some (.int .i64 1) := HW3.out.cnt
  obtain ⟨wB, HWB⟩ : ∃ z, Hid (z = wy.alloc (.cells #[.pointer (some ⟨gl, 0, none⟩), .pointer (some ⟨g, 0, none⟩)] 25)) := ⟨_, rfl⟩
  have hbB : Below wy.heap.size wy wB := by rw [HWB.out]; exact below_alloc _ _
  have HRW : Hid (LvRow wB wy.heap.size 0 [(gl, (x, v)), (g, (y, u))]) := by
    refine ⟨fun k hk => ?_, fun q hq => ?_⟩
    · rw [HWB.out]
      match k, hk with
      | 0, _ => simp [ptr]
      | 1, _ => simp [ptr]
      | k + 2, hk => simp at hk; omega
    · simp only [List.mem_cons, List.not_mem_nil, or_false] at hq
      rcases hq with rfl | rfl
      · exact (HW3.out.next hbB).leaf
      · exact (HW3.out.next hbB).tree.one
  have HBE : Hid (Calls Tryd.prog 21 #[.slice (some ⟨wy.heap.size, 0, none⟩) 2 2, .int .i64 (d : Int)] wB fun e w' => ∃ g, e = .returned (.pointer (some ⟨g, 0, none⟩)) ∧ TreeIs w' d g (putL [(y, u)] x v) ∧ Below wB.heap.size wB w') := by
    have := trBelow_any 256 d (some ⟨wy.heap.size, 0, none⟩) wy.heap.size 0 2 2 [(gl, (x, v)), (g, (y, u))] wB (by omega) (HW3.out.next hbB).kok HRW.out rfl (Nat.le_refl _) (Or.inr rfl) (by decide) (by have h := HFP.out; rw [HPU.out] at h; exact h)
    rw [HPU.out]
    exact this
  have HBB : Hid (Below w.heap.size w wB) := HBW.out.trans (hbB.mono HBW.out.size)
  clear hbB HRW HFP HPU
  go_wp2_with (first
    | (go_at_call 21; rw [← HWB.out]; refine HBE.out.mono ?_; rintro e wz ⟨gz, rfl, htz, hbz⟩))
  go_ret
  exact ⟨gz, rfl, htz, HBB.out.trans (hbz.mono HBB.out.size)⟩
set_option maxRecDepth 100000 in
set_option maxHeartbeats 4000000 in
theorem trWith_on (w : World) (d g gl : Nat) (l : List Lf) (x v : List (BitVec 8)) (hW : Wt w d g gl l x v) (n : Nat) (hn : l.length = n) (h2 : 2 ≤ n) (hn2 : n < 90000) (g0 g1 : Nat) (ht0 : TreeIs w (d + 1) g0 (halfL l d false)) (ht1 : TreeIs w (d + 1) g1 (halfL l d true)) (hcc : TreeC w g l.length (rootL l d) zb32 zb32 (ptr g0) (ptr g1)) (hF : Fits l d) (hN : Near l x d) (hb : bt x d = true) (IH : ∀ W, Below w.heap.size w W → WithDoes (d + 1) g1 gl (halfL l d true) x v W) : WithDoes d g gl l x v w := by
  unfold WithDoes
  have HW : Hid (Wt w d g gl l x v) := hW
  have HLN : Hid (l.length = n) := hn
  have HX : Hid (x.length = 32) := HW.out.leaf.l2
  have hdl : d < 256 := hF.lt (by rw [hn]; exact h2)
  have HBI : Hid (bitI x (d : Int) = true) := by show _ = _; rw [bitI_nat _ _ hdl]; exact hb
  have HT0 : Hid (TreeIs w (d + 1) g0 (halfL l d false)) := ht0
  have HT1 : Hid (TreeIs w (d + 1) g1 (halfL l d true)) := ht1
  have HCC : Hid (TreeC w g l.length (rootL l d) zb32 zb32 (ptr g0) (ptr g1)) := hcc
  have HFP : Hid (Fits (putL l x v) d) := hF.put hN HX.out HW.out.leaf.l3
  have HH0 : Hid (halfL (putL l x v) d false = halfL l d false) := by show _ = _; exact half_put_off hF.1 hF.2.1 HX.out (by rw [hb]; decide)
  have HH1 : Hid (halfL (putL l x v) d true = putL (halfL l d true) x v) := by show _ = _; exact (by have h := half_put_on (v := v) (d := d) hF.1 hF.2.1 HX.out; rw [hb] at h; exact h)
  have HL2 : Hid (2 ≤ (putL l x v).length ∧ (putL l x v).length < 100000) := by
    have h := putL_count (v := v) hF.1 hF.2.1 HX.out
    show _ ∧ _
    rw [h, hn]
    split <;> omega
  have HIH : Aside _ := IH
  have z0 : ¬ ((n : Int) = 0) := by omega
  have z0' : ((n : Int) == 0) = false := by rw [beq_eq_false_iff_ne]; omega
  have z1 : ¬ ((n : Int) = 1) := by omega
  have z1' : ((n : Int) == 1) = false := by rw [beq_eq_false_iff_ne]; omega
  clear hn hF hN hb IH ht0 ht1 hcc
  have hS0 : Hid (∀ wx, Over w.drew wx → Below w.heap.size w wx) := fun wx hx => Over.after hx (Below.refl _ w).drew
  clear hW
  go_enter Tryd.func34, Tryd.ntmps34
  go_wp2_with fail
  refine wp_region_held_drew (S := Over w.drew) (by kernel_rfl) (Over.refl _) ?_
  intro hS
  refine wpAnyH_take (i := 0) (v := .pointer (some ⟨g, 0, none⟩)) rfl (by kernel_rfl) (by kernel_rfl) (by kernel_rfl) (fun _ _ _ h => h) (Or.inl ⟨by rfl, fun wx hx => by simp [go_sem]⟩) hS ?_
  simp only [Act.put, List.getElem_toArray, List.getElem_cons_zero, List.setIfInBounds_toArray, List.set_cons_zero, List.set_cons_succ]
  refine wpAnyH_take (i := 1) (v := .pointer (some ⟨g, 0, none⟩)) rfl (by kernel_rfl) (by kernel_rfl) (by kernel_rfl) (fun _ _ _ h => h) (Or.inl ⟨by rfl, fun wx hx => by simp [go_sem]⟩) hS ?_
  simp only [Act.put, List.getElem_toArray, List.getElem_cons_succ, List.getElem_cons_zero, List.setIfInBounds_toArray, List.set_cons_zero, List.set_cons_succ]
  refine wpAnyH_take (i := 2) (v := .pointer (some ⟨g, 0, none⟩)) rfl (by kernel_rfl) (by kernel_rfl) (by kernel_rfl) (fun _ _ _ h => h) (Or.inl ⟨by rfl, fun wx hx => by simp [go_sem]⟩) hS ?_
  simp only [Act.put, List.getElem_toArray, List.getElem_cons_succ, List.getElem_cons_zero, List.setIfInBounds_toArray, List.set_cons_zero, List.set_cons_succ]
  refine wpAnyH_take (i := 3) (v := .int .i64 (n : Int)) rfl (by kernel_rfl) (by kernel_rfl) (by kernel_rfl) (fun _ _ _ h => h) (Or.inl ⟨by rfl, fun wx hx => by (have hc := (HW.out.next (hS0.out wx hx)).cnt; rw [HLN.out] at hc; simp [go_sem, hc])⟩) hS ?_
  simp only [Act.put, List.getElem_toArray, List.getElem_cons_succ, List.getElem_cons_zero, List.setIfInBounds_toArray, List.set_cons_zero, List.set_cons_succ]
  refine wpAnyH_take (i := 4) (v := .bool false) rfl (by kernel_rfl) (by kernel_rfl) (by kernel_rfl) (fun _ _ _ h => h) (Or.inl ⟨by rfl, fun wx hx => by (simp [go_sem]; omega)⟩) hS ?_
  simp only [Act.put, List.getElem_toArray, List.getElem_cons_succ, List.getElem_cons_zero, List.setIfInBounds_toArray, List.set_cons_zero, List.set_cons_succ]
  refine wpAnyH_take (i := 5) (v := .bool false) rfl (by kernel_rfl) (by kernel_rfl) (by kernel_rfl) (fun _ _ _ h => h) (Or.inl ⟨by rfl, fun wx hx => by simp [go_sem]⟩) hS ?_
  simp only [Act.put, List.getElem_toArray, List.getElem_cons_succ, List.getElem_cons_zero, List.setIfInBounds_toArray, List.set_cons_zero, List.set_cons_succ]
  refine wpAnyH_take (i := 6) (v := .pointer (some ⟨g, 0, none⟩)) rfl (by kernel_rfl) (by kernel_rfl) (by kernel_rfl) (fun _ _ _ h => h) (Or.inl ⟨by rfl, fun wx hx => by simp [go_sem]⟩) hS ?_
  simp only [Act.put, List.getElem_toArray, List.getElem_cons_succ, List.getElem_cons_zero, List.setIfInBounds_toArray, List.set_cons_zero, List.set_cons_succ]
  refine wpAnyH_take (i := 7) (v := .pointer (some ⟨g, 0, none⟩)) rfl (by kernel_rfl) (by kernel_rfl) (by kernel_rfl) (fun _ _ _ h => h) (Or.inl ⟨by rfl, fun wx hx => by simp [go_sem]⟩) hS ?_
  simp only [Act.put, List.getElem_toArray, List.getElem_cons_succ, List.getElem_cons_zero, List.setIfInBounds_toArray, List.set_cons_zero, List.set_cons_succ]
  refine wpAnyH_take (i := 8) (v := .pointer (some ⟨g, 0, none⟩)) rfl (by kernel_rfl) (by kernel_rfl) (by kernel_rfl) (fun _ _ _ h => h) (Or.inl ⟨by rfl, fun wx hx => by simp [go_sem]⟩) hS ?_
  simp only [Act.put, List.getElem_toArray, List.getElem_cons_succ, List.getElem_cons_zero, List.setIfInBounds_toArray, List.set_cons_zero, List.set_cons_succ]
  refine wpAnyH_take (i := 9) (v := .int .i64 (n : Int)) rfl (by kernel_rfl) (by kernel_rfl) (by kernel_rfl) (fun _ _ _ h => h) (Or.inl ⟨by rfl, fun wx hx => by (have hc := (HW.out.next (hS0.out wx hx)).cnt; rw [HLN.out] at hc; simp [go_sem, hc])⟩) hS ?_
  simp only [Act.put, List.getElem_toArray, List.getElem_cons_succ, List.getElem_cons_zero, List.setIfInBounds_toArray, List.set_cons_zero, List.set_cons_succ]
  refine wpAnyH_take (i := 10) (v := .bool false) rfl (by kernel_rfl) (by kernel_rfl) (by kernel_rfl) (fun _ _ _ h => h) (Or.inl ⟨by rfl, fun wx hx => by simp [go_sem, z1]⟩) hS ?_
  simp only [Act.put, List.getElem_toArray, List.getElem_cons_succ, List.getElem_cons_zero, List.setIfInBounds_toArray, List.set_cons_zero, List.set_cons_succ]
  refine wpAnyH_take (i := 11) (v := .bool false) rfl (by kernel_rfl) (by kernel_rfl) (by kernel_rfl) (fun _ _ _ h => h) (Or.inl ⟨by rfl, fun wx hx => by simp [go_sem]⟩) hS ?_
  simp only [Act.put, List.getElem_toArray, List.getElem_cons_succ, List.getElem_cons_zero, List.setIfInBounds_toArray, List.set_cons_zero, List.set_cons_succ]
  refine wpAnyH_take (i := 12) (v := undef) rfl (by kernel_rfl) (by kernel_rfl) (by kernel_rfl) (fun _ _ _ h => h) (Or.inr ⟨by rfl, rfl⟩) hS ?_
  simp only [Act.put, List.getElem_toArray, List.getElem_cons_succ, List.getElem_cons_zero, List.setIfInBounds_toArray, List.set_cons_zero, List.set_cons_succ]
  refine wpAnyH_take (i := 13) (v := undef) rfl (by kernel_rfl) (by kernel_rfl) (by kernel_rfl) (fun _ _ _ h => h) (Or.inr ⟨by rfl, rfl⟩) hS ?_
  simp only [Act.put, List.getElem_toArray, List.getElem_cons_succ, List.getElem_cons_zero, List.setIfInBounds_toArray, List.set_cons_zero, List.set_cons_succ]
  refine wpAnyH_take (i := 14) (v := undef) rfl (by kernel_rfl) (by kernel_rfl) (by kernel_rfl) (fun _ _ _ h => h) (Or.inr ⟨by rfl, rfl⟩) hS ?_
  simp only [Act.put, List.getElem_toArray, List.getElem_cons_succ, List.getElem_cons_zero, List.setIfInBounds_toArray, List.set_cons_zero, List.set_cons_succ]
  refine wpAnyH_take (i := 15) (v := undef) rfl (by kernel_rfl) (by kernel_rfl) (by kernel_rfl) (fun _ _ _ h => h) (Or.inr ⟨by rfl, rfl⟩) hS ?_
  simp only [Act.put, List.getElem_toArray, List.getElem_cons_succ, List.getElem_cons_zero, List.setIfInBounds_toArray, List.set_cons_zero, List.set_cons_succ]
  refine wpAnyH_take (i := 16) (v := undef) rfl (by kernel_rfl) (by kernel_rfl) (by kernel_rfl) (fun _ _ _ h => h) (Or.inr ⟨by rfl, rfl⟩) hS ?_
  simp only [Act.put, List.getElem_toArray, List.getElem_cons_succ, List.getElem_cons_zero, List.setIfInBounds_toArray, List.set_cons_zero, List.set_cons_succ]
  refine wpAnyH_take (i := 17) (v := undef) rfl (by kernel_rfl) (by kernel_rfl) (by kernel_rfl) (fun _ _ _ h => h) (Or.inr ⟨by rfl, rfl⟩) hS ?_
  simp only [Act.put, List.getElem_toArray, List.getElem_cons_succ, List.getElem_cons_zero, List.setIfInBounds_toArray, List.set_cons_zero, List.set_cons_succ]
  refine wpAnyH_take (i := 18) (v := undef) rfl (by kernel_rfl) (by kernel_rfl) (by kernel_rfl) (fun _ _ _ h => h) (Or.inr ⟨by rfl, rfl⟩) hS ?_
  simp only [Act.put, List.getElem_toArray, List.getElem_cons_succ, List.getElem_cons_zero, List.setIfInBounds_toArray, List.set_cons_zero, List.set_cons_succ]
  refine wpAnyH_take (i := 19) (v := undef) rfl (by kernel_rfl) (by kernel_rfl) (by kernel_rfl) (fun _ _ _ h => h) (Or.inr ⟨by rfl, rfl⟩) hS ?_
  simp only [Act.put, List.getElem_toArray, List.getElem_cons_succ, List.getElem_cons_zero, List.setIfInBounds_toArray, List.set_cons_zero, List.set_cons_succ]
  refine wpAnyH_take (i := 20) (v := undef) rfl (by kernel_rfl) (by kernel_rfl) (by kernel_rfl) (fun _ _ _ h => h) (Or.inr ⟨by rfl, rfl⟩) hS ?_
  simp only [Act.put, List.getElem_toArray, List.getElem_cons_succ, List.getElem_cons_zero, List.setIfInBounds_toArray, List.set_cons_zero, List.set_cons_succ]
  refine wpAnyH_take (i := 21) (v := .bool false) rfl (by kernel_rfl) (by kernel_rfl) (by kernel_rfl) (fun _ _ _ h => h) (Or.inl ⟨by rfl, fun wx hx => by simp [go_sem]⟩) hS ?_
  simp only [Act.put, List.getElem_toArray, List.getElem_cons_succ, List.getElem_cons_zero, List.setIfInBounds_toArray, List.set_cons_zero, List.set_cons_succ]
  refine wpAnyH_take (i := 22) (v := .bool false) rfl (by kernel_rfl) (by kernel_rfl) (by kernel_rfl) (fun _ _ _ h => h) (Or.inl ⟨by rfl, fun wx hx => by simp [go_sem]⟩) hS ?_
  simp only [Act.put, List.getElem_toArray, List.getElem_cons_succ, List.getElem_cons_zero, List.setIfInBounds_toArray, List.set_cons_zero, List.set_cons_succ]
  refine wpAnyH_take (i := 23) (v := .bool false) rfl (by kernel_rfl) (by kernel_rfl) (by kernel_rfl) (fun _ _ _ h => h) (Or.inl ⟨by rfl, fun wx hx => by simp [go_sem]⟩) hS ?_
  simp only [Act.put, List.getElem_toArray, List.getElem_cons_succ, List.getElem_cons_zero, List.setIfInBounds_toArray, List.set_cons_zero, List.set_cons_succ]
  refine wpAnyH_done (by kernel_rfl) ?_ _
  have HW2 : Hid (Wt w.drew d g gl l x v) := HW.out.next (Below.refl _ w).drew
  have HBW : Hid (Below w.heap.size w w.drew) := (Below.refl _ w).drew
  clear HW hS0 hS
  generalize World.drew w = w1 at *
  have hS0 : Hid (∀ wx, Over w1.drew wx → Below w1.heap.size w1 wx) := fun wx hx => Over.after hx (Below.refl _ w1).drew
  go_wp2_with fail
  refine wp_region_held_drew (S := Over w1.drew) (by kernel_rfl) (Over.refl _) ?_
  intro hS
  refine wpAnyH_take (i := 0) (v := .pointer (some ⟨g, 0, none⟩)) rfl (by kernel_rfl) (by kernel_rfl) (by kernel_rfl) (fun _ _ _ h => h) (Or.inl ⟨by rfl, fun wx hx => by simp [go_sem]⟩) hS ?_
  simp only [Act.put, List.getElem_toArray, List.getElem_cons_zero, List.setIfInBounds_toArray, List.set_cons_zero, List.set_cons_succ]
  refine wpAnyH_take (i := 1) (v := .pointer (some ⟨g, 0, none⟩)) rfl (by kernel_rfl) (by kernel_rfl) (by kernel_rfl) (fun _ _ _ h => h) (Or.inl ⟨by rfl, fun wx hx => by simp [go_sem]⟩) hS ?_
  simp only [Act.put, List.getElem_toArray, List.getElem_cons_succ, List.getElem_cons_zero, List.setIfInBounds_toArray, List.set_cons_zero, List.set_cons_succ]
  refine wpAnyH_take (i := 2) (v := .pointer (some ⟨g, 0, none⟩)) rfl (by kernel_rfl) (by kernel_rfl) (by kernel_rfl) (fun _ _ _ h => h) (Or.inl ⟨by rfl, fun wx hx => by simp [go_sem]⟩) hS ?_
  simp only [Act.put, List.getElem_toArray, List.getElem_cons_succ, List.getElem_cons_zero, List.setIfInBounds_toArray, List.set_cons_zero, List.set_cons_succ]
  refine wpAnyH_take (i := 3) (v := .int .i64 (n : Int)) rfl (by kernel_rfl) (by kernel_rfl) (by kernel_rfl) (fun _ _ _ h => h) (Or.inl ⟨by rfl, fun wx hx => by (have hc := (HW2.out.next (hS0.out wx hx)).cnt; rw [HLN.out] at hc; simp [go_sem, hc])⟩) hS ?_
  simp only [Act.put, List.getElem_toArray, List.getElem_cons_succ, List.getElem_cons_zero, List.setIfInBounds_toArray, List.set_cons_zero, List.set_cons_succ]
  refine wpAnyH_take (i := 4) (v := .bool false) rfl (by kernel_rfl) (by kernel_rfl) (by kernel_rfl) (fun _ _ _ h => h) (Or.inl ⟨by rfl, fun wx hx => by simp [go_sem, z1]⟩) hS ?_
  simp only [Act.put, List.getElem_toArray, List.getElem_cons_succ, List.getElem_cons_zero, List.setIfInBounds_toArray, List.set_cons_zero, List.set_cons_succ]
  refine wpAnyH_take (i := 5) (v := .bool false) rfl (by kernel_rfl) (by kernel_rfl) (by kernel_rfl) (fun _ _ _ h => h) (Or.inl ⟨by rfl, fun wx hx => by simp [go_sem]⟩) hS ?_
  simp only [Act.put, List.getElem_toArray, List.getElem_cons_succ, List.getElem_cons_zero, List.setIfInBounds_toArray, List.set_cons_zero, List.set_cons_succ]
  refine wpAnyH_take (i := 6) (v := undef) rfl (by kernel_rfl) (by kernel_rfl) (by kernel_rfl) (fun _ _ _ h => h) (Or.inr ⟨by rfl, rfl⟩) hS ?_
  simp only [Act.put, List.getElem_toArray, List.getElem_cons_succ, List.getElem_cons_zero, List.setIfInBounds_toArray, List.set_cons_zero, List.set_cons_succ]
  refine wpAnyH_take (i := 7) (v := undef) rfl (by kernel_rfl) (by kernel_rfl) (by kernel_rfl) (fun _ _ _ h => h) (Or.inr ⟨by rfl, rfl⟩) hS ?_
  simp only [Act.put, List.getElem_toArray, List.getElem_cons_succ, List.getElem_cons_zero, List.setIfInBounds_toArray, List.set_cons_zero, List.set_cons_succ]
  refine wpAnyH_take (i := 8) (v := undef) rfl (by kernel_rfl) (by kernel_rfl) (by kernel_rfl) (fun _ _ _ h => h) (Or.inr ⟨by rfl, rfl⟩) hS ?_
  simp only [Act.put, List.getElem_toArray, List.getElem_cons_succ, List.getElem_cons_zero, List.setIfInBounds_toArray, List.set_cons_zero, List.set_cons_succ]
  refine wpAnyH_take (i := 9) (v := undef) rfl (by kernel_rfl) (by kernel_rfl) (by kernel_rfl) (fun _ _ _ h => h) (Or.inr ⟨by rfl, rfl⟩) hS ?_
  simp only [Act.put, List.getElem_toArray, List.getElem_cons_succ, List.getElem_cons_zero, List.setIfInBounds_toArray, List.set_cons_zero, List.set_cons_succ]
  refine wpAnyH_take (i := 10) (v := undef) rfl (by kernel_rfl) (by kernel_rfl) (by kernel_rfl) (fun _ _ _ h => h) (Or.inr ⟨by rfl, rfl⟩) hS ?_
  simp only [Act.put, List.getElem_toArray, List.getElem_cons_succ, List.getElem_cons_zero, List.setIfInBounds_toArray, List.set_cons_zero, List.set_cons_succ]
  refine wpAnyH_take (i := 11) (v := undef) rfl (by kernel_rfl) (by kernel_rfl) (by kernel_rfl) (fun _ _ _ h => h) (Or.inr ⟨by rfl, rfl⟩) hS ?_
  simp only [Act.put, List.getElem_toArray, List.getElem_cons_succ, List.getElem_cons_zero, List.setIfInBounds_toArray, List.set_cons_zero, List.set_cons_succ]
  refine wpAnyH_take (i := 12) (v := undef) rfl (by kernel_rfl) (by kernel_rfl) (by kernel_rfl) (fun _ _ _ h => h) (Or.inr ⟨by rfl, rfl⟩) hS ?_
  simp only [Act.put, List.getElem_toArray, List.getElem_cons_succ, List.getElem_cons_zero, List.setIfInBounds_toArray, List.set_cons_zero, List.set_cons_succ]
  refine wpAnyH_take (i := 13) (v := undef) rfl (by kernel_rfl) (by kernel_rfl) (by kernel_rfl) (fun _ _ _ h => h) (Or.inr ⟨by rfl, rfl⟩) hS ?_
  simp only [Act.put, List.getElem_toArray, List.getElem_cons_succ, List.getElem_cons_zero, List.setIfInBounds_toArray, List.set_cons_zero, List.set_cons_succ]
  refine wpAnyH_take (i := 14) (v := undef) rfl (by kernel_rfl) (by kernel_rfl) (by kernel_rfl) (fun _ _ _ h => h) (Or.inr ⟨by rfl, rfl⟩) hS ?_
  simp only [Act.put, List.getElem_toArray, List.getElem_cons_succ, List.getElem_cons_zero, List.setIfInBounds_toArray, List.set_cons_zero, List.set_cons_succ]
  refine wpAnyH_take (i := 15) (v := .bool false) rfl (by kernel_rfl) (by kernel_rfl) (by kernel_rfl) (fun _ _ _ h => h) (Or.inl ⟨by rfl, fun wx hx => by simp [go_sem]⟩) hS ?_
  simp only [Act.put, List.getElem_toArray, List.getElem_cons_succ, List.getElem_cons_zero, List.setIfInBounds_toArray, List.set_cons_zero, List.set_cons_succ]
  refine wpAnyH_take (i := 16) (v := .bool false) rfl (by kernel_rfl) (by kernel_rfl) (by kernel_rfl) (fun _ _ _ h => h) (Or.inl ⟨by rfl, fun wx hx => by simp [go_sem]⟩) hS ?_
  simp only [Act.put, List.getElem_toArray, List.getElem_cons_succ, List.getElem_cons_zero, List.setIfInBounds_toArray, List.set_cons_zero, List.set_cons_succ]
  refine wpAnyH_done (by kernel_rfl) ?_ _
  have HW3 : Hid (Wt w1.drew d g gl l x v) := HW2.out.next (Below.refl _ w1).drew
  replace HBW : Hid (Below w.heap.size w w1.drew) := HBW.out.trans ((Below.refl _ w1).drew.mono HBW.out.size)
  clear HW2 hS0 hS
  generalize World.drew w1 = w2 at *
  have c0 : w2.cell? ⟨g, 0, none⟩ = some (.int .i64 (n : Int)) := by rw [← HLN.out]; exact HW3.out.cnt
  go_upto_if 65 with (first
    | (with_reducible refine wpSeq_loadAt (.tmp 68) gl 33 x ?_ ?_ ?_ ?_ ?_ ?_
       · exact HX.out
       · exact HW3.out.leaf.index
       · with_reducible rfl
       · rfl
       · rfl)
    | (go_at_call 39; refine (pBit_any x HX.out _ _).mono ?_; rintro e w3 ⟨rfl, hbq⟩; rw [HBI.out]
       replace HW3 : Hid (Wt w3 d g gl l x v) := HW3.out.next hbq
       replace HBW : Hid (Below w.heap.size w w3) := HBW.out.trans (hbq.mono HBW.out.size)
       clear hbq c0))
  clear z0 z0' z1 z1'
  go_wp2_with fail
  have hS0 : Hid (∀ wx, Over w3.drew wx → Below w.heap.size w wx) := fun wx hx => Over.after hx HBW.out.drew
  obtain ⟨d1, HD1⟩ : ∃ z, Hid (z = d + 1) := ⟨_, rfl⟩
  have rd : IntKind.i64.wrap ((d : Int) + 1) = (d1 : Int) := by rw [IntKind.wrap_i64, HD1.out]; omega
  have HWC : Hid (∀ wx, Over w3.drew wx → Calls Tryd.prog 34 #[.pointer (some ⟨g1, 0, none⟩), .pointer (some ⟨gl, 0, none⟩), .int .i64 (d1 : Int)] wx fun e w' => ∃ g', e = .returned (.pointer (some ⟨g', 0, none⟩)) ∧ TreeIs w' (d + 1) g' (putL (halfL l d true) x v) ∧ Below wx.heap.size wx w') := fun wx hx => by rw [HD1.out]; exact HIH.out wx (hS0.out wx hx)
  refine wp_region_held_drew (S := Over w3.drew) (by kernel_rfl) (Over.refl _) ?_
  intro hS
  refine wpAnyH_take (i := 0) (v := .pointer (some ⟨g, 0, none⟩)) rfl (by kernel_rfl) (by kernel_rfl) (by kernel_rfl) (fun _ _ _ h => h) (Or.inl ⟨by rfl, fun wx hx => by simp [go_sem]⟩) hS ?_
  simp only [Act.put, List.getElem_toArray, List.getElem_cons_zero, List.setIfInBounds_toArray, List.set_cons_zero, List.set_cons_succ]
  refine wpAnyH_take (i := 1) (v := .pointer (some ⟨g, 0, none⟩)) rfl (by kernel_rfl) (by kernel_rfl) (by kernel_rfl) (fun _ _ _ h => h) (Or.inl ⟨by rfl, fun wx hx => by simp [go_sem]⟩) hS ?_
  simp only [Act.put, List.getElem_toArray, List.getElem_cons_succ, List.getElem_cons_zero, List.setIfInBounds_toArray, List.set_cons_zero, List.set_cons_succ]
  refine wpAnyH_take (i := 2) (v := .pointer (some ⟨g, 97, none⟩)) rfl (by kernel_rfl) (by kernel_rfl) (by kernel_rfl) (fun _ _ _ h => h) (Or.inl ⟨by rfl, fun wx hx => by simp [go_sem]⟩) hS ?_
  simp only [Act.put, List.getElem_toArray, List.getElem_cons_succ, List.getElem_cons_zero, List.setIfInBounds_toArray, List.set_cons_zero, List.set_cons_succ]
  refine wpAnyH_take (i := 3) (v := .pointer (some ⟨g0, 0, none⟩)) rfl (by kernel_rfl) (by kernel_rfl) (by kernel_rfl) (fun _ _ _ h => h) (Or.inl ⟨by rfl, fun wx hx => by (have hc := (HCC.out.next (hS0.out wx hx)).off; simp only [ptr] at hc; simp [go_sem, hc])⟩) hS ?_
  simp only [Act.put, List.getElem_toArray, List.getElem_cons_succ, List.getElem_cons_zero, List.setIfInBounds_toArray, List.set_cons_zero, List.set_cons_succ]
  refine wpAnyH_take (i := 4) (v := .pointer (some ⟨g, 0, none⟩)) rfl (by kernel_rfl) (by kernel_rfl) (by kernel_rfl) (fun _ _ _ h => h) (Or.inl ⟨by rfl, fun wx hx => by simp [go_sem]⟩) hS ?_
  simp only [Act.put, List.getElem_toArray, List.getElem_cons_succ, List.getElem_cons_zero, List.setIfInBounds_toArray, List.set_cons_zero, List.set_cons_succ]
  refine wpAnyH_take (i := 5) (v := .pointer (some ⟨g, 0, none⟩)) rfl (by kernel_rfl) (by kernel_rfl) (by kernel_rfl) (fun _ _ _ h => h) (Or.inl ⟨by rfl, fun wx hx => by simp [go_sem]⟩) hS ?_
  simp only [Act.put, List.getElem_toArray, List.getElem_cons_succ, List.getElem_cons_zero, List.setIfInBounds_toArray, List.set_cons_zero, List.set_cons_succ]
  refine wpAnyH_take (i := 6) (v := .pointer (some ⟨g, 98, none⟩)) rfl (by kernel_rfl) (by kernel_rfl) (by kernel_rfl) (fun _ _ _ h => h) (Or.inl ⟨by rfl, fun wx hx => by simp [go_sem]⟩) hS ?_
  simp only [Act.put, List.getElem_toArray, List.getElem_cons_succ, List.getElem_cons_zero, List.setIfInBounds_toArray, List.set_cons_zero, List.set_cons_succ]
  refine wpAnyH_take (i := 7) (v := .pointer (some ⟨g1, 0, none⟩)) rfl (by kernel_rfl) (by kernel_rfl) (by kernel_rfl) (fun _ _ _ h => h) (Or.inl ⟨by rfl, fun wx hx => by (have hc := (HCC.out.next (hS0.out wx hx)).on; simp only [ptr] at hc; simp [go_sem, hc])⟩) hS ?_
  simp only [Act.put, List.getElem_toArray, List.getElem_cons_succ, List.getElem_cons_zero, List.setIfInBounds_toArray, List.set_cons_zero, List.set_cons_succ]
  refine wpAnyH_take (i := 8) (v := .pointer (some ⟨gl, 0, none⟩)) rfl (by kernel_rfl) (by kernel_rfl) (by kernel_rfl) (fun _ _ _ h => h) (Or.inl ⟨by rfl, fun wx hx => by simp [go_sem]⟩) hS ?_
  simp only [Act.put, List.getElem_toArray, List.getElem_cons_succ, List.getElem_cons_zero, List.setIfInBounds_toArray, List.set_cons_zero, List.set_cons_succ]
  refine wpAnyH_take (i := 9) (v := .int .i64 (d : Int)) rfl (by kernel_rfl) (by kernel_rfl) (by kernel_rfl) (fun _ _ _ h => h) (Or.inl ⟨by rfl, fun wx hx => by simp [go_sem]⟩) hS ?_
  simp only [Act.put, List.getElem_toArray, List.getElem_cons_succ, List.getElem_cons_zero, List.setIfInBounds_toArray, List.set_cons_zero, List.set_cons_succ]
  refine wpAnyH_take (i := 10) (v := .int .i64 (d1 : Int)) rfl (by kernel_rfl) (by kernel_rfl) (by kernel_rfl) (fun _ _ _ h => h) (Or.inl ⟨by rfl, fun wx hx => by simp [go_sem, rd]⟩) hS ?_
  simp only [Act.put, List.getElem_toArray, List.getElem_cons_succ, List.getElem_cons_zero, List.setIfInBounds_toArray, List.set_cons_zero, List.set_cons_succ]
  refine wpAnyH_enter 11 (by kernel_rfl) rfl (by rfl) (f := 34) (args := #[.pointer (some ⟨g1, 0, none⟩), .pointer (some ⟨gl, 0, none⟩), .int .i64 (d1 : Int)]) (by simp [go_sem]) (HWC.out _ hS) ?_
  rintro e wy ⟨gn, rfl, htn, hbq⟩
  refine ⟨_, rfl, hS.more hbq, ?_⟩
  replace hS := hS.more hbq
  clear hbq
  simp only [Act.put, List.getElem_toArray, List.getElem_cons_succ, List.getElem_cons_zero, List.setIfInBounds_toArray, List.set_cons_zero, List.set_cons_succ]
  have hta : TreeIs wy (d + 1) g0 (halfL (putL l x v) d false) := by rw [HH0.out]; exact HT0.out.next (hS0.out _ hS)
  have htb : TreeIs wy (d + 1) gn (halfL (putL l x v) d true) := by rw [HH1.out]; exact htn
  obtain ⟨ix0, vl0, p0, q0, hc0⟩ := hta.cells
  obtain ⟨ix1, vl1, p1, q1, hc1⟩ := htb.cells
  have hlen : (halfL (putL l x v) d false).length + (halfL (putL l x v) d true).length = (putL l x v).length := (half_len HFP.out).symm
  refine wpAnyH_enter 12 (by kernel_rfl) rfl (by rfl) (f := 40) (args := #[.pointer (some ⟨g0, 0, none⟩), .pointer (some ⟨gn, 0, none⟩)]) (by simp [go_sem]) (trJoined_any g0 gn _ _ _ _ _ _ _ _ _ _ _ _ wy (HW3.out.kok.below (Over.after hS (Below.refl _ w3).drew) HW3.out.kok.lt) hc0 hc1 (by rw [hlen]; have := HL2.out.2; omega)) ?_
  rintro e wz ⟨gz, rfl, hcg, hbq⟩
  replace hta := hta.next hbq
  replace htb := htb.next hbq
  refine ⟨_, rfl, hS.more hbq, ?_⟩
  replace hS := hS.more hbq
  clear hbq
  have HTR : Hid (TreeIs wz d gz (putL l x v)) := by
    rw [hlen] at hcg
    refine .node d gz g0 gn _ HL2.out.1 HFP.out hta htb ?_
    rw [rootL_two HFP.out HL2.out.1]
    exact hcg
  clear hta htb hc0 hc1 hcg hlen htn
  simp only [Act.put, List.getElem_toArray, List.getElem_cons_succ, List.getElem_cons_zero, List.setIfInBounds_toArray, List.set_cons_zero, List.set_cons_succ]
  refine wpAnyH_take (i := 13) (v := .pointer (some ⟨gz, 0, none⟩)) rfl (by kernel_rfl) (by kernel_rfl) (by kernel_rfl) (fun _ _ _ h => h) (Or.inl ⟨by rfl, fun wx hx => by simp [go_sem]⟩) hS ?_
  simp only [Act.put, List.getElem_toArray, List.getElem_cons_succ, List.getElem_cons_zero, List.setIfInBounds_toArray, List.set_cons_zero, List.set_cons_succ]
  refine wpAnyH_done (by kernel_rfl) ?_ _
  go_wp2_with fail
  go_ret
  exact ⟨gz, rfl, HTR.out, hS0.out _ hS⟩
set_option maxRecDepth 100000 in
set_option maxHeartbeats 4000000 in
theorem trWith_off (w : World) (d g gl : Nat) (l : List Lf) (x v : List (BitVec 8)) (hW : Wt w d g gl l x v) (n : Nat) (hn : l.length = n) (h2 : 2 ≤ n) (hn2 : n < 90000) (g0 g1 : Nat) (ht0 : TreeIs w (d + 1) g0 (halfL l d false)) (ht1 : TreeIs w (d + 1) g1 (halfL l d true)) (hcc : TreeC w g l.length (rootL l d) zb32 zb32 (ptr g0) (ptr g1)) (hF : Fits l d) (hN : Near l x d) (hb : bt x d = false) (IH : ∀ W, Below w.heap.size w W → WithDoes (d + 1) g0 gl (halfL l d false) x v W) : WithDoes d g gl l x v w := by
  unfold WithDoes
  have HW : Hid (Wt w d g gl l x v) := hW
  have HLN : Hid (l.length = n) := hn
  have HX : Hid (x.length = 32) := HW.out.leaf.l2
  have hdl : d < 256 := hF.lt (by rw [hn]; exact h2)
  have HBI : Hid (bitI x (d : Int) = false) := by show _ = _; rw [bitI_nat _ _ hdl]; exact hb
  have HT0 : Hid (TreeIs w (d + 1) g0 (halfL l d false)) := ht0
  have HT1 : Hid (TreeIs w (d + 1) g1 (halfL l d true)) := ht1
  have HCC : Hid (TreeC w g l.length (rootL l d) zb32 zb32 (ptr g0) (ptr g1)) := hcc
  have HFP : Hid (Fits (putL l x v) d) := hF.put hN HX.out HW.out.leaf.l3
  have HH0 : Hid (halfL (putL l x v) d false = putL (halfL l d false) x v) := by show _ = _; exact (by have h := half_put_on (v := v) (d := d) hF.1 hF.2.1 HX.out; rw [hb] at h; exact h)
  have HH1 : Hid (halfL (putL l x v) d true = halfL l d true) := by show _ = _; exact half_put_off hF.1 hF.2.1 HX.out (by rw [hb]; decide)
  have HL2 : Hid (2 ≤ (putL l x v).length ∧ (putL l x v).length < 100000) := by
    have h := putL_count (v := v) hF.1 hF.2.1 HX.out
    show _ ∧ _
    rw [h, hn]
    split <;> omega
  have HIH : Aside _ := IH
  have z0 : ¬ ((n : Int) = 0) := by omega
  have z0' : ((n : Int) == 0) = false := by rw [beq_eq_false_iff_ne]; omega
  have z1 : ¬ ((n : Int) = 1) := by omega
  have z1' : ((n : Int) == 1) = false := by rw [beq_eq_false_iff_ne]; omega
  clear hn hF hN hb IH ht0 ht1 hcc
  have hS0 : Hid (∀ wx, Over w.drew wx → Below w.heap.size w wx) := fun wx hx => Over.after hx (Below.refl _ w).drew
  clear hW
  go_enter Tryd.func34, Tryd.ntmps34
  go_wp2_with fail
  refine wp_region_held_drew (S := Over w.drew) (by kernel_rfl) (Over.refl _) ?_
  intro hS
  refine wpAnyH_take (i := 0) (v := .pointer (some ⟨g, 0, none⟩)) rfl (by kernel_rfl) (by kernel_rfl) (by kernel_rfl) (fun _ _ _ h => h) (Or.inl ⟨by rfl, fun wx hx => by simp [go_sem]⟩) hS ?_
  simp only [Act.put, List.getElem_toArray, List.getElem_cons_zero, List.setIfInBounds_toArray, List.set_cons_zero, List.set_cons_succ]
  refine wpAnyH_take (i := 1) (v := .pointer (some ⟨g, 0, none⟩)) rfl (by kernel_rfl) (by kernel_rfl) (by kernel_rfl) (fun _ _ _ h => h) (Or.inl ⟨by rfl, fun wx hx => by simp [go_sem]⟩) hS ?_
  simp only [Act.put, List.getElem_toArray, List.getElem_cons_succ, List.getElem_cons_zero, List.setIfInBounds_toArray, List.set_cons_zero, List.set_cons_succ]
  refine wpAnyH_take (i := 2) (v := .pointer (some ⟨g, 0, none⟩)) rfl (by kernel_rfl) (by kernel_rfl) (by kernel_rfl) (fun _ _ _ h => h) (Or.inl ⟨by rfl, fun wx hx => by simp [go_sem]⟩) hS ?_
  simp only [Act.put, List.getElem_toArray, List.getElem_cons_succ, List.getElem_cons_zero, List.setIfInBounds_toArray, List.set_cons_zero, List.set_cons_succ]
  refine wpAnyH_take (i := 3) (v := .int .i64 (n : Int)) rfl (by kernel_rfl) (by kernel_rfl) (by kernel_rfl) (fun _ _ _ h => h) (Or.inl ⟨by rfl, fun wx hx => by (have hc := (HW.out.next (hS0.out wx hx)).cnt; rw [HLN.out] at hc; simp [go_sem, hc])⟩) hS ?_
  simp only [Act.put, List.getElem_toArray, List.getElem_cons_succ, List.getElem_cons_zero, List.setIfInBounds_toArray, List.set_cons_zero, List.set_cons_succ]
  refine wpAnyH_take (i := 4) (v := .bool false) rfl (by kernel_rfl) (by kernel_rfl) (by kernel_rfl) (fun _ _ _ h => h) (Or.inl ⟨by rfl, fun wx hx => by (simp [go_sem]; omega)⟩) hS ?_
  simp only [Act.put, List.getElem_toArray, List.getElem_cons_succ, List.getElem_cons_zero, List.setIfInBounds_toArray, List.set_cons_zero, List.set_cons_succ]
  refine wpAnyH_take (i := 5) (v := .bool false) rfl (by kernel_rfl) (by kernel_rfl) (by kernel_rfl) (fun _ _ _ h => h) (Or.inl ⟨by rfl, fun wx hx => by simp [go_sem]⟩) hS ?_
  simp only [Act.put, List.getElem_toArray, List.getElem_cons_succ, List.getElem_cons_zero, List.setIfInBounds_toArray, List.set_cons_zero, List.set_cons_succ]
  refine wpAnyH_take (i := 6) (v := .pointer (some ⟨g, 0, none⟩)) rfl (by kernel_rfl) (by kernel_rfl) (by kernel_rfl) (fun _ _ _ h => h) (Or.inl ⟨by rfl, fun wx hx => by simp [go_sem]⟩) hS ?_
  simp only [Act.put, List.getElem_toArray, List.getElem_cons_succ, List.getElem_cons_zero, List.setIfInBounds_toArray, List.set_cons_zero, List.set_cons_succ]
  refine wpAnyH_take (i := 7) (v := .pointer (some ⟨g, 0, none⟩)) rfl (by kernel_rfl) (by kernel_rfl) (by kernel_rfl) (fun _ _ _ h => h) (Or.inl ⟨by rfl, fun wx hx => by simp [go_sem]⟩) hS ?_
  simp only [Act.put, List.getElem_toArray, List.getElem_cons_succ, List.getElem_cons_zero, List.setIfInBounds_toArray, List.set_cons_zero, List.set_cons_succ]
  refine wpAnyH_take (i := 8) (v := .pointer (some ⟨g, 0, none⟩)) rfl (by kernel_rfl) (by kernel_rfl) (by kernel_rfl) (fun _ _ _ h => h) (Or.inl ⟨by rfl, fun wx hx => by simp [go_sem]⟩) hS ?_
  simp only [Act.put, List.getElem_toArray, List.getElem_cons_succ, List.getElem_cons_zero, List.setIfInBounds_toArray, List.set_cons_zero, List.set_cons_succ]
  refine wpAnyH_take (i := 9) (v := .int .i64 (n : Int)) rfl (by kernel_rfl) (by kernel_rfl) (by kernel_rfl) (fun _ _ _ h => h) (Or.inl ⟨by rfl, fun wx hx => by (have hc := (HW.out.next (hS0.out wx hx)).cnt; rw [HLN.out] at hc; simp [go_sem, hc])⟩) hS ?_
  simp only [Act.put, List.getElem_toArray, List.getElem_cons_succ, List.getElem_cons_zero, List.setIfInBounds_toArray, List.set_cons_zero, List.set_cons_succ]
  refine wpAnyH_take (i := 10) (v := .bool false) rfl (by kernel_rfl) (by kernel_rfl) (by kernel_rfl) (fun _ _ _ h => h) (Or.inl ⟨by rfl, fun wx hx => by simp [go_sem, z1]⟩) hS ?_
  simp only [Act.put, List.getElem_toArray, List.getElem_cons_succ, List.getElem_cons_zero, List.setIfInBounds_toArray, List.set_cons_zero, List.set_cons_succ]
  refine wpAnyH_take (i := 11) (v := .bool false) rfl (by kernel_rfl) (by kernel_rfl) (by kernel_rfl) (fun _ _ _ h => h) (Or.inl ⟨by rfl, fun wx hx => by simp [go_sem]⟩) hS ?_
  simp only [Act.put, List.getElem_toArray, List.getElem_cons_succ, List.getElem_cons_zero, List.setIfInBounds_toArray, List.set_cons_zero, List.set_cons_succ]
  refine wpAnyH_take (i := 12) (v := undef) rfl (by kernel_rfl) (by kernel_rfl) (by kernel_rfl) (fun _ _ _ h => h) (Or.inr ⟨by rfl, rfl⟩) hS ?_
  simp only [Act.put, List.getElem_toArray, List.getElem_cons_succ, List.getElem_cons_zero, List.setIfInBounds_toArray, List.set_cons_zero, List.set_cons_succ]
  refine wpAnyH_take (i := 13) (v := undef) rfl (by kernel_rfl) (by kernel_rfl) (by kernel_rfl) (fun _ _ _ h => h) (Or.inr ⟨by rfl, rfl⟩) hS ?_
  simp only [Act.put, List.getElem_toArray, List.getElem_cons_succ, List.getElem_cons_zero, List.setIfInBounds_toArray, List.set_cons_zero, List.set_cons_succ]
  refine wpAnyH_take (i := 14) (v := undef) rfl (by kernel_rfl) (by kernel_rfl) (by kernel_rfl) (fun _ _ _ h => h) (Or.inr ⟨by rfl, rfl⟩) hS ?_
  simp only [Act.put, List.getElem_toArray, List.getElem_cons_succ, List.getElem_cons_zero, List.setIfInBounds_toArray, List.set_cons_zero, List.set_cons_succ]
  refine wpAnyH_take (i := 15) (v := undef) rfl (by kernel_rfl) (by kernel_rfl) (by kernel_rfl) (fun _ _ _ h => h) (Or.inr ⟨by rfl, rfl⟩) hS ?_
  simp only [Act.put, List.getElem_toArray, List.getElem_cons_succ, List.getElem_cons_zero, List.setIfInBounds_toArray, List.set_cons_zero, List.set_cons_succ]
  refine wpAnyH_take (i := 16) (v := undef) rfl (by kernel_rfl) (by kernel_rfl) (by kernel_rfl) (fun _ _ _ h => h) (Or.inr ⟨by rfl, rfl⟩) hS ?_
  simp only [Act.put, List.getElem_toArray, List.getElem_cons_succ, List.getElem_cons_zero, List.setIfInBounds_toArray, List.set_cons_zero, List.set_cons_succ]
  refine wpAnyH_take (i := 17) (v := undef) rfl (by kernel_rfl) (by kernel_rfl) (by kernel_rfl) (fun _ _ _ h => h) (Or.inr ⟨by rfl, rfl⟩) hS ?_
  simp only [Act.put, List.getElem_toArray, List.getElem_cons_succ, List.getElem_cons_zero, List.setIfInBounds_toArray, List.set_cons_zero, List.set_cons_succ]
  refine wpAnyH_take (i := 18) (v := undef) rfl (by kernel_rfl) (by kernel_rfl) (by kernel_rfl) (fun _ _ _ h => h) (Or.inr ⟨by rfl, rfl⟩) hS ?_
  simp only [Act.put, List.getElem_toArray, List.getElem_cons_succ, List.getElem_cons_zero, List.setIfInBounds_toArray, List.set_cons_zero, List.set_cons_succ]
  refine wpAnyH_take (i := 19) (v := undef) rfl (by kernel_rfl) (by kernel_rfl) (by kernel_rfl) (fun _ _ _ h => h) (Or.inr ⟨by rfl, rfl⟩) hS ?_
  simp only [Act.put, List.getElem_toArray, List.getElem_cons_succ, List.getElem_cons_zero, List.setIfInBounds_toArray, List.set_cons_zero, List.set_cons_succ]
  refine wpAnyH_take (i := 20) (v := undef) rfl (by kernel_rfl) (by kernel_rfl) (by kernel_rfl) (fun _ _ _ h => h) (Or.inr ⟨by rfl, rfl⟩) hS ?_
  simp only [Act.put, List.getElem_toArray, List.getElem_cons_succ, List.getElem_cons_zero, List.setIfInBounds_toArray, List.set_cons_zero, List.set_cons_succ]
  refine wpAnyH_take (i := 21) (v := .bool false) rfl (by kernel_rfl) (by kernel_rfl) (by kernel_rfl) (fun _ _ _ h => h) (Or.inl ⟨by rfl, fun wx hx => by simp [go_sem]⟩) hS ?_
  simp only [Act.put, List.getElem_toArray, List.getElem_cons_succ, List.getElem_cons_zero, List.setIfInBounds_toArray, List.set_cons_zero, List.set_cons_succ]
  refine wpAnyH_take (i := 22) (v := .bool false) rfl (by kernel_rfl) (by kernel_rfl) (by kernel_rfl) (fun _ _ _ h => h) (Or.inl ⟨by rfl, fun wx hx => by simp [go_sem]⟩) hS ?_
  simp only [Act.put, List.getElem_toArray, List.getElem_cons_succ, List.getElem_cons_zero, List.setIfInBounds_toArray, List.set_cons_zero, List.set_cons_succ]
  refine wpAnyH_take (i := 23) (v := .bool false) rfl (by kernel_rfl) (by kernel_rfl) (by kernel_rfl) (fun _ _ _ h => h) (Or.inl ⟨by rfl, fun wx hx => by simp [go_sem]⟩) hS ?_
  simp only [Act.put, List.getElem_toArray, List.getElem_cons_succ, List.getElem_cons_zero, List.setIfInBounds_toArray, List.set_cons_zero, List.set_cons_succ]
  refine wpAnyH_done (by kernel_rfl) ?_ _
  have HW2 : Hid (Wt w.drew d g gl l x v) := HW.out.next (Below.refl _ w).drew
  have HBW : Hid (Below w.heap.size w w.drew) := (Below.refl _ w).drew
  clear HW hS0 hS
  generalize World.drew w = w1 at *
  have hS0 : Hid (∀ wx, Over w1.drew wx → Below w1.heap.size w1 wx) := fun wx hx => Over.after hx (Below.refl _ w1).drew
  go_wp2_with fail
  refine wp_region_held_drew (S := Over w1.drew) (by kernel_rfl) (Over.refl _) ?_
  intro hS
  refine wpAnyH_take (i := 0) (v := .pointer (some ⟨g, 0, none⟩)) rfl (by kernel_rfl) (by kernel_rfl) (by kernel_rfl) (fun _ _ _ h => h) (Or.inl ⟨by rfl, fun wx hx => by simp [go_sem]⟩) hS ?_
  simp only [Act.put, List.getElem_toArray, List.getElem_cons_zero, List.setIfInBounds_toArray, List.set_cons_zero, List.set_cons_succ]
  refine wpAnyH_take (i := 1) (v := .pointer (some ⟨g, 0, none⟩)) rfl (by kernel_rfl) (by kernel_rfl) (by kernel_rfl) (fun _ _ _ h => h) (Or.inl ⟨by rfl, fun wx hx => by simp [go_sem]⟩) hS ?_
  simp only [Act.put, List.getElem_toArray, List.getElem_cons_succ, List.getElem_cons_zero, List.setIfInBounds_toArray, List.set_cons_zero, List.set_cons_succ]
  refine wpAnyH_take (i := 2) (v := .pointer (some ⟨g, 0, none⟩)) rfl (by kernel_rfl) (by kernel_rfl) (by kernel_rfl) (fun _ _ _ h => h) (Or.inl ⟨by rfl, fun wx hx => by simp [go_sem]⟩) hS ?_
  simp only [Act.put, List.getElem_toArray, List.getElem_cons_succ, List.getElem_cons_zero, List.setIfInBounds_toArray, List.set_cons_zero, List.set_cons_succ]
  refine wpAnyH_take (i := 3) (v := .int .i64 (n : Int)) rfl (by kernel_rfl) (by kernel_rfl) (by kernel_rfl) (fun _ _ _ h => h) (Or.inl ⟨by rfl, fun wx hx => by (have hc := (HW2.out.next (hS0.out wx hx)).cnt; rw [HLN.out] at hc; simp [go_sem, hc])⟩) hS ?_
  simp only [Act.put, List.getElem_toArray, List.getElem_cons_succ, List.getElem_cons_zero, List.setIfInBounds_toArray, List.set_cons_zero, List.set_cons_succ]
  refine wpAnyH_take (i := 4) (v := .bool false) rfl (by kernel_rfl) (by kernel_rfl) (by kernel_rfl) (fun _ _ _ h => h) (Or.inl ⟨by rfl, fun wx hx => by simp [go_sem, z1]⟩) hS ?_
  simp only [Act.put, List.getElem_toArray, List.getElem_cons_succ, List.getElem_cons_zero, List.setIfInBounds_toArray, List.set_cons_zero, List.set_cons_succ]
  refine wpAnyH_take (i := 5) (v := .bool false) rfl (by kernel_rfl) (by kernel_rfl) (by kernel_rfl) (fun _ _ _ h => h) (Or.inl ⟨by rfl, fun wx hx => by simp [go_sem]⟩) hS ?_
  simp only [Act.put, List.getElem_toArray, List.getElem_cons_succ, List.getElem_cons_zero, List.setIfInBounds_toArray, List.set_cons_zero, List.set_cons_succ]
  refine wpAnyH_take (i := 6) (v := undef) rfl (by kernel_rfl) (by kernel_rfl) (by kernel_rfl) (fun _ _ _ h => h) (Or.inr ⟨by rfl, rfl⟩) hS ?_
  simp only [Act.put, List.getElem_toArray, List.getElem_cons_succ, List.getElem_cons_zero, List.setIfInBounds_toArray, List.set_cons_zero, List.set_cons_succ]
  refine wpAnyH_take (i := 7) (v := undef) rfl (by kernel_rfl) (by kernel_rfl) (by kernel_rfl) (fun _ _ _ h => h) (Or.inr ⟨by rfl, rfl⟩) hS ?_
  simp only [Act.put, List.getElem_toArray, List.getElem_cons_succ, List.getElem_cons_zero, List.setIfInBounds_toArray, List.set_cons_zero, List.set_cons_succ]
  refine wpAnyH_take (i := 8) (v := undef) rfl (by kernel_rfl) (by kernel_rfl) (by kernel_rfl) (fun _ _ _ h => h) (Or.inr ⟨by rfl, rfl⟩) hS ?_
  simp only [Act.put, List.getElem_toArray, List.getElem_cons_succ, List.getElem_cons_zero, List.setIfInBounds_toArray, List.set_cons_zero, List.set_cons_succ]
  refine wpAnyH_take (i := 9) (v := undef) rfl (by kernel_rfl) (by kernel_rfl) (by kernel_rfl) (fun _ _ _ h => h) (Or.inr ⟨by rfl, rfl⟩) hS ?_
  simp only [Act.put, List.getElem_toArray, List.getElem_cons_succ, List.getElem_cons_zero, List.setIfInBounds_toArray, List.set_cons_zero, List.set_cons_succ]
  refine wpAnyH_take (i := 10) (v := undef) rfl (by kernel_rfl) (by kernel_rfl) (by kernel_rfl) (fun _ _ _ h => h) (Or.inr ⟨by rfl, rfl⟩) hS ?_
  simp only [Act.put, List.getElem_toArray, List.getElem_cons_succ, List.getElem_cons_zero, List.setIfInBounds_toArray, List.set_cons_zero, List.set_cons_succ]
  refine wpAnyH_take (i := 11) (v := undef) rfl (by kernel_rfl) (by kernel_rfl) (by kernel_rfl) (fun _ _ _ h => h) (Or.inr ⟨by rfl, rfl⟩) hS ?_
  simp only [Act.put, List.getElem_toArray, List.getElem_cons_succ, List.getElem_cons_zero, List.setIfInBounds_toArray, List.set_cons_zero, List.set_cons_succ]
  refine wpAnyH_take (i := 12) (v := undef) rfl (by kernel_rfl) (by kernel_rfl) (by kernel_rfl) (fun _ _ _ h => h) (Or.inr ⟨by rfl, rfl⟩) hS ?_
  simp only [Act.put, List.getElem_toArray, List.getElem_cons_succ, List.getElem_cons_zero, List.setIfInBounds_toArray, List.set_cons_zero, List.set_cons_succ]
  refine wpAnyH_take (i := 13) (v := undef) rfl (by kernel_rfl) (by kernel_rfl) (by kernel_rfl) (fun _ _ _ h => h) (Or.inr ⟨by rfl, rfl⟩) hS ?_
  simp only [Act.put, List.getElem_toArray, List.getElem_cons_succ, List.getElem_cons_zero, List.setIfInBounds_toArray, List.set_cons_zero, List.set_cons_succ]
  refine wpAnyH_take (i := 14) (v := undef) rfl (by kernel_rfl) (by kernel_rfl) (by kernel_rfl) (fun _ _ _ h => h) (Or.inr ⟨by rfl, rfl⟩) hS ?_
  simp only [Act.put, List.getElem_toArray, List.getElem_cons_succ, List.getElem_cons_zero, List.setIfInBounds_toArray, List.set_cons_zero, List.set_cons_succ]
  refine wpAnyH_take (i := 15) (v := .bool false) rfl (by kernel_rfl) (by kernel_rfl) (by kernel_rfl) (fun _ _ _ h => h) (Or.inl ⟨by rfl, fun wx hx => by simp [go_sem]⟩) hS ?_
  simp only [Act.put, List.getElem_toArray, List.getElem_cons_succ, List.getElem_cons_zero, List.setIfInBounds_toArray, List.set_cons_zero, List.set_cons_succ]
  refine wpAnyH_take (i := 16) (v := .bool false) rfl (by kernel_rfl) (by kernel_rfl) (by kernel_rfl) (fun _ _ _ h => h) (Or.inl ⟨by rfl, fun wx hx => by simp [go_sem]⟩) hS ?_
  simp only [Act.put, List.getElem_toArray, List.getElem_cons_succ, List.getElem_cons_zero, List.setIfInBounds_toArray, List.set_cons_zero, List.set_cons_succ]
  refine wpAnyH_done (by kernel_rfl) ?_ _
  have HW3 : Hid (Wt w1.drew d g gl l x v) := HW2.out.next (Below.refl _ w1).drew
  replace HBW : Hid (Below w.heap.size w w1.drew) := HBW.out.trans ((Below.refl _ w1).drew.mono HBW.out.size)
  clear HW2 hS0 hS
  generalize World.drew w1 = w2 at *
  have c0 : w2.cell? ⟨g, 0, none⟩ = some (.int .i64 (n : Int)) := by rw [← HLN.out]; exact HW3.out.cnt
  go_upto_if 65 with (first
    | (with_reducible refine wpSeq_loadAt (.tmp 68) gl 33 x ?_ ?_ ?_ ?_ ?_ ?_
       · exact HX.out
       · exact HW3.out.leaf.index
       · with_reducible rfl
       · rfl
       · rfl)
    | (go_at_call 39; refine (pBit_any x HX.out _ _).mono ?_; rintro e w3 ⟨rfl, hbq⟩; rw [HBI.out]
       replace HW3 : Hid (Wt w3 d g gl l x v) := HW3.out.next hbq
       replace HBW : Hid (Below w.heap.size w w3) := HBW.out.trans (hbq.mono HBW.out.size)
       clear hbq c0))
  clear z0 z0' z1 z1'
  go_wp2_with fail
  have hS0 : Hid (∀ wx, Over w3.drew wx → Below w.heap.size w wx) := fun wx hx => Over.after hx HBW.out.drew
  obtain ⟨d1, HD1⟩ : ∃ z, Hid (z = d + 1) := ⟨_, rfl⟩
  have rd : IntKind.i64.wrap ((d : Int) + 1) = (d1 : Int) := by rw [IntKind.wrap_i64, HD1.out]; omega
  have HWC : Hid (∀ wx, Over w3.drew wx → Calls Tryd.prog 34 #[.pointer (some ⟨g0, 0, none⟩), .pointer (some ⟨gl, 0, none⟩), .int .i64 (d1 : Int)] wx fun e w' => ∃ g', e = .returned (.pointer (some ⟨g', 0, none⟩)) ∧ TreeIs w' (d + 1) g' (putL (halfL l d false) x v) ∧ Below wx.heap.size wx w') := fun wx hx => by rw [HD1.out]; exact HIH.out wx (hS0.out wx hx)
  refine wp_region_held_drew (S := Over w3.drew) (by kernel_rfl) (Over.refl _) ?_
  intro hS
  refine wpAnyH_take (i := 0) (v := .pointer (some ⟨g, 0, none⟩)) rfl (by kernel_rfl) (by kernel_rfl) (by kernel_rfl) (fun _ _ _ h => h) (Or.inl ⟨by rfl, fun wx hx => by simp [go_sem]⟩) hS ?_
  simp only [Act.put, List.getElem_toArray, List.getElem_cons_zero, List.setIfInBounds_toArray, List.set_cons_zero, List.set_cons_succ]
  refine wpAnyH_take (i := 1) (v := .pointer (some ⟨g, 0, none⟩)) rfl (by kernel_rfl) (by kernel_rfl) (by kernel_rfl) (fun _ _ _ h => h) (Or.inl ⟨by rfl, fun wx hx => by simp [go_sem]⟩) hS ?_
  simp only [Act.put, List.getElem_toArray, List.getElem_cons_succ, List.getElem_cons_zero, List.setIfInBounds_toArray, List.set_cons_zero, List.set_cons_succ]
  refine wpAnyH_take (i := 2) (v := .pointer (some ⟨g, 97, none⟩)) rfl (by kernel_rfl) (by kernel_rfl) (by kernel_rfl) (fun _ _ _ h => h) (Or.inl ⟨by rfl, fun wx hx => by simp [go_sem]⟩) hS ?_
  simp only [Act.put, List.getElem_toArray, List.getElem_cons_succ, List.getElem_cons_zero, List.setIfInBounds_toArray, List.set_cons_zero, List.set_cons_succ]
  refine wpAnyH_take (i := 3) (v := .pointer (some ⟨g0, 0, none⟩)) rfl (by kernel_rfl) (by kernel_rfl) (by kernel_rfl) (fun _ _ _ h => h) (Or.inl ⟨by rfl, fun wx hx => by (have hc := (HCC.out.next (hS0.out wx hx)).off; simp only [ptr] at hc; simp [go_sem, hc])⟩) hS ?_
  simp only [Act.put, List.getElem_toArray, List.getElem_cons_succ, List.getElem_cons_zero, List.setIfInBounds_toArray, List.set_cons_zero, List.set_cons_succ]
  refine wpAnyH_take (i := 4) (v := .pointer (some ⟨gl, 0, none⟩)) rfl (by kernel_rfl) (by kernel_rfl) (by kernel_rfl) (fun _ _ _ h => h) (Or.inl ⟨by rfl, fun wx hx => by simp [go_sem]⟩) hS ?_
  simp only [Act.put, List.getElem_toArray, List.getElem_cons_succ, List.getElem_cons_zero, List.setIfInBounds_toArray, List.set_cons_zero, List.set_cons_succ]
  refine wpAnyH_take (i := 5) (v := .int .i64 (d : Int)) rfl (by kernel_rfl) (by kernel_rfl) (by kernel_rfl) (fun _ _ _ h => h) (Or.inl ⟨by rfl, fun wx hx => by simp [go_sem]⟩) hS ?_
  simp only [Act.put, List.getElem_toArray, List.getElem_cons_succ, List.getElem_cons_zero, List.setIfInBounds_toArray, List.set_cons_zero, List.set_cons_succ]
  refine wpAnyH_take (i := 6) (v := .int .i64 (d1 : Int)) rfl (by kernel_rfl) (by kernel_rfl) (by kernel_rfl) (fun _ _ _ h => h) (Or.inl ⟨by rfl, fun wx hx => by simp [go_sem, rd]⟩) hS ?_
  simp only [Act.put, List.getElem_toArray, List.getElem_cons_succ, List.getElem_cons_zero, List.setIfInBounds_toArray, List.set_cons_zero, List.set_cons_succ]
  refine wpAnyH_take (i := 8) (v := .pointer (some ⟨g, 0, none⟩)) rfl (by kernel_rfl) (by kernel_rfl) (by kernel_rfl) (fun _ _ _ h => h) (Or.inl ⟨by rfl, fun wx hx => by simp [go_sem]⟩) hS ?_
  simp only [Act.put, List.getElem_toArray, List.getElem_cons_succ, List.getElem_cons_zero, List.setIfInBounds_toArray, List.set_cons_zero, List.set_cons_succ]
  refine wpAnyH_take (i := 9) (v := .pointer (some ⟨g, 0, none⟩)) rfl (by kernel_rfl) (by kernel_rfl) (by kernel_rfl) (fun _ _ _ h => h) (Or.inl ⟨by rfl, fun wx hx => by simp [go_sem]⟩) hS ?_
  simp only [Act.put, List.getElem_toArray, List.getElem_cons_succ, List.getElem_cons_zero, List.setIfInBounds_toArray, List.set_cons_zero, List.set_cons_succ]
  refine wpAnyH_take (i := 10) (v := .pointer (some ⟨g, 98, none⟩)) rfl (by kernel_rfl) (by kernel_rfl) (by kernel_rfl) (fun _ _ _ h => h) (Or.inl ⟨by rfl, fun wx hx => by simp [go_sem]⟩) hS ?_
  simp only [Act.put, List.getElem_toArray, List.getElem_cons_succ, List.getElem_cons_zero, List.setIfInBounds_toArray, List.set_cons_zero, List.set_cons_succ]
  refine wpAnyH_take (i := 11) (v := .pointer (some ⟨g1, 0, none⟩)) rfl (by kernel_rfl) (by kernel_rfl) (by kernel_rfl) (fun _ _ _ h => h) (Or.inl ⟨by rfl, fun wx hx => by (have hc := (HCC.out.next (hS0.out wx hx)).on; simp only [ptr] at hc; simp [go_sem, hc])⟩) hS ?_
  simp only [Act.put, List.getElem_toArray, List.getElem_cons_succ, List.getElem_cons_zero, List.setIfInBounds_toArray, List.set_cons_zero, List.set_cons_succ]
  refine wpAnyH_enter 7 (by kernel_rfl) rfl (by rfl) (f := 34) (args := #[.pointer (some ⟨g0, 0, none⟩), .pointer (some ⟨gl, 0, none⟩), .int .i64 (d1 : Int)]) (by simp [go_sem]) (HWC.out _ hS) ?_
  rintro e wy ⟨gn, rfl, htn, hbq⟩
  refine ⟨_, rfl, hS.more hbq, ?_⟩
  replace hS := hS.more hbq
  clear hbq
  simp only [Act.put, List.getElem_toArray, List.getElem_cons_succ, List.getElem_cons_zero, List.setIfInBounds_toArray, List.set_cons_zero, List.set_cons_succ]
  have hta : TreeIs wy (d + 1) gn (halfL (putL l x v) d false) := by rw [HH0.out]; exact htn
  have htb : TreeIs wy (d + 1) g1 (halfL (putL l x v) d true) := by rw [HH1.out]; exact HT1.out.next (hS0.out _ hS)
  obtain ⟨ix0, vl0, p0, q0, hc0⟩ := hta.cells
  obtain ⟨ix1, vl1, p1, q1, hc1⟩ := htb.cells
  have hlen : (halfL (putL l x v) d false).length + (halfL (putL l x v) d true).length = (putL l x v).length := (half_len HFP.out).symm
  refine wpAnyH_enter 12 (by kernel_rfl) rfl (by rfl) (f := 40) (args := #[.pointer (some ⟨gn, 0, none⟩), .pointer (some ⟨g1, 0, none⟩)]) (by simp [go_sem]) (trJoined_any gn g1 _ _ _ _ _ _ _ _ _ _ _ _ wy (HW3.out.kok.below (Over.after hS (Below.refl _ w3).drew) HW3.out.kok.lt) hc0 hc1 (by rw [hlen]; have := HL2.out.2; omega)) ?_
  rintro e wz ⟨gz, rfl, hcg, hbq⟩
  replace hta := hta.next hbq
  replace htb := htb.next hbq
  refine ⟨_, rfl, hS.more hbq, ?_⟩
  replace hS := hS.more hbq
  clear hbq
  have HTR : Hid (TreeIs wz d gz (putL l x v)) := by
    rw [hlen] at hcg
    refine .node d gz gn g1 _ HL2.out.1 HFP.out hta htb ?_
    rw [rootL_two HFP.out HL2.out.1]
    exact hcg
  clear hta htb hc0 hc1 hcg hlen htn
  simp only [Act.put, List.getElem_toArray, List.getElem_cons_succ, List.getElem_cons_zero, List.setIfInBounds_toArray, List.set_cons_zero, List.set_cons_succ]
  refine wpAnyH_take (i := 13) (v := .pointer (some ⟨gz, 0, none⟩)) rfl (by kernel_rfl) (by kernel_rfl) (by kernel_rfl) (fun _ _ _ h => h) (Or.inl ⟨by rfl, fun wx hx => by simp [go_sem]⟩) hS ?_
  simp only [Act.put, List.getElem_toArray, List.getElem_cons_succ, List.getElem_cons_zero, List.setIfInBounds_toArray, List.set_cons_zero, List.set_cons_succ]
  refine wpAnyH_done (by kernel_rfl) ?_ _
  go_wp2_with fail
  go_ret
  exact ⟨gz, rfl, HTR.out, hS0.out _ hS⟩
theorem trWith_any : ∀ (f d g gl : Nat) (l : List Lf) (x v : List (BitVec 8)) (w : World), 256 ≤ d + f → d ≤ 256 → Wt w d g gl l x v → Fits l d → Near l x d → l.length < 90000 → WithDoes d g gl l x v w
  | f, d, g, gl, l, x, v, w, hf, hd, hW, hF, hN, hl => by
    by_cases h2 : 2 ≤ l.length
    · obtain ⟨g0, g1, ht0, ht1, hcc⟩ := hW.tree.two h2
      have hdl := hF.lt h2
      match f with
      | 0 => omega
      | f + 1 =>
        cases hb : bt x d with
        | true =>
          refine trWith_on w d g gl l x v hW l.length rfl h2 hl g0 g1 ht0 ht1 hcc hF hN hb fun W hB => ?_
          have hn := hN.half
          rw [hb] at hn
          exact trWith_any f (d + 1) g1 gl (halfL l d true) x v W (by omega) (by omega) ⟨(hW.next hB).kok, ht1.next hB, (hW.next hB).leaf⟩ (hF.half _) hn (Nat.lt_of_le_of_lt (half_le _ _ _) hl)
        | false =>
          refine trWith_off w d g gl l x v hW l.length rfl h2 hl g0 g1 ht0 ht1 hcc hF hN hb fun W hB => ?_
          have hn := hN.half
          rw [hb] at hn
          exact trWith_any f (d + 1) g0 gl (halfL l d false) x v W (by omega) (by omega) ⟨(hW.next hB).kok, ht0.next hB, (hW.next hB).leaf⟩ (hF.half _) hn (Nat.lt_of_le_of_lt (half_le _ _ _) hl)
    · match l, h2 with
      | [], _ => exact trWith_nil w d g gl [] x v hW rfl
      | [(y, u)], _ =>
        by_cases e : y = x
        · subst e
          exact trWith_same w d g gl _ y v hW u rfl
        · cases hls : lessB y x with
          | true => exact trWith_less w d g gl _ x v hW y u rfl e hls hF hN hd
          | false => exact trWith_more w d g gl _ x v hW y u rfl e hls hF hN hd
      | _ :: _ :: _, h2 => exact absurd (by simp) h2
end Go.Proofs.YtlhbbkohndggmaaDoor
/- The walk of tree's Prove. -/
namespace Go.Proofs.YtlhbbkohndggmaaDoor
open Go.RowKit
set_option maxRecDepth 100000
end Go.Proofs.YtlhbbkohndggmaaDoor
/- The landed tree's functions do what the chapter says. -/
namespace Go.Proofs.YtlhbbkohndggmaaDoor
open Go.RowKit
set_option maxRecDepth 100000
theorem zip_okR {W : World} {vt vu : Value} {ds es : List (List (BitVec 8))} (h1 : ReadsD W vt ds) (h2 : ReadsD W vu es) : okLf (ds.zip es) := fun _ hp => ⟨h1.2 _ (List.of_mem_zip hp).1, h2.2 _ (List.of_mem_zip hp).2⟩
set_option maxHeartbeats 1000000 in
theorem trOf_any (w : World) (vt vu : Value) (ds es : List (List (BitVec 8))) (hK : KOk w) (hA : ReadsD w vt ds) (hB : ReadsD w vu es) (hl : ds.length < 50000) :
    Calls Tryd.prog 10 #[vt, vu] w fun e w' => ∃ g, e = .returned (.pointer (some ⟨g, 0, none⟩)) ∧ TT w' g (ofL (ds.zip es)) ∧ Below w.heap.size w w' := by
  have HK : Hid (KOk w) := hK
  have HG : Hid (okLf (ofL (ds.zip es)) ∧ Up (ofL (ds.zip es))) := ofL_good _ (zip_okR hA hB)
  have HR : Hid (Calls Tryd.prog 22 #[vt, vu] w fun e w' => ∃ ad B n cap qs, e = .returned (.slice ad n cap) ∧ qs.length = n ∧ n ≤ cap ∧ (n = 0 ∨ ad = some ⟨B, 0, none⟩) ∧ n < 100000 ∧ LvRow w' B 0 qs ∧ qs.map (·.2) = ofL (ds.zip es) ∧ Below w.heap.size w w') := trRising_any w vt vu ds es hK hA hB hl
  clear hK hA hB hl
  go_enter Tryd.func10, Tryd.ntmps10
  go_wp2_with (first
    | (go_at_call 22; refine HR.out.mono ?_; rintro e w1 ⟨ad, B, n, cap, qs, rfl, h1, h2, h3, h4, h5, h6, h7⟩
       have HBW : Hid (Below w.heap.size w w1) := h7
       have HC : Hid (Calls Tryd.prog 21 #[.slice ad n cap, .int .i64 ((0 : Nat) : Int)] w1 fun e w' => ∃ g, e = .returned (.pointer (some ⟨g, 0, none⟩)) ∧ TreeIs w' 0 g (ofL (ds.zip es)) ∧ Below w1.heap.size w1 w') := by
         have := trBelow_any 256 0 ad B 0 n cap qs w1 (by omega) (HK.out.below h7 HK.out.lt) h5 h1 h2 h3 h4 (by rw [h6]; exact fits_zero HG.out.1 HG.out.2)
         rw [h6] at this
         exact this
       clear h1 h2 h3 h4 h5 h6 h7)
    | (go_at_call 21; refine HC.out.mono ?_; rintro e w2 ⟨g, rfl, ht, hb⟩))
  go_ret
  exact ⟨g, rfl, ⟨ht, HG.out⟩, HBW.out.trans (hb.mono HBW.out.size)⟩
set_option maxHeartbeats 1000000 in
theorem trPut_any (w : World) (g : Nat) (l : List Lf) (x v : List (BitVec 8)) (hK : KOk w) (hT : TT w g l) (hl : l.length < 90000) (hx : x.length = 32) (hv : v.length = 32) :
    Calls Tryd.prog 19 #[.pointer (some ⟨g, 0, none⟩), .agg (cb x).toArray, .agg (cb v).toArray] w fun e w' => ∃ g', e = .returned (.pointer (some ⟨g', 0, none⟩)) ∧ TT w' g' (putL l x v) ∧ Below w.heap.size w w' := by
  have HK : Hid (KOk w) := hK
  have HT : Hid (TT w g l) := hT
  have HL : Hid (l.length < 90000) := hl
  have HX : Hid (x.length = 32) := hx
  have HV : Hid (v.length = 32) := hv
  clear hK hT hl hx hv
  go_enter Tryd.func19, Tryd.ntmps19
  go_wp2_with (first
    | (with_reducible refine wpSeq_boxD (.tmp 1) x ?_ ?_ ?_ ?_
       · rfl
       · rfl
       · rfl
       intro gx wx nn
       have HBX : Hid (Blk wx gx (cb x) 28) := nn.blk
       have HBW : Hid (Below w.heap.size w wx) := nn.below
       clear nn)
    | (with_reducible refine wpSeq_boxD (.tmp 2) v ?_ ?_ ?_ ?_
       · rfl
       · rfl
       · rfl
       intro gv wv nn
       replace HBX : Hid (Blk wv gx (cb x) 28) := HBX.out.below nn.below HBX.out.lt
       have HBV : Hid (Blk wv gv (cb v) 28) := nn.blk
       replace HBW : Hid (Below w.heap.size w wv) := HBW.out.trans (nn.below.mono HBW.out.size)
       clear nn)
    | (with_reducible refine wpSeq_loadD (.tmp 4) gx x ?_ ?_ ?_ ?_ ?_ ?_
       · exact HX.out
       · exact HBX.out
       · rfl
       · rfl
       · rfl)
    | (with_reducible refine wpSeq_loadD (.tmp 5) gv v ?_ ?_ ?_ ?_ ?_ ?_
       · exact HV.out
       · exact HBV.out
       · rfl
       · rfl
       · rfl)
    | (go_at_call 35; refine (trSingle_any x v HX.out HV.out _ (HK.out.below HBW.out HK.out.lt)).mono ?_; rintro e w1 ⟨gl, rfl, hge, hc, hb⟩
       replace HBW : Hid (Below w.heap.size w w1) := HBW.out.trans (hb.mono HBW.out.size)
       have HW : Hid (Wt w1 0 g gl l x v) := ⟨HK.out.below HBW.out HK.out.lt, HT.out.1.next HBW.out, hc⟩
       have HC : Hid (Calls Tryd.prog 34 #[.pointer (some ⟨g, 0, none⟩), .pointer (some ⟨gl, 0, none⟩), .int .i64 ((0 : Nat) : Int)] w1 fun e w' => ∃ g', e = .returned (.pointer (some ⟨g', 0, none⟩)) ∧ TreeIs w' 0 g' (putL l x v) ∧ Below w1.heap.size w1 w') := trWith_any 256 0 g gl l x v w1 (by omega) (by omega) HW.out (fits_zero HT.out.2.1 HT.out.2.2) (Near.zero _ _) HL.out
       clear hge hc hb HBX HBV)
    | (go_at_call 34; refine HC.out.mono ?_; rintro e w2 ⟨g2, rfl, ht, hb⟩))
  go_ret
  exact ⟨g2, rfl, ⟨ht, putL_ok HT.out.2.1 HX.out HV.out, putL_up HT.out.2.1 HX.out HT.out.2.2⟩, HBW.out.trans (hb.mono HBW.out.size)⟩
end Go.Proofs.YtlhbbkohndggmaaDoor
/- Pages, plainly: the piece of leaves, a tree's pages, how long and how many they are (layer 17). -/
namespace Go.Proofs.YtlhbbkohndggmaaDoor
open Go.RowKit
set_option maxRecDepth 100000
abbrev By := List (BitVec 8)
def oneP1 (l : List Lf) : By := match l with | [] => [0] | p :: _ => 1 :: (p.1 ++ p.2)
def wholeF : Nat → Nat → List Lf → By
  | 0, _, l => oneP1 l
  | f + 1, d, l => if l.length < 2 then oneP1 l else 2 :: (wholeF f (d + 1) (halfL l d false) ++ wholeF f (d + 1) (halfL l d true))
/-- leaves below d bits, in one piece -/
def wholeL (d : Nat) (l : List Lf) : By := wholeF (256 - d) d l
theorem whole_few {d : Nat} {l : List Lf} (h : l.length < 2) : wholeL d l = oneP1 l := by
  unfold wholeL
  cases 256 - d with
  | zero => rfl
  | succ f => rw [wholeF, if_pos h]
theorem whole_two {d : Nat} {l : List Lf} (hd : d < 256) (h : 2 ≤ l.length) : wholeL d l = 2 :: (wholeL (d + 1) (halfL l d false) ++ wholeL (d + 1) (halfL l d true)) := by
  unfold wholeL
  rw [show 256 - d = (256 - (d + 1)) + 1 by omega, wholeF, if_neg (by omega)]
theorem one_le {l : List Lf} (h : okLf l) (h2 : l.length < 2) : (oneP1 l).length = 1 + 64 * l.length := by
  match l, h2 with
  | [], _ => rfl
  | [p], _ =>
    have := h p (by simp)
    simp only [oneP1, List.length_cons, List.length_append, this.1, this.2, List.length_nil]
theorem whole_le : ∀ (f d : Nat) (l : List Lf), 256 = d + f → Fits l d → (wholeL d l).length ≤ 1 + l.length * (64 + 2 * f) ∧ 65 * l.length ≤ (wholeL d l).length ∧ 1 ≤ (wholeL d l).length := by
  intro f
  induction f with
  | zero =>
    intro d l hd hF
    have h2 : l.length < 2 := by
      rcases Nat.lt_or_ge l.length 2 with h | h
      · exact h
      · have := hF.lt h; omega
    rw [whole_few h2, one_le hF.1 h2]
    omega
  | succ f ih =>
    intro d l hd hF
    rcases Nat.lt_or_ge l.length 2 with h2 | h2
    · rw [whole_few h2, one_le hF.1 h2]
      have : l.length = 0 ∨ l.length = 1 := by omega
      rcases this with h | h <;> rw [h] <;> omega
    · have h0 := ih (d + 1) (halfL l d false) (by omega) (hF.half false)
      have h1 := ih (d + 1) (halfL l d true) (by omega) (hF.half true)
      rw [whole_two (by omega) h2, List.length_cons, List.length_append]
      have hl := half_len hF
      rw [hl] at h2 ⊢
      generalize (halfL l d false).length = a at *
      generalize (halfL l d true).length = b at *
      have e : (a + b) * (64 + 2 * (f + 1)) = a * (64 + 2 * f) + b * (64 + 2 * f) + 2 * (a + b) := by
        rw [show 64 + 2 * (f + 1) = (64 + 2 * f) + 2 by omega, Nat.mul_add, Nat.add_mul, Nat.mul_comm (a + b) 2]
      rw [e]
      omega
/-- the pages of leaves below d bits -/
def saveF : Nat → Nat → List Lf → List By
  | 0, d, l => [wholeL d l]
  | f + 1, d, l => if (wholeL d l).length ≤ 512 then [wholeL d l] else
      (2 :: ((if (halfL l d false).length < 2 then wholeL (d + 1) (halfL l d false) else 3 :: dig ((saveF f (d + 1) (halfL l d false)).headD [])) ++ (if (halfL l d true).length < 2 then wholeL (d + 1) (halfL l d true) else 3 :: dig ((saveF f (d + 1) (halfL l d true)).headD []))))
        :: ((if (halfL l d false).length < 2 then [] else saveF f (d + 1) (halfL l d false)) ++ (if (halfL l d true).length < 2 then [] else saveF f (d + 1) (halfL l d true)))
def saveL (d : Nat) (l : List Lf) : List By := saveF (256 - d) d l
def topPg (d : Nat) (l : List Lf) : By := (saveL d l).headD []
def sidePg (d : Nat) (l : List Lf) : By := if l.length < 2 then wholeL d l else 3 :: dig (topPg d l)
def restPg (d : Nat) (l : List Lf) : List By := if l.length < 2 then [] else saveL d l
theorem save_one {d : Nat} {l : List Lf} (h : (wholeL d l).length ≤ 512) : saveL d l = [wholeL d l] := by
  unfold saveL
  cases 256 - d with
  | zero => rfl
  | succ f => rw [saveF, if_pos h]
theorem save_more {d : Nat} {l : List Lf} (hd : d < 256) (h : 512 < (wholeL d l).length) : saveL d l = (2 :: (sidePg (d + 1) (halfL l d false) ++ sidePg (d + 1) (halfL l d true))) :: (restPg (d + 1) (halfL l d false) ++ restPg (d + 1) (halfL l d true)) := by
  unfold saveL
  rw [show 256 - d = (256 - (d + 1)) + 1 by omega, saveF, if_neg (by omega)]
  rfl
theorem save_cons (d : Nat) (l : List Lf) : ∃ t, saveL d l = topPg d l :: t := by
  unfold topPg saveL
  cases 256 - d with
  | zero => exact ⟨[], rfl⟩
  | succ f =>
    rw [saveF]
    split
    · exact ⟨[], rfl⟩
    · exact ⟨_, rfl⟩
theorem long_two {d : Nat} {l : List Lf} (hF : Fits l d) (h : 512 < (wholeL d l).length) : 2 ≤ l.length ∧ d < 256 := by
  have h2 : 2 ≤ l.length := by
    rcases Nat.lt_or_ge l.length 2 with h2 | h2
    · rw [whole_few h2, one_le hF.1 h2] at h; omega
    · exact h2
  exact ⟨h2, hF.lt h2⟩
theorem top_one {d : Nat} {l : List Lf} (h : (wholeL d l).length ≤ 512) : topPg d l = wholeL d l := by unfold topPg; rw [save_one h]; rfl
theorem top_more {d : Nat} {l : List Lf} (hd : d < 256) (h : 512 < (wholeL d l).length) : topPg d l = 2 :: (sidePg (d + 1) (halfL l d false) ++ sidePg (d + 1) (halfL l d true)) := by unfold topPg; rw [save_more hd h]; rfl
theorem side_len {d : Nat} {l : List Lf} (h : okLf l) : 1 ≤ (sidePg d l).length ∧ (sidePg d l).length ≤ 65 := by
  unfold sidePg
  split
  · rename_i h2
    rw [whole_few h2, one_le h h2]; omega
  · rw [List.length_cons, len_dig']; omega
/-- no page is longer than it may be -/
theorem save_short : ∀ (f d : Nat) (l : List Lf), 256 ≤ d + f → Fits l d → ∀ p ∈ saveL d l, 1 ≤ p.length ∧ p.length ≤ 512 := by
  intro f
  induction f with
  | zero =>
    intro d l hd hF p hp
    have hs : (wholeL d l).length ≤ 512 := by
      rcases Nat.lt_or_ge 512 (wholeL d l).length with h | h
      · have := (long_two hF h).2; omega
      · exact h
    have h2 : l.length < 2 := by
      rcases Nat.lt_or_ge l.length 2 with h | h
      · exact h
      · have := hF.lt h; omega
    rw [save_one hs] at hp
    cases List.mem_singleton.1 hp
    rw [whole_few h2, one_le hF.1 h2]; omega
  | succ f ih =>
    intro d l hd hF p hp
    rcases Nat.lt_or_ge 512 (wholeL d l).length with h | h
    · have h2 := long_two hF h
      rw [save_more h2.2 h] at hp
      rcases List.mem_cons.1 hp with rfl | hp
      · have a := side_len (d := d + 1) (hF.half false).1
        have b := side_len (d := d + 1) (hF.half true).1
        rw [List.length_cons, List.length_append]; omega
      · rcases List.mem_append.1 hp with hp | hp
        · unfold restPg at hp
          split at hp
          · cases hp
          · exact ih (d + 1) _ (by omega) (hF.half false) p hp
        · unfold restPg at hp
          split at hp
          · cases hp
          · exact ih (d + 1) _ (by omega) (hF.half true) p hp
    · rw [save_one h] at hp
      cases List.mem_singleton.1 hp
      refine ⟨?_, h⟩
      rcases Nat.lt_or_ge l.length 2 with h2 | h2
      · rw [whole_few h2, one_le hF.1 h2]; omega
      · rw [whole_two (hF.lt h2) h2, List.length_cons]; omega
/-- how many pages there are -/
theorem save_count : ∀ (f d : Nat) (l : List Lf), 256 = d + f → Fits l d → (saveL d l).length ≤ 1 + f * l.length := by
  intro f
  induction f with
  | zero =>
    intro d l hd hF
    have hs : (wholeL d l).length ≤ 512 := by
      rcases Nat.lt_or_ge 512 (wholeL d l).length with h | h
      · have := (long_two hF h).2; omega
      · exact h
    rw [save_one hs]; simp
  | succ f ih =>
    intro d l hd hF
    rcases Nat.lt_or_ge 512 (wholeL d l).length with h | h
    · have h2 := long_two hF h
      rw [save_more h2.2 h, List.length_cons, List.length_append]
      have hr : ∀ b, (restPg (d + 1) (halfL l d b)).length ≤ (f + 1) * (halfL l d b).length := by
        intro b
        unfold restPg
        split
        · simp
        · have := ih (d + 1) _ (by omega) (hF.half b)
          rw [Nat.add_mul, Nat.one_mul]; omega
      have := hr false
      have := hr true
      rw [half_len hF, Nat.mul_add]; omega
    · rw [save_one h]; simp
end Go.Proofs.YtlhbbkohndggmaaDoor

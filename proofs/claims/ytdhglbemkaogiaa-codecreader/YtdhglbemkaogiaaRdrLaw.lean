/- The walk of the statement CodecReader. -/
import Derived.Test.YtdhglbemkaogiaaRdrRead
namespace Go.Proofs.Ytdhglbemkaogiaa
open Go.RowKit
structure Fits (x : Int) : Prop where
  lo : -9223372036854775808 ≤ x
  hi : x < 9223372036854775808
set_option maxRecDepth 100000 in
set_option maxHeartbeats 2000000 in
theorem reader_law (vb : Value) (bs : List (BitVec 8)) (most : Int) (w : World) (hb : Reads w vb bs) (hl : bs.length ≤ 9223372036854775807) (hmx : most < 9223372036854775808) (hmn : -9223372036854775808 ≤ most) :
    Calls Try.prog 5 #[vb, .int .i64 most] w fun e w' => e = .returned (.bool true) ∧ Below w.heap.size w w' := by
  have hmf : ∀ (fn : Fn) (first cap : Array Value) (w : World), (Instr.makeFunc fn first cap).run Try.prog w = .ok (.func fn first cap) w := fun _ _ _ _ => rfl
  have HL : Hid (bs.length ≤ 9223372036854775807) := hl
  have HM : Hid (Fits most) := ⟨hmn, hmx⟩
  obtain ⟨g, HG⟩ : ∃ g, Hid (w.heap.size = g) := ⟨_, rfl⟩
  obtain ⟨ad, cap, hv, _, _, _⟩ := id hb
  obtain ⟨m, HMM⟩ : ∃ m, Hid (m = bs.length) := ⟨_, rfl⟩
  rw [← HMM.out] at hv
  have HB : Hid (Reads w vb bs) := hb
  subst hv
  have HRd : Hid (Calls Try.prog 23 #[.slice ad m cap, .func (.func 24) #[] #[.pointer (some ⟨g, 0, none⟩), .pointer (some ⟨g + 1, 0, none⟩), .pointer (some ⟨g + 2, 0, none⟩), .pointer (some ⟨g + 3, 0, none⟩)]] (w4 w most) fun e w' => ∃ en, e = .returned (.int .i64 en) ∧ Rdo g most bs w w' en) := rdr_read g _ bs most w HG.out hb hmx
  clear hb hl hmx hmn
  go_enter Try.func5, Try.ntmps5
  go_wp2_with fail
  have e0 : (some ⟨w.heap.size, 0, none⟩ : Option Addr) = some ⟨g, 0, none⟩ := by rw [HG.out]
  have e1 : (some ⟨w.heap.size + 1, 0, none⟩ : Option Addr) = some ⟨g + 1, 0, none⟩ := by rw [HG.out]
  have e2 : (some ⟨w.heap.size + 1 + 1, 0, none⟩ : Option Addr) = some ⟨g + 2, 0, none⟩ := by rw [HG.out]
  have e3 : (some ⟨w.heap.size + 1 + 1 + 1, 0, none⟩ : Option Addr) = some ⟨g + 3, 0, none⟩ := by rw [HG.out]
  simp only [e0, e1, e2, e3]
  clear e0 e1 e2 e3
  refine Calls.mono HRd.out ?_
  rintro e w5 ⟨en, rfl, hO⟩
  have HO : Hid (Rdo g most bs w w5 en) := hO
  have cM : w5.cell? ⟨g, 0, none⟩ = some (.int .i64 most) := hO.mm.cell 0
  have HRI : Hid (Reads w5 (.slice ad m cap) bs) := HB.out.below (by rw [HG.out]; exact hO.bel)
  clear hO HRd HB
  have HTOP : Hid (∀ wx, Below w5.heap.size w5 wx → Below w.heap.size w wx) := fun wx h => by
    rw [HG.out]
    exact HO.out.bel.trans (h.mono (by have := HO.out.sz; omega))
  have HE3 : Hid ((∀ x, rdSpec most bs ≠ some (x, [])) → en = 3) := fun h => by
    rcases HO.out.out with ⟨_, n, d, t, vt, hs, _⟩ | ⟨h3, _⟩
    · exact absurd hs (h _)
    · exact h3
  have HE0 : Hid (∀ (n : Nat) (d t : List (BitVec 8)), rdSpec most bs = some ((n, d, t), []) → en = 0 ∧ d.length = 32 ∧ Blk w5 (g + 1) [.int .i64 (n : Int)] 3 ∧ Blk w5 (g + 2) (cb d) 25 ∧ ∃ vt, Blk w5 (g + 3) [vt] 22 ∧ Reads w5 vt t) := fun n d t h => by
    rcases HO.out.out with ⟨h0, n', d', t', vt, hs, hd, b1, b2, b3, hr⟩ | ⟨_, hx⟩
    · rw [hs] at h
      simp only [Option.some.injEq, Prod.mk.injEq, and_true] at h
      obtain ⟨rfl, rfl, rfl⟩ := h
      exact ⟨h0, hd, b1, b2, vt, b3, hr⟩
    · exact absurd h (hx _)
  have HGS : Hid (g + 8 ≤ w5.heap.size) := HO.out.sz
  have HI6 : Hid (InS (w5.alloc (.cells #[.slice ad m cap, .int .i64 0, .bool false] 53)) w5.heap.size (.slice ad m cap) bs 0 false) := ⟨Blk.new w5 [.slice ad m cap, .int .i64 0, .bool false] 53, HRI.out.below (below_alloc _ _), Nat.zero_le _⟩
  have HB6 : Hid (Below w5.heap.size w5 (w5.alloc (.cells #[.slice ad m cap, .int .i64 0, .bool false] 53))) := below_alloc _ _
  have cM6 : (w5.alloc (.cells #[.slice ad m cap, .int .i64 0, .bool false] 53)).cell? ⟨g, 0, none⟩ = some (.int .i64 most) := (HO.out.mm.alloc _).cell 0
  have c26 : (w5.alloc (.cells #[.slice ad m cap, .int .i64 0, .bool false] 53)).cell? ⟨w5.heap.size, 2, none⟩ = some (.bool false) := HI6.out.blk.cell 2
  have f26 : (w5.alloc (.cells #[.slice ad m cap, .int .i64 0, .bool false] 53)).frozen? ⟨w5.heap.size, 2, none⟩ = false := HI6.out.blk.frozen 2
  have HVB : Hid (0 < bs.length → ∀ j, Value.ownBlock (.slice ad m cap) = some j → j < w5.heap.size) := by
    intro hp k hk
    obtain ⟨ad', cap', hv', _, _, hx⟩ := HRI.out
    obtain ⟨b, off, rfl, hy⟩ := hx hp
    rw [hv'] at hk
    simp only [Value.ownBlock, Option.some.injEq] at hk
    subst hk
    exact block_lt_of_cell (hy 0 hp)
  clear cM
  by_cases hneg : most < 0
  · have cX : ∀ o, ((w5.alloc (.cells #[.slice ad m cap, .int .i64 0, .bool true] 53)).alloc o).cell? ⟨w5.heap.size, 2, none⟩ = some (.bool true) := fun o => ((Blk.new w5 [.slice ad m cap, .int .i64 0, .bool true] 53).alloc o).cell 2
    have HIX : Hid (∀ o, InS ((w5.alloc (.cells #[.slice ad m cap, .int .i64 0, .bool true] 53)).alloc o) w5.heap.size (.slice ad m cap) bs 0 true) := fun o => ⟨(Blk.new w5 [.slice ad m cap, .int .i64 0, .bool true] 53).alloc o, HRI.out.below ((below_alloc _ _).alloc (by simp) o), Nat.zero_le _⟩
    have HBX : Hid (∀ o, Below w5.heap.size w5 ((w5.alloc (.cells #[.slice ad m cap, .int .i64 0, .bool true] 53)).alloc o)) := fun o => (below_alloc _ _).alloc (by simp) o
    obtain rfl : en = 3 := HE3.out (fun x hx => by rw [rdSpec_neg hneg] at hx; cases hx)
    clear HI6 HB6 HO HE0 HE3
    go_wp2_with fail
    clear cX cM6 c26 f26
    refine (intext_any w5.heap.size (.slice ad m cap) bs 0 true _ (HIX.out _) HL.out).mono ?_
    rintro e w9 (⟨a, p9, u, ho, _⟩ | ⟨_, u, p9, rfl, rfl, hs, hon⟩)
    · simp at ho
    have HS9 : Hid (InS w9 w5.heap.size (.slice ad m cap) bs p9 true) := hs
    have HB9 : Hid (Below w5.heap.size w5 w9) := Below.trans (HBX.out _) (hon.below (Nat.le_refl _) (Below.size (HBX.out _)))
    clear hs hon
    go_wp2_with fail
    refine (indone_any w5.heap.size (.slice ad m cap) bs p9 true w9 HS9.out).mono ?_
    rintro e w10 ⟨rfl, k, hk⟩
    rw [show (!true && decide (p9 = bs.length)) = false from rfl]
    have HB10 : Hid (Below w.heap.size w w10) := HTOP.out _ (by rw [hk]; exact HB9.out.trans ((drew_below _ _).mono HB9.out.size))
    clear hk HS9 HB9
    go_wp2_with fail
    refine (cworks_any w10).mono ?_
    rintro e w11 ⟨rfl, hb⟩
    have HF : Hid (Below w.heap.size w w11) := HB10.out.trans (hb.mono HB10.out.size)
    clear hb HB10
    go_wp2
    go_ret
    exact ⟨rfl, HF.out⟩
  · obtain ⟨M, rfl⟩ : ∃ M : Nat, most = (M : Int) := ⟨most.toNat, by omega⟩
    have hwm : IntKind.u64.wrap (M : Int) = (M : Int) := by rw [IntKind.wrap_u64]; have := HM.out.hi; omega
    go_wp2_with fail
    refine (innum_any w5.heap.size (.slice ad m cap) bs 0 false _ HI6.out HL.out).mono ?_
    rintro e w7 (⟨n, p, u, ho, rfl, rfl, hs, hon⟩ | ⟨ho, u, p, rfl, rfl, hs, hon⟩)
    case inr =>
      simp only [Bool.false_eq_true, if_false, List.drop_zero] at ho
      have c2 : w7.cell? ⟨w5.heap.size, 2, none⟩ = some (.bool true) := hs.blk.cell 2
      have f2 : w7.frozen? ⟨w5.heap.size, 2, none⟩ = false := hs.blk.frozen 2
      have HB7 : Hid (Below w5.heap.size w5 w7) := HB6.out.trans (hon.below (Nat.le_refl _) HB6.out.size)
      have hns : rdSpec (M : Int) bs = none := by rw [rdSpec_pos]; unfold readCount; rw [ho]
      have cX : ∀ o, ((w7.setCell ⟨w5.heap.size, 2, none⟩ (.bool true)).alloc o).cell? ⟨w5.heap.size, 2, none⟩ = some (.bool true) := fun o => ((hs.setBad true).blk.alloc o).cell 2
      have HIX : Hid (∀ o, InS ((w7.setCell ⟨w5.heap.size, 2, none⟩ (.bool true)).alloc o) w5.heap.size (.slice ad m cap) bs p true) := fun o => (hs.setBad true).below (below_alloc _ _)
      have HBX : Hid (∀ o, Below w5.heap.size w5 ((w7.setCell ⟨w5.heap.size, 2, none⟩ (.bool true)).alloc o)) := fun o => (HB7.out.setCell (p := ⟨w5.heap.size, 2, none⟩) (Nat.le_refl _) _).alloc (by have := HB7.out.size; simp [World.setCell]; omega) o
      obtain rfl : en = 3 := HE3.out (fun x hx => by rw [hns] at hx; cases hx)
      clear HI6 HB6 HO HE0 HE3 hs hon ho HB7 hns cM6 c26 f26
      go_wp2_with fail
      clear cX c2 f2
      refine (intext_any w5.heap.size (.slice ad m cap) bs p true _ (HIX.out _) HL.out).mono ?_
      rintro e w9 (⟨a, p9, u, ho, _⟩ | ⟨_, u, p9, rfl, rfl, hs, hon⟩)
      · simp at ho
      have HS9 : Hid (InS w9 w5.heap.size (.slice ad m cap) bs p9 true) := hs
      have HB9 : Hid (Below w5.heap.size w5 w9) := Below.trans (HBX.out _) (hon.below (Nat.le_refl _) (Below.size (HBX.out _)))
      clear hs hon
      go_wp2_with fail
      refine (indone_any w5.heap.size (.slice ad m cap) bs p9 true w9 HS9.out).mono ?_
      rintro e w10 ⟨rfl, k, hk⟩
      rw [show (!true && decide (p9 = bs.length)) = false from rfl]
      have HB10 : Hid (Below w.heap.size w w10) := HTOP.out _ (by rw [hk]; exact HB9.out.trans ((drew_below _ _).mono HB9.out.size))
      clear hk HS9 HB9
      go_wp2_with fail
      refine (cworks_any w10).mono ?_
      rintro e w11 ⟨rfl, hb⟩
      have HF : Hid (Below w.heap.size w w11) := HB10.out.trans (hb.mono HB10.out.size)
      clear hb HB10
      go_wp2
      go_ret
      exact ⟨rfl, HF.out⟩

    simp only [Bool.false_eq_true, if_false, List.drop_zero] at ho
    have c2 : w7.cell? ⟨w5.heap.size, 2, none⟩ = some (.bool false) := hs.blk.cell 2
    have f2 : w7.frozen? ⟨w5.heap.size, 2, none⟩ = false := hs.blk.frozen 2
    have HB7 : Hid (Below w5.heap.size w5 w7) := HB6.out.trans (hon.below (Nat.le_refl _) HB6.out.size)
    have cM7 : w7.cell? ⟨g, 0, none⟩ = some (.int .i64 (M : Int)) := (HO.out.mm.below HB7.out (by have := HGS.out; omega)).cell 0
    have hrc : readCount M bs = if n ≤ M then some (n, bs.drop p) else none := by unfold readCount; rw [ho]
    by_cases hle : n ≤ M
    case neg =>
      have hgt : (M : Int) < (n : Int) := by omega
      have hns : rdSpec (M : Int) bs = none := by rw [rdSpec_pos, hrc, if_neg hle]
      clear hle hrc
      have cX : ∀ o, ((w7.setCell ⟨w5.heap.size, 2, none⟩ (.bool true)).alloc o).cell? ⟨w5.heap.size, 2, none⟩ = some (.bool true) := fun o => ((hs.setBad true).blk.alloc o).cell 2
      have HIX : Hid (∀ o, InS ((w7.setCell ⟨w5.heap.size, 2, none⟩ (.bool true)).alloc o) w5.heap.size (.slice ad m cap) bs p true) := fun o => (hs.setBad true).below (below_alloc _ _)
      have HBX : Hid (∀ o, Below w5.heap.size w5 ((w7.setCell ⟨w5.heap.size, 2, none⟩ (.bool true)).alloc o)) := fun o => (HB7.out.setCell (p := ⟨w5.heap.size, 2, none⟩) (Nat.le_refl _) _).alloc (by have := HB7.out.size; simp [World.setCell]; omega) o
      obtain rfl : en = 3 := HE3.out (fun x hx => by rw [hns] at hx; cases hx)
      clear HI6 HB6 HO HE0 HE3 hs hon ho HB7 hns cM6 c26 f26
      go_wp2_with fail
      clear cX c2 f2
      refine (intext_any w5.heap.size (.slice ad m cap) bs p true _ (HIX.out _) HL.out).mono ?_
      rintro e w9 (⟨a, p9, u, ho, _⟩ | ⟨_, u, p9, rfl, rfl, hs, hon⟩)
      · simp at ho
      have HS9 : Hid (InS w9 w5.heap.size (.slice ad m cap) bs p9 true) := hs
      have HB9 : Hid (Below w5.heap.size w5 w9) := Below.trans (HBX.out _) (hon.below (Nat.le_refl _) (Below.size (HBX.out _)))
      clear hs hon
      go_wp2_with fail
      refine (indone_any w5.heap.size (.slice ad m cap) bs p9 true w9 HS9.out).mono ?_
      rintro e w10 ⟨rfl, k, hk⟩
      rw [show (!true && decide (p9 = bs.length)) = false from rfl]
      have HB10 : Hid (Below w.heap.size w w10) := HTOP.out _ (by rw [hk]; exact HB9.out.trans ((drew_below _ _).mono HB9.out.size))
      clear hk HS9 HB9
      go_wp2_with fail
      refine (cworks_any w10).mono ?_
      rintro e w11 ⟨rfl, hb⟩
      have HF : Hid (Below w.heap.size w w11) := HB10.out.trans (hb.mono HB10.out.size)
      clear hb HB10
      go_wp2
      go_ret
      exact ⟨rfl, HF.out⟩

    rw [if_pos hle] at hrc
    have hng : ¬ ((M : Int) < (n : Int)) := by omega
    by_cases hn2 : n = 2
    · have hns : rdSpec (M : Int) bs = none := rdSpec_two hrc hn2
      subst hn2
      clear hle hrc
      have cX : ∀ o, ((w7.setCell ⟨w5.heap.size, 2, none⟩ (.bool true)).alloc o).cell? ⟨w5.heap.size, 2, none⟩ = some (.bool true) := fun o => ((hs.setBad true).blk.alloc o).cell 2
      have HIX : Hid (∀ o, InS ((w7.setCell ⟨w5.heap.size, 2, none⟩ (.bool true)).alloc o) w5.heap.size (.slice ad m cap) bs p true) := fun o => (hs.setBad true).below (below_alloc _ _)
      have HBX : Hid (∀ o, Below w5.heap.size w5 ((w7.setCell ⟨w5.heap.size, 2, none⟩ (.bool true)).alloc o)) := fun o => (HB7.out.setCell (p := ⟨w5.heap.size, 2, none⟩) (Nat.le_refl _) _).alloc (by have := HB7.out.size; simp [World.setCell]; omega) o
      obtain rfl : en = 3 := HE3.out (fun x hx => by rw [hns] at hx; cases hx)
      clear HI6 HB6 HO HE0 HE3 hs hon ho HB7 hns cM6 c26 f26
      go_wp2_with fail
      clear cX c2 f2
      refine (intext_any w5.heap.size (.slice ad m cap) bs p true _ (HIX.out _) HL.out).mono ?_
      rintro e w9 (⟨a, p9, u, ho, _⟩ | ⟨_, u, p9, rfl, rfl, hs, hon⟩)
      · simp at ho
      have HS9 : Hid (InS w9 w5.heap.size (.slice ad m cap) bs p9 true) := hs
      have HB9 : Hid (Below w5.heap.size w5 w9) := Below.trans (HBX.out _) (hon.below (Nat.le_refl _) (Below.size (HBX.out _)))
      clear hs hon
      go_wp2_with fail
      refine (indone_any w5.heap.size (.slice ad m cap) bs p9 true w9 HS9.out).mono ?_
      rintro e w10 ⟨rfl, k, hk⟩
      rw [show (!true && decide (p9 = bs.length)) = false from rfl]
      have HB10 : Hid (Below w.heap.size w w10) := HTOP.out _ (by rw [hk]; exact HB9.out.trans ((drew_below _ _).mono HB9.out.size))
      clear hk HS9 HB9
      go_wp2_with fail
      refine (cworks_any w10).mono ?_
      rintro e w11 ⟨rfl, hb⟩
      have HF : Hid (Below w.heap.size w w11) := HB10.out.trans (hb.mono HB10.out.size)
      clear hb HB10
      go_wp2
      go_ret
      exact ⟨rfl, HF.out⟩

    have cX : ∀ o, ((w7.setCell ⟨w5.heap.size, 2, none⟩ (.bool false)).alloc o).cell? ⟨w5.heap.size, 2, none⟩ = some (.bool false) := fun o => ((hs.setBad false).blk.alloc o).cell 2
    have HIX : Hid (∀ o, InS ((w7.setCell ⟨w5.heap.size, 2, none⟩ (.bool false)).alloc o) w5.heap.size (.slice ad m cap) bs p false) := fun o => (hs.setBad false).below (below_alloc _ _)
    have HBX : Hid (∀ o, Below w5.heap.size w5 ((w7.setCell ⟨w5.heap.size, 2, none⟩ (.bool false)).alloc o)) := fun o => (HB7.out.setCell (p := ⟨w5.heap.size, 2, none⟩) (Nat.le_refl _) _).alloc (by have := HB7.out.size; simp [World.setCell]; omega) o
    have HSZ : Hid ((w7.setCell ⟨w5.heap.size, 2, none⟩ (.bool false)).heap.size = w7.heap.size) := by show _ = _; simp [World.setCell]
    have HFN : Hid (w5.heap.size < w7.heap.size) := hs.blk.lt
    have HN : Hid (Fits (n : Int)) := ⟨by omega, by have := HM.out.hi; omega⟩
    have HRC : Hid (readCount M bs = some (n, bs.drop p)) := hrc
    have hn2i : ¬ ((n : Int) = 2) := by omega
    have hMn : decide (M < n) = false := decide_eq_false (by omega)
    have hn2b : ((n : Int) == 2) = false := by rw [beq_eq_false_iff_ne]; exact hn2i
    have HN2 : Hid (¬ n = 2) := hn2
    by_cases hn0 : 0 < n
    · have hn0i : (0 : Int) < (n : Int) := by omega
      have HN0 : Hid (0 < n) := hn0
      clear hn2 hn0 hle hrc HI6 HB6 HO hs hon ho HB7 cM6 c26 f26
      go_wp2_with fail
      clear cX c2 f2 cM7
      generalize h0 : Obj.cells _ 25 = o32
      have ho : o32 = Obj.cells (cb zb32).toArray 25 := h0.symm
      clear h0
      subst ho
      have HF0 : Hid (Blk ((w7.setCell ⟨w5.heap.size, 2, none⟩ (.bool false)).alloc (.cells (cb zb32).toArray 25)) w7.heap.size (cb zb32) 25) := Blk.new_at HSZ.out (cb zb32) 25
      have HI0 := HIX.out (.cells (cb zb32).toArray 25)
      have HB0 := HBX.out (.cells (cb zb32).toArray 25)
      refine (indigest_any w5.heap.size (.slice ad m cap) bs p false _ HI0 HL.out).mono ?_
      intro e w8 hD
      obtain ⟨a, b8, p8, rfl, hal, hs8, hon8, hfin⟩ : ∃ (a : List (BitVec 8)) (b8 : Bool) (p8 : Nat), e = .returned (.agg (cb a).toArray) ∧ a.length = 32 ∧ InS w8 w5.heap.size (.slice ad m cap) bs p8 b8 ∧ Only w5.heap.size ((w7.setCell ⟨w5.heap.size, 2, none⟩ (.bool false)).alloc (.cells (cb zb32).toArray 25)) w8 ∧ ((b8 = false ∧ cut 32 (bs.drop p) = some (a, bs.drop p8)) ∨ (b8 = true ∧ cut 32 (bs.drop p) = none)) := by
        rcases hD with ⟨a, p8, u, ho, h1, rfl, h3, h4⟩ | ⟨ho, u, p8, h1, rfl, h3, h4⟩
        · simp only [Bool.false_eq_true, if_false] at ho
          exact ⟨a, false, p8, h1, cut_len ho, h3, h4, Or.inl ⟨rfl, ho⟩⟩
        · simp only [Bool.false_eq_true, if_false] at ho
          exact ⟨zb32, true, p8, h1, len_zb32, h3, h4, Or.inr ⟨rfl, ho⟩⟩
      have HDL : Hid (a.length = 32) := hal
      have HF8 : Hid (Blk w8 w7.heap.size (cb zb32) 25) := HF0.out.only hon8 (by have := HFN.out; omega)
      have hB8 : Below w5.heap.size w5 w8 := HB0.trans (hon8.below (Nat.le_refl _) HB0.size)
      have ha8 : At w7.heap.size w8 (w8.setCells w7.heap.size 0 (cb a)) := At.setCells _ _ _ (At.refl _ _)
      have HT8 : Hid (InS (w8.setCells w7.heap.size 0 (cb a)) w5.heap.size (.slice ad m cap) bs p8 b8) := ⟨hs8.blk.at ha8 (by have := HFN.out; omega), hs8.byt.at ha8 (fun hp j hj => by have := HVB.out hp j hj; have := HFN.out; omega), hs8.le⟩
      have HBT : Hid (Below w5.heap.size w5 (w8.setCells w7.heap.size 0 (cb a))) := Below.setCells _ (by have := HFN.out; omega) _ _ _ hB8
      have HFT : Hid (Blk (w8.setCells w7.heap.size 0 (cb a)) w7.heap.size (cb a) 25) := HF8.out.whole (cb a) (by rw [cb_len, cb_len, HDL.out, len_zb32])
      obtain ⟨cs, HCS⟩ : ∃ x, Hid (x = cb a) := ⟨_, rfl⟩
      have H1 : Hid (∀ u ∈ cs, u.oneCell' = true) := by show ∀ u ∈ cs, _; rw [HCS.out]; exact cb_one a
      have HCL : Hid (cs.length = 32) := by show _ = _; rw [HCS.out, cb_len, HDL.out]
      have HIZ : Hid ((Try.prog.info? 25).map (·.size) = some cs.length) := by show _ = _; rw [HCL.out]; exact Try.infodig
      have HFIN : Hid ((b8 = false ∧ cut 32 (bs.drop p) = some (a, bs.drop p8)) ∨ (b8 = true ∧ cut 32 (bs.drop p) = none)) := hfin
      rw [← HCS.out] at HT8 HBT HFT ⊢
      clear hD hal hs8 hon8 hB8 ha8 hfin HF0 HI0 HB0 HIX HBX
      go_wp2_with (refine wpList_store_mid rfl 25 _ _ rfl w7.heap.size 0 cs.toArray rfl rfl (HF8.out.there 0 _ (by rw [List.size_toArray, HCL.out, cb_len, len_zb32]; omega)) (by simpa using HIZ.out) (all_oneCell_toArray H1.out) ?_)
      generalize w8.setCells w7.heap.size 0 cs = wt at *
      rw [HCS.out] at HFT
      clear HF8 H1 HCL HIZ HCS
      rcases HFIN.out with ⟨hb8, hcut⟩ | ⟨hb8, hcut⟩
      · rw [hb8] at HT8
        have HT := HT8
        have HSP : Hid (rdSpec (M : Int) bs = rdTail n a (bs.drop p8)) := rdSpec_some HRC.out HN0.out HN2.out hcut
        clear HT8 HFIN hcut hb8 HRC
        refine (intext_any w5.heap.size (.slice ad m cap) bs p8 false wt HT.out HL.out).mono ?_
        rintro e w9 (⟨t, p9, u, ho, rfl, hown, hs, hon⟩ | ⟨ho, u, p9, rfl, rfl, hs, hon⟩)
        case inr =>
          simp only [Bool.false_eq_true, if_false] at ho
          have HS9 : Hid (InS w9 w5.heap.size (.slice ad m cap) bs p9 true) := hs
          have HB9 : Hid (Below w5.heap.size w5 w9) := HBT.out.trans (hon.below (Nat.le_refl _) HBT.out.size)
          obtain rfl : en = 3 := HE3.out (fun x hx => by rw [HSP.out, rdTail_none ho] at hx; cases hx)
          clear hs hon ho HT HBT HFT HSP
          go_wp2_with fail
          refine (indone_any w5.heap.size (.slice ad m cap) bs p9 true w9 HS9.out).mono ?_
          rintro e w10 ⟨rfl, k, hk⟩
          rw [show (!true && decide (p9 = bs.length)) = false from rfl]
          have HB10 : Hid (Below w.heap.size w w10) := HTOP.out _ (by rw [hk]; exact HB9.out.trans ((drew_below _ _).mono HB9.out.size))
          clear hk HS9 HB9
          go_wp2_with fail
          refine (cworks_any w10).mono ?_
          rintro e w11 ⟨rfl, hb⟩
          have HF : Hid (Below w.heap.size w w11) := HB10.out.trans (hb.mono HB10.out.size)
          clear hb HB10
          go_wp2
          go_ret
          exact ⟨rfl, HF.out⟩
        simp only [Bool.false_eq_true, if_false] at ho
        have HS9 : Hid (InS w9 w5.heap.size (.slice ad m cap) bs p9 false) := hs
        have HB9 : Hid (Below w5.heap.size w5 w9) := HBT.out.trans (hon.below (Nat.le_refl _) HBT.out.size)
        have HSS : Hid (rdSpec (M : Int) bs = some ((n, a, t), bs.drop p9)) := HSP.out.trans (rdTail_some ho)
        by_cases hend : p9 = bs.length
        case neg =>
          obtain rfl : en = 3 := HE3.out (fun x hx => by rw [HSS.out] at hx; simp only [Option.some.injEq, Prod.mk.injEq] at hx; have h1 := congrArg List.length hx.2; have h2 := HS9.out.le; simp only [List.length_drop, List.length_nil] at h1; omega)
          have HND : Hid (¬ p9 = bs.length) := hend
          clear hs hon ho HT HBT HFT HSP HSS hown hend
          go_wp2_with fail
          refine (indone_any w5.heap.size (.slice ad m cap) bs p9 false w9 HS9.out).mono ?_
          rintro e w10 ⟨rfl, k, hk⟩
          rw [show (!false && decide (p9 = bs.length)) = false from by rw [decide_eq_false HND.out]; rfl]
          have HB10 : Hid (Below w.heap.size w w10) := HTOP.out _ (by rw [hk]; exact HB9.out.trans ((drew_below _ _).mono HB9.out.size))
          clear hk HS9 HB9
          go_wp2_with fail
          refine (cworks_any w10).mono ?_
          rintro e w11 ⟨rfl, hb⟩
          have HF : Hid (Below w.heap.size w w11) := HB10.out.trans (hb.mono HB10.out.size)
          clear hb HB10
          go_wp2
          go_ret
          exact ⟨rfl, HF.out⟩
        obtain ⟨rfl, _, b1, b2, vt, b3, rvt⟩ := HE0.out n a t (by rw [HSS.out, hend, List.drop_length])
        have HFB : Hid (Blk w9 w7.heap.size (cb a) 25) := HFT.out.only hon (by have := HFN.out; omega)
        have HU : Hid (Reads w9 u t) := hown.reads
        have HVT : Hid (Reads w5 vt t) := rvt
        have HB1 : Hid (Blk w5 (g + 1) [.int .i64 (n : Int)] 3) := b1
        have HB2 : Hid (Blk w5 (g + 2) (cb a) 25) := b2
        have HB3 : Hid (Blk w5 (g + 3) [vt] 22) := b3
        have HEND : Hid (p9 = bs.length) := hend
        obtain ⟨adu, cpu, hu, _⟩ := id hown.reads
        obtain ⟨tl, HTL⟩ : ∃ x, Hid (x = t.length) := ⟨_, rfl⟩
        rw [← HTL.out] at hu
        obtain ⟨adv, cpv, hvv, _⟩ := id rvt
        rw [← HTL.out] at hvv
        subst hu hvv
        clear hs hon ho HT HBT HFT HSP HSS hown b1 b2 b3 rvt hend
        go_wp2_with fail
        refine (indone_any w5.heap.size (.slice ad m cap) bs p9 false w9 HS9.out).mono ?_
        rintro e w10 ⟨rfl, k, hk⟩
        rw [show (!false && decide (p9 = bs.length)) = true from by rw [decide_eq_true HEND.out]; rfl]
        have hdr : Below w9.heap.size w9 w10 := by rw [hk]; exact drew_below _ _
        have hB10 : Below w5.heap.size w5 w10 := HB9.out.trans (hdr.mono HB9.out.size)
        have HB10 : Hid (Below w.heap.size w w10) := HTOP.out _ hB10
        have HFB2 : Hid (Blk w10 w7.heap.size (cb a) 25) := HFB.out.below hdr HFB.out.lt
        have HU2 : Hid (Reads w10 (.slice adu tl cpu) t) := HU.out.below hdr
        have HV2 : Hid (Reads w10 (.slice adv tl cpv) t) := HVT.out.below hB10
        have c1 : w10.cell? ⟨g + 1, 0, none⟩ = some (.int .i64 (n : Int)) := (HB1.out.below hB10 HB1.out.lt).cell 0
        have HD2 : Hid (Blk w10 (g + 2) (cb a) 25) := HB2.out.below hB10 HB2.out.lt
        have c3 : w10.cell? ⟨g + 3, 0, none⟩ = some (.slice adv tl cpv) := (HB3.out.below hB10 HB3.out.lt).cell 0
        obtain ⟨cs, HCS⟩ : ∃ x, Hid (x = cb a) := ⟨_, rfl⟩
        have heq : ∀ wx : World, (Op.equalIn 10000 25 (.agg cs.toArray) (.agg cs.toArray)).run Try.prog wx = .ok true wx := fun wx => by rw [HCS.out]; exact eq_dig_same a HDL.out wx
        have HIZ : Hid ((Try.prog.info? 25).map (·.size) = some cs.length) := by show _ = _; rw [HCS.out, cb_len, HDL.out]; exact Try.infodig
        rw [← HCS.out] at HFB2 HD2
        have hwn : IntKind.u64.wrap (n : Int) = (n : Int) := by rw [IntKind.wrap_u64]; have := HN.out.hi; omega
        clear hk hdr hB10 HFB HU HVT HB1 HB2 HB3 HS9 HB9
        go_wp2_with (first
          | (refine wpSeq_val (.agg cs.toArray) _ (by rfl) (load_run 25 _ rfl (g + 2) 0 rfl cs _ HD2.out.range Try.underlying25 rfl HIZ.out) ?_)
          | (refine wpSeq_val (.agg cs.toArray) _ (by rfl) (load_run 25 _ rfl w7.heap.size 0 rfl cs _ HFB2.out.range Try.underlying25 rfl HIZ.out) ?_))
        refine (same_any _ _ t t w10 HV2.out HU2.out).mono ?_
        rintro e w11 ⟨rfl, rfl⟩
        rw [decide_eq_true (rfl : t = t)]
        go_wp2_with fail
        refine (cworks_any w11).mono ?_
        rintro e w12 ⟨rfl, hb⟩
        have HF : Hid (Below w.heap.size w w12) := HB10.out.trans (hb.mono HB10.out.size)
        clear hb HB10
        go_wp2
        go_ret
        exact ⟨rfl, HF.out⟩
      · rw [hb8] at HT8
        have hns : rdSpec (M : Int) bs = none := rdSpec_none HRC.out HN0.out hcut
        obtain rfl : en = 3 := HE3.out (fun x hx => by rw [hns] at hx; cases hx)
        clear HFIN hcut hb8 HRC HFT hns HE0 HE3
        refine (intext_any w5.heap.size (.slice ad m cap) bs p8 true _ HT8.out HL.out).mono ?_
        rintro e w9 (⟨a, p9, u, ho, _⟩ | ⟨_, u, p9, rfl, rfl, hs, hon⟩)
        · simp at ho
        have HS9 : Hid (InS w9 w5.heap.size (.slice ad m cap) bs p9 true) := hs
        have HB9 : Hid (Below w5.heap.size w5 w9) := Below.trans HBT.out (hon.below (Nat.le_refl _) (Below.size HBT.out))
        clear hs hon
        go_wp2_with fail
        refine (indone_any w5.heap.size (.slice ad m cap) bs p9 true w9 HS9.out).mono ?_
        rintro e w10 ⟨rfl, k, hk⟩
        rw [show (!true && decide (p9 = bs.length)) = false from rfl]
        have HB10 : Hid (Below w.heap.size w w10) := HTOP.out _ (by rw [hk]; exact HB9.out.trans ((drew_below _ _).mono HB9.out.size))
        clear hk HS9 HB9
        go_wp2_with fail
        refine (cworks_any w10).mono ?_
        rintro e w11 ⟨rfl, hb⟩
        have HF : Hid (Below w.heap.size w w11) := HB10.out.trans (hb.mono HB10.out.size)
        clear hb HB10
        go_wp2
        go_ret
        exact ⟨rfl, HF.out⟩
    · have hn0i : ¬ ((0 : Int) < (n : Int)) := by omega
      have HSP : Hid (rdSpec (M : Int) bs = rdTail n zb32 (bs.drop p)) := rdSpec_zero HRC.out hn0
      have HDL : Hid (zb32.length = 32) := len_zb32
      clear hn2 hn0 hle hrc HI6 HB6 HO hs hon ho HB7 cM6 c26 f26
      go_wp2_with fail
      clear cX c2 f2 cM7
      generalize h0 : Obj.cells _ 25 = o32
      have ho : o32 = Obj.cells (cb zb32).toArray 25 := h0.symm
      clear h0
      subst ho
      have HFT : Hid (Blk ((w7.setCell ⟨w5.heap.size, 2, none⟩ (.bool false)).alloc (.cells (cb zb32).toArray 25)) w7.heap.size (cb zb32) 25) := Blk.new_at HSZ.out (cb zb32) 25
      have HT : Hid (InS ((w7.setCell ⟨w5.heap.size, 2, none⟩ (.bool false)).alloc (.cells (cb zb32).toArray 25)) w5.heap.size (.slice ad m cap) bs p false) := HIX.out _
      have HBT : Hid (Below w5.heap.size w5 ((w7.setCell ⟨w5.heap.size, 2, none⟩ (.bool false)).alloc (.cells (cb zb32).toArray 25))) := HBX.out _
      clear HIX HBX HSZ HRC
      generalize (w7.setCell ⟨w5.heap.size, 2, none⟩ (.bool false)).alloc (.cells (cb zb32).toArray 25) = wt at *
      refine (intext_any w5.heap.size (.slice ad m cap) bs p false wt HT.out HL.out).mono ?_
      rintro e w9 (⟨t, p9, u, ho, rfl, hown, hs, hon⟩ | ⟨ho, u, p9, rfl, rfl, hs, hon⟩)
      case inr =>
        simp only [Bool.false_eq_true, if_false] at ho
        have HS9 : Hid (InS w9 w5.heap.size (.slice ad m cap) bs p9 true) := hs
        have HB9 : Hid (Below w5.heap.size w5 w9) := HBT.out.trans (hon.below (Nat.le_refl _) HBT.out.size)
        obtain rfl : en = 3 := HE3.out (fun x hx => by rw [HSP.out, rdTail_none ho] at hx; cases hx)
        clear hs hon ho HT HBT HFT HSP
        go_wp2_with fail
        refine (indone_any w5.heap.size (.slice ad m cap) bs p9 true w9 HS9.out).mono ?_
        rintro e w10 ⟨rfl, k, hk⟩
        rw [show (!true && decide (p9 = bs.length)) = false from rfl]
        have HB10 : Hid (Below w.heap.size w w10) := HTOP.out _ (by rw [hk]; exact HB9.out.trans ((drew_below _ _).mono HB9.out.size))
        clear hk HS9 HB9
        go_wp2_with fail
        refine (cworks_any w10).mono ?_
        rintro e w11 ⟨rfl, hb⟩
        have HF : Hid (Below w.heap.size w w11) := HB10.out.trans (hb.mono HB10.out.size)
        clear hb HB10
        go_wp2
        go_ret
        exact ⟨rfl, HF.out⟩
      simp only [Bool.false_eq_true, if_false] at ho
      have HS9 : Hid (InS w9 w5.heap.size (.slice ad m cap) bs p9 false) := hs
      have HB9 : Hid (Below w5.heap.size w5 w9) := HBT.out.trans (hon.below (Nat.le_refl _) HBT.out.size)
      have HSS : Hid (rdSpec (M : Int) bs = some ((n, zb32, t), bs.drop p9)) := HSP.out.trans (rdTail_some ho)
      by_cases hend : p9 = bs.length
      case neg =>
        obtain rfl : en = 3 := HE3.out (fun x hx => by rw [HSS.out] at hx; simp only [Option.some.injEq, Prod.mk.injEq] at hx; have h1 := congrArg List.length hx.2; have h2 := HS9.out.le; simp only [List.length_drop, List.length_nil] at h1; omega)
        have HND : Hid (¬ p9 = bs.length) := hend
        clear hs hon ho HT HBT HFT HSP HSS hown hend
        go_wp2_with fail
        refine (indone_any w5.heap.size (.slice ad m cap) bs p9 false w9 HS9.out).mono ?_
        rintro e w10 ⟨rfl, k, hk⟩
        rw [show (!false && decide (p9 = bs.length)) = false from by rw [decide_eq_false HND.out]; rfl]
        have HB10 : Hid (Below w.heap.size w w10) := HTOP.out _ (by rw [hk]; exact HB9.out.trans ((drew_below _ _).mono HB9.out.size))
        clear hk HS9 HB9
        go_wp2_with fail
        refine (cworks_any w10).mono ?_
        rintro e w11 ⟨rfl, hb⟩
        have HF : Hid (Below w.heap.size w w11) := HB10.out.trans (hb.mono HB10.out.size)
        clear hb HB10
        go_wp2
        go_ret
        exact ⟨rfl, HF.out⟩
      obtain ⟨rfl, _, b1, b2, vt, b3, rvt⟩ := HE0.out n zb32 t (by rw [HSS.out, hend, List.drop_length])
      have HFB : Hid (Blk w9 w7.heap.size (cb zb32) 25) := HFT.out.only hon (by have := HFN.out; omega)
      have HU : Hid (Reads w9 u t) := hown.reads
      have HVT : Hid (Reads w5 vt t) := rvt
      have HB1 : Hid (Blk w5 (g + 1) [.int .i64 (n : Int)] 3) := b1
      have HB2 : Hid (Blk w5 (g + 2) (cb zb32) 25) := b2
      have HB3 : Hid (Blk w5 (g + 3) [vt] 22) := b3
      have HEND : Hid (p9 = bs.length) := hend
      obtain ⟨adu, cpu, hu, _⟩ := id hown.reads
      obtain ⟨tl, HTL⟩ : ∃ x, Hid (x = t.length) := ⟨_, rfl⟩
      rw [← HTL.out] at hu
      obtain ⟨adv, cpv, hvv, _⟩ := id rvt
      rw [← HTL.out] at hvv
      subst hu hvv
      clear hs hon ho HT HBT HFT HSP HSS hown b1 b2 b3 rvt hend
      go_wp2_with fail
      refine (indone_any w5.heap.size (.slice ad m cap) bs p9 false w9 HS9.out).mono ?_
      rintro e w10 ⟨rfl, k, hk⟩
      rw [show (!false && decide (p9 = bs.length)) = true from by rw [decide_eq_true HEND.out]; rfl]
      have hdr : Below w9.heap.size w9 w10 := by rw [hk]; exact drew_below _ _
      have hB10 : Below w5.heap.size w5 w10 := HB9.out.trans (hdr.mono HB9.out.size)
      have HB10 : Hid (Below w.heap.size w w10) := HTOP.out _ hB10
      have HFB2 : Hid (Blk w10 w7.heap.size (cb zb32) 25) := HFB.out.below hdr HFB.out.lt
      have HU2 : Hid (Reads w10 (.slice adu tl cpu) t) := HU.out.below hdr
      have HV2 : Hid (Reads w10 (.slice adv tl cpv) t) := HVT.out.below hB10
      have c1 : w10.cell? ⟨g + 1, 0, none⟩ = some (.int .i64 (n : Int)) := (HB1.out.below hB10 HB1.out.lt).cell 0
      have HD2 : Hid (Blk w10 (g + 2) (cb zb32) 25) := HB2.out.below hB10 HB2.out.lt
      have c3 : w10.cell? ⟨g + 3, 0, none⟩ = some (.slice adv tl cpv) := (HB3.out.below hB10 HB3.out.lt).cell 0
      obtain ⟨cs, HCS⟩ : ∃ x, Hid (x = cb zb32) := ⟨_, rfl⟩
      have heq : ∀ wx : World, (Op.equalIn 10000 25 (.agg cs.toArray) (.agg cs.toArray)).run Try.prog wx = .ok true wx := fun wx => by rw [HCS.out]; exact eq_dig_same zb32 HDL.out wx
      have HIZ : Hid ((Try.prog.info? 25).map (·.size) = some cs.length) := by show _ = _; rw [HCS.out, cb_len, HDL.out]; exact Try.infodig
      rw [← HCS.out] at HFB2 HD2
      have hwn : IntKind.u64.wrap (n : Int) = (n : Int) := by rw [IntKind.wrap_u64]; have := HN.out.hi; omega
      clear hk hdr hB10 HFB HU HVT HB1 HB2 HB3 HS9 HB9
      go_wp2_with (first
        | (refine wpSeq_val (.agg cs.toArray) _ (by rfl) (load_run 25 _ rfl (g + 2) 0 rfl cs _ HD2.out.range Try.underlying25 rfl HIZ.out) ?_)
        | (refine wpSeq_val (.agg cs.toArray) _ (by rfl) (load_run 25 _ rfl w7.heap.size 0 rfl cs _ HFB2.out.range Try.underlying25 rfl HIZ.out) ?_))
      refine (same_any _ _ t t w10 HV2.out HU2.out).mono ?_
      rintro e w11 ⟨rfl, rfl⟩
      rw [decide_eq_true (rfl : t = t)]
      go_wp2_with fail
      refine (cworks_any w11).mono ?_
      rintro e w12 ⟨rfl, hb⟩
      have HF : Hid (Below w.heap.size w w12) := HB10.out.trans (hb.mono HB10.out.size)
      clear hb HB10
      go_wp2
      go_ret
      exact ⟨rfl, HF.out⟩
end Go.Proofs.Ytdhglbemkaogiaa

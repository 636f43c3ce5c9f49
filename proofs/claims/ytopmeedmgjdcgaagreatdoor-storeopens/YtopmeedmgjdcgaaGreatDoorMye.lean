/- Texts that the proof leans on, one behind the other: The walks of the reference's reader: Num, Count, Take, Text, Digest, Done. The walks of the reference's reader: Count and Take. The walks of the reference's reader: Text, Digest, Done. .. -/
import Derived.Test.YtopmeedmgjdcgaaGreatDoorMyd
import Derived.BigQuiet
import Derived.Deep.RegionHeld3
import Derived.Laws.Rows
set_option maxRecDepth 100000
set_option maxHeartbeats 16000000
namespace Go.Proofs.YtopmeedmgjdcgaaGreatDoor
open Go.RowKit
structure InS (w : World) (g : Nat) (v : Value) (l : List (BitVec 8)) (pos : Nat) (bad : Bool) : Prop where
 blk : Blk w g [v, .int .i64 (pos : Int), .bool bad] 82
 byt : Reads w v l
 le : pos ≤ l.length
theorem InS.ne {w : World} {g : Nat} {v : Value} {l : List (BitVec 8)} {pos : Nat} {bad : Bool} (h : InS w g v l pos bad) : ∀ b off, 0 < l.length → (∀ j, j < l.length → w.cell? ⟨b, off + j, none⟩ = some (.int .u8 ((l.getD j 0).toNat : Int))) → b ≠ g := by
 intro b off hp hc he
 subst he
 have h0 := hc 0 hp
 rw [h.blk.cell] at h0
 obtain ⟨ad, cap, hv, _⟩ := h.byt
 subst hv
 match off, h0 with
 | 0, h0 => simp at h0
 | 1, h0 => simp at h0
 | 2, h0 => simp at h0
 | k + 3, h0 => simp at h0
theorem InS.only {w w' : World} {g : Nat} {v : Value} {l : List (BitVec 8)} {pos : Nat} {bad : Bool} (h : InS w g v l pos bad) (ho : Only g w w') : Reads w' v l := by
 have ha := h.ne
 obtain ⟨ad, cap, rfl, hc, hn, hx⟩ := h.byt
 refine ⟨ad, cap, rfl, hc, hn, fun hp => ?_⟩
 obtain ⟨b, off, h1, h2⟩ := hx hp
 exact ⟨b, off, h1, fun j hj => ho.cell (p := ⟨b, off + j, none⟩) (ha b off hp h2) (h2 j hj)⟩
theorem InS.setBad {w : World} {g : Nat} {v : Value} {l : List (BitVec 8)} {pos : Nat} {bad : Bool} (h : InS w g v l pos bad) (b : Bool) : InS (w.setCell ⟨g, 2, none⟩ (.bool b)) g v l pos b :=
 ⟨h.blk.set 2 (.bool b), h.only ((Only.refl _ _).setCell _ _), h.le⟩
theorem InS.setPos {w : World} {g : Nat} {v : Value} {l : List (BitVec 8)} {pos : Nat} {bad : Bool} (h : InS w g v l pos bad) (p : Nat) (hp : p ≤ l.length) : InS (w.setCell ⟨g, 1, none⟩ (.int .i64 (p : Int))) g v l p bad :=
 ⟨h.blk.set 1 (.int .i64 (p : Int)), h.only ((Only.refl _ _).setCell _ _), hp⟩
theorem InS.drewN {w : World} {g : Nat} {v : Value} {l : List (BitVec 8)} {pos : Nat} {bad : Bool} (h : InS w g v l pos bad) (n : Nat) : InS (w.drewN n) g v l pos bad := ⟨h.blk.drewN n, h.byt, h.le⟩
theorem InS.below {w w' : World} {g : Nat} {v : Value} {l : List (BitVec 8)} {pos : Nat} {bad : Bool} (h : InS w g v l pos bad) (hb : Below w.heap.size w w') : InS w' g v l pos bad := ⟨h.blk.below hb h.blk.lt, h.byt.below hb, h.le⟩
def InDoes {α : Type} (g : Nat) (v : Value) (l : List (BitVec 8)) (w : World) (o : Option (α × List (BitVec 8))) (R : α → World → Value → Prop) (Z : Value → Prop) (e : Ending) (w' : World) : Prop :=
 (∃ a p u, o = some (a, l.drop p) ∧ e = .returned u ∧ R a w' u ∧ InS w' g v l p false ∧ Only g w w') ∨ (o = none ∧ ∃ u p, e = .returned u ∧ Z u ∧ InS w' g v l p true ∧ Only g w w')
structure InInv (g : Nat) (v : Value) (l : List (BitVec 8)) (pos : Nat) (bad : Bool) (w : World) (k acc : Nat) (wr : World) : Prop where
 le : k ≤ 10
 lt : acc < 2 ^ (7 * k)
 eq : readNum (l.drop pos) = decNum (10 - k) k acc (l.drop (pos + k))
 st : InS wr g v l (pos + k) bad
 onl : Only g w wr
theorem innum_any (g : Nat) (v : Value) (l : List (BitVec 8)) (pos : Nat) (bad : Bool) (w : World) (h : InS w g v l pos bad) (hl : l.length ≤ 9223372036854775807) :
 Calls Tryz.prog 70 #[.pointer (some ⟨g, 0, none⟩)] w fun e w' => InDoes g v l w (if bad then none else readNum (l.drop pos)) (fun a _ u => u = .int .u64 (a : Int)) (fun u => u = .int .u64 0) e w' := by
 have hI : InInv g v l pos bad w 0 0 w := ⟨by omega, by simp, rfl, h, Only.refl _ _⟩
 have HL : Hid (l.length ≤ 9223372036854775807) := hl
 clear h hl
 go_enter Tryz.func70, Tryz.ntmps70
 go_wp2
 go_loopw [3, 4] (fun x i wr => ∃ (k acc : Nat), i = .int .i64 (k : Int) ∧ x = .int .u64 (acc : Int) ∧ InInv g v l pos bad w k acc wr) (fun _ i _ => 10 - (intOf i).toNat)
 case atStart => exact ⟨0, 0, rfl, rfl, hI⟩
 case round =>
  clear hI
  obtain ⟨k, acc, rfl, rfl, hI⟩ := hrel
  have hk := hI.le
  obtain ⟨ad, cap, hv, hcap, _, hx⟩ := id hI.st.byt
  obtain ⟨m, HM⟩ := sqn (l.length)
  rw [← HM.out] at hv hcap
  subst hv
  have HI : Hid (InInv g (.slice ad m cap) l pos bad w k acc wr) := hI
  have c0 : wr.cell? ⟨g, 0, none⟩ = some (.slice ad m cap) := hI.st.blk.cell 0
  have c1 : wr.cell? ⟨g, 1, none⟩ = some (.int .i64 ((pos + k : Nat) : Int)) := hI.st.blk.cell 1
  have c2 : wr.cell? ⟨g, 2, none⟩ = some (.bool bad) := hI.st.blk.cell 2
  have f1 : wr.frozen? ⟨g, 1, none⟩ = false := hI.st.blk.frozen 1
  have f2 : wr.frozen? ⟨g, 2, none⟩ = false := hI.st.blk.frozen 2
  have HX : Hid (∀ j, j < m → ∃ b off, ad = some ⟨b, off, none⟩ ∧ b ≠ g ∧ wr.cell? ⟨b, off + j, none⟩ = some (.int .u8 ((l.getD j 0).toNat : Int))) := by
   intro j hj; rw [HM.out] at hj; obtain ⟨b, off, h1, h2⟩ := hx (by omega)
   exact ⟨b, off, h1, hI.st.ne b off (by omega) h2, h2 j hj⟩
  clear hx hI
  obtain ⟨p, HP⟩ := sqn (pos + k)
  rw [← HP.out] at c1
  have HPM : Hid (p ≤ m) := by show _ ≤ _; rw [HP.out, HM.out]; exact HI.out.st.le
  have hmx : m ≤ 9223372036854775807 := by rw [HM.out]; exact HL.out
  by_cases hlt : k < 10
  · cases bad with
    | true =>
     have HF : Hid (∀ n, InDoes g (.slice ad m cap) l w none (fun (a : Nat) _ u => u = .int .u64 (a : Int)) (fun u => u = .int .u64 0) (.returned (.int .u64 0)) ((wr.drewN n).setCell ⟨g, 2, none⟩ (.bool true))) := fun n =>
      Or.inr ⟨rfl, _, _, rfl, rfl, (HI.out.st.drewN n).setBad true, (HI.out.onl.drewN n).setCell _ _⟩
     clear HI; go_wp2
     go_quiet (fail)
     go_wp2; go_ret; exact HF.out _
    | false =>
     by_cases hpm : p < m
     · obtain ⟨b, off, rfl, hbg, hc⟩ := HX.out p hpm
       have hge : ¬ ((m : Int) ≤ (p : Int)) := by omega
       have hc8 := (l.getD p 0).isLt
       have HE : Hid (readNum (l.drop pos) = if (k = 9 ∧ 1 < (l.getD p 0).toNat) ∨ (0 < k ∧ (l.getD p 0).toNat = 0) then none else if (l.getD p 0).toNat < 128 then some (acc + (l.getD p 0).toNat % 128 * 2 ^ (7 * k), l.drop (p + 1)) else decNum (10 - (k + 1)) (k + 1) (acc + (l.getD p 0).toNat % 128 * 2 ^ (7 * k)) (l.drop (p + 1))) := by
        show _ = _
        have hd : l.drop p = l.getD p 0 :: l.drop (p + 1) := by
         rw [HM.out] at hpm; rw [List.drop_eq_getElem_cons hpm, List.getD_eq_getElem?_getD, List.getElem?_eq_getElem hpm]
         rfl
        rw [HI.out.eq, ← HP.out, hd, dec_step k acc hlt]
       obtain ⟨cn, HCN⟩ := sqn ((l.getD p 0).toNat); rw [← HCN.out] at hc hc8 HE; have HA : Hid (acc < 2 ^ (7 * k)) := HI.out.lt; have HS : Hid (∀ n, InS ((wr.drewN n).setCell ⟨g, 1, none⟩ (.int .i64 ((p : Int) + 1))) g (.slice (some ⟨b, off, none⟩) m cap) l (p + 1) false) := fun n => (HI.out.st.drewN n).setPos (p + 1) (by rw [← HM.out]; omega)
       have HO : Hid (∀ n, Only g w ((wr.drewN n).setCell ⟨g, 1, none⟩ (.int .i64 ((p : Int) + 1)))) := fun n => (HI.out.onl.drewN n).setCell _ _
       have HBad : Hid (readNum (l.drop pos) = none → ∀ n, InDoes g (.slice (some ⟨b, off, none⟩) m cap) l w (readNum (l.drop pos)) (fun (a : Nat) _ u => u = .int .u64 (a : Int)) (fun u => u = .int .u64 0) (.returned (.int .u64 0)) (((wr.drewN n).setCell ⟨g, 1, none⟩ (.int .i64 ((p : Int) + 1))).setCell ⟨g, 2, none⟩ (.bool true))) := fun hno n =>
        Or.inr ⟨hno, _, _, rfl, rfl, (HS.out n).setBad true, (HO.out n).setCell _ _⟩
       have hp1 : IntKind.i64.wrap ((p : Int) + 1) = (p : Int) + 1 := by rw [IntKind.wrap_i64]; omega
       have h7 : IntKind.i64.wrap (7 * (k : Int)) = 7 * (k : Int) := by rw [IntKind.wrap_i64]; omega
       have h7u : IntKind.u64.wrap (7 * (k : Int)) = 7 * (k : Int) := by rw [IntKind.wrap_u64]; omega
       have h70 : ¬ (7 * (k : Int) < 0) := by omega
       clear HI HX; go_wp2
       go_quiet (fail)
       go_wp2
       go_quiet (fail)
       by_cases hA : (k = 9 ∧ 1 < cn) ∨ (0 < k ∧ cn = 0)
       · have HNo : Hid (readNum (l.drop pos) = none) := by show _ = _; rw [HE.out, if_pos hA]
         clear HE HS HO HA
         rcases hA with ⟨rfl, h1⟩ | ⟨h1, rfl⟩
         · have h1i : 1 < (cn : Int) := by omega
           clear h7 h7u h70; go_wp2; go_ret; exact HBad.out HNo.out _
         · by_cases h9 : k = 9
           · subst h9
             clear h7 h7u h70; go_wp2; go_ret; exact HBad.out HNo.out _
           · have h9i : ¬ ((k : Int) = 9) := by omega
             go_wp2; go_ret; exact HBad.out HNo.out _
       · have HG : Hid (cn % 128 * 2 ^ (7 * k) + acc < 18446744073709551616) := by
          show _ < _; have ha := HA.out
          by_cases h9 : k = 9
          · subst h9
            simp only [Nat.reduceMul, Nat.reducePow] at ha ⊢; omega
          · have hp : (2 : Nat) ^ (7 * k) ≤ 2 ^ 56 := Nat.pow_le_pow_right (by omega) (by omega)
            have : cn % 128 * 2 ^ (7 * k) ≤ 127 * 2 ^ 56 := Nat.mul_le_mul (by omega) hp
            simp only [Nat.reducePow] at this hp; omega
         obtain ⟨sm, HSM⟩ := sqn (acc + cn % 128 * 2 ^ (7 * k)); have HE2 : Hid (readNum (l.drop pos) = if cn < 128 then some (sm, l.drop (p + 1)) else decNum (10 - (k + 1)) (k + 1) sm (l.drop (p + 1))) := by show _ = _; rw [HE.out, if_neg hA, HSM.out]
         have hcast : (cn : Int) % 128 * 2 ^ (7 * k) = ((cn % 128 * 2 ^ (7 * k) : Nat) : Int) := by simp
         have hw1 : IntKind.u64.wrap ((cn : Int) % 128 * 2 ^ (7 * k)) = (cn : Int) % 128 * 2 ^ (7 * k) := by
          have := HG.out; rw [hcast, IntKind.wrap_u64]; omega
         have hw2 : IntKind.u64.wrap ((acc : Int) + (cn : Int) % 128 * 2 ^ (7 * k)) = (sm : Int) := by
          have := HG.out; rw [hcast, IntKind.wrap_u64, HSM.out]; omega
         clear HE hcast HBad
         by_cases hC : cn < 128
         · have hC2 : (cn : Int) < 128 := by omega
           have HF : Hid (∀ n, InDoes g (.slice (some ⟨b, off, none⟩) m cap) l w (readNum (l.drop pos)) (fun (a : Nat) _ u => u = .int .u64 (a : Int)) (fun u => u = .int .u64 0) (.returned (.int .u64 (sm : Int))) ((wr.drewN n).setCell ⟨g, 1, none⟩ (.int .i64 ((p : Int) + 1)))) := fun n =>
            Or.inl ⟨sm, p + 1, _, by rw [HE2.out, if_pos hC], rfl, rfl, HS.out n, HO.out n⟩
           clear HE2 HS HO
           by_cases h9 : k = 9
           · subst h9
             have h1 : cn = 1 := by omega
             subst h1; have hs1 : (sm : Int) = (acc : Int) + 9223372036854775808 := by rw [HSM.out]; simp
             have hw3 : IntKind.u64.wrap ((acc : Int) + 9223372036854775808) = (acc : Int) + 9223372036854775808 := by rw [IntKind.wrap_u64]; have := HG.out; simp at this; omega
             rw [hs1] at HF; clear hA h7 h7u h70 hw1 hw2 hs1; go_wp2; go_ret; exact HF.out _
           · have h9i : ¬ ((k : Int) = 9) := by omega
             by_cases hz : cn = 0
             · have hk0 : k = 0 := by omega
               subst hz hk0; have ha0 : acc = 0 := by have := HA.out; simp at this; omega
               subst ha0; have hs0 : sm = 0 := HSM.out; subst hs0; clear hA h7 h7u h70 hw1 hw2; go_wp2; go_ret; exact HF.out _
             · have hz2 : ¬ ((cn : Int) = 0) := by omega
               clear hA
               by_cases hk0 : 0 < k
               · go_wp2
                 go_ret; exact HF.out _
               · go_wp2
                 go_ret; exact HF.out _
         · have hC2 : ¬ ((cn : Int) < 128) := by omega
           have hz2 : ¬ ((cn : Int) = 0) := by omega
           have h9i : ¬ ((k : Int) = 9) := by omega
           have HS2 : Hid (sm < 2 ^ (7 * (k + 1))) := by
            show _ < _; rw [HSM.out, pow7]; have h1 := HA.out; have h2 : cn % 128 * 2 ^ (7 * k) ≤ 127 * 2 ^ (7 * k) := Nat.mul_le_mul_right _ (by omega)
            omega
           have HJ : Hid (∀ n, InInv g (.slice (some ⟨b, off, none⟩) m cap) l pos false w (k + 1) sm ((wr.drewN n).setCell ⟨g, 1, none⟩ (.int .i64 ((p : Int) + 1)))) := fun n =>
            ⟨by omega, HS2.out, by rw [HE2.out, if_neg hC, HP.out, Nat.add_assoc], by have := HS.out n; rw [HP.out, Nat.add_assoc] at this; rw [HP.out]; exact this, HO.out n⟩
           clear hA hC HE2 HS HO
           by_cases hk0 : 0 < k
           · go_wp2
             go_roundw
             case rel => exact ⟨k + 1, sm, by go_num, rfl, HJ.out _⟩
             case measure => simp [intOf]; omega
           · go_wp2
             go_roundw
             case rel => exact ⟨k + 1, sm, by go_num, rfl, HJ.out _⟩
             case measure => simp [intOf]; omega
     · have hge : (m : Int) ≤ (p : Int) := by omega
       have HNo : Hid (readNum (l.drop pos) = none) := by
        show _ = _; rw [HI.out.eq, ← HP.out, List.drop_of_length_le (by rw [← HM.out]; omega), dec_nil k acc hlt]
       have HF : Hid (∀ n, InDoes g (.slice ad m cap) l w (readNum (l.drop pos)) (fun (a : Nat) _ u => u = .int .u64 (a : Int)) (fun u => u = .int .u64 0) (.returned (.int .u64 0)) ((wr.drewN n).setCell ⟨g, 2, none⟩ (.bool true))) := fun n =>
        Or.inr ⟨HNo.out, _, _, rfl, rfl, (HI.out.st.drewN n).setBad true, (HI.out.onl.drewN n).setCell _ _⟩
       clear HI HX; go_wp2
       go_quiet (fail)
       go_wp2; go_ret; exact HF.out _
  · have hk10 : k = 10 := by omega
    subst hk10
    have HF : Hid (InDoes g (.slice ad m cap) l w (if bad then none else readNum (l.drop pos)) (fun (a : Nat) _ u => u = .int .u64 (a : Int)) (fun u => u = .int .u64 0) (.returned (.int .u64 0)) (wr.setCell ⟨g, 2, none⟩ (.bool true))) := by
     refine Or.inr ⟨?_, _, _, rfl, rfl, HI.out.st.setBad true, HI.out.onl.setCell _ _⟩; rw [HI.out.eq]
     cases bad <;> rfl
    clear HI HX
    cases bad with
    | true =>
     go_wp2; go_ret; exact HF.out
    | false =>
     go_wp2; go_ret; exact HF.out
theorem incount_any (g : Nat) (v : Value) (l : List (BitVec 8)) (pos : Nat) (bad : Bool) (w : World) (most : Nat) (hm : most < 9223372036854775808) (h : InS w g v l pos bad) (hl : l.length ≤ 9223372036854775807) :
 Calls Tryz.prog 43 #[.pointer (some ⟨g, 0, none⟩), .int .i64 (most : Int)] w fun e w' => InDoes g v l w (if bad then none else readCount most (l.drop pos)) (fun a _ u => u = .int .i64 (a : Int)) (fun u => u = .int .i64 0) e w' := by
 have HI : Hid (InS w g v l pos bad) := h
 have HL : Hid (l.length ≤ 9223372036854775807) := hl
 have hw : IntKind.u64.wrap (most : Int) = (most : Int) := by rw [IntKind.wrap_u64]; omega
 obtain ⟨oo, HOO⟩ := sqn (if bad then none else readCount most (l.drop pos))
 rw [← HOO.out]
 clear h hl
 go_enter Tryz.func43, Tryz.ntmps43
 go_wp2_with fail
 refine (innum_any g v l pos bad w HI.out HL.out).mono ?_
 rintro e w1 (⟨n, p, u, ho, rfl, rfl, hs, hon⟩ | ⟨ho, u, p, rfl, rfl, hs, hon⟩)
 · have c2 : w1.cell? ⟨g, 2, none⟩ = some (.bool false) := hs.blk.cell 2
   have f2 : w1.frozen? ⟨g, 2, none⟩ = false := hs.blk.frozen 2; have HS : Hid (InS w1 g v l p false) := hs; have HON : Hid (Only g w w1) := hon
   have HC : Hid (oo = if n ≤ most then some (n, l.drop p) else none) := by
    show _ = _; rw [HOO.out]
    cases bad with
    | true => simp at ho
    | false =>
     simp only [Bool.false_eq_true, if_false] at ho ⊢; unfold readCount; rw [ho]
   clear hs hon ho HI
   by_cases hle : n ≤ most
   · have hng : ¬ ((most : Int) < (n : Int)) := by omega
     have hwn : IntKind.i64.wrap (n : Int) = (n : Int) := by rw [IntKind.wrap_i64]; omega
     have HF : Hid (InDoes g v l w oo (fun (a : Nat) _ u => u = .int .i64 (a : Int)) (fun u => u = .int .i64 0) (.returned (.int .i64 (n : Int))) w1) := Or.inl ⟨n, p, _, by rw [HC.out, if_pos hle], rfl, rfl, HS.out, HON.out⟩
     clear HC HS HON; go_wp2; go_ret; exact HF.out
   · have hg : (most : Int) < (n : Int) := by omega
     have HF : Hid (InDoes g v l w oo (fun (a : Nat) _ u => u = .int .i64 (a : Int)) (fun u => u = .int .i64 0) (.returned (.int .i64 0)) (w1.setCell ⟨g, 2, none⟩ (.bool true))) := Or.inr ⟨by rw [HC.out, if_neg hle], _, _, rfl, rfl, HS.out.setBad true, HON.out.setCell _ _⟩
     clear HC HS HON hle; go_wp2; go_ret; exact HF.out
 · have c2 : w1.cell? ⟨g, 2, none⟩ = some (.bool true) := hs.blk.cell 2
   have f2 : w1.frozen? ⟨g, 2, none⟩ = false := hs.blk.frozen 2
   have HC : Hid (oo = none) := by
    show _ = _; rw [HOO.out]
    cases bad with
    | true => rfl
    | false =>
     simp only [Bool.false_eq_true, if_false] at ho ⊢; unfold readCount; rw [ho]
   have HF : Hid (InDoes g v l w oo (fun (a : Nat) _ u => u = .int .i64 (a : Int)) (fun u => u = .int .i64 0) (.returned (.int .i64 0)) (w1.setCell ⟨g, 2, none⟩ (.bool true))) := Or.inr ⟨HC.out, _, _, rfl, rfl, hs.setBad true, hon.setCell _ _⟩
   clear hs hon ho HI; go_wp2; go_ret; exact HF.out
def cutAd (ad : Option Addr) (p cap : Nat) : Option Addr := if cap = p then ad else ad.map (·.add p)
theorem slice_mid4 (ad : Option Addr) (m cap p n : Nat) (h2 : p + n ≤ cap) (w : World) :
 (Instr.sliceAt 23 (.slice ad m cap) (some (.int .i64 (p : Int))) (some (.int .i64 ((p : Int) + (n : Int)))) none).run Tryz.prog w = .ok (.slice (cutAd ad p cap) n (cap - p)) w := by
 have e : ((p : Int) + (n : Int)).toNat = p + n := by omega
 unfold cutAd
 simp [go_sem, Instr.sliceAt, Instr.slice, Instr.sliceBounds]
 rw [if_pos ⟨by omega, by omega⟩, e, if_pos (by omega), Nat.add_sub_cancel_left]
theorem Reads.mid {w : World} {ad : Option Addr} {m cap : Nat} {l : List (BitVec 8)} (h : Reads w (.slice ad m cap) l) (p n : Nat) (hp : p + n ≤ l.length) : Reads w (.slice (cutAd ad p cap) n (cap - p)) ((l.drop p).take n) := by
 have hm : m ≤ cap ∧ m = l.length := by
  obtain ⟨ad', cap', hv, hc, _⟩ := h
  simp only [Value.slice.injEq] at hv
  obtain ⟨_, rfl, rfl⟩ := hv
  exact ⟨hc, rfl⟩
 obtain ⟨hmc, hml⟩ := hm
 cases ad with
 | none =>
  obtain ⟨ad', cap', hv, hc, hn, hx⟩ := h
  simp only [Value.slice.injEq] at hv
  obtain ⟨rfl, _, rfl⟩ := hv
  have := hn rfl
  subst this
  have hl : l.length = 0 := by omega
  have hn0 : n = 0 := by omega
  have hp0 : p = 0 := by omega
  subst hn0 hp0
  exact ⟨Option.none, 0, by simp [cutAd], by simp, fun _ => rfl, fun h => by simp at h⟩
 | some a =>
  have h1 := (h.drop p (by omega) (if cap = p then a else a.add p) (fun hlt => by rw [if_neg (by omega)]))
  have h2 := h1.take n (by rw [List.length_drop]; omega)
  have e : cutAd (Option.some a) p cap = Option.some (if cap = p then a else a.add p) := by
   unfold cutAd
   by_cases hcp : cap = p
   · rw [if_pos hcp, if_pos hcp]
   · rw [if_neg hcp, if_neg hcp]; rfl
  rw [e]
  exact h2
theorem wp_appendB {w : World} {o : Oper} {a : Act} {K : Act → World → Prop} {Q : Exit → Act → World → Prop} (s x : Operand)
 (ho : o.op = .call { callee := .builtin .append, args := #[s, x], argTypes := #[23, 23] }) (vx : Value) (news : List (BitVec 8)) (hs : a.eval s = .slice none 0 0) (hx : a.eval x = vx) (hr : Reads w vx news)
 (hlen : news.length ≤ 140737488355328) (h : ∀ v' w', OwnB w' w.heap.size v' news → Below w.heap.size w w' → K (a.put o.dst v') w') : o.wp Tryz.prog a w K Q := by
 obtain ⟨i0, hi, hz0, hz1, hz2⟩ := info_parts Tryz.infob
 obtain ⟨ad, cap, rfl, hcap, hnn, hpos⟩ := hr
 cases ad with
 | some ad =>
  refine wp_append_own w s x 23 ho w.heap.size 5 i0 (.int .u8 0) 1 1 Tryz.underlying23 hi hz0 hz1 hz2 rfl (by decide) (.slice none 0 0) 0 [] hs (World.ownsRow_nil _ _ _ _) ad news.length cap (cb news) hx (by rw [cb_len]; omega) ?_ (cb_one _) (by unfold maxLen; omega) (by omega) (Nat.le_refl _) ?_
  · intro j u hj
    have hjl : j < news.length := by have := (List.getElem?_eq_some_iff.1 hj).1; rwa [cb_len] at this
    obtain ⟨b, off, h1, h2⟩ := hpos (by omega)
    cases h1
    rw [Addr.add_mid, h2 j hjl, ← hj, cb_get news j hjl]
  · intro v' w' h1 h2 _
    rw [List.nil_append, Nat.zero_add] at h1; exact h v' w' h1 ((Below.refl _ _).grown h2 (Nat.le_refl _) (fun k hk => by simp [Value.ownBlock] at hk))
 | none =>
  have hn0 : news = [] := by
   cases news with
   | nil => rfl
   | cons b r => obtain ⟨b, off, h1, _⟩ := hpos (by simp); cases h1
  subst hn0
  have hc0 := hnn rfl
  subst hc0
  have hrun := run_append_owned_none (P := Tryz.prog) (w := w) w.heap.size 23 o.type 5 i0 1 Tryz.underlying23 hi (.slice none 0 0) 0 [] (World.ownsRow_nil _ _ _ _)
  unfold Oper.wp execOp
  simp only [List.length_nil] at hx
  simp only [ho, resolve, invoke, builtin, Sem.run_bind, Sem.run_pure, Result.andThen_ok, List.map_toArray, List.map_cons, List.map_nil, hs, hx, hrun]
  exact h _ w (OwnB.nil _ _) (Below.refl _ _)
theorem intake_any (g : Nat) (v : Value) (l : List (BitVec 8)) (pos : Nat) (bad : Bool) (w : World) (n : Nat) (hn : n ≤ 140737488355328) (h : InS w g v l pos bad) (hl : l.length ≤ 9223372036854775807) :
 Calls Tryz.prog 71 #[.pointer (some ⟨g, 0, none⟩), .int .i64 (n : Int)] w fun e w' => InDoes g v l w (if bad then none else cut n (l.drop pos)) (fun a w' u => OwnB w' w.heap.size u a) (fun u => u = .slice none 0 0) e w' := by
 have HI : Hid (InS w g v l pos bad) := h
 have c1 : w.cell? ⟨g, 1, none⟩ = some (.int .i64 (pos : Int)) := h.blk.cell 1
 have c2 : w.cell? ⟨g, 2, none⟩ = some (.bool bad) := h.blk.cell 2
 have f1 : w.frozen? ⟨g, 1, none⟩ = false := h.blk.frozen 1
 have f2 : w.frozen? ⟨g, 2, none⟩ = false := h.blk.frozen 2
 obtain ⟨ad, cap, hv, hcap, hnn, _⟩ := id h.byt
 obtain ⟨m, HM⟩ := sqn (l.length)
 rw [← HM.out] at hv hcap
 subst hv
 have c0 : w.cell? ⟨g, 0, none⟩ = some (.slice ad m cap) := h.blk.cell 0
 have HPM : Hid (pos ≤ m) := by show _ ≤ _; rw [HM.out]; exact h.le
 have hpm := HPM.out
 have hmx : m ≤ 9223372036854775807 := by rw [HM.out]; exact hl
 have hsub : IntKind.i64.wrap ((m : Int) - (pos : Int)) = (m : Int) - (pos : Int) := by rw [IntKind.wrap_i64]; omega
 clear h hl
 cases bad with
 | true =>
  have HF : Hid (∀ k, InDoes g (.slice ad m cap) l w none (fun (a : List (BitVec 8)) w' u => OwnB w' w.heap.size u a) (fun u => u = .slice none 0 0) (.returned (.slice none 0 0)) ((w.drewN k).setCell ⟨g, 2, none⟩ (.bool true))) := fun k =>
   Or.inr ⟨rfl, _, _, rfl, rfl, (HI.out.drewN k).setBad true, ((Only.refl _ _).drewN k).setCell _ _⟩
  clear HI
  go_enter Tryz.func71, Tryz.ntmps71
  go_wp2
  go_quiet (fail)
  go_wp2
  go_ret
  exact HF.out _
 | false =>
  by_cases hle : n ≤ m - pos
  · have hng : ¬ ((m : Int) - (pos : Int) < (n : Int)) := by omega
    have hadd : IntKind.i64.wrap ((pos : Int) + (n : Int)) = (pos : Int) + (n : Int) := by rw [IntKind.wrap_i64]; omega
    have hsub2 : IntKind.i64.wrap ((pos : Int) + (n : Int) - (n : Int)) = (pos : Int) := by rw [IntKind.wrap_i64]; omega
    go_enter Tryz.func71, Tryz.ntmps71
    go_wp2
    go_quiet (fail)
    go_wp2; have HS3 : Hid (InS ((w.drewN nq).setCell ⟨g, 1, none⟩ (.int .i64 ((pos : Int) + (n : Int)))) g (.slice ad m cap) l (pos + n) false) := (HI.out.drewN nq).setPos (pos + n) (by rw [← HM.out]; omega)
    have HO3 : Hid (Only g w ((w.drewN nq).setCell ⟨g, 1, none⟩ (.int .i64 ((pos : Int) + (n : Int))))) := ((Only.refl _ _).drewN nq).setCell _ _
    generalize (w.drewN nq).setCell ⟨g, 1, none⟩ (.int .i64 ((pos : Int) + (n : Int))) = w3 at *
    have d0 : w3.cell? ⟨g, 0, none⟩ = some (.slice ad m cap) := HS3.out.blk.cell 0; have d1 : w3.cell? ⟨g, 1, none⟩ = some (.int .i64 ((pos : Int) + (n : Int))) := HS3.out.blk.cell 1; clear c0 c1 c2 f1 f2 HI; have hsl := slice_mid4 ad m cap pos n (by omega)
    have hwp : IntKind.i64.wrap (pos : Int) = (pos : Int) := by rw [IntKind.wrap_i64]; omega
    have HR3 : Hid (∀ k, Reads (w3.drewN k) (.slice (cutAd ad pos cap) n (cap - pos)) ((l.drop pos).take n)) := fun k => HS3.out.byt.mid pos n (by rw [← HM.out]; omega)
    have HLEN : Hid (((l.drop pos).take n).length ≤ 140737488355328) := by show _ ≤ _; rw [List.length_take, List.length_drop, ← HM.out]; omega
    obtain ⟨S, HSd⟩ : ∃ S : World → Prop, Hid (S = fun w' => w'.cell? ⟨g, 0, none⟩ = some (.slice ad m cap) ∧ w'.cell? ⟨g, 1, none⟩ = some (.int .i64 ((pos : Int) + (n : Int)))) := ⟨_, rfl⟩
    have hS0 : S w3.drew := by rw [HSd.out]; exact ⟨d0, d1⟩
    have hSS : ∀ wx, S wx → wx.cell? ⟨g, 0, none⟩ = some (.slice ad m cap) ∧ wx.cell? ⟨g, 1, none⟩ = some (.int .i64 ((pos : Int) + (n : Int))) := fun wx h => by rw [HSd.out] at h; exact h
    refine wp_region_held_drew (S := S) (by kernel_rfl) hS0 (fun _ => ?_)
    refine tkc 0 (.slice none 0 0) rfl hS0 ?_; simp only [Act.put, sq]; refine tkc 1 (.pointer (some ⟨g, 0, none⟩)) rfl hS0 ?_; simp only [Act.put, sq]; refine tkc 2 (.pointer (some ⟨g, 0, none⟩)) rfl hS0 ?_; simp only [Act.put, sq]; refine tkc 3 (.pointer (some ⟨g, 0, none⟩)) rfl hS0 ?_; simp only [Act.put, sq]; refine tka 4 (.slice ad m cap) rfl (fun wx hS => by simp [go_sem, (hSS wx hS).1]) hS0 ?_
    simp only [Act.put, sq]; refine tkc 5 (.pointer (some ⟨g, 0, none⟩)) rfl hS0 ?_; simp only [Act.put, sq]; refine tkc 6 (.pointer (some ⟨g, 0, none⟩)) rfl hS0 ?_; simp only [Act.put, sq]; refine tkc 7 (.pointer (some ⟨g, 1, none⟩)) rfl hS0 ?_; simp only [Act.put, sq]; refine tka 8 (.int .i64 ((pos : Int) + (n : Int))) rfl (fun wx hS => by simp [go_sem, (hSS wx hS).2]) hS0 ?_
    simp only [Act.put, sq]; refine tkc 9 (.int .i64 (n : Int)) rfl hS0 ?_; simp only [Act.put, sq]; refine tka 10 (.int .i64 (pos : Int)) rfl (fun wx _ => by simp [go_sem, hwp]) hS0 ?_
    simp only [Act.put, sq]; refine tkc 11 (.pointer (some ⟨g, 0, none⟩)) rfl hS0 ?_; simp only [Act.put, sq]; refine tkc 12 (.pointer (some ⟨g, 0, none⟩)) rfl hS0 ?_; simp only [Act.put, sq]; refine tkc 13 (.pointer (some ⟨g, 1, none⟩)) rfl hS0 ?_; simp only [Act.put, sq]; refine tka 14 (.int .i64 ((pos : Int) + (n : Int))) rfl (fun wx hS => by simp [go_sem, (hSS wx hS).2]) hS0 ?_
    simp only [Act.put, sq]; refine tka 15 (.slice (cutAd ad pos cap) n (cap - pos)) rfl (fun wx _ => by simp [go_sem, hsl]) hS0 ?_
    simp only [Act.put, sq]; refine wpAnyH_law 16 (by kernel_rfl) rfl (by rfl) (wp_appendB (.tmp 36) (.tmp 51) rfl _ ((l.drop pos).take n) rfl rfl (HR3.out 1) HLEN.out ?_)
    intro v4 w4 hown4 hbel4; have HSx : S w4 := by rw [HSd.out]; exact ⟨by rw [hbel4.cell (p := ⟨g, 0, none⟩) (block_lt_of_cell d0)]; exact d0, by rw [hbel4.cell (p := ⟨g, 1, none⟩) (block_lt_of_cell d1)]; exact d1⟩
    refine ⟨HSx, ?_⟩; simp only [Act.put, sq]
    have HF : Hid (InDoes g (.slice ad m cap) l w (cut n (l.drop pos)) (fun (a : List (BitVec 8)) w' u => OwnB w' w.heap.size u a) (fun u => u = .slice none 0 0) (.returned v4) w4) := by
     have hb3 : Below w3.heap.size w3 w4 := (Below.refl _ _).drew.trans hbel4; refine Or.inl ⟨(l.drop pos).take n, pos + n, v4, ?_, rfl, hown4.mono HO3.out.size, HS3.out.below hb3, HO3.out.trans (Only.of_below hb3)⟩; unfold cut; rw [if_pos (by rw [List.length_drop, ← HM.out]; exact hle), List.drop_drop]
    clear hown4 hbel4; refine tkc 17 (v4) rfl HSx ?_; simp only [Act.put, sq]; refine wpAnyH_done (by kernel_rfl) ?_ _
    go_wp2; go_ret; exact HF.out
  · have hgt : (m : Int) - (pos : Int) < (n : Int) := by omega
    have HC : Hid (cut n (l.drop pos) = none) := by show cut n _ = _; unfold cut; rw [if_neg (by rw [List.length_drop, ← HM.out]; omega)]
    have HF : Hid (∀ k, InDoes g (.slice ad m cap) l w (cut n (l.drop pos)) (fun (a : List (BitVec 8)) w' u => OwnB w' w.heap.size u a) (fun u => u = .slice none 0 0) (.returned (.slice none 0 0)) ((w.drewN k).setCell ⟨g, 2, none⟩ (.bool true))) := fun k =>
     Or.inr ⟨HC.out, _, _, rfl, rfl, (HI.out.drewN k).setBad true, ((Only.refl _ _).drewN k).setCell _ _⟩
    clear HI
    go_enter Tryz.func71, Tryz.ntmps71
    go_wp2
    go_quiet (fail)
    go_wp2; go_ret; exact HF.out _
theorem readText_count (l : List (BitVec 8)) : readText l = match readCount 1048576 l with | none => none | some (n, r) => cut n r := by
 unfold readText readCount
 cases readNum l with
 | none => rfl
 | some p =>
  obtain ⟨n, r⟩ := p
  simp only
  by_cases h1 : n ≤ 1048576
  · simp only [if_pos h1]
    unfold cut
    by_cases h2 : n ≤ r.length
    · rw [if_pos ⟨h1, h2⟩, if_pos h2]
    · rw [if_neg (by omega), if_neg h2]
  · rw [if_neg (by omega), if_neg h1]
theorem readCount_le {most n : Nat} {l r : List (BitVec 8)} (h : readCount most l = some (n, r)) : n ≤ most := by
 unfold readCount at h
 split at h
 · cases h
 · split at h
   · simp only [Option.some.injEq, Prod.mk.injEq] at h; omega
   · cases h
theorem intext_any (g : Nat) (v : Value) (l : List (BitVec 8)) (pos : Nat) (bad : Bool) (w : World) (h : InS w g v l pos bad) (hl : l.length ≤ 9223372036854775807) :
 Calls Tryz.prog 44 #[.pointer (some ⟨g, 0, none⟩)] w fun e w' => InDoes g v l w (if bad then none else readText (l.drop pos)) (fun a w' u => OwnB w' w.heap.size u a) (fun u => u = .slice none 0 0) e w' := by
 have HI : Hid (InS w g v l pos bad) := h
 have HL : Hid (l.length ≤ 9223372036854775807) := hl
 obtain ⟨oo, HOO⟩ := sqn (if bad then none else readText (l.drop pos))
 rw [← HOO.out]
 clear h hl
 go_enter Tryz.func44, Tryz.ntmps44
 go_wp2_with fail
 refine (incount_any g v l pos bad w 1048576 (by omega) HI.out (by have := HL.out; omega)).mono ?_
 rintro e w1 (⟨n, p, u, ho, rfl, rfl, hs, hon⟩ | ⟨ho, u, p, rfl, rfl, hs, hon⟩)
 · have HC : Hid (oo = cut n (l.drop p) ∧ n ≤ 1048576) := by
    cases bad with
    | true => simp at ho
    | false =>
     simp only [Bool.false_eq_true, if_false] at ho; exact ⟨by rw [HOO.out]; simp only [Bool.false_eq_true, if_false]; rw [readText_count, ho], readCount_le ho⟩
   have HS : Hid (InS w1 g v l p false) := hs; have HON : Hid (Only g w w1) := hon; clear hs hon ho HI
   go_wp2_with fail
   refine (intake_any g v l p false w1 n (by have := HC.out.2; omega) HS.out HL.out).mono ?_
   rintro e w2 (⟨a, q, u, ho, rfl, hu, hs2, hon2⟩ | ⟨ho, u, q, rfl, hu, hs2, hon2⟩)
   · have HF : Hid (InDoes g v l w oo (fun (a : List (BitVec 8)) w' u => OwnB w' w.heap.size u a) (fun u => u = .slice none 0 0) (.returned u) w2) :=
      Or.inl ⟨a, q, u, by rw [HC.out.1]; simpa using ho, rfl, hu.mono HON.out.size, hs2, HON.out.trans hon2⟩
     clear ho hu hs2 hon2 HC HS HON; go_wp2; go_ret; exact HF.out
   · have HF : Hid (InDoes g v l w oo (fun (a : List (BitVec 8)) w' u => OwnB w' w.heap.size u a) (fun u => u = .slice none 0 0) (.returned u) w2) :=
      Or.inr ⟨by rw [HC.out.1]; simpa using ho, u, q, rfl, hu, hs2, HON.out.trans hon2⟩
     clear ho hu hs2 hon2 HC HS HON; go_wp2; go_ret; exact HF.out
 · have HC : Hid (oo = none) := by
    show _ = _; rw [HOO.out]
    cases bad with
    | true => rfl
    | false =>
     simp only [Bool.false_eq_true, if_false] at ho ⊢; rw [readText_count, ho]
   have HS : Hid (InS w1 g v l p true) := hs; have HON : Hid (Only g w w1) := hon; clear hs hon ho HI
   go_wp2_with fail
   refine (intake_any g v l p true w1 0 (by omega) HS.out HL.out).mono ?_
   rintro e w2 (⟨a, q, u, ho, rfl, hu, hs2, hon2⟩ | ⟨ho, u, q, rfl, hu, hs2, hon2⟩)
   · simp at ho
   · have HF : Hid (InDoes g v l w oo (fun (a : List (BitVec 8)) w' u => OwnB w' w.heap.size u a) (fun u => u = .slice none 0 0) (.returned u) w2) :=
      Or.inr ⟨HC.out, u, q, rfl, hu, hs2, HON.out.trans hon2⟩
     clear ho hu hs2 hon2 HC HS HON; go_wp2; go_ret; exact HF.out
theorem indone_any (g : Nat) (v : Value) (l : List (BitVec 8)) (pos : Nat) (bad : Bool) (w : World) (h : InS w g v l pos bad) :
 Calls Tryz.prog 45 #[.pointer (some ⟨g, 0, none⟩)] w fun e w' => e = .returned (.bool (!bad && decide (pos = l.length))) ∧ ∃ k, w' = w.drewN k := by
 have c1 : w.cell? ⟨g, 1, none⟩ = some (.int .i64 (pos : Int)) := h.blk.cell 1
 have c2 : w.cell? ⟨g, 2, none⟩ = some (.bool bad) := h.blk.cell 2
 obtain ⟨ad, cap, hv, hcap, hnn, _⟩ := id h.byt
 obtain ⟨m, HM⟩ := sqn (l.length)
 rw [← HM.out] at hv ⊢
 subst hv
 have c0 : w.cell? ⟨g, 0, none⟩ = some (.slice ad m cap) := h.blk.cell 0
 have hnot : ∀ (x : Bool) (w : World), (Op.unary .not (.bool x)).run Tryz.prog w = .ok (.bool (!x)) w := fun _ _ => rfl
 clear h
 cases bad with
 | true =>
  go_enter Tryz.func45, Tryz.ntmps45
  go_wp2
  go_quiet (fail)
  go_wp2
  go_ret
  exact ⟨by simp, _, rfl⟩
 | false =>
  by_cases he : pos = m
  · subst he
    go_enter Tryz.func45, Tryz.ntmps45
    go_wp2
    go_quiet (fail)
    go_wp2; go_ret; exact ⟨by simp, _, rfl⟩
  · have hei : ¬ ((pos : Int) = (m : Int)) := by omega
    go_enter Tryz.func45, Tryz.ntmps45
    go_wp2
    go_quiet (fail)
    go_wp2; go_ret; exact ⟨by simp [he]; omega, _, rfl⟩
theorem wpOp_enterP {P : Program} {ops : Array Oper} {Q : Exit → Act → World → Prop} {K : Act → World → Prop} {a : Act} {w : World} (i : Nat) {oi : Oper} {f : FuncId} {args : Array Value} {R : Ending → World → Prop}
 (hi : ops[i]? = some oi) (hw : Region.wanted oi (yielded ops a.tmps) = true) (he : (execOp a.eval oi).run P w = .ok (.enter f args) w) (hc : Calls P f args w R)
 (h : ∀ e w', R e w' → (∃ v, e = .returned v ∧ K (a.put oi.dst v) w') ∨ (∃ ch, e = .panicked ch ∧ Q (.panic ch) a w')) : wpOp P ops Q i K a w := by
 unfold wpOp
 rw [hi]
 simp only [hw, if_true]
 left
 unfold Oper.wp
 rw [he, Oper.upon_enter]
 refine hc.mono ?_
 intro e w' hR
 rcases h e w' hR with ⟨v, rfl, hv⟩ | ⟨ch, rfl, hv⟩
 · exact hv
 · exact hv
theorem wpAnyH_enterP {P : Program} {md : Region.Mode} {ops : Array Oper} {Q : Exit → Act → World → Prop} {S : World → Prop} {fuel : Nat} {listed : Array Bool} {a : Act} {w : World} (i : Nat) {oi : Oper} {f : FuncId} {args : Array Value} {R : Ending → World → Prop}
 (hr : Region.ready md ops listed = [i]) (hi : ops[i]? = some oi) (hw : Region.wanted oi (yielded ops a.tmps) = true) (he : (execOp a.eval oi).run P w = .ok (.enter f args) w) (hc : Calls P f args w R)
 (h : ∀ e w', R e w' → (∃ v, e = .returned v ∧ S w' ∧ wpAnyH P md ops Q S fuel (listed.setIfInBounds i true) (a.put oi.dst v) w') ∨ (∃ ch, e = .panicked ch ∧ Q (.panic ch) a w')) : wpAnyH P md ops Q S (fuel + 1) listed a w := by
 refine wpAnyH_all hr (by simp) (fun j hj => ?_)
 obtain rfl : j = i := by simpa using hj
 exact wpOp_enterP j hi hw he hc (fun e w' hR => (h e w' hR).imp (fun ⟨v, h1, h2⟩ => ⟨v, h1, h2⟩) id)
theorem readCt_eq (m : Nat) (l : Bs) : readCt m l = readCount m l := rfl
theorem readA_key {l : Bs} (h : readText l = none) : readA l = none := by unfold readA; rw [h]
theorem readA_num {l k r : Bs} (h : readText l = some (k, r)) (h2 : readCount 1 r = none) : readA l = none := by unfold readA; rw [h]; simp only; rw [readCt_eq, h2]
theorem readA_unset {l k r s : Bs} {n : Nat} (h : readText l = some (k, r)) (h2 : readCount 1 r = some (n, s)) (hn : n ≠ 1) : readA l = some (⟨k, false, []⟩, s) := by unfold readA; rw [h]; simp only; rw [readCt_eq, h2]; simp only; rw [if_neg hn]
theorem readA_nodata {l k r s : Bs} (h : readText l = some (k, r)) (h2 : readCount 1 r = some (1, s)) (h3 : readText s = none) : readA l = none := by unfold readA; rw [h]; simp only; rw [readCt_eq, h2]; simp only [if_true]; rw [h3]
theorem readA_set {l k r s d t : Bs} (h : readText l = some (k, r)) (h2 : readCount 1 r = some (1, s)) (h3 : readText s = some (d, t)) : readA l = some (⟨k, true, d⟩, t) := by unfold readA; rw [h]; simp only; rw [readCt_eq, h2]; simp only [if_true]; rw [h3]
structure Ra (w : World) (gr gi g2 : Nat) (v0 v : Value) (r : Bs) (W : World) : Prop where
 rd : Rd W gr gi v r
 onl : Only gi w W
 res : Blk W g2 zA 62
 own : v.ownBlock = v0.ownBlock
 ge : w.heap.size ≤ g2
 gi : gi < w.heap.size
theorem Ra.new {w W W' : World} {gr gi g2 : Nat} {v0 v : Value} {r : Bs} (h : Ra w gr gi g2 v0 v r W) (hb : Below W.heap.size W W') : Ra w gr gi g2 v0 v r W' := ⟨h.rd.below hb, h.onl.trans (Only.of_below hb), h.res.below hb h.res.lt, h.own, h.ge, h.gi⟩
theorem Ra.call {w W W' : World} {gr gi g2 : Nat} {v0 v v' : Value} {r r' : Bs} (h : Ra w gr gi g2 v0 v r W) (hr : Rd W' gr gi v' r') (ho : Only gi W W') (hv : v'.ownBlock = v.ownBlock) : Ra w gr gi g2 v0 v' r' W' := ⟨hr, h.onl.trans ho, blk_same h.res (ho.block g2 (by have := h.ge; have := h.gi; omega) h.res.lt), hv.trans h.own, h.ge, h.gi⟩
theorem wpAnyH_tri3 {P : Program} {md : Region.Mode} {ops : Array Oper} {Q : Exit → Act → World → Prop} {S : World → Prop} {fuel : Nat} {listed : Array Bool} {a : Act} {w : World} (i j k : Nat) (hr : Region.ready md ops listed = [i, j, k])
 (h1 : wpOp P ops Q i (fun a' w' => S w' ∧ wpAnyH P md ops Q S fuel (listed.setIfInBounds i true) a' w') a w) (h2 : wpOp P ops Q j (fun a' w' => S w' ∧ wpAnyH P md ops Q S fuel (listed.setIfInBounds j true) a' w') a w) (h3 : wpOp P ops Q k (fun a' w' => S w' ∧ wpAnyH P md ops Q S fuel (listed.setIfInBounds k true) a' w') a w) : wpAnyH P md ops Q S (fuel + 1) listed a w := by
 refine wpAnyH_all hr (by simp) (fun m hm => ?_)
 simp only [List.mem_cons, List.not_mem_nil, or_false] at hm
 rcases hm with rfl | rfl | rfl
 · exact h1
 · exact h2
 · exact h3
theorem conv_s (f : Operand → Value) (o : Oper) (x : Operand) (ho : o.op = .convert 23 9 x) (v : Value) (hx : f x = v) (k : Bs) (w : World) (hr : Reads w v k) : (execOp f o).run Tryz.prog w = .ok (.value (.string (strB k))) w := by
 unfold execOp
 rw [ho]
 simp only [hx, Sem.run_bind, conv_reads hr]
 rfl
theorem reads_in {w : World} {v : Value} {l : Bs} (h : Reads w v l) (hp : 0 < l.length) : ∀ k, v.ownBlock = some k → k < w.heap.size := fun k hk => by
 obtain ⟨ad, cap, rfl, _, _, h4⟩ := h
 obtain ⟨b, off, rfl, h6⟩ := h4 hp
 simp [Value.ownBlock] at hk
 subst hk
 exact block_lt_of_cell (h6 0 hp)
theorem text_pos {l k r : Bs} (h : readText l = some (k, r)) : 0 < l.length := by
 obtain ⟨_, rfl⟩ := (readText_iff _ _ _).1 h
 rw [encText, List.length_append, List.length_append]
 have := encNum_pos k.length
 omega
theorem built_ka (s : ByteArray) (b : Bool) : ∀ ps, ps = [(0, Value.string s), (1, .bool b)] → Tryz.prog.built 62 ps = some [Value.string s, .bool b, .slice none 0 0].toArray := fun ps h => by subst h; kernel_rfl
theorem one_act0 (s : ByteArray) (b : Bool) : ∀ v ∈ [Value.string s, .bool b, .slice none 0 0], v.oneCell' = true := one_act s b none 0 0
theorem sReadAct_any (gr gi : Nat) (v : Value) (l : Bs) (w : World) (h : Rd w gr gi v l) : Calls Tryz.prog 41 #[.pointer (some ⟨gr, 0, none⟩)] w fun e w' => RdDoes gr gi v w (readA l) (fun a w' va => ∃ vd, va = .agg (actC a vd).toArray ∧ OwnB w' w.heap.size vd a.data) e w' := by
 have HR0 : Hid (Rd w gr gi v l) := h
 clear h
 go_enter Tryz.func41, Tryz.ntmps41
 have tk0 : Hid True := trivial
 go_wp2_with (first
  | (clear tk0; with_reducible refine wpSeq_allocA ?_ ?_ ?_
     · rfl
     · rfl
     intro g2 y1 nn; have HRA : Hid (Ra w gr gi g2 v v l y1) := ⟨HR0.out.below nn.below, Only.of_below nn.below, nn.blk, rfl, nn.ge, HR0.out.inp.lt⟩; clear nn))
 refine wp_region_held_drew (S := fun _ => True) (by kernel_rfl) trivial ?_
 intro hS
 replace HRA : Hid (Ra w gr gi g2 v v l (World.drew y1)) := HRA.out.new (Below.refl _ _).drew
 change wpAnyH _ _ _ _ _ _ _ _ (World.drew y1)
 generalize World.drew y1 = y2 at *
 refine tkc 0 (.pointer (some ⟨gr, 0, none⟩)) rfl hS ?_
 simp only [Act.put, sq]
 refine tkc 3 (.pointer (some ⟨gr, 0, none⟩)) rfl hS ?_
 simp only [Act.put, sq]
 refine wpAnyH_pair 1 7 (by kernel_rfl) ?_ ?_
 · refine wpOp_enterP 1 rfl (by rfl) (f := 69) (args := #[.pointer (some ⟨gr, 0, none⟩)]) (by simp [go_sem]) (crtext_any gr gi _ _ _ HRA.out.rd) ?_
   rintro e z3 (⟨ky, r1, va1, vc1, hc, rfl, hown, hrd, ho, hob⟩ | ⟨hc, hT⟩)
   case inr =>
    obtain rfl := hT.eq; exact Or.inr ⟨_, rfl, rfl, Or.inr ⟨readA_key hc, Threw.after HRA.out.onl hT⟩⟩
   refine Or.inl ⟨_, rfl, trivial, ?_⟩; have HLE : Hid (w.heap.size ≤ y2.heap.size) := HRA.out.onl.size; replace HRA := HRA.out.call hrd ho hob; have HT1 : Hid (readText l = some (ky, r1)) := hc; obtain ⟨a1, n1, c1, hv1⟩ := hown.reads.form; subst hv1; have HON1 : Hid (OwnB z3 y2.heap.size (.slice a1 n1 c1) ky) := hown; replace HRA : Hid (Ra w gr gi g2 v vc1 r1 z3) := HRA; clear hown hrd ho hob hc; simp only [Act.put, sq]; refine wpAnyH_tri3 2 4 7 (by kernel_rfl) ?_ ?_ ?_
   · refine wpOp_vl 2 _ _ rfl (by rfl) (conv_s _ _ (.tmp 5) rfl _ rfl ky z3 HON1.out.reads) ⟨trivial, ?_⟩
     simp only [Act.put, sq]; refine wpAnyH_pair 4 7 (by kernel_rfl) ?_ ?_
     · refine wpOp_enterP 4 rfl (by rfl) (f := 40) (args := #[.pointer (some ⟨gr, 0, none⟩), .int .i64 ((1 : Nat) : Int)]) (by simp [go_sem]) (ccount_any gr gi 1 (by decide) _ _ _ HRA.out.rd) ?_
       rintro e z5 (⟨nn1, r2, va2, vc2, hc, rfl, rfl, hrd, ho, hob⟩ | ⟨hc, hT⟩)
       case inr =>
        obtain rfl := hT.eq; exact Or.inr ⟨_, rfl, rfl, Or.inr ⟨readA_num HT1.out hc, Threw.after HRA.out.onl hT⟩⟩
       refine Or.inl ⟨_, rfl, trivial, ?_⟩; replace HRA := HRA.out.call hrd ho hob; have HT2 : Hid (readCount 1 r1 = some (nn1, r2)) := hc; have HE2 : Hid (((nn1 : Int) == 1) = decide (nn1 = 1)) := by show _ = _; rw [Bool.eq_iff_iff, beq_iff_eq, decide_eq_true_eq]; omega
       replace HRA : Hid (Ra w gr gi g2 v vc2 r2 z5) := HRA; clear hrd ho hob hc; simp only [Act.put, sq]; obtain ⟨sb, HSB⟩ : ∃ b, Hid (((nn1 : Int) == 1) = b) := ⟨_, rfl⟩; refine tka 5 (.bool sb) rfl (fun wx hx => by (have hb := HSB.out; simp [go_sem, hb])) trivial ?_
       simp only [Act.put, sq]; obtain ⟨ks, HKS⟩ := sqn (strB ky); rw [← HKS.out]; have HVB : Hid (∀ k, v.ownBlock = some k → k < w.heap.size) := reads_in HR0.out.byt (text_pos HT1.out); refine tka 6 (.agg [.string ks, .bool sb, .slice none 0 0].toArray) rfl (fun wx hx => by exact build_op _ _ 62 [(0, .tmp 6), (1, .tmp 9)] rfl _ (built_ka _ _ _ rfl) _) trivial ?_
       simp only [Act.put, sq]; refine wpAnyH_step 7 _ _ (by kernel_rfl) rfl (by rfl) (alloc_act _ _ rfl _) trivial ?_
       obtain ⟨g3, z6, e3, e3w, n3⟩ : ∃ g y, g = z5.heap.size ∧ y = z5.alloc (.cells zA.toArray 62) ∧ NewR zA 62 z5 g y := ⟨_, _, rfl, rfl, NewR.of _ _ _⟩; rw [← e3w, ← e3]; clear e3 e3w; have HG3 : Hid (Blk z6 g3 zA 62 ∧ w.heap.size ≤ g3 ∧ g3 ≠ g2) := ⟨n3.blk, Nat.le_trans HRA.out.onl.size n3.ge, by have h1 := HRA.out.res.lt; have h2 := n3.ge; omega⟩
       replace HRA : Hid (Ra w gr gi g2 v vc2 r2 z6) := HRA.out.new n3.below; clear n3; simp only [Act.put, sq]; refine wpAnyH_storeRow 8 62 (.tmp 3) (.tmp 10) g3 zA [.string ks, .bool sb, .slice none 0 0] HG3.out.1 rfl (info_act15 _ _ _) (one_act0 _ _) (by kernel_rfl) rfl (by rfl) rfl rfl rfl ?_
       intro y8 hset; refine ⟨trivial, ?_⟩; have HK3 : Hid (Blk y8 g3 [.string ks, .bool sb, .slice none 0 0] 62) := hset.blk; have hb8 : Below w.heap.size z6 y8 := hset.only.below HG3.out.2.1 HRA.out.onl.size; have HON : Hid (Only gi w y8) := ⟨hb8.os.trans HRA.out.onl.os, hb8.tape.trans HRA.out.onl.tape, hb8.output.trans HRA.out.onl.output, Nat.le_trans HRA.out.onl.size hb8.size, fun k hk hlt => (hb8.block k hlt).trans (HRA.out.onl.block k hk hlt)⟩
       have HRD : Hid (Rd y8 gr gi vc2 r2) := HRA.out.rd.others HR0.out.rd.lt HRA.out.gi (fun _ k hk => HVB.out k (by rw [← HRA.out.own]; exact hk)) (Nat.le_refl _) hb8
       have HRS : Hid (Blk y8 g2 zA 62) := blk_same HRA.out.res (hset.only.block g2 (fun e => HG3.out.2.2 e.symm) HRA.out.res.lt)
       have HOW : Hid (vc2.ownBlock = v.ownBlock ∧ w.heap.size ≤ g2 ∧ gi < w.heap.size ∧ w.heap.size ≤ g3 ∧ g3 ≠ g2) := ⟨HRA.out.own, HRA.out.ge, HRA.out.gi, HG3.out.2⟩; clear hset HRA HG3 hb8; simp only [Act.put, sq]; refine wpAnyH_done (by kernel_rfl) ?_ _
       have d1 : y8.cell? ⟨g3, 1, none⟩ = some (.bool sb) := HK3.out.cell 1
       by_cases h1 : nn1 = 1
       case neg =>
        obtain rfl : sb = false := by rw [← HSB.out, beq_eq_false_iff_ne]; omega
        have HSP : Hid (readA l = some (⟨ky, false, []⟩, r2)) := readA_unset HT1.out HT2.out h1; clear h1 HSB; obtain ⟨tq0, tq1⟩ := sqk2
        go_wp2_with (first
         | (clear tq0; with_reducible refine wpSeq_loadW 62 (.tmp 3) g3 0 [.string ks, .bool false, .slice none 0 0] _ (Blk.range HK3.out) Tryz.underlying62 rfl (info_act15 _ _ _) ?_ ?_ ?_ ?_
            · rfl
            · rfl
            · rfl)
         | (clear tq1; with_reducible refine wpSeq_storeRow 62 (.tmp 2) (.tmp 16) g2 zA [.string ks, .bool false, .slice none 0 0] HRS.out rfl (info_act15 _ _ _) (one_act0 _ _) ?_ ?_ ?_ ?_ ?_
            · rfl
            · rfl
            · rfl
            · rfl
            intro y9 hset; have HB9 : Hid (Below w.heap.size y8 y9) := hset.only.below HOW.out.2.1 HON.out.size; have HK9 : Hid (Blk y9 g2 [.string ks, .bool false, .slice none 0 0] 62) := hset.blk; have HO9 : Hid (Only gi w y9) := ⟨hset.only.os.trans HON.out.os, hset.only.tape.trans HON.out.tape, hset.only.output.trans HON.out.output, Nat.le_trans HON.out.size hset.only.size, fun k hk hlt => (hset.only.block k (by have := HOW.out.2.1; omega) (Nat.lt_of_lt_of_le hlt HON.out.size)).trans (HON.out.block k hk hlt)⟩
            clear hset d1))
        refine bodyPost_ret (v := .agg [.string ks, .bool false, .slice none 0 0].toArray) (results_cell_row (by rfl) _ _ g2 62 ([Value.string ks, Value.bool false, Value.slice none 0 0] : List Value).toArray (0, 0) _ rfl HK9.out Tryz.underlying62 rfl (info_act15 _ _ _)) rfl (Or.inl ⟨⟨ky, false, []⟩, r2, _, vc2, HSP.out, rfl, ⟨.slice none 0 0, by rw [actC, HKS.out], OwnB.nil _ _⟩, HRD.out.others HR0.out.rd.lt HOW.out.2.2.1 (fun _ k hk => HVB.out k (by rw [← HOW.out.1]; exact hk)) (Nat.le_refl _) HB9.out, HO9.out, HOW.out.1⟩)
       case pos =>
        subst h1; obtain rfl : sb = true := by rw [← HSB.out]; rfl
        have HCT : Hid (Calls Tryz.prog 69 #[.pointer (some ⟨gr, 0, none⟩)] y8 fun e w' => RdDoes gr gi vc2 y8 (readText r2) (fun a w' v => OwnB w' y8.heap.size v a) e w') := crtext_any gr gi vc2 r2 y8 HRD.out
        clear HSB
        go_wp2_with fail
        refine HCT.out.mono ?_; rintro e y9 (⟨dd, r3, va3, vc3, hc, rfl, hown, hrd, ho, hob⟩ | ⟨hc, hT⟩)
        case inr =>
         have HD : Hid (RdDoes gr gi v w (readA l) (fun a w' va => ∃ vd, va = .agg (actC a vd).toArray ∧ OwnB w' w.heap.size vd a.data) (thrown gi) y9) := Or.inr ⟨readA_nodata HT1.out HT2.out hc, Threw.after HON.out (hT.eq ▸ hT)⟩
         obtain rfl := hT.eq; unfold thrown at HD ⊢; clear hT; go_wp2; exact ⟨rfl, HD.out⟩
        have HSP : Hid (readA l = some (⟨ky, true, dd⟩, r3)) := readA_set HT1.out HT2.out hc; have HK9 : Hid (Blk y9 g3 [.string ks, .bool true, .slice none 0 0] 62) := blk_same HK3.out (ho.block g3 (by have h1 := HOW.out.2.2.1; have h2 := HOW.out.2.2.2.1; omega) HK3.out.lt)
        have HR9 : Hid (Blk y9 g2 zA 62) := blk_same HRS.out (ho.block g2 (by have h1 := HOW.out.2.2.1; have h2 := HOW.out.2.1; omega) HRS.out.lt)
        have HOD : Hid (OwnB y9 y8.heap.size va3 dd) := hown; have HL3 : Hid (2 < [Value.string ks, .bool true, .slice none 0 0].length) := by show 2 < 3; omega
        have HG8 : Hid (g3 < y8.heap.size ∧ g2 < y8.heap.size) := ⟨HK3.out.lt, HRS.out.lt⟩; have HRD9 : Hid (Rd y9 gr gi vc3 r3) := hrd; have HON9 : Hid (Only gi w y9) := HON.out.trans ho; have HOW9 : Hid (vc3.ownBlock = v.ownBlock) := hob.trans HOW.out.1; obtain ⟨av, nv, cv, hv3⟩ := hown.reads.form; subst hv3; clear hown hrd ho hob hc HK3 HRS HRD d1; obtain ⟨tq0, tq1, tq2⟩ := sqk3
        go_wp2_with (first
         | (clear tq0; with_reducible refine wpSeq_cellY (.tmp 15) (.tmp 14) g3 2 [.string ks, .bool true, .slice none 0 0] av nv cv 62 HL3.out HK9.out ?_ ?_ ?_ ?_ ?_
            · rfl
            · rfl
            · rfl
            · rfl
            intro y10 hb10 ho10; have HKX : Hid (Blk y10 g3 [.string ks, .bool true, .slice av nv cv] 62) := hb10; have HRX : Hid (Blk y10 g2 zA 62) := blk_same HR9.out (ho10.block g2 (fun e => HOW.out.2.2.2.2 e.symm) HR9.out.lt)
            have HBX : Hid (Below w.heap.size y9 y10) := ho10.below HOW.out.2.2.2.1 HON9.out.size; have HOX : Hid (OwnB y10 y8.heap.size (.slice av nv cv) dd) := HOD.out.sameS (fun k hk => ho10.block k (by have h1 := (HOD.out.ltS k hk).1; have h2 := HG8.out.1; omega) (HOD.out.ltS k hk).2)
            clear hb10 ho10)
         | (clear tq1; with_reducible refine wpSeq_loadW 62 (.tmp 3) g3 0 [.string ks, .bool true, .slice av nv cv] _ (Blk.range HKX.out) Tryz.underlying62 rfl (info_act15 _ _ _) ?_ ?_ ?_ ?_
            · rfl
            · rfl
            · rfl)
         | (clear tq2; with_reducible refine wpSeq_storeRow 62 (.tmp 2) (.tmp 16) g2 zA [.string ks, .bool true, .slice av nv cv] HRX.out rfl (info_act15 _ _ _) (one_act _ _ _ _ _) ?_ ?_ ?_ ?_ ?_
            · rfl
            · rfl
            · rfl
            · rfl
            intro y11 hset; have HBY : Hid (Below w.heap.size y9 y11) := HBX.out.trans (hset.only.below HOW.out.2.1 (Nat.le_trans HON9.out.size HBX.out.size)); have HKY : Hid (Blk y11 g2 [.string ks, .bool true, .slice av nv cv] 62) := hset.blk; have HOY : Hid (OwnB y11 w.heap.size (.slice av nv cv) dd) := (HOX.out.sameS (fun k hk => hset.only.block k (by have h1 := (HOX.out.ltS k hk).1; have h2 := HG8.out.2; omega) (HOX.out.ltS k hk).2)).mono HON.out.size
            have HNY : Hid (Only gi w y11) := ⟨HBY.out.os.trans HON9.out.os, HBY.out.tape.trans HON9.out.tape, HBY.out.output.trans HON9.out.output, Nat.le_trans HON9.out.size HBY.out.size, fun k hk hlt => (HBY.out.block k hlt).trans (HON9.out.block k hk hlt)⟩
            clear hset))
        refine bodyPost_ret (v := .agg [.string ks, .bool true, .slice av nv cv].toArray) (results_cell_row (by rfl) _ _ g2 62 ([Value.string ks, Value.bool true, Value.slice av nv cv] : List Value).toArray (0, 0) _ rfl HKY.out Tryz.underlying62 rfl (info_act15 _ _ _)) rfl (Or.inl ⟨⟨ky, true, dd⟩, r3, _, vc3, HSP.out, rfl, ⟨.slice av nv cv, by rw [actC, HKS.out], HOY.out⟩, HRD9.out.others HR0.out.rd.lt HOW.out.2.2.1 (fun _ k hk => HVB.out k (by rw [← HOW9.out]; exact hk)) (Nat.le_refl _) HBY.out, HNY.out, HOW9.out⟩)
     · refine wpOp_vl 7 _ _ rfl (by rfl) (alloc_act _ _ rfl _) ⟨trivial, ?_⟩
       obtain ⟨g3, z7, e3, e3w, n3⟩ : ∃ g y, g = z3.heap.size ∧ y = z3.alloc (.cells zA.toArray 62) ∧ NewR zA 62 z3 g y := ⟨_, _, rfl, rfl, NewR.of _ _ _⟩; rw [← e3w, ← e3]; clear e3 e3w; have HG3 : Hid (Blk z7 g3 zA 62 ∧ w.heap.size ≤ g3 ∧ g3 ≠ g2) := ⟨n3.blk, Nat.le_trans HRA.out.onl.size n3.ge, by have h1 := HRA.out.res.lt; have h2 := n3.ge; omega⟩
       replace HRA : Hid (Ra w gr gi g2 v vc1 r1 z7) := HRA.out.new n3.below; clear n3; simp only [Act.put, sq]; refine wpAnyH_enterP 4 (by kernel_rfl) rfl (by rfl) (f := 40) (args := #[.pointer (some ⟨gr, 0, none⟩), .int .i64 ((1 : Nat) : Int)]) (by simp [go_sem]) (ccount_any gr gi 1 (by decide) _ _ _ HRA.out.rd) ?_
       rintro e z9 (⟨nn1, r2, va2, vc2, hc, rfl, rfl, hrd, ho, hob⟩ | ⟨hc, hT⟩)
       case inr =>
        obtain rfl := hT.eq; exact Or.inr ⟨_, rfl, rfl, Or.inr ⟨readA_num HT1.out hc, Threw.after HRA.out.onl hT⟩⟩
       refine Or.inl ⟨_, rfl, trivial, ?_⟩; replace HRA := HRA.out.call hrd ho hob; have HT2 : Hid (readCount 1 r1 = some (nn1, r2)) := hc; have HE2 : Hid (((nn1 : Int) == 1) = decide (nn1 = 1)) := by show _ = _; rw [Bool.eq_iff_iff, beq_iff_eq, decide_eq_true_eq]; omega
       replace HG3 : Hid (Blk z9 g3 zA 62 ∧ w.heap.size ≤ g3 ∧ g3 ≠ g2) := ⟨blk_same HG3.out.1 (ho.block g3 (by have h1 := HG3.out.2.1; have h2 := HRA.gi; omega) HG3.out.1.lt), HG3.out.2⟩
       replace HRA : Hid (Ra w gr gi g2 v vc2 r2 z9) := HRA; clear hrd ho hob hc; simp only [Act.put, sq]; obtain ⟨sb, HSB⟩ : ∃ b, Hid (((nn1 : Int) == 1) = b) := ⟨_, rfl⟩; refine tka 5 (.bool sb) rfl (fun wx hx => by (have hb := HSB.out; simp [go_sem, hb])) trivial ?_
       simp only [Act.put, sq]; obtain ⟨ks, HKS⟩ := sqn (strB ky); rw [← HKS.out]; have HVB : Hid (∀ k, v.ownBlock = some k → k < w.heap.size) := reads_in HR0.out.byt (text_pos HT1.out); refine tka 6 (.agg [.string ks, .bool sb, .slice none 0 0].toArray) rfl (fun wx hx => by exact build_op _ _ 62 [(0, .tmp 6), (1, .tmp 9)] rfl _ (built_ka _ _ _ rfl) _) trivial ?_
       simp only [Act.put, sq]; refine wpAnyH_storeRow 8 62 (.tmp 3) (.tmp 10) g3 zA [.string ks, .bool sb, .slice none 0 0] HG3.out.1 rfl (info_act15 _ _ _) (one_act0 _ _) (by kernel_rfl) rfl (by rfl) rfl rfl rfl ?_
       intro y8 hset; refine ⟨trivial, ?_⟩; have HK3 : Hid (Blk y8 g3 [.string ks, .bool sb, .slice none 0 0] 62) := hset.blk; have hb8 : Below w.heap.size z9 y8 := hset.only.below HG3.out.2.1 HRA.out.onl.size; have HON : Hid (Only gi w y8) := ⟨hb8.os.trans HRA.out.onl.os, hb8.tape.trans HRA.out.onl.tape, hb8.output.trans HRA.out.onl.output, Nat.le_trans HRA.out.onl.size hb8.size, fun k hk hlt => (hb8.block k hlt).trans (HRA.out.onl.block k hk hlt)⟩
       have HRD : Hid (Rd y8 gr gi vc2 r2) := HRA.out.rd.others HR0.out.rd.lt HRA.out.gi (fun _ k hk => HVB.out k (by rw [← HRA.out.own]; exact hk)) (Nat.le_refl _) hb8
       have HRS : Hid (Blk y8 g2 zA 62) := blk_same HRA.out.res (hset.only.block g2 (fun e => HG3.out.2.2 e.symm) HRA.out.res.lt)
       have HOW : Hid (vc2.ownBlock = v.ownBlock ∧ w.heap.size ≤ g2 ∧ gi < w.heap.size ∧ w.heap.size ≤ g3 ∧ g3 ≠ g2) := ⟨HRA.out.own, HRA.out.ge, HRA.out.gi, HG3.out.2⟩; clear hset HRA HG3 hb8; simp only [Act.put, sq]; refine wpAnyH_done (by kernel_rfl) ?_ _
       have d1 : y8.cell? ⟨g3, 1, none⟩ = some (.bool sb) := HK3.out.cell 1
       by_cases h1 : nn1 = 1
       case neg =>
        obtain rfl : sb = false := by rw [← HSB.out, beq_eq_false_iff_ne]; omega
        have HSP : Hid (readA l = some (⟨ky, false, []⟩, r2)) := readA_unset HT1.out HT2.out h1; clear h1 HSB; obtain ⟨tq0, tq1⟩ := sqk2
        go_wp2_with (first
         | (clear tq0; with_reducible refine wpSeq_loadW 62 (.tmp 3) g3 0 [.string ks, .bool false, .slice none 0 0] _ (Blk.range HK3.out) Tryz.underlying62 rfl (info_act15 _ _ _) ?_ ?_ ?_ ?_
            · rfl
            · rfl
            · rfl)
         | (clear tq1; with_reducible refine wpSeq_storeRow 62 (.tmp 2) (.tmp 16) g2 zA [.string ks, .bool false, .slice none 0 0] HRS.out rfl (info_act15 _ _ _) (one_act0 _ _) ?_ ?_ ?_ ?_ ?_
            · rfl
            · rfl
            · rfl
            · rfl
            intro y9 hset; have HB9 : Hid (Below w.heap.size y8 y9) := hset.only.below HOW.out.2.1 HON.out.size; have HK9 : Hid (Blk y9 g2 [.string ks, .bool false, .slice none 0 0] 62) := hset.blk; have HO9 : Hid (Only gi w y9) := ⟨hset.only.os.trans HON.out.os, hset.only.tape.trans HON.out.tape, hset.only.output.trans HON.out.output, Nat.le_trans HON.out.size hset.only.size, fun k hk hlt => (hset.only.block k (by have := HOW.out.2.1; omega) (Nat.lt_of_lt_of_le hlt HON.out.size)).trans (HON.out.block k hk hlt)⟩
            clear hset d1))
        refine bodyPost_ret (v := .agg [.string ks, .bool false, .slice none 0 0].toArray) (results_cell_row (by rfl) _ _ g2 62 ([Value.string ks, Value.bool false, Value.slice none 0 0] : List Value).toArray (0, 0) _ rfl HK9.out Tryz.underlying62 rfl (info_act15 _ _ _)) rfl (Or.inl ⟨⟨ky, false, []⟩, r2, _, vc2, HSP.out, rfl, ⟨.slice none 0 0, by rw [actC, HKS.out], OwnB.nil _ _⟩, HRD.out.others HR0.out.rd.lt HOW.out.2.2.1 (fun _ k hk => HVB.out k (by rw [← HOW.out.1]; exact hk)) (Nat.le_refl _) HB9.out, HO9.out, HOW.out.1⟩)
       case pos =>
        subst h1; obtain rfl : sb = true := by rw [← HSB.out]; rfl
        have HCT : Hid (Calls Tryz.prog 69 #[.pointer (some ⟨gr, 0, none⟩)] y8 fun e w' => RdDoes gr gi vc2 y8 (readText r2) (fun a w' v => OwnB w' y8.heap.size v a) e w') := crtext_any gr gi vc2 r2 y8 HRD.out
        clear HSB
        go_wp2_with fail
        refine HCT.out.mono ?_; rintro e y9 (⟨dd, r3, va3, vc3, hc, rfl, hown, hrd, ho, hob⟩ | ⟨hc, hT⟩)
        case inr =>
         have HD : Hid (RdDoes gr gi v w (readA l) (fun a w' va => ∃ vd, va = .agg (actC a vd).toArray ∧ OwnB w' w.heap.size vd a.data) (thrown gi) y9) := Or.inr ⟨readA_nodata HT1.out HT2.out hc, Threw.after HON.out (hT.eq ▸ hT)⟩
         obtain rfl := hT.eq; unfold thrown at HD ⊢; clear hT; go_wp2; exact ⟨rfl, HD.out⟩
        have HSP : Hid (readA l = some (⟨ky, true, dd⟩, r3)) := readA_set HT1.out HT2.out hc; have HK9 : Hid (Blk y9 g3 [.string ks, .bool true, .slice none 0 0] 62) := blk_same HK3.out (ho.block g3 (by have h1 := HOW.out.2.2.1; have h2 := HOW.out.2.2.2.1; omega) HK3.out.lt)
        have HR9 : Hid (Blk y9 g2 zA 62) := blk_same HRS.out (ho.block g2 (by have h1 := HOW.out.2.2.1; have h2 := HOW.out.2.1; omega) HRS.out.lt)
        have HOD : Hid (OwnB y9 y8.heap.size va3 dd) := hown; have HL3 : Hid (2 < [Value.string ks, .bool true, .slice none 0 0].length) := by show 2 < 3; omega
        have HG8 : Hid (g3 < y8.heap.size ∧ g2 < y8.heap.size) := ⟨HK3.out.lt, HRS.out.lt⟩; have HRD9 : Hid (Rd y9 gr gi vc3 r3) := hrd; have HON9 : Hid (Only gi w y9) := HON.out.trans ho; have HOW9 : Hid (vc3.ownBlock = v.ownBlock) := hob.trans HOW.out.1; obtain ⟨av, nv, cv, hv3⟩ := hown.reads.form; subst hv3; clear hown hrd ho hob hc HK3 HRS HRD d1; obtain ⟨tq0, tq1, tq2⟩ := sqk3
        go_wp2_with (first
         | (clear tq0; with_reducible refine wpSeq_cellY (.tmp 15) (.tmp 14) g3 2 [.string ks, .bool true, .slice none 0 0] av nv cv 62 HL3.out HK9.out ?_ ?_ ?_ ?_ ?_
            · rfl
            · rfl
            · rfl
            · rfl
            intro y10 hb10 ho10; have HKX : Hid (Blk y10 g3 [.string ks, .bool true, .slice av nv cv] 62) := hb10; have HRX : Hid (Blk y10 g2 zA 62) := blk_same HR9.out (ho10.block g2 (fun e => HOW.out.2.2.2.2 e.symm) HR9.out.lt)
            have HBX : Hid (Below w.heap.size y9 y10) := ho10.below HOW.out.2.2.2.1 HON9.out.size; have HOX : Hid (OwnB y10 y8.heap.size (.slice av nv cv) dd) := HOD.out.sameS (fun k hk => ho10.block k (by have h1 := (HOD.out.ltS k hk).1; have h2 := HG8.out.1; omega) (HOD.out.ltS k hk).2)
            clear hb10 ho10)
         | (clear tq1; with_reducible refine wpSeq_loadW 62 (.tmp 3) g3 0 [.string ks, .bool true, .slice av nv cv] _ (Blk.range HKX.out) Tryz.underlying62 rfl (info_act15 _ _ _) ?_ ?_ ?_ ?_
            · rfl
            · rfl
            · rfl)
         | (clear tq2; with_reducible refine wpSeq_storeRow 62 (.tmp 2) (.tmp 16) g2 zA [.string ks, .bool true, .slice av nv cv] HRX.out rfl (info_act15 _ _ _) (one_act _ _ _ _ _) ?_ ?_ ?_ ?_ ?_
            · rfl
            · rfl
            · rfl
            · rfl
            intro y11 hset; have HBY : Hid (Below w.heap.size y9 y11) := HBX.out.trans (hset.only.below HOW.out.2.1 (Nat.le_trans HON9.out.size HBX.out.size)); have HKY : Hid (Blk y11 g2 [.string ks, .bool true, .slice av nv cv] 62) := hset.blk; have HOY : Hid (OwnB y11 w.heap.size (.slice av nv cv) dd) := (HOX.out.sameS (fun k hk => hset.only.block k (by have h1 := (HOX.out.ltS k hk).1; have h2 := HG8.out.2; omega) (HOX.out.ltS k hk).2)).mono HON.out.size
            have HNY : Hid (Only gi w y11) := ⟨HBY.out.os.trans HON9.out.os, HBY.out.tape.trans HON9.out.tape, HBY.out.output.trans HON9.out.output, Nat.le_trans HON9.out.size HBY.out.size, fun k hk hlt => (HBY.out.block k hlt).trans (HON9.out.block k hk hlt)⟩
            clear hset))
        refine bodyPost_ret (v := .agg [.string ks, .bool true, .slice av nv cv].toArray) (results_cell_row (by rfl) _ _ g2 62 ([Value.string ks, Value.bool true, Value.slice av nv cv] : List Value).toArray (0, 0) _ rfl HKY.out Tryz.underlying62 rfl (info_act15 _ _ _)) rfl (Or.inl ⟨⟨ky, true, dd⟩, r3, _, vc3, HSP.out, rfl, ⟨.slice av nv cv, by rw [actC, HKS.out], HOY.out⟩, HRD9.out.others HR0.out.rd.lt HOW.out.2.2.1 (fun _ k hk => HVB.out k (by rw [← HOW9.out]; exact hk)) (Nat.le_refl _) HBY.out, HNY.out, HOW9.out⟩)
   · refine wpOp_enterP 4 rfl (by rfl) (f := 40) (args := #[.pointer (some ⟨gr, 0, none⟩), .int .i64 ((1 : Nat) : Int)]) (by simp [go_sem]) (ccount_any gr gi 1 (by decide) _ _ _ HRA.out.rd) ?_
     rintro e z10 (⟨nn1, r2, va2, vc2, hc, rfl, rfl, hrd, ho, hob⟩ | ⟨hc, hT⟩)
     case inr =>
      obtain rfl := hT.eq; exact Or.inr ⟨_, rfl, rfl, Or.inr ⟨readA_num HT1.out hc, Threw.after HRA.out.onl hT⟩⟩
     refine Or.inl ⟨_, rfl, trivial, ?_⟩; replace HRA := HRA.out.call hrd ho hob; have HT2 : Hid (readCount 1 r1 = some (nn1, r2)) := hc; have HE2 : Hid (((nn1 : Int) == 1) = decide (nn1 = 1)) := by show _ = _; rw [Bool.eq_iff_iff, beq_iff_eq, decide_eq_true_eq]; omega
     replace HON1 : Hid (OwnB z10 (w.heap.size) (.slice a1 n1 c1) ky) := by
      have hgg := HRA.gi; exact (HON1.out.sameS (fun k hk => ho.block k (by have h1 := (HON1.out.ltS k hk).1; have h2 := HLE.out; omega) (HON1.out.ltS k hk).2)).mono HLE.out
     replace HRA : Hid (Ra w gr gi g2 v vc2 r2 z10) := HRA; clear hrd ho hob hc; simp only [Act.put, sq]; obtain ⟨sb, HSB⟩ : ∃ b, Hid (((nn1 : Int) == 1) = b) := ⟨_, rfl⟩; refine tka 5 (.bool sb) rfl (fun wx hx => by (have hb := HSB.out; simp [go_sem, hb])) trivial ?_
     simp only [Act.put, sq]; refine wpAnyH_pair 2 7 (by kernel_rfl) ?_ ?_
     · refine wpOp_vl 2 _ _ rfl (by rfl) (conv_s _ _ (.tmp 5) rfl _ rfl ky z10 HON1.out.reads) ⟨trivial, ?_⟩
       simp only [Act.put, sq]; obtain ⟨ks, HKS⟩ := sqn (strB ky); rw [← HKS.out]; have HVB : Hid (∀ k, v.ownBlock = some k → k < w.heap.size) := reads_in HR0.out.byt (text_pos HT1.out); refine tka 6 (.agg [.string ks, .bool sb, .slice none 0 0].toArray) rfl (fun wx hx => by exact build_op _ _ 62 [(0, .tmp 6), (1, .tmp 9)] rfl _ (built_ka _ _ _ rfl) _) trivial ?_
       simp only [Act.put, sq]; refine wpAnyH_step 7 _ _ (by kernel_rfl) rfl (by rfl) (alloc_act _ _ rfl _) trivial ?_
       obtain ⟨g3, z12, e3, e3w, n3⟩ : ∃ g y, g = z10.heap.size ∧ y = z10.alloc (.cells zA.toArray 62) ∧ NewR zA 62 z10 g y := ⟨_, _, rfl, rfl, NewR.of _ _ _⟩; rw [← e3w, ← e3]; clear e3 e3w; have HG3 : Hid (Blk z12 g3 zA 62 ∧ w.heap.size ≤ g3 ∧ g3 ≠ g2) := ⟨n3.blk, Nat.le_trans HRA.out.onl.size n3.ge, by have h1 := HRA.out.res.lt; have h2 := n3.ge; omega⟩
       replace HRA : Hid (Ra w gr gi g2 v vc2 r2 z12) := HRA.out.new n3.below; clear n3; simp only [Act.put, sq]; refine wpAnyH_storeRow 8 62 (.tmp 3) (.tmp 10) g3 zA [.string ks, .bool sb, .slice none 0 0] HG3.out.1 rfl (info_act15 _ _ _) (one_act0 _ _) (by kernel_rfl) rfl (by rfl) rfl rfl rfl ?_
       intro y8 hset; refine ⟨trivial, ?_⟩; have HK3 : Hid (Blk y8 g3 [.string ks, .bool sb, .slice none 0 0] 62) := hset.blk; have hb8 : Below w.heap.size z12 y8 := hset.only.below HG3.out.2.1 HRA.out.onl.size; have HON : Hid (Only gi w y8) := ⟨hb8.os.trans HRA.out.onl.os, hb8.tape.trans HRA.out.onl.tape, hb8.output.trans HRA.out.onl.output, Nat.le_trans HRA.out.onl.size hb8.size, fun k hk hlt => (hb8.block k hlt).trans (HRA.out.onl.block k hk hlt)⟩
       have HRD : Hid (Rd y8 gr gi vc2 r2) := HRA.out.rd.others HR0.out.rd.lt HRA.out.gi (fun _ k hk => HVB.out k (by rw [← HRA.out.own]; exact hk)) (Nat.le_refl _) hb8
       have HRS : Hid (Blk y8 g2 zA 62) := blk_same HRA.out.res (hset.only.block g2 (fun e => HG3.out.2.2 e.symm) HRA.out.res.lt)
       have HOW : Hid (vc2.ownBlock = v.ownBlock ∧ w.heap.size ≤ g2 ∧ gi < w.heap.size ∧ w.heap.size ≤ g3 ∧ g3 ≠ g2) := ⟨HRA.out.own, HRA.out.ge, HRA.out.gi, HG3.out.2⟩; clear hset HRA HG3 hb8; simp only [Act.put, sq]; refine wpAnyH_done (by kernel_rfl) ?_ _
       have d1 : y8.cell? ⟨g3, 1, none⟩ = some (.bool sb) := HK3.out.cell 1
       by_cases h1 : nn1 = 1
       case neg =>
        obtain rfl : sb = false := by rw [← HSB.out, beq_eq_false_iff_ne]; omega
        have HSP : Hid (readA l = some (⟨ky, false, []⟩, r2)) := readA_unset HT1.out HT2.out h1; clear h1 HSB; obtain ⟨tq0, tq1⟩ := sqk2
        go_wp2_with (first
         | (clear tq0; with_reducible refine wpSeq_loadW 62 (.tmp 3) g3 0 [.string ks, .bool false, .slice none 0 0] _ (Blk.range HK3.out) Tryz.underlying62 rfl (info_act15 _ _ _) ?_ ?_ ?_ ?_
            · rfl
            · rfl
            · rfl)
         | (clear tq1; with_reducible refine wpSeq_storeRow 62 (.tmp 2) (.tmp 16) g2 zA [.string ks, .bool false, .slice none 0 0] HRS.out rfl (info_act15 _ _ _) (one_act0 _ _) ?_ ?_ ?_ ?_ ?_
            · rfl
            · rfl
            · rfl
            · rfl
            intro y9 hset; have HB9 : Hid (Below w.heap.size y8 y9) := hset.only.below HOW.out.2.1 HON.out.size; have HK9 : Hid (Blk y9 g2 [.string ks, .bool false, .slice none 0 0] 62) := hset.blk; have HO9 : Hid (Only gi w y9) := ⟨hset.only.os.trans HON.out.os, hset.only.tape.trans HON.out.tape, hset.only.output.trans HON.out.output, Nat.le_trans HON.out.size hset.only.size, fun k hk hlt => (hset.only.block k (by have := HOW.out.2.1; omega) (Nat.lt_of_lt_of_le hlt HON.out.size)).trans (HON.out.block k hk hlt)⟩
            clear hset d1))
        refine bodyPost_ret (v := .agg [.string ks, .bool false, .slice none 0 0].toArray) (results_cell_row (by rfl) _ _ g2 62 ([Value.string ks, Value.bool false, Value.slice none 0 0] : List Value).toArray (0, 0) _ rfl HK9.out Tryz.underlying62 rfl (info_act15 _ _ _)) rfl (Or.inl ⟨⟨ky, false, []⟩, r2, _, vc2, HSP.out, rfl, ⟨.slice none 0 0, by rw [actC, HKS.out], OwnB.nil _ _⟩, HRD.out.others HR0.out.rd.lt HOW.out.2.2.1 (fun _ k hk => HVB.out k (by rw [← HOW.out.1]; exact hk)) (Nat.le_refl _) HB9.out, HO9.out, HOW.out.1⟩)
       case pos =>
        subst h1; obtain rfl : sb = true := by rw [← HSB.out]; rfl
        have HCT : Hid (Calls Tryz.prog 69 #[.pointer (some ⟨gr, 0, none⟩)] y8 fun e w' => RdDoes gr gi vc2 y8 (readText r2) (fun a w' v => OwnB w' y8.heap.size v a) e w') := crtext_any gr gi vc2 r2 y8 HRD.out
        clear HSB
        go_wp2_with fail
        refine HCT.out.mono ?_; rintro e y9 (⟨dd, r3, va3, vc3, hc, rfl, hown, hrd, ho, hob⟩ | ⟨hc, hT⟩)
        case inr =>
         have HD : Hid (RdDoes gr gi v w (readA l) (fun a w' va => ∃ vd, va = .agg (actC a vd).toArray ∧ OwnB w' w.heap.size vd a.data) (thrown gi) y9) := Or.inr ⟨readA_nodata HT1.out HT2.out hc, Threw.after HON.out (hT.eq ▸ hT)⟩
         obtain rfl := hT.eq; unfold thrown at HD ⊢; clear hT; go_wp2; exact ⟨rfl, HD.out⟩
        have HSP : Hid (readA l = some (⟨ky, true, dd⟩, r3)) := readA_set HT1.out HT2.out hc; have HK9 : Hid (Blk y9 g3 [.string ks, .bool true, .slice none 0 0] 62) := blk_same HK3.out (ho.block g3 (by have h1 := HOW.out.2.2.1; have h2 := HOW.out.2.2.2.1; omega) HK3.out.lt)
        have HR9 : Hid (Blk y9 g2 zA 62) := blk_same HRS.out (ho.block g2 (by have h1 := HOW.out.2.2.1; have h2 := HOW.out.2.1; omega) HRS.out.lt)
        have HOD : Hid (OwnB y9 y8.heap.size va3 dd) := hown; have HL3 : Hid (2 < [Value.string ks, .bool true, .slice none 0 0].length) := by show 2 < 3; omega
        have HG8 : Hid (g3 < y8.heap.size ∧ g2 < y8.heap.size) := ⟨HK3.out.lt, HRS.out.lt⟩; have HRD9 : Hid (Rd y9 gr gi vc3 r3) := hrd; have HON9 : Hid (Only gi w y9) := HON.out.trans ho; have HOW9 : Hid (vc3.ownBlock = v.ownBlock) := hob.trans HOW.out.1; obtain ⟨av, nv, cv, hv3⟩ := hown.reads.form; subst hv3; clear hown hrd ho hob hc HK3 HRS HRD d1; obtain ⟨tq0, tq1, tq2⟩ := sqk3
        go_wp2_with (first
         | (clear tq0; with_reducible refine wpSeq_cellY (.tmp 15) (.tmp 14) g3 2 [.string ks, .bool true, .slice none 0 0] av nv cv 62 HL3.out HK9.out ?_ ?_ ?_ ?_ ?_
            · rfl
            · rfl
            · rfl
            · rfl
            intro y10 hb10 ho10; have HKX : Hid (Blk y10 g3 [.string ks, .bool true, .slice av nv cv] 62) := hb10; have HRX : Hid (Blk y10 g2 zA 62) := blk_same HR9.out (ho10.block g2 (fun e => HOW.out.2.2.2.2 e.symm) HR9.out.lt)
            have HBX : Hid (Below w.heap.size y9 y10) := ho10.below HOW.out.2.2.2.1 HON9.out.size; have HOX : Hid (OwnB y10 y8.heap.size (.slice av nv cv) dd) := HOD.out.sameS (fun k hk => ho10.block k (by have h1 := (HOD.out.ltS k hk).1; have h2 := HG8.out.1; omega) (HOD.out.ltS k hk).2)
            clear hb10 ho10)
         | (clear tq1; with_reducible refine wpSeq_loadW 62 (.tmp 3) g3 0 [.string ks, .bool true, .slice av nv cv] _ (Blk.range HKX.out) Tryz.underlying62 rfl (info_act15 _ _ _) ?_ ?_ ?_ ?_
            · rfl
            · rfl
            · rfl)
         | (clear tq2; with_reducible refine wpSeq_storeRow 62 (.tmp 2) (.tmp 16) g2 zA [.string ks, .bool true, .slice av nv cv] HRX.out rfl (info_act15 _ _ _) (one_act _ _ _ _ _) ?_ ?_ ?_ ?_ ?_
            · rfl
            · rfl
            · rfl
            · rfl
            intro y11 hset; have HBY : Hid (Below w.heap.size y9 y11) := HBX.out.trans (hset.only.below HOW.out.2.1 (Nat.le_trans HON9.out.size HBX.out.size)); have HKY : Hid (Blk y11 g2 [.string ks, .bool true, .slice av nv cv] 62) := hset.blk; have HOY : Hid (OwnB y11 w.heap.size (.slice av nv cv) dd) := (HOX.out.sameS (fun k hk => hset.only.block k (by have h1 := (HOX.out.ltS k hk).1; have h2 := HG8.out.2; omega) (HOX.out.ltS k hk).2)).mono HON.out.size
            have HNY : Hid (Only gi w y11) := ⟨HBY.out.os.trans HON9.out.os, HBY.out.tape.trans HON9.out.tape, HBY.out.output.trans HON9.out.output, Nat.le_trans HON9.out.size HBY.out.size, fun k hk hlt => (HBY.out.block k hlt).trans (HON9.out.block k hk hlt)⟩
            clear hset))
        refine bodyPost_ret (v := .agg [.string ks, .bool true, .slice av nv cv].toArray) (results_cell_row (by rfl) _ _ g2 62 ([Value.string ks, Value.bool true, Value.slice av nv cv] : List Value).toArray (0, 0) _ rfl HKY.out Tryz.underlying62 rfl (info_act15 _ _ _)) rfl (Or.inl ⟨⟨ky, true, dd⟩, r3, _, vc3, HSP.out, rfl, ⟨.slice av nv cv, by rw [actC, HKS.out], HOY.out⟩, HRD9.out.others HR0.out.rd.lt HOW.out.2.2.1 (fun _ k hk => HVB.out k (by rw [← HOW9.out]; exact hk)) (Nat.le_refl _) HBY.out, HNY.out, HOW9.out⟩)
     · refine wpOp_vl 7 _ _ rfl (by rfl) (alloc_act _ _ rfl _) ⟨trivial, ?_⟩
       obtain ⟨g3, z13, e3, e3w, n3⟩ : ∃ g y, g = z10.heap.size ∧ y = z10.alloc (.cells zA.toArray 62) ∧ NewR zA 62 z10 g y := ⟨_, _, rfl, rfl, NewR.of _ _ _⟩; rw [← e3w, ← e3]; clear e3 e3w; have HG3 : Hid (Blk z13 g3 zA 62 ∧ w.heap.size ≤ g3 ∧ g3 ≠ g2) := ⟨n3.blk, Nat.le_trans HRA.out.onl.size n3.ge, by have h1 := HRA.out.res.lt; have h2 := n3.ge; omega⟩
       replace HRA : Hid (Ra w gr gi g2 v vc2 r2 z13) := HRA.out.new n3.below; replace HON1 := HON1.out.newS n3.below; replace HON1 : Hid (OwnB z13 _ (.slice a1 n1 c1) ky) := HON1; clear n3; simp only [Act.put, sq]; refine wpAnyH_step 2 _ _ (by kernel_rfl) rfl (by rfl) (conv_s _ _ (.tmp 5) rfl _ rfl ky z13 HON1.out.reads) trivial ?_
       simp only [Act.put, sq]; obtain ⟨ks, HKS⟩ := sqn (strB ky); rw [← HKS.out]; have HVB : Hid (∀ k, v.ownBlock = some k → k < w.heap.size) := reads_in HR0.out.byt (text_pos HT1.out); refine tka 6 (.agg [.string ks, .bool sb, .slice none 0 0].toArray) rfl (fun wx hx => by exact build_op _ _ 62 [(0, .tmp 6), (1, .tmp 9)] rfl _ (built_ka _ _ _ rfl) _) trivial ?_
       simp only [Act.put, sq]; refine wpAnyH_storeRow 8 62 (.tmp 3) (.tmp 10) g3 zA [.string ks, .bool sb, .slice none 0 0] HG3.out.1 rfl (info_act15 _ _ _) (one_act0 _ _) (by kernel_rfl) rfl (by rfl) rfl rfl rfl ?_
       intro y8 hset; refine ⟨trivial, ?_⟩; have HK3 : Hid (Blk y8 g3 [.string ks, .bool sb, .slice none 0 0] 62) := hset.blk; have hb8 : Below w.heap.size z13 y8 := hset.only.below HG3.out.2.1 HRA.out.onl.size; have HON : Hid (Only gi w y8) := ⟨hb8.os.trans HRA.out.onl.os, hb8.tape.trans HRA.out.onl.tape, hb8.output.trans HRA.out.onl.output, Nat.le_trans HRA.out.onl.size hb8.size, fun k hk hlt => (hb8.block k hlt).trans (HRA.out.onl.block k hk hlt)⟩
       have HRD : Hid (Rd y8 gr gi vc2 r2) := HRA.out.rd.others HR0.out.rd.lt HRA.out.gi (fun _ k hk => HVB.out k (by rw [← HRA.out.own]; exact hk)) (Nat.le_refl _) hb8
       have HRS : Hid (Blk y8 g2 zA 62) := blk_same HRA.out.res (hset.only.block g2 (fun e => HG3.out.2.2 e.symm) HRA.out.res.lt)
       have HOW : Hid (vc2.ownBlock = v.ownBlock ∧ w.heap.size ≤ g2 ∧ gi < w.heap.size ∧ w.heap.size ≤ g3 ∧ g3 ≠ g2) := ⟨HRA.out.own, HRA.out.ge, HRA.out.gi, HG3.out.2⟩; clear hset HRA HG3 hb8; simp only [Act.put, sq]; refine wpAnyH_done (by kernel_rfl) ?_ _
       have d1 : y8.cell? ⟨g3, 1, none⟩ = some (.bool sb) := HK3.out.cell 1
       by_cases h1 : nn1 = 1
       case neg =>
        obtain rfl : sb = false := by rw [← HSB.out, beq_eq_false_iff_ne]; omega
        have HSP : Hid (readA l = some (⟨ky, false, []⟩, r2)) := readA_unset HT1.out HT2.out h1; clear h1 HSB; obtain ⟨tq0, tq1⟩ := sqk2
        go_wp2_with (first
         | (clear tq0; with_reducible refine wpSeq_loadW 62 (.tmp 3) g3 0 [.string ks, .bool false, .slice none 0 0] _ (Blk.range HK3.out) Tryz.underlying62 rfl (info_act15 _ _ _) ?_ ?_ ?_ ?_
            · rfl
            · rfl
            · rfl)
         | (clear tq1; with_reducible refine wpSeq_storeRow 62 (.tmp 2) (.tmp 16) g2 zA [.string ks, .bool false, .slice none 0 0] HRS.out rfl (info_act15 _ _ _) (one_act0 _ _) ?_ ?_ ?_ ?_ ?_
            · rfl
            · rfl
            · rfl
            · rfl
            intro y9 hset; have HB9 : Hid (Below w.heap.size y8 y9) := hset.only.below HOW.out.2.1 HON.out.size; have HK9 : Hid (Blk y9 g2 [.string ks, .bool false, .slice none 0 0] 62) := hset.blk; have HO9 : Hid (Only gi w y9) := ⟨hset.only.os.trans HON.out.os, hset.only.tape.trans HON.out.tape, hset.only.output.trans HON.out.output, Nat.le_trans HON.out.size hset.only.size, fun k hk hlt => (hset.only.block k (by have := HOW.out.2.1; omega) (Nat.lt_of_lt_of_le hlt HON.out.size)).trans (HON.out.block k hk hlt)⟩
            clear hset d1))
        refine bodyPost_ret (v := .agg [.string ks, .bool false, .slice none 0 0].toArray) (results_cell_row (by rfl) _ _ g2 62 ([Value.string ks, Value.bool false, Value.slice none 0 0] : List Value).toArray (0, 0) _ rfl HK9.out Tryz.underlying62 rfl (info_act15 _ _ _)) rfl (Or.inl ⟨⟨ky, false, []⟩, r2, _, vc2, HSP.out, rfl, ⟨.slice none 0 0, by rw [actC, HKS.out], OwnB.nil _ _⟩, HRD.out.others HR0.out.rd.lt HOW.out.2.2.1 (fun _ k hk => HVB.out k (by rw [← HOW.out.1]; exact hk)) (Nat.le_refl _) HB9.out, HO9.out, HOW.out.1⟩)
       case pos =>
        subst h1; obtain rfl : sb = true := by rw [← HSB.out]; rfl
        have HCT : Hid (Calls Tryz.prog 69 #[.pointer (some ⟨gr, 0, none⟩)] y8 fun e w' => RdDoes gr gi vc2 y8 (readText r2) (fun a w' v => OwnB w' y8.heap.size v a) e w') := crtext_any gr gi vc2 r2 y8 HRD.out
        clear HSB
        go_wp2_with fail
        refine HCT.out.mono ?_; rintro e y9 (⟨dd, r3, va3, vc3, hc, rfl, hown, hrd, ho, hob⟩ | ⟨hc, hT⟩)
        case inr =>
         have HD : Hid (RdDoes gr gi v w (readA l) (fun a w' va => ∃ vd, va = .agg (actC a vd).toArray ∧ OwnB w' w.heap.size vd a.data) (thrown gi) y9) := Or.inr ⟨readA_nodata HT1.out HT2.out hc, Threw.after HON.out (hT.eq ▸ hT)⟩
         obtain rfl := hT.eq; unfold thrown at HD ⊢; clear hT; go_wp2; exact ⟨rfl, HD.out⟩
        have HSP : Hid (readA l = some (⟨ky, true, dd⟩, r3)) := readA_set HT1.out HT2.out hc; have HK9 : Hid (Blk y9 g3 [.string ks, .bool true, .slice none 0 0] 62) := blk_same HK3.out (ho.block g3 (by have h1 := HOW.out.2.2.1; have h2 := HOW.out.2.2.2.1; omega) HK3.out.lt)
        have HR9 : Hid (Blk y9 g2 zA 62) := blk_same HRS.out (ho.block g2 (by have h1 := HOW.out.2.2.1; have h2 := HOW.out.2.1; omega) HRS.out.lt)
        have HOD : Hid (OwnB y9 y8.heap.size va3 dd) := hown; have HL3 : Hid (2 < [Value.string ks, .bool true, .slice none 0 0].length) := by show 2 < 3; omega
        have HG8 : Hid (g3 < y8.heap.size ∧ g2 < y8.heap.size) := ⟨HK3.out.lt, HRS.out.lt⟩; have HRD9 : Hid (Rd y9 gr gi vc3 r3) := hrd; have HON9 : Hid (Only gi w y9) := HON.out.trans ho; have HOW9 : Hid (vc3.ownBlock = v.ownBlock) := hob.trans HOW.out.1; obtain ⟨av, nv, cv, hv3⟩ := hown.reads.form; subst hv3; clear hown hrd ho hob hc HK3 HRS HRD d1; obtain ⟨tq0, tq1, tq2⟩ := sqk3
        go_wp2_with (first
         | (clear tq0; with_reducible refine wpSeq_cellY (.tmp 15) (.tmp 14) g3 2 [.string ks, .bool true, .slice none 0 0] av nv cv 62 HL3.out HK9.out ?_ ?_ ?_ ?_ ?_
            · rfl
            · rfl
            · rfl
            · rfl
            intro y10 hb10 ho10; have HKX : Hid (Blk y10 g3 [.string ks, .bool true, .slice av nv cv] 62) := hb10; have HRX : Hid (Blk y10 g2 zA 62) := blk_same HR9.out (ho10.block g2 (fun e => HOW.out.2.2.2.2 e.symm) HR9.out.lt)
            have HBX : Hid (Below w.heap.size y9 y10) := ho10.below HOW.out.2.2.2.1 HON9.out.size; have HOX : Hid (OwnB y10 y8.heap.size (.slice av nv cv) dd) := HOD.out.sameS (fun k hk => ho10.block k (by have h1 := (HOD.out.ltS k hk).1; have h2 := HG8.out.1; omega) (HOD.out.ltS k hk).2)
            clear hb10 ho10)
         | (clear tq1; with_reducible refine wpSeq_loadW 62 (.tmp 3) g3 0 [.string ks, .bool true, .slice av nv cv] _ (Blk.range HKX.out) Tryz.underlying62 rfl (info_act15 _ _ _) ?_ ?_ ?_ ?_
            · rfl
            · rfl
            · rfl)
         | (clear tq2; with_reducible refine wpSeq_storeRow 62 (.tmp 2) (.tmp 16) g2 zA [.string ks, .bool true, .slice av nv cv] HRX.out rfl (info_act15 _ _ _) (one_act _ _ _ _ _) ?_ ?_ ?_ ?_ ?_
            · rfl
            · rfl
            · rfl
            · rfl
            intro y11 hset; have HBY : Hid (Below w.heap.size y9 y11) := HBX.out.trans (hset.only.below HOW.out.2.1 (Nat.le_trans HON9.out.size HBX.out.size)); have HKY : Hid (Blk y11 g2 [.string ks, .bool true, .slice av nv cv] 62) := hset.blk; have HOY : Hid (OwnB y11 w.heap.size (.slice av nv cv) dd) := (HOX.out.sameS (fun k hk => hset.only.block k (by have h1 := (HOX.out.ltS k hk).1; have h2 := HG8.out.2; omega) (HOX.out.ltS k hk).2)).mono HON.out.size
            have HNY : Hid (Only gi w y11) := ⟨HBY.out.os.trans HON9.out.os, HBY.out.tape.trans HON9.out.tape, HBY.out.output.trans HON9.out.output, Nat.le_trans HON9.out.size HBY.out.size, fun k hk hlt => (HBY.out.block k hlt).trans (HON9.out.block k hk hlt)⟩
            clear hset))
        refine bodyPost_ret (v := .agg [.string ks, .bool true, .slice av nv cv].toArray) (results_cell_row (by rfl) _ _ g2 62 ([Value.string ks, Value.bool true, Value.slice av nv cv] : List Value).toArray (0, 0) _ rfl HKY.out Tryz.underlying62 rfl (info_act15 _ _ _)) rfl (Or.inl ⟨⟨ky, true, dd⟩, r3, _, vc3, HSP.out, rfl, ⟨.slice av nv cv, by rw [actC, HKS.out], HOY.out⟩, HRD9.out.others HR0.out.rd.lt HOW.out.2.2.1 (fun _ k hk => HVB.out k (by rw [← HOW9.out]; exact hk)) (Nat.le_refl _) HBY.out, HNY.out, HOW9.out⟩)
   · refine wpOp_vl 7 _ _ rfl (by rfl) (alloc_act _ _ rfl _) ⟨trivial, ?_⟩
     obtain ⟨g3, z15, e3, e3w, n3⟩ : ∃ g y, g = z3.heap.size ∧ y = z3.alloc (.cells zA.toArray 62) ∧ NewR zA 62 z3 g y := ⟨_, _, rfl, rfl, NewR.of _ _ _⟩; rw [← e3w, ← e3]; clear e3 e3w; have HG3 : Hid (Blk z15 g3 zA 62 ∧ w.heap.size ≤ g3 ∧ g3 ≠ g2) := ⟨n3.blk, Nat.le_trans HRA.out.onl.size n3.ge, by have h1 := HRA.out.res.lt; have h2 := n3.ge; omega⟩
     replace HRA : Hid (Ra w gr gi g2 v vc1 r1 z15) := HRA.out.new n3.below; replace HON1 := HON1.out.newS n3.below; replace HON1 : Hid (OwnB z15 _ (.slice a1 n1 c1) ky) := HON1; clear n3; simp only [Act.put, sq]; refine wpAnyH_pair 2 4 (by kernel_rfl) ?_ ?_
     · refine wpOp_vl 2 _ _ rfl (by rfl) (conv_s _ _ (.tmp 5) rfl _ rfl ky z15 HON1.out.reads) ⟨trivial, ?_⟩
       simp only [Act.put, sq]; refine wpAnyH_enterP 4 (by kernel_rfl) rfl (by rfl) (f := 40) (args := #[.pointer (some ⟨gr, 0, none⟩), .int .i64 ((1 : Nat) : Int)]) (by simp [go_sem]) (ccount_any gr gi 1 (by decide) _ _ _ HRA.out.rd) ?_
       rintro e z17 (⟨nn1, r2, va2, vc2, hc, rfl, rfl, hrd, ho, hob⟩ | ⟨hc, hT⟩)
       case inr =>
        obtain rfl := hT.eq; exact Or.inr ⟨_, rfl, rfl, Or.inr ⟨readA_num HT1.out hc, Threw.after HRA.out.onl hT⟩⟩
       refine Or.inl ⟨_, rfl, trivial, ?_⟩; replace HRA := HRA.out.call hrd ho hob; have HT2 : Hid (readCount 1 r1 = some (nn1, r2)) := hc; have HE2 : Hid (((nn1 : Int) == 1) = decide (nn1 = 1)) := by show _ = _; rw [Bool.eq_iff_iff, beq_iff_eq, decide_eq_true_eq]; omega
       replace HG3 : Hid (Blk z17 g3 zA 62 ∧ w.heap.size ≤ g3 ∧ g3 ≠ g2) := ⟨blk_same HG3.out.1 (ho.block g3 (by have h1 := HG3.out.2.1; have h2 := HRA.gi; omega) HG3.out.1.lt), HG3.out.2⟩
       replace HRA : Hid (Ra w gr gi g2 v vc2 r2 z17) := HRA; clear hrd ho hob hc; simp only [Act.put, sq]; obtain ⟨sb, HSB⟩ : ∃ b, Hid (((nn1 : Int) == 1) = b) := ⟨_, rfl⟩; refine tka 5 (.bool sb) rfl (fun wx hx => by (have hb := HSB.out; simp [go_sem, hb])) trivial ?_
       simp only [Act.put, sq]; obtain ⟨ks, HKS⟩ := sqn (strB ky); rw [← HKS.out]; have HVB : Hid (∀ k, v.ownBlock = some k → k < w.heap.size) := reads_in HR0.out.byt (text_pos HT1.out); refine tka 6 (.agg [.string ks, .bool sb, .slice none 0 0].toArray) rfl (fun wx hx => by exact build_op _ _ 62 [(0, .tmp 6), (1, .tmp 9)] rfl _ (built_ka _ _ _ rfl) _) trivial ?_
       simp only [Act.put, sq]; refine wpAnyH_storeRow 8 62 (.tmp 3) (.tmp 10) g3 zA [.string ks, .bool sb, .slice none 0 0] HG3.out.1 rfl (info_act15 _ _ _) (one_act0 _ _) (by kernel_rfl) rfl (by rfl) rfl rfl rfl ?_
       intro y8 hset; refine ⟨trivial, ?_⟩; have HK3 : Hid (Blk y8 g3 [.string ks, .bool sb, .slice none 0 0] 62) := hset.blk; have hb8 : Below w.heap.size z17 y8 := hset.only.below HG3.out.2.1 HRA.out.onl.size; have HON : Hid (Only gi w y8) := ⟨hb8.os.trans HRA.out.onl.os, hb8.tape.trans HRA.out.onl.tape, hb8.output.trans HRA.out.onl.output, Nat.le_trans HRA.out.onl.size hb8.size, fun k hk hlt => (hb8.block k hlt).trans (HRA.out.onl.block k hk hlt)⟩
       have HRD : Hid (Rd y8 gr gi vc2 r2) := HRA.out.rd.others HR0.out.rd.lt HRA.out.gi (fun _ k hk => HVB.out k (by rw [← HRA.out.own]; exact hk)) (Nat.le_refl _) hb8
       have HRS : Hid (Blk y8 g2 zA 62) := blk_same HRA.out.res (hset.only.block g2 (fun e => HG3.out.2.2 e.symm) HRA.out.res.lt)
       have HOW : Hid (vc2.ownBlock = v.ownBlock ∧ w.heap.size ≤ g2 ∧ gi < w.heap.size ∧ w.heap.size ≤ g3 ∧ g3 ≠ g2) := ⟨HRA.out.own, HRA.out.ge, HRA.out.gi, HG3.out.2⟩; clear hset HRA HG3 hb8; simp only [Act.put, sq]; refine wpAnyH_done (by kernel_rfl) ?_ _
       have d1 : y8.cell? ⟨g3, 1, none⟩ = some (.bool sb) := HK3.out.cell 1
       by_cases h1 : nn1 = 1
       case neg =>
        obtain rfl : sb = false := by rw [← HSB.out, beq_eq_false_iff_ne]; omega
        have HSP : Hid (readA l = some (⟨ky, false, []⟩, r2)) := readA_unset HT1.out HT2.out h1; clear h1 HSB; obtain ⟨tq0, tq1⟩ := sqk2
        go_wp2_with (first
         | (clear tq0; with_reducible refine wpSeq_loadW 62 (.tmp 3) g3 0 [.string ks, .bool false, .slice none 0 0] _ (Blk.range HK3.out) Tryz.underlying62 rfl (info_act15 _ _ _) ?_ ?_ ?_ ?_
            · rfl
            · rfl
            · rfl)
         | (clear tq1; with_reducible refine wpSeq_storeRow 62 (.tmp 2) (.tmp 16) g2 zA [.string ks, .bool false, .slice none 0 0] HRS.out rfl (info_act15 _ _ _) (one_act0 _ _) ?_ ?_ ?_ ?_ ?_
            · rfl
            · rfl
            · rfl
            · rfl
            intro y9 hset; have HB9 : Hid (Below w.heap.size y8 y9) := hset.only.below HOW.out.2.1 HON.out.size; have HK9 : Hid (Blk y9 g2 [.string ks, .bool false, .slice none 0 0] 62) := hset.blk; have HO9 : Hid (Only gi w y9) := ⟨hset.only.os.trans HON.out.os, hset.only.tape.trans HON.out.tape, hset.only.output.trans HON.out.output, Nat.le_trans HON.out.size hset.only.size, fun k hk hlt => (hset.only.block k (by have := HOW.out.2.1; omega) (Nat.lt_of_lt_of_le hlt HON.out.size)).trans (HON.out.block k hk hlt)⟩
            clear hset d1))
        refine bodyPost_ret (v := .agg [.string ks, .bool false, .slice none 0 0].toArray) (results_cell_row (by rfl) _ _ g2 62 ([Value.string ks, Value.bool false, Value.slice none 0 0] : List Value).toArray (0, 0) _ rfl HK9.out Tryz.underlying62 rfl (info_act15 _ _ _)) rfl (Or.inl ⟨⟨ky, false, []⟩, r2, _, vc2, HSP.out, rfl, ⟨.slice none 0 0, by rw [actC, HKS.out], OwnB.nil _ _⟩, HRD.out.others HR0.out.rd.lt HOW.out.2.2.1 (fun _ k hk => HVB.out k (by rw [← HOW.out.1]; exact hk)) (Nat.le_refl _) HB9.out, HO9.out, HOW.out.1⟩)
       case pos =>
        subst h1; obtain rfl : sb = true := by rw [← HSB.out]; rfl
        have HCT : Hid (Calls Tryz.prog 69 #[.pointer (some ⟨gr, 0, none⟩)] y8 fun e w' => RdDoes gr gi vc2 y8 (readText r2) (fun a w' v => OwnB w' y8.heap.size v a) e w') := crtext_any gr gi vc2 r2 y8 HRD.out
        clear HSB
        go_wp2_with fail
        refine HCT.out.mono ?_; rintro e y9 (⟨dd, r3, va3, vc3, hc, rfl, hown, hrd, ho, hob⟩ | ⟨hc, hT⟩)
        case inr =>
         have HD : Hid (RdDoes gr gi v w (readA l) (fun a w' va => ∃ vd, va = .agg (actC a vd).toArray ∧ OwnB w' w.heap.size vd a.data) (thrown gi) y9) := Or.inr ⟨readA_nodata HT1.out HT2.out hc, Threw.after HON.out (hT.eq ▸ hT)⟩
         obtain rfl := hT.eq; unfold thrown at HD ⊢; clear hT; go_wp2; exact ⟨rfl, HD.out⟩
        have HSP : Hid (readA l = some (⟨ky, true, dd⟩, r3)) := readA_set HT1.out HT2.out hc; have HK9 : Hid (Blk y9 g3 [.string ks, .bool true, .slice none 0 0] 62) := blk_same HK3.out (ho.block g3 (by have h1 := HOW.out.2.2.1; have h2 := HOW.out.2.2.2.1; omega) HK3.out.lt)
        have HR9 : Hid (Blk y9 g2 zA 62) := blk_same HRS.out (ho.block g2 (by have h1 := HOW.out.2.2.1; have h2 := HOW.out.2.1; omega) HRS.out.lt)
        have HOD : Hid (OwnB y9 y8.heap.size va3 dd) := hown; have HL3 : Hid (2 < [Value.string ks, .bool true, .slice none 0 0].length) := by show 2 < 3; omega
        have HG8 : Hid (g3 < y8.heap.size ∧ g2 < y8.heap.size) := ⟨HK3.out.lt, HRS.out.lt⟩; have HRD9 : Hid (Rd y9 gr gi vc3 r3) := hrd; have HON9 : Hid (Only gi w y9) := HON.out.trans ho; have HOW9 : Hid (vc3.ownBlock = v.ownBlock) := hob.trans HOW.out.1; obtain ⟨av, nv, cv, hv3⟩ := hown.reads.form; subst hv3; clear hown hrd ho hob hc HK3 HRS HRD d1; obtain ⟨tq0, tq1, tq2⟩ := sqk3
        go_wp2_with (first
         | (clear tq0; with_reducible refine wpSeq_cellY (.tmp 15) (.tmp 14) g3 2 [.string ks, .bool true, .slice none 0 0] av nv cv 62 HL3.out HK9.out ?_ ?_ ?_ ?_ ?_
            · rfl
            · rfl
            · rfl
            · rfl
            intro y10 hb10 ho10; have HKX : Hid (Blk y10 g3 [.string ks, .bool true, .slice av nv cv] 62) := hb10; have HRX : Hid (Blk y10 g2 zA 62) := blk_same HR9.out (ho10.block g2 (fun e => HOW.out.2.2.2.2 e.symm) HR9.out.lt)
            have HBX : Hid (Below w.heap.size y9 y10) := ho10.below HOW.out.2.2.2.1 HON9.out.size; have HOX : Hid (OwnB y10 y8.heap.size (.slice av nv cv) dd) := HOD.out.sameS (fun k hk => ho10.block k (by have h1 := (HOD.out.ltS k hk).1; have h2 := HG8.out.1; omega) (HOD.out.ltS k hk).2)
            clear hb10 ho10)
         | (clear tq1; with_reducible refine wpSeq_loadW 62 (.tmp 3) g3 0 [.string ks, .bool true, .slice av nv cv] _ (Blk.range HKX.out) Tryz.underlying62 rfl (info_act15 _ _ _) ?_ ?_ ?_ ?_
            · rfl
            · rfl
            · rfl)
         | (clear tq2; with_reducible refine wpSeq_storeRow 62 (.tmp 2) (.tmp 16) g2 zA [.string ks, .bool true, .slice av nv cv] HRX.out rfl (info_act15 _ _ _) (one_act _ _ _ _ _) ?_ ?_ ?_ ?_ ?_
            · rfl
            · rfl
            · rfl
            · rfl
            intro y11 hset; have HBY : Hid (Below w.heap.size y9 y11) := HBX.out.trans (hset.only.below HOW.out.2.1 (Nat.le_trans HON9.out.size HBX.out.size)); have HKY : Hid (Blk y11 g2 [.string ks, .bool true, .slice av nv cv] 62) := hset.blk; have HOY : Hid (OwnB y11 w.heap.size (.slice av nv cv) dd) := (HOX.out.sameS (fun k hk => hset.only.block k (by have h1 := (HOX.out.ltS k hk).1; have h2 := HG8.out.2; omega) (HOX.out.ltS k hk).2)).mono HON.out.size
            have HNY : Hid (Only gi w y11) := ⟨HBY.out.os.trans HON9.out.os, HBY.out.tape.trans HON9.out.tape, HBY.out.output.trans HON9.out.output, Nat.le_trans HON9.out.size HBY.out.size, fun k hk hlt => (HBY.out.block k hlt).trans (HON9.out.block k hk hlt)⟩
            clear hset))
        refine bodyPost_ret (v := .agg [.string ks, .bool true, .slice av nv cv].toArray) (results_cell_row (by rfl) _ _ g2 62 ([Value.string ks, Value.bool true, Value.slice av nv cv] : List Value).toArray (0, 0) _ rfl HKY.out Tryz.underlying62 rfl (info_act15 _ _ _)) rfl (Or.inl ⟨⟨ky, true, dd⟩, r3, _, vc3, HSP.out, rfl, ⟨.slice av nv cv, by rw [actC, HKS.out], HOY.out⟩, HRD9.out.others HR0.out.rd.lt HOW.out.2.2.1 (fun _ k hk => HVB.out k (by rw [← HOW9.out]; exact hk)) (Nat.le_refl _) HBY.out, HNY.out, HOW9.out⟩)
     · refine wpOp_enterP 4 rfl (by rfl) (f := 40) (args := #[.pointer (some ⟨gr, 0, none⟩), .int .i64 ((1 : Nat) : Int)]) (by simp [go_sem]) (ccount_any gr gi 1 (by decide) _ _ _ HRA.out.rd) ?_
       rintro e z18 (⟨nn1, r2, va2, vc2, hc, rfl, rfl, hrd, ho, hob⟩ | ⟨hc, hT⟩)
       case inr =>
        obtain rfl := hT.eq; exact Or.inr ⟨_, rfl, rfl, Or.inr ⟨readA_num HT1.out hc, Threw.after HRA.out.onl hT⟩⟩
       refine Or.inl ⟨_, rfl, trivial, ?_⟩; replace HRA := HRA.out.call hrd ho hob; have HT2 : Hid (readCount 1 r1 = some (nn1, r2)) := hc; have HE2 : Hid (((nn1 : Int) == 1) = decide (nn1 = 1)) := by show _ = _; rw [Bool.eq_iff_iff, beq_iff_eq, decide_eq_true_eq]; omega
       replace HG3 : Hid (Blk z18 g3 zA 62 ∧ w.heap.size ≤ g3 ∧ g3 ≠ g2) := ⟨blk_same HG3.out.1 (ho.block g3 (by have h1 := HG3.out.2.1; have h2 := HRA.gi; omega) HG3.out.1.lt), HG3.out.2⟩
       replace HON1 : Hid (OwnB z18 (w.heap.size) (.slice a1 n1 c1) ky) := by
        have hgg := HRA.gi; exact (HON1.out.sameS (fun k hk => ho.block k (by have h1 := (HON1.out.ltS k hk).1; have h2 := HLE.out; omega) (HON1.out.ltS k hk).2)).mono HLE.out
       replace HRA : Hid (Ra w gr gi g2 v vc2 r2 z18) := HRA; clear hrd ho hob hc; simp only [Act.put, sq]; obtain ⟨sb, HSB⟩ : ∃ b, Hid (((nn1 : Int) == 1) = b) := ⟨_, rfl⟩; refine tka 5 (.bool sb) rfl (fun wx hx => by (have hb := HSB.out; simp [go_sem, hb])) trivial ?_
       simp only [Act.put, sq]; refine wpAnyH_step 2 _ _ (by kernel_rfl) rfl (by rfl) (conv_s _ _ (.tmp 5) rfl _ rfl ky z18 HON1.out.reads) trivial ?_
       simp only [Act.put, sq]; obtain ⟨ks, HKS⟩ := sqn (strB ky); rw [← HKS.out]; have HVB : Hid (∀ k, v.ownBlock = some k → k < w.heap.size) := reads_in HR0.out.byt (text_pos HT1.out); refine tka 6 (.agg [.string ks, .bool sb, .slice none 0 0].toArray) rfl (fun wx hx => by exact build_op _ _ 62 [(0, .tmp 6), (1, .tmp 9)] rfl _ (built_ka _ _ _ rfl) _) trivial ?_
       simp only [Act.put, sq]; refine wpAnyH_storeRow 8 62 (.tmp 3) (.tmp 10) g3 zA [.string ks, .bool sb, .slice none 0 0] HG3.out.1 rfl (info_act15 _ _ _) (one_act0 _ _) (by kernel_rfl) rfl (by rfl) rfl rfl rfl ?_
       intro y8 hset; refine ⟨trivial, ?_⟩; have HK3 : Hid (Blk y8 g3 [.string ks, .bool sb, .slice none 0 0] 62) := hset.blk; have hb8 : Below w.heap.size z18 y8 := hset.only.below HG3.out.2.1 HRA.out.onl.size; have HON : Hid (Only gi w y8) := ⟨hb8.os.trans HRA.out.onl.os, hb8.tape.trans HRA.out.onl.tape, hb8.output.trans HRA.out.onl.output, Nat.le_trans HRA.out.onl.size hb8.size, fun k hk hlt => (hb8.block k hlt).trans (HRA.out.onl.block k hk hlt)⟩
       have HRD : Hid (Rd y8 gr gi vc2 r2) := HRA.out.rd.others HR0.out.rd.lt HRA.out.gi (fun _ k hk => HVB.out k (by rw [← HRA.out.own]; exact hk)) (Nat.le_refl _) hb8
       have HRS : Hid (Blk y8 g2 zA 62) := blk_same HRA.out.res (hset.only.block g2 (fun e => HG3.out.2.2 e.symm) HRA.out.res.lt)
       have HOW : Hid (vc2.ownBlock = v.ownBlock ∧ w.heap.size ≤ g2 ∧ gi < w.heap.size ∧ w.heap.size ≤ g3 ∧ g3 ≠ g2) := ⟨HRA.out.own, HRA.out.ge, HRA.out.gi, HG3.out.2⟩; clear hset HRA HG3 hb8; simp only [Act.put, sq]; refine wpAnyH_done (by kernel_rfl) ?_ _
       have d1 : y8.cell? ⟨g3, 1, none⟩ = some (.bool sb) := HK3.out.cell 1
       by_cases h1 : nn1 = 1
       case neg =>
        obtain rfl : sb = false := by rw [← HSB.out, beq_eq_false_iff_ne]; omega
        have HSP : Hid (readA l = some (⟨ky, false, []⟩, r2)) := readA_unset HT1.out HT2.out h1; clear h1 HSB; obtain ⟨tq0, tq1⟩ := sqk2
        go_wp2_with (first
         | (clear tq0; with_reducible refine wpSeq_loadW 62 (.tmp 3) g3 0 [.string ks, .bool false, .slice none 0 0] _ (Blk.range HK3.out) Tryz.underlying62 rfl (info_act15 _ _ _) ?_ ?_ ?_ ?_
            · rfl
            · rfl
            · rfl)
         | (clear tq1; with_reducible refine wpSeq_storeRow 62 (.tmp 2) (.tmp 16) g2 zA [.string ks, .bool false, .slice none 0 0] HRS.out rfl (info_act15 _ _ _) (one_act0 _ _) ?_ ?_ ?_ ?_ ?_
            · rfl
            · rfl
            · rfl
            · rfl
            intro y9 hset; have HB9 : Hid (Below w.heap.size y8 y9) := hset.only.below HOW.out.2.1 HON.out.size; have HK9 : Hid (Blk y9 g2 [.string ks, .bool false, .slice none 0 0] 62) := hset.blk; have HO9 : Hid (Only gi w y9) := ⟨hset.only.os.trans HON.out.os, hset.only.tape.trans HON.out.tape, hset.only.output.trans HON.out.output, Nat.le_trans HON.out.size hset.only.size, fun k hk hlt => (hset.only.block k (by have := HOW.out.2.1; omega) (Nat.lt_of_lt_of_le hlt HON.out.size)).trans (HON.out.block k hk hlt)⟩
            clear hset d1))
        refine bodyPost_ret (v := .agg [.string ks, .bool false, .slice none 0 0].toArray) (results_cell_row (by rfl) _ _ g2 62 ([Value.string ks, Value.bool false, Value.slice none 0 0] : List Value).toArray (0, 0) _ rfl HK9.out Tryz.underlying62 rfl (info_act15 _ _ _)) rfl (Or.inl ⟨⟨ky, false, []⟩, r2, _, vc2, HSP.out, rfl, ⟨.slice none 0 0, by rw [actC, HKS.out], OwnB.nil _ _⟩, HRD.out.others HR0.out.rd.lt HOW.out.2.2.1 (fun _ k hk => HVB.out k (by rw [← HOW.out.1]; exact hk)) (Nat.le_refl _) HB9.out, HO9.out, HOW.out.1⟩)
       case pos =>
        subst h1; obtain rfl : sb = true := by rw [← HSB.out]; rfl
        have HCT : Hid (Calls Tryz.prog 69 #[.pointer (some ⟨gr, 0, none⟩)] y8 fun e w' => RdDoes gr gi vc2 y8 (readText r2) (fun a w' v => OwnB w' y8.heap.size v a) e w') := crtext_any gr gi vc2 r2 y8 HRD.out
        clear HSB
        go_wp2_with fail
        refine HCT.out.mono ?_; rintro e y9 (⟨dd, r3, va3, vc3, hc, rfl, hown, hrd, ho, hob⟩ | ⟨hc, hT⟩)
        case inr =>
         have HD : Hid (RdDoes gr gi v w (readA l) (fun a w' va => ∃ vd, va = .agg (actC a vd).toArray ∧ OwnB w' w.heap.size vd a.data) (thrown gi) y9) := Or.inr ⟨readA_nodata HT1.out HT2.out hc, Threw.after HON.out (hT.eq ▸ hT)⟩
         obtain rfl := hT.eq; unfold thrown at HD ⊢; clear hT; go_wp2; exact ⟨rfl, HD.out⟩
        have HSP : Hid (readA l = some (⟨ky, true, dd⟩, r3)) := readA_set HT1.out HT2.out hc; have HK9 : Hid (Blk y9 g3 [.string ks, .bool true, .slice none 0 0] 62) := blk_same HK3.out (ho.block g3 (by have h1 := HOW.out.2.2.1; have h2 := HOW.out.2.2.2.1; omega) HK3.out.lt)
        have HR9 : Hid (Blk y9 g2 zA 62) := blk_same HRS.out (ho.block g2 (by have h1 := HOW.out.2.2.1; have h2 := HOW.out.2.1; omega) HRS.out.lt)
        have HOD : Hid (OwnB y9 y8.heap.size va3 dd) := hown; have HL3 : Hid (2 < [Value.string ks, .bool true, .slice none 0 0].length) := by show 2 < 3; omega
        have HG8 : Hid (g3 < y8.heap.size ∧ g2 < y8.heap.size) := ⟨HK3.out.lt, HRS.out.lt⟩; have HRD9 : Hid (Rd y9 gr gi vc3 r3) := hrd; have HON9 : Hid (Only gi w y9) := HON.out.trans ho; have HOW9 : Hid (vc3.ownBlock = v.ownBlock) := hob.trans HOW.out.1; obtain ⟨av, nv, cv, hv3⟩ := hown.reads.form; subst hv3; clear hown hrd ho hob hc HK3 HRS HRD d1; obtain ⟨tq0, tq1, tq2⟩ := sqk3
        go_wp2_with (first
         | (clear tq0; with_reducible refine wpSeq_cellY (.tmp 15) (.tmp 14) g3 2 [.string ks, .bool true, .slice none 0 0] av nv cv 62 HL3.out HK9.out ?_ ?_ ?_ ?_ ?_
            · rfl
            · rfl
            · rfl
            · rfl
            intro y10 hb10 ho10; have HKX : Hid (Blk y10 g3 [.string ks, .bool true, .slice av nv cv] 62) := hb10; have HRX : Hid (Blk y10 g2 zA 62) := blk_same HR9.out (ho10.block g2 (fun e => HOW.out.2.2.2.2 e.symm) HR9.out.lt)
            have HBX : Hid (Below w.heap.size y9 y10) := ho10.below HOW.out.2.2.2.1 HON9.out.size; have HOX : Hid (OwnB y10 y8.heap.size (.slice av nv cv) dd) := HOD.out.sameS (fun k hk => ho10.block k (by have h1 := (HOD.out.ltS k hk).1; have h2 := HG8.out.1; omega) (HOD.out.ltS k hk).2)
            clear hb10 ho10)
         | (clear tq1; with_reducible refine wpSeq_loadW 62 (.tmp 3) g3 0 [.string ks, .bool true, .slice av nv cv] _ (Blk.range HKX.out) Tryz.underlying62 rfl (info_act15 _ _ _) ?_ ?_ ?_ ?_
            · rfl
            · rfl
            · rfl)
         | (clear tq2; with_reducible refine wpSeq_storeRow 62 (.tmp 2) (.tmp 16) g2 zA [.string ks, .bool true, .slice av nv cv] HRX.out rfl (info_act15 _ _ _) (one_act _ _ _ _ _) ?_ ?_ ?_ ?_ ?_
            · rfl
            · rfl
            · rfl
            · rfl
            intro y11 hset; have HBY : Hid (Below w.heap.size y9 y11) := HBX.out.trans (hset.only.below HOW.out.2.1 (Nat.le_trans HON9.out.size HBX.out.size)); have HKY : Hid (Blk y11 g2 [.string ks, .bool true, .slice av nv cv] 62) := hset.blk; have HOY : Hid (OwnB y11 w.heap.size (.slice av nv cv) dd) := (HOX.out.sameS (fun k hk => hset.only.block k (by have h1 := (HOX.out.ltS k hk).1; have h2 := HG8.out.2; omega) (HOX.out.ltS k hk).2)).mono HON.out.size
            have HNY : Hid (Only gi w y11) := ⟨HBY.out.os.trans HON9.out.os, HBY.out.tape.trans HON9.out.tape, HBY.out.output.trans HON9.out.output, Nat.le_trans HON9.out.size HBY.out.size, fun k hk hlt => (HBY.out.block k hlt).trans (HON9.out.block k hk hlt)⟩
            clear hset))
        refine bodyPost_ret (v := .agg [.string ks, .bool true, .slice av nv cv].toArray) (results_cell_row (by rfl) _ _ g2 62 ([Value.string ks, Value.bool true, Value.slice av nv cv] : List Value).toArray (0, 0) _ rfl HKY.out Tryz.underlying62 rfl (info_act15 _ _ _)) rfl (Or.inl ⟨⟨ky, true, dd⟩, r3, _, vc3, HSP.out, rfl, ⟨.slice av nv cv, by rw [actC, HKS.out], HOY.out⟩, HRD9.out.others HR0.out.rd.lt HOW.out.2.2.1 (fun _ k hk => HVB.out k (by rw [← HOW9.out]; exact hk)) (Nat.le_refl _) HBY.out, HNY.out, HOW9.out⟩)
 · refine wpOp_vl 7 _ _ rfl (by rfl) (alloc_act _ _ rfl _) ⟨trivial, ?_⟩
   obtain ⟨g3, z20, e3, e3w, n3⟩ : ∃ g y, g = y2.heap.size ∧ y = y2.alloc (.cells zA.toArray 62) ∧ NewR zA 62 y2 g y := ⟨_, _, rfl, rfl, NewR.of _ _ _⟩; rw [← e3w, ← e3]; clear e3 e3w; have HG3 : Hid (Blk z20 g3 zA 62 ∧ w.heap.size ≤ g3 ∧ g3 ≠ g2) := ⟨n3.blk, Nat.le_trans HRA.out.onl.size n3.ge, by have h1 := HRA.out.res.lt; have h2 := n3.ge; omega⟩
   replace HRA : Hid (Ra w gr gi g2 v v l z20) := HRA.out.new n3.below; clear n3; simp only [Act.put, sq]; refine wpAnyH_enterP 1 (by kernel_rfl) rfl (by rfl) (f := 69) (args := #[.pointer (some ⟨gr, 0, none⟩)]) (by simp [go_sem]) (crtext_any gr gi _ _ _ HRA.out.rd) ?_
   rintro e z21 (⟨ky, r1, va1, vc1, hc, rfl, hown, hrd, ho, hob⟩ | ⟨hc, hT⟩)
   case inr =>
    obtain rfl := hT.eq; exact Or.inr ⟨_, rfl, rfl, Or.inr ⟨readA_key hc, Threw.after HRA.out.onl hT⟩⟩
   refine Or.inl ⟨_, rfl, trivial, ?_⟩; have HLE : Hid (w.heap.size ≤ z20.heap.size) := HRA.out.onl.size; replace HRA := HRA.out.call hrd ho hob; have HT1 : Hid (readText l = some (ky, r1)) := hc; obtain ⟨a1, n1, c1, hv1⟩ := hown.reads.form; subst hv1; replace HG3 : Hid (Blk z21 g3 zA 62 ∧ w.heap.size ≤ g3 ∧ g3 ≠ g2) := ⟨blk_same HG3.out.1 (ho.block g3 (by have h1 := HG3.out.2.1; have h2 := HRA.gi; omega) HG3.out.1.lt), HG3.out.2⟩
   have HON1 : Hid (OwnB z21 z20.heap.size (.slice a1 n1 c1) ky) := hown; replace HRA : Hid (Ra w gr gi g2 v vc1 r1 z21) := HRA; clear hown hrd ho hob hc; simp only [Act.put, sq]; refine wpAnyH_pair 2 4 (by kernel_rfl) ?_ ?_
   · refine wpOp_vl 2 _ _ rfl (by rfl) (conv_s _ _ (.tmp 5) rfl _ rfl ky z21 HON1.out.reads) ⟨trivial, ?_⟩
     simp only [Act.put, sq]; refine wpAnyH_enterP 4 (by kernel_rfl) rfl (by rfl) (f := 40) (args := #[.pointer (some ⟨gr, 0, none⟩), .int .i64 ((1 : Nat) : Int)]) (by simp [go_sem]) (ccount_any gr gi 1 (by decide) _ _ _ HRA.out.rd) ?_
     rintro e z23 (⟨nn1, r2, va2, vc2, hc, rfl, rfl, hrd, ho, hob⟩ | ⟨hc, hT⟩)
     case inr =>
      obtain rfl := hT.eq; exact Or.inr ⟨_, rfl, rfl, Or.inr ⟨readA_num HT1.out hc, Threw.after HRA.out.onl hT⟩⟩
     refine Or.inl ⟨_, rfl, trivial, ?_⟩; replace HRA := HRA.out.call hrd ho hob; have HT2 : Hid (readCount 1 r1 = some (nn1, r2)) := hc; have HE2 : Hid (((nn1 : Int) == 1) = decide (nn1 = 1)) := by show _ = _; rw [Bool.eq_iff_iff, beq_iff_eq, decide_eq_true_eq]; omega
     replace HG3 : Hid (Blk z23 g3 zA 62 ∧ w.heap.size ≤ g3 ∧ g3 ≠ g2) := ⟨blk_same HG3.out.1 (ho.block g3 (by have h1 := HG3.out.2.1; have h2 := HRA.gi; omega) HG3.out.1.lt), HG3.out.2⟩
     replace HRA : Hid (Ra w gr gi g2 v vc2 r2 z23) := HRA; clear hrd ho hob hc; simp only [Act.put, sq]; obtain ⟨sb, HSB⟩ : ∃ b, Hid (((nn1 : Int) == 1) = b) := ⟨_, rfl⟩; refine tka 5 (.bool sb) rfl (fun wx hx => by (have hb := HSB.out; simp [go_sem, hb])) trivial ?_
     simp only [Act.put, sq]; obtain ⟨ks, HKS⟩ := sqn (strB ky); rw [← HKS.out]; have HVB : Hid (∀ k, v.ownBlock = some k → k < w.heap.size) := reads_in HR0.out.byt (text_pos HT1.out); refine tka 6 (.agg [.string ks, .bool sb, .slice none 0 0].toArray) rfl (fun wx hx => by exact build_op _ _ 62 [(0, .tmp 6), (1, .tmp 9)] rfl _ (built_ka _ _ _ rfl) _) trivial ?_
     simp only [Act.put, sq]; refine wpAnyH_storeRow 8 62 (.tmp 3) (.tmp 10) g3 zA [.string ks, .bool sb, .slice none 0 0] HG3.out.1 rfl (info_act15 _ _ _) (one_act0 _ _) (by kernel_rfl) rfl (by rfl) rfl rfl rfl ?_
     intro y8 hset; refine ⟨trivial, ?_⟩; have HK3 : Hid (Blk y8 g3 [.string ks, .bool sb, .slice none 0 0] 62) := hset.blk; have hb8 : Below w.heap.size z23 y8 := hset.only.below HG3.out.2.1 HRA.out.onl.size; have HON : Hid (Only gi w y8) := ⟨hb8.os.trans HRA.out.onl.os, hb8.tape.trans HRA.out.onl.tape, hb8.output.trans HRA.out.onl.output, Nat.le_trans HRA.out.onl.size hb8.size, fun k hk hlt => (hb8.block k hlt).trans (HRA.out.onl.block k hk hlt)⟩
     have HRD : Hid (Rd y8 gr gi vc2 r2) := HRA.out.rd.others HR0.out.rd.lt HRA.out.gi (fun _ k hk => HVB.out k (by rw [← HRA.out.own]; exact hk)) (Nat.le_refl _) hb8
     have HRS : Hid (Blk y8 g2 zA 62) := blk_same HRA.out.res (hset.only.block g2 (fun e => HG3.out.2.2 e.symm) HRA.out.res.lt)
     have HOW : Hid (vc2.ownBlock = v.ownBlock ∧ w.heap.size ≤ g2 ∧ gi < w.heap.size ∧ w.heap.size ≤ g3 ∧ g3 ≠ g2) := ⟨HRA.out.own, HRA.out.ge, HRA.out.gi, HG3.out.2⟩; clear hset HRA HG3 hb8; simp only [Act.put, sq]; refine wpAnyH_done (by kernel_rfl) ?_ _
     have d1 : y8.cell? ⟨g3, 1, none⟩ = some (.bool sb) := HK3.out.cell 1
     by_cases h1 : nn1 = 1
     case neg =>
      obtain rfl : sb = false := by rw [← HSB.out, beq_eq_false_iff_ne]; omega
      have HSP : Hid (readA l = some (⟨ky, false, []⟩, r2)) := readA_unset HT1.out HT2.out h1; clear h1 HSB; obtain ⟨tq0, tq1⟩ := sqk2
      go_wp2_with (first
       | (clear tq0; with_reducible refine wpSeq_loadW 62 (.tmp 3) g3 0 [.string ks, .bool false, .slice none 0 0] _ (Blk.range HK3.out) Tryz.underlying62 rfl (info_act15 _ _ _) ?_ ?_ ?_ ?_
          · rfl
          · rfl
          · rfl)
       | (clear tq1; with_reducible refine wpSeq_storeRow 62 (.tmp 2) (.tmp 16) g2 zA [.string ks, .bool false, .slice none 0 0] HRS.out rfl (info_act15 _ _ _) (one_act0 _ _) ?_ ?_ ?_ ?_ ?_
          · rfl
          · rfl
          · rfl
          · rfl
          intro y9 hset; have HB9 : Hid (Below w.heap.size y8 y9) := hset.only.below HOW.out.2.1 HON.out.size; have HK9 : Hid (Blk y9 g2 [.string ks, .bool false, .slice none 0 0] 62) := hset.blk; have HO9 : Hid (Only gi w y9) := ⟨hset.only.os.trans HON.out.os, hset.only.tape.trans HON.out.tape, hset.only.output.trans HON.out.output, Nat.le_trans HON.out.size hset.only.size, fun k hk hlt => (hset.only.block k (by have := HOW.out.2.1; omega) (Nat.lt_of_lt_of_le hlt HON.out.size)).trans (HON.out.block k hk hlt)⟩
          clear hset d1))
      refine bodyPost_ret (v := .agg [.string ks, .bool false, .slice none 0 0].toArray) (results_cell_row (by rfl) _ _ g2 62 ([Value.string ks, Value.bool false, Value.slice none 0 0] : List Value).toArray (0, 0) _ rfl HK9.out Tryz.underlying62 rfl (info_act15 _ _ _)) rfl (Or.inl ⟨⟨ky, false, []⟩, r2, _, vc2, HSP.out, rfl, ⟨.slice none 0 0, by rw [actC, HKS.out], OwnB.nil _ _⟩, HRD.out.others HR0.out.rd.lt HOW.out.2.2.1 (fun _ k hk => HVB.out k (by rw [← HOW.out.1]; exact hk)) (Nat.le_refl _) HB9.out, HO9.out, HOW.out.1⟩)
     case pos =>
      subst h1; obtain rfl : sb = true := by rw [← HSB.out]; rfl
      have HCT : Hid (Calls Tryz.prog 69 #[.pointer (some ⟨gr, 0, none⟩)] y8 fun e w' => RdDoes gr gi vc2 y8 (readText r2) (fun a w' v => OwnB w' y8.heap.size v a) e w') := crtext_any gr gi vc2 r2 y8 HRD.out
      clear HSB
      go_wp2_with fail
      refine HCT.out.mono ?_; rintro e y9 (⟨dd, r3, va3, vc3, hc, rfl, hown, hrd, ho, hob⟩ | ⟨hc, hT⟩)
      case inr =>
       have HD : Hid (RdDoes gr gi v w (readA l) (fun a w' va => ∃ vd, va = .agg (actC a vd).toArray ∧ OwnB w' w.heap.size vd a.data) (thrown gi) y9) := Or.inr ⟨readA_nodata HT1.out HT2.out hc, Threw.after HON.out (hT.eq ▸ hT)⟩
       obtain rfl := hT.eq; unfold thrown at HD ⊢; clear hT; go_wp2; exact ⟨rfl, HD.out⟩
      have HSP : Hid (readA l = some (⟨ky, true, dd⟩, r3)) := readA_set HT1.out HT2.out hc; have HK9 : Hid (Blk y9 g3 [.string ks, .bool true, .slice none 0 0] 62) := blk_same HK3.out (ho.block g3 (by have h1 := HOW.out.2.2.1; have h2 := HOW.out.2.2.2.1; omega) HK3.out.lt)
      have HR9 : Hid (Blk y9 g2 zA 62) := blk_same HRS.out (ho.block g2 (by have h1 := HOW.out.2.2.1; have h2 := HOW.out.2.1; omega) HRS.out.lt)
      have HOD : Hid (OwnB y9 y8.heap.size va3 dd) := hown; have HL3 : Hid (2 < [Value.string ks, .bool true, .slice none 0 0].length) := by show 2 < 3; omega
      have HG8 : Hid (g3 < y8.heap.size ∧ g2 < y8.heap.size) := ⟨HK3.out.lt, HRS.out.lt⟩; have HRD9 : Hid (Rd y9 gr gi vc3 r3) := hrd; have HON9 : Hid (Only gi w y9) := HON.out.trans ho; have HOW9 : Hid (vc3.ownBlock = v.ownBlock) := hob.trans HOW.out.1; obtain ⟨av, nv, cv, hv3⟩ := hown.reads.form; subst hv3; clear hown hrd ho hob hc HK3 HRS HRD d1; obtain ⟨tq0, tq1, tq2⟩ := sqk3
      go_wp2_with (first
       | (clear tq0; with_reducible refine wpSeq_cellY (.tmp 15) (.tmp 14) g3 2 [.string ks, .bool true, .slice none 0 0] av nv cv 62 HL3.out HK9.out ?_ ?_ ?_ ?_ ?_
          · rfl
          · rfl
          · rfl
          · rfl
          intro y10 hb10 ho10; have HKX : Hid (Blk y10 g3 [.string ks, .bool true, .slice av nv cv] 62) := hb10; have HRX : Hid (Blk y10 g2 zA 62) := blk_same HR9.out (ho10.block g2 (fun e => HOW.out.2.2.2.2 e.symm) HR9.out.lt)
          have HBX : Hid (Below w.heap.size y9 y10) := ho10.below HOW.out.2.2.2.1 HON9.out.size; have HOX : Hid (OwnB y10 y8.heap.size (.slice av nv cv) dd) := HOD.out.sameS (fun k hk => ho10.block k (by have h1 := (HOD.out.ltS k hk).1; have h2 := HG8.out.1; omega) (HOD.out.ltS k hk).2)
          clear hb10 ho10)
       | (clear tq1; with_reducible refine wpSeq_loadW 62 (.tmp 3) g3 0 [.string ks, .bool true, .slice av nv cv] _ (Blk.range HKX.out) Tryz.underlying62 rfl (info_act15 _ _ _) ?_ ?_ ?_ ?_
          · rfl
          · rfl
          · rfl)
       | (clear tq2; with_reducible refine wpSeq_storeRow 62 (.tmp 2) (.tmp 16) g2 zA [.string ks, .bool true, .slice av nv cv] HRX.out rfl (info_act15 _ _ _) (one_act _ _ _ _ _) ?_ ?_ ?_ ?_ ?_
          · rfl
          · rfl
          · rfl
          · rfl
          intro y11 hset; have HBY : Hid (Below w.heap.size y9 y11) := HBX.out.trans (hset.only.below HOW.out.2.1 (Nat.le_trans HON9.out.size HBX.out.size)); have HKY : Hid (Blk y11 g2 [.string ks, .bool true, .slice av nv cv] 62) := hset.blk; have HOY : Hid (OwnB y11 w.heap.size (.slice av nv cv) dd) := (HOX.out.sameS (fun k hk => hset.only.block k (by have h1 := (HOX.out.ltS k hk).1; have h2 := HG8.out.2; omega) (HOX.out.ltS k hk).2)).mono HON.out.size
          have HNY : Hid (Only gi w y11) := ⟨HBY.out.os.trans HON9.out.os, HBY.out.tape.trans HON9.out.tape, HBY.out.output.trans HON9.out.output, Nat.le_trans HON9.out.size HBY.out.size, fun k hk hlt => (HBY.out.block k hlt).trans (HON9.out.block k hk hlt)⟩
          clear hset))
      refine bodyPost_ret (v := .agg [.string ks, .bool true, .slice av nv cv].toArray) (results_cell_row (by rfl) _ _ g2 62 ([Value.string ks, Value.bool true, Value.slice av nv cv] : List Value).toArray (0, 0) _ rfl HKY.out Tryz.underlying62 rfl (info_act15 _ _ _)) rfl (Or.inl ⟨⟨ky, true, dd⟩, r3, _, vc3, HSP.out, rfl, ⟨.slice av nv cv, by rw [actC, HKS.out], HOY.out⟩, HRD9.out.others HR0.out.rd.lt HOW.out.2.2.1 (fun _ k hk => HVB.out k (by rw [← HOW9.out]; exact hk)) (Nat.le_refl _) HBY.out, HNY.out, HOW9.out⟩)
   · refine wpOp_enterP 4 rfl (by rfl) (f := 40) (args := #[.pointer (some ⟨gr, 0, none⟩), .int .i64 ((1 : Nat) : Int)]) (by simp [go_sem]) (ccount_any gr gi 1 (by decide) _ _ _ HRA.out.rd) ?_
     rintro e z24 (⟨nn1, r2, va2, vc2, hc, rfl, rfl, hrd, ho, hob⟩ | ⟨hc, hT⟩)
     case inr =>
      obtain rfl := hT.eq; exact Or.inr ⟨_, rfl, rfl, Or.inr ⟨readA_num HT1.out hc, Threw.after HRA.out.onl hT⟩⟩
     refine Or.inl ⟨_, rfl, trivial, ?_⟩; replace HRA := HRA.out.call hrd ho hob; have HT2 : Hid (readCount 1 r1 = some (nn1, r2)) := hc; have HE2 : Hid (((nn1 : Int) == 1) = decide (nn1 = 1)) := by show _ = _; rw [Bool.eq_iff_iff, beq_iff_eq, decide_eq_true_eq]; omega
     replace HG3 : Hid (Blk z24 g3 zA 62 ∧ w.heap.size ≤ g3 ∧ g3 ≠ g2) := ⟨blk_same HG3.out.1 (ho.block g3 (by have h1 := HG3.out.2.1; have h2 := HRA.gi; omega) HG3.out.1.lt), HG3.out.2⟩
     replace HON1 : Hid (OwnB z24 (w.heap.size) (.slice a1 n1 c1) ky) := by
      have hgg := HRA.gi; exact (HON1.out.sameS (fun k hk => ho.block k (by have h1 := (HON1.out.ltS k hk).1; have h2 := HLE.out; omega) (HON1.out.ltS k hk).2)).mono HLE.out
     replace HRA : Hid (Ra w gr gi g2 v vc2 r2 z24) := HRA; clear hrd ho hob hc; simp only [Act.put, sq]; obtain ⟨sb, HSB⟩ : ∃ b, Hid (((nn1 : Int) == 1) = b) := ⟨_, rfl⟩; refine tka 5 (.bool sb) rfl (fun wx hx => by (have hb := HSB.out; simp [go_sem, hb])) trivial ?_
     simp only [Act.put, sq]; refine wpAnyH_step 2 _ _ (by kernel_rfl) rfl (by rfl) (conv_s _ _ (.tmp 5) rfl _ rfl ky z24 HON1.out.reads) trivial ?_
     simp only [Act.put, sq]; obtain ⟨ks, HKS⟩ := sqn (strB ky); rw [← HKS.out]; have HVB : Hid (∀ k, v.ownBlock = some k → k < w.heap.size) := reads_in HR0.out.byt (text_pos HT1.out); refine tka 6 (.agg [.string ks, .bool sb, .slice none 0 0].toArray) rfl (fun wx hx => by exact build_op _ _ 62 [(0, .tmp 6), (1, .tmp 9)] rfl _ (built_ka _ _ _ rfl) _) trivial ?_
     simp only [Act.put, sq]; refine wpAnyH_storeRow 8 62 (.tmp 3) (.tmp 10) g3 zA [.string ks, .bool sb, .slice none 0 0] HG3.out.1 rfl (info_act15 _ _ _) (one_act0 _ _) (by kernel_rfl) rfl (by rfl) rfl rfl rfl ?_
     intro y8 hset; refine ⟨trivial, ?_⟩; have HK3 : Hid (Blk y8 g3 [.string ks, .bool sb, .slice none 0 0] 62) := hset.blk; have hb8 : Below w.heap.size z24 y8 := hset.only.below HG3.out.2.1 HRA.out.onl.size; have HON : Hid (Only gi w y8) := ⟨hb8.os.trans HRA.out.onl.os, hb8.tape.trans HRA.out.onl.tape, hb8.output.trans HRA.out.onl.output, Nat.le_trans HRA.out.onl.size hb8.size, fun k hk hlt => (hb8.block k hlt).trans (HRA.out.onl.block k hk hlt)⟩
     have HRD : Hid (Rd y8 gr gi vc2 r2) := HRA.out.rd.others HR0.out.rd.lt HRA.out.gi (fun _ k hk => HVB.out k (by rw [← HRA.out.own]; exact hk)) (Nat.le_refl _) hb8
     have HRS : Hid (Blk y8 g2 zA 62) := blk_same HRA.out.res (hset.only.block g2 (fun e => HG3.out.2.2 e.symm) HRA.out.res.lt)
     have HOW : Hid (vc2.ownBlock = v.ownBlock ∧ w.heap.size ≤ g2 ∧ gi < w.heap.size ∧ w.heap.size ≤ g3 ∧ g3 ≠ g2) := ⟨HRA.out.own, HRA.out.ge, HRA.out.gi, HG3.out.2⟩; clear hset HRA HG3 hb8; simp only [Act.put, sq]; refine wpAnyH_done (by kernel_rfl) ?_ _
     have d1 : y8.cell? ⟨g3, 1, none⟩ = some (.bool sb) := HK3.out.cell 1
     by_cases h1 : nn1 = 1
     case neg =>
      obtain rfl : sb = false := by rw [← HSB.out, beq_eq_false_iff_ne]; omega
      have HSP : Hid (readA l = some (⟨ky, false, []⟩, r2)) := readA_unset HT1.out HT2.out h1; clear h1 HSB; obtain ⟨tq0, tq1⟩ := sqk2
      go_wp2_with (first
       | (clear tq0; with_reducible refine wpSeq_loadW 62 (.tmp 3) g3 0 [.string ks, .bool false, .slice none 0 0] _ (Blk.range HK3.out) Tryz.underlying62 rfl (info_act15 _ _ _) ?_ ?_ ?_ ?_
          · rfl
          · rfl
          · rfl)
       | (clear tq1; with_reducible refine wpSeq_storeRow 62 (.tmp 2) (.tmp 16) g2 zA [.string ks, .bool false, .slice none 0 0] HRS.out rfl (info_act15 _ _ _) (one_act0 _ _) ?_ ?_ ?_ ?_ ?_
          · rfl
          · rfl
          · rfl
          · rfl
          intro y9 hset; have HB9 : Hid (Below w.heap.size y8 y9) := hset.only.below HOW.out.2.1 HON.out.size; have HK9 : Hid (Blk y9 g2 [.string ks, .bool false, .slice none 0 0] 62) := hset.blk; have HO9 : Hid (Only gi w y9) := ⟨hset.only.os.trans HON.out.os, hset.only.tape.trans HON.out.tape, hset.only.output.trans HON.out.output, Nat.le_trans HON.out.size hset.only.size, fun k hk hlt => (hset.only.block k (by have := HOW.out.2.1; omega) (Nat.lt_of_lt_of_le hlt HON.out.size)).trans (HON.out.block k hk hlt)⟩
          clear hset d1))
      refine bodyPost_ret (v := .agg [.string ks, .bool false, .slice none 0 0].toArray) (results_cell_row (by rfl) _ _ g2 62 ([Value.string ks, Value.bool false, Value.slice none 0 0] : List Value).toArray (0, 0) _ rfl HK9.out Tryz.underlying62 rfl (info_act15 _ _ _)) rfl (Or.inl ⟨⟨ky, false, []⟩, r2, _, vc2, HSP.out, rfl, ⟨.slice none 0 0, by rw [actC, HKS.out], OwnB.nil _ _⟩, HRD.out.others HR0.out.rd.lt HOW.out.2.2.1 (fun _ k hk => HVB.out k (by rw [← HOW.out.1]; exact hk)) (Nat.le_refl _) HB9.out, HO9.out, HOW.out.1⟩)
     case pos =>
      subst h1; obtain rfl : sb = true := by rw [← HSB.out]; rfl
      have HCT : Hid (Calls Tryz.prog 69 #[.pointer (some ⟨gr, 0, none⟩)] y8 fun e w' => RdDoes gr gi vc2 y8 (readText r2) (fun a w' v => OwnB w' y8.heap.size v a) e w') := crtext_any gr gi vc2 r2 y8 HRD.out
      clear HSB
      go_wp2_with fail
      refine HCT.out.mono ?_; rintro e y9 (⟨dd, r3, va3, vc3, hc, rfl, hown, hrd, ho, hob⟩ | ⟨hc, hT⟩)
      case inr =>
       have HD : Hid (RdDoes gr gi v w (readA l) (fun a w' va => ∃ vd, va = .agg (actC a vd).toArray ∧ OwnB w' w.heap.size vd a.data) (thrown gi) y9) := Or.inr ⟨readA_nodata HT1.out HT2.out hc, Threw.after HON.out (hT.eq ▸ hT)⟩
       obtain rfl := hT.eq; unfold thrown at HD ⊢; clear hT; go_wp2; exact ⟨rfl, HD.out⟩
      have HSP : Hid (readA l = some (⟨ky, true, dd⟩, r3)) := readA_set HT1.out HT2.out hc; have HK9 : Hid (Blk y9 g3 [.string ks, .bool true, .slice none 0 0] 62) := blk_same HK3.out (ho.block g3 (by have h1 := HOW.out.2.2.1; have h2 := HOW.out.2.2.2.1; omega) HK3.out.lt)
      have HR9 : Hid (Blk y9 g2 zA 62) := blk_same HRS.out (ho.block g2 (by have h1 := HOW.out.2.2.1; have h2 := HOW.out.2.1; omega) HRS.out.lt)
      have HOD : Hid (OwnB y9 y8.heap.size va3 dd) := hown; have HL3 : Hid (2 < [Value.string ks, .bool true, .slice none 0 0].length) := by show 2 < 3; omega
      have HG8 : Hid (g3 < y8.heap.size ∧ g2 < y8.heap.size) := ⟨HK3.out.lt, HRS.out.lt⟩; have HRD9 : Hid (Rd y9 gr gi vc3 r3) := hrd; have HON9 : Hid (Only gi w y9) := HON.out.trans ho; have HOW9 : Hid (vc3.ownBlock = v.ownBlock) := hob.trans HOW.out.1; obtain ⟨av, nv, cv, hv3⟩ := hown.reads.form; subst hv3; clear hown hrd ho hob hc HK3 HRS HRD d1; obtain ⟨tq0, tq1, tq2⟩ := sqk3
      go_wp2_with (first
       | (clear tq0; with_reducible refine wpSeq_cellY (.tmp 15) (.tmp 14) g3 2 [.string ks, .bool true, .slice none 0 0] av nv cv 62 HL3.out HK9.out ?_ ?_ ?_ ?_ ?_
          · rfl
          · rfl
          · rfl
          · rfl
          intro y10 hb10 ho10; have HKX : Hid (Blk y10 g3 [.string ks, .bool true, .slice av nv cv] 62) := hb10; have HRX : Hid (Blk y10 g2 zA 62) := blk_same HR9.out (ho10.block g2 (fun e => HOW.out.2.2.2.2 e.symm) HR9.out.lt)
          have HBX : Hid (Below w.heap.size y9 y10) := ho10.below HOW.out.2.2.2.1 HON9.out.size; have HOX : Hid (OwnB y10 y8.heap.size (.slice av nv cv) dd) := HOD.out.sameS (fun k hk => ho10.block k (by have h1 := (HOD.out.ltS k hk).1; have h2 := HG8.out.1; omega) (HOD.out.ltS k hk).2)
          clear hb10 ho10)
       | (clear tq1; with_reducible refine wpSeq_loadW 62 (.tmp 3) g3 0 [.string ks, .bool true, .slice av nv cv] _ (Blk.range HKX.out) Tryz.underlying62 rfl (info_act15 _ _ _) ?_ ?_ ?_ ?_
          · rfl
          · rfl
          · rfl)
       | (clear tq2; with_reducible refine wpSeq_storeRow 62 (.tmp 2) (.tmp 16) g2 zA [.string ks, .bool true, .slice av nv cv] HRX.out rfl (info_act15 _ _ _) (one_act _ _ _ _ _) ?_ ?_ ?_ ?_ ?_
          · rfl
          · rfl
          · rfl
          · rfl
          intro y11 hset; have HBY : Hid (Below w.heap.size y9 y11) := HBX.out.trans (hset.only.below HOW.out.2.1 (Nat.le_trans HON9.out.size HBX.out.size)); have HKY : Hid (Blk y11 g2 [.string ks, .bool true, .slice av nv cv] 62) := hset.blk; have HOY : Hid (OwnB y11 w.heap.size (.slice av nv cv) dd) := (HOX.out.sameS (fun k hk => hset.only.block k (by have h1 := (HOX.out.ltS k hk).1; have h2 := HG8.out.2; omega) (HOX.out.ltS k hk).2)).mono HON.out.size
          have HNY : Hid (Only gi w y11) := ⟨HBY.out.os.trans HON9.out.os, HBY.out.tape.trans HON9.out.tape, HBY.out.output.trans HON9.out.output, Nat.le_trans HON9.out.size HBY.out.size, fun k hk hlt => (HBY.out.block k hlt).trans (HON9.out.block k hk hlt)⟩
          clear hset))
      refine bodyPost_ret (v := .agg [.string ks, .bool true, .slice av nv cv].toArray) (results_cell_row (by rfl) _ _ g2 62 ([Value.string ks, Value.bool true, Value.slice av nv cv] : List Value).toArray (0, 0) _ rfl HKY.out Tryz.underlying62 rfl (info_act15 _ _ _)) rfl (Or.inl ⟨⟨ky, true, dd⟩, r3, _, vc3, HSP.out, rfl, ⟨.slice av nv cv, by rw [actC, HKS.out], HOY.out⟩, HRD9.out.others HR0.out.rd.lt HOW.out.2.2.1 (fun _ k hk => HVB.out k (by rw [← HOW9.out]; exact hk)) (Nat.le_refl _) HBY.out, HNY.out, HOW9.out⟩)
theorem Tryz.infoact : (Tryz.prog.info? 62).map (fun i => (i.zero, i.size, i.bytes)) = some (some (.agg zA.toArray), 3, 48) := by kernel_rfl
def rowP (ps : List (ActT × Value)) : List Value := (ps.map fun p => actC p.1 p.2).flatten
theorem rowP_snoc (ps : List (ActT × Value)) (p : ActT × Value) : rowP (ps ++ [p]) = rowP ps ++ actC p.1 p.2 := by simp [rowP]
theorem rowP_len (ps : List (ActT × Value)) : (rowP ps).length = ps.length * 3 := by
 induction ps with
 | nil => rfl
 | cons p ps ih => simp only [rowP, List.map_cons, List.flatten_cons, List.length_append, List.length_cons] at *; rw [ih, actC]; simp; omega
theorem rowP_at : ∀ (ps : List (ActT × Value)) (j i : Nat) (p : ActT × Value) (v : Value), ps[j]? = some p → (actC p.1 p.2)[i]? = some v → (rowP ps)[j * 3 + i]? = some v
 | [], j, _, _, _, h, _ => by simp at h
 | q :: ps, 0, i, p, v, h, hv => by
  simp at h
  subst h
  have hi : i < (actC q.1 q.2).length := (List.getElem?_eq_some_iff.1 hv).1
  show (actC q.1 q.2 ++ rowP ps)[0 * 3 + i]? = _
  rw [Nat.zero_mul, Nat.zero_add, List.getElem?_append_left hi]
  exact hv
 | q :: ps, j + 1, i, p, v, h, hv => by
  simp at h
  show (actC q.1 q.2 ++ rowP ps)[(j + 1) * 3 + i]? = _
  rw [List.getElem?_append_right (by simp [actC]; omega), show (j + 1) * 3 + i - (actC q.1 q.2).length = j * 3 + i by simp [actC]; omega]
  exact rowP_at ps j i p v h hv
structure OwnA (W : World) (base : Nat) (v : Value) (ps : List (ActT × Value)) : Prop where
 row : W.ownsRow base 62 3 v ps.length (rowP ps)
 dat : ∀ p ∈ ps, OwnB W base p.2 p.1.data
theorem OwnA.nil (W : World) (base : Nat) : OwnA W base (.slice none 0 0) [] := ⟨World.ownsRow_nil _ _ _ _, fun p hp => by cases hp⟩
theorem OwnA.form {W : World} {base : Nat} {v : Value} {ps : List (ActT × Value)} (h : OwnA W base v ps) : ∃ a c, v = .slice a ps.length c := by
 obtain ⟨_, h2⟩ := h.row
 rcases h2 with ⟨rfl, h0⟩ | ⟨g, cap, cur, rfl, _⟩
 · exact ⟨none, 0, by rw [h0]⟩
 · exact ⟨_, cap, rfl⟩
theorem OwnA.lt {W : World} {base : Nat} {v : Value} {ps : List (ActT × Value)} (h : OwnA W base v ps) : ∀ k, v.ownBlock = some k → base ≤ k ∧ k < W.heap.size := World.ownsRow.lt h.row
theorem OwnA.same {W W' : World} {base : Nat} {v : Value} {ps : List (ActT × Value)} (h : OwnA W base v ps) (hs : ∀ k, base ≤ k → k < W.heap.size → W'.heap[k]? = W.heap[k]?) : OwnA W' base v ps := by
 refine ⟨?_, fun p hp => (h.dat p hp).sameS (fun k hk => hs k ((h.dat p hp).ltS k hk).1 ((h.dat p hp).ltS k hk).2)⟩
 have hlt := h.lt
 obtain ⟨h1, h2⟩ := h.row
 refine ⟨h1, ?_⟩
 rcases h2 with h2 | ⟨g, cap, cur, rfl, hg, hh, r⟩
 · exact Or.inl h2
 · exact Or.inr ⟨g, cap, cur, rfl, hg, by rw [hs g hg (hlt g rfl).2]; exact hh, r⟩
theorem OwnA.reads {W : World} {base : Nat} {v : Value} {ps : List (ActT × Value)} (h : OwnA W base v ps) : ReadsA W v (ps.map (·.1)) := by
 obtain ⟨h1, h2⟩ := id h.row
 rcases h2 with ⟨rfl, h0⟩ | ⟨g, cap, cur, rfl, hg, hh, hc, hm, hs, ht⟩
 · have : ps = [] := List.eq_nil_of_length_eq_zero h0
   subst this; exact ReadsA.nil W
 · refine ⟨_, cap, by rw [List.length_map], by rw [List.length_map]; exact hc, (fun e => by cases e), fun _ => ⟨g, 0, rfl, fun j hj => ?_⟩⟩
   rw [List.length_map] at hj; obtain ⟨p, hp⟩ : ∃ p, ps[j]? = some p := ⟨ps[j], List.getElem?_eq_getElem hj⟩; have e : (ps.map (·.1)).getD j ⟨[], false, []⟩ = p.1 := by rw [List.getD_eq_getElem?_getD, List.getElem?_map, hp]; rfl
   rw [e]; refine ⟨p.2, fun i u hu => ?_, (h.dat p (List.mem_of_getElem? hp)).reads⟩
   have hr := rowP_at ps j i p u hp hu; have hi : j * 3 + i < (rowP ps).length := (List.getElem?_eq_some_iff.1 hr).1; rw [rowP_len] at hi; rw [cell_of_row W g (0 + j * 3 + i) cur _ (0, 0) hh, Nat.zero_add]; rw [← ht, List.getElem?_take_of_lt hi] at hr
   simpa using hr
theorem build_a1 (f : Operand → Value) (o : Oper) (x : Operand) (s : ByteArray) (b : Bool) (ad : Option Addr) (n c : Nat) (hx : f x = .agg [.string s, .bool b, .slice ad n c].toArray) (ho : o.op = .buildSlice 22 1 #[(0, x)]) (w : World) : (execOp f o).run Tryz.prog w = .ok (.value (.slice (some ⟨w.heap.size, 0, none⟩) 1 1)) (w.alloc (.cells [.string s, .bool b, .slice ad n c].toArray 62)) := by
 unfold execOp
 rw [ho]
 simp only [List.map_toArray, List.map_cons, List.map_nil, hx]
 kernel_rfl
theorem wp_appendA {o : Oper} {a : Act} {w : World} {K : Act → World → Prop} {Q : Exit → Act → World → Prop} (s x : Operand) (base : Nat) (v : Value) (ps : List (ActT × Value)) (p : ActT × Value) (g : Nat)
 (hown : OwnA w base v ps) (hb : Blk w g (actC p.1 p.2) 62) (hg : v.ownBlock ≠ some g) (hd : OwnB w base p.2 p.1.data) (hlen : ps.length < 1000000) (hbase : base ≤ w.heap.size)
 (ho : o.op = .call { callee := .builtin .append, args := #[s, x], argTypes := #[22, 22] }) (hs : a.eval s = v) (hx : a.eval x = .slice (some ⟨g, 0, none⟩) 1 1)
 (h : ∀ v' w', OwnA w' base v' (ps ++ [p]) → w.grownBy w' v.ownBlock → K (a.put o.dst v') w') : o.wp Tryz.prog a w K Q := by
 obtain ⟨i0, hi, hz0, hz1, hz2⟩ := info_parts Tryz.infoact
 obtain ⟨av, nv, cv, hpv⟩ := hd.reads.form
 obtain ⟨v', w', hr, h2, h3, h4, h5⟩ := run_append_own_at (P := Tryz.prog) w base 22 o.type 62 i0 (.agg zA.toArray) 3 48 Tryz.underlying22 hi hz0 hz1 hz2 rfl (by decide) v ps.length (rowP ps) hown.row ⟨g, 0, none⟩ 1 1 (actC p.1 p.2) rfl (fun j u hj => by rw [Addr.add_mid, Nat.zero_add, hb.cell]; exact hj) (by rw [actC, hpv]; exact one_act _ _ _ _ _) (by unfold maxLen; omega) (by omega) hbase
 unfold Oper.wp execOp
 simp only [ho, resolve, invoke, builtin, Sem.run_bind, Sem.run_pure, Result.andThen_ok, List.map_toArray, List.map_cons, List.map_nil, hs, hx, hr]
 have hne : ∀ q : ActT × Value, OwnB w base q.2 q.1.data → OwnB w' base q.2 q.1.data := fun q hq => hq.sameS (fun k hk => h3.block k (hq.ltS k hk).2 (fun e => by
  obtain ⟨h6, h7⟩ := hown.row
  rcases h7 with ⟨rfl, _⟩ | ⟨g2, cap, cur, rfl, _, hh, _⟩
  · cases e
  · simp [Value.ownBlock] at e
    subst e; have hb2 : Blk w k cur.toList 62 := by unfold Blk; rw [hh]
    exact hq.neA hb2 (by decide) hk))
 refine h v' w' ⟨by rw [List.length_append, rowP_snoc]; exact h2, fun q hq => ?_⟩ h3
 rcases List.mem_append.1 hq with hq | hq
 · exact hne q (hown.dat q hq)
 · rw [List.mem_singleton.1 hq]; exact hne p hd
theorem readAll_snoc {r s : Bs} {a : ActT} : ∀ (k : Nat) (l : Bs) (xs : List ActT), readAll readA k l = some (xs, r) → readA r = some (a, s) → readAll readA (k + 1) l = some (xs ++ [a], s)
 | 0, l, xs, h, h2 => by
  simp only [readAll, Option.some.injEq, Prod.mk.injEq] at h
  obtain ⟨rfl, rfl⟩ := h
  simp only [readAll, h2, List.nil_append]
 | k + 1, l, xs, h, h2 => by
  rw [readAll] at h ⊢
  cases h1 : readA l with
  | none => rw [h1] at h; cases h
  | some p =>
   obtain ⟨b, q⟩ := p; rw [h1] at h; simp only at h ⊢
   cases h3 : readAll readA k q with
   | none => rw [h3] at h; cases h
   | some p2 =>
    obtain ⟨l2, t⟩ := p2; rw [h3] at h; simp only [Option.some.injEq, Prod.mk.injEq] at h; obtain ⟨rfl, rfl⟩ := h; rw [readAll_snoc k q l2 h3 h2]
    rfl
theorem readAll_stop {r : Bs} : ∀ (k m : Nat) (l : Bs) (xs : List ActT), readAll readA k l = some (xs, r) → readA r = none → k < m → readAll readA m l = none
 | 0, m, l, xs, h, h2, hm => by
  simp only [readAll, Option.some.injEq, Prod.mk.injEq] at h
  obtain ⟨rfl, rfl⟩ := h
  obtain ⟨m, rfl⟩ : ∃ j, m = j + 1 := ⟨m - 1, by omega⟩
  simp only [readAll, h2]
 | k + 1, m, l, xs, h, h2, hm => by
  obtain ⟨m, rfl⟩ : ∃ j, m = j + 1 := ⟨m - 1, by omega⟩
  rw [readAll] at h ⊢
  cases h1 : readA l with
  | none => rfl
  | some p =>
   obtain ⟨b, q⟩ := p; rw [h1] at h; simp only at h ⊢
   cases h3 : readAll readA k q with
   | none => rw [h3] at h; cases h
   | some p2 =>
    obtain ⟨l2, t⟩ := p2; rw [h3] at h; simp only [Option.some.injEq, Prod.mk.injEq] at h; obtain ⟨rfl, rfl⟩ := h; rw [readAll_stop k m q l2 h3 h2 (by omega)]
theorem readB_of {l r s : Bs} {n : Nat} {xs : List ActT} (h : readCount 4096 l = some (n, r)) (h2 : readAll readA n r = some (xs, s)) : readB l = if s = [] then (if goodF [] xs = true then some xs else none) else none := by
 unfold readCount at h
 unfold readB readList
 cases h1 : readNum l with
 | none => rw [h1] at h; cases h
 | some p =>
  obtain ⟨m, q⟩ := p
  rw [h1] at h
  simp only at h ⊢
  split at h
  next hm =>
   simp only [Option.some.injEq, Prod.mk.injEq] at h; obtain ⟨rfl, rfl⟩ := h; rw [if_pos hm, h2]
   cases s with
   | nil => rw [if_pos rfl]
   | cons x s => rw [if_neg (by simp)]
  · cases h
theorem readB_cnt {l : Bs} (h : readCount 4096 l = none) : readB l = none := by
 unfold readCount at h
 unfold readB readList
 cases h1 : readNum l with
 | none => rfl
 | some p =>
  obtain ⟨m, q⟩ := p
  rw [h1] at h
  simp only at h ⊢
  split at h
  · cases h
  next hm => simp [hm]
theorem readB_all {l r : Bs} {n : Nat} (h : readCount 4096 l = some (n, r)) (h2 : readAll readA n r = none) : readB l = none := by
 unfold readCount at h
 unfold readB readList
 cases h1 : readNum l with
 | none => rfl
 | some p =>
  obtain ⟨m, q⟩ := p
  rw [h1] at h
  simp only at h ⊢
  split at h
  next hm =>
   simp only [Option.some.injEq, Prod.mk.injEq] at h; obtain ⟨rfl, rfl⟩ := h; rw [if_pos hm, h2]
  · cases h
theorem wp_cellA {o : Oper} {a : Act} {w : World} {K : Act → World → Prop} {Q : Exit → Act → World → Prop} (x y : Operand) (g k : Nat) (cs : List Value) (ad : Option Addr) (n c : Nat) (tb : TypeId) (hk : k < cs.length) (hb : Blk w g cs tb) (ho : o.op = .store 22 x y) (hx : a.eval x = .pointer (some ⟨g, k, none⟩)) (hy : a.eval y = .slice ad n c)
 (h : ∀ w', Blk w' g (cs.set k (.slice ad n c)) tb → Only g w w' → K (a.put o.dst undef) w') : o.wp Tryz.prog a w K Q := by
 have hc : w.cell? ⟨g, k, none⟩ = some cs[k] := by rw [hb.cell, List.getElem?_eq_getElem hk]
 have hf : w.frozen? ⟨g, k, none⟩ = false := hb.frozen k
 have he : (execOp a.eval o).run Tryz.prog w = .ok .skip (w.setCell ⟨g, k, none⟩ (.slice ad n c)) := by
  clear h
  generalize a.eval = f at hx hy ⊢
  unfold execOp
  rw [ho]
  simp [go_sem, hx, hy, hc, hf]
 unfold Oper.wp
 rw [he, Oper.upon_skip]
 exact h _ (hb.set k _) (Only.setCell (Only.refl g w) k _)
theorem cnt_pos {l r : Bs} {m n : Nat} (h : readCount m l = some (n, r)) : 0 < l.length := by
 cases l with
 | nil => simp [readCount, readNum, decNum] at h
 | cons x l => simp
structure Rb (w : World) (H gl : Nat) (v0 : Value) (va v : Value) (ps : List (ActT × Value)) (r : Bs) (W : World) : Prop where
 rd : Rd W (H + 3) (H + 1) v r
 own : v.ownBlock = v0.ownBlock
 box : Blk W gl [va] 22
 lst : OwnA W (H + 4) va ps
 sz : w.heap.size = H + 4
 lt : gl < H
 size : w.heap.size ≤ W.heap.size
 os : W.os = w.os
 tape : W.tape = w.tape
 output : W.output = w.output
 fr : ∀ k, k < w.heap.size → k ≠ H + 1 → k ≠ gl → W.heap[k]? = w.heap[k]?
theorem Rb.new {w W W' : World} {H gl : Nat} {v0 va v : Value} {ps : List (ActT × Value)} {r : Bs} (h : Rb w H gl v0 va v ps r W) (hb : Below W.heap.size W W') : Rb w H gl v0 va v ps r W' :=
 ⟨h.rd.below hb, h.own, h.box.below hb h.box.lt, h.lst.same (fun k _ hk => hb.block k hk), h.sz, h.lt, Nat.le_trans h.size hb.size, hb.os.trans h.os, hb.tape.trans h.tape, hb.output.trans h.output, fun k hk h1 h2 => (hb.block k (Nat.lt_of_lt_of_le hk h.size)).trans (h.fr k hk h1 h2)⟩
theorem Rb.call {w W W' : World} {H gl : Nat} {v0 va v v' : Value} {ps : List (ActT × Value)} {r r' : Bs} (h : Rb w H gl v0 va v ps r W) (hr : Rd W' (H + 3) (H + 1) v' r') (ho : Only (H + 1) W W') (hv : v'.ownBlock = v.ownBlock) : Rb w H gl v0 va v' ps r' W' :=
 ⟨hr, hv.trans h.own, blk_same h.box (ho.block gl (by have := h.lt; omega) h.box.lt), h.lst.same (fun k h1 hk => ho.block k (by omega) hk), h.sz, h.lt, Nat.le_trans h.size ho.size, ho.os.trans h.os, ho.tape.trans h.tape, ho.output.trans h.output, fun k hk h1 h2 => (ho.block k h1 (Nat.lt_of_lt_of_le hk h.size)).trans (h.fr k hk h1 h2)⟩
theorem Rb.ownLt {w W : World} {H gl : Nat} {v0 va v : Value} {ps : List (ActT × Value)} {r : Bs} (h : Rb w H gl v0 va v ps r W) (h0 : ∀ k, v0.ownBlock = some k → k < H ∧ k ≠ gl) : ∀ k, v.ownBlock = some k → k < H ∧ k ≠ gl := fun k hk => h0 k (by rw [← h.own]; exact hk)
theorem Rb.put {w W W6 W' : World} {H gl : Nat} {v0 va va' v : Value} {ps : List (ActT × Value)} {p : ActT × Value} {r : Bs} (h : Rb w H gl v0 va v ps r W) (h0 : ∀ k, v0.ownBlock = some k → k < H ∧ k ≠ gl) (ho : OwnA W6 (H + 4) va' (ps ++ [p])) (hg : W.grownBy W6 va.ownBlock) (hb : Blk W' gl [va'] 22) (hon : Only gl W6 W') : Rb w H gl v0 va' v (ps ++ [p]) r W' := by
 have hlt := h.lst.lt
 have hsz := h.sz
 have hgl := h.lt
 have up : ∀ k, k < W.heap.size → k < H + 4 → k ≠ gl → W'.heap[k]? = W.heap[k]? := fun k hk h4 hne => (hon.block k hne (Nat.lt_of_lt_of_le hk hg.size)).trans (hg.block k hk (fun e => by have := (hlt k e.symm).1; omega))
 have hs : W.heap.size ≤ W'.heap.size := Nat.le_trans hg.size hon.size
 have hrl := h.rd.rd.lt
 have hil := h.rd.inp.lt
 refine ⟨⟨blk_same h.rd.rd (up _ hrl (by omega) (by omega)), blk_same h.rd.inp (up _ hil (by omega) (by omega)), ?_⟩, h.own, hb, ho.same (fun k h1 hk => hon.block k (by omega) hk), h.sz, h.lt, Nat.le_trans h.size hs, hon.os.trans (hg.os.trans h.os), hon.tape.trans (hg.tape.trans h.tape), hon.output.trans (hg.output.trans h.output), fun k hk h1 h2 => (up k (Nat.lt_of_lt_of_le hk h.size) (by omega) h2).trans (h.fr k hk h1 h2)⟩
 obtain ⟨ad, cap, rfl, h2, h3, h4⟩ := h.rd.byt
 refine ⟨ad, cap, rfl, h2, h3, fun hp => ?_⟩
 obtain ⟨b, off, rfl, h6⟩ := h4 hp
 have hbk := h.ownLt h0 b rfl
 refine ⟨b, off, rfl, fun j hj => ?_⟩
 have h7 := h6 j hj
 have hb2 : W'.heap[b]? = W.heap[b]? := up b (block_lt_of_cell h7) (by omega) hbk.2
 unfold World.cell? at h7 ⊢
 rw [hb2]
 exact h7
def RbA (w : World) (H gl : Nat) (l : Bs) (l2 : Bs) (W : World) : Prop := ∃ va v ps, Rb w H gl v va v ps l2 W ∧ readB l = (if l2 = [] then some (ps.map (·.1)) else none)
def RbB (w : World) (H gl : Nat) (l : Bs) (W : World) : Prop := readB l = none ∧ w.heap.size ≤ W.heap.size ∧ W.os = w.os ∧ W.tape = w.tape ∧ W.output = w.output ∧ ∀ k, k < w.heap.size → k ≠ H + 1 → k ≠ gl → W.heap[k]? = w.heap[k]?
theorem Rb.threw {w W W' : World} {H gl : Nat} {v0 va v : Value} {ps : List (ActT × Value)} {r l : Bs} {e : Ending} (h : Rb w H gl v0 va v ps r W) (hT : Threw (H + 1) W e W') (hn : readB l = none) : Does H (RbA w H gl l) (RbB w H gl l) w (thrown (H + 1)) W' := by
 obtain ⟨v', hb, ad, m, c, hv⟩ := hT.bad
 have up : ∀ k, k < w.heap.size → k ≠ H + 1 → k ≠ gl → W'.heap[k]? = w.heap[k]? := fun k hk h1 h2 => (hT.onl.block k h1 (Nat.lt_of_lt_of_le hk h.size)).trans (h.fr k hk h1 h2)
 have hsz := h.sz
 have hgl := h.lt
 exact ⟨Nat.le_trans h.size hT.onl.size, fun k h1 h2 h3 => up k (by omega) h3 (by omega), Or.inr ⟨rfl, ⟨v', ad, m, c, hv, hb⟩, hn, Nat.le_trans h.size hT.onl.size, hT.onl.os.trans h.os, hT.onl.tape.trans h.tape, hT.onl.output.trans h.output, up⟩⟩
theorem Rb.done {w W : World} {H gl : Nat} {v0 va v : Value} {ps : List (ActT × Value)} {r l : Bs} (h : Rb w H gl v0 va v ps r W) (hn : readB l = (if r = [] then some (ps.map (·.1)) else none)) : Does H (RbA w H gl l) (RbB w H gl l) w (.returned (.tuple #[])) W := by
 have hsz := h.sz
 have hgl := h.lt
 exact ⟨h.size, fun k h1 h2 h3 => h.fr k (by omega) h3 (by omega), Or.inl ⟨rfl, v, r, h.rd, va, v, ps, ⟨h.rd, rfl, h.box, h.lst, h.sz, h.lt, h.size, h.os, h.tape, h.output, h.fr⟩, hn⟩⟩
theorem sReadBatch1_any (H gl : Nat) (vb : Value) (l : Bs) (w : World) (hsz : w.heap.size = H + 4) (hgl : gl < H) (hbox : Blk w gl [.slice none 0 0] 22) (h0 : 0 < l.length → ∀ k, vb.ownBlock = some k → k < H ∧ k ≠ gl) (hrd : Rd w (H + 3) (H + 1) vb l) :
 Calls Tryz.prog 39 #[.pointer (some ⟨H + 3, 0, none⟩), .pointer (some ⟨gl, 0, none⟩)] w (Does H (RbA w H gl l) (RbB w H gl l) w) := by
 have HRB0 : Hid (Rb w H gl vb (.slice none 0 0) vb [] l w) := ⟨hrd, rfl, hbox, OwnA.nil _ _, hsz, hgl, Nat.le_refl _, rfl, rfl, rfl, fun _ _ _ _ => rfl⟩
 have HH0 : Hid (0 < l.length → ∀ k, vb.ownBlock = some k → k < H ∧ k ≠ gl) := h0
 have HCT : Hid (Calls Tryz.prog 40 #[.pointer (some ⟨H + 3, 0, none⟩), .int .i64 4096] w fun e w' => RdDoes (H + 3) (H + 1) vb w (readCount 4096 l) (fun a _ v => v = .int .i64 (a : Int)) e w') := ccount_any (H + 3) (H + 1) 4096 (by decide) vb l w hrd
 obtain ⟨gr, HGR⟩ := sqn (H + 3)
 rw [← HGR.out] at HCT ⊢
 clear hsz hgl hbox h0 hrd
 go_enter Tryz.func39, Tryz.ntmps39
 go_wp2_with fail
 refine HCT.out.mono ?_
 rintro e y1 (⟨n, r1, va1, vc1, hc, rfl, rfl, hrd, ho, hob⟩ | ⟨hc, hT⟩)
 case inr =>
  have HD : Hid (Does H (RbA w H gl l) (RbB w H gl l) w (thrown (H + 1)) y1) := HRB0.out.threw hT (readB_cnt hc)
  obtain rfl := hT.eq
  unfold thrown at HD ⊢
  clear hT
  go_wp2
  exact ⟨rfl, HD.out⟩
 have HC1 : Hid (readCount 4096 l = some (n, r1)) := hc
 have H00 : Hid (∀ k, vb.ownBlock = some k → k < H ∧ k ≠ gl) := HH0.out (cnt_pos hc)
 have HN1 : Hid (n ≤ 4096) := readCount_le hc
 have HRB1 : Hid (Rb w H gl vb (.slice none 0 0) vc1 [] r1 y1) := HRB0.out.call (by rw [HGR.out] at hrd; exact hrd) ho hob
 clear hc hrd ho hob HCT HRB0
 go_wp2
 go_loopw [5] (fun iv W => ∃ (i : Nat) (a0 : Option Addr) (c0 : Nat) (v : Value) (ps : List (ActT × Value)) (r : Bs), i ≤ n ∧ iv = .int .i64 (i : Int) ∧ Hid (ps.length = i) ∧ Hid (Rb w H gl vb (.slice a0 i c0) v ps r W) ∧ Hid (readAll readA i r1 = some (ps.map (·.1), r))) (fun iv _ => n - (intOf iv).toNat)
 case atStart => exact ⟨0, none, 0, vc1, [], r1, Nat.zero_le _, rfl, rfl, HRB1, rfl⟩
 case round =>
  clear HRB1
  obtain ⟨i, a0, c0, v, ps, r, hi, rfl, HPL, HRB, HAL⟩ := hrel
  by_cases hin : i < n
  case neg =>
   have hlk : ¬ ((i : Int) < (n : Int)) := by omega
   obtain rfl : i = n := by omega
   have q0 : wr.cell? ⟨gl, 0, none⟩ = some (.slice a0 i c0) := HRB.out.box.cell 0; have HCK : Hid (Calls Tryz.prog 11 #[.slice a0 i c0] wr fun e w' => e = .returned (.int .i64 (chkL (ps.map (·.1)))) ∧ Below wr.heap.size wr w') := sCheck_any _ _ _ HRB.out.lst.reads (by rw [List.length_map, HPL.out]; have := HN1.out; omega)
   have hof := readB_of HC1.out HAL.out; obtain ⟨X, HX⟩ := sqn (chkL (ps.map (·.1))); rw [← HX.out] at HCK; have HCF : Hid (∀ W, Rd W gr (H + 1) v r → Calls Tryz.prog 42 #[.pointer (some ⟨gr, 0, none⟩)] W fun e w' => Threw (H + 1) W e w') := fun W hW => (cfail_any gr (H + 1) v r W hW).mono (fun e w' h => by obtain ⟨rfl, rfl⟩ := h; exact hW.threw)
   rcases chkL_or (ps.map (·.1)) with h | h
   · have HGD : Hid (readB l = (if r = [] then some (ps.map (·.1)) else none)) := by show _ = _; rw [hof, if_pos (chkL_ok.1 h).2]
     obtain rfl : X = 0 := by rw [HX.out]; exact h
     clear h hof hi hin; have tk0 : Hid True := trivial
     go_wp2_with (first
      | (clear tk0; go_at_call 11; refine (HCK.out).mono ?_; rintro e0 y2 ⟨rfl, hz⟩
         replace HRB : Hid (Rb w H gl vb (.slice a0 i c0) v ps r y2) := HRB.out.new hz; clear hz q0))
     refine bodyPost_ret (results_none rfl _ _ _) rfl ?_; exact HRB.out.done HGD.out
   · have HBD : Hid (readB l = none) := by
      show _ = _; have hg : ¬ (goodF [] (ps.map (·.1)) = true) := fun hg => by rw [chkL_ok.2 ⟨by rw [List.length_map, HPL.out]; exact HN1.out, hg⟩] at h; cases h
      rw [hof, if_neg hg]
      split <;> rfl
     obtain rfl : X = 1 := by rw [HX.out]; exact h
     clear h hof hi hin; have tk0 : Hid True := trivial
     go_wp2_with (first
      | (clear tk0; go_at_call 11; refine (HCK.out).mono ?_; rintro e0 y2 ⟨rfl, hz⟩
         replace HRB : Hid (Rb w H gl vb (.slice a0 i c0) v ps r y2) := HRB.out.new hz; clear hz q0))
     refine (HCF.out _ (by rw [HGR.out]; exact HRB.out.rd)).mono ?_
     rintro e y3 hT; have HD : Hid (Does H (RbA w H gl l) (RbB w H gl l) w (thrown (H + 1)) y3) := HRB.out.threw hT HBD.out; obtain rfl := hT.eq; unfold thrown at HD ⊢; clear hT; go_wp2; exact ⟨rfl, HD.out⟩
  case pos =>
   have hlk : (i : Int) < (n : Int) := by omega
   have f1 : IntKind.i64.wrap ((i : Int) + 1) = (i : Int) + 1 := by rw [IntKind.wrap_i64]; have := HN1.out; omega
   have HIN : Hid (i < n) := hin
   go_wp2_with fail
   refine wp_region_held_drew (S := fun _ => True) (by kernel_rfl) trivial ?_
   intro hS; replace HRB : Hid (Rb w H gl vb (.slice a0 i c0) v ps r (World.drew wr)) := HRB.out.new (Below.refl _ _).drew
   change wpAnyH _ _ _ _ _ _ _ _ (World.drew wr)
   generalize World.drew wr = y2 at *
   refine tkc 1 (.pointer (some ⟨gr, 0, none⟩)) rfl hS ?_; simp only [Act.put, sq]; refine wpAnyH_pair 0 2 (by kernel_rfl) ?_ ?_
   · refine wpOp_vl 0 (.slice a0 i c0) y2 rfl (by rfl) (by have hc := HRB.out.box.cell 0; simp at hc; simp [go_sem, hc]) ⟨trivial, ?_⟩
     simp only [Act.put, sq]; refine wpAnyH_enterP 2 (by kernel_rfl) rfl (by rfl) (f := 41) (args := #[.pointer (some ⟨gr, 0, none⟩)]) (by simp [go_sem]) (sReadAct_any gr (H + 1) _ _ _ (by rw [HGR.out]; exact HRB.out.rd)) ?_
     rintro e z2 (⟨a, r2, va2, v2, hc, rfl, ⟨vd, rfl, hown⟩, hrd, ho, hob⟩ | ⟨hc, hT⟩)
     case inr =>
      have hd := HRB.out.threw hT (readB_all HC1.out (readAll_stop i n r1 _ HAL.out hc HIN.out)); obtain rfl := hT.eq; exact Or.inr ⟨_, rfl, rfl, hd⟩
     refine Or.inl ⟨_, rfl, trivial, ?_⟩; have HOD : Hid (OwnB z2 (H + 4) vd a.data) := hown.mono (by rw [← HRB.out.sz]; exact HRB.out.size)
     replace HRB := HRB.out.call (by rw [HGR.out] at hrd; exact hrd) ho hob
     replace HRB : Hid (Rb w H gl vb (.slice a0 i c0) v2 ps r2 z2) := HRB; have HAL2 : Hid (readAll readA (i + 1) r1 = some ((ps ++ [(a, vd)]).map (·.1), r2)) := by show _ = _; rw [List.map_append]; exact readAll_snoc i r1 _ HAL.out hc
     obtain ⟨av, nv, cv, hvd⟩ := hown.reads.form; subst hvd; obtain ⟨ks, HKS⟩ := sqn (strB a.key); obtain ⟨st, HST⟩ := sqn (a.set); have HCE : Hid (actC a (.slice av nv cv) = [.string ks, .bool st, .slice av nv cv]) := by show _ = _; rw [actC, HKS.out, HST.out]
     rw [HCE.out]; clear hown hrd ho hob hc; simp only [Act.put, sq]; refine wpAnyH_step 3 _ _ (by kernel_rfl) rfl (by rfl) (build_a1 _ _ (.tmp 9) ks st av nv cv rfl rfl _) trivial ?_
     obtain ⟨g10, z3, e3, e3w, n3⟩ : ∃ g y, g = z2.heap.size ∧ y = z2.alloc (.cells [.string ks, .bool st, .slice av nv cv].toArray 62) ∧ NewR [.string ks, .bool st, .slice av nv cv] 62 z2 g y := ⟨_, _, rfl, rfl, NewR.of _ _ _⟩; rw [← e3w, ← e3]; clear e3 e3w; have HB10 : Hid (Blk z3 g10 (actC a (.slice av nv cv)) 62) := by rw [HCE.out]; exact n3.blk
     have HNE : Hid ((Value.slice a0 i c0).ownBlock ≠ some g10) := fun e => by have h1 := (HRB.out.lst.lt g10 e).2; have h2 := n3.ge; omega
     replace HOD : Hid (OwnB z3 (H + 4) (.slice av nv cv) a.data) := HOD.out.newS n3.below; replace HRB : Hid (Rb w H gl vb (.slice a0 i c0) v2 ps r2 z3) := HRB.out.new n3.below; clear n3; simp only [Act.put, sq]; refine wpAnyH_law 4 (by kernel_rfl) rfl (by rfl) (wp_appendA (.tmp 7) (.tmp 10) (H + 4) (.slice a0 i c0) ps (a, .slice av nv cv) g10 HRB.out.lst HB10.out HNE.out HOD.out (by rw [HPL.out]; have h1 := HN1.out; have h2 := HIN.out; omega) (by rw [← HRB.out.sz]; exact HRB.out.size) rfl rfl rfl ?_)
     intro v4 z4 ho4 hg4; refine ⟨trivial, ?_⟩; obtain ⟨a4, c4, hv4⟩ := ho4.form; rw [List.length_append, HPL.out] at hv4; replace hv4 : v4 = .slice a4 (i + 1) c4 := hv4; subst hv4; have HBX : Hid (Blk z4 gl [.slice a0 i c0] 22) := blk_same HRB.out.box (hg4.block gl HRB.out.box.lt (fun e => by have h1 := (HRB.out.lst.lt gl e.symm).1; have h2 := HRB.out.lt; omega))
     simp only [Act.put, sq]; refine wpAnyH_law 5 (by kernel_rfl) rfl (by rfl) (wp_cellA (.tmp 1) (.tmp 11) gl 0 [.slice a0 i c0] a4 (i + 1) c4 22 (by simp) HBX.out rfl rfl rfl ?_)
     intro z5 hb5 ho5; refine ⟨trivial, ?_⟩; have HRB5 : Hid (Rb w H gl vb (.slice a4 (i + 1) c4) v2 (ps ++ [(a, .slice av nv cv)]) r2 z5) := HRB.out.put H00.out ho4 hg4 hb5 ho5; have HPL5 : Hid ((ps ++ [(a, Value.slice av nv cv)]).length = i + 1) := by show _ = _; rw [List.length_append, HPL.out]; rfl
     clear ho4 hg4 hb5 ho5; simp only [Act.put, sq]; refine wpAnyH_done (by kernel_rfl) ?_ _
     go_wp2; go_roundw
     case rel => exact ⟨i + 1, a4, c4, v2, ps ++ [(a, .slice av nv cv)], r2, by omega, by simp, HPL5, HRB5, HAL2⟩
     case measure => simp [intOf]; omega
   · refine wpOp_enterP 2 rfl (by rfl) (f := 41) (args := #[.pointer (some ⟨gr, 0, none⟩)]) (by simp [go_sem]) (sReadAct_any gr (H + 1) _ _ _ (by rw [HGR.out]; exact HRB.out.rd)) ?_
     rintro e z2 (⟨a, r2, va2, v2, hc, rfl, ⟨vd, rfl, hown⟩, hrd, ho, hob⟩ | ⟨hc, hT⟩)
     case inr =>
      have hd := HRB.out.threw hT (readB_all HC1.out (readAll_stop i n r1 _ HAL.out hc HIN.out)); obtain rfl := hT.eq; exact Or.inr ⟨_, rfl, rfl, hd⟩
     refine Or.inl ⟨_, rfl, trivial, ?_⟩; have HOD : Hid (OwnB z2 (H + 4) vd a.data) := hown.mono (by rw [← HRB.out.sz]; exact HRB.out.size)
     replace HRB := HRB.out.call (by rw [HGR.out] at hrd; exact hrd) ho hob
     replace HRB : Hid (Rb w H gl vb (.slice a0 i c0) v2 ps r2 z2) := HRB; have HAL2 : Hid (readAll readA (i + 1) r1 = some ((ps ++ [(a, vd)]).map (·.1), r2)) := by show _ = _; rw [List.map_append]; exact readAll_snoc i r1 _ HAL.out hc
     obtain ⟨av, nv, cv, hvd⟩ := hown.reads.form; subst hvd; obtain ⟨ks, HKS⟩ := sqn (strB a.key); obtain ⟨st, HST⟩ := sqn (a.set); have HCE : Hid (actC a (.slice av nv cv) = [.string ks, .bool st, .slice av nv cv]) := by show _ = _; rw [actC, HKS.out, HST.out]
     rw [HCE.out]; clear hown hrd ho hob hc; simp only [Act.put, sq]; refine wpAnyH_pair 0 3 (by kernel_rfl) ?_ ?_
     · refine wpOp_vl 0 (.slice a0 i c0) z2 rfl (by rfl) (by have hc := HRB.out.box.cell 0; simp at hc; simp [go_sem, hc]) ⟨trivial, ?_⟩
       simp only [Act.put, sq]; refine wpAnyH_step 3 _ _ (by kernel_rfl) rfl (by rfl) (build_a1 _ _ (.tmp 9) ks st av nv cv rfl rfl _) trivial ?_
       obtain ⟨g10, z3, e3, e3w, n3⟩ : ∃ g y, g = z2.heap.size ∧ y = z2.alloc (.cells [.string ks, .bool st, .slice av nv cv].toArray 62) ∧ NewR [.string ks, .bool st, .slice av nv cv] 62 z2 g y := ⟨_, _, rfl, rfl, NewR.of _ _ _⟩; rw [← e3w, ← e3]; clear e3 e3w; have HB10 : Hid (Blk z3 g10 (actC a (.slice av nv cv)) 62) := by rw [HCE.out]; exact n3.blk
       have HNE : Hid ((Value.slice a0 i c0).ownBlock ≠ some g10) := fun e => by have h1 := (HRB.out.lst.lt g10 e).2; have h2 := n3.ge; omega
       replace HOD : Hid (OwnB z3 (H + 4) (.slice av nv cv) a.data) := HOD.out.newS n3.below; replace HRB : Hid (Rb w H gl vb (.slice a0 i c0) v2 ps r2 z3) := HRB.out.new n3.below; clear n3; simp only [Act.put, sq]; refine wpAnyH_law 4 (by kernel_rfl) rfl (by rfl) (wp_appendA (.tmp 7) (.tmp 10) (H + 4) (.slice a0 i c0) ps (a, .slice av nv cv) g10 HRB.out.lst HB10.out HNE.out HOD.out (by rw [HPL.out]; have h1 := HN1.out; have h2 := HIN.out; omega) (by rw [← HRB.out.sz]; exact HRB.out.size) rfl rfl rfl ?_)
       intro v4 z4 ho4 hg4; refine ⟨trivial, ?_⟩; obtain ⟨a4, c4, hv4⟩ := ho4.form; rw [List.length_append, HPL.out] at hv4; replace hv4 : v4 = .slice a4 (i + 1) c4 := hv4; subst hv4; have HBX : Hid (Blk z4 gl [.slice a0 i c0] 22) := blk_same HRB.out.box (hg4.block gl HRB.out.box.lt (fun e => by have h1 := (HRB.out.lst.lt gl e.symm).1; have h2 := HRB.out.lt; omega))
       simp only [Act.put, sq]; refine wpAnyH_law 5 (by kernel_rfl) rfl (by rfl) (wp_cellA (.tmp 1) (.tmp 11) gl 0 [.slice a0 i c0] a4 (i + 1) c4 22 (by simp) HBX.out rfl rfl rfl ?_)
       intro z5 hb5 ho5; refine ⟨trivial, ?_⟩; have HRB5 : Hid (Rb w H gl vb (.slice a4 (i + 1) c4) v2 (ps ++ [(a, .slice av nv cv)]) r2 z5) := HRB.out.put H00.out ho4 hg4 hb5 ho5; have HPL5 : Hid ((ps ++ [(a, Value.slice av nv cv)]).length = i + 1) := by show _ = _; rw [List.length_append, HPL.out]; rfl
       clear ho4 hg4 hb5 ho5; simp only [Act.put, sq]; refine wpAnyH_done (by kernel_rfl) ?_ _
       go_wp2; go_roundw
       case rel => exact ⟨i + 1, a4, c4, v2, ps ++ [(a, .slice av nv cv)], r2, by omega, by simp, HPL5, HRB5, HAL2⟩
       case measure => simp [intOf]; omega
     · refine wpOp_vl 3 _ _ rfl (by rfl) (build_a1 _ _ (.tmp 9) ks st av nv cv rfl rfl _) ⟨trivial, ?_⟩
       obtain ⟨g10, z3, e3, e3w, n3⟩ : ∃ g y, g = z2.heap.size ∧ y = z2.alloc (.cells [.string ks, .bool st, .slice av nv cv].toArray 62) ∧ NewR [.string ks, .bool st, .slice av nv cv] 62 z2 g y := ⟨_, _, rfl, rfl, NewR.of _ _ _⟩; rw [← e3w, ← e3]; clear e3 e3w; have HB10 : Hid (Blk z3 g10 (actC a (.slice av nv cv)) 62) := by rw [HCE.out]; exact n3.blk
       have HNE : Hid ((Value.slice a0 i c0).ownBlock ≠ some g10) := fun e => by have h1 := (HRB.out.lst.lt g10 e).2; have h2 := n3.ge; omega
       replace HOD : Hid (OwnB z3 (H + 4) (.slice av nv cv) a.data) := HOD.out.newS n3.below; replace HRB : Hid (Rb w H gl vb (.slice a0 i c0) v2 ps r2 z3) := HRB.out.new n3.below; clear n3; simp only [Act.put, sq]; refine wpAnyH_step 0 (.slice a0 i c0) z3 (by kernel_rfl) rfl (by rfl) (by have hc := HRB.out.box.cell 0; simp at hc; simp [go_sem, hc]) trivial ?_
       simp only [Act.put, sq]; refine wpAnyH_law 4 (by kernel_rfl) rfl (by rfl) (wp_appendA (.tmp 7) (.tmp 10) (H + 4) (.slice a0 i c0) ps (a, .slice av nv cv) g10 HRB.out.lst HB10.out HNE.out HOD.out (by rw [HPL.out]; have h1 := HN1.out; have h2 := HIN.out; omega) (by rw [← HRB.out.sz]; exact HRB.out.size) rfl rfl rfl ?_)
       intro v4 z4 ho4 hg4; refine ⟨trivial, ?_⟩; obtain ⟨a4, c4, hv4⟩ := ho4.form; rw [List.length_append, HPL.out] at hv4; replace hv4 : v4 = .slice a4 (i + 1) c4 := hv4; subst hv4; have HBX : Hid (Blk z4 gl [.slice a0 i c0] 22) := blk_same HRB.out.box (hg4.block gl HRB.out.box.lt (fun e => by have h1 := (HRB.out.lst.lt gl e.symm).1; have h2 := HRB.out.lt; omega))
       simp only [Act.put, sq]; refine wpAnyH_law 5 (by kernel_rfl) rfl (by rfl) (wp_cellA (.tmp 1) (.tmp 11) gl 0 [.slice a0 i c0] a4 (i + 1) c4 22 (by simp) HBX.out rfl rfl rfl ?_)
       intro z5 hb5 ho5; refine ⟨trivial, ?_⟩; have HRB5 : Hid (Rb w H gl vb (.slice a4 (i + 1) c4) v2 (ps ++ [(a, .slice av nv cv)]) r2 z5) := HRB.out.put H00.out ho4 hg4 hb5 ho5; have HPL5 : Hid ((ps ++ [(a, Value.slice av nv cv)]).length = i + 1) := by show _ = _; rw [List.length_append, HPL.out]; rfl
       clear ho4 hg4 hb5 ho5; simp only [Act.put, sq]; refine wpAnyH_done (by kernel_rfl) ?_ _
       go_wp2; go_roundw
       case rel => exact ⟨i + 1, a4, c4, v2, ps ++ [(a, .slice av nv cv)], r2, by omega, by simp, HPL5, HRB5, HAL2⟩
       case measure => simp [intOf]; omega
theorem doesMono15 {H : Nat} {A A' : List (BitVec 8) → World → Prop} {B B' : World → Prop} {w1 w2 : World} {e : Ending} (h : Does H A B w1 e w2) (ha : ∀ l, A l w2 → A' l w2) (hb : B w2 → B' w2) : Does H A' B' w1 e w2 :=
 ⟨h.size, h.kept, h.way.elim (fun ⟨h1, v2, l2, h2, h3⟩ => Or.inl ⟨h1, v2, l2, h2, ha l2 h3⟩) (fun ⟨h1, h2, h3⟩ => Or.inr ⟨h1, h2, hb h3⟩)⟩
theorem enters_rb : ∀ xs w, (callFunc 39 xs).run Tryz.prog w = .ok (.enter 39 xs) w := enters_of Tryz.func39 (by kernel_rfl) rfl
def BtR (w : World) (b : Bs) (e : Ending) (w' : World) : Prop :=
 Below w.heap.size w w' ∧ ((∃ va ps, readB b = some (ps.map (·.1)) ∧ e = .returned (.tuple #[va, .int .i64 0]) ∧ OwnA w' w.heap.size va ps) ∨ (readB b = none ∧ e = .returned (.tuple #[.slice none 0 0, .int .i64 3])))
theorem OwnA.mono {W : World} {base B : Nat} {v : Value} {ps : List (ActT × Value)} (h : OwnA W base v ps) (hB : B ≤ base) : OwnA W B v ps := by
 refine ⟨?_, fun p hp => (h.dat p hp).mono hB⟩
 obtain ⟨h1, h2⟩ := h.row
 refine ⟨h1, h2.imp id ?_⟩
 rintro ⟨g, cap, cur, e, hg, r⟩
 exact ⟨g, cap, cur, e, Nat.le_trans hB hg, r⟩
structure Rz (w : World) (gl : Nat) (b : Bs) (en : Int) (w' : World) : Prop where
 bel : Below w.heap.size w w'
 out : (en = 0 ∧ ∃ va ps, readB b = some (ps.map (·.1)) ∧ Blk w' gl [va] 22 ∧ OwnA w' w.heap.size va ps) ∨ (en = 3 ∧ readB b = none)
theorem rb_read (vb : Value) (b : Bs) (gl : Nat) (w y1 : World) (hb : Below w.heap.size w y1) (hr : Reads w vb b) (hg : Blk y1 gl [.slice none 0 0] 22) (hge : w.heap.size ≤ gl) :
 Calls Tryz.prog 38 #[vb, .func (.func 39) #[] #[.pointer (some ⟨gl, 0, none⟩)]] y1 fun e w' => ∃ en : Int, e = .returned (.int .i64 en) ∧ Rz w gl b en w' := by
 obtain ⟨H, eH⟩ : ∃ H, H = y1.heap.size := ⟨_, rfl⟩
 have hgl : gl < H := by rw [eH]; exact hg.lt
 have hz : w.heap.size ≤ H := by omega
 have h := read_any 39 #[.pointer (some ⟨gl, 0, none⟩)] vb b (fun l2 W => ∃ w1 : World, w1.heap.size = H + 4 ∧ Below H y1 w1 ∧ RbA w1 H gl b l2 W) (fun W => ∃ w1 : World, w1.heap.size = H + 4 ∧ Below H y1 w1 ∧ RbB w1 H gl b W) y1 (hr.below hb) enters_rb (fun w1 h1 h2 h3 => by
  rw [← eH] at h1 h2 h3 ⊢
  have hbx : Blk w1 gl [.slice none 0 0] 22 := hg.below (by rw [← eH]; exact h2) hg.lt
  exact (sReadBatch1_any H gl vb b w1 h1 hgl hbx (fun hp k hk => by have := reads_in hr hp k hk; omega) h3).mono (fun e w' hd => doesMono15 hd (fun l hl => ⟨w1, h1, h2, hl⟩) (fun hl => ⟨w1, h1, h2, hl⟩)))
 rw [← eH] at h
 refine h.mono (fun e w' hh => ?_)
 obtain ⟨w2, hpast, hh⟩ := hh
 have hlow : ∀ w1 : World, w1.heap.size = H + 4 → Below H y1 w1 → w1.heap.size ≤ w2.heap.size → w2.os = w1.os → w2.tape = w1.tape → w2.output = w1.output → (∀ k, k < w1.heap.size → k ≠ H + 1 → k ≠ gl → w2.heap[k]? = w1.heap[k]?) → Below w.heap.size w w' := fun w1 s1 b1 s2 o1 o2 o3 f1 => by
  refine ⟨hpast.os.trans (o1.trans (b1.os.trans hb.os)), hpast.tape.trans (o2.trans (b1.tape.trans hb.tape)), hpast.output.trans (o3.trans (b1.output.trans hb.output)), by rw [hpast.size]; omega, fun k hk => ?_⟩
  rw [hpast.block k (Or.inl (by omega)), f1 k (by omega) (by omega) (by omega), b1.block k (by omega), hb.block k hk]
 rcases hh with ⟨l2, ⟨w1, s1, b1, va, v, ps, hrb, hread⟩, rfl⟩ | ⟨⟨w1, s1, b1, hn, s2, o1, o2, o3, f1⟩, rfl⟩
 · have hB := hlow w1 s1 b1 hrb.size hrb.os hrb.tape hrb.output hrb.fr
   by_cases hl : l2 = []
   · rw [if_pos hl] at hread ⊢
     refine ⟨0, rfl, hB, Or.inl ⟨rfl, va, ps, hread, ?_, ?_⟩⟩
     · exact blk_same hrb.box (hpast.block gl (Or.inl hgl))
     · exact (hrb.lst.same (fun k h1 _ => hpast.block k (Or.inr h1))).mono (by omega)
   · rw [if_neg hl] at hread ⊢
     exact ⟨3, rfl, hB, Or.inr ⟨rfl, hread⟩⟩
 · exact ⟨3, rfl, hlow w1 s1 b1 s2 o1 o2 o3 f1, Or.inr ⟨rfl, hn⟩⟩
theorem alloc_acts (f : Operand → Value) (o : Oper) (ho : o.op = .alloc 22) (w : World) : (execOp f o).run Tryz.prog w = .ok (.value (.pointer (some ⟨w.heap.size, 0, none⟩))) (w.alloc (.cells [Value.slice none 0 0].toArray 22)) := by
 unfold execOp
 rw [ho]
 kernel_rfl
theorem wpSeq_allocAs {ops : Array Oper} {Q : Exit → Act → World → Prop} {rest : List Oper} {o : Oper} {a : Act} {w : World} (ho : o.op = .alloc 22) (hw : Region.wanted o (yielded ops a.tmps) = true)
 (h : ∀ g w', NewR [.slice none 0 0] 22 w g w' → wpList Tryz.prog ops Q rest (a.put o.dst (.pointer (some ⟨g, 0, none⟩))) w') : wpList Tryz.prog ops Q (o :: rest) a w :=
 wpSeq_val _ _ hw (alloc_acts _ _ ho _) (h _ _ (NewR.of _ _ w))
theorem sReadBatch_any (vb : Value) (b : Bs) (w : World) (hr : Reads w vb b) : Calls Tryz.prog 12 #[vb] w fun e w' => BtR w b e w' := by
 have hmf : ∀ (fn : Fn) (first cap : Array Value) (w : World), (Instr.makeFunc fn first cap).run Tryz.prog w = .ok (.func fn first cap) w := fun _ _ _ _ => rfl
 have HR : Hid (Reads w vb b) := hr
 obtain ⟨ad, n, c, hv⟩ := hr.form
 subst hv
 clear hr
 go_enter Tryz.func12, Tryz.ntmps12
 obtain ⟨tk0, tk1⟩ := sqk2
 go_wp2_with (first
  | (clear tk0; with_reducible refine wpSeq_allocAs ?_ ?_ ?_
     · rfl
     · rfl
     intro gl y1 nn; have HG : Hid (Blk y1 gl [.slice none 0 0] 22 ∧ w.heap.size ≤ gl) := ⟨nn.blk, nn.ge⟩; have HB1 : Hid (Below w.heap.size w y1) := nn.below; have HCR : Hid (Calls Tryz.prog 38 #[.slice ad n c, .func (.func 39) #[] #[.pointer (some ⟨gl, 0, none⟩)]] y1 fun e w' => ∃ en : Int, e = .returned (.int .i64 en) ∧ Rz w gl b en w') := rb_read (.slice ad n c) b gl w y1 nn.below HR.out nn.blk nn.ge
     clear nn)
  | (clear tk1; go_at_call 38; refine (HCR.out).mono ?_; rintro e0 y2 ⟨en, rfl, hz⟩
     have HRZ : Hid (Rz w gl b en y2) := hz; clear hz
     rcases HRZ.out.out with ⟨h1, va, ps, h2, h3, h4⟩ | ⟨h1, h2⟩
     all_goals (first
      | (have HP : Hid (readB b = some (ps.map (·.1)) ∧ OwnA y2 w.heap.size va ps) := ⟨h2, h4⟩
         have q1 : y2.cell? ⟨gl, 0, none⟩ = some va := h3.cell 0; obtain ⟨a2, c2, hv2⟩ := h4.form; subst hv2; subst h1; clear h2 h3 h4)
      | (have HN : Hid (readB b = none) := h2
         subst h1; clear h2))))
 · refine bodyPost_ret (results_tmp2 rfl _ _ _) rfl ?_
   exact ⟨HRZ.out.bel, Or.inl ⟨_, ps, HP.out.1, rfl, HP.out.2⟩⟩
 · refine bodyPost_ret (results_tmp2 rfl _ _ _) rfl ?_
   exact ⟨HRZ.out.bel, Or.inr ⟨HN.out, rfl⟩⟩
theorem act_ext (a b : ActT) : (a.key = b.key ∧ a.set = b.set ∧ a.data = b.data) ↔ a = b := by
 constructor
 · intro h
   cases a
   cases b
   obtain ⟨h1, h2, h3⟩ := h; simp only at h1 h2 h3; rw [h1, h2, h3]
 · intro h
   rw [h]; exact ⟨rfl, rfl, rfl⟩
instance : DecidableEq ActT := fun a b => decidable_of_iff _ (act_ext a b)
theorem acts_step {a b : List ActT} {i : Nat} (ha : i < a.length) (hb : i < b.length) (h : a.take i = b.take i) (he : a.getD i ⟨[], false, []⟩ = b.getD i ⟨[], false, []⟩) : a.take (i + 1) = b.take (i + 1) := by
 rw [take_act ha, take_act hb, h, he]
theorem acts_ne {a b : List ActT} (i : Nat) (h : a.getD i ⟨[], false, []⟩ ≠ b.getD i ⟨[], false, []⟩) : decide (a = b) = false := decide_eq_false (fun he => h (by rw [he]))
theorem oSameActs_any (va vb : Value) (la lb : List ActT) (w : World) (ha : ReadsA w va la) (hb : ReadsA w vb lb) (hl : la.length < 4611686018427387904) : Calls Tryz.prog 15 #[va, vb] w fun e w' => e = .returned (.bool (decide (la = lb))) ∧ Below w.heap.size w w' := by
 have HR : Hid (ReadsA w va la) := ha
 have HR2 : Hid (ReadsA w vb lb) := hb
 obtain ⟨ad, c, hv⟩ := ha.form
 obtain ⟨ad2, c2, hv2⟩ := hb.form
 obtain ⟨n, HN⟩ := sqn (la.length)
 obtain ⟨n2, HN2⟩ := sqn (lb.length)
 rw [← HN.out] at hv hl
 rw [← HN2.out] at hv2
 subst hv hv2
 clear ha hb
 obtain ⟨X, HXX⟩ := sqn (decide (la = lb))
 rw [← HXX.out]
 by_cases hnn : n = n2
 case neg =>
  have q1 : ¬ ((n : Int) = (n2 : Int)) := by omega
  obtain rfl : X = false := by rw [HXX.out]; exact decide_eq_false (fun h => hnn (by rw [HN.out, HN2.out, h]))
  clear hnn
  go_enter Tryz.func15, Tryz.ntmps15
  go_wp2
  go_ret
  exact ⟨rfl, Below.refl _ _⟩
 subst hnn
 have HNL : Hid (n < 4611686018427387904) := hl
 clear hl
 go_enter Tryz.func15, Tryz.ntmps15
 go_wp2
 go_loopw [5] (fun iv W => ∃ i : Nat, i ≤ n ∧ iv = .int .i64 (i : Int) ∧ Hid (la.take i = lb.take i) ∧ Hid (Below w.heap.size w W)) (fun iv _ => n - (intOf iv).toNat)
 case atStart => exact ⟨0, Nat.zero_le _, rfl, rfl, Below.refl _ _⟩
 case round =>
  obtain ⟨i, hi, rfl, HE, HBB⟩ := hrel
  by_cases hin : i < n
  case neg =>
   have hlk : ¬ ((i : Int) < (n : Int)) := by omega
   obtain rfl : X = true := by
    have h := HE.out; rw [List.take_of_length_le (by rw [← HN.out]; omega), List.take_of_length_le (by rw [← HN2.out]; omega)] at h
    rw [HXX.out]; exact decide_eq_true h
   go_wp2; go_ret; exact ⟨rfl, HBB.out⟩
  case pos =>
   have hlk : (i : Int) < (n : Int) := by omega
   have f1 : IntKind.i64.wrap ((i : Int) + 1) = (i : Int) + 1 := by rw [IntKind.wrap_i64]; have := HNL.out; omega
   have HIN : Hid (i < n) := hin; have hia : i < la.length := by rw [← HN.out]; exact hin
   have hib : i < lb.length := by rw [← HN2.out]; exact hin
   obtain ⟨b, off, vd, rfl, hrg, hrd⟩ := (HR.out.below HBB.out).at hia; obtain ⟨b2, off2, vd2, rfl, hrg2, hrd2⟩ := (HR2.out.below HBB.out).at hib; have HSTEP := acts_step hia hib HE.out; have HNO := acts_ne (a := la) (b := lb) i; obtain ⟨x, HX⟩ : ∃ a, Hid (a = la.getD i ⟨[], false, []⟩) := ⟨_, rfl⟩; obtain ⟨y, HY⟩ : ∃ a, Hid (a = lb.getD i ⟨[], false, []⟩) := ⟨_, rfl⟩; rw [← HX.out] at hrg hrd HSTEP HNO; rw [← HY.out] at hrg2 hrd2 HSTEP HNO; replace HSTEP : Hid (x = y → la.take (i + 1) = lb.take (i + 1)) := HSTEP; replace HNO : Hid (x ≠ y → decide (la = lb) = false) := HNO; have HRD : Hid (Reads wr vd x.data) := hrd; have HRD2 : Hid (Reads wr vd2 y.data) := hrd2; obtain ⟨ks, HKS⟩ := sqn (strB x.key); obtain ⟨ks2, HKS2⟩ := sqn (strB y.key); obtain ⟨st, HST⟩ := sqn (x.set); obtain ⟨st2, HST2⟩ := sqn (y.set); have HKQ : Hid ((!(ks.toList == ks2.toList)) = !decide (x.key = y.key)) := by show _ = _; rw [HKS.out, HKS2.out, strB_inj]
   have HA0 : Hid (wr.cell? ⟨b, off + i * 3, none⟩ = some (.string ks)) := by rw [HKS.out]; exact hrg 0 _ rfl
   have HA1 : Hid (wr.cell? ⟨b, off + i * 3 + 1, none⟩ = some (.bool st)) := by rw [HST.out]; exact hrg 1 _ rfl
   have HA2 : Hid (wr.cell? ⟨b, off + i * 3 + 2, none⟩ = some vd) := hrg 2 _ rfl; have HB0 : Hid (wr.cell? ⟨b2, off2 + i * 3, none⟩ = some (.string ks2)) := by rw [HKS2.out]; exact hrg2 0 _ rfl
   have HB1 : Hid (wr.cell? ⟨b2, off2 + i * 3 + 1, none⟩ = some (.bool st2)) := by rw [HST2.out]; exact hrg2 1 _ rfl
   have HB2 : Hid (wr.cell? ⟨b2, off2 + i * 3 + 2, none⟩ = some vd2) := hrg2 2 _ rfl; clear hrg hrg2 hrd hrd2
   go_wp2_with fail
   refine wp_region_held_drew (S := Over (World.drew wr)) (by kernel_rfl) (Over.refl _) ?_
   intro hS; replace HA0 : Hid ((World.drew wr).cell? ⟨b, off + i * 3, none⟩ = some (.string ks)) := HA0.out; replace HA1 : Hid ((World.drew wr).cell? ⟨b, off + i * 3 + 1, none⟩ = some (.bool st)) := HA1.out; replace HA2 : Hid ((World.drew wr).cell? ⟨b, off + i * 3 + 2, none⟩ = some vd) := HA2.out; replace HB0 : Hid ((World.drew wr).cell? ⟨b2, off2 + i * 3, none⟩ = some (.string ks2)) := HB0.out; replace HB1 : Hid ((World.drew wr).cell? ⟨b2, off2 + i * 3 + 1, none⟩ = some (.bool st2)) := HB1.out; replace HB2 : Hid ((World.drew wr).cell? ⟨b2, off2 + i * 3 + 2, none⟩ = some vd2) := HB2.out; replace HRD : Hid (Reads (World.drew wr) vd x.data) := HRD.out; replace HRD2 : Hid (Reads (World.drew wr) vd2 y.data) := HRD2.out; replace HBB : Hid (Below w.heap.size w (World.drew wr)) := HBB.out.drew
   change wpAnyH _ _ _ _ _ _ _ _ (World.drew wr)
   generalize World.drew wr = y1 at *
   refine tkc 0 (.slice (some ⟨b, off, none⟩) n c) rfl hS ?_; simp only [Act.put, sq]; refine tkc 1 (.int .i64 (i : Int)) rfl hS ?_; simp only [Act.put, sq]; refine tka 2 (.pointer (some ⟨b, off + i * 3, none⟩)) rfl (fun wx hx => by exact idxA b off n c i HIN.out _ _ _ _ rfl rfl rfl _) hS ?_
   simp only [Act.put, sq]; refine tkc 3 (.pointer (some ⟨b, off + i * 3, none⟩)) rfl hS ?_; simp only [Act.put, sq]; refine tka 4 (.string ks) rfl (fun wx hx => by (have hc := below_cell hx HA0.out; simp [go_sem, hc])) hS ?_
   simp only [Act.put, sq]; refine tkc 5 (.slice (some ⟨b2, off2, none⟩) n c2) rfl hS ?_; simp only [Act.put, sq]; refine tkc 6 (.int .i64 (i : Int)) rfl hS ?_; simp only [Act.put, sq]; refine tka 7 (.pointer (some ⟨b2, off2 + i * 3, none⟩)) rfl (fun wx hx => by exact idxA b2 off2 n c2 i HIN.out _ _ _ _ rfl rfl rfl _) hS ?_
   simp only [Act.put, sq]; refine tkc 8 (.pointer (some ⟨b2, off2 + i * 3, none⟩)) rfl hS ?_; simp only [Act.put, sq]; refine tka 9 (.string ks2) rfl (fun wx hx => by (have hc := below_cell hx HB0.out; simp [go_sem, hc])) hS ?_
   simp only [Act.put, sq]
   by_cases hk : x.key = y.key
   case neg =>
    have HKN : Hid ((!(ks.toList == ks2.toList)) = true) := by show _ = _; rw [HKQ.out, decide_eq_false hk]; rfl
    obtain rfl : X = false := by rw [HXX.out]; exact HNO.out (fun h => hk (by rw [h]))
    refine tka 10 (.bool true) rfl (fun wx hx => by exact run_strOp .neq ks ks2 _ HKN.out (Or.inr (Or.inr (Or.inr rfl))) _ _ _ _ rfl rfl rfl _) hS ?_
    simp only [Act.put, sq]; refine tkc 11 (.bool true) rfl hS ?_; simp only [Act.put, sq]; refine tkb 12 rfl hS ?_; simp only [Act.put, sq]; refine tkb 13 rfl hS ?_; simp only [Act.put, sq]; refine tkb 14 rfl hS ?_; simp only [Act.put, sq]; refine tkb 15 rfl hS ?_; simp only [Act.put, sq]; refine tkb 16 rfl hS ?_; simp only [Act.put, sq]; refine tkb 17 rfl hS ?_; simp only [Act.put, sq]; refine tkb 18 rfl hS ?_; simp only [Act.put, sq]; refine tkb 19 rfl hS ?_; simp only [Act.put, sq]; refine tkb 20 rfl hS ?_; simp only [Act.put, sq]; refine tkb 21 rfl hS ?_; simp only [Act.put, sq]; refine tkb 22 rfl hS ?_; simp only [Act.put, sq]; refine tkc 23 (.bool true) rfl hS ?_; simp only [Act.put, sq]; refine tkc 24 (.bool true) rfl hS ?_; simp only [Act.put, sq]; refine tkb 25 rfl hS ?_; simp only [Act.put, sq]; refine tkb 26 rfl hS ?_; simp only [Act.put, sq]; refine tkb 27 rfl hS ?_; simp only [Act.put, sq]; refine tkb 28 rfl hS ?_; simp only [Act.put, sq]; refine tkb 29 rfl hS ?_; simp only [Act.put, sq]; refine tkb 30 rfl hS ?_; simp only [Act.put, sq]; refine tkb 31 rfl hS ?_; simp only [Act.put, sq]; refine tkb 32 rfl hS ?_; simp only [Act.put, sq]; refine tkb 33 rfl hS ?_; simp only [Act.put, sq]; refine tkb 34 rfl hS ?_; simp only [Act.put, sq]; refine tkb 35 rfl hS ?_; simp only [Act.put, sq]; refine tkb 36 rfl hS ?_; simp only [Act.put, sq]; refine tkc 37 (.bool true) rfl hS ?_; simp only [Act.put, sq]; refine wpAnyH_done (by kernel_rfl) ?_ _
    clear hS; go_wp2; go_ret; exact ⟨rfl, HBB.out⟩
   have HKN : Hid ((!(ks.toList == ks2.toList)) = false) := by show _ = _; rw [HKQ.out, decide_eq_true hk]; rfl
   have HXK : Hid (x.key = y.key) := hk; clear hk; refine tka 10 (.bool false) rfl (fun wx hx => by exact run_strOp .neq ks ks2 _ HKN.out (Or.inr (Or.inr (Or.inr rfl))) _ _ _ _ rfl rfl rfl _) hS ?_
   simp only [Act.put, sq]; refine tkc 11 (.bool false) rfl hS ?_; simp only [Act.put, sq]; refine tkc 12 (.slice (some ⟨b, off, none⟩) n c) rfl hS ?_; simp only [Act.put, sq]; refine tkc 13 (.int .i64 (i : Int)) rfl hS ?_; simp only [Act.put, sq]; refine tka 14 (.pointer (some ⟨b, off + i * 3, none⟩)) rfl (fun wx hx => by exact idxA b off n c i HIN.out _ _ _ _ rfl rfl rfl _) hS ?_
   simp only [Act.put, sq]; refine tkc 15 (.pointer (some ⟨b, off + i * 3 + 1, none⟩)) rfl hS ?_; simp only [Act.put, sq]; refine tka 16 (.bool st) rfl (fun wx hx => by (have hc := below_cell hx HA1.out; simp [go_sem, hc])) hS ?_
   simp only [Act.put, sq]; refine tkc 17 (.slice (some ⟨b2, off2, none⟩) n c2) rfl hS ?_; simp only [Act.put, sq]; refine tkc 18 (.int .i64 (i : Int)) rfl hS ?_; simp only [Act.put, sq]; refine tka 19 (.pointer (some ⟨b2, off2 + i * 3, none⟩)) rfl (fun wx hx => by exact idxA b2 off2 n c2 i HIN.out _ _ _ _ rfl rfl rfl _) hS ?_
   simp only [Act.put, sq]; refine tkc 20 (.pointer (some ⟨b2, off2 + i * 3 + 1, none⟩)) rfl hS ?_; simp only [Act.put, sq]; refine tka 21 (.bool st2) rfl (fun wx hx => by (have hc := below_cell hx HB1.out; simp [go_sem, hc])) hS ?_
   simp only [Act.put, sq]
   by_cases hs : st = st2
   case neg =>
    obtain rfl : X = false := by rw [HXX.out]; exact HNO.out (fun h => hs (by rw [HST.out, HST2.out, h]))
    have HSN : Hid ((st != st2) = true) := by show _ = _; cases st <;> cases st2 <;> first | rfl | exact absurd rfl hs
    clear hs; refine tka 22 (.bool true) rfl (fun wx hx => by (have h := HSN.out; cases st <;> cases st2 <;> first | (exact absurd h (by decide)) | simp [go_sem])) hS ?_
    simp only [Act.put, sq]; refine tkc 23 (.bool true) rfl hS ?_; simp only [Act.put, sq]; refine tkc 24 (.bool true) rfl hS ?_; simp only [Act.put, sq]; refine tkb 25 rfl hS ?_; simp only [Act.put, sq]; refine tkb 26 rfl hS ?_; simp only [Act.put, sq]; refine tkb 27 rfl hS ?_; simp only [Act.put, sq]; refine tkb 28 rfl hS ?_; simp only [Act.put, sq]; refine tkb 29 rfl hS ?_; simp only [Act.put, sq]; refine tkb 30 rfl hS ?_; simp only [Act.put, sq]; refine tkb 31 rfl hS ?_; simp only [Act.put, sq]; refine tkb 32 rfl hS ?_; simp only [Act.put, sq]; refine tkb 33 rfl hS ?_; simp only [Act.put, sq]; refine tkb 34 rfl hS ?_; simp only [Act.put, sq]; refine tkb 35 rfl hS ?_; simp only [Act.put, sq]; refine tkb 36 rfl hS ?_; simp only [Act.put, sq]; refine tkc 37 (.bool true) rfl hS ?_; simp only [Act.put, sq]; refine wpAnyH_done (by kernel_rfl) ?_ _
    clear hS; go_wp2; go_ret; exact ⟨rfl, HBB.out⟩
   have HXS : Hid (x.set = y.set) := by show _ = _; rw [← HST.out, ← HST2.out]; exact hs
   subst hs; refine tka 22 (.bool false) rfl (fun wx hx => by (cases st <;> simp [go_sem])) hS ?_
   simp only [Act.put, sq]; refine tkc 23 (.bool false) rfl hS ?_; simp only [Act.put, sq]; refine tkc 24 (.bool false) rfl hS ?_; simp only [Act.put, sq]; refine tkc 25 (.slice (some ⟨b, off, none⟩) n c) rfl hS ?_; simp only [Act.put, sq]; refine tkc 26 (.int .i64 (i : Int)) rfl hS ?_; simp only [Act.put, sq]; refine tka 27 (.pointer (some ⟨b, off + i * 3, none⟩)) rfl (fun wx hx => by exact idxA b off n c i HIN.out _ _ _ _ rfl rfl rfl _) hS ?_
   simp only [Act.put, sq]; refine tkc 28 (.pointer (some ⟨b, off + i * 3 + 2, none⟩)) rfl hS ?_; simp only [Act.put, sq]; refine tka 29 (vd) rfl (fun wx hx => by (have hc := below_cell hx HA2.out; simp [go_sem, hc])) hS ?_
   simp only [Act.put, sq]; refine tkc 30 (.slice (some ⟨b2, off2, none⟩) n c2) rfl hS ?_; simp only [Act.put, sq]; refine tkc 31 (.int .i64 (i : Int)) rfl hS ?_; simp only [Act.put, sq]; refine tka 32 (.pointer (some ⟨b2, off2 + i * 3, none⟩)) rfl (fun wx hx => by exact idxA b2 off2 n c2 i HIN.out _ _ _ _ rfl rfl rfl _) hS ?_
   simp only [Act.put, sq]; refine tkc 33 (.pointer (some ⟨b2, off2 + i * 3 + 2, none⟩)) rfl hS ?_; simp only [Act.put, sq]; refine tka 34 (vd2) rfl (fun wx hx => by (have hc := below_cell hx HB2.out; simp [go_sem, hc])) hS ?_
   simp only [Act.put, sq]; refine wpAnyH_enter 35 (by kernel_rfl) rfl (by rfl) (f := 16) (args := #[vd, vd2]) (by simp [go_sem]) (same_any _ _ x.data y.data _ HRD.out HRD2.out) ?_
   rintro e1 y3 ⟨rfl, rfl⟩; refine ⟨_, rfl, hS, ?_⟩
   by_cases hd : x.data = y.data
   case neg =>
    obtain rfl : X = false := by rw [HXX.out]; exact HNO.out (fun h => hd (by rw [h]))
    have HDD : Hid (decide (x.data = y.data) = false) := decide_eq_false hd; clear hd; rw [HDD.out]; simp only [Act.put, sq]; refine tkc 36 (.bool true) rfl hS ?_; simp only [Act.put, sq]; refine tkc 37 (.bool true) rfl hS ?_; simp only [Act.put, sq]; refine wpAnyH_done (by kernel_rfl) ?_ _
    clear hS; go_wp2; go_ret; exact ⟨rfl, HBB.out⟩
   have HSM : Hid (la.take (i + 1) = lb.take (i + 1)) := HSTEP.out ((act_ext x y).1 ⟨HXK.out, HXS.out, hd⟩); have HDD : Hid (decide (x.data = y.data) = true) := decide_eq_true hd; clear hd; rw [HDD.out]; simp only [Act.put, sq]; refine tkc 36 (.bool false) rfl hS ?_; simp only [Act.put, sq]; refine tkc 37 (.bool false) rfl hS ?_; simp only [Act.put, sq]; refine wpAnyH_done (by kernel_rfl) ?_ _
   clear hS; go_wp2; go_roundw
   case rel => exact ⟨i + 1, by omega, by simp, HSM, HBB⟩
   case measure => simp [intOf]; omega
def MgO {α : Type} (o : Option (α × Bs)) (b0 b1 : Bool) (a : α) (l : Bs) (p : Nat) : Prop := (b1 = false ∧ b0 = false ∧ o = some (a, l.drop p)) ∨ (b1 = true ∧ (b0 = true ∨ o = none))
theorem mgO_of {α : Type} {g : Nat} {v : Value} {l : Bs} {w : World} {b0 : Bool} {o : Option (α × Bs)} {R : α → World → Value → Prop} {Z : Value → Prop} {e : Ending} {w' : World} (z : α) (h : InDoes g v l w (if b0 then none else o) R Z e w') (hz : ∀ u, Z u → R z w' u) :
 ∃ a p u b1, e = .returned u ∧ R a w' u ∧ InS w' g v l p b1 ∧ Only g w w' ∧ MgO o b0 b1 a l p := by
 rcases h with ⟨a, p, u, ho, rfl, hu, hs, hon⟩ | ⟨ho, u, p, rfl, hu, hs, hon⟩
 · refine ⟨a, p, u, false, rfl, hu, hs, hon, Or.inl ⟨rfl, ?_⟩⟩
   cases b0 with
   | true => simp at ho
   | false => exact ⟨rfl, by simpa using ho⟩
 · refine ⟨z, p, u, true, rfl, hz u hu, hs, hon, Or.inr ⟨rfl, ?_⟩⟩
   cases b0 with
   | true => exact Or.inl rfl
   | false => exact Or.inr (by simpa using ho)
theorem intext_o (g : Nat) (v : Value) (l : Bs) (pos : Nat) (b0 : Bool) (w : World) (h : InS w g v l pos b0) (hl : l.length ≤ 9223372036854775807) :
 Calls Tryz.prog 44 #[.pointer (some ⟨g, 0, none⟩)] w fun e w' => ∃ a p u b1, e = .returned u ∧ OwnB w' w.heap.size u a ∧ InS w' g v l p b1 ∧ Only g w w' ∧ MgO (readText (l.drop pos)) b0 b1 a l p :=
 (intext_any g v l pos b0 w h hl).mono fun _ _ hh => mgO_of [] hh (fun _ hu => by subst hu; exact OwnB.nil _ _)
theorem incount_o (g : Nat) (v : Value) (l : Bs) (pos : Nat) (b0 : Bool) (w : World) (most : Nat) (hm : most < 9223372036854775808) (h : InS w g v l pos b0) (hl : l.length ≤ 9223372036854775807) :
 Calls Tryz.prog 43 #[.pointer (some ⟨g, 0, none⟩), .int .i64 (most : Int)] w fun e w' => ∃ (a : Nat) (p : Nat) (b1 : Bool), e = .returned (.int .i64 (a : Int)) ∧ a ≤ most ∧ InS w' g v l p b1 ∧ Only g w w' ∧ MgO (readCount most (l.drop pos)) b0 b1 a l p :=
 (incount_any g v l pos b0 w most hm h hl).mono fun _ _ hh => by
   rcases hh with ⟨a, p, u, ho, rfl, rfl, hs, hon⟩ | ⟨ho, u, p, rfl, rfl, hs, hon⟩
   · cases b0 with
     | true => simp at ho
     | false =>
      have ho2 : readCount most (l.drop pos) = some (a, l.drop p) := by simpa using ho
      exact ⟨a, p, false, rfl, readCount_le ho2, hs, hon, Or.inl ⟨rfl, rfl, ho2⟩⟩
   · refine ⟨0, p, true, rfl, Nat.zero_le _, hs, hon, Or.inr ⟨rfl, ?_⟩⟩
     cases b0 with
     | true => exact Or.inl rfl
     | false => exact Or.inr (by simpa using ho)
def ActO (l : Bs) (p : Nat) (b : Bool) (a : ActT) (p2 : Nat) : Prop := (b = false ∧ readA (l.drop p) = some (a, l.drop p2)) ∨ (b = true ∧ readA (l.drop p) = none)
theorem act_unset {l ky : Bs} {p p1 p2 nn : Nat} {b1 b2 : Bool} (h1 : MgO (readText (l.drop p)) false b1 ky l p1) (h2 : MgO (readCount 1 (l.drop p1)) b1 b2 nn l p2) (hn : nn ≠ 1) : ActO l p b2 ⟨ky, false, []⟩ p2 := by
 rcases h1 with ⟨rfl, _, h1⟩ | ⟨rfl, h1⟩
 · rcases h2 with ⟨rfl, _, h2⟩ | ⟨rfl, h2⟩
   · exact Or.inl ⟨rfl, readA_unset h1 h2 hn⟩
   · rcases h2 with h2 | h2
     · cases h2
     · exact Or.inr ⟨rfl, readA_num h1 h2⟩
 · have hr : readA (l.drop p) = none := readA_key (by rcases h1 with h | h; cases h; exact h)
   rcases h2 with ⟨_, h, _⟩ | ⟨rfl, _⟩
   · cases h
   · exact Or.inr ⟨rfl, hr⟩
theorem act_set {l ky d : Bs} {p p1 p2 p3 : Nat} {b1 b2 b3 : Bool} (h1 : MgO (readText (l.drop p)) false b1 ky l p1) (h2 : MgO (readCount 1 (l.drop p1)) b1 b2 1 l p2) (h3 : MgO (readText (l.drop p2)) b2 b3 d l p3) : ActO l p b3 ⟨ky, true, d⟩ p3 := by
 rcases h1 with ⟨rfl, _, h1⟩ | ⟨rfl, h1⟩
 · rcases h2 with ⟨rfl, _, h2⟩ | ⟨rfl, h2⟩
   · rcases h3 with ⟨rfl, _, h3⟩ | ⟨rfl, h3⟩
     · exact Or.inl ⟨rfl, readA_set h1 h2 h3⟩
     · rcases h3 with h3 | h3
       · cases h3
       · exact Or.inr ⟨rfl, readA_nodata h1 h2 h3⟩
   · rcases h2 with h2 | h2
     · cases h2
     · rcases h3 with ⟨_, h, _⟩ | ⟨rfl, _⟩
       · cases h
       · exact Or.inr ⟨rfl, readA_num h1 h2⟩
 · have hr : readA (l.drop p) = none := readA_key (by rcases h1 with h | h; cases h; exact h)
   rcases h2 with ⟨_, h, _⟩ | ⟨rfl, _⟩
   · cases h
   · rcases h3 with ⟨_, h, _⟩ | ⟨rfl, _⟩
     · cases h
     · exact Or.inr ⟨rfl, hr⟩
def StO (l : Bs) (n i : Nat) (p : Nat) (b : Bool) (xs : List ActT) : Prop := (b = false ∧ ∃ r, readCount 4096 l = some (n, r) ∧ readAll readA i r = some (xs, l.drop p)) ∨ (b = true ∧ readB l = none)
theorem StO.first {l : Bs} {n p : Nat} {b : Bool} (h : MgO (readCount 4096 (l.drop 0)) false b n l p) : StO l n 0 p b [] := by
 rcases h with ⟨rfl, _, h⟩ | ⟨rfl, h⟩
 · exact Or.inl ⟨rfl, _, h, rfl⟩
 · exact Or.inr ⟨rfl, readB_cnt (by rcases h with h | h; cases h; exact h)⟩
theorem StO.next {l : Bs} {n i p p2 : Nat} {b : Bool} {xs : List ActT} {a : ActT} (h : StO l n i p false xs) (hi : i < n) (ha : ActO l p b a p2) : StO l n (i + 1) p2 b (xs ++ [a]) := by
 rcases h with ⟨_, r, h1, h2⟩ | ⟨h, _⟩
 · rcases ha with ⟨rfl, ha⟩ | ⟨rfl, ha⟩
   · exact Or.inl ⟨rfl, r, h1, readAll_snoc i r xs h2 ha⟩
   · exact Or.inr ⟨rfl, readB_all h1 (readAll_stop i n r xs h2 ha hi)⟩
 · cases h
theorem StO.last {l : Bs} {n i p : Nat} {b : Bool} {xs : List ActT} (h : StO l n i p b xs) (hi : i = n ∨ b = true) (hp : p ≤ l.length) (hn : xs.length ≤ 4096) : (b = false ∧ p = l.length ∧ chkL xs = 0 ∧ readB l = some xs) ∨ ((b = true ∨ p ≠ l.length) ∧ readB l = none) ∨ (b = false ∧ p = l.length ∧ chkL xs = 1 ∧ readB l = none) := by
 rcases h with ⟨rfl, r, h1, h2⟩ | ⟨rfl, h⟩
 · obtain rfl : i = n := by rcases hi with h | h; exact h; cases h
   have hof := readB_of h1 h2
   by_cases hpl : p = l.length
   · have hd : l.drop p = [] := by rw [hpl]; exact List.drop_length
     rw [if_pos hd] at hof
     rcases chkL_or xs with h | h
     · rw [if_pos (chkL_ok.1 h).2] at hof
       exact Or.inl ⟨rfl, hpl, h, hof⟩
     · rw [if_neg (fun hg => by rw [chkL_ok.2 ⟨hn, hg⟩] at h; cases h)] at hof
       exact Or.inr (Or.inr ⟨rfl, hpl, h, hof⟩)
   · have hd : ¬ (l.drop p = []) := fun e => by have := congrArg List.length e; simp at this; omega
     rw [if_neg hd] at hof; exact Or.inr (Or.inl ⟨Or.inr hpl, hof⟩)
 · exact Or.inr (Or.inl ⟨Or.inl rfl, h⟩)
theorem inS_others {w w' : World} {g : Nat} {v : Value} {l : Bs} {pos : Nat} {bad : Bool} (h : InS w g v l pos bad) (hv : 0 < l.length → ∀ k, v.ownBlock = some k → k < g) (hb : Below (g + 1) w w') : InS w' g v l pos bad := by
 refine ⟨h.blk.below hb (by omega), ?_, h.le⟩
 obtain ⟨ad, cap, rfl, hc, hn, hx⟩ := h.byt
 refine ⟨ad, cap, rfl, hc, hn, fun hp => ?_⟩
 obtain ⟨b, off, rfl, hy⟩ := hx hp
 refine ⟨b, off, rfl, fun j hj => ?_⟩
 rw [hb.cell (p := ⟨b, off + j, none⟩) (by have := hv hp b rfl; show b < g + 1; omega)]
 exact hy j hj
structure Ob (w : World) (g : Nat) (v : Value) (l : Bs) (p : Nat) (b : Bool) (va : Value) (ps : List (ActT × Value)) (W : World) : Prop where
 inp : InS W g v l p b
 lst : OwnA W (g + 1) va ps
 bel : Below w.heap.size w W
 ge : w.heap.size ≤ g
 vb : 0 < l.length → ∀ k, v.ownBlock = some k → k < w.heap.size
theorem Ob.call {w W W' : World} {g : Nat} {v : Value} {l : Bs} {p p' : Nat} {b b' : Bool} {va : Value} {ps : List (ActT × Value)} (h : Ob w g v l p b va ps W) (hs : InS W' g v l p' b') (ho : Only g W W') : Ob w g v l p' b' va ps W' :=
 ⟨hs, h.lst.same (fun k h1 h2 => ho.block k (by omega) h2), h.bel.trans (ho.below h.ge h.bel.size), h.ge, h.vb⟩
theorem Ob.new {w W W' : World} {g : Nat} {v : Value} {l : Bs} {p : Nat} {b : Bool} {va : Value} {ps : List (ActT × Value)} (h : Ob w g v l p b va ps W) (hb : Below W.heap.size W W') : Ob w g v l p b va ps W' :=
 ⟨h.inp.below hb, h.lst.same (fun k _ h2 => hb.block k h2), h.bel.trans (hb.mono h.bel.size), h.ge, h.vb⟩
structure Oc (w : World) (g ga : Nat) (v : Value) (l : Bs) (p : Nat) (b : Bool) (va : Value) (ps : List (ActT × Value)) (y : World) (cs : List Value) (W : World) : Prop where
 inp : InS W g v l p b
 lst : OwnA y (g + 1) va ps
 fr : ∀ k, k < y.heap.size → k ≠ g → W.heap[k]? = y.heap[k]?
 bel : Below w.heap.size w W
 ge : w.heap.size ≤ g
 vb : 0 < l.length → ∀ k, v.ownBlock = some k → k < w.heap.size
 blk : Blk W ga cs 62
 gy : g < y.heap.size
 ya : y.heap.size ≤ ga
theorem Ob.act {w y W : World} {g ga : Nat} {v : Value} {l : Bs} {p : Nat} {b : Bool} {va : Value} {ps : List (ActT × Value)} {cs : List Value} (h : Ob w g v l p b va ps y) (nn : NewR cs 62 y ga W) : Oc w g ga v l p b va ps y cs W :=
 ⟨h.inp.below nn.below, h.lst, fun k hk _ => nn.below.block k hk, h.bel.trans (nn.below.mono h.bel.size), h.ge, h.vb, nn.blk, h.inp.blk.lt, nn.ge⟩
theorem Oc.call {w y W W' : World} {g ga : Nat} {v : Value} {l : Bs} {p p' : Nat} {b b' : Bool} {va : Value} {ps : List (ActT × Value)} {cs : List Value} (h : Oc w g ga v l p b va ps y cs W) (hs : InS W' g v l p' b') (ho : Only g W W') : Oc w g ga v l p' b' va ps y cs W' :=
 have h1 := h.gy
 have h2 := h.ya
 have h3 := h.blk.lt
 ⟨hs, h.lst, fun k hk hne => (ho.block k hne (by omega)).trans (h.fr k hk hne), h.bel.trans (ho.below h.ge h.bel.size), h.ge, h.vb, blk_same h.blk (ho.block ga (by omega) h3), h1, h2⟩
theorem Oc.put {w y W W' : World} {g ga : Nat} {v : Value} {l : Bs} {p : Nat} {b : Bool} {va : Value} {ps : List (ActT × Value)} {cs cs' : List Value} (h : Oc w g ga v l p b va ps y cs W) (hb : Blk W' ga cs' 62) (ho : Only ga W W') : Oc w g ga v l p b va ps y cs' W' :=
 have h1 := h.gy
 have h2 := h.ya
 have h3 := h.blk.lt
 have h4 := h.ge
 have h5 : Below (g + 1) W W' := ho.below (by omega) (by omega)
 ⟨inS_others h.inp (fun hp k hk => by have := h.vb hp k hk; omega) h5, h.lst, fun k hk hne => (ho.block k (by omega) (by omega)).trans (h.fr k hk hne), h.bel.trans (h5.mono (by omega)), h.ge, h.vb, hb, h1, h2⟩
theorem Oc.new {w y W W' : World} {g ga : Nat} {v : Value} {l : Bs} {p : Nat} {b : Bool} {va : Value} {ps : List (ActT × Value)} {cs : List Value} (h : Oc w g ga v l p b va ps y cs W) (hb : Below W.heap.size W W') : Oc w g ga v l p b va ps y cs W' :=
 have h2 := h.ya
 have h3 := h.blk.lt
 ⟨h.inp.below hb, h.lst, fun k hk hne => (hb.block k (by omega)).trans (h.fr k hk hne), h.bel.trans (hb.mono h.bel.size), h.ge, h.vb, h.blk.below hb h3, h.gy, h2⟩
theorem Oc.own {w y W : World} {g ga : Nat} {v : Value} {l : Bs} {p : Nat} {b : Bool} {va : Value} {ps : List (ActT × Value)} {cs : List Value} (h : Oc w g ga v l p b va ps y cs W) : OwnA W (g + 1) va ps :=
 h.lst.same (fun k h1 h2 => h.fr k h2 (by omega))
theorem Oc.app {w y W W' : World} {g ga : Nat} {v : Value} {l : Bs} {p : Nat} {b : Bool} {va va' : Value} {ps qs : List (ActT × Value)} {cs : List Value} (h : Oc w g ga v l p b va ps y cs W) (ho : OwnA W' (g + 1) va' qs) (hg : W.grownBy W' va.ownBlock) : Ob w g v l p b va' qs W' := by
 have h1 := h.gy
 have h2 := h.ya
 have h3 := h.blk.lt
 have h4 := h.ge
 have hlt := h.own.lt
 have h5 : Below (g + 1) W W' := ⟨hg.os, hg.tape, hg.output, hg.size, fun k hk => hg.block k (by omega) (fun e => by have := (hlt k e.symm).1; omega)⟩
 exact ⟨inS_others h.inp (fun hp k hk => by have := h.vb hp k hk; omega) h5, ho, h.bel.trans (h5.mono (by omega)), h4, h.vb⟩
theorem wpSeq_appendA {ops : Array Oper} {Q : Exit → Act → World → Prop} {rest : List Oper} {o : Oper} {a : Act} {w : World} (s x : Operand) (base : Nat) (v : Value) (ps : List (ActT × Value)) (p : ActT × Value) (g : Nat)
 (hown : OwnA w base v ps) (hb : Blk w g (actC p.1 p.2) 62) (hg : v.ownBlock ≠ some g) (hd : OwnB w base p.2 p.1.data) (hlen : ps.length < 1000000) (hbase : base ≤ w.heap.size)
 (ho : o.op = .call { callee := .builtin .append, args := #[s, x], argTypes := #[22, 22] }) (hs : a.eval s = v) (hx : a.eval x = .slice (some ⟨g, 0, none⟩) 1 1) (hw : Region.wanted o (yielded ops a.tmps) = true)
 (h : ∀ v' w', OwnA w' base v' (ps ++ [p]) → w.grownBy w' v.ownBlock → wpList Tryz.prog ops Q rest (a.put o.dst v') w') : wpList Tryz.prog ops Q (o :: rest) a w := by
 unfold wpList
 simp only [hw, if_true]
 left
 exact wp_appendA s x base v ps p g hown hb hg hd hlen hbase ho hs hx h
theorem wpSeq_buildA1 {ops : Array Oper} {Q : Exit → Act → World → Prop} {rest : List Oper} {o : Oper} {a : Act} {w : World} (x : Operand) (s : ByteArray) (b : Bool) (ad : Option Addr) (n c : Nat) (ho : o.op = .buildSlice 22 1 #[(0, x)]) (hx : a.eval x = .agg [.string s, .bool b, .slice ad n c].toArray) (hw : Region.wanted o (yielded ops a.tmps) = true)
 (h : ∀ g w', NewR [.string s, .bool b, .slice ad n c] 62 w g w' → wpList Tryz.prog ops Q rest (a.put o.dst (.slice (some ⟨g, 0, none⟩) 1 1)) w') : wpList Tryz.prog ops Q (o :: rest) a w :=
 wpSeq_val _ _ hw (build_a1 _ _ x s b ad n c hx ho _) (h _ _ (NewR.of _ _ w))
theorem wpSeq_convA {ops : Array Oper} {Q : Exit → Act → World → Prop} {rest : List Oper} {o : Oper} {a : Act} {w : World} (x : Operand) (v : Value) (k : Bs) (ho : o.op = .convert 23 9 x) (hr : Reads w v k) (hx : a.eval x = v) (hw : Region.wanted o (yielded ops a.tmps) = true)
 (h : wpList Tryz.prog ops Q rest (a.put o.dst (.string (strB k))) w) : wpList Tryz.prog ops Q (o :: rest) a w :=
 wpSeq_val _ _ hw (conv_s _ _ x ho v hx k w hr) h
theorem built_k (s : ByteArray) : ∀ ps, ps = [(0, Value.string s)] → Tryz.prog.built 62 ps = some [Value.string s, .bool false, .slice none 0 0].toArray := fun ps h => by subst h; kernel_rfl
theorem built_in (a : Option Addr) (n c : Nat) : ∀ ps, ps = [(0, Value.slice a n c)] → Tryz.prog.built 82 ps = some [Value.slice a n c, .int .i64 0, .bool false].toArray := fun ps h => by subst h; kernel_rfl
theorem wpSeq_convK {ops : Array Oper} {Q : Exit → Act → World → Prop} {rest : List Oper} {o : Oper} {a : Act} {w : World} (x : Operand) (v : Value) (k : Bs) (ks : ByteArray) (hks : ks = strB k) (hr : Reads w v k) (ho : o.op = .convert 23 9 x) (hx : a.eval x = v) (hw : Region.wanted o (yielded ops a.tmps) = true)
 (h : wpList Tryz.prog ops Q rest (a.put o.dst (.string ks)) w) : wpList Tryz.prog ops Q (o :: rest) a w := by
 subst hks
 exact wpSeq_convA x v k ho hr hx hw h
theorem oReadBatch_any (vb : Value) (b : Bs) (w : World) (hr : Reads w vb b) (hl : b.length ≤ 9223372036854775807) : Calls Tryz.prog 13 #[vb] w fun e w' => BtR w b e w' := by
 have HR : Hid (Reads w vb b) := hr
 have HL : Hid (b.length ≤ 9223372036854775807) := hl
 obtain ⟨ad, m, c, hv⟩ := hr.form
 subst hv
 clear hr hl
 go_enter Tryz.func13, Tryz.ntmps13
 obtain ⟨tk0, tk1, tk2⟩ := sqk3
 go_wp2_with (first
  | (clear tk0; with_reducible refine wpSeq_build 82 [(0, .tmp 9)] [.slice ad m c, .int .i64 0, .bool false] (built_in _ _ _ _ rfl) ?_ ?_ ?_
     · rfl
     · rfl)
  | (clear tk1; with_reducible refine wpSeq_boxW 82 (.tmp 10) [.slice ad m c, .int .i64 0, .bool false] ?_ ?_ ?_ ?_
     · rfl
     · rfl
     · rfl
     intro g y1 nn; have HOB : Hid (Ob w g (.slice ad m c) b 0 false (.slice none 0 0) [] y1) := ⟨⟨nn.blk, HR.out.below nn.below, Nat.zero_le _⟩, OwnA.nil _ _, nn.below, nn.ge, reads_in HR.out⟩; clear nn)
  | (clear tk2; go_at_call 43; refine (incount_o g _ b 0 false _ 4096 (by decide) HOB.out.inp HL.out).mono ?_; rintro e0 y2 ⟨n, p0, b0, rfl, hn, hi, ho, hm⟩
     have HST : Hid (StO b n 0 p0 b0 []) := StO.first hm
     have HN1 : Hid (n ≤ 4096) := hn; replace HOB : Hid (Ob w g (.slice ad m c) b p0 b0 (.slice none 0 0) [] y2) := HOB.out.call hi ho; clear hn hi ho hm))
 go_loopw [5, 7] (fun av iv W => ∃ (i : Nat) (a0 : Option Addr) (c0 : Nat) (p : Nat) (bd : Bool) (ps : List (ActT × Value)), i ≤ n ∧ av = .slice a0 i c0 ∧ iv = .int .i64 (i : Int) ∧ Hid (ps.length = i) ∧ Hid (Ob w g (.slice ad m c) b p bd (.slice a0 i c0) ps W) ∧ Hid (StO b n i p bd (ps.map (·.1)))) (fun _ iv _ => n - (intOf iv).toNat)
 case atStart => exact ⟨0, none, 0, p0, b0, [], Nat.zero_le _, rfl, rfl, rfl, HOB, HST⟩
 case round =>
  clear HOB HST
  obtain ⟨i, a0, c0, p, bd, ps, hi, rfl, rfl, HPL, HOB, HST⟩ := hrel
  by_cases hin : i < n
  case neg =>
   have hlk : ¬ ((i : Int) < (n : Int)) := by omega
   have HEX : Hid (i = n ∨ bd = true) := Or.inl (by omega)
   obtain ⟨D, HD⟩ := sqn ((!bd && decide (p = b.length))); have HDC : Hid (Calls Tryz.prog 45 #[.pointer (some ⟨g, 0, none⟩)] wr fun e w' => e = .returned (.bool D) ∧ ∃ k, w' = wr.drewN k) := by rw [HD.out]; exact indone_any g _ b p bd wr HOB.out.inp
   rcases HST.out.last HEX.out HOB.out.inp.le (by rw [List.length_map, HPL.out]; have := HN1.out; omega) with ⟨h1, h2, h3, h4⟩ | ⟨h1, h4⟩ | ⟨h1, h2, h3, h4⟩
   · have HRES : Hid (readB b = some (ps.map (·.1))) := h4
     obtain rfl : D = true := by
      rw [HD.out]; rw [h1, h2]; simp
     have HX : Hid (chkL (ps.map (·.1)) = 0) := h3; clear h1 h2 h3 h4; obtain ⟨ta0, ta1⟩ := sqk2
     go_wp2_with (first
      | (clear ta0; go_at_call 45; refine (HDC.out).mono ?_; rintro e0 y1 ⟨rfl, kk, rfl⟩
         replace HOB : Hid (Ob w g (.slice ad m c) b p bd (.slice a0 i c0) ps (wr.drewN kk)) := HOB.out.new ⟨rfl, rfl, rfl, Nat.le_refl _, fun _ _ => rfl⟩
         clear HDC)
      | (clear ta1; go_at_call 14; refine (oCheck_any _ _ _ HOB.out.lst.reads).mono ?_; rintro e1 y2 ⟨rfl, hb2⟩
         rw [HX.out]; replace HOB : Hid (Ob w g (.slice ad m c) b p bd (.slice a0 i c0) ps y2) := HOB.out.new hb2; clear hb2))
     refine bodyPost_ret (results_tmp2 rfl _ _ _) rfl ?_; exact ⟨HOB.out.bel, Or.inl ⟨_, ps, HRES.out, rfl, HOB.out.lst.mono (Nat.le_succ_of_le HOB.out.ge)⟩⟩
   · have HRES : Hid (readB b = none) := h4
     obtain rfl : D = false := by
      rw [HD.out]
      rcases h1 with h1 | h1
      · simp [h1]
      · rw [decide_eq_false h1]; simp
     clear h1 h4; have ta0 : Hid True := trivial
     go_wp2_with (first
      | (clear ta0; go_at_call 45; refine (HDC.out).mono ?_; rintro e0 y1 ⟨rfl, kk, rfl⟩
         replace HOB : Hid (Ob w g (.slice ad m c) b p bd (.slice a0 i c0) ps (wr.drewN kk)) := HOB.out.new ⟨rfl, rfl, rfl, Nat.le_refl _, fun _ _ => rfl⟩
         clear HDC))
     refine bodyPost_ret (results_tmp2 rfl _ _ _) rfl ?_; exact ⟨HOB.out.bel, Or.inr ⟨HRES.out, rfl⟩⟩
   · have HRES : Hid (readB b = none) := h4
     obtain rfl : D = true := by
      rw [HD.out]; rw [h1, h2]; simp
     have HX : Hid (chkL (ps.map (·.1)) = 1) := h3; clear h1 h2 h3 h4; obtain ⟨ta0, ta1⟩ := sqk2
     go_wp2_with (first
      | (clear ta0; go_at_call 45; refine (HDC.out).mono ?_; rintro e0 y1 ⟨rfl, kk, rfl⟩
         replace HOB : Hid (Ob w g (.slice ad m c) b p bd (.slice a0 i c0) ps (wr.drewN kk)) := HOB.out.new ⟨rfl, rfl, rfl, Nat.le_refl _, fun _ _ => rfl⟩
         clear HDC)
      | (clear ta1; go_at_call 14; refine (oCheck_any _ _ _ HOB.out.lst.reads).mono ?_; rintro e1 y2 ⟨rfl, hb2⟩
         rw [HX.out]; replace HOB : Hid (Ob w g (.slice ad m c) b p bd (.slice a0 i c0) ps y2) := HOB.out.new hb2; clear hb2))
     refine bodyPost_ret (results_tmp2 rfl _ _ _) rfl ?_; exact ⟨HOB.out.bel, Or.inr ⟨HRES.out, rfl⟩⟩
  case pos =>
   have hlk : (i : Int) < (n : Int) := by omega
   have HIN : Hid (i < n) := hin
   cases bd
   case true =>
    have HEX : Hid (i = n ∨ true = true) := Or.inr rfl; have q2 : wr.cell? ⟨g, 2, none⟩ = some (.bool true) := HOB.out.inp.blk.cell 2; obtain ⟨D, HD⟩ := sqn ((!true && decide (p = b.length))); have HDC : Hid (Calls Tryz.prog 45 #[.pointer (some ⟨g, 0, none⟩)] wr fun e w' => e = .returned (.bool D) ∧ ∃ k, w' = wr.drewN k) := by rw [HD.out]; exact indone_any g _ b p true wr HOB.out.inp
    rcases HST.out.last HEX.out HOB.out.inp.le (by rw [List.length_map, HPL.out]; have := HN1.out; omega) with ⟨h1, h2, h3, h4⟩ | ⟨h1, h4⟩ | ⟨h1, h2, h3, h4⟩
    · cases h1
    · have HRES : Hid (readB b = none) := h4
      obtain rfl : D = false := by
       rw [HD.out]
       rfl
      clear h1 h4; have tb0 : Hid True := trivial
      go_wp2_with (first
       | (clear tb0; go_at_call 45; refine (HDC.out).mono ?_; rintro e0 y1 ⟨rfl, kk, rfl⟩
          replace HOB : Hid (Ob w g (.slice ad m c) b p true (.slice a0 i c0) ps (wr.drewN kk)) := HOB.out.new ⟨rfl, rfl, rfl, Nat.le_refl _, fun _ _ => rfl⟩
          clear HDC))
      refine bodyPost_ret (results_tmp2 rfl _ _ _) rfl ?_; exact ⟨HOB.out.bel, Or.inr ⟨HRES.out, rfl⟩⟩
    · cases h1
   case false =>
    have q2 : wr.cell? ⟨g, 2, none⟩ = some (.bool false) := HOB.out.inp.blk.cell 2; have f1 : IntKind.i64.wrap ((i : Int) + 1) = (i : Int) + 1 := by rw [IntKind.wrap_i64]; have := HN1.out; omega
    obtain ⟨tc0, tc1, tc2, tc3, tc4, tc5, tc6, tc7, tc8, tc9, tc10, tc11, tc12, tc13, tc14, tc15⟩ := sqk16
    go_wp2_with (first
     | (clear tc0; go_at_call 44; refine (intext_o g _ b p false _ HOB.out.inp HL.out).mono ?_; rintro e1 y1 ⟨ky, p1, u1, b1, rfl, hown, hi1, ho1, hm1⟩
        replace HOB : Hid (Ob w g (.slice ad m c) b p1 b1 (.slice a0 i c0) ps y1) := HOB.out.call hi1 ho1; have HM1 : Hid (MgO (readText (b.drop p)) false b1 ky b p1) := hm1; have HRK : Hid (Reads y1 u1 ky) := hown.reads; obtain ⟨ks, HKS⟩ := sqn (strB ky); clear hown hi1 ho1 hm1 q2)
     | (clear tc1; with_reducible refine wpSeq_convK (.tmp 27) u1 ky ks HKS.out HRK.out ?_ ?_ ?_ ?_
        · rfl
        · rfl
        · rfl)
     | (clear tc2; with_reducible refine wpSeq_build 62 [(0, .tmp 28)] [.string ks, .bool false, .slice none 0 0] (built_k _ _ rfl) ?_ ?_ ?_
        · rfl
        · rfl)
     | (clear tc3; with_reducible refine wpSeq_allocA ?_ ?_ ?_
        · rfl
        · rfl
        intro ga y2 nn; have HOC : Hid (Oc w g ga (.slice ad m c) b p1 b1 (.slice a0 i c0) ps y1 zA y2) := HOB.out.act nn; clear nn HOB HRK)
     | (clear tc4; with_reducible refine wpSeq_storeRow 62 (.tmp 8) (.tmp 29) ga zA [.string ks, .bool false, .slice none 0 0] HOC.out.blk rfl (info_act15 _ _ _) (one_act0 _ _) ?_ ?_ ?_ ?_ ?_
        · rfl
        · rfl
        · rfl
        · rfl
        intro y3 hset; replace HOC : Hid (Oc w g ga (.slice ad m c) b p1 b1 (.slice a0 i c0) ps y1 [.string ks, .bool false, .slice none 0 0] y3) := HOC.out.put hset.blk hset.only; clear hset)
     | (clear tc5; go_at_call 43; refine (incount_o g _ b p1 b1 _ 1 (by decide) HOC.out.inp HL.out).mono ?_; rintro e2 y4 ⟨nn, p2, b2, rfl, hn, hi2, ho2, hm2⟩
        replace HOC : Hid (Oc w g ga (.slice ad m c) b p2 b2 (.slice a0 i c0) ps y1 [.string ks, .bool false, .slice none 0 0] y4) := HOC.out.call hi2 ho2; have HM2 : Hid (MgO (readCount 1 (b.drop p1)) b1 b2 nn b p2) := hm2; clear hi2 ho2 hm2; obtain hz | hz : nn = 0 ∨ nn = 1 := by omega
        all_goals (first
         | (obtain rfl : nn = 0 := hz
            clear hn tc7 tc8 tc9 tc13 tc14 tc15)
         | (obtain rfl : nn = 1 := hz
            clear hn tc6 tc10 tc11 tc12)))
     | (clear tc6; with_reducible refine wpSeq_cellB (.tmp 33) (.tmp 32) ga 1 [.string ks, .bool false, .slice none 0 0] false 62 (by simp) HOC.out.blk ?_ ?_ ?_ ?_ ?_
        · rfl
        · rfl
        · rfl
        · rfl
        intro y5 hb5 ho5; replace HOC : Hid (Oc w g ga (.slice ad m c) b p2 b2 (.slice a0 i c0) ps y1 [.string ks, .bool false, .slice none 0 0] y5) := HOC.out.put hb5 ho5; have d1 : y5.cell? ⟨ga, 1, none⟩ = some (.bool false) := HOC.out.blk.cell 1; clear hb5 ho5)
     | (clear tc7; with_reducible refine wpSeq_cellB (.tmp 33) (.tmp 32) ga 1 [.string ks, .bool false, .slice none 0 0] true 62 (by simp) HOC.out.blk ?_ ?_ ?_ ?_ ?_
        · rfl
        · rfl
        · rfl
        · rfl
        intro y5 hb5 ho5; replace HOC : Hid (Oc w g ga (.slice ad m c) b p2 b2 (.slice a0 i c0) ps y1 [.string ks, .bool true, .slice none 0 0] y5) := HOC.out.put hb5 ho5; have d1 : y5.cell? ⟨ga, 1, none⟩ = some (.bool true) := HOC.out.blk.cell 1; clear hb5 ho5)
     | (clear tc8; go_at_call 44; refine (intext_o g _ b p2 b2 _ HOC.out.inp HL.out).mono ?_; rintro e3 y6 ⟨dt, p3, u3, b3, rfl, hown, hi3, ho3, hm3⟩
        have HOD : Hid (OwnB y6 (ga + 1) u3 dt) := hown.mono HOC.out.blk.lt; replace HOC : Hid (Oc w g ga (.slice ad m c) b p3 b3 (.slice a0 i c0) ps y1 [.string ks, .bool true, .slice none 0 0] y6) := HOC.out.call hi3 ho3; have HM3 : Hid (MgO (readText (b.drop p2)) b2 b3 dt b p3) := hm3; obtain ⟨a3, n3, c3, hv3⟩ := hown.reads.form; subst hv3; clear hown hi3 ho3 hm3 d1)
     | (clear tc9; with_reducible refine wpSeq_cellY (.tmp 38) (.tmp 37) ga 2 [.string ks, .bool true, .slice none 0 0] a3 n3 c3 62 (by simp) HOC.out.blk ?_ ?_ ?_ ?_ ?_
        · rfl
        · rfl
        · rfl
        · rfl
        intro y7 hb7 ho7; replace HOC : Hid (Oc w g ga (.slice ad m c) b p3 b3 (.slice a0 i c0) ps y1 [.string ks, .bool true, .slice a3 n3 c3] y7) := HOC.out.put hb7 ho7; replace HOD : Hid (OwnB y7 (ga + 1) (.slice a3 n3 c3) dt) := HOD.out.sameS (fun k hk => ho7.block k (by have := (HOD.out.ltS k hk).1; omega) (HOD.out.ltS k hk).2)
        clear hb7 ho7)
     | (clear tc10; with_reducible refine wpSeq_loadW 62 (.tmp 8) ga 0 [.string ks, .bool false, .slice none 0 0] _ (Blk.range HOC.out.blk) Tryz.underlying62 rfl (info_act15 _ _ _) ?_ ?_ ?_ ?_
        · rfl
        · rfl
        · rfl)
     | (clear tc11; with_reducible refine wpSeq_buildA1 (.tmp 40) ks false none 0 0 ?_ ?_ ?_ ?_
        · rfl
        · rfl
        · rfl
        intro g10 y8 nn; have HNE : Hid ((Value.slice a0 i c0).ownBlock ≠ some g10) := fun e => by have h1 := (HOC.out.own.lt g10 e).2; have h2 := nn.ge; omega
        have HB10 : Hid (Blk y8 g10 (actC (⟨ky, false, []⟩ : ActT) (Value.slice none 0 0)) 62) := by rw [actC, ← HKS.out]; exact nn.blk
        have HDD : Hid (OwnB y8 (g + 1) (Value.slice none 0 0) []) := OwnB.nil _ _; replace HOC : Hid (Oc w g ga (.slice ad m c) b p2 b2 (.slice a0 i c0) ps y1 [.string ks, .bool false, .slice none 0 0] y8) := HOC.out.new nn.below; clear nn)
     | (clear tc12; refine wpSeq_appendA (.tmp 39) (.tmp 41) (g + 1) (.slice a0 i c0) ps ((⟨ky, false, []⟩ : ActT), (Value.slice none 0 0)) g10 HOC.out.own HB10.out HNE.out HDD.out (by rw [HPL.out]; have h1 := HN1.out; have h2 := HIN.out; omega) (by have h1 := HOC.out.gy; have h2 := HOC.out.ya; have h3 := HOC.out.blk.lt; omega) ?_ ?_ ?_ ?_ ?_
        · rfl
        · rfl
        · rfl
        · rfl
        intro v9 y9 ho9 hg9; obtain ⟨a9, c9, hv9⟩ := ho9.form; rw [List.length_append, HPL.out] at hv9; replace hv9 : v9 = .slice a9 (i + 1) c9 := hv9; subst hv9; have HOB9 : Hid (Ob w g (.slice ad m c) b p2 b2 (.slice a9 (i + 1) c9) (ps ++ [((⟨ky, false, []⟩ : ActT), (Value.slice none 0 0))]) y9) := HOC.out.app ho9 hg9
        have HST9 : Hid (StO b n (i + 1) p2 b2 ((ps ++ [((⟨ky, false, []⟩ : ActT), (Value.slice none 0 0))]).map (·.1))) := by
         rw [List.map_append]; exact HST.out.next HIN.out (act_unset HM1.out HM2.out (by decide))
        have HPL9 : Hid ((ps ++ [((⟨ky, false, []⟩ : ActT), (Value.slice none 0 0))]).length = i + 1) := by
         show _ = _; rw [List.length_append, HPL.out]
         rfl
        clear ho9 hg9)
     | (clear tc13; with_reducible refine wpSeq_loadW 62 (.tmp 8) ga 0 [.string ks, .bool true, .slice a3 n3 c3] _ (Blk.range HOC.out.blk) Tryz.underlying62 rfl (info_act15 _ _ _) ?_ ?_ ?_ ?_
        · rfl
        · rfl
        · rfl)
     | (clear tc14; with_reducible refine wpSeq_buildA1 (.tmp 40) ks true a3 n3 c3 ?_ ?_ ?_ ?_
        · rfl
        · rfl
        · rfl
        intro g10 y8 nn; have HNE : Hid ((Value.slice a0 i c0).ownBlock ≠ some g10) := fun e => by have h1 := (HOC.out.own.lt g10 e).2; have h2 := nn.ge; omega
        have HB10 : Hid (Blk y8 g10 (actC (⟨ky, true, dt⟩ : ActT) (Value.slice a3 n3 c3)) 62) := by rw [actC, ← HKS.out]; exact nn.blk
        have HDD : Hid (OwnB y8 (g + 1) (Value.slice a3 n3 c3) dt) := (HOD.out.newS nn.below).mono (by have h1 := HOC.out.gy; have h2 := HOC.out.ya; omega)
        replace HOC : Hid (Oc w g ga (.slice ad m c) b p3 b3 (.slice a0 i c0) ps y1 [.string ks, .bool true, .slice a3 n3 c3] y8) := HOC.out.new nn.below; clear nn)
     | (clear tc15; refine wpSeq_appendA (.tmp 39) (.tmp 41) (g + 1) (.slice a0 i c0) ps ((⟨ky, true, dt⟩ : ActT), (Value.slice a3 n3 c3)) g10 HOC.out.own HB10.out HNE.out HDD.out (by rw [HPL.out]; have h1 := HN1.out; have h2 := HIN.out; omega) (by have h1 := HOC.out.gy; have h2 := HOC.out.ya; have h3 := HOC.out.blk.lt; omega) ?_ ?_ ?_ ?_ ?_
        · rfl
        · rfl
        · rfl
        · rfl
        intro v9 y9 ho9 hg9; obtain ⟨a9, c9, hv9⟩ := ho9.form; rw [List.length_append, HPL.out] at hv9; replace hv9 : v9 = .slice a9 (i + 1) c9 := hv9; subst hv9; have HOB9 : Hid (Ob w g (.slice ad m c) b p3 b3 (.slice a9 (i + 1) c9) (ps ++ [((⟨ky, true, dt⟩ : ActT), (Value.slice a3 n3 c3))]) y9) := HOC.out.app ho9 hg9
        have HST9 : Hid (StO b n (i + 1) p3 b3 ((ps ++ [((⟨ky, true, dt⟩ : ActT), (Value.slice a3 n3 c3))]).map (·.1))) := by
         rw [List.map_append]; exact HST.out.next HIN.out (act_set HM1.out HM2.out HM3.out)
        have HPL9 : Hid ((ps ++ [((⟨ky, true, dt⟩ : ActT), (Value.slice a3 n3 c3))]).length = i + 1) := by
         show _ = _; rw [List.length_append, HPL.out]
         rfl
        clear ho9 hg9))
    · go_roundw
      case rel => exact ⟨i + 1, a9, c9, p2, b2, _, by omega, rfl, by simp, HPL9, HOB9, HST9⟩
      case measure => simp [intOf]; omega
    · go_roundw
      case rel => exact ⟨i + 1, a9, c9, p3, b3, _, by omega, rfl, by simp, HPL9, HOB9, HST9⟩
      case measure => simp [intOf]; omega
def ReadsS (w : World) (v : Value) (ks : List Bs) : Prop :=
 ∃ ad cap, v = .slice ad ks.length cap ∧ ks.length ≤ cap ∧ (ad = none → cap = 0) ∧ (0 < ks.length → ∃ b off, ad = some ⟨b, off, none⟩ ∧ ∀ j, j < ks.length → w.cell? ⟨b, off + j, none⟩ = some (.string (strB (ks.getD j []))))
theorem ReadsS.form {w : World} {v : Value} {ks : List Bs} (h : ReadsS w v ks) : ∃ ad c, v = .slice ad ks.length c := by
 obtain ⟨ad, c, hv, _⟩ := h
 exact ⟨ad, c, hv⟩
theorem ReadsS.below {w w' : World} {v : Value} {ks : List Bs} (h : ReadsS w v ks) (hb : Below w.heap.size w w') : ReadsS w' v ks := by
 obtain ⟨ad, cap, h1, h2, h3, h4⟩ := h
 refine ⟨ad, cap, h1, h2, h3, fun hp => ?_⟩
 obtain ⟨b, off, h5, h6⟩ := h4 hp
 refine ⟨b, off, h5, fun j hj => ?_⟩
 have h7 := h6 j hj
 rw [hb.cell (p := ⟨b, off + j, none⟩) (block_lt_of_cell h7)]
 exact h7
theorem ReadsS.at {w : World} {ad : Option Addr} {n c : Nat} {ks : List Bs} (h : ReadsS w (.slice ad n c) ks) {j : Nat} (hj : j < ks.length) : ∃ b off, ad = some ⟨b, off, none⟩ ∧ w.cell? ⟨b, off + j, none⟩ = some (.string (strB (ks.getD j []))) := by
 obtain ⟨ad', cap, h1, h2, h3, h4⟩ := h
 simp only [Value.slice.injEq] at h1
 obtain ⟨rfl, _, _⟩ := h1
 obtain ⟨b, off, h5, h6⟩ := h4 (Nat.lt_of_le_of_lt (Nat.zero_le _) hj)
 exact ⟨b, off, h5, h6 j hj⟩
def plI (ks : List Bs) (key : Bs) : Nat := (ks.takeWhile fun k => ltB k key).length
def plB (ks : List Bs) (key : Bs) : Bool := decide (plI ks key < ks.length) && decide (ks.getD (plI ks key) [] = key)
theorem plI_at : ∀ (ks : List Bs) (key : Bs) (i : Nat), i ≤ ks.length → (∀ j, j < i → ltB (ks.getD j []) key = true) → (i < ks.length → ltB (ks.getD i []) key = false) → plI ks key = i
 | [], _, 0, _, _, _ => rfl
 | [], _, i + 1, h, _, _ => by simp at h
 | k :: ks, key, 0, _, _, h => by
  have h1 := h (by simp)
  simp only [List.getD_cons_zero] at h1
  rw [plI, List.takeWhile_cons, h1]
  rfl
 | k :: ks, key, i + 1, hl, h1, h2 => by
  have h3 := h1 0 (by omega)
  simp only [List.getD_cons_zero] at h3
  have h4 := plI_at ks key i (by simpa using hl) (fun j hj => by have := h1 (j + 1) (by omega); simpa using this) (fun hi => by have := h2 (by simp; omega); simpa using this)
  rw [plI, List.takeWhile_cons, h3]
  simp only [if_true, List.length_cons]
  rw [plI] at h4
  rw [h4]
theorem idxS (b off n c k : Nat) (hk : k < n) (f : Operand → Value) (o : Oper) (x y : Operand) (ho : o.op = .indexAddr 40 x y) (hx : f x = .slice (some ⟨b, off, none⟩) n c) (hy : f y = .int .i64 (k : Int)) (w : World) :
 (execOp f o).run Tryz.prog w = .ok (.value (.pointer (some ⟨b, off + k, none⟩))) w := by
 have k0 : (0 : Int) ≤ (k : Int) := by omega
 have k1 : (k : Int) < (n : Int) := by omega
 have hs : (sizeOf 9).run Tryz.prog w = .ok 1 w := by kernel_rfl
 unfold execOp
 rw [ho]
 simp [go_sem, hx, hy, k0, k1, Addr.add_mid, hs]
theorem wpSeq_idxS {ops : Array Oper} {Q : Exit → Act → World → Prop} {rest : List Oper} {o : Oper} {a : Act} {w : World} (x y : Operand) (b off n c k : Nat) (hk : k < n) (ho : o.op = .indexAddr 40 x y) (hx : a.eval x = .slice (some ⟨b, off, none⟩) n c) (hy : a.eval y = .int .i64 (k : Int)) (hw : Region.wanted o (yielded ops a.tmps) = true)
 (h : wpList Tryz.prog ops Q rest (a.put o.dst (.pointer (some ⟨b, off + k, none⟩))) w) : wpList Tryz.prog ops Q (o :: rest) a w :=
 wpSeq_val _ _ hw (idxS b off n c k hk _ o x y ho hx hy w) h
theorem oPlace_any (vK vV : Value) (ks : List Bs) (key : Bs) (w : World) (hr : ReadsS w vK ks) (hl : ks.length < 4611686018427387904) : Calls Tryz.prog 85 #[.agg [vK, vV].toArray, .string (strB key)] w fun e w' => e = .returned (.tuple #[.int .i64 (plI ks key : Int), .bool (plB ks key)]) ∧ Below w.heap.size w w' := by
 have HR : Hid (ReadsS w vK ks) := hr
 obtain ⟨ad, c, hv⟩ := hr.form
 obtain ⟨n, HN⟩ := sqn (ks.length)
 rw [← HN.out] at hv hl
 subst hv
 have HNL : Hid (n < 4611686018427387904) := hl
 obtain ⟨sk, HSK⟩ := sqn (strB key)
 obtain ⟨pI, HPI⟩ := sqn (plI ks key)
 obtain ⟨pB, HPB⟩ := sqn (plB ks key)
 rw [← HSK.out, ← HPI.out, ← HPB.out]
 clear hr hl
 go_enter Tryz.func85, Tryz.ntmps85
 have tk0 : Hid True := trivial
 go_wp2_with (first
  | (clear tk0; with_reducible refine wpSeq_boxW 43 (.tmp 0) [.slice ad n c, vV] ?_ ?_ ?_ ?_
     · rfl
     · rfl
     · rfl
     intro gm y1 nn; have HM : Hid (Blk y1 gm [.slice ad n c, vV] 43) := nn.blk; have HB1 : Hid (Below w.heap.size w y1) := nn.below; have HR1 : Hid (ReadsS y1 (.slice ad n c) ks) := HR.out.below nn.below; clear nn))
 go_loopw [6] (fun iv W => ∃ i : Nat, i ≤ n ∧ iv = .int .i64 (i : Int) ∧ Hid (∀ j, j < i → ltB (ks.getD j []) key = true) ∧ W = y1) (fun iv _ => n - (intOf iv).toNat)
 case atStart => exact ⟨0, Nat.zero_le _, rfl, fun j hj => by omega, rfl⟩
 case round =>
  obtain ⟨i, hi, rfl, HF, rfl⟩ := hrel
  have d0 : wr.cell? ⟨gm, 0, none⟩ = some (.slice ad n c) := HM.out.cell 0
  by_cases hin : i < n
  case neg =>
   have hlk : ¬ ((i : Int) < (n : Int)) := by omega
   have HIe : Hid (plI ks key = i) := plI_at ks key i (by rw [← HN.out]; exact hi) HF.out (fun h => by rw [← HN.out] at h; omega)
   obtain rfl : pI = i := by rw [HPI.out]; exact HIe.out
   obtain rfl : pB = false := by rw [HPB.out, plB, HIe.out, ← HN.out, decide_eq_false hin]; rfl
   go_wp2; refine wp_region_held_drew (S := Over (World.drew wr)) (by kernel_rfl) (Over.refl _) ?_
   intro hS; have HD0 : Hid ((World.drew wr).cell? ⟨gm, 0, none⟩ = some (.slice ad n c)) := HM.out.cell 0; have HBB : Hid (Below w.heap.size w (World.drew wr)) := HB1.out.drew
   change wpAnyH _ _ _ _ _ _ _ _ (World.drew wr)
   generalize World.drew wr = y3 at *
   refine tkc 0 (.int .i64 (pI : Int)) rfl hS ?_; simp only [Act.put, sq]; refine tkc 1 (.int .i64 (pI : Int)) rfl hS ?_; simp only [Act.put, sq]; refine tkc 2 (.pointer (some ⟨gm, 0, none⟩)) rfl hS ?_; simp only [Act.put, sq]; refine tka 3 (.slice ad n c) rfl (fun wx hx => by (have hc := below_cell hx HD0.out; simp [go_sem, hc])) hS ?_
   simp only [Act.put, sq]; refine tkc 4 (.int .i64 (n : Int)) rfl hS ?_; simp only [Act.put, sq]; refine tka 5 (.bool false) rfl (fun wx hx => by (simp [go_sem]; omega)) hS ?_
   simp only [Act.put, sq]; refine tkc 6 (.bool false) rfl hS ?_; simp only [Act.put, sq]; refine tkb 7 rfl hS ?_; simp only [Act.put, sq]; refine tkb 8 rfl hS ?_; simp only [Act.put, sq]; refine tkb 9 rfl hS ?_; simp only [Act.put, sq]; refine tkb 10 rfl hS ?_; simp only [Act.put, sq]; refine tkb 11 rfl hS ?_; simp only [Act.put, sq]; refine tkb 12 rfl hS ?_; simp only [Act.put, sq]; refine tkb 13 rfl hS ?_; simp only [Act.put, sq]; refine tkc 14 (.bool false) rfl hS ?_; simp only [Act.put, sq]; refine tkc 15 (.int .i64 (pI : Int)) rfl hS ?_; simp only [Act.put, sq]; refine tkc 16 (.bool false) rfl hS ?_; simp only [Act.put, sq]; refine wpAnyH_done (by kernel_rfl) ?_ _
   clear hS; go_wp2; refine bodyPost_ret (results_tmp2 rfl _ _ _) rfl ?_; exact ⟨rfl, HBB.out⟩
  case pos =>
   have hlk : (i : Int) < (n : Int) := by omega
   have HIN : Hid (i < n) := hin; have f1 : IntKind.i64.wrap ((i : Int) + 1) = (i : Int) + 1 := by rw [IntKind.wrap_i64]; have := HNL.out; omega
   have hik : i < ks.length := by rw [← HN.out]; exact hin
   obtain ⟨b, off, rfl, hci⟩ := HR1.out.at hik; obtain ⟨si, HSI⟩ := sqn (strB (ks.getD i [])); rw [← HSI.out] at hci; have HLT : Hid (Op.bytesLess si.toList sk.toList = ltB (ks.getD i []) key) := by show _ = _; rw [HSI.out, HSK.out, less_str]
   cases hlt : ltB (ks.getD i []) key
   case false =>
    have HL2 : Hid (Op.bytesLess si.toList sk.toList = false) := by show _ = _; rw [HLT.out]; exact hlt
    have HIe : Hid (plI ks key = i) := plI_at ks key i (by rw [← HN.out]; exact hi) HF.out (fun _ => hlt)
    have HEQ : Hid ((si.toList == sk.toList) = pB) := by
     show _ = _; rw [HPB.out, HSI.out, HSK.out, strB_inj, plB, HIe.out, ← HN.out, decide_eq_true hin]
     rfl
    obtain rfl : pI = i := by rw [HPI.out]; exact HIe.out
    clear hlt; obtain ⟨tq0, tq1⟩ := sqk2
    go_wp2_with (first
     | (clear tq0; with_reducible refine wpSeq_idxS (.tmp 14) (.tmp 15) b off n c pI HIN.out ?_ ?_ ?_ ?_ ?_
        · rfl
        · rfl
        · rfl
        · rfl)
     | (clear tq1; with_reducible refine wpSeq_sLt si sk false (.tmp 17) (.tmp 18) HL2.out ?_ ?_ ?_ ?_ ?_
        · rfl
        · rfl
        · rfl
        · rfl))
    refine wp_region_held_drew (S := Over (World.drew wr)) (by kernel_rfl) (Over.refl _) ?_
    intro hS; have HD0 : Hid ((World.drew wr).cell? ⟨gm, 0, none⟩ = some (.slice (some ⟨b, off, none⟩) n c)) := HM.out.cell 0; have HDC : Hid ((World.drew wr).cell? ⟨b, off + pI, none⟩ = some (.string si)) := hci; have HBB : Hid (Below w.heap.size w (World.drew wr)) := HB1.out.drew
    change wpAnyH _ _ _ _ _ _ _ _ (World.drew wr)
    generalize World.drew wr = y3 at *
    refine tkc 0 (.int .i64 (pI : Int)) rfl hS ?_; simp only [Act.put, sq]; refine tkc 1 (.int .i64 (pI : Int)) rfl hS ?_; simp only [Act.put, sq]; refine tkc 2 (.pointer (some ⟨gm, 0, none⟩)) rfl hS ?_; simp only [Act.put, sq]; refine tka 3 (.slice (some ⟨b, off, none⟩) n c) rfl (fun wx hx => by (have hc := below_cell hx HD0.out; simp [go_sem, hc])) hS ?_
    simp only [Act.put, sq]; refine tkc 4 (.int .i64 (n : Int)) rfl hS ?_; simp only [Act.put, sq]; refine tka 5 (.bool true) rfl (fun wx hx => by simp [go_sem, hlk]) hS ?_
    simp only [Act.put, sq]; refine tkc 6 (.bool true) rfl hS ?_; simp only [Act.put, sq]; refine tkc 7 (.pointer (some ⟨gm, 0, none⟩)) rfl hS ?_; simp only [Act.put, sq]; refine tka 8 (.slice (some ⟨b, off, none⟩) n c) rfl (fun wx hx => by (have hc := below_cell hx HD0.out; simp [go_sem, hc])) hS ?_
    simp only [Act.put, sq]; refine tkc 9 (.int .i64 (pI : Int)) rfl hS ?_; simp only [Act.put, sq]; refine tka 10 (.pointer (some ⟨b, off + pI, none⟩)) rfl (fun wx hx => by exact idxS b off n c pI HIN.out _ _ _ _ rfl rfl rfl _) hS ?_
    simp only [Act.put, sq]; refine tka 11 (.string si) rfl (fun wx hx => by (have hc := below_cell hx HDC.out; simp [go_sem, hc])) hS ?_
    simp only [Act.put, sq]; refine tkc 12 (.string sk) rfl hS ?_; simp only [Act.put, sq]; refine tka 13 (.bool pB) rfl (fun wx hx => by exact run_strOp .eql si sk _ HEQ.out (Or.inr (Or.inr (Or.inl rfl))) _ _ _ _ rfl rfl rfl _) hS ?_
    simp only [Act.put, sq]; refine tkc 14 (.bool pB) rfl hS ?_; simp only [Act.put, sq]; refine tkc 15 (.int .i64 (pI : Int)) rfl hS ?_; simp only [Act.put, sq]; refine tkc 16 (.bool pB) rfl hS ?_; simp only [Act.put, sq]; refine wpAnyH_done (by kernel_rfl) ?_ _
    clear hS; go_wp2; refine bodyPost_ret (results_tmp2 rfl _ _ _) rfl ?_; exact ⟨rfl, HBB.out⟩
   case true =>
    have HL2 : Hid (Op.bytesLess si.toList sk.toList = true) := by show _ = _; rw [HLT.out]; exact hlt
    have HF2 : Hid (∀ j, j < i + 1 → ltB (ks.getD j []) key = true) := fun j hj => by
     by_cases hji : j = i
     · rw [hji]; exact hlt
     · exact HF.out j (by omega)
    clear hlt; obtain ⟨tr0, tr1⟩ := sqk2
    go_wp2_with (first
     | (clear tr0; with_reducible refine wpSeq_idxS (.tmp 14) (.tmp 15) b off n c i HIN.out ?_ ?_ ?_ ?_ ?_
        · rfl
        · rfl
        · rfl
        · rfl)
     | (clear tr1; with_reducible refine wpSeq_sLt si sk true (.tmp 17) (.tmp 18) HL2.out ?_ ?_ ?_ ?_ ?_
        · rfl
        · rfl
        · rfl
        · rfl))
    go_roundw
    case rel => exact ⟨i + 1, by omega, by simp, HF2, trivial⟩
    case measure => simp [intOf]; omega
theorem info_keys (x y : Value) : (Tryz.prog.info? 43).map (·.size) = some [x, y].length := by kernel_rfl
theorem plB_lt {ks : List Bs} {key : Bs} (h : plB ks key = true) : plI ks key < ks.length := by
 unfold plB at h
 simp only [Bool.and_eq_true, decide_eq_true_eq] at h
 exact h.1
def GetJ (vs : List Bs) (i : Nat) (ok : Bool) (e : Ending) (w' : World) : Prop := ∃ vv, e = .returned (.tuple #[vv, .bool ok]) ∧ (ok = true → Reads w' vv (vs.getD i [])) ∧ (ok = false → vv = .slice none 0 0)
theorem oGet_any (vK vV : Value) (ks vs : List Bs) (key : Bs) (w : World) (hr : ReadsS w vK ks) (hv : ReadsL w vV vs) (he : ks.length = vs.length) (hl : ks.length < 4611686018427387904) : Calls Tryz.prog 59 #[.agg [vK, vV].toArray, .string (strB key)] w fun e w' => GetJ vs (plI ks key) (plB ks key) e w' ∧ Below w.heap.size w w' := by
 have HR : Hid (ReadsS w vK ks) := hr
 have HV : Hid (ReadsL w vV vs) := hv
 have HL : Hid (ks.length < 4611686018427387904) := hl
 have HLE : Hid (ks.length = vs.length) := he
 obtain ⟨ad, c, hvk⟩ := hr.form
 obtain ⟨n, HN⟩ := sqn (ks.length)
 rw [← HN.out] at hvk
 subst hvk
 obtain ⟨ad2, c2, hvv, _⟩ := hv
 rw [← he, ← HN.out] at hvv
 subst hvv
 obtain ⟨sk, HSK⟩ := sqn (strB key)
 obtain ⟨pI, HPI⟩ := sqn (plI ks key)
 obtain ⟨pB, HPB⟩ := sqn (plB ks key)
 rw [← HSK.out]
 rw [← HPI.out, ← HPB.out]
 clear hr hl he
 cases pB
 case false =>
  go_enter Tryz.func59, Tryz.ntmps59
  obtain ⟨ta0, ta1, ta2⟩ := sqk3
  go_wp2_with (first
   | (clear ta0; with_reducible refine wpSeq_boxW 43 (.tmp 0) [.slice ad n c, .slice ad2 n c2] ?_ ?_ ?_ ?_
      · rfl
      · rfl
      · rfl
      intro gm y1 nn; have HM : Hid (Blk y1 gm [.slice ad n c, .slice ad2 n c2] 43) := nn.blk; have HB1 : Hid (Below w.heap.size w y1) := nn.below
      have HC : Hid (Calls Tryz.prog 85 #[.agg [.slice ad n c, .slice ad2 n c2].toArray, .string sk] y1 fun e w' => e = .returned (.tuple #[.int .i64 (pI : Int), .bool false]) ∧ Below y1.heap.size y1 w') := by
       rw [HSK.out, HPI.out, HPB.out]; exact oPlace_any _ _ ks key y1 (HR.out.below nn.below) HL.out
      clear nn)
   | (clear ta1; with_reducible refine wpSeq_loadW 43 (.tmp 2) gm 0 [.slice ad n c, .slice ad2 n c2] _ (Blk.range HM.out) Tryz.underlying43 rfl (info_keys _ _) ?_ ?_ ?_ ?_
      · rfl
      · rfl
      · rfl)
   | (clear ta2; go_at_call 85; refine (HC.out).mono ?_; rintro e1 y2 ⟨rfl, hb⟩
      have HB2 : Hid (Below w.heap.size w y2) := HB1.out.trans (hb.mono HB1.out.size); have d1 : y2.cell? ⟨gm, 1, none⟩ = some (.slice ad2 n c2) := (HM.out.below hb HM.out.lt).cell 1; clear hb))
  refine bodyPost_ret (results_tmp2 rfl _ _ _) rfl ?_
  exact ⟨⟨_, rfl, fun h => (by cases h), fun _ => rfl⟩, HB2.out⟩
 case true =>
  have hlt : pI < n := by rw [HPI.out, HN.out]; exact plB_lt HPB.out.symm
  have k0 : (0 : Int) ≤ (pI : Int) := by omega
  have k1 : (pI : Int) < (n : Int) := by omega
  have HPV : Hid (pI < vs.length) := by show _ < _; rw [← HLE.out, ← HN.out]; exact hlt
  obtain ⟨b, off, vj, rfl, hcj, hrj⟩ := HV.out.atJ HPV.out
  have HCJ : Hid (w.cell? ⟨b, off + pI, none⟩ = some vj) := hcj
  have HRJ : Hid (Reads w vj (vs.getD pI [])) := hrj
  clear hcj hrj
  go_enter Tryz.func59, Tryz.ntmps59
  obtain ⟨tb0, tb1, tb2⟩ := sqk3
  go_wp2_with (first
   | (clear tb0; with_reducible refine wpSeq_boxW 43 (.tmp 0) [.slice ad n c, .slice (some ⟨b, off, none⟩) n c2] ?_ ?_ ?_ ?_
      · rfl
      · rfl
      · rfl
      intro gm y1 nn; have HM : Hid (Blk y1 gm [.slice ad n c, .slice (some ⟨b, off, none⟩) n c2] 43) := nn.blk; have HB1 : Hid (Below w.heap.size w y1) := nn.below
      have HC : Hid (Calls Tryz.prog 85 #[.agg [.slice ad n c, .slice (some ⟨b, off, none⟩) n c2].toArray, .string sk] y1 fun e w' => e = .returned (.tuple #[.int .i64 (pI : Int), .bool true]) ∧ Below y1.heap.size y1 w') := by
       rw [HSK.out, HPI.out, HPB.out]; exact oPlace_any _ _ ks key y1 (HR.out.below nn.below) HL.out
      clear nn)
   | (clear tb1; with_reducible refine wpSeq_loadW 43 (.tmp 2) gm 0 [.slice ad n c, .slice (some ⟨b, off, none⟩) n c2] _ (Blk.range HM.out) Tryz.underlying43 rfl (info_keys _ _) ?_ ?_ ?_ ?_
      · rfl
      · rfl
      · rfl)
   | (clear tb2; go_at_call 85; refine (HC.out).mono ?_; rintro e1 y2 ⟨rfl, hb⟩
      have HB2 : Hid (Below w.heap.size w y2) := HB1.out.trans (hb.mono HB1.out.size); have d1 : y2.cell? ⟨gm, 1, none⟩ = some (.slice (some ⟨b, off, none⟩) n c2) := (HM.out.below hb HM.out.lt).cell 1; clear hb; have d2 : y2.cell? ⟨b, off + pI, none⟩ = some vj := by rw [HB2.out.cell (p := ⟨b, off + pI, none⟩) (block_lt_of_cell HCJ.out)]; exact HCJ.out))
  refine bodyPost_ret (results_tmp2 rfl _ _ _) rfl ?_
  exact ⟨⟨_, rfl, fun _ => HRJ.out.below HB2.out, fun h => by cases h⟩, HB2.out⟩
end Go.Proofs.YtopmeedmgjdcgaaGreatDoor

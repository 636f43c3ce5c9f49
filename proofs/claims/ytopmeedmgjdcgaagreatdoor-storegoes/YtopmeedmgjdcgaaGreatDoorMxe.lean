/- Texts that the proof leans on, one behind the other: The walks of store.writeAct, store.within and store.Batch (layer 15). The walk of the reference's Check (layer 15). The walks of the reference's Batch and of the statements' light (layer 15). .. -/
import Derived.Test.YtopmeedmgjdcgaaGreatDoorMxd
import Derived.Defers
import Derived.Recover
import Derived.Laws.Pointers
import Derived.BigQuiet
import Derived.Deep.RegionHeld3
import Derived.Laws.Rows
import Derived.Maps.OwnSet
/- The walks of store.writeAct, store.within and store.Batch (layer 15). -/
namespace Go.Proofs.YtopmeedmgjdcgaaGreatDoor
open Go.RowKit
set_option maxRecDepth 100000
theorem wpSeq_convS {ops : Array Oper} {Q : Exit → Act → World → Prop} {rest : List Oper} {o : Oper} {a : Act} {w : World} (x : Operand) (ks : ByteArray) (k : Bs) (hk : ks = strB k) (ho : o.op = .convert 9 23 x) (hx : a.eval x = .string ks) (hw : Region.wanted o (yielded ops a.tmps) = true)
    (h : ∀ ad n c w', Reads w' (.slice ad n c) k → Below w.heap.size w w' → wpList Tryz.prog ops Q rest (a.put o.dst (.slice ad n c)) w') : wpList Tryz.prog ops Q (o :: rest) a w := by
  subst hk
  refine wpSeq_val _ _ hw ?_ (h _ _ _ _ (bytesWorld_reads k w) (bytesWorld_below k w))
  unfold execOp
  rw [ho]
  simp only [hx, Sem.run_bind, conv_string]
  rfl
theorem OwnB.neA {w : World} {base : Nat} {v : Value} {l : Bs} (h : OwnB w base v l) {g : Nat} {cs : List Value} {t : TypeId} (hb : Blk w g cs t) (ht : t ≠ 5) : v.ownBlock ≠ some g := fun e => by
  obtain ⟨h1, h2⟩ := h
  rcases h2 with ⟨rfl, h0⟩ | ⟨g2, cap, cur, rfl, hg, hh, _⟩
  · cases e
  · simp [Value.ownBlock] at e
    subst e
    unfold Blk at hb
    rw [hb] at hh
    simp only [Option.some.injEq, Obj.cells.injEq] at hh
    exact ht hh.2.1
theorem OwnB.ltS {w : World} {base : Nat} {v : Value} {l : Bs} (h : OwnB w base v l) : ∀ k, v.ownBlock = some k → base ≤ k ∧ k < w.heap.size := World.ownsRow.lt h
theorem OwnB.sameS {w w' : World} {base : Nat} {v : Value} {l : Bs} (h : OwnB w base v l) (hs : ∀ k, v.ownBlock = some k → w'.heap[k]? = w.heap[k]?) : OwnB w' base v l := by
  obtain ⟨h1, h2⟩ := h
  refine ⟨h1, ?_⟩
  rcases h2 with h2 | ⟨g, cap, cur, rfl, hg, hh, r⟩
  · exact Or.inl h2
  · exact Or.inr ⟨g, cap, cur, rfl, hg, by rw [hs g rfl]; exact hh, r⟩
theorem OwnB.newS {w w' : World} {base : Nat} {v : Value} {l : Bs} (h : OwnB w base v l) (hb : Below w.heap.size w w') : OwnB w' base v l := h.sameS (fun k hk => hb.block k (h.ltS k hk).2)
set_option maxRecDepth 100000 in
set_option maxHeartbeats 4000000 in
theorem sWriteAct_any (base : Nat) (v vd : Value) (l : Bs) (a : ActT) (w : World) (hown : OwnB w base v l) (hb : base ≤ w.heap.size) (hd : ∀ w' v', Fr w v w' v' → Reads w' vd a.data) (hl : l.length + a.key.length + a.data.length + 40 ≤ 140737488355328) :
    Calls Tryz.prog 73 #[v, .agg (actC a vd).toArray] w fun e w' => ∃ v', e = .returned v' ∧ OwnB w' base v' (l ++ encA a) ∧ Fr w v w' v' := by
  have HO : Hid (OwnB w base v l) := hown
  have HD : Hid (∀ w' v', Fr w v w' v' → Reads w' vd a.data) := hd
  have HL : Hid (l.length + a.key.length + a.data.length + 40 ≤ 140737488355328) := hl
  have HB : Hid (base ≤ w.heap.size) := hb
  obtain ⟨ad, n, c, hv⟩ := hown.reads.form
  obtain ⟨av, nv, cv, hvd⟩ := (hd w v (Fr.refl _ _)).form
  subst hv hvd
  obtain ⟨ks, HKS⟩ : ∃ s, Hid (s = strB a.key) := ⟨_, rfl⟩
  obtain ⟨st, HST⟩ : ∃ s, Hid (s = a.set) := ⟨_, rfl⟩
  rw [actC, ← HKS.out, ← HST.out]
  have HE : Hid (encA a = encText a.key ++ (if st then encNum 1 ++ encText a.data else encNum 0)) := by show _ = _; rw [encA, HST.out]
  have HEK : Hid ((encText a.key).length ≤ a.key.length + 10) := by show _ ≤ _; rw [encText, List.length_append]; have := enc_len10 a.key.length (by omega); omega
  clear hown hb hd hl
  cases st with
  | false =>
    go_enter Tryz.func73, Tryz.ntmps73
    have tk0 : Hid True := trivial
    have tk1 : Hid True := trivial
    have tk2 : Hid True := trivial
    have tk3 : Hid True := trivial
    go_wp2_with (first
      | (clear tk0; with_reducible refine wpSeq_boxW 62 (.tmp 1) [.string ks, .bool false, .slice av nv cv] ?_ ?_ ?_ ?_
         · rfl
         · rfl
         · rfl
         intro g3 y1 nn
         have HG3 : Hid (Blk y1 g3 [.string ks, .bool false, .slice av nv cv] 62 ∧ w.heap.size ≤ g3) := ⟨nn.blk, nn.ge⟩
         have HF1 : Hid (Fr w (.slice ad n c) y1 (.slice ad n c)) := Fr.ofNew nn.below _
         have HO1 : Hid (OwnB y1 base (.slice ad n c) l) := HO.out.newS nn.below
         have c0 : y1.cell? ⟨g3, 0, none⟩ = some (.string ks) := nn.blk.cell 0
         clear nn)
      | (clear tk1; with_reducible refine wpSeq_convS (.tmp 7) ks a.key HKS.out ?_ ?_ ?_ ?_
         · rfl
         · rfl
         · rfl
         intro ak nk ck y2 hrk hbk
         have HRK : Hid (Reads y2 (.slice ak nk ck) a.key) := hrk
         have HF2 : Hid (Fr w (.slice ad n c) y2 (.slice ad n c)) := HF1.out.trans (Fr.ofNew hbk _)
         have HO2 : Hid (OwnB y2 base (.slice ad n c) l) := HO1.out.newS hbk
         have HG2 : Hid (Blk y2 g3 [.string ks, .bool false, .slice av nv cv] 62) := HG3.out.1.below hbk HG3.out.1.lt
         clear hrk hbk c0)
      | (clear tk2; go_at_call 97; refine (ctext_fr base _ _ l a.key _ HO2.out HRK.out (Nat.le_trans HB.out HF2.out.size) (by have := HL.out; omega)).mono ?_; rintro e0 y3 ⟨v3, rfl, ho3, hf3⟩
         have HO3 : Hid (OwnB y3 base v3 (l ++ encText a.key)) := ho3
         have HF3 : Hid (Fr w (.slice ad n c) y3 v3) := HF2.out.trans hf3
         have HK3 : Hid (Blk y3 g3 [.string ks, .bool false, .slice av nv cv] 62) := hf3.blk HG2.out (HO2.out.neA HG2.out (by decide))
         have c1 : y3.cell? ⟨g3, 1, none⟩ = some (.bool false) := HK3.out.cell 1
         obtain ⟨a3, n3, c3, hv3⟩ := ho3.reads.form
         subst hv3
         clear ho3 hf3)
      | (clear tk3; go_at_call 72; refine (cnum_fr base _ _ 0 (by decide) _ HO3.out (Nat.le_trans HB.out HF3.out.size) (by rw [List.length_append]; have h1 := HL.out; have h2 := HEK.out; omega)).mono ?_; rintro e0 y4 ⟨v4, rfl, ho4, hf4⟩
         have HO4 : Hid (OwnB y4 base v4 (l ++ encA a)) := by rw [HE.out, if_neg Bool.false_ne_true, ← List.append_assoc]; exact ho4
         have HF4 : Hid (Fr w (.slice ad n c) y4 v4) := HF3.out.trans hf4
         obtain ⟨a4, n4, c4, hv4⟩ := ho4.reads.form
         subst hv4
         clear ho4 hf4 c1))
    go_ret
    exact ⟨_, rfl, HO4.out, HF4.out⟩
  | true =>
    go_enter Tryz.func73, Tryz.ntmps73
    have tk0 : Hid True := trivial
    have tk1 : Hid True := trivial
    have tk2 : Hid True := trivial
    go_wp2_with (first
      | (clear tk0; with_reducible refine wpSeq_boxW 62 (.tmp 1) [.string ks, .bool true, .slice av nv cv] ?_ ?_ ?_ ?_
         · rfl
         · rfl
         · rfl
         intro g3 y1 nn
         have HG3 : Hid (Blk y1 g3 [.string ks, .bool true, .slice av nv cv] 62 ∧ w.heap.size ≤ g3) := ⟨nn.blk, nn.ge⟩
         have HF1 : Hid (Fr w (.slice ad n c) y1 (.slice ad n c)) := Fr.ofNew nn.below _
         have HO1 : Hid (OwnB y1 base (.slice ad n c) l) := HO.out.newS nn.below
         have c0 : y1.cell? ⟨g3, 0, none⟩ = some (.string ks) := nn.blk.cell 0
         clear nn)
      | (clear tk1; with_reducible refine wpSeq_convS (.tmp 7) ks a.key HKS.out ?_ ?_ ?_ ?_
         · rfl
         · rfl
         · rfl
         intro ak nk ck y2 hrk hbk
         have HRK : Hid (Reads y2 (.slice ak nk ck) a.key) := hrk
         have HF2 : Hid (Fr w (.slice ad n c) y2 (.slice ad n c)) := HF1.out.trans (Fr.ofNew hbk _)
         have HO2 : Hid (OwnB y2 base (.slice ad n c) l) := HO1.out.newS hbk
         have HG2 : Hid (Blk y2 g3 [.string ks, .bool true, .slice av nv cv] 62) := HG3.out.1.below hbk HG3.out.1.lt
         clear hrk hbk c0)
      | (clear tk2; go_at_call 97; refine (ctext_fr base _ _ l a.key _ HO2.out HRK.out (Nat.le_trans HB.out HF2.out.size) (by have := HL.out; omega)).mono ?_; rintro e0 y3 ⟨v3, rfl, ho3, hf3⟩
         have HO3 : Hid (OwnB y3 base v3 (l ++ encText a.key)) := ho3
         have HF3 : Hid (Fr w (.slice ad n c) y3 v3) := HF2.out.trans hf3
         have HK3 : Hid (Blk y3 g3 [.string ks, .bool true, .slice av nv cv] 62) := hf3.blk HG2.out (HO2.out.neA HG2.out (by decide))
         have c1 : y3.cell? ⟨g3, 1, none⟩ = some (.bool true) := HK3.out.cell 1
         obtain ⟨a3, n3, c3, hv3⟩ := ho3.reads.form
         subst hv3
         clear ho3 hf3))
    clear c1
    refine wp_region_held_drew (S := fun wx => Blk wx g3 [.string ks, .bool true, .slice av nv cv] 62) (by kernel_rfl) HK3.out.drew ?_
    intro hS
    have HO4 : Hid (OwnB (World.drew y3) base (.slice a3 n3 c3) (l ++ encText a.key)) := HO3.out
    have HF4 : Hid (Fr w (.slice ad n c) (World.drew y3) (.slice a3 n3 c3)) := HF3.out.trans (Fr.ofNew (Below.refl _ _).drew _)
    change wpAnyH _ _ _ _ _ _ _ _ (World.drew y3)
    generalize World.drew y3 = y4 at *
    refine wpAnyH_take (i := 0) (v := .slice a3 n3 c3) rfl (by kernel_rfl) (by kernel_rfl) (by kernel_rfl) (fun _ _ _ h => h) (Or.inl ⟨by rfl, fun wx hx => by simp [go_sem]⟩) hS ?_
    simp only [Act.put, List.getElem_toArray, List.getElem_cons_zero, List.setIfInBounds_toArray, List.set_cons_zero, List.set_cons_succ]
    refine wpAnyH_take (i := 2) (v := .pointer (some ⟨g3, 2, none⟩)) rfl (by kernel_rfl) (by kernel_rfl) (by kernel_rfl) (fun _ _ _ h => h) (Or.inl ⟨by rfl, fun wx hx => by simp [go_sem]⟩) hS ?_
    simp only [Act.put, List.getElem_toArray, List.getElem_cons_succ, List.getElem_cons_zero, List.setIfInBounds_toArray, List.set_cons_zero, List.set_cons_succ]
    refine wpAnyH_take (i := 3) (v := .slice av nv cv) rfl (by kernel_rfl) (by kernel_rfl) (by kernel_rfl) (fun _ _ _ h => h) (Or.inl ⟨by rfl, fun wx hx => by (have hc := hx.cell 2; simp at hc; simp [go_sem, hc])⟩) hS ?_
    simp only [Act.put, List.getElem_toArray, List.getElem_cons_succ, List.getElem_cons_zero, List.setIfInBounds_toArray, List.set_cons_zero, List.set_cons_succ]
    refine wpAnyH_enter 1 (by kernel_rfl) rfl (by rfl) (f := 72) (args := #[.slice a3 n3 c3, .int .u64 ((1 : Nat) : Int)]) (by simp [go_sem]) (cnum_fr base _ _ 1 (by decide) _ HO4.out (Nat.le_trans HB.out HF4.out.size) (by rw [List.length_append]; have h1 := HL.out; have h2 := HEK.out; omega)) ?_
    rintro e y5 ⟨v5, rfl, ho5, hf5⟩
    have hS5 : Blk y5 g3 [.string ks, .bool true, .slice av nv cv] 62 := hf5.blk hS (HO4.out.neA hS (by decide))
    refine ⟨_, rfl, hS5, ?_⟩
    obtain ⟨a5, n5, c5, hv5⟩ := ho5.reads.form
    subst hv5
    have HF5 : Hid (Fr w (.slice ad n c) y5 (.slice a5 n5 c5)) := HF4.out.trans hf5
    have HO5 : Hid (OwnB y5 base (.slice a5 n5 c5) (l ++ encText a.key ++ encNum 1)) := ho5
    clear ho5 hf5 hS
    simp only [Act.put, List.getElem_toArray, List.getElem_cons_succ, List.getElem_cons_zero, List.setIfInBounds_toArray, List.set_cons_zero, List.set_cons_succ]
    refine wpAnyH_enter 4 (by kernel_rfl) rfl (by rfl) (f := 97) (args := #[.slice a5 n5 c5, .slice av nv cv]) (by simp [go_sem]) (ctext_fr base _ _ _ a.data _ HO5.out (HD.out _ _ HF5.out) (Nat.le_trans HB.out HF5.out.size) (by rw [List.length_append, List.length_append, show (encNum 1).length = 1 from by rw [encNum_lt (by decide)]; rfl]; have h1 := HL.out; have h2 := HEK.out; omega)) ?_
    rintro e y6 ⟨v6, rfl, ho6, hf6⟩
    refine ⟨_, rfl, hf6.blk hS5 (HO5.out.neA hS5 (by decide)), ?_⟩
    obtain ⟨a6, n6, c6, hv6⟩ := ho6.reads.form
    subst hv6
    have HF6 : Hid (Fr w (.slice ad n c) y6 (.slice a6 n6 c6)) := HF5.out.trans hf6
    have HO6 : Hid (OwnB y6 base (.slice a6 n6 c6) (l ++ encA a)) := by
      have he := HE.out
      simp only [if_true] at he
      rw [he]
      simp only [List.append_assoc] at ho6 ⊢
      exact ho6
    have hS6 := hf6.blk hS5 (HO5.out.neA hS5 (by decide))
    clear ho6 hf6 hS5
    simp only [Act.put, List.getElem_toArray, List.getElem_cons_succ, List.getElem_cons_zero, List.setIfInBounds_toArray, List.set_cons_zero, List.set_cons_succ]
    refine wpAnyH_take (i := 5) (v := .slice a6 n6 c6) rfl (by kernel_rfl) (by kernel_rfl) (by kernel_rfl) (fun _ _ _ h => h) (Or.inl ⟨by rfl, fun wx hx => by simp [go_sem]⟩) hS6 ?_
    simp only [Act.put, List.getElem_toArray, List.getElem_cons_succ, List.getElem_cons_zero, List.setIfInBounds_toArray, List.set_cons_zero, List.set_cons_succ]
    refine wpAnyH_done (by kernel_rfl) ?_ _
    go_wp2
    go_ret
    exact ⟨_, rfl, HO6.out, HF6.out⟩
theorem encAll_snoc (l : List ActT) (a : ActT) : encAll encA (l ++ [a]) = encAll encA l ++ encA a := by simp [encAll]
theorem batch_take {l : List ActT} {i : Nat} (hi : i < l.length) : encNum l.length ++ encAll encA (l.take (i + 1)) = (encNum l.length ++ encAll encA (l.take i)) ++ encA (l.getD i ⟨[], false, []⟩) := by rw [take_act hi, encAll_snoc, List.append_assoc]
theorem batch_pre (l : List ActT) (i : Nat) : (encNum l.length ++ encAll encA (l.take i)).length ≤ (batchB l).length := by
  have e : encAll encA l = encAll encA (l.take i) ++ encAll encA (l.drop i) := by
    rw [encAll, encAll, encAll, ← List.flatten_append, ← List.map_append, List.take_append_drop]
  unfold batchB encList
  rw [e, List.length_append, List.length_append, List.length_append]
  omega
theorem encA_len (a : ActT) : a.key.length + a.data.length ≤ (encA a).length + (if a.set then 0 else a.data.length) := by
  unfold encA
  split <;> simp only [encText, List.length_append] <;> omega
theorem enc_in : ∀ (l : List ActT) (a : ActT), a ∈ l → (encA a).length ≤ (encAll encA l).length
  | [], _, h => by cases h
  | b :: l, a, h => by
    rw [encAll_cons, List.length_append]
    rcases List.mem_cons.1 h with rfl | h
    · omega
    · have := enc_in l a h
      omega
theorem encA_big {l : List ActT} {a : ActT} (ha : a ∈ l) : (encA a).length ≤ (batchB l).length := by
  unfold batchB encList
  rw [List.length_append]
  have := enc_in l a ha
  omega
/-- acts whose sizes are not too great for bytes to be made of them -/
structure okZ (l : List ActT) : Prop where
  n : l.length ≤ 1000000
  z : (batchB l).length ≤ 4500000000
  d : ∀ a ∈ l, a.data.length ≤ 100000000
set_option maxRecDepth 100000 in
set_option maxHeartbeats 4000000 in
theorem sWithin_any (v : Value) (l : List ActT) (most : Int) (w : World) (hr : ReadsA w v l) (hz : okZ l) : Calls Tryz.prog 46 #[v, .int .i64 most] w fun e w' => ∃ vb, e = .returned (.tuple #[vb, .bool (decide (((batchB l).length : Int) ≤ most))]) ∧ (((batchB l).length : Int) ≤ most → OwnB w' w.heap.size vb (batchB l)) ∧ Below w.heap.size w w' := by
  have HR : Hid (ReadsA w v l) := hr
  have HZ : Hid (okZ l) := hz
  obtain ⟨n, HN⟩ : ∃ n, Hid (n = l.length) := ⟨_, rfl⟩
  obtain ⟨ad, c, hv⟩ := hr.form
  rw [← HN.out] at hv
  subst hv
  have HNB : Hid (n ≤ 1000000) := by rw [HN.out]; exact hz.n
  have f0 : IntKind.u64.wrap (n : Int) = (n : Int) := by rw [IntKind.wrap_u64]; have := HNB.out; omega
  obtain ⟨ok, HOK⟩ : ∃ b, Hid (b = decide (((batchB l).length : Int) ≤ most)) := ⟨_, rfl⟩
  rw [← HOK.out]
  clear hr hz
  go_enter Tryz.func46, Tryz.ntmps46
  have tk0 : Hid True := trivial
  go_wp2_with (first
    | (clear tk0; go_at_call 72; refine (cnum_fr w.heap.size (.slice none 0 0) [] n (by have := HNB.out; omega) _ (OwnB.nil _ _) (Nat.le_refl _) (by simp)).mono ?_; rintro e0 y1 ⟨v1, rfl, ho1, hf1⟩
       have HB0 : Hid (OwnB y1 w.heap.size v1 (encNum l.length ++ encAll encA (l.take 0))) := by
         show OwnB _ _ _ _
         rw [List.nil_append] at ho1
         rw [← HN.out, List.take_zero, show encAll encA [] = [] from rfl, List.append_nil]
         exact ho1
       have HB1 : Hid (Below w.heap.size w y1) := hf1.below (Nat.le_refl _) (fun k hk => by cases hk)
       obtain ⟨a1, n1, c1, hv1⟩ := ho1.reads.form
       subst hv1
       clear ho1 hf1))
  clear f0
  go_loopw [6, 7] (fun bv iv W => ∃ (ab : Option Addr) (nb cb i : Nat), bv = .slice ab nb cb ∧ iv = .int .i64 (i : Int) ∧ i ≤ n ∧ Hid (nb = (encNum l.length ++ encAll encA (l.take i)).length) ∧ Hid (OwnB W w.heap.size (.slice ab nb cb) (encNum l.length ++ encAll encA (l.take i))) ∧ Hid (Below w.heap.size w W)) (fun _ iv _ => n - (intOf iv).toNat)
  case atStart => exact ⟨a1, n1, c1, 0, rfl, rfl, Nat.zero_le _, (by obtain ⟨x, y, h, _⟩ := HB0.out.reads; simp only [Value.slice.injEq] at h; exact h.2.1), HB0, HB1⟩
  case round =>
    clear HB0 HB1
    obtain ⟨ab, nb, cb, i, rfl, rfl, hi, HNb, HBB, HBW⟩ := hrel
    have HPRE : Hid (nb ≤ (batchB l).length) := by rw [HNb.out]; exact batch_pre l i
    by_cases hin : i < n
    case pos =>
      have hlk : (i : Int) < (n : Int) := by omega
      by_cases hm : (nb : Int) ≤ most
      case pos =>
        have f1 : IntKind.i64.wrap ((i : Int) + 1) = (i : Int) + 1 := by rw [IntKind.wrap_i64]; have := HNB.out; omega
        have HIN : Hid (i < n) := hin
        have hil : i < l.length := by rw [← HN.out]; exact hin
        obtain ⟨b, off, vd, rfl, hrg, hrd⟩ := HR.out.at hil
        have hbt := batch_take hil
        obtain ⟨a, HA⟩ : ∃ a, Hid (a = l.getD i ⟨[], false, []⟩) := ⟨_, rfl⟩
        have hmem : a ∈ l := by rw [HA.out, List.getD_eq_getElem?_getD, List.getElem?_eq_getElem hil]; exact List.getElem_mem hil
        rw [← HA.out] at hrg hrd hbt
        obtain ⟨ks, HKS⟩ : ∃ s, Hid (s = strB a.key) := ⟨_, rfl⟩
        obtain ⟨st, HST⟩ : ∃ s, Hid (s = a.set) := ⟨_, rfl⟩
        obtain ⟨av, nv, cv, hvd⟩ := hrd.form
        subst hvd
        have HCE : Hid (actC a (.slice av nv cv) = [.string ks, .bool st, .slice av nv cv]) := by show _ = _; rw [actC, HKS.out, HST.out]
        rw [HCE.out] at hrg
        have HRG : Hid (wr.rangeAt b (off + i * 3) [.string ks, .bool st, .slice av nv cv]) := range_below hrg HBW.out (block_lt_of_cell (hrg 0 _ rfl))
        have HWA : Hid (Calls Tryz.prog 73 #[.slice ab nb cb, .agg [.string ks, .bool st, .slice av nv cv].toArray] wr fun e w' => ∃ v', e = .returned v' ∧ OwnB w' w.heap.size v' (encNum l.length ++ encAll encA (l.take (i + 1))) ∧ Fr wr (.slice ab nb cb) w' v') := by
          have h := sWriteAct_any w.heap.size (.slice ab nb cb) (.slice av nv cv) _ a wr HBB.out HBW.out.size (fun w' v' hf => hrd.below (HBW.out.trans (hf.below HBW.out.size (fun k hk => (HBB.out.ltS k hk).1)))) (by
            have h1 := HPRE.out
            rw [HNb.out] at h1
            have h2 := HZ.out.z
            have h3 := encA_big hmem
            have h4 := encA_len a
            have h5 := HZ.out.d a hmem
            split at h4 <;> omega)
          rw [HCE.out, ← hbt] at h
          exact h
        clear hrg hrd hbt hmem hil
        have tk0 : Hid True := trivial
        have tk1 : Hid True := trivial
        have tk2 : Hid True := trivial
        go_wp2_with (first
          | (clear tk0; with_reducible refine wpSeq_idxA (.tmp 25) (.tmp 26) b off n c i HIN.out ?_ ?_ ?_ ?_ ?_
             · rfl
             · rfl
             · rfl
             · rfl)
          | (clear tk1; with_reducible refine wpSeq_loadW 62 (.tmp 27) b (off + i * 3) [.string ks, .bool st, .slice av nv cv] _ HRG.out Tryz.underlying62 rfl (info_act15 _ _ _) ?_ ?_ ?_ ?_
             · rfl
             · rfl
             · rfl)
          | (clear tk2; go_at_call 73; refine (HWA.out).mono ?_; rintro e0 y2 ⟨v2, rfl, ho2, hf2⟩
             have HO2 : Hid (OwnB y2 w.heap.size v2 (encNum l.length ++ encAll encA (l.take (i + 1)))) := ho2
             have HB2 : Hid (Below w.heap.size w y2) := HBW.out.trans (hf2.below HBW.out.size (fun k hk => (HBB.out.ltS k hk).1))
             obtain ⟨n2, HN2⟩ : ∃ n, Hid (n = (encNum l.length ++ encAll encA (l.take (i + 1))).length) := ⟨_, rfl⟩
             obtain ⟨a2, c2, hv2⟩ : ∃ a c, v2 = .slice a n2 c := by obtain ⟨x, y, h, _⟩ := ho2.reads; exact ⟨x, y, by rw [HN2.out]; exact h⟩
             subst hv2
             clear ho2 hf2))
        go_roundw
        case rel => exact ⟨a2, n2, c2, i + 1, rfl, by simp, by omega, HN2, HO2, HB2⟩
        case measure => simp [intOf]; omega
      case neg =>
        obtain rfl : ok = false := by rw [HOK.out, decide_eq_false]; have := HPRE.out; omega
        have HNO : Hid (¬ (((batchB l).length : Int) ≤ most)) := by have := HPRE.out; show ¬ _; omega
        go_wp2
        refine bodyPost_ret (results_tmp2 rfl _ _ _) rfl ?_
        exact ⟨_, rfl, fun h => absurd h (by have := HNO.out; omega), HBW.out⟩
    case neg =>
      have hlk : ¬ ((i : Int) < (n : Int)) := by omega
      have hall : encNum l.length ++ encAll encA (l.take i) = batchB l := by rw [List.take_of_length_le (by rw [← HN.out]; omega)]; rfl
      rw [hall] at HNb HBB
      have HBF : Hid (OwnB wr w.heap.size (.slice ab nb cb) (batchB l)) := HBB.out
      have HOE : Hid (ok = decide ((nb : Int) ≤ most)) := by rw [HNb.out]; exact HOK.out
      by_cases hm : (nb : Int) ≤ most
      · obtain rfl : ok = true := by rw [HOE.out, decide_eq_true hm]
        go_wp2
        refine bodyPost_ret (results_tmp2 rfl _ _ _) rfl ?_
        exact ⟨_, rfl, fun _ => HBF.out, HBW.out⟩
      · obtain rfl : ok = false := by rw [HOE.out, decide_eq_false hm]
        have HNO : Hid (¬ (((batchB l).length : Int) ≤ most)) := by rw [← HNb.out]; exact hm
        go_wp2
        refine bodyPost_ret (results_tmp2 rfl _ _ _) rfl ?_
        exact ⟨_, rfl, fun h => absurd h (by have := HNO.out; omega), HBW.out⟩
end Go.Proofs.YtopmeedmgjdcgaaGreatDoor
/- The walk of the reference's Check (layer 15). -/
namespace Go.Proofs.YtopmeedmgjdcgaaGreatDoor
open Go.RowKit
set_option maxRecDepth 100000
set_option maxRecDepth 100000 in
set_option maxHeartbeats 4000000 in
theorem oCheck_any (v : Value) (l : List ActT) (w : World) (hr : ReadsA w v l) : Calls Tryz.prog 14 #[v] w fun e w' => e = .returned (.int .i64 (chkL l)) ∧ Below w.heap.size w w' := by
  have HR : Hid (ReadsA w v l) := hr
  obtain ⟨n, HN⟩ : ∃ n, Hid (n = l.length) := ⟨_, rfl⟩
  obtain ⟨ad, c, hv⟩ := hr.form
  rw [← HN.out] at hv
  subst hv
  obtain ⟨X, HX⟩ : ∃ x, Hid (x = chkL l) := ⟨_, rfl⟩
  rw [← HX.out]
  clear hr
  by_cases h4 : 4096 < n
  · have q1 : (4096 : Int) < (n : Int) := by omega
    obtain rfl : X = 1 := by rw [HX.out, chkL, if_neg (fun h => by have := HN.out; omega)]
    go_enter Tryz.func14, Tryz.ntmps14
    go_wp2
    go_ret
    exact ⟨rfl, Below.refl _ _⟩
  have q1 : ¬ ((4096 : Int) < (n : Int)) := by omega
  have H4 : Hid (n ≤ 4096) := by show _ ≤ _; omega
  clear h4
  go_enter Tryz.func14, Tryz.ntmps14
  go_wp2
  clear q1
  go_loopw [3] (fun iv W => ∃ i : Nat, i ≤ n ∧ iv = .int .i64 (i : Int) ∧ Hid (goodF [] (l.take i) = true) ∧ Hid (Below w.heap.size w W)) (fun iv _ => n - (intOf iv).toNat)
  case atStart => exact ⟨0, Nat.zero_le _, rfl, rfl, Below.refl _ _⟩
  case round =>
    obtain ⟨i, hi, rfl, HGF, HBW⟩ := hrel
    by_cases hin : i < n
    case neg =>
      have hlk : ¬ ((i : Int) < (n : Int)) := by omega
      obtain rfl : X = 0 := by
        have h := HGF.out
        rw [List.take_of_length_le (by rw [← HN.out]; omega)] at h
        rw [HX.out, chkL, if_pos ⟨by rw [← HN.out]; exact H4.out, h⟩]
      go_wp2
      go_ret
      exact ⟨rfl, HBW.out⟩
    case pos =>
      have hlk : (i : Int) < (n : Int) := by omega
      have f1 : IntKind.i64.wrap ((i : Int) + 1) = (i : Int) + 1 := by rw [IntKind.wrap_i64]; have := H4.out; omega
      have HIN : Hid (i < n) := hin
      have hil : i < l.length := by rw [← HN.out]; exact hin
      obtain ⟨b, off, vd, rfl, hrg, hrd⟩ := (HR.out.below HBW.out).at hil
      have hst := goodF_step hil HGF.out
      obtain ⟨a, HA⟩ : ∃ a, Hid (a = l.getD i ⟨[], false, []⟩) := ⟨_, rfl⟩
      rw [← HA.out] at hrg hrd hst
      obtain ⟨ks, HKS⟩ : ∃ s, Hid (s = strB a.key) := ⟨_, rfl⟩
      obtain ⟨st, HST⟩ : ∃ s, Hid (s = a.set) := ⟨_, rfl⟩
      obtain ⟨nv, HNV⟩ : ∃ n, Hid (n = a.data.length) := ⟨_, rfl⟩
      obtain ⟨av, cv, hvd⟩ : ∃ x c, vd = .slice x nv c := by obtain ⟨x, c, hv, _⟩ := hrd; exact ⟨x, c, by rw [HNV.out]; exact hv⟩
      subst hvd
      have HRG : Hid (wr.rangeAt b (off + i * 3) [.string ks, .bool st, .slice av nv cv]) := by rw [HKS.out, HST.out]; exact hrg
      obtain ⟨kn, HKN⟩ : ∃ k, Hid (k = a.key.length) := ⟨_, rfl⟩
      have hsz : ks.size = kn := by rw [HKS.out, strB_size, HKN.out]
      obtain ⟨lt, HLT⟩ : ∃ b, Hid (b = ltB (lastK [] (l.take i)) a.key) := ⟨_, rfl⟩
      have HST2 : Hid (goodF [] (l.take (i + 1)) = (lt && (decide (kn ≤ 64) && (if st then decide (nv ≤ 1048576) else decide (nv = 0))))) := by show _ = _; rw [hst, okA_may, mayD, HLT.out, HKN.out, HST.out, HNV.out]
      have HBAD : Hid (goodF [] (l.take (i + 1)) = false → X = 1) := fun h => by rw [HX.out, chkL, if_neg (fun h2 => by rw [goodF_bad h] at h2; cases h2.2)]
      have HK0 : Hid (kn < 1 → lt = false) := fun h => by
        have e : a.key = [] := List.eq_nil_of_length_eq_zero (by rw [← HKN.out]; omega)
        rw [HLT.out, e]
        cases lastK [] (l.take i) <;> rfl
      have HLT0 : Hid (i = 0 → 1 ≤ kn → lt = true) := fun h0 h1 => by
        rw [HLT.out, h0]
        show ltB [] a.key = true
        rw [ltB_nil]
        intro e
        rw [HKN.out, e] at h1
        cases h1
      have HLTP : Hid (0 < i → (Op.bytesLess (strB a.key).toList (strB (l.getD (i - 1) ⟨[], false, []⟩).key).toList || ((strB a.key).toList == (strB (l.getD (i - 1) ⟨[], false, []⟩).key).toList)) = !lt) := fun h0 => by
        have h1 := lastK_step (l := l) (i := i - 1) (by omega)
        rw [show i - 1 + 1 = i by omega] at h1
        rw [leq_str, HLT.out, h1]
      clear hrg hrd hst
      by_cases h1 : kn < 1
      · have q2 : (kn : Int) < 1 := by omega
        obtain rfl : X = 1 := HBAD.out (by
          rw [HST2.out]
          rw [HK0.out h1]; rfl)
        have tk0 : Hid True := trivial
        have tk1 : Hid True := trivial
        have tk2 : Hid True := trivial
        have tk3 : Hid True := trivial
        go_wp2_with (first
          | (clear tk0; with_reducible refine wpSeq_idxA (.tmp 14) (.tmp 15) b off n c i HIN.out ?_ ?_ ?_ ?_ ?_
             · rfl
             · rfl
             · rfl
             · rfl)
          | (clear tk1; with_reducible refine wpSeq_loadW 62 (.tmp 16) b (off + i * 3) [.string ks, .bool st, .slice av nv cv] _ HRG.out Tryz.underlying62 rfl (info_act15 _ _ _) ?_ ?_ ?_ ?_
             · rfl
             · rfl
             · rfl)
          | (clear tk2; with_reducible refine wpSeq_allocA ?_ ?_ ?_
             · rfl
             · rfl
             intro g4 y1 nn
             have HG4 : Hid (Blk y1 g4 zA 62 ∧ wr.heap.size ≤ g4) := ⟨nn.blk, nn.ge⟩
             have HB1 : Hid (Below wr.heap.size wr y1) := nn.below
             clear nn)
          | (clear tk3; with_reducible refine wpSeq_storeRow 62 (.tmp 4) (.tmp 17) g4 zA [.string ks, .bool st, .slice av nv cv] HG4.out.1 rfl (info_act15 _ _ _) (one_act _ _ _ _ _) ?_ ?_ ?_ ?_ ?_
             · rfl
             · rfl
             · rfl
             · rfl
             intro y2 hset
             have HK4 : Hid (Blk y2 g4 [.string ks, .bool st, .slice av nv cv] 62) := hset.blk
             have c0 : y2.cell? ⟨g4, 0, none⟩ = some (.string ks) := hset.blk.cell 0
             have c1 : y2.cell? ⟨g4, 1, none⟩ = some (.bool st) := hset.blk.cell 1
             have c2 : y2.cell? ⟨g4, 2, none⟩ = some (.slice av nv cv) := hset.blk.cell 2
             have HB3 : Hid (Below wr.heap.size wr y2) := HB1.out.trans (hset.only.below HG4.out.2 HB1.out.size)
             have HB2 : Hid (Below w.heap.size w y2) := HBW.out.trans (HB3.out.mono HBW.out.size)
             clear hset))
        go_ret
        exact ⟨rfl, HB2.out⟩
      have q2 : ¬ ((kn : Int) < 1) := by omega
      by_cases h2 : 64 < kn
      · have q3 : (64 : Int) < (kn : Int) := by omega
        obtain rfl : X = 1 := HBAD.out (by
          rw [HST2.out]
          rw [decide_eq_false (by omega)]; simp)
        have tk0 : Hid True := trivial
        have tk1 : Hid True := trivial
        have tk2 : Hid True := trivial
        have tk3 : Hid True := trivial
        go_wp2_with (first
          | (clear tk0; with_reducible refine wpSeq_idxA (.tmp 14) (.tmp 15) b off n c i HIN.out ?_ ?_ ?_ ?_ ?_
             · rfl
             · rfl
             · rfl
             · rfl)
          | (clear tk1; with_reducible refine wpSeq_loadW 62 (.tmp 16) b (off + i * 3) [.string ks, .bool st, .slice av nv cv] _ HRG.out Tryz.underlying62 rfl (info_act15 _ _ _) ?_ ?_ ?_ ?_
             · rfl
             · rfl
             · rfl)
          | (clear tk2; with_reducible refine wpSeq_allocA ?_ ?_ ?_
             · rfl
             · rfl
             intro g4 y1 nn
             have HG4 : Hid (Blk y1 g4 zA 62 ∧ wr.heap.size ≤ g4) := ⟨nn.blk, nn.ge⟩
             have HB1 : Hid (Below wr.heap.size wr y1) := nn.below
             clear nn)
          | (clear tk3; with_reducible refine wpSeq_storeRow 62 (.tmp 4) (.tmp 17) g4 zA [.string ks, .bool st, .slice av nv cv] HG4.out.1 rfl (info_act15 _ _ _) (one_act _ _ _ _ _) ?_ ?_ ?_ ?_ ?_
             · rfl
             · rfl
             · rfl
             · rfl
             intro y2 hset
             have HK4 : Hid (Blk y2 g4 [.string ks, .bool st, .slice av nv cv] 62) := hset.blk
             have c0 : y2.cell? ⟨g4, 0, none⟩ = some (.string ks) := hset.blk.cell 0
             have c1 : y2.cell? ⟨g4, 1, none⟩ = some (.bool st) := hset.blk.cell 1
             have c2 : y2.cell? ⟨g4, 2, none⟩ = some (.slice av nv cv) := hset.blk.cell 2
             have HB3 : Hid (Below wr.heap.size wr y2) := HB1.out.trans (hset.only.below HG4.out.2 HB1.out.size)
             have HB2 : Hid (Below w.heap.size w y2) := HBW.out.trans (HB3.out.mono HBW.out.size)
             clear hset))
        go_ret
        exact ⟨rfl, HB2.out⟩
      have q3 : ¬ ((64 : Int) < (kn : Int)) := by omega
      have HSM : Hid (1 ≤ kn ∧ kn ≤ 64) := ⟨by omega, by omega⟩
      by_cases h3 : st = false ∧ 0 < nv
      · obtain ⟨rfl, h3⟩ := h3
        have q4 : (0 : Int) < (nv : Int) := by omega
        obtain rfl : X = 1 := HBAD.out (by
          rw [HST2.out]
          have hq : ¬ (nv = 0) := by omega
          rw [if_neg Bool.false_ne_true, decide_eq_false hq]; simp)
        have tk0 : Hid True := trivial
        have tk1 : Hid True := trivial
        have tk2 : Hid True := trivial
        have tk3 : Hid True := trivial
        go_wp2_with (first
          | (clear tk0; with_reducible refine wpSeq_idxA (.tmp 14) (.tmp 15) b off n c i HIN.out ?_ ?_ ?_ ?_ ?_
             · rfl
             · rfl
             · rfl
             · rfl)
          | (clear tk1; with_reducible refine wpSeq_loadW 62 (.tmp 16) b (off + i * 3) [.string ks, .bool false, .slice av nv cv] _ HRG.out Tryz.underlying62 rfl (info_act15 _ _ _) ?_ ?_ ?_ ?_
             · rfl
             · rfl
             · rfl)
          | (clear tk2; with_reducible refine wpSeq_allocA ?_ ?_ ?_
             · rfl
             · rfl
             intro g4 y1 nn
             have HG4 : Hid (Blk y1 g4 zA 62 ∧ wr.heap.size ≤ g4) := ⟨nn.blk, nn.ge⟩
             have HB1 : Hid (Below wr.heap.size wr y1) := nn.below
             clear nn)
          | (clear tk3; with_reducible refine wpSeq_storeRow 62 (.tmp 4) (.tmp 17) g4 zA [.string ks, .bool false, .slice av nv cv] HG4.out.1 rfl (info_act15 _ _ _) (one_act _ _ _ _ _) ?_ ?_ ?_ ?_ ?_
             · rfl
             · rfl
             · rfl
             · rfl
             intro y2 hset
             have HK4 : Hid (Blk y2 g4 [.string ks, .bool false, .slice av nv cv] 62) := hset.blk
             have c0 : y2.cell? ⟨g4, 0, none⟩ = some (.string ks) := hset.blk.cell 0
             have c1 : y2.cell? ⟨g4, 1, none⟩ = some (.bool false) := hset.blk.cell 1
             have c2 : y2.cell? ⟨g4, 2, none⟩ = some (.slice av nv cv) := hset.blk.cell 2
             have HB3 : Hid (Below wr.heap.size wr y2) := HB1.out.trans (hset.only.below HG4.out.2 HB1.out.size)
             have HB2 : Hid (Below w.heap.size w y2) := HBW.out.trans (HB3.out.mono HBW.out.size)
             clear hset))
        go_ret
        exact ⟨rfl, HB2.out⟩
      by_cases h5 : 1048576 < nv
      · have q5 : (1048576 : Int) < (nv : Int) := by omega
        cases st with
        | false => exact absurd ⟨rfl, by omega⟩ h3
        | true =>
          obtain rfl : X = 1 := HBAD.out (by
            rw [HST2.out]
            have hq : ¬ (nv ≤ 1048576) := by omega
            rw [if_pos rfl, decide_eq_false hq]; simp)
          have tk0 : Hid True := trivial
          have tk1 : Hid True := trivial
          have tk2 : Hid True := trivial
          have tk3 : Hid True := trivial
          go_wp2_with (first
            | (clear tk0; with_reducible refine wpSeq_idxA (.tmp 14) (.tmp 15) b off n c i HIN.out ?_ ?_ ?_ ?_ ?_
               · rfl
               · rfl
               · rfl
               · rfl)
            | (clear tk1; with_reducible refine wpSeq_loadW 62 (.tmp 16) b (off + i * 3) [.string ks, .bool true, .slice av nv cv] _ HRG.out Tryz.underlying62 rfl (info_act15 _ _ _) ?_ ?_ ?_ ?_
               · rfl
               · rfl
               · rfl)
            | (clear tk2; with_reducible refine wpSeq_allocA ?_ ?_ ?_
               · rfl
               · rfl
               intro g4 y1 nn
               have HG4 : Hid (Blk y1 g4 zA 62 ∧ wr.heap.size ≤ g4) := ⟨nn.blk, nn.ge⟩
               have HB1 : Hid (Below wr.heap.size wr y1) := nn.below
               clear nn)
            | (clear tk3; with_reducible refine wpSeq_storeRow 62 (.tmp 4) (.tmp 17) g4 zA [.string ks, .bool true, .slice av nv cv] HG4.out.1 rfl (info_act15 _ _ _) (one_act _ _ _ _ _) ?_ ?_ ?_ ?_ ?_
               · rfl
               · rfl
               · rfl
               · rfl
               intro y2 hset
               have HK4 : Hid (Blk y2 g4 [.string ks, .bool true, .slice av nv cv] 62) := hset.blk
               have c0 : y2.cell? ⟨g4, 0, none⟩ = some (.string ks) := hset.blk.cell 0
               have c1 : y2.cell? ⟨g4, 1, none⟩ = some (.bool true) := hset.blk.cell 1
               have c2 : y2.cell? ⟨g4, 2, none⟩ = some (.slice av nv cv) := hset.blk.cell 2
               have HB3 : Hid (Below wr.heap.size wr y2) := HB1.out.trans (hset.only.below HG4.out.2 HB1.out.size)
               have HB2 : Hid (Below w.heap.size w y2) := HBW.out.trans (HB3.out.mono HBW.out.size)
               clear hset))
          go_ret
          exact ⟨rfl, HB2.out⟩
      have q5 : ¬ ((1048576 : Int) < (nv : Int)) := by omega
      have HOK : Hid (goodF [] (l.take (i + 1)) = lt) := by
        show _ = _
        rw [HST2.out, decide_eq_true HSM.out.2]
        cases st with
        | false => rw [if_neg Bool.false_ne_true, decide_eq_true (by have : ¬ (0 < nv) := fun h => h3 ⟨rfl, h⟩; omega)]; simp
        | true => rw [if_pos rfl, decide_eq_true (by omega)]; simp
      have q4 : st = false → ¬ ((0 : Int) < (nv : Int)) := fun e h => h3 ⟨e, by omega⟩
      clear h1 h2 h3 h5
      by_cases h0 : i = 0
      · have q6 : ¬ ((0 : Int) < (i : Int)) := by omega
        have HGN : Hid (goodF [] (l.take (i + 1)) = true) := by rw [HOK.out]; exact HLT0.out h0 HSM.out.1
        have HI0 : Hid (i = 0) := h0
        clear h0 q6
        cases st with
        | false =>
          have q7 := q4 rfl
          clear q4
          have tk0 : Hid True := trivial
          have tk1 : Hid True := trivial
          have tk2 : Hid True := trivial
          have tk3 : Hid True := trivial
          go_wp2_with (first
            | (clear tk0; with_reducible refine wpSeq_idxA (.tmp 14) (.tmp 15) b off n c i HIN.out ?_ ?_ ?_ ?_ ?_
               · rfl
               · rfl
               · rfl
               · rfl)
            | (clear tk1; with_reducible refine wpSeq_loadW 62 (.tmp 16) b (off + i * 3) [.string ks, .bool false, .slice av nv cv] _ HRG.out Tryz.underlying62 rfl (info_act15 _ _ _) ?_ ?_ ?_ ?_
               · rfl
               · rfl
               · rfl)
            | (clear tk2; with_reducible refine wpSeq_allocA ?_ ?_ ?_
               · rfl
               · rfl
               intro g4 y1 nn
               have HG4 : Hid (Blk y1 g4 zA 62 ∧ wr.heap.size ≤ g4) := ⟨nn.blk, nn.ge⟩
               have HB1 : Hid (Below wr.heap.size wr y1) := nn.below
               clear nn)
            | (clear tk3; with_reducible refine wpSeq_storeRow 62 (.tmp 4) (.tmp 17) g4 zA [.string ks, .bool false, .slice av nv cv] HG4.out.1 rfl (info_act15 _ _ _) (one_act _ _ _ _ _) ?_ ?_ ?_ ?_ ?_
               · rfl
               · rfl
               · rfl
               · rfl
               intro y2 hset
               have HK4 : Hid (Blk y2 g4 [.string ks, .bool false, .slice av nv cv] 62) := hset.blk
               have c0 : y2.cell? ⟨g4, 0, none⟩ = some (.string ks) := hset.blk.cell 0
               have c1 : y2.cell? ⟨g4, 1, none⟩ = some (.bool false) := hset.blk.cell 1
               have c2 : y2.cell? ⟨g4, 2, none⟩ = some (.slice av nv cv) := hset.blk.cell 2
               have HB3 : Hid (Below wr.heap.size wr y2) := HB1.out.trans (hset.only.below HG4.out.2 HB1.out.size)
               have HB2 : Hid (Below w.heap.size w y2) := HBW.out.trans (HB3.out.mono HBW.out.size)
               clear hset))
          clear c0 c1 c2
          refine wp_region_held_drew (S := fun wx => Below w.heap.size w wx) (by kernel_rfl) HB2.out.drew ?_
          intro hS
          change wpAnyH _ _ _ _ _ _ _ _ (World.drew y2)
          generalize World.drew y2 = y3 at *
          refine wpAnyH_take (i := 0) (v := .int .i64 (i : Int)) rfl (by kernel_rfl) (by kernel_rfl) (by kernel_rfl) (fun _ _ _ h => h) (Or.inl ⟨by rfl, fun wx hx => by simp [go_sem]⟩) hS ?_
          simp only [Act.put, List.getElem_toArray, List.getElem_cons_zero, List.setIfInBounds_toArray, List.set_cons_zero, List.set_cons_succ]
          refine wpAnyH_take (i := 1) (v := .bool false) rfl (by kernel_rfl) (by kernel_rfl) (by kernel_rfl) (fun _ _ _ h => h) (Or.inl ⟨by rfl, fun wx hx => by (simp [go_sem]; exact HI0.out)⟩) hS ?_
          simp only [Act.put, List.getElem_toArray, List.getElem_cons_succ, List.getElem_cons_zero, List.setIfInBounds_toArray, List.set_cons_zero, List.set_cons_succ]
          refine wpAnyH_take (i := 2) (v := .bool false) rfl (by kernel_rfl) (by kernel_rfl) (by kernel_rfl) (fun _ _ _ h => h) (Or.inl ⟨by rfl, fun wx hx => by simp [go_sem]⟩) hS ?_
          simp only [Act.put, List.getElem_toArray, List.getElem_cons_succ, List.getElem_cons_zero, List.setIfInBounds_toArray, List.set_cons_zero, List.set_cons_succ]
          refine wpAnyH_take (i := 3) (v := undef) rfl (by kernel_rfl) (by kernel_rfl) (by kernel_rfl) (fun _ _ _ h => h) (Or.inr ⟨by rfl, rfl⟩) hS ?_
          simp only [Act.put, List.getElem_toArray, List.getElem_cons_succ, List.getElem_cons_zero, List.setIfInBounds_toArray, List.set_cons_zero, List.set_cons_succ]
          refine wpAnyH_take (i := 4) (v := undef) rfl (by kernel_rfl) (by kernel_rfl) (by kernel_rfl) (fun _ _ _ h => h) (Or.inr ⟨by rfl, rfl⟩) hS ?_
          simp only [Act.put, List.getElem_toArray, List.getElem_cons_succ, List.getElem_cons_zero, List.setIfInBounds_toArray, List.set_cons_zero, List.set_cons_succ]
          refine wpAnyH_take (i := 5) (v := undef) rfl (by kernel_rfl) (by kernel_rfl) (by kernel_rfl) (fun _ _ _ h => h) (Or.inr ⟨by rfl, rfl⟩) hS ?_
          simp only [Act.put, List.getElem_toArray, List.getElem_cons_succ, List.getElem_cons_zero, List.setIfInBounds_toArray, List.set_cons_zero, List.set_cons_succ]
          refine wpAnyH_take (i := 6) (v := undef) rfl (by kernel_rfl) (by kernel_rfl) (by kernel_rfl) (fun _ _ _ h => h) (Or.inr ⟨by rfl, rfl⟩) hS ?_
          simp only [Act.put, List.getElem_toArray, List.getElem_cons_succ, List.getElem_cons_zero, List.setIfInBounds_toArray, List.set_cons_zero, List.set_cons_succ]
          refine wpAnyH_take (i := 7) (v := undef) rfl (by kernel_rfl) (by kernel_rfl) (by kernel_rfl) (fun _ _ _ h => h) (Or.inr ⟨by rfl, rfl⟩) hS ?_
          simp only [Act.put, List.getElem_toArray, List.getElem_cons_succ, List.getElem_cons_zero, List.setIfInBounds_toArray, List.set_cons_zero, List.set_cons_succ]
          refine wpAnyH_take (i := 8) (v := undef) rfl (by kernel_rfl) (by kernel_rfl) (by kernel_rfl) (fun _ _ _ h => h) (Or.inr ⟨by rfl, rfl⟩) hS ?_
          simp only [Act.put, List.getElem_toArray, List.getElem_cons_succ, List.getElem_cons_zero, List.setIfInBounds_toArray, List.set_cons_zero, List.set_cons_succ]
          refine wpAnyH_take (i := 9) (v := undef) rfl (by kernel_rfl) (by kernel_rfl) (by kernel_rfl) (fun _ _ _ h => h) (Or.inr ⟨by rfl, rfl⟩) hS ?_
          simp only [Act.put, List.getElem_toArray, List.getElem_cons_succ, List.getElem_cons_zero, List.setIfInBounds_toArray, List.set_cons_zero, List.set_cons_succ]
          refine wpAnyH_take (i := 10) (v := undef) rfl (by kernel_rfl) (by kernel_rfl) (by kernel_rfl) (fun _ _ _ h => h) (Or.inr ⟨by rfl, rfl⟩) hS ?_
          simp only [Act.put, List.getElem_toArray, List.getElem_cons_succ, List.getElem_cons_zero, List.setIfInBounds_toArray, List.set_cons_zero, List.set_cons_succ]
          refine wpAnyH_take (i := 11) (v := undef) rfl (by kernel_rfl) (by kernel_rfl) (by kernel_rfl) (fun _ _ _ h => h) (Or.inr ⟨by rfl, rfl⟩) hS ?_
          simp only [Act.put, List.getElem_toArray, List.getElem_cons_succ, List.getElem_cons_zero, List.setIfInBounds_toArray, List.set_cons_zero, List.set_cons_succ]
          refine wpAnyH_take (i := 12) (v := .bool false) rfl (by kernel_rfl) (by kernel_rfl) (by kernel_rfl) (fun _ _ _ h => h) (Or.inl ⟨by rfl, fun wx hx => by simp [go_sem]⟩) hS ?_
          simp only [Act.put, List.getElem_toArray, List.getElem_cons_succ, List.getElem_cons_zero, List.setIfInBounds_toArray, List.set_cons_zero, List.set_cons_succ]
          refine wpAnyH_done (by kernel_rfl) ?_ _
          go_wp2
          go_roundw
          case rel => exact ⟨i + 1, by omega, by simp, HGN, hS⟩
          case measure => simp [intOf]; omega
        | true =>
          clear q4
          have tk0 : Hid True := trivial
          have tk1 : Hid True := trivial
          have tk2 : Hid True := trivial
          have tk3 : Hid True := trivial
          go_wp2_with (first
            | (clear tk0; with_reducible refine wpSeq_idxA (.tmp 14) (.tmp 15) b off n c i HIN.out ?_ ?_ ?_ ?_ ?_
               · rfl
               · rfl
               · rfl
               · rfl)
            | (clear tk1; with_reducible refine wpSeq_loadW 62 (.tmp 16) b (off + i * 3) [.string ks, .bool true, .slice av nv cv] _ HRG.out Tryz.underlying62 rfl (info_act15 _ _ _) ?_ ?_ ?_ ?_
               · rfl
               · rfl
               · rfl)
            | (clear tk2; with_reducible refine wpSeq_allocA ?_ ?_ ?_
               · rfl
               · rfl
               intro g4 y1 nn
               have HG4 : Hid (Blk y1 g4 zA 62 ∧ wr.heap.size ≤ g4) := ⟨nn.blk, nn.ge⟩
               have HB1 : Hid (Below wr.heap.size wr y1) := nn.below
               clear nn)
            | (clear tk3; with_reducible refine wpSeq_storeRow 62 (.tmp 4) (.tmp 17) g4 zA [.string ks, .bool true, .slice av nv cv] HG4.out.1 rfl (info_act15 _ _ _) (one_act _ _ _ _ _) ?_ ?_ ?_ ?_ ?_
               · rfl
               · rfl
               · rfl
               · rfl
               intro y2 hset
               have HK4 : Hid (Blk y2 g4 [.string ks, .bool true, .slice av nv cv] 62) := hset.blk
               have c0 : y2.cell? ⟨g4, 0, none⟩ = some (.string ks) := hset.blk.cell 0
               have c1 : y2.cell? ⟨g4, 1, none⟩ = some (.bool true) := hset.blk.cell 1
               have c2 : y2.cell? ⟨g4, 2, none⟩ = some (.slice av nv cv) := hset.blk.cell 2
               have HB3 : Hid (Below wr.heap.size wr y2) := HB1.out.trans (hset.only.below HG4.out.2 HB1.out.size)
               have HB2 : Hid (Below w.heap.size w y2) := HBW.out.trans (HB3.out.mono HBW.out.size)
               clear hset))
          clear c0 c1 c2
          refine wp_region_held_drew (S := fun wx => Below w.heap.size w wx) (by kernel_rfl) HB2.out.drew ?_
          intro hS
          change wpAnyH _ _ _ _ _ _ _ _ (World.drew y2)
          generalize World.drew y2 = y3 at *
          refine wpAnyH_take (i := 0) (v := .int .i64 (i : Int)) rfl (by kernel_rfl) (by kernel_rfl) (by kernel_rfl) (fun _ _ _ h => h) (Or.inl ⟨by rfl, fun wx hx => by simp [go_sem]⟩) hS ?_
          simp only [Act.put, List.getElem_toArray, List.getElem_cons_zero, List.setIfInBounds_toArray, List.set_cons_zero, List.set_cons_succ]
          refine wpAnyH_take (i := 1) (v := .bool false) rfl (by kernel_rfl) (by kernel_rfl) (by kernel_rfl) (fun _ _ _ h => h) (Or.inl ⟨by rfl, fun wx hx => by (simp [go_sem]; exact HI0.out)⟩) hS ?_
          simp only [Act.put, List.getElem_toArray, List.getElem_cons_succ, List.getElem_cons_zero, List.setIfInBounds_toArray, List.set_cons_zero, List.set_cons_succ]
          refine wpAnyH_take (i := 2) (v := .bool false) rfl (by kernel_rfl) (by kernel_rfl) (by kernel_rfl) (fun _ _ _ h => h) (Or.inl ⟨by rfl, fun wx hx => by simp [go_sem]⟩) hS ?_
          simp only [Act.put, List.getElem_toArray, List.getElem_cons_succ, List.getElem_cons_zero, List.setIfInBounds_toArray, List.set_cons_zero, List.set_cons_succ]
          refine wpAnyH_take (i := 3) (v := undef) rfl (by kernel_rfl) (by kernel_rfl) (by kernel_rfl) (fun _ _ _ h => h) (Or.inr ⟨by rfl, rfl⟩) hS ?_
          simp only [Act.put, List.getElem_toArray, List.getElem_cons_succ, List.getElem_cons_zero, List.setIfInBounds_toArray, List.set_cons_zero, List.set_cons_succ]
          refine wpAnyH_take (i := 4) (v := undef) rfl (by kernel_rfl) (by kernel_rfl) (by kernel_rfl) (fun _ _ _ h => h) (Or.inr ⟨by rfl, rfl⟩) hS ?_
          simp only [Act.put, List.getElem_toArray, List.getElem_cons_succ, List.getElem_cons_zero, List.setIfInBounds_toArray, List.set_cons_zero, List.set_cons_succ]
          refine wpAnyH_take (i := 5) (v := undef) rfl (by kernel_rfl) (by kernel_rfl) (by kernel_rfl) (fun _ _ _ h => h) (Or.inr ⟨by rfl, rfl⟩) hS ?_
          simp only [Act.put, List.getElem_toArray, List.getElem_cons_succ, List.getElem_cons_zero, List.setIfInBounds_toArray, List.set_cons_zero, List.set_cons_succ]
          refine wpAnyH_take (i := 6) (v := undef) rfl (by kernel_rfl) (by kernel_rfl) (by kernel_rfl) (fun _ _ _ h => h) (Or.inr ⟨by rfl, rfl⟩) hS ?_
          simp only [Act.put, List.getElem_toArray, List.getElem_cons_succ, List.getElem_cons_zero, List.setIfInBounds_toArray, List.set_cons_zero, List.set_cons_succ]
          refine wpAnyH_take (i := 7) (v := undef) rfl (by kernel_rfl) (by kernel_rfl) (by kernel_rfl) (fun _ _ _ h => h) (Or.inr ⟨by rfl, rfl⟩) hS ?_
          simp only [Act.put, List.getElem_toArray, List.getElem_cons_succ, List.getElem_cons_zero, List.setIfInBounds_toArray, List.set_cons_zero, List.set_cons_succ]
          refine wpAnyH_take (i := 8) (v := undef) rfl (by kernel_rfl) (by kernel_rfl) (by kernel_rfl) (fun _ _ _ h => h) (Or.inr ⟨by rfl, rfl⟩) hS ?_
          simp only [Act.put, List.getElem_toArray, List.getElem_cons_succ, List.getElem_cons_zero, List.setIfInBounds_toArray, List.set_cons_zero, List.set_cons_succ]
          refine wpAnyH_take (i := 9) (v := undef) rfl (by kernel_rfl) (by kernel_rfl) (by kernel_rfl) (fun _ _ _ h => h) (Or.inr ⟨by rfl, rfl⟩) hS ?_
          simp only [Act.put, List.getElem_toArray, List.getElem_cons_succ, List.getElem_cons_zero, List.setIfInBounds_toArray, List.set_cons_zero, List.set_cons_succ]
          refine wpAnyH_take (i := 10) (v := undef) rfl (by kernel_rfl) (by kernel_rfl) (by kernel_rfl) (fun _ _ _ h => h) (Or.inr ⟨by rfl, rfl⟩) hS ?_
          simp only [Act.put, List.getElem_toArray, List.getElem_cons_succ, List.getElem_cons_zero, List.setIfInBounds_toArray, List.set_cons_zero, List.set_cons_succ]
          refine wpAnyH_take (i := 11) (v := undef) rfl (by kernel_rfl) (by kernel_rfl) (by kernel_rfl) (fun _ _ _ h => h) (Or.inr ⟨by rfl, rfl⟩) hS ?_
          simp only [Act.put, List.getElem_toArray, List.getElem_cons_succ, List.getElem_cons_zero, List.setIfInBounds_toArray, List.set_cons_zero, List.set_cons_succ]
          refine wpAnyH_take (i := 12) (v := .bool false) rfl (by kernel_rfl) (by kernel_rfl) (by kernel_rfl) (fun _ _ _ h => h) (Or.inl ⟨by rfl, fun wx hx => by simp [go_sem]⟩) hS ?_
          simp only [Act.put, List.getElem_toArray, List.getElem_cons_succ, List.getElem_cons_zero, List.setIfInBounds_toArray, List.set_cons_zero, List.set_cons_succ]
          refine wpAnyH_done (by kernel_rfl) ?_ _
          go_wp2
          go_roundw
          case rel => exact ⟨i + 1, by omega, by simp, HGN, hS⟩
          case measure => simp [intOf]; omega
      · have q6 : (0 : Int) < (i : Int) := by omega
        have hp : i - 1 < l.length := by omega
        obtain ⟨m, HM⟩ : ∃ m, Hid (m = i - 1) := ⟨_, rfl⟩
        have f2 : IntKind.i64.wrap ((i : Int) - 1) = (m : Int) := by rw [IntKind.wrap_i64]; have h1 := HM.out; have h2 := H4.out; omega
        have HMN : Hid (m < n) := by have := HM.out; show _ < _; omega
        obtain ⟨b', off', vd', e', hrg', hrd'⟩ := HR.out.at hp
        simp only [Option.some.injEq, Addr.mk.injEq] at e'
        obtain ⟨rfl, rfl, _⟩ := e'
        rw [← HM.out] at hrg'
        have hlp := HLTP.out (by omega)
        rw [← HM.out, ← HKS.out] at hlp
        obtain ⟨ps, HPS⟩ : ∃ s, Hid (s = strB (l.getD m ⟨[], false, []⟩).key) := ⟨_, rfl⟩
        rw [← HPS.out] at hlp
        have HPC : Hid (∀ W, Below w.heap.size w W → W.cell? ⟨b, off + m * 3, none⟩ = some (.string ps)) := fun W hW => by
          have h := range_below hrg' hW (block_lt_of_cell (hrg' 0 _ rfl)) 0 (.string (strB (l.getD m ⟨[], false, []⟩).key)) rfl
          rw [HPS.out]
          exact h
        have HLE : Hid ((Op.bytesLess ks.toList ps.toList || (ks.toList == ps.toList)) = !lt) := hlp
        have HIP : Hid (0 < i) := by show 0 < i; omega
        clear hp hrg' hrd' hlp h0 q6
        cases st with
        | false =>
          have q7 := q4 rfl
          clear q4
          have tk0 : Hid True := trivial
          have tk1 : Hid True := trivial
          have tk2 : Hid True := trivial
          have tk3 : Hid True := trivial
          go_wp2_with (first
            | (clear tk0; with_reducible refine wpSeq_idxA (.tmp 14) (.tmp 15) b off n c i HIN.out ?_ ?_ ?_ ?_ ?_
               · rfl
               · rfl
               · rfl
               · rfl)
            | (clear tk1; with_reducible refine wpSeq_loadW 62 (.tmp 16) b (off + i * 3) [.string ks, .bool false, .slice av nv cv] _ HRG.out Tryz.underlying62 rfl (info_act15 _ _ _) ?_ ?_ ?_ ?_
               · rfl
               · rfl
               · rfl)
            | (clear tk2; with_reducible refine wpSeq_allocA ?_ ?_ ?_
               · rfl
               · rfl
               intro g4 y1 nn
               have HG4 : Hid (Blk y1 g4 zA 62 ∧ wr.heap.size ≤ g4) := ⟨nn.blk, nn.ge⟩
               have HB1 : Hid (Below wr.heap.size wr y1) := nn.below
               clear nn)
            | (clear tk3; with_reducible refine wpSeq_storeRow 62 (.tmp 4) (.tmp 17) g4 zA [.string ks, .bool false, .slice av nv cv] HG4.out.1 rfl (info_act15 _ _ _) (one_act _ _ _ _ _) ?_ ?_ ?_ ?_ ?_
               · rfl
               · rfl
               · rfl
               · rfl
               intro y2 hset
               have HK4 : Hid (Blk y2 g4 [.string ks, .bool false, .slice av nv cv] 62) := hset.blk
               have c0 : y2.cell? ⟨g4, 0, none⟩ = some (.string ks) := hset.blk.cell 0
               have c1 : y2.cell? ⟨g4, 1, none⟩ = some (.bool false) := hset.blk.cell 1
               have c2 : y2.cell? ⟨g4, 2, none⟩ = some (.slice av nv cv) := hset.blk.cell 2
               have HB3 : Hid (Below wr.heap.size wr y2) := HB1.out.trans (hset.only.below HG4.out.2 HB1.out.size)
               have HB2 : Hid (Below w.heap.size w y2) := HBW.out.trans (HB3.out.mono HBW.out.size)
               clear hset))
          clear c0 c1 c2
          refine wp_region_held_drew (S := fun wx => Below w.heap.size w wx ∧ Blk wx g4 [.string ks, .bool false, .slice av nv cv] 62) (by kernel_rfl) ⟨HB2.out.drew, HK4.out.drew⟩ ?_
          intro hS
          change wpAnyH _ _ _ _ _ _ _ _ (World.drew y2)
          generalize World.drew y2 = y3 at *
          refine wpAnyH_take (i := 0) (v := .int .i64 (i : Int)) rfl (by kernel_rfl) (by kernel_rfl) (by kernel_rfl) (fun _ _ _ h => h) (Or.inl ⟨by rfl, fun wx hx => by simp [go_sem]⟩) hS ?_
          simp only [Act.put, List.getElem_toArray, List.getElem_cons_zero, List.setIfInBounds_toArray, List.set_cons_zero, List.set_cons_succ]
          refine wpAnyH_take (i := 1) (v := .bool true) rfl (by kernel_rfl) (by kernel_rfl) (by kernel_rfl) (fun _ _ _ h => h) (Or.inl ⟨by rfl, fun wx hx => by (simp [go_sem]; exact HIP.out)⟩) hS ?_
          simp only [Act.put, List.getElem_toArray, List.getElem_cons_succ, List.getElem_cons_zero, List.setIfInBounds_toArray, List.set_cons_zero, List.set_cons_succ]
          refine wpAnyH_take (i := 2) (v := .bool true) rfl (by kernel_rfl) (by kernel_rfl) (by kernel_rfl) (fun _ _ _ h => h) (Or.inl ⟨by rfl, fun wx hx => by simp [go_sem]⟩) hS ?_
          simp only [Act.put, List.getElem_toArray, List.getElem_cons_succ, List.getElem_cons_zero, List.setIfInBounds_toArray, List.set_cons_zero, List.set_cons_succ]
          refine wpAnyH_take (i := 3) (v := .pointer (some ⟨g4, 0, none⟩)) rfl (by kernel_rfl) (by kernel_rfl) (by kernel_rfl) (fun _ _ _ h => h) (Or.inl ⟨by rfl, fun wx hx => by simp [go_sem]⟩) hS ?_
          simp only [Act.put, List.getElem_toArray, List.getElem_cons_succ, List.getElem_cons_zero, List.setIfInBounds_toArray, List.set_cons_zero, List.set_cons_succ]
          refine wpAnyH_take (i := 4) (v := .string ks) rfl (by kernel_rfl) (by kernel_rfl) (by kernel_rfl) (fun _ _ _ h => h) (Or.inl ⟨by rfl, fun wx hx => by (have hc := hx.2.cell 0; simp at hc; simp [go_sem, hc])⟩) hS ?_
          simp only [Act.put, List.getElem_toArray, List.getElem_cons_succ, List.getElem_cons_zero, List.setIfInBounds_toArray, List.set_cons_zero, List.set_cons_succ]
          refine wpAnyH_take (i := 5) (v := .slice (some ⟨b, off, none⟩) n c) rfl (by kernel_rfl) (by kernel_rfl) (by kernel_rfl) (fun _ _ _ h => h) (Or.inl ⟨by rfl, fun wx hx => by simp [go_sem]⟩) hS ?_
          simp only [Act.put, List.getElem_toArray, List.getElem_cons_succ, List.getElem_cons_zero, List.setIfInBounds_toArray, List.set_cons_zero, List.set_cons_succ]
          refine wpAnyH_take (i := 6) (v := .int .i64 (i : Int)) rfl (by kernel_rfl) (by kernel_rfl) (by kernel_rfl) (fun _ _ _ h => h) (Or.inl ⟨by rfl, fun wx hx => by simp [go_sem]⟩) hS ?_
          simp only [Act.put, List.getElem_toArray, List.getElem_cons_succ, List.getElem_cons_zero, List.setIfInBounds_toArray, List.set_cons_zero, List.set_cons_succ]
          refine wpAnyH_take (i := 7) (v := .int .i64 (m : Int)) rfl (by kernel_rfl) (by kernel_rfl) (by kernel_rfl) (fun _ _ _ h => h) (Or.inl ⟨by rfl, fun wx hx => by simp [go_sem, f2]⟩) hS ?_
          simp only [Act.put, List.getElem_toArray, List.getElem_cons_succ, List.getElem_cons_zero, List.setIfInBounds_toArray, List.set_cons_zero, List.set_cons_succ]
          refine wpAnyH_take (i := 8) (v := .pointer (some ⟨b, off + m * 3, none⟩)) rfl (by kernel_rfl) (by kernel_rfl) (by kernel_rfl) (fun _ _ _ h => h) (Or.inl ⟨by rfl, fun wx hx => by exact idxA b off n c m HMN.out _ _ _ _ rfl rfl rfl _⟩) hS ?_
          simp only [Act.put, List.getElem_toArray, List.getElem_cons_succ, List.getElem_cons_zero, List.setIfInBounds_toArray, List.set_cons_zero, List.set_cons_succ]
          refine wpAnyH_take (i := 9) (v := .pointer (some ⟨b, off + m * 3, none⟩)) rfl (by kernel_rfl) (by kernel_rfl) (by kernel_rfl) (fun _ _ _ h => h) (Or.inl ⟨by rfl, fun wx hx => by simp [go_sem]⟩) hS ?_
          simp only [Act.put, List.getElem_toArray, List.getElem_cons_succ, List.getElem_cons_zero, List.setIfInBounds_toArray, List.set_cons_zero, List.set_cons_succ]
          refine wpAnyH_take (i := 10) (v := .string ps) rfl (by kernel_rfl) (by kernel_rfl) (by kernel_rfl) (fun _ _ _ h => h) (Or.inl ⟨by rfl, fun wx hx => by (have hc := HPC.out wx hx.1; simp [go_sem, hc])⟩) hS ?_
          simp only [Act.put, List.getElem_toArray, List.getElem_cons_succ, List.getElem_cons_zero, List.setIfInBounds_toArray, List.set_cons_zero, List.set_cons_succ]
          refine wpAnyH_take (i := 11) (v := .bool (!lt)) rfl (by kernel_rfl) (by kernel_rfl) (by kernel_rfl) (fun _ _ _ h => h) (Or.inl ⟨by rfl, fun wx hx => by exact run_strOp .leq ks ps (!lt) HLE.out (Or.inr (Or.inl rfl)) _ _ _ _ rfl rfl rfl _⟩) hS ?_
          simp only [Act.put, List.getElem_toArray, List.getElem_cons_succ, List.getElem_cons_zero, List.setIfInBounds_toArray, List.set_cons_zero, List.set_cons_succ]
          refine wpAnyH_take (i := 12) (v := .bool (!lt)) rfl (by kernel_rfl) (by kernel_rfl) (by kernel_rfl) (fun _ _ _ h => h) (Or.inl ⟨by rfl, fun wx hx => by simp [go_sem]⟩) hS ?_
          simp only [Act.put, List.getElem_toArray, List.getElem_cons_succ, List.getElem_cons_zero, List.setIfInBounds_toArray, List.set_cons_zero, List.set_cons_succ]
          refine wpAnyH_done (by kernel_rfl) ?_ _
          cases lt with
          | true =>
            rw [Bool.not_true]
            go_wp2
            go_roundw
            case rel => exact ⟨i + 1, by omega, by simp, HOK, hS.1⟩
            case measure => simp [intOf]; omega
          | false =>
            obtain rfl : X = 1 := HBAD.out HOK.out
            rw [Bool.not_false]
            go_wp2
            go_ret
            exact ⟨rfl, hS.1⟩
        | true =>
          clear q4
          have tk0 : Hid True := trivial
          have tk1 : Hid True := trivial
          have tk2 : Hid True := trivial
          have tk3 : Hid True := trivial
          go_wp2_with (first
            | (clear tk0; with_reducible refine wpSeq_idxA (.tmp 14) (.tmp 15) b off n c i HIN.out ?_ ?_ ?_ ?_ ?_
               · rfl
               · rfl
               · rfl
               · rfl)
            | (clear tk1; with_reducible refine wpSeq_loadW 62 (.tmp 16) b (off + i * 3) [.string ks, .bool true, .slice av nv cv] _ HRG.out Tryz.underlying62 rfl (info_act15 _ _ _) ?_ ?_ ?_ ?_
               · rfl
               · rfl
               · rfl)
            | (clear tk2; with_reducible refine wpSeq_allocA ?_ ?_ ?_
               · rfl
               · rfl
               intro g4 y1 nn
               have HG4 : Hid (Blk y1 g4 zA 62 ∧ wr.heap.size ≤ g4) := ⟨nn.blk, nn.ge⟩
               have HB1 : Hid (Below wr.heap.size wr y1) := nn.below
               clear nn)
            | (clear tk3; with_reducible refine wpSeq_storeRow 62 (.tmp 4) (.tmp 17) g4 zA [.string ks, .bool true, .slice av nv cv] HG4.out.1 rfl (info_act15 _ _ _) (one_act _ _ _ _ _) ?_ ?_ ?_ ?_ ?_
               · rfl
               · rfl
               · rfl
               · rfl
               intro y2 hset
               have HK4 : Hid (Blk y2 g4 [.string ks, .bool true, .slice av nv cv] 62) := hset.blk
               have c0 : y2.cell? ⟨g4, 0, none⟩ = some (.string ks) := hset.blk.cell 0
               have c1 : y2.cell? ⟨g4, 1, none⟩ = some (.bool true) := hset.blk.cell 1
               have c2 : y2.cell? ⟨g4, 2, none⟩ = some (.slice av nv cv) := hset.blk.cell 2
               have HB3 : Hid (Below wr.heap.size wr y2) := HB1.out.trans (hset.only.below HG4.out.2 HB1.out.size)
               have HB2 : Hid (Below w.heap.size w y2) := HBW.out.trans (HB3.out.mono HBW.out.size)
               clear hset))
          clear c0 c1 c2
          refine wp_region_held_drew (S := fun wx => Below w.heap.size w wx ∧ Blk wx g4 [.string ks, .bool true, .slice av nv cv] 62) (by kernel_rfl) ⟨HB2.out.drew, HK4.out.drew⟩ ?_
          intro hS
          change wpAnyH _ _ _ _ _ _ _ _ (World.drew y2)
          generalize World.drew y2 = y3 at *
          refine wpAnyH_take (i := 0) (v := .int .i64 (i : Int)) rfl (by kernel_rfl) (by kernel_rfl) (by kernel_rfl) (fun _ _ _ h => h) (Or.inl ⟨by rfl, fun wx hx => by simp [go_sem]⟩) hS ?_
          simp only [Act.put, List.getElem_toArray, List.getElem_cons_zero, List.setIfInBounds_toArray, List.set_cons_zero, List.set_cons_succ]
          refine wpAnyH_take (i := 1) (v := .bool true) rfl (by kernel_rfl) (by kernel_rfl) (by kernel_rfl) (fun _ _ _ h => h) (Or.inl ⟨by rfl, fun wx hx => by (simp [go_sem]; exact HIP.out)⟩) hS ?_
          simp only [Act.put, List.getElem_toArray, List.getElem_cons_succ, List.getElem_cons_zero, List.setIfInBounds_toArray, List.set_cons_zero, List.set_cons_succ]
          refine wpAnyH_take (i := 2) (v := .bool true) rfl (by kernel_rfl) (by kernel_rfl) (by kernel_rfl) (fun _ _ _ h => h) (Or.inl ⟨by rfl, fun wx hx => by simp [go_sem]⟩) hS ?_
          simp only [Act.put, List.getElem_toArray, List.getElem_cons_succ, List.getElem_cons_zero, List.setIfInBounds_toArray, List.set_cons_zero, List.set_cons_succ]
          refine wpAnyH_take (i := 3) (v := .pointer (some ⟨g4, 0, none⟩)) rfl (by kernel_rfl) (by kernel_rfl) (by kernel_rfl) (fun _ _ _ h => h) (Or.inl ⟨by rfl, fun wx hx => by simp [go_sem]⟩) hS ?_
          simp only [Act.put, List.getElem_toArray, List.getElem_cons_succ, List.getElem_cons_zero, List.setIfInBounds_toArray, List.set_cons_zero, List.set_cons_succ]
          refine wpAnyH_take (i := 4) (v := .string ks) rfl (by kernel_rfl) (by kernel_rfl) (by kernel_rfl) (fun _ _ _ h => h) (Or.inl ⟨by rfl, fun wx hx => by (have hc := hx.2.cell 0; simp at hc; simp [go_sem, hc])⟩) hS ?_
          simp only [Act.put, List.getElem_toArray, List.getElem_cons_succ, List.getElem_cons_zero, List.setIfInBounds_toArray, List.set_cons_zero, List.set_cons_succ]
          refine wpAnyH_take (i := 5) (v := .slice (some ⟨b, off, none⟩) n c) rfl (by kernel_rfl) (by kernel_rfl) (by kernel_rfl) (fun _ _ _ h => h) (Or.inl ⟨by rfl, fun wx hx => by simp [go_sem]⟩) hS ?_
          simp only [Act.put, List.getElem_toArray, List.getElem_cons_succ, List.getElem_cons_zero, List.setIfInBounds_toArray, List.set_cons_zero, List.set_cons_succ]
          refine wpAnyH_take (i := 6) (v := .int .i64 (i : Int)) rfl (by kernel_rfl) (by kernel_rfl) (by kernel_rfl) (fun _ _ _ h => h) (Or.inl ⟨by rfl, fun wx hx => by simp [go_sem]⟩) hS ?_
          simp only [Act.put, List.getElem_toArray, List.getElem_cons_succ, List.getElem_cons_zero, List.setIfInBounds_toArray, List.set_cons_zero, List.set_cons_succ]
          refine wpAnyH_take (i := 7) (v := .int .i64 (m : Int)) rfl (by kernel_rfl) (by kernel_rfl) (by kernel_rfl) (fun _ _ _ h => h) (Or.inl ⟨by rfl, fun wx hx => by simp [go_sem, f2]⟩) hS ?_
          simp only [Act.put, List.getElem_toArray, List.getElem_cons_succ, List.getElem_cons_zero, List.setIfInBounds_toArray, List.set_cons_zero, List.set_cons_succ]
          refine wpAnyH_take (i := 8) (v := .pointer (some ⟨b, off + m * 3, none⟩)) rfl (by kernel_rfl) (by kernel_rfl) (by kernel_rfl) (fun _ _ _ h => h) (Or.inl ⟨by rfl, fun wx hx => by exact idxA b off n c m HMN.out _ _ _ _ rfl rfl rfl _⟩) hS ?_
          simp only [Act.put, List.getElem_toArray, List.getElem_cons_succ, List.getElem_cons_zero, List.setIfInBounds_toArray, List.set_cons_zero, List.set_cons_succ]
          refine wpAnyH_take (i := 9) (v := .pointer (some ⟨b, off + m * 3, none⟩)) rfl (by kernel_rfl) (by kernel_rfl) (by kernel_rfl) (fun _ _ _ h => h) (Or.inl ⟨by rfl, fun wx hx => by simp [go_sem]⟩) hS ?_
          simp only [Act.put, List.getElem_toArray, List.getElem_cons_succ, List.getElem_cons_zero, List.setIfInBounds_toArray, List.set_cons_zero, List.set_cons_succ]
          refine wpAnyH_take (i := 10) (v := .string ps) rfl (by kernel_rfl) (by kernel_rfl) (by kernel_rfl) (fun _ _ _ h => h) (Or.inl ⟨by rfl, fun wx hx => by (have hc := HPC.out wx hx.1; simp [go_sem, hc])⟩) hS ?_
          simp only [Act.put, List.getElem_toArray, List.getElem_cons_succ, List.getElem_cons_zero, List.setIfInBounds_toArray, List.set_cons_zero, List.set_cons_succ]
          refine wpAnyH_take (i := 11) (v := .bool (!lt)) rfl (by kernel_rfl) (by kernel_rfl) (by kernel_rfl) (fun _ _ _ h => h) (Or.inl ⟨by rfl, fun wx hx => by exact run_strOp .leq ks ps (!lt) HLE.out (Or.inr (Or.inl rfl)) _ _ _ _ rfl rfl rfl _⟩) hS ?_
          simp only [Act.put, List.getElem_toArray, List.getElem_cons_succ, List.getElem_cons_zero, List.setIfInBounds_toArray, List.set_cons_zero, List.set_cons_succ]
          refine wpAnyH_take (i := 12) (v := .bool (!lt)) rfl (by kernel_rfl) (by kernel_rfl) (by kernel_rfl) (fun _ _ _ h => h) (Or.inl ⟨by rfl, fun wx hx => by simp [go_sem]⟩) hS ?_
          simp only [Act.put, List.getElem_toArray, List.getElem_cons_succ, List.getElem_cons_zero, List.setIfInBounds_toArray, List.set_cons_zero, List.set_cons_succ]
          refine wpAnyH_done (by kernel_rfl) ?_ _
          cases lt with
          | true =>
            rw [Bool.not_true]
            go_wp2
            go_roundw
            case rel => exact ⟨i + 1, by omega, by simp, HOK, hS.1⟩
            case measure => simp [intOf]; omega
          | false =>
            obtain rfl : X = 1 := HBAD.out HOK.out
            rw [Bool.not_false]
            go_wp2
            go_ret
            exact ⟨rfl, hS.1⟩
end Go.Proofs.YtopmeedmgjdcgaaGreatDoor
/- The walks of the reference's Batch and of the statements' light (layer 15). -/
namespace Go.Proofs.YtopmeedmgjdcgaaGreatDoor
open Go.RowKit
set_option maxRecDepth 100000
theorem build_y1 (f : Operand → Value) (o : Oper) (b : BitVec 8) (ho : o.op = .buildSlice 23 1 #[(0, .const (.int .u8 (b.toNat : Int)))]) (hf : f (.const (.int .u8 (b.toNat : Int))) = .int .u8 (b.toNat : Int)) (w : World) : (execOp f o).run Tryz.prog w = .ok (.value (.slice (some ⟨w.heap.size, 0, none⟩) 1 1)) (w.alloc (.cells (cb [b]).toArray 5)) := by
  unfold execOp
  rw [ho]
  simp only [List.map_toArray, List.map_cons, List.map_nil, hf]
  kernel_rfl
theorem wpSeq_buildY1 {ops : Array Oper} {Q : Exit → Act → World → Prop} {rest : List Oper} {o : Oper} {a : Act} {w : World} (b : BitVec 8) (ho : o.op = .buildSlice 23 1 #[(0, .const (.int .u8 (b.toNat : Int)))]) (hw : Region.wanted o (yielded ops a.tmps) = true)
    (h : ∀ g w', NewR (cb [b]) 5 w g w' → wpList Tryz.prog ops Q rest (a.put o.dst (.slice (some ⟨g, 0, none⟩) 1 1)) w') : wpList Tryz.prog ops Q (o :: rest) a w :=
  wpSeq_val _ _ hw (build_y1 _ _ b ho rfl _) (h _ _ (NewR.of _ _ w))
set_option maxRecDepth 100000 in
set_option maxHeartbeats 4000000 in
theorem oBatch_any (v : Value) (l : List ActT) (w : World) (hr : ReadsA w v l) (hz : okZ l) : Calls Tryz.prog 18 #[v] w fun e w' => ∃ vb, e = .returned vb ∧ OwnB w' w.heap.size vb (batchB l) ∧ Below w.heap.size w w' := by
  have HR : Hid (ReadsA w v l) := hr
  have HZ : Hid (okZ l) := hz
  obtain ⟨n, HN⟩ : ∃ n, Hid (n = l.length) := ⟨_, rfl⟩
  obtain ⟨ad, c, hv⟩ := hr.form
  rw [← HN.out] at hv
  subst hv
  have HNB : Hid (n ≤ 1000000) := by rw [HN.out]; exact hz.n
  have f0 : IntKind.u64.wrap (n : Int) = (n : Int) := by rw [IntKind.wrap_u64]; have := HNB.out; omega
  clear hr hz
  go_enter Tryz.func18, Tryz.ntmps18
  have tk0 : Hid True := trivial
  go_wp2_with (first
    | (clear tk0; go_at_call 47; refine (qnum_any n (by have := HNB.out; omega) _).mono ?_; rintro e0 y1 ⟨v1, rfl, ho1, hb1⟩
       have HB0 : Hid (OwnB y1 w.heap.size v1 (encNum l.length ++ encAll encA (l.take 0))) := by
         show OwnB _ _ _ _
         rw [← HN.out, List.take_zero, show encAll encA [] = [] from rfl, List.append_nil]
         exact ho1
       have HB1 : Hid (Below w.heap.size w y1) := hb1
       obtain ⟨a1, n1, c1, hv1⟩ := ho1.reads.form
       subst hv1
       clear ho1 hb1))
  clear f0
  go_loopw [3, 4] (fun bv iv W => ∃ (ab : Option Addr) (nb cb i : Nat), bv = .slice ab nb cb ∧ iv = .int .i64 (i : Int) ∧ i ≤ n ∧ Hid (OwnB W w.heap.size (.slice ab nb cb) (encNum l.length ++ encAll encA (l.take i))) ∧ Hid (Below w.heap.size w W)) (fun _ iv _ => n - (intOf iv).toNat)
  case atStart => exact ⟨a1, n1, c1, 0, rfl, rfl, Nat.zero_le _, HB0, HB1⟩
  case round =>
    clear HB0 HB1
    obtain ⟨ab, nb, cbb, i, rfl, rfl, hi, HBB, HBW⟩ := hrel
    by_cases hin : i < n
    case neg =>
      have hlk : ¬ ((i : Int) < (n : Int)) := by omega
      have hall : encNum l.length ++ encAll encA (l.take i) = batchB l := by rw [List.take_of_length_le (by rw [← HN.out]; omega)]; rfl
      rw [hall] at HBB
      have HBF : Hid (OwnB wr w.heap.size (.slice ab nb cbb) (batchB l)) := HBB.out
      go_wp2
      go_ret
      exact ⟨_, rfl, HBF.out, HBW.out⟩
    case pos =>
      have hlk : (i : Int) < (n : Int) := by omega
      have f1 : IntKind.i64.wrap ((i : Int) + 1) = (i : Int) + 1 := by rw [IntKind.wrap_i64]; have := HNB.out; omega
      have HIN : Hid (i < n) := hin
      have hil : i < l.length := by rw [← HN.out]; exact hin
      obtain ⟨b, off, vd, rfl, hrg, hrd⟩ := HR.out.at hil
      have hbt := batch_take hil
      obtain ⟨a, HA⟩ : ∃ a, Hid (a = l.getD i ⟨[], false, []⟩) := ⟨_, rfl⟩
      have hmem : a ∈ l := by rw [HA.out, List.getD_eq_getElem?_getD, List.getElem?_eq_getElem hil]; exact List.getElem_mem hil
      rw [← HA.out] at hrg hrd hbt
      obtain ⟨ks, HKS⟩ : ∃ s, Hid (s = strB a.key) := ⟨_, rfl⟩
      obtain ⟨st, HST⟩ : ∃ s, Hid (s = a.set) := ⟨_, rfl⟩
      obtain ⟨av, nv, cv, hvd⟩ := hrd.form
      subst hvd
      obtain ⟨bl, HBL⟩ : ∃ z, Hid (z = encNum l.length ++ encAll encA (l.take i)) := ⟨_, rfl⟩
      rw [← HBL.out] at HBB hbt
      have HBT : Hid (encNum l.length ++ encAll encA (l.take (i + 1)) = bl ++ (encText a.key ++ (if st then encNum 1 ++ encText a.data else encNum 0))) := by show _ = _; rw [hbt, encA, HST.out]
      have HLN : Hid (bl.length + (encText a.key).length + (encText a.data).length + 100 ≤ 10000000000 ∧ a.key.length + 10 ≤ 10000000000 ∧ a.data.length + 10 ≤ 10000000000) := by
        have h1 := batch_pre l i
        rw [← HBL.out] at h1
        have h2 := HZ.out.z
        have h3 := encA_big hmem
        have h4 := encA_len a
        have h5 := HZ.out.d a hmem
        have h6 : (encText a.key).length ≤ (encA a).length := by rw [encA, List.length_append]; omega
        have h7 : (encText a.data).length ≤ a.data.length + 10 := by rw [encText, List.length_append]; have := enc_len10 a.data.length (by omega); omega
        refine ⟨by omega, ?_, by omega⟩
        split at h4 <;> omega
      have HCL : Hid (∀ W, Below w.heap.size w W → W.rangeAt b (off + i * 3) [.string ks, .bool st, .slice av nv cv]) := fun W hW => by rw [HKS.out, HST.out]; exact range_below hrg hW (block_lt_of_cell (hrg 0 _ rfl))
      have HDD : Hid (∀ W, Below w.heap.size w W → Reads W (.slice av nv cv) a.data) := fun W hW => hrd.below hW
      clear hrg hrd hbt hmem hil
      have c0 : wr.cell? ⟨b, off + i * 3, none⟩ = some (.string ks) := HCL.out wr HBW.out 0 _ rfl
      cases st with
      | false =>
        have tk0 : Hid True := trivial
        have tk1 : Hid True := trivial
        have tk2 : Hid True := trivial
        have tk3 : Hid True := trivial
        have tk4 : Hid True := trivial
        have tk5 : Hid True := trivial
        have tk6 : Hid True := trivial
        go_wp2_with (first
          | (clear tk0; with_reducible refine wpSeq_idxA (.tmp 16) (.tmp 17) b off n c i HIN.out ?_ ?_ ?_ ?_ ?_
             · rfl
             · rfl
             · rfl
             · rfl)
          | (clear tk1; with_reducible refine wpSeq_convS (.tmp 20) ks a.key HKS.out ?_ ?_ ?_ ?_
             · rfl
             · rfl
             · rfl
             intro ak nk ck y2 hrk hbk
             have HRK : Hid (Reads y2 (.slice ak nk ck) a.key) := hrk
             have HB2 : Hid (Below w.heap.size w y2) := HBW.out.trans (hbk.mono HBW.out.size)
             have HO2 : Hid (OwnB y2 w.heap.size (.slice ab nb cbb) bl) := HBB.out.newS hbk
             clear hrk hbk c0)
          | (clear tk2; go_at_call 48; refine (qtext_any _ a.key _ HRK.out (by have := HLN.out; omega)).mono ?_; rintro e0 y3 ⟨v3, rfl, hr3, hb3⟩
             have HR3 : Hid (Reads y3 v3 (encText a.key)) := hr3
             have HB3 : Hid (Below w.heap.size w y3) := HB2.out.trans (hb3.mono HB2.out.size)
             have HO3 : Hid (OwnB y3 w.heap.size (.slice ab nb cbb) bl) := HO2.out.newS hb3
             obtain ⟨a3, n3, c3, hv3⟩ := hr3.form
             subst hv3
             clear hr3 hb3)
          | (clear tk3; at_builtin; refine wpList_appendB rfl (.tmp 15) (.tmp 22) rfl w.heap.size _ bl rfl HO3.out _ (encText a.key) rfl HR3.out (by have := HLN.out; omega) HB3.out.size ?_
             intro v4 y4 ho4 hb4 _
             have HO4 : Hid (OwnB y4 w.heap.size v4 (bl ++ encText a.key)) := ho4
             have HB4 : Hid (Below w.heap.size w y4) := HB3.out.trans hb4
             obtain ⟨a4, n4, c4, hv4⟩ := ho4.reads.form
             subst hv4
             have c1 : y4.cell? ⟨b, off + i * 3 + 1, none⟩ = some (.bool false) := HCL.out y4 HB4.out 1 _ rfl
             clear ho4 hb4)
          | (clear tk4; with_reducible refine wpSeq_idxA (.tmp 24) (.tmp 25) b off n c i HIN.out ?_ ?_ ?_ ?_ ?_
             · rfl
             · rfl
             · rfl
             · rfl)
          | (clear tk5; with_reducible refine wpSeq_buildY1 0 ?_ ?_ ?_
             · rfl
             · rfl
             intro g5 y5 nn
             have HR5 : Hid (Reads y5 (.slice (some ⟨g5, 0, none⟩) 1 1) [0]) := nn.blk.reads rfl (Nat.le_refl _)
             have HB5 : Hid (Below w.heap.size w y5) := HB4.out.trans (nn.below.mono HB4.out.size)
             have HO5 : Hid (OwnB y5 w.heap.size (.slice a4 n4 c4) (bl ++ encText a.key)) := HO4.out.newS nn.below
             clear nn c1)
          | (clear tk6; at_builtin; refine wpList_appendB rfl (.tmp 40) (.tmp 41) rfl w.heap.size _ _ rfl HO5.out _ [0] rfl HR5.out (by rw [List.length_append]; have := HLN.out; simp; omega) HB5.out.size ?_
             intro v9 y9 ho9 hb9 _
             have HO9 : Hid (OwnB y9 w.heap.size v9 (encNum l.length ++ encAll encA (l.take (i + 1)))) := by
               have hbt := HBT.out
               simp only [Bool.false_eq_true, if_false] at hbt
               show OwnB _ _ _ _
               rw [hbt, ← List.append_assoc, encNum_lt (by decide)]
               exact ho9
             have HB9 : Hid (Below w.heap.size w y9) := HB5.out.trans hb9
             obtain ⟨a9, n9, c9, hv9⟩ := ho9.reads.form
             subst hv9
             clear ho9 hb9))
        go_roundw
        case rel => exact ⟨a9, n9, c9, i + 1, rfl, by simp, by omega, HO9, HB9⟩
        case measure => simp [intOf]; omega
      | true =>
        have tk0 : Hid True := trivial
        have tk1 : Hid True := trivial
        have tk2 : Hid True := trivial
        have tk3 : Hid True := trivial
        have tk4 : Hid True := trivial
        have tk5 : Hid True := trivial
        have tk6 : Hid True := trivial
        have tk7 : Hid True := trivial
        have tk8 : Hid True := trivial
        have tk9 : Hid True := trivial
        go_wp2_with (first
          | (clear tk0; with_reducible refine wpSeq_idxA (.tmp 16) (.tmp 17) b off n c i HIN.out ?_ ?_ ?_ ?_ ?_
             · rfl
             · rfl
             · rfl
             · rfl)
          | (clear tk1; with_reducible refine wpSeq_convS (.tmp 20) ks a.key HKS.out ?_ ?_ ?_ ?_
             · rfl
             · rfl
             · rfl
             intro ak nk ck y2 hrk hbk
             have HRK : Hid (Reads y2 (.slice ak nk ck) a.key) := hrk
             have HB2 : Hid (Below w.heap.size w y2) := HBW.out.trans (hbk.mono HBW.out.size)
             have HO2 : Hid (OwnB y2 w.heap.size (.slice ab nb cbb) bl) := HBB.out.newS hbk
             clear hrk hbk c0)
          | (clear tk2; go_at_call 48; refine (qtext_any _ a.key _ HRK.out (by have := HLN.out; omega)).mono ?_; rintro e0 y3 ⟨v3, rfl, hr3, hb3⟩
             have HR3 : Hid (Reads y3 v3 (encText a.key)) := hr3
             have HB3 : Hid (Below w.heap.size w y3) := HB2.out.trans (hb3.mono HB2.out.size)
             have HO3 : Hid (OwnB y3 w.heap.size (.slice ab nb cbb) bl) := HO2.out.newS hb3
             obtain ⟨a3, n3, c3, hv3⟩ := hr3.form
             subst hv3
             clear hr3 hb3)
          | (clear tk3; at_builtin; refine wpList_appendB rfl (.tmp 15) (.tmp 22) rfl w.heap.size _ bl rfl HO3.out _ (encText a.key) rfl HR3.out (by have := HLN.out; omega) HB3.out.size ?_
             intro v4 y4 ho4 hb4 _
             have HO4 : Hid (OwnB y4 w.heap.size v4 (bl ++ encText a.key)) := ho4
             have HB4 : Hid (Below w.heap.size w y4) := HB3.out.trans hb4
             obtain ⟨a4, n4, c4, hv4⟩ := ho4.reads.form
             subst hv4
             have c1 : y4.cell? ⟨b, off + i * 3 + 1, none⟩ = some (.bool true) := HCL.out y4 HB4.out 1 _ rfl
             clear ho4 hb4)
          | (clear tk4; with_reducible refine wpSeq_idxA (.tmp 24) (.tmp 25) b off n c i HIN.out ?_ ?_ ?_ ?_ ?_
             · rfl
             · rfl
             · rfl
             · rfl)
          | (clear tk5; with_reducible refine wpSeq_buildY1 1 ?_ ?_ ?_
             · rfl
             · rfl
             intro g5 y5 nn
             have HR5 : Hid (Reads y5 (.slice (some ⟨g5, 0, none⟩) 1 1) [1]) := nn.blk.reads rfl (Nat.le_refl _)
             have HB5 : Hid (Below w.heap.size w y5) := HB4.out.trans (nn.below.mono HB4.out.size)
             have HO5 : Hid (OwnB y5 w.heap.size (.slice a4 n4 c4) (bl ++ encText a.key)) := HO4.out.newS nn.below
             clear nn c1)
          | (clear tk6; at_builtin; refine wpList_appendB rfl (.tmp 29) (.tmp 30) rfl w.heap.size _ _ rfl HO5.out _ [1] rfl HR5.out (by rw [List.length_append]; have := HLN.out; simp; omega) HB5.out.size ?_
             intro v6 y6 ho6 hb6 _
             have HO6 : Hid (OwnB y6 w.heap.size v6 (bl ++ encText a.key ++ [1])) := ho6
             have HB6 : Hid (Below w.heap.size w y6) := HB5.out.trans hb6
             obtain ⟨a6, n6, c6, hv6⟩ := ho6.reads.form
             subst hv6
             have c2 : y6.cell? ⟨b, off + i * 3 + 2, none⟩ = some (.slice av nv cv) := HCL.out y6 HB6.out 2 _ rfl
             clear ho6 hb6)
          | (clear tk7; with_reducible refine wpSeq_idxA (.tmp 33) (.tmp 34) b off n c i HIN.out ?_ ?_ ?_ ?_ ?_
             · rfl
             · rfl
             · rfl
             · rfl)
          | (clear tk8; go_at_call 48; refine (qtext_any _ a.data _ (HDD.out _ HB6.out) (by have := HLN.out; omega)).mono ?_; rintro e0 y7 ⟨v7, rfl, hr7, hb7⟩
             have HR7 : Hid (Reads y7 v7 (encText a.data)) := hr7
             have HB7 : Hid (Below w.heap.size w y7) := HB6.out.trans (hb7.mono HB6.out.size)
             have HO7 : Hid (OwnB y7 w.heap.size (.slice a6 n6 c6) (bl ++ encText a.key ++ [1])) := HO6.out.newS hb7
             obtain ⟨a7, n7, c7, hv7⟩ := hr7.form
             subst hv7
             clear hr7 hb7 c2)
          | (clear tk9; at_builtin; refine wpList_appendB rfl (.tmp 32) (.tmp 38) rfl w.heap.size _ _ rfl HO7.out _ (encText a.data) rfl HR7.out (by rw [List.length_append, List.length_append]; have := HLN.out; simp; omega) HB7.out.size ?_
             intro v9 y9 ho9 hb9 _
             have HO9 : Hid (OwnB y9 w.heap.size v9 (encNum l.length ++ encAll encA (l.take (i + 1)))) := by
               have hbt := HBT.out
               simp only [if_true] at hbt
               show OwnB _ _ _ _
               rw [hbt, encNum_lt (by decide)]
               simp only [List.append_assoc] at ho9 ⊢
               exact ho9
             have HB9 : Hid (Below w.heap.size w y9) := HB7.out.trans hb9
             obtain ⟨a9, n9, c9, hv9⟩ := ho9.reads.form
             subst hv9
             clear ho9 hb9))
        go_roundw
        case rel => exact ⟨a9, n9, c9, i + 1, rfl, by simp, by omega, HO9, HB9⟩
        case measure => simp [intOf]; omega
end Go.Proofs.YtopmeedmgjdcgaaGreatDoor
/- The walks of the reader's Fail and take: bytes from their front on; what is thrown. -/
namespace Go.Proofs.YtopmeedmgjdcgaaGreatDoor
open Go.RowKit
set_option maxRecDepth 100000
/-- the reader at gr, of the input at gi, which still has the bytes l -/
structure Rd (w : World) (gr gi : Nat) (v : Value) (l : List (BitVec 8)) : Prop where
  rd : Blk w gr [.pointer (some ⟨gi, 0, none⟩)] 122
  inp : Blk w gi [v, .bool true, .bool false] 120
  byt : Reads w v l
/-- what a reader throws -/
def thrown (gi : Nat) : Ending := .panicked [{ v := .iface 118 (.pointer (some ⟨gi, 0, none⟩)), recovered := false }]
structure Threw (gi : Nat) (w : World) (e : Ending) (w' : World) : Prop where
  eq : e = thrown gi
  bad : ∃ v, Blk w' gi [v, .bool true, .bool true] 120 ∧ ∃ ad n c, v = .slice ad n c
  onl : Only gi w w'
theorem Rd.ne {w : World} {gr gi : Nat} {v : Value} {l : List (BitVec 8)} (h : Rd w gr gi v l) : gr ≠ gi := by
  intro he
  have h1 := h.rd
  have h2 := h.inp
  subst he
  unfold Blk at h1 h2
  rw [h1] at h2
  simp at h2
theorem Rd.slice {w : World} {gr gi : Nat} {v : Value} {l : List (BitVec 8)} (h : Rd w gr gi v l) : ∃ ad c, v = .slice ad l.length c := by
  obtain ⟨ad, c, hv, _⟩ := h.byt
  exact ⟨ad, c, hv⟩
/-- no byte lies in a block of a slice and two bools -/
theorem Blk.apart {w : World} {gi : Nat} {u : Value} {x y : Bool} {t : TypeId} {l : List (BitVec 8)} (hb : Blk w gi [u, .bool x, .bool y] t) (hu : ∃ ad n c, u = .slice ad n c) : ∀ b off, 0 < l.length → (∀ j, j < l.length → w.cell? ⟨b, off + j, none⟩ = some (.int .u8 ((l.getD j 0).toNat : Int))) → b ≠ gi := by
  intro b off hp hc he
  subst he
  have h0 := hc 0 hp
  rw [hb.cell] at h0
  obtain ⟨ad, n, c, rfl⟩ := hu
  match off, h0 with
  | 0, h0 => simp at h0
  | 1, h0 => simp at h0
  | 2, h0 => simp at h0
  | k + 3, h0 => simp at h0
theorem Reads.only {w w' : World} {gi : Nat} {v u : Value} {x y : Bool} {t : TypeId} {l : List (BitVec 8)} (h : Reads w v l) (hb : Blk w gi [u, .bool x, .bool y] t) (hu : ∃ ad n c, u = .slice ad n c) (ho : Only gi w w') : Reads w' v l := by
  have ha := hb.apart (l := l) hu
  obtain ⟨ad, cap, rfl, hc, hn, hx⟩ := h
  refine ⟨ad, cap, rfl, hc, hn, fun hp => ?_⟩
  obtain ⟨b, off, h1, h2⟩ := hx hp
  exact ⟨b, off, h1, fun j hj => ho.cell (p := ⟨b, off + j, Option.none⟩) (ha b off hp h2) (h2 j hj)⟩
theorem Reads.take {w : World} {ad : Option Addr} {n c : Nat} {l : List (BitVec 8)} (h : Reads w (.slice ad n c) l) (k : Nat) (hk : k ≤ l.length) : Reads w (.slice ad k c) (l.take k) := by
  obtain ⟨ad', cap, hv, hc, hn, hx⟩ := h
  simp only [Value.slice.injEq] at hv
  obtain ⟨rfl, rfl, rfl⟩ := hv
  have hl : (l.take k).length = k := by rw [List.length_take]; omega
  refine ⟨ad, c, by rw [hl], by omega, hn, fun hp => ?_⟩
  rw [hl] at hp ⊢
  obtain ⟨b, off, h1, h2⟩ := hx (by omega)
  refine ⟨b, off, h1, fun j hj => ?_⟩
  rw [h2 j (by omega)]
  simp [hj]
theorem Reads.drop {w : World} {ad : Addr} {n c : Nat} {l : List (BitVec 8)} (h : Reads w (.slice (Option.some ad) n c) l) (k : Nat) (hk : k ≤ l.length) (o : Addr) (ho : k < l.length → o = ad.add k) : Reads w (.slice (Option.some o) (n - k) (c - k)) (l.drop k) := by
  obtain ⟨ad', cap, hv, hc, hn, hx⟩ := h
  simp only [Value.slice.injEq] at hv
  obtain ⟨rfl, rfl, rfl⟩ := hv
  have hl : (l.drop k).length = l.length - k := by rw [List.length_drop]
  refine ⟨_, c - k, by rw [hl], by omega, (fun h => by cases h), fun hp => ?_⟩
  rw [hl] at hp ⊢
  obtain ⟨b', off', h1, h2⟩ := hx (by omega)
  simp only [Option.some.injEq] at h1
  subst h1
  have := ho (by omega)
  rw [Addr.add_mid] at this
  subst this
  refine ⟨b', _, rfl, fun j hj => ?_⟩
  rw [Nat.add_assoc, h2 (k + j) (by omega)]
  simp
theorem Rd.next {w : World} {gr gi : Nat} {v : Value} {l : List (BitVec 8)} (h : Rd w gr gi v l) (v2 : Value) (l2 : List (BitVec 8)) (h2 : Reads w v2 l2) : Rd (w.setCell ⟨gi, 0, none⟩ v2) gr gi v2 l2 := by
  obtain ⟨ad, c, hv⟩ := h.slice
  exact ⟨h.rd.other _ _ (by exact h.ne), h.inp.set 0 v2, h2.only h.inp ⟨ad, _, c, hv⟩ ((Only.refl _ _).setCell _ _)⟩
theorem Rd.threw {w : World} {gr gi : Nat} {v : Value} {l : List (BitVec 8)} (h : Rd w gr gi v l) : Threw gi w (thrown gi) (w.setCell ⟨gi, 2, none⟩ (.bool true)) := by
  obtain ⟨ad, c, hv⟩ := h.slice
  exact ⟨rfl, ⟨v, h.inp.set 2 (.bool true), ad, _, c, hv⟩, (Only.refl _ _).setCell _ _⟩
def cut (n : Nat) (l : List (BitVec 8)) : Option (List (BitVec 8) × List (BitVec 8)) := if n ≤ l.length then some (l.take n, l.drop n) else none
end Go.Proofs.YtopmeedmgjdcgaaGreatDoor
/- The walks of the reader's Num and Count. -/
namespace Go.Proofs.YtopmeedmgjdcgaaGreatDoor
open Go.RowKit
set_option maxRecDepth 100000
structure RnInv (gr gi : Nat) (v0 : Value) (w : World) (l : List (BitVec 8)) (k acc : Nat) (rest : List (BitVec 8)) (wr : World) : Prop where
  le : k ≤ 10
  lt : acc < 2 ^ (7 * k)
  eq : readNum l = decNum (10 - k) k acc rest
  rd : ∃ v, Rd wr gr gi v rest ∧ v.ownBlock = v0.ownBlock
  onl : Only gi w wr
def readCount (most : Nat) (l : List (BitVec 8)) : Option (Nat × List (BitVec 8)) :=
  match readNum l with
  | none => none
  | some (n, r) => if n ≤ most then some (n, r) else none
end Go.Proofs.YtopmeedmgjdcgaaGreatDoor
/- The walks of bytes.Clone, of the reader's Text and Digest. -/
namespace Go.Proofs.YtopmeedmgjdcgaaGreatDoor
open Go.RowKit
set_option maxRecDepth 100000
theorem OwnB.zero (w : World) (base g : Nat) (hg : base ≤ g) (h : Blk w g [] 5) : OwnB w base (.slice (some ⟨g, 0, none⟩) 0 0) [] :=
  OwnB.of_blk (l := []) (c := 0) h hg rfl (by unfold maxLen; omega) (Nat.le_refl _) rfl
theorem Rd.below {w w' : World} {gr gi : Nat} {v : Value} {l : List (BitVec 8)} (h : Rd w gr gi v l) (hb : Below w.heap.size w w') : Rd w' gr gi v l := ⟨h.rd.below hb h.rd.lt, h.inp.below hb h.inp.lt, h.byt.below hb⟩
theorem Rd.others {w w' : World} {gr gi B : Nat} {v : Value} {l : List (BitVec 8)} (h : Rd w gr gi v l) (hgr : gr < B) (hgi : gi < B) (hv : 0 < l.length → ∀ k, v.ownBlock = some k → k < B) {C : Nat} (hC : B ≤ C) (hb : Below C w w') : Rd w' gr gi v l := by
  refine ⟨h.rd.below hb (by omega), h.inp.below hb (by omega), ?_⟩
  obtain ⟨ad, cap, rfl, hc, hn, hx⟩ := h.byt
  refine ⟨ad, cap, rfl, hc, hn, fun hp => ?_⟩
  obtain ⟨b, off, rfl, hy⟩ := hx hp
  refine ⟨b, off, rfl, fun j hj => ?_⟩
  have : b < C := Nat.lt_of_lt_of_le (hv hp b rfl) hC
  rw [hb.cell (p := ⟨b, off + j, none⟩) this]
  exact hy j hj
theorem Only.more {g B : Nat} {w w1 w2 : World} (h : Only g w w1) (hb : Below B w1 w2) (hB : w.heap.size ≤ B) : Only g w w2 :=
  ⟨hb.os.trans h.os, hb.tape.trans h.tape, hb.output.trans h.output, Nat.le_trans h.size hb.size, fun k hk hl => (hb.block k (by omega)).trans (h.block k hk hl)⟩
end Go.Proofs.YtopmeedmgjdcgaaGreatDoor
/- The walks of codec.Read and of what it defers: what is thrown is caught. -/
namespace Go.Proofs.YtopmeedmgjdcgaaGreatDoor
open Go.RowKit
set_option maxRecDepth 100000
/-- what a reading by f comes to: the new blocks of Read (from H on) are as they were, but for the input; f came back, or threw -/
structure Does (H : Nat) (A : List (BitVec 8) → World → Prop) (B : World → Prop) (w1 : World) (e : Ending) (w2 : World) : Prop where
  size : w1.heap.size ≤ w2.heap.size
  kept : ∀ k, H ≤ k → k < H + 4 → k ≠ H + 1 → w2.heap[k]? = w1.heap[k]?
  way : (e = .returned (.tuple #[]) ∧ ∃ v2 l2, Rd w2 (H + 3) (H + 1) v2 l2 ∧ A l2 w2) ∨ (e = thrown (H + 1) ∧ (∃ v ad n c, v = .slice ad n c ∧ Blk w2 (H + 1) [v, .bool true, .bool true] 120) ∧ B w2)
/-- the world w' is w but for the blocks from H to H + 3 -/
structure Past (H : Nat) (w w' : World) : Prop where
  os : w'.os = w.os
  tape : w'.tape = w.tape
  output : w'.output = w.output
  size : w'.heap.size = w.heap.size
  block : ∀ k, k < H ∨ H + 4 ≤ k → w'.heap[k]? = w.heap[k]?
theorem Past.refl (H : Nat) (w : World) : Past H w w := ⟨rfl, rfl, rfl, rfl, fun _ _ => rfl⟩
theorem Past.setCell {H : Nat} {w w' : World} (h : Past H w w') (a : Addr) (ha : H ≤ a.block ∧ a.block < H + 4) (v : Value) : Past H w (w'.setCell a v) :=
  ⟨h.os, h.tape, h.output, by have := h.size; simp [World.setCell]; omega, fun k hk => (Below.heap_setCell _ _ _ _ (by omega)).trans (h.block k hk)⟩
end Go.Proofs.YtopmeedmgjdcgaaGreatDoor
/- A slice of bytes of the call's own, from an earlier block on (layer 15). -/
namespace Go.Proofs.YtopmeedmgjdcgaaGreatDoor
open Go.RowKit
set_option maxRecDepth 100000
theorem OwnB.mono {w : World} {base B : Nat} {v : Value} {l : List (BitVec 8)} (h : OwnB w base v l) (hB : B ≤ base) : OwnB w B v l := by
  obtain ⟨h1, h2⟩ := h
  refine ⟨h1, h2.imp id ?_⟩
  rintro ⟨g, cap, cur, e, hg, r⟩
  exact ⟨g, cap, cur, e, Nat.le_trans hB hg, r⟩
end Go.Proofs.YtopmeedmgjdcgaaGreatDoor
/- The walks of the reference's reader: Num, Count, Take, Text, Digest, Done. -/
namespace Go.Proofs.YtopmeedmgjdcgaaGreatDoor
open Go.RowKit
set_option maxRecDepth 100000
/-- the reference's reader at g: of the bytes l so many were read -/
structure InS (w : World) (g : Nat) (v : Value) (l : List (BitVec 8)) (pos : Nat) (bad : Bool) : Prop where
  blk : Blk w g [v, .int .i64 (pos : Int), .bool bad] 82
  byt : Reads w v l
  le : pos ≤ l.length
theorem InS.ne {w : World} {g : Nat} {v : Value} {l : List (BitVec 8)} {pos : Nat} {bad : Bool} (h : InS w g v l pos bad) : ∀ b off, 0 < l.length → (∀ j, j < l.length → w.cell? ⟨b, off + j, none⟩ = some (.int .u8 ((l.getD j 0).toNat : Int))) → b ≠ g := by
  intro b off hp hc he
  subst he
  have h0 := hc 0 hp
  rw [h.blk.cell] at h0
  obtain ⟨ad, cap, hv, _⟩ := h.byt
  subst hv
  match off, h0 with
  | 0, h0 => simp at h0
  | 1, h0 => simp at h0
  | 2, h0 => simp at h0
  | k + 3, h0 => simp at h0
theorem InS.only {w w' : World} {g : Nat} {v : Value} {l : List (BitVec 8)} {pos : Nat} {bad : Bool} (h : InS w g v l pos bad) (ho : Only g w w') : Reads w' v l := by
  have ha := h.ne
  obtain ⟨ad, cap, rfl, hc, hn, hx⟩ := h.byt
  refine ⟨ad, cap, rfl, hc, hn, fun hp => ?_⟩
  obtain ⟨b, off, h1, h2⟩ := hx hp
  exact ⟨b, off, h1, fun j hj => ho.cell (p := ⟨b, off + j, none⟩) (ha b off hp h2) (h2 j hj)⟩
theorem InS.drewN {w : World} {g : Nat} {v : Value} {l : List (BitVec 8)} {pos : Nat} {bad : Bool} (h : InS w g v l pos bad) (n : Nat) : InS (w.drewN n) g v l pos bad := ⟨h.blk.drewN n, h.byt, h.le⟩
theorem InS.below {w w' : World} {g : Nat} {v : Value} {l : List (BitVec 8)} {pos : Nat} {bad : Bool} (h : InS w g v l pos bad) (hb : Below w.heap.size w w') : InS w' g v l pos bad := ⟨h.blk.below hb h.blk.lt, h.byt.below hb, h.le⟩
structure InInv (g : Nat) (v : Value) (l : List (BitVec 8)) (pos : Nat) (bad : Bool) (w : World) (k acc : Nat) (wr : World) : Prop where
  le : k ≤ 10
  lt : acc < 2 ^ (7 * k)
  eq : readNum (l.drop pos) = decNum (10 - k) k acc (l.drop (pos + k))
  st : InS wr g v l (pos + k) bad
  onl : Only g w wr
end Go.Proofs.YtopmeedmgjdcgaaGreatDoor
/- The walks of the reference's reader: Count and Take. -/
namespace Go.Proofs.YtopmeedmgjdcgaaGreatDoor
open Go.RowKit
set_option maxRecDepth 100000
end Go.Proofs.YtopmeedmgjdcgaaGreatDoor
/- The walks of the reference's reader: Text, Digest, Done. -/
namespace Go.Proofs.YtopmeedmgjdcgaaGreatDoor
open Go.RowKit
set_option maxRecDepth 100000
def fillD (a : List (BitVec 8)) : Nat → List (BitVec 8)
  | 0 => zb32
  | k + 1 => (fillD a k).set k (a.getD k 0)
structure DgInv4 (D : Nat) (a : List (BitVec 8)) (w2 : World) (u : Value) (k : Nat) (wr : World) : Prop where
  le : k ≤ a.length
  res : Blk wr D (cb zb32) 155
  out : Blk wr (D + 1) (cb (fillD a k)) 155
  own : OwnB wr (D + 2) u a
  onl : Only (D + 1) w2 wr
end Go.Proofs.YtopmeedmgjdcgaaGreatDoor
/- The walk of store.readAct (layer 15). -/
namespace Go.Proofs.YtopmeedmgjdcgaaGreatDoor
open Go.RowKit
set_option maxRecDepth 100000
/-- where readAct stands: the reader, and its result's block g2 -/
structure Ra (w : World) (gr gi g2 : Nat) (v0 v : Value) (r : Bs) (W : World) : Prop where
  rd : Rd W gr gi v r
  onl : Only gi w W
  res : Blk W g2 zA 62
  own : v.ownBlock = v0.ownBlock
  ge : w.heap.size ≤ g2
  gi : gi < w.heap.size
theorem Ra.new {w W W' : World} {gr gi g2 : Nat} {v0 v : Value} {r : Bs} (h : Ra w gr gi g2 v0 v r W) (hb : Below W.heap.size W W') : Ra w gr gi g2 v0 v r W' := ⟨h.rd.below hb, h.onl.trans (Only.of_below hb), h.res.below hb h.res.lt, h.own, h.ge, h.gi⟩
theorem Ra.call {w W W' : World} {gr gi g2 : Nat} {v0 v v' : Value} {r r' : Bs} (h : Ra w gr gi g2 v0 v r W) (hr : Rd W' gr gi v' r') (ho : Only gi W W') (hv : v'.ownBlock = v.ownBlock) : Ra w gr gi g2 v0 v' r' W' := ⟨hr, h.onl.trans ho, blk_same h.res (ho.block g2 (by have := h.ge; have := h.gi; omega) h.res.lt), hv.trans h.own, h.ge, h.gi⟩
end Go.Proofs.YtopmeedmgjdcgaaGreatDoor
/- The walks of store.ReadBatch and of the function that it hands on (layer 15). -/
namespace Go.Proofs.YtopmeedmgjdcgaaGreatDoor
open Go.RowKit
set_option maxRecDepth 100000
theorem Tryz.infoact : (Tryz.prog.info? 62).map (fun i => (i.zero, i.size, i.bytes)) = some (some (.agg zA.toArray), 3, 48) := by kernel_rfl
/-- acts' cells, one behind the other -/
def rowP (ps : List (ActT × Value)) : List Value := (ps.map fun p => actC p.1 p.2).flatten
theorem rowP_snoc (ps : List (ActT × Value)) (p : ActT × Value) : rowP (ps ++ [p]) = rowP ps ++ actC p.1 p.2 := by simp [rowP]
theorem rowP_len (ps : List (ActT × Value)) : (rowP ps).length = ps.length * 3 := by
  induction ps with
  | nil => rfl
  | cons p ps ih => simp only [rowP, List.map_cons, List.flatten_cons, List.length_append, List.length_cons] at *; rw [ih, actC]; simp; omega
theorem rowP_at : ∀ (ps : List (ActT × Value)) (j i : Nat) (p : ActT × Value) (v : Value), ps[j]? = some p → (actC p.1 p.2)[i]? = some v → (rowP ps)[j * 3 + i]? = some v
  | [], j, _, _, _, h, _ => by simp at h
  | q :: ps, 0, i, p, v, h, hv => by
    simp at h
    subst h
    have hi : i < (actC q.1 q.2).length := (List.getElem?_eq_some_iff.1 hv).1
    show (actC q.1 q.2 ++ rowP ps)[0 * 3 + i]? = _
    rw [Nat.zero_mul, Nat.zero_add, List.getElem?_append_left hi]
    exact hv
  | q :: ps, j + 1, i, p, v, h, hv => by
    simp at h
    show (actC q.1 q.2 ++ rowP ps)[(j + 1) * 3 + i]? = _
    rw [List.getElem?_append_right (by simp [actC]; omega), show (j + 1) * 3 + i - (actC q.1 q.2).length = j * 3 + i by simp [actC]; omega]
    exact rowP_at ps j i p v h hv
/-- a slice of acts, the call's own from block base on -/
structure OwnA (W : World) (base : Nat) (v : Value) (ps : List (ActT × Value)) : Prop where
  row : W.ownsRow base 62 3 v ps.length (rowP ps)
  dat : ∀ p ∈ ps, OwnB W base p.2 p.1.data
theorem OwnA.nil (W : World) (base : Nat) : OwnA W base (.slice none 0 0) [] := ⟨World.ownsRow_nil _ _ _ _, fun p hp => by cases hp⟩
theorem OwnA.form {W : World} {base : Nat} {v : Value} {ps : List (ActT × Value)} (h : OwnA W base v ps) : ∃ a c, v = .slice a ps.length c := by
  obtain ⟨_, h2⟩ := h.row
  rcases h2 with ⟨rfl, h0⟩ | ⟨g, cap, cur, rfl, _⟩
  · exact ⟨none, 0, by rw [h0]⟩
  · exact ⟨_, cap, rfl⟩
theorem OwnA.lt {W : World} {base : Nat} {v : Value} {ps : List (ActT × Value)} (h : OwnA W base v ps) : ∀ k, v.ownBlock = some k → base ≤ k ∧ k < W.heap.size := World.ownsRow.lt h.row
theorem OwnA.same {W W' : World} {base : Nat} {v : Value} {ps : List (ActT × Value)} (h : OwnA W base v ps) (hs : ∀ k, base ≤ k → k < W.heap.size → W'.heap[k]? = W.heap[k]?) : OwnA W' base v ps := by
  refine ⟨?_, fun p hp => (h.dat p hp).sameS (fun k hk => hs k ((h.dat p hp).ltS k hk).1 ((h.dat p hp).ltS k hk).2)⟩
  have hlt := h.lt
  obtain ⟨h1, h2⟩ := h.row
  refine ⟨h1, ?_⟩
  rcases h2 with h2 | ⟨g, cap, cur, rfl, hg, hh, r⟩
  · exact Or.inl h2
  · exact Or.inr ⟨g, cap, cur, rfl, hg, by rw [hs g hg (hlt g rfl).2]; exact hh, r⟩
theorem OwnA.reads {W : World} {base : Nat} {v : Value} {ps : List (ActT × Value)} (h : OwnA W base v ps) : ReadsA W v (ps.map (·.1)) := by
  obtain ⟨h1, h2⟩ := id h.row
  rcases h2 with ⟨rfl, h0⟩ | ⟨g, cap, cur, rfl, hg, hh, hc, hm, hs, ht⟩
  · have : ps = [] := List.eq_nil_of_length_eq_zero h0
    subst this
    exact ReadsA.nil W
  · refine ⟨_, cap, by rw [List.length_map], by rw [List.length_map]; exact hc, (fun e => by cases e), fun _ => ⟨g, 0, rfl, fun j hj => ?_⟩⟩
    rw [List.length_map] at hj
    obtain ⟨p, hp⟩ : ∃ p, ps[j]? = some p := ⟨ps[j], List.getElem?_eq_getElem hj⟩
    have e : (ps.map (·.1)).getD j ⟨[], false, []⟩ = p.1 := by rw [List.getD_eq_getElem?_getD, List.getElem?_map, hp]; rfl
    rw [e]
    refine ⟨p.2, fun i u hu => ?_, (h.dat p (List.mem_of_getElem? hp)).reads⟩
    have hr := rowP_at ps j i p u hp hu
    have hi : j * 3 + i < (rowP ps).length := (List.getElem?_eq_some_iff.1 hr).1
    rw [rowP_len] at hi
    rw [cell_of_row W g (0 + j * 3 + i) cur _ (0, 0) hh, Nat.zero_add]
    rw [← ht, List.getElem?_take_of_lt hi] at hr
    simpa using hr
theorem build_a1 (f : Operand → Value) (o : Oper) (x : Operand) (s : ByteArray) (b : Bool) (ad : Option Addr) (n c : Nat) (hx : f x = .agg [.string s, .bool b, .slice ad n c].toArray) (ho : o.op = .buildSlice 22 1 #[(0, x)]) (w : World) : (execOp f o).run Tryz.prog w = .ok (.value (.slice (some ⟨w.heap.size, 0, none⟩) 1 1)) (w.alloc (.cells [.string s, .bool b, .slice ad n c].toArray 62)) := by
  unfold execOp
  rw [ho]
  simp only [List.map_toArray, List.map_cons, List.map_nil, hx]
  kernel_rfl
theorem readAll_snoc {r s : Bs} {a : ActT} : ∀ (k : Nat) (l : Bs) (xs : List ActT), readAll readA k l = some (xs, r) → readA r = some (a, s) → readAll readA (k + 1) l = some (xs ++ [a], s)
  | 0, l, xs, h, h2 => by
    simp only [readAll, Option.some.injEq, Prod.mk.injEq] at h
    obtain ⟨rfl, rfl⟩ := h
    simp only [readAll, h2, List.nil_append]
  | k + 1, l, xs, h, h2 => by
    rw [readAll] at h ⊢
    cases h1 : readA l with
    | none => rw [h1] at h; cases h
    | some p =>
      obtain ⟨b, q⟩ := p
      rw [h1] at h
      simp only at h ⊢
      cases h3 : readAll readA k q with
      | none => rw [h3] at h; cases h
      | some p2 =>
        obtain ⟨l2, t⟩ := p2
        rw [h3] at h
        simp only [Option.some.injEq, Prod.mk.injEq] at h
        obtain ⟨rfl, rfl⟩ := h
        rw [readAll_snoc k q l2 h3 h2]
        rfl
theorem readAll_stop {r : Bs} : ∀ (k m : Nat) (l : Bs) (xs : List ActT), readAll readA k l = some (xs, r) → readA r = none → k < m → readAll readA m l = none
  | 0, m, l, xs, h, h2, hm => by
    simp only [readAll, Option.some.injEq, Prod.mk.injEq] at h
    obtain ⟨rfl, rfl⟩ := h
    obtain ⟨m, rfl⟩ : ∃ j, m = j + 1 := ⟨m - 1, by omega⟩
    simp only [readAll, h2]
  | k + 1, m, l, xs, h, h2, hm => by
    obtain ⟨m, rfl⟩ : ∃ j, m = j + 1 := ⟨m - 1, by omega⟩
    rw [readAll] at h ⊢
    cases h1 : readA l with
    | none => rfl
    | some p =>
      obtain ⟨b, q⟩ := p
      rw [h1] at h
      simp only at h ⊢
      cases h3 : readAll readA k q with
      | none => rw [h3] at h; cases h
      | some p2 =>
        obtain ⟨l2, t⟩ := p2
        rw [h3] at h
        simp only [Option.some.injEq, Prod.mk.injEq] at h
        obtain ⟨rfl, rfl⟩ := h
        rw [readAll_stop k m q l2 h3 h2 (by omega)]
theorem readB_cnt {l : Bs} (h : readCount 4096 l = none) : readB l = none := by
  unfold readCount at h
  unfold readB readList
  cases h1 : readNum l with
  | none => rfl
  | some p =>
    obtain ⟨m, q⟩ := p
    rw [h1] at h
    simp only at h ⊢
    split at h
    · cases h
    next hm => simp [hm]
theorem readB_all {l r : Bs} {n : Nat} (h : readCount 4096 l = some (n, r)) (h2 : readAll readA n r = none) : readB l = none := by
  unfold readCount at h
  unfold readB readList
  cases h1 : readNum l with
  | none => rfl
  | some p =>
    obtain ⟨m, q⟩ := p
    rw [h1] at h
    simp only at h ⊢
    split at h
    next hm =>
      simp only [Option.some.injEq, Prod.mk.injEq] at h
      obtain ⟨rfl, rfl⟩ := h
      rw [if_pos hm, h2]
    · cases h
end Go.Proofs.YtopmeedmgjdcgaaGreatDoor
/- The walks of store.ReadBatch and of the function that it hands on (layer 15). -/
namespace Go.Proofs.YtopmeedmgjdcgaaGreatDoor
open Go.RowKit
set_option maxRecDepth 100000
/-- where the reading of a batch stands: the reader, the list's box gl, the acts so far -/
structure Rb (w : World) (H gl : Nat) (v0 : Value) (va v : Value) (ps : List (ActT × Value)) (r : Bs) (W : World) : Prop where
  rd : Rd W (H + 3) (H + 1) v r
  own : v.ownBlock = v0.ownBlock
  box : Blk W gl [va] 22
  lst : OwnA W (H + 4) va ps
  sz : w.heap.size = H + 4
  lt : gl < H
  size : w.heap.size ≤ W.heap.size
  os : W.os = w.os
  tape : W.tape = w.tape
  output : W.output = w.output
  fr : ∀ k, k < w.heap.size → k ≠ H + 1 → k ≠ gl → W.heap[k]? = w.heap[k]?
theorem Rb.new {w W W' : World} {H gl : Nat} {v0 va v : Value} {ps : List (ActT × Value)} {r : Bs} (h : Rb w H gl v0 va v ps r W) (hb : Below W.heap.size W W') : Rb w H gl v0 va v ps r W' :=
  ⟨h.rd.below hb, h.own, h.box.below hb h.box.lt, h.lst.same (fun k _ hk => hb.block k hk), h.sz, h.lt, Nat.le_trans h.size hb.size, hb.os.trans h.os, hb.tape.trans h.tape, hb.output.trans h.output, fun k hk h1 h2 => (hb.block k (Nat.lt_of_lt_of_le hk h.size)).trans (h.fr k hk h1 h2)⟩
theorem Rb.call {w W W' : World} {H gl : Nat} {v0 va v v' : Value} {ps : List (ActT × Value)} {r r' : Bs} (h : Rb w H gl v0 va v ps r W) (hr : Rd W' (H + 3) (H + 1) v' r') (ho : Only (H + 1) W W') (hv : v'.ownBlock = v.ownBlock) : Rb w H gl v0 va v' ps r' W' :=
  ⟨hr, hv.trans h.own, blk_same h.box (ho.block gl (by have := h.lt; omega) h.box.lt), h.lst.same (fun k h1 hk => ho.block k (by omega) hk), h.sz, h.lt, Nat.le_trans h.size ho.size, ho.os.trans h.os, ho.tape.trans h.tape, ho.output.trans h.output, fun k hk h1 h2 => (ho.block k h1 (Nat.lt_of_lt_of_le hk h.size)).trans (h.fr k hk h1 h2)⟩
theorem Rb.ownLt {w W : World} {H gl : Nat} {v0 va v : Value} {ps : List (ActT × Value)} {r : Bs} (h : Rb w H gl v0 va v ps r W) (h0 : ∀ k, v0.ownBlock = some k → k < H ∧ k ≠ gl) : ∀ k, v.ownBlock = some k → k < H ∧ k ≠ gl := fun k hk => h0 k (by rw [← h.own]; exact hk)
/-- the list is made longer, and laid into its box -/
theorem Rb.put {w W W6 W' : World} {H gl : Nat} {v0 va va' v : Value} {ps : List (ActT × Value)} {p : ActT × Value} {r : Bs} (h : Rb w H gl v0 va v ps r W) (h0 : ∀ k, v0.ownBlock = some k → k < H ∧ k ≠ gl) (ho : OwnA W6 (H + 4) va' (ps ++ [p])) (hg : W.grownBy W6 va.ownBlock) (hb : Blk W' gl [va'] 22) (hon : Only gl W6 W') : Rb w H gl v0 va' v (ps ++ [p]) r W' := by
  have hlt := h.lst.lt
  have hsz := h.sz
  have hgl := h.lt
  have up : ∀ k, k < W.heap.size → k < H + 4 → k ≠ gl → W'.heap[k]? = W.heap[k]? := fun k hk h4 hne => (hon.block k hne (Nat.lt_of_lt_of_le hk hg.size)).trans (hg.block k hk (fun e => by have := (hlt k e.symm).1; omega))
  have hs : W.heap.size ≤ W'.heap.size := Nat.le_trans hg.size hon.size
  have hrl := h.rd.rd.lt
  have hil := h.rd.inp.lt
  refine ⟨⟨blk_same h.rd.rd (up _ hrl (by omega) (by omega)), blk_same h.rd.inp (up _ hil (by omega) (by omega)), ?_⟩, h.own, hb, ho.same (fun k h1 hk => hon.block k (by omega) hk), h.sz, h.lt, Nat.le_trans h.size hs, hon.os.trans (hg.os.trans h.os), hon.tape.trans (hg.tape.trans h.tape), hon.output.trans (hg.output.trans h.output), fun k hk h1 h2 => (up k (Nat.lt_of_lt_of_le hk h.size) (by omega) h2).trans (h.fr k hk h1 h2)⟩
  obtain ⟨ad, cap, rfl, h2, h3, h4⟩ := h.rd.byt
  refine ⟨ad, cap, rfl, h2, h3, fun hp => ?_⟩
  obtain ⟨b, off, rfl, h6⟩ := h4 hp
  have hbk := h.ownLt h0 b rfl
  refine ⟨b, off, rfl, fun j hj => ?_⟩
  have h7 := h6 j hj
  have hb2 : W'.heap[b]? = W.heap[b]? := up b (block_lt_of_cell h7) (by omega) hbk.2
  unfold World.cell? at h7 ⊢
  rw [hb2]
  exact h7
/-- what the function leaves where it came back, and where it threw -/
def RbA (w : World) (H gl : Nat) (l : Bs) (l2 : Bs) (W : World) : Prop := ∃ va v ps, Rb w H gl v va v ps l2 W ∧ readB l = (if l2 = [] then some (ps.map (·.1)) else none)
def RbB (w : World) (H gl : Nat) (l : Bs) (W : World) : Prop := readB l = none ∧ w.heap.size ≤ W.heap.size ∧ W.os = w.os ∧ W.tape = w.tape ∧ W.output = w.output ∧ ∀ k, k < w.heap.size → k ≠ H + 1 → k ≠ gl → W.heap[k]? = w.heap[k]?
theorem Rb.done {w W : World} {H gl : Nat} {v0 va v : Value} {ps : List (ActT × Value)} {r l : Bs} (h : Rb w H gl v0 va v ps r W) (hn : readB l = (if r = [] then some (ps.map (·.1)) else none)) : Does H (RbA w H gl l) (RbB w H gl l) w (.returned (.tuple #[])) W := by
  have hsz := h.sz
  have hgl := h.lt
  exact ⟨h.size, fun k h1 h2 h3 => h.fr k (by omega) h3 (by omega), Or.inl ⟨rfl, v, r, h.rd, va, v, ps, ⟨h.rd, rfl, h.box, h.lst, h.sz, h.lt, h.size, h.os, h.tape, h.output, h.fr⟩, hn⟩⟩
end Go.Proofs.YtopmeedmgjdcgaaGreatDoor
/- The walk of store.ReadBatch (layer 15). -/
namespace Go.Proofs.YtopmeedmgjdcgaaGreatDoor
open Go.RowKit
set_option maxRecDepth 100000
theorem OwnA.mono {W : World} {base B : Nat} {v : Value} {ps : List (ActT × Value)} (h : OwnA W base v ps) (hB : B ≤ base) : OwnA W B v ps := by
  refine ⟨?_, fun p hp => (h.dat p hp).mono hB⟩
  obtain ⟨h1, h2⟩ := h.row
  refine ⟨h1, h2.imp id ?_⟩
  rintro ⟨g, cap, cur, e, hg, r⟩
  exact ⟨g, cap, cur, e, Nat.le_trans hB hg, r⟩
/-- what the reading by the function comes to, at the end of Read -/
structure Rz (w : World) (gl : Nat) (b : Bs) (en : Int) (w' : World) : Prop where
  bel : Below w.heap.size w w'
  out : (en = 0 ∧ ∃ va ps, readB b = some (ps.map (·.1)) ∧ Blk w' gl [va] 22 ∧ OwnA w' w.heap.size va ps) ∨ (en = 3 ∧ readB b = none)
end Go.Proofs.YtopmeedmgjdcgaaGreatDoor
/- The walk of the statements' light (layer 15). -/
namespace Go.Proofs.YtopmeedmgjdcgaaGreatDoor
open Go.RowKit
set_option maxRecDepth 100000
def wtA (a : ActT) : Nat := a.key.length + a.data.length
def sumA (l : List ActT) : Nat := (l.map wtA).sum
theorem sumA_snoc (l : List ActT) (x : ActT) : sumA (l ++ [x]) = sumA l + wtA x := by simp [sumA]
theorem sumA_take {l : List ActT} {k : Nat} (hk : k < l.length) : sumA (l.take (k + 1)) = sumA (l.take k) + wtA (l.getD k ⟨[], false, []⟩) := by
  rw [take_act hk]
  exact sumA_snoc _ _
/-- lengths that no machine's memory passes -/
structure szA (a : ActT) : Prop where
  k : a.key.length ≤ 1125899906842624
  d : a.data.length ≤ 1125899906842624
def LightJ (l : List ActT) (ok : Bool) : Prop := ok = true → l.length ≤ 60 ∧ sumA l ≤ 20000
def LightR (l : List ActT) (e : Ending) : Prop := ∃ ok, e = .returned (.bool ok) ∧ LightJ l ok
set_option maxRecDepth 100000 in
set_option maxHeartbeats 8000000 in
theorem light15_any (v : Value) (l : List ActT) (w : World) (hr : ReadsA w v l) (hs : ∀ a ∈ l, szA a) : Calls Tryz.prog 9 #[v] w fun e w' => LightR l e ∧ Below w.heap.size w w' := by
  have HR : Hid (ReadsA w v l) := hr
  have HS : Hid (∀ a ∈ l, szA a) := hs
  obtain ⟨ad, c, hv⟩ := hr.form
  obtain ⟨n, HN⟩ : ∃ n, Hid (n = l.length) := ⟨_, rfl⟩
  rw [← HN.out] at hv
  subst hv
  clear hs hr
  by_cases hl : 60 < n
  · have q1 : (60 : Int) < (n : Int) := by omega
    go_enter Tryz.func9, Tryz.ntmps9
    go_wp2
    go_ret
    exact ⟨⟨false, rfl, fun h => by cases h⟩, Below.refl _ _⟩
  have q1 : ¬ ((60 : Int) < (n : Int)) := by omega
  have HNB : Hid (n ≤ 60) := by show _ ≤ _; omega
  clear hl
  go_enter Tryz.func9, Tryz.ntmps9
  go_wp2
  clear q1
  go_loopw [3, 4] (fun a i4 wr => ∃ (m i : Nat), a = .int .i64 (m : Int) ∧ i4 = .int .i64 (i : Int) ∧ i ≤ n ∧ m < 9007199254740992 ∧ Hid (m ≤ 20000 → m = sumA (l.take i)) ∧ Hid (Below w.heap.size w wr)) (fun _ i4 _ => n - (intOf i4).toNat)
  case atStart => exact ⟨0, 0, rfl, rfl, Nat.zero_le _, by decide, fun _ => rfl, Below.refl _ _⟩
  case round =>
    obtain ⟨m, i, rfl, rfl, hi, hm, HM, HBB⟩ := hrel
    by_cases hin : i < n
    case neg =>
      have hlk : ¬ ((i : Int) < (n : Int)) := by omega
      by_cases hm2 : m ≤ 20000
      · have q2 : (m : Int) ≤ 20000 := by omega
        have HE : Hid (sumA l ≤ 20000) := by
          have h1 := HM.out hm2
          rw [List.take_of_length_le (by rw [← HN.out]; omega)] at h1
          show _ ≤ _
          omega
        go_wp2
        go_ret
        exact ⟨⟨true, rfl, fun _ => ⟨by rw [← HN.out]; exact HNB.out, HE.out⟩⟩, HBB.out⟩
      · have q2 : ¬ ((m : Int) ≤ 20000) := by omega
        go_wp2
        go_ret
        exact ⟨⟨false, rfl, fun h => by cases h⟩, HBB.out⟩
    case pos =>
      have hlk : (i : Int) < (n : Int) := by omega
      by_cases hm2 : m ≤ 20000
      case neg =>
        have q2 : ¬ ((m : Int) ≤ 20000) := by omega
        go_wp2
        go_ret
        exact ⟨⟨false, rfl, fun h => by cases h⟩, HBB.out⟩
      case pos =>
        have q2 : (m : Int) ≤ 20000 := by omega
        have HIN : Hid (i < n) := hin
        have hio : i < l.length := by rw [← HN.out]; exact hin
        obtain ⟨b, off, vd, rfl, hrg, rD⟩ := (HR.out.below HBB.out).at hio
        obtain ⟨o, HO⟩ : ∃ o, Hid (o = l.getD i ⟨[], false, []⟩) := ⟨_, rfl⟩
        rw [← HO.out] at hrg rD
        have hmem : o ∈ l := by rw [HO.out, List.getD_eq_getElem?_getD, List.getElem?_eq_getElem hio]; exact List.getElem_mem hio
        have hsz := HS.out o hmem
        have hst := sumA_take hio
        rw [← HO.out] at hst
        obtain ⟨lK, HLK⟩ : ∃ n, Hid (n = o.key.length) := ⟨_, rfl⟩
        obtain ⟨lD, HLD⟩ : ∃ n, Hid (n = o.data.length) := ⟨_, rfl⟩
        obtain ⟨aD, cD, hvD, _⟩ := rD
        rw [← HLD.out] at hvD
        subst hvD
        obtain ⟨ks, HKS⟩ : ∃ s, Hid (s = strB o.key) := ⟨_, rfl⟩
        have hks : ks.size = lK := by rw [HKS.out, strB_size, HLK.out]
        have hK := hsz.k
        have hD := hsz.d
        rw [← HLK.out] at hK
        rw [← HLD.out] at hD
        obtain ⟨m1, HM1⟩ : ∃ x, Hid (x = m + lK) := ⟨_, rfl⟩
        obtain ⟨m2, HM2⟩ : ∃ x, Hid (x = m1 + lD) := ⟨_, rfl⟩
        have hm1 := HM1.out
        have hm22 := HM2.out
        have f1 : IntKind.i64.wrap ((m : Int) + (lK : Int)) = (m1 : Int) := aJ HM1.out (by omega)
        have f2 : IntKind.i64.wrap ((m1 : Int) + (lD : Int)) = (m2 : Int) := aJ HM2.out (by omega)
        have f3 : IntKind.i64.wrap ((i : Int) + 1) = (i : Int) + 1 := by rw [IntKind.wrap_i64]; have := HNB.out; omega
        have HST : Hid (m2 = sumA (l.take (i + 1))) := by
          show _ = _
          rw [hst, ← HM.out hm2, wtA, ← HLK.out, ← HLD.out]
          omega
        have HM2B : Hid (m2 < 4503599627370496) := by show _ < _; omega
        have HC1 : Hid (wr.cell? ⟨b, off + i * 3, none⟩ = some (.string ks)) := by rw [HKS.out]; exact hrg 0 _ rfl
        have HC2 : Hid (wr.cell? ⟨b, off + i * 3 + 2, none⟩ = some (.slice aD lD cD)) := hrg 2 _ rfl
        clear hst hsz hK hD hm1 hm22 hmem hrg
        go_wp2_with fail
        refine wp_region_held_drew (S := Over (World.drew wr)) (by kernel_rfl) (Over.refl _) ?_
        intro hS
        replace HC1 : Hid ((World.drew wr).cell? ⟨b, off + i * 3, none⟩ = some (.string ks)) := HC1.out
        replace HC2 : Hid ((World.drew wr).cell? ⟨b, off + i * 3 + 2, none⟩ = some (.slice aD lD cD)) := HC2.out
        replace HBB : Hid (Below w.heap.size w (World.drew wr)) := HBB.out.drew
        change wpAnyH _ _ _ _ _ _ _ _ (World.drew wr)
        generalize World.drew wr = y1 at *
        refine wpAnyH_take (i := 0) (v := .int .i64 (m : Int)) rfl (by kernel_rfl) (by kernel_rfl) (by kernel_rfl) (fun _ _ _ h => h) (Or.inl ⟨by rfl, fun wx hx => by simp [go_sem]⟩) hS ?_
        simp only [Act.put, List.getElem_toArray, List.getElem_cons_zero, List.setIfInBounds_toArray, List.set_cons_zero, List.set_cons_succ]
        refine wpAnyH_take (i := 1) (v := .slice (some ⟨b, off, none⟩) n c) rfl (by kernel_rfl) (by kernel_rfl) (by kernel_rfl) (fun _ _ _ h => h) (Or.inl ⟨by rfl, fun wx hx => by simp [go_sem]⟩) hS ?_
        simp only [Act.put, List.getElem_toArray, List.getElem_cons_succ, List.getElem_cons_zero, List.setIfInBounds_toArray, List.set_cons_zero, List.set_cons_succ]
        refine wpAnyH_take (i := 2) (v := .int .i64 (i : Int)) rfl (by kernel_rfl) (by kernel_rfl) (by kernel_rfl) (fun _ _ _ h => h) (Or.inl ⟨by rfl, fun wx hx => by simp [go_sem]⟩) hS ?_
        simp only [Act.put, List.getElem_toArray, List.getElem_cons_succ, List.getElem_cons_zero, List.setIfInBounds_toArray, List.set_cons_zero, List.set_cons_succ]
        refine wpAnyH_take (i := 3) (v := .pointer (some ⟨b, off + i * 3, none⟩)) rfl (by kernel_rfl) (by kernel_rfl) (by kernel_rfl) (fun _ _ _ h => h) (Or.inl ⟨by rfl, fun wx hx => by exact idxA b off n c i HIN.out _ _ _ _ rfl rfl rfl _⟩) hS ?_
        simp only [Act.put, List.getElem_toArray, List.getElem_cons_succ, List.getElem_cons_zero, List.setIfInBounds_toArray, List.set_cons_zero, List.set_cons_succ]
        refine wpAnyH_take (i := 4) (v := .pointer (some ⟨b, off + i * 3, none⟩)) rfl (by kernel_rfl) (by kernel_rfl) (by kernel_rfl) (fun _ _ _ h => h) (Or.inl ⟨by rfl, fun wx hx => by simp [go_sem]⟩) hS ?_
        simp only [Act.put, List.getElem_toArray, List.getElem_cons_succ, List.getElem_cons_zero, List.setIfInBounds_toArray, List.set_cons_zero, List.set_cons_succ]
        refine wpAnyH_take (i := 5) (v := .string ks) rfl (by kernel_rfl) (by kernel_rfl) (by kernel_rfl) (fun _ _ _ h => h) (Or.inl ⟨by rfl, fun wx hx => by (have hc := below_cell hx HC1.out; simp [go_sem, hc])⟩) hS ?_
        simp only [Act.put, List.getElem_toArray, List.getElem_cons_succ, List.getElem_cons_zero, List.setIfInBounds_toArray, List.set_cons_zero, List.set_cons_succ]
        refine wpAnyH_take (i := 6) (v := .int .i64 (lK : Int)) rfl (by kernel_rfl) (by kernel_rfl) (by kernel_rfl) (fun _ _ _ h => h) (Or.inl ⟨by rfl, fun wx hx => by simp [go_sem, hks]⟩) hS ?_
        simp only [Act.put, List.getElem_toArray, List.getElem_cons_succ, List.getElem_cons_zero, List.setIfInBounds_toArray, List.set_cons_zero, List.set_cons_succ]
        refine wpAnyH_take (i := 7) (v := .int .i64 (m1 : Int)) rfl (by kernel_rfl) (by kernel_rfl) (by kernel_rfl) (fun _ _ _ h => h) (Or.inl ⟨by rfl, fun wx hx => by simp [go_sem, f1]⟩) hS ?_
        simp only [Act.put, List.getElem_toArray, List.getElem_cons_succ, List.getElem_cons_zero, List.setIfInBounds_toArray, List.set_cons_zero, List.set_cons_succ]
        refine wpAnyH_take (i := 8) (v := .slice (some ⟨b, off, none⟩) n c) rfl (by kernel_rfl) (by kernel_rfl) (by kernel_rfl) (fun _ _ _ h => h) (Or.inl ⟨by rfl, fun wx hx => by simp [go_sem]⟩) hS ?_
        simp only [Act.put, List.getElem_toArray, List.getElem_cons_succ, List.getElem_cons_zero, List.setIfInBounds_toArray, List.set_cons_zero, List.set_cons_succ]
        refine wpAnyH_take (i := 9) (v := .int .i64 (i : Int)) rfl (by kernel_rfl) (by kernel_rfl) (by kernel_rfl) (fun _ _ _ h => h) (Or.inl ⟨by rfl, fun wx hx => by simp [go_sem]⟩) hS ?_
        simp only [Act.put, List.getElem_toArray, List.getElem_cons_succ, List.getElem_cons_zero, List.setIfInBounds_toArray, List.set_cons_zero, List.set_cons_succ]
        refine wpAnyH_take (i := 10) (v := .pointer (some ⟨b, off + i * 3, none⟩)) rfl (by kernel_rfl) (by kernel_rfl) (by kernel_rfl) (fun _ _ _ h => h) (Or.inl ⟨by rfl, fun wx hx => by exact idxA b off n c i HIN.out _ _ _ _ rfl rfl rfl _⟩) hS ?_
        simp only [Act.put, List.getElem_toArray, List.getElem_cons_succ, List.getElem_cons_zero, List.setIfInBounds_toArray, List.set_cons_zero, List.set_cons_succ]
        refine wpAnyH_take (i := 11) (v := .pointer (some ⟨b, off + i * 3 + 2, none⟩)) rfl (by kernel_rfl) (by kernel_rfl) (by kernel_rfl) (fun _ _ _ h => h) (Or.inl ⟨by rfl, fun wx hx => by simp [go_sem]⟩) hS ?_
        simp only [Act.put, List.getElem_toArray, List.getElem_cons_succ, List.getElem_cons_zero, List.setIfInBounds_toArray, List.set_cons_zero, List.set_cons_succ]
        refine wpAnyH_take (i := 12) (v := .slice aD lD cD) rfl (by kernel_rfl) (by kernel_rfl) (by kernel_rfl) (fun _ _ _ h => h) (Or.inl ⟨by rfl, fun wx hx => by (have hc := below_cell hx HC2.out; simp [go_sem, hc])⟩) hS ?_
        simp only [Act.put, List.getElem_toArray, List.getElem_cons_succ, List.getElem_cons_zero, List.setIfInBounds_toArray, List.set_cons_zero, List.set_cons_succ]
        refine wpAnyH_take (i := 13) (v := .int .i64 (lD : Int)) rfl (by kernel_rfl) (by kernel_rfl) (by kernel_rfl) (fun _ _ _ h => h) (Or.inl ⟨by rfl, fun wx hx => by simp [go_sem]⟩) hS ?_
        simp only [Act.put, List.getElem_toArray, List.getElem_cons_succ, List.getElem_cons_zero, List.setIfInBounds_toArray, List.set_cons_zero, List.set_cons_succ]
        refine wpAnyH_take (i := 14) (v := .int .i64 (m2 : Int)) rfl (by kernel_rfl) (by kernel_rfl) (by kernel_rfl) (fun _ _ _ h => h) (Or.inl ⟨by rfl, fun wx hx => by simp [go_sem, f2]⟩) hS ?_
        simp only [Act.put, List.getElem_toArray, List.getElem_cons_succ, List.getElem_cons_zero, List.setIfInBounds_toArray, List.set_cons_zero, List.set_cons_succ]
        refine wpAnyH_take (i := 15) (v := .int .i64 (m2 : Int)) rfl (by kernel_rfl) (by kernel_rfl) (by kernel_rfl) (fun _ _ _ h => h) (Or.inl ⟨by rfl, fun wx hx => by simp [go_sem]⟩) hS ?_
        simp only [Act.put, List.getElem_toArray, List.getElem_cons_succ, List.getElem_cons_zero, List.setIfInBounds_toArray, List.set_cons_zero, List.set_cons_succ]
        refine wpAnyH_done (by kernel_rfl) ?_ _
        clear hS
        go_wp2
        go_roundw
        case rel => exact ⟨m2, i + 1, rfl, by simp, by omega, by have := HM2B.out; omega, fun _ => HST.out, HBB⟩
        case measure => simp [intOf]; omega
end Go.Proofs.YtopmeedmgjdcgaaGreatDoor
/- The walk of the reference's SameActs (layer 15). -/
namespace Go.Proofs.YtopmeedmgjdcgaaGreatDoor
open Go.RowKit
set_option maxRecDepth 100000
theorem act_ext (a b : ActT) : (a.key = b.key ∧ a.set = b.set ∧ a.data = b.data) ↔ a = b := by
  constructor
  · intro h
    cases a
    cases b
    obtain ⟨h1, h2, h3⟩ := h
    simp only at h1 h2 h3
    rw [h1, h2, h3]
  · intro h
    rw [h]
    exact ⟨rfl, rfl, rfl⟩
instance : DecidableEq ActT := fun a b => decidable_of_iff _ (act_ext a b)
end Go.Proofs.YtopmeedmgjdcgaaGreatDoor
/- Where the reference's ReadBatch stands (layer 15). -/
namespace Go.Proofs.YtopmeedmgjdcgaaGreatDoor
open Go.RowKit
set_option maxRecDepth 100000
/-- a was read up to p, or the reader is bad -/
def MgO {α : Type} (o : Option (α × Bs)) (b0 b1 : Bool) (a : α) (l : Bs) (p : Nat) : Prop := (b1 = false ∧ b0 = false ∧ o = some (a, l.drop p)) ∨ (b1 = true ∧ (b0 = true ∨ o = none))
/-- what one act comes to -/
def ActO (l : Bs) (p : Nat) (b : Bool) (a : ActT) (p2 : Nat) : Prop := (b = false ∧ readA (l.drop p) = some (a, l.drop p2)) ∨ (b = true ∧ readA (l.drop p) = none)
/-- what the acts so far come to -/
def StO (l : Bs) (n i : Nat) (p : Nat) (b : Bool) (xs : List ActT) : Prop := (b = false ∧ ∃ r, readCount 4096 l = some (n, r) ∧ readAll readA i r = some (xs, l.drop p)) ∨ (b = true ∧ readB l = none)
theorem StO.first {l : Bs} {n p : Nat} {b : Bool} (h : MgO (readCount 4096 (l.drop 0)) false b n l p) : StO l n 0 p b [] := by
  rcases h with ⟨rfl, _, h⟩ | ⟨rfl, h⟩
  · exact Or.inl ⟨rfl, _, h, rfl⟩
  · exact Or.inr ⟨rfl, readB_cnt (by rcases h with h | h; cases h; exact h)⟩
theorem StO.next {l : Bs} {n i p p2 : Nat} {b : Bool} {xs : List ActT} {a : ActT} (h : StO l n i p false xs) (hi : i < n) (ha : ActO l p b a p2) : StO l n (i + 1) p2 b (xs ++ [a]) := by
  rcases h with ⟨_, r, h1, h2⟩ | ⟨h, _⟩
  · rcases ha with ⟨rfl, ha⟩ | ⟨rfl, ha⟩
    · exact Or.inl ⟨rfl, r, h1, readAll_snoc i r xs h2 ha⟩
    · exact Or.inr ⟨rfl, readB_all h1 (readAll_stop i n r xs h2 ha hi)⟩
  · cases h
theorem inS_others {w w' : World} {g : Nat} {v : Value} {l : Bs} {pos : Nat} {bad : Bool} (h : InS w g v l pos bad) (hv : 0 < l.length → ∀ k, v.ownBlock = some k → k < g) (hb : Below (g + 1) w w') : InS w' g v l pos bad := by
  refine ⟨h.blk.below hb (by omega), ?_, h.le⟩
  obtain ⟨ad, cap, rfl, hc, hn, hx⟩ := h.byt
  refine ⟨ad, cap, rfl, hc, hn, fun hp => ?_⟩
  obtain ⟨b, off, rfl, hy⟩ := hx hp
  refine ⟨b, off, rfl, fun j hj => ?_⟩
  rw [hb.cell (p := ⟨b, off + j, none⟩) (by have := hv hp b rfl; show b < g + 1; omega)]
  exact hy j hj
/-- the reader at g and the acts that it has read -/
structure Ob (w : World) (g : Nat) (v : Value) (l : Bs) (p : Nat) (b : Bool) (va : Value) (ps : List (ActT × Value)) (W : World) : Prop where
  inp : InS W g v l p b
  lst : OwnA W (g + 1) va ps
  bel : Below w.heap.size w W
  ge : w.heap.size ≤ g
  vb : 0 < l.length → ∀ k, v.ownBlock = some k → k < w.heap.size
theorem Ob.call {w W W' : World} {g : Nat} {v : Value} {l : Bs} {p p' : Nat} {b b' : Bool} {va : Value} {ps : List (ActT × Value)} (h : Ob w g v l p b va ps W) (hs : InS W' g v l p' b') (ho : Only g W W') : Ob w g v l p' b' va ps W' :=
  ⟨hs, h.lst.same (fun k h1 h2 => ho.block k (by omega) h2), h.bel.trans (ho.below h.ge h.bel.size), h.ge, h.vb⟩
theorem Ob.new {w W W' : World} {g : Nat} {v : Value} {l : Bs} {p : Nat} {b : Bool} {va : Value} {ps : List (ActT × Value)} (h : Ob w g v l p b va ps W) (hb : Below W.heap.size W W') : Ob w g v l p b va ps W' :=
  ⟨h.inp.below hb, h.lst.same (fun k _ h2 => hb.block k h2), h.bel.trans (hb.mono h.bel.size), h.ge, h.vb⟩
/-- the same while an act is filled at block ga: the list is as it was at y -/
structure Oc (w : World) (g ga : Nat) (v : Value) (l : Bs) (p : Nat) (b : Bool) (va : Value) (ps : List (ActT × Value)) (y : World) (cs : List Value) (W : World) : Prop where
  inp : InS W g v l p b
  lst : OwnA y (g + 1) va ps
  fr : ∀ k, k < y.heap.size → k ≠ g → W.heap[k]? = y.heap[k]?
  bel : Below w.heap.size w W
  ge : w.heap.size ≤ g
  vb : 0 < l.length → ∀ k, v.ownBlock = some k → k < w.heap.size
  blk : Blk W ga cs 62
  gy : g < y.heap.size
  ya : y.heap.size ≤ ga
theorem Ob.act {w y W : World} {g ga : Nat} {v : Value} {l : Bs} {p : Nat} {b : Bool} {va : Value} {ps : List (ActT × Value)} {cs : List Value} (h : Ob w g v l p b va ps y) (nn : NewR cs 62 y ga W) : Oc w g ga v l p b va ps y cs W :=
  ⟨h.inp.below nn.below, h.lst, fun k hk _ => nn.below.block k hk, h.bel.trans (nn.below.mono h.bel.size), h.ge, h.vb, nn.blk, h.inp.blk.lt, nn.ge⟩
theorem Oc.call {w y W W' : World} {g ga : Nat} {v : Value} {l : Bs} {p p' : Nat} {b b' : Bool} {va : Value} {ps : List (ActT × Value)} {cs : List Value} (h : Oc w g ga v l p b va ps y cs W) (hs : InS W' g v l p' b') (ho : Only g W W') : Oc w g ga v l p' b' va ps y cs W' :=
  have h1 := h.gy
  have h2 := h.ya
  have h3 := h.blk.lt
  ⟨hs, h.lst, fun k hk hne => (ho.block k hne (by omega)).trans (h.fr k hk hne), h.bel.trans (ho.below h.ge h.bel.size), h.ge, h.vb, blk_same h.blk (ho.block ga (by omega) h3), h1, h2⟩
theorem Oc.put {w y W W' : World} {g ga : Nat} {v : Value} {l : Bs} {p : Nat} {b : Bool} {va : Value} {ps : List (ActT × Value)} {cs cs' : List Value} (h : Oc w g ga v l p b va ps y cs W) (hb : Blk W' ga cs' 62) (ho : Only ga W W') : Oc w g ga v l p b va ps y cs' W' :=
  have h1 := h.gy
  have h2 := h.ya
  have h3 := h.blk.lt
  have h4 := h.ge
  have h5 : Below (g + 1) W W' := ho.below (by omega) (by omega)
  ⟨inS_others h.inp (fun hp k hk => by have := h.vb hp k hk; omega) h5, h.lst, fun k hk hne => (ho.block k (by omega) (by omega)).trans (h.fr k hk hne), h.bel.trans (h5.mono (by omega)), h.ge, h.vb, hb, h1, h2⟩
theorem Oc.new {w y W W' : World} {g ga : Nat} {v : Value} {l : Bs} {p : Nat} {b : Bool} {va : Value} {ps : List (ActT × Value)} {cs : List Value} (h : Oc w g ga v l p b va ps y cs W) (hb : Below W.heap.size W W') : Oc w g ga v l p b va ps y cs W' :=
  have h2 := h.ya
  have h3 := h.blk.lt
  ⟨h.inp.below hb, h.lst, fun k hk hne => (hb.block k (by omega)).trans (h.fr k hk hne), h.bel.trans (hb.mono h.bel.size), h.ge, h.vb, h.blk.below hb h3, h.gy, h2⟩
theorem Oc.own {w y W : World} {g ga : Nat} {v : Value} {l : Bs} {p : Nat} {b : Bool} {va : Value} {ps : List (ActT × Value)} {cs : List Value} (h : Oc w g ga v l p b va ps y cs W) : OwnA W (g + 1) va ps :=
  h.lst.same (fun k h1 h2 => h.fr k h2 (by omega))
theorem Oc.app {w y W W' : World} {g ga : Nat} {v : Value} {l : Bs} {p : Nat} {b : Bool} {va va' : Value} {ps qs : List (ActT × Value)} {cs : List Value} (h : Oc w g ga v l p b va ps y cs W) (ho : OwnA W' (g + 1) va' qs) (hg : W.grownBy W' va.ownBlock) : Ob w g v l p b va' qs W' := by
  have h1 := h.gy
  have h2 := h.ya
  have h3 := h.blk.lt
  have h4 := h.ge
  have hlt := h.own.lt
  have h5 : Below (g + 1) W W' := ⟨hg.os, hg.tape, hg.output, hg.size, fun k hk => hg.block k (by omega) (fun e => by have := (hlt k e.symm).1; omega)⟩
  exact ⟨inS_others h.inp (fun hp k hk => by have := h.vb hp k hk; omega) h5, ho, h.bel.trans (h5.mono (by omega)), h4, h.vb⟩
theorem wpSeq_buildA1 {ops : Array Oper} {Q : Exit → Act → World → Prop} {rest : List Oper} {o : Oper} {a : Act} {w : World} (x : Operand) (s : ByteArray) (b : Bool) (ad : Option Addr) (n c : Nat) (ho : o.op = .buildSlice 22 1 #[(0, x)]) (hx : a.eval x = .agg [.string s, .bool b, .slice ad n c].toArray) (hw : Region.wanted o (yielded ops a.tmps) = true)
    (h : ∀ g w', NewR [.string s, .bool b, .slice ad n c] 62 w g w' → wpList Tryz.prog ops Q rest (a.put o.dst (.slice (some ⟨g, 0, none⟩) 1 1)) w') : wpList Tryz.prog ops Q (o :: rest) a w :=
  wpSeq_val _ _ hw (build_a1 _ _ x s b ad n c hx ho _) (h _ _ (NewR.of _ _ w))
end Go.Proofs.YtopmeedmgjdcgaaGreatDoor
/- The walk of the reference's ReadBatch (layer 15). -/
namespace Go.Proofs.YtopmeedmgjdcgaaGreatDoor
open Go.RowKit
set_option maxRecDepth 100000
end Go.Proofs.YtopmeedmgjdcgaaGreatDoor
/- The walk of the statements' few (layer 15). -/
namespace Go.Proofs.YtopmeedmgjdcgaaGreatDoor
open Go.RowKit
set_option maxRecDepth 100000
/-- a slice of slices of acts -/
def ReadsAA (w : World) (v : Value) (ls : List (List ActT)) : Prop :=
  ∃ ad cap, v = .slice ad ls.length cap ∧ ls.length ≤ cap ∧ (0 < ls.length → ∃ b off, ad = some ⟨b, off, none⟩ ∧ ∀ j, j < ls.length → ∃ va, w.cell? ⟨b, off + j, none⟩ = some va ∧ ReadsA w va (ls.getD j []))
theorem ReadsAA.below {w w' : World} {v : Value} {ls : List (List ActT)} (h : ReadsAA w v ls) (hb : Below w.heap.size w w') : ReadsAA w' v ls := by
  obtain ⟨ad, cap, h1, h2, h4⟩ := h
  refine ⟨ad, cap, h1, h2, fun hp => ?_⟩
  obtain ⟨b, off, h5, h6⟩ := h4 hp
  refine ⟨b, off, h5, fun j hj => ?_⟩
  obtain ⟨va, h7, h8⟩ := h6 j hj
  exact ⟨va, by rw [hb.cell (p := ⟨b, off + j, none⟩) (block_lt_of_cell h7)]; exact h7, h8.below hb⟩
theorem ReadsAA.at {w : World} {ad : Option Addr} {n c : Nat} {ls : List (List ActT)} (h : ReadsAA w (.slice ad n c) ls) {j : Nat} (hj : j < ls.length) : ∃ b off va, ad = some ⟨b, off, none⟩ ∧ w.cell? ⟨b, off + j, none⟩ = some va ∧ ReadsA w va (ls.getD j []) := by
  obtain ⟨ad', cap, h1, h2, h4⟩ := h
  simp only [Value.slice.injEq] at h1
  obtain ⟨rfl, _, _⟩ := h1
  obtain ⟨b, off, h5, h6⟩ := h4 (Nat.lt_of_le_of_lt (Nat.zero_le _) hj)
  obtain ⟨va, h7, h8⟩ := h6 j hj
  exact ⟨b, off, va, h5, h7, h8⟩
def FewP (ls : List (List ActT)) (ok : Bool) : Prop := ok = true → ls.length ≤ 20 ∧ ∀ l ∈ ls, l.length ≤ 60 ∧ sumA l ≤ 20000
def FewQ (ls : List (List ActT)) (e : Ending) : Prop := ∃ ok, e = .returned (.bool ok) ∧ FewP ls ok
theorem few_step {ls : List (List ActT)} {i : Nat} (h : i < ls.length) (hf : ∀ l ∈ ls.take i, l.length ≤ 60 ∧ sumA l ≤ 20000) (hl : (ls.getD i []).length ≤ 60 ∧ sumA (ls.getD i []) ≤ 20000) : ∀ l ∈ ls.take (i + 1), l.length ≤ 60 ∧ sumA l ≤ 20000 := by
  intro l hm
  rw [List.take_add_one, List.getElem?_eq_getElem h] at hm
  rw [List.getD_eq_getElem?_getD, List.getElem?_eq_getElem h] at hl
  rcases List.mem_append.1 hm with hm | hm
  · exact hf l hm
  · have he : l = ls[i] := by simpa using hm
    rw [he]
    exact hl
set_option maxRecDepth 100000 in
set_option maxHeartbeats 4000000 in
theorem few15_any (v : Value) (ls : List (List ActT)) (w : World) (hr : ReadsAA w v ls) (hs : ∀ l ∈ ls, ∀ a ∈ l, szA a) : Calls Tryz.prog 20 #[v] w fun e w' => FewQ ls e ∧ Below w.heap.size w w' := by
  have HR : Hid (ReadsAA w v ls) := hr
  have HS : Hid (∀ l ∈ ls, ∀ a ∈ l, szA a) := hs
  obtain ⟨ad, c, hv, _⟩ := hr
  obtain ⟨n, HN⟩ : ∃ n, Hid (n = ls.length) := ⟨_, rfl⟩
  rw [← HN.out] at hv
  subst hv
  clear hs
  by_cases hl : 20 < n
  · have q1 : (20 : Int) < (n : Int) := by omega
    go_enter Tryz.func20, Tryz.ntmps20
    go_wp2
    go_ret
    exact ⟨⟨false, rfl, fun h => by cases h⟩, Below.refl _ _⟩
  have q1 : ¬ ((20 : Int) < (n : Int)) := by omega
  have HNB : Hid (n ≤ 20) := by show _ ≤ _; omega
  clear hl
  go_enter Tryz.func20, Tryz.ntmps20
  go_wp2
  clear q1
  go_loopw [3] (fun iv W => ∃ i : Nat, i ≤ n ∧ iv = .int .i64 (i : Int) ∧ Hid (∀ l ∈ ls.take i, l.length ≤ 60 ∧ sumA l ≤ 20000) ∧ Hid (Below w.heap.size w W)) (fun iv _ => n - (intOf iv).toNat)
  case atStart => exact ⟨0, Nat.zero_le _, rfl, fun l hl => by simp at hl, Below.refl _ _⟩
  case round =>
    obtain ⟨i, hi, rfl, HF, HBB⟩ := hrel
    by_cases hin : i < n
    case neg =>
      have hlk : ¬ ((i : Int) < (n : Int)) := by omega
      have HE : Hid (∀ l ∈ ls, l.length ≤ 60 ∧ sumA l ≤ 20000) := by
        have h := HF.out
        rw [List.take_of_length_le (by rw [← HN.out]; omega)] at h
        exact h
      go_wp2
      go_ret
      exact ⟨⟨true, rfl, fun _ => ⟨by rw [← HN.out]; exact HNB.out, HE.out⟩⟩, HBB.out⟩
    case pos =>
      have hlk : (i : Int) < (n : Int) := by omega
      have k0 : (0 : Int) ≤ (i : Int) := by omega
      have f1 : IntKind.i64.wrap ((i : Int) + 1) = (i : Int) + 1 := by rw [IntKind.wrap_i64]; have := HNB.out; omega
      have hil : i < ls.length := by rw [← HN.out]; exact hin
      obtain ⟨b, off, va, rfl, hc, hra⟩ := (HR.out.below HBB.out).at hil
      have hsz := HS.out (ls.getD i []) (by rw [List.getD_eq_getElem?_getD, List.getElem?_eq_getElem hil]; exact List.getElem_mem hil)
      have HLC : Hid (Calls Tryz.prog 9 #[va] wr fun e w' => LightR (ls.getD i []) e ∧ Below wr.heap.size wr w') := light15_any va _ wr hra hsz
      have HSTEP : Hid ((ls.getD i []).length ≤ 60 ∧ sumA (ls.getD i []) ≤ 20000 → ∀ l ∈ ls.take (i + 1), l.length ≤ 60 ∧ sumA l ≤ 20000) := few_step hil HF.out
      clear hsz hra
      have tk0 : Hid True := trivial
      go_wp2_with (first
        | (clear tk0; go_at_call 9; refine (HLC.out).mono ?_; rintro e0 y1 ⟨⟨ok, rfl, hj⟩, hb⟩
           have HB1 : Hid (Below w.heap.size w y1) := HBB.out.trans (hb.mono HBB.out.size)
           have HJ : Hid (LightJ (ls.getD i []) ok) := hj
           clear hj hb
           cases ok))
      · go_ret
        exact ⟨⟨false, rfl, fun h => by cases h⟩, HB1.out⟩
      · go_roundw
        case rel => exact ⟨i + 1, by omega, by simp, HSTEP.out (HJ.out rfl), HB1⟩
        case measure => simp [intOf]; omega
end Go.Proofs.YtopmeedmgjdcgaaGreatDoor
/- The reference's keys in memory; the walk of its place (layer 15). -/
namespace Go.Proofs.YtopmeedmgjdcgaaGreatDoor
open Go.RowKit
set_option maxRecDepth 100000
/-- a slice of strings -/
def ReadsS (w : World) (v : Value) (ks : List Bs) : Prop :=
  ∃ ad cap, v = .slice ad ks.length cap ∧ ks.length ≤ cap ∧ (ad = none → cap = 0) ∧ (0 < ks.length → ∃ b off, ad = some ⟨b, off, none⟩ ∧ ∀ j, j < ks.length → w.cell? ⟨b, off + j, none⟩ = some (.string (strB (ks.getD j []))))
theorem ReadsS.form {w : World} {v : Value} {ks : List Bs} (h : ReadsS w v ks) : ∃ ad c, v = .slice ad ks.length c := by
  obtain ⟨ad, c, hv, _⟩ := h
  exact ⟨ad, c, hv⟩
theorem ReadsS.below {w w' : World} {v : Value} {ks : List Bs} (h : ReadsS w v ks) (hb : Below w.heap.size w w') : ReadsS w' v ks := by
  obtain ⟨ad, cap, h1, h2, h3, h4⟩ := h
  refine ⟨ad, cap, h1, h2, h3, fun hp => ?_⟩
  obtain ⟨b, off, h5, h6⟩ := h4 hp
  refine ⟨b, off, h5, fun j hj => ?_⟩
  have h7 := h6 j hj
  rw [hb.cell (p := ⟨b, off + j, none⟩) (block_lt_of_cell h7)]
  exact h7
theorem ReadsS.at {w : World} {ad : Option Addr} {n c : Nat} {ks : List Bs} (h : ReadsS w (.slice ad n c) ks) {j : Nat} (hj : j < ks.length) : ∃ b off, ad = some ⟨b, off, none⟩ ∧ w.cell? ⟨b, off + j, none⟩ = some (.string (strB (ks.getD j []))) := by
  obtain ⟨ad', cap, h1, h2, h3, h4⟩ := h
  simp only [Value.slice.injEq] at h1
  obtain ⟨rfl, _, _⟩ := h1
  obtain ⟨b, off, h5, h6⟩ := h4 (Nat.lt_of_le_of_lt (Nat.zero_le _) hj)
  exact ⟨b, off, h5, h6 j hj⟩
/-- where a key stands, or would; is it there? -/
def plI (ks : List Bs) (key : Bs) : Nat := (ks.takeWhile fun k => ltB k key).length
def plB (ks : List Bs) (key : Bs) : Bool := decide (plI ks key < ks.length) && decide (ks.getD (plI ks key) [] = key)
theorem plI_at : ∀ (ks : List Bs) (key : Bs) (i : Nat), i ≤ ks.length → (∀ j, j < i → ltB (ks.getD j []) key = true) → (i < ks.length → ltB (ks.getD i []) key = false) → plI ks key = i
  | [], _, 0, _, _, _ => rfl
  | [], _, i + 1, h, _, _ => by simp at h
  | k :: ks, key, 0, _, _, h => by
    have h1 := h (by simp)
    simp only [List.getD_cons_zero] at h1
    rw [plI, List.takeWhile_cons, h1]
    rfl
  | k :: ks, key, i + 1, hl, h1, h2 => by
    have h3 := h1 0 (by omega)
    simp only [List.getD_cons_zero] at h3
    have h4 := plI_at ks key i (by simpa using hl) (fun j hj => by have := h1 (j + 1) (by omega); simpa using this) (fun hi => by have := h2 (by simp; omega); simpa using this)
    rw [plI, List.takeWhile_cons, h3]
    simp only [if_true, List.length_cons]
    rw [plI] at h4
    rw [h4]
theorem idxS (b off n c k : Nat) (hk : k < n) (f : Operand → Value) (o : Oper) (x y : Operand) (ho : o.op = .indexAddr 40 x y) (hx : f x = .slice (some ⟨b, off, none⟩) n c) (hy : f y = .int .i64 (k : Int)) (w : World) :
    (execOp f o).run Tryz.prog w = .ok (.value (.pointer (some ⟨b, off + k, none⟩))) w := by
  have k0 : (0 : Int) ≤ (k : Int) := by omega
  have k1 : (k : Int) < (n : Int) := by omega
  have hs : (sizeOf 9).run Tryz.prog w = .ok 1 w := by kernel_rfl
  unfold execOp
  rw [ho]
  simp [go_sem, hx, hy, k0, k1, Addr.add_mid, hs]
theorem wpSeq_idxS {ops : Array Oper} {Q : Exit → Act → World → Prop} {rest : List Oper} {o : Oper} {a : Act} {w : World} (x y : Operand) (b off n c k : Nat) (hk : k < n) (ho : o.op = .indexAddr 40 x y) (hx : a.eval x = .slice (some ⟨b, off, none⟩) n c) (hy : a.eval y = .int .i64 (k : Int)) (hw : Region.wanted o (yielded ops a.tmps) = true)
    (h : wpList Tryz.prog ops Q rest (a.put o.dst (.pointer (some ⟨b, off + k, none⟩))) w) : wpList Tryz.prog ops Q (o :: rest) a w :=
  wpSeq_val _ _ hw (idxS b off n c k hk _ o x y ho hx hy w) h
set_option maxRecDepth 100000 in
set_option maxHeartbeats 4000000 in
theorem oPlace_any (vK vV : Value) (ks : List Bs) (key : Bs) (w : World) (hr : ReadsS w vK ks) (hl : ks.length < 4611686018427387904) : Calls Tryz.prog 85 #[.agg [vK, vV].toArray, .string (strB key)] w fun e w' => e = .returned (.tuple #[.int .i64 (plI ks key : Int), .bool (plB ks key)]) ∧ Below w.heap.size w w' := by
  have HR : Hid (ReadsS w vK ks) := hr
  obtain ⟨ad, c, hv⟩ := hr.form
  obtain ⟨n, HN⟩ : ∃ n, Hid (n = ks.length) := ⟨_, rfl⟩
  rw [← HN.out] at hv hl
  subst hv
  have HNL : Hid (n < 4611686018427387904) := hl
  obtain ⟨sk, HSK⟩ : ∃ s, Hid (s = strB key) := ⟨_, rfl⟩
  obtain ⟨pI, HPI⟩ : ∃ x, Hid (x = plI ks key) := ⟨_, rfl⟩
  obtain ⟨pB, HPB⟩ : ∃ x, Hid (x = plB ks key) := ⟨_, rfl⟩
  rw [← HSK.out, ← HPI.out, ← HPB.out]
  clear hr hl
  go_enter Tryz.func85, Tryz.ntmps85
  have tk0 : Hid True := trivial
  go_wp2_with (first
    | (clear tk0; with_reducible refine wpSeq_boxW 43 (.tmp 0) [.slice ad n c, vV] ?_ ?_ ?_ ?_
       · rfl
       · rfl
       · rfl
       intro gm y1 nn
       have HM : Hid (Blk y1 gm [.slice ad n c, vV] 43) := nn.blk
       have HB1 : Hid (Below w.heap.size w y1) := nn.below
       have HR1 : Hid (ReadsS y1 (.slice ad n c) ks) := HR.out.below nn.below
       clear nn))
  go_loopw [6] (fun iv W => ∃ i : Nat, i ≤ n ∧ iv = .int .i64 (i : Int) ∧ Hid (∀ j, j < i → ltB (ks.getD j []) key = true) ∧ W = y1) (fun iv _ => n - (intOf iv).toNat)
  case atStart => exact ⟨0, Nat.zero_le _, rfl, fun j hj => by omega, rfl⟩
  case round =>
    obtain ⟨i, hi, rfl, HF, rfl⟩ := hrel
    have d0 : wr.cell? ⟨gm, 0, none⟩ = some (.slice ad n c) := HM.out.cell 0
    by_cases hin : i < n
    case neg =>
      have hlk : ¬ ((i : Int) < (n : Int)) := by omega
      have HIe : Hid (plI ks key = i) := plI_at ks key i (by rw [← HN.out]; exact hi) HF.out (fun h => by rw [← HN.out] at h; omega)
      obtain rfl : pI = i := by rw [HPI.out]; exact HIe.out
      obtain rfl : pB = false := by rw [HPB.out, plB, HIe.out, ← HN.out, decide_eq_false hin]; rfl
      go_wp2
      refine wp_region_held_drew (S := Over (World.drew wr)) (by kernel_rfl) (Over.refl _) ?_
      intro hS
      have HD0 : Hid ((World.drew wr).cell? ⟨gm, 0, none⟩ = some (.slice ad n c)) := HM.out.cell 0
      have HBB : Hid (Below w.heap.size w (World.drew wr)) := HB1.out.drew
      change wpAnyH _ _ _ _ _ _ _ _ (World.drew wr)
      generalize World.drew wr = y3 at *
      refine wpAnyH_take (i := 0) (v := .int .i64 (pI : Int)) rfl (by kernel_rfl) (by kernel_rfl) (by kernel_rfl) (fun _ _ _ h => h) (Or.inl ⟨by rfl, fun wx hx => by simp [go_sem]⟩) hS ?_
      simp only [Act.put, List.getElem_toArray, List.getElem_cons_zero, List.setIfInBounds_toArray, List.set_cons_zero, List.set_cons_succ]
      refine wpAnyH_take (i := 1) (v := .int .i64 (pI : Int)) rfl (by kernel_rfl) (by kernel_rfl) (by kernel_rfl) (fun _ _ _ h => h) (Or.inl ⟨by rfl, fun wx hx => by simp [go_sem]⟩) hS ?_
      simp only [Act.put, List.getElem_toArray, List.getElem_cons_succ, List.getElem_cons_zero, List.setIfInBounds_toArray, List.set_cons_zero, List.set_cons_succ]
      refine wpAnyH_take (i := 2) (v := .pointer (some ⟨gm, 0, none⟩)) rfl (by kernel_rfl) (by kernel_rfl) (by kernel_rfl) (fun _ _ _ h => h) (Or.inl ⟨by rfl, fun wx hx => by simp [go_sem]⟩) hS ?_
      simp only [Act.put, List.getElem_toArray, List.getElem_cons_succ, List.getElem_cons_zero, List.setIfInBounds_toArray, List.set_cons_zero, List.set_cons_succ]
      refine wpAnyH_take (i := 3) (v := .slice ad n c) rfl (by kernel_rfl) (by kernel_rfl) (by kernel_rfl) (fun _ _ _ h => h) (Or.inl ⟨by rfl, fun wx hx => by (have hc := below_cell hx HD0.out; simp [go_sem, hc])⟩) hS ?_
      simp only [Act.put, List.getElem_toArray, List.getElem_cons_succ, List.getElem_cons_zero, List.setIfInBounds_toArray, List.set_cons_zero, List.set_cons_succ]
      refine wpAnyH_take (i := 4) (v := .int .i64 (n : Int)) rfl (by kernel_rfl) (by kernel_rfl) (by kernel_rfl) (fun _ _ _ h => h) (Or.inl ⟨by rfl, fun wx hx => by simp [go_sem]⟩) hS ?_
      simp only [Act.put, List.getElem_toArray, List.getElem_cons_succ, List.getElem_cons_zero, List.setIfInBounds_toArray, List.set_cons_zero, List.set_cons_succ]
      refine wpAnyH_take (i := 5) (v := .bool false) rfl (by kernel_rfl) (by kernel_rfl) (by kernel_rfl) (fun _ _ _ h => h) (Or.inl ⟨by rfl, fun wx hx => by (simp [go_sem]; omega)⟩) hS ?_
      simp only [Act.put, List.getElem_toArray, List.getElem_cons_succ, List.getElem_cons_zero, List.setIfInBounds_toArray, List.set_cons_zero, List.set_cons_succ]
      refine wpAnyH_take (i := 6) (v := .bool false) rfl (by kernel_rfl) (by kernel_rfl) (by kernel_rfl) (fun _ _ _ h => h) (Or.inl ⟨by rfl, fun wx hx => by simp [go_sem]⟩) hS ?_
      simp only [Act.put, List.getElem_toArray, List.getElem_cons_succ, List.getElem_cons_zero, List.setIfInBounds_toArray, List.set_cons_zero, List.set_cons_succ]
      refine wpAnyH_take (i := 7) (v := undef) rfl (by kernel_rfl) (by kernel_rfl) (by kernel_rfl) (fun _ _ _ h => h) (Or.inr ⟨by rfl, rfl⟩) hS ?_
      simp only [Act.put, List.getElem_toArray, List.getElem_cons_succ, List.getElem_cons_zero, List.setIfInBounds_toArray, List.set_cons_zero, List.set_cons_succ]
      refine wpAnyH_take (i := 8) (v := undef) rfl (by kernel_rfl) (by kernel_rfl) (by kernel_rfl) (fun _ _ _ h => h) (Or.inr ⟨by rfl, rfl⟩) hS ?_
      simp only [Act.put, List.getElem_toArray, List.getElem_cons_succ, List.getElem_cons_zero, List.setIfInBounds_toArray, List.set_cons_zero, List.set_cons_succ]
      refine wpAnyH_take (i := 9) (v := undef) rfl (by kernel_rfl) (by kernel_rfl) (by kernel_rfl) (fun _ _ _ h => h) (Or.inr ⟨by rfl, rfl⟩) hS ?_
      simp only [Act.put, List.getElem_toArray, List.getElem_cons_succ, List.getElem_cons_zero, List.setIfInBounds_toArray, List.set_cons_zero, List.set_cons_succ]
      refine wpAnyH_take (i := 10) (v := undef) rfl (by kernel_rfl) (by kernel_rfl) (by kernel_rfl) (fun _ _ _ h => h) (Or.inr ⟨by rfl, rfl⟩) hS ?_
      simp only [Act.put, List.getElem_toArray, List.getElem_cons_succ, List.getElem_cons_zero, List.setIfInBounds_toArray, List.set_cons_zero, List.set_cons_succ]
      refine wpAnyH_take (i := 11) (v := undef) rfl (by kernel_rfl) (by kernel_rfl) (by kernel_rfl) (fun _ _ _ h => h) (Or.inr ⟨by rfl, rfl⟩) hS ?_
      simp only [Act.put, List.getElem_toArray, List.getElem_cons_succ, List.getElem_cons_zero, List.setIfInBounds_toArray, List.set_cons_zero, List.set_cons_succ]
      refine wpAnyH_take (i := 12) (v := undef) rfl (by kernel_rfl) (by kernel_rfl) (by kernel_rfl) (fun _ _ _ h => h) (Or.inr ⟨by rfl, rfl⟩) hS ?_
      simp only [Act.put, List.getElem_toArray, List.getElem_cons_succ, List.getElem_cons_zero, List.setIfInBounds_toArray, List.set_cons_zero, List.set_cons_succ]
      refine wpAnyH_take (i := 13) (v := undef) rfl (by kernel_rfl) (by kernel_rfl) (by kernel_rfl) (fun _ _ _ h => h) (Or.inr ⟨by rfl, rfl⟩) hS ?_
      simp only [Act.put, List.getElem_toArray, List.getElem_cons_succ, List.getElem_cons_zero, List.setIfInBounds_toArray, List.set_cons_zero, List.set_cons_succ]
      refine wpAnyH_take (i := 14) (v := .bool false) rfl (by kernel_rfl) (by kernel_rfl) (by kernel_rfl) (fun _ _ _ h => h) (Or.inl ⟨by rfl, fun wx hx => by simp [go_sem]⟩) hS ?_
      simp only [Act.put, List.getElem_toArray, List.getElem_cons_succ, List.getElem_cons_zero, List.setIfInBounds_toArray, List.set_cons_zero, List.set_cons_succ]
      refine wpAnyH_take (i := 15) (v := .int .i64 (pI : Int)) rfl (by kernel_rfl) (by kernel_rfl) (by kernel_rfl) (fun _ _ _ h => h) (Or.inl ⟨by rfl, fun wx hx => by simp [go_sem]⟩) hS ?_
      simp only [Act.put, List.getElem_toArray, List.getElem_cons_succ, List.getElem_cons_zero, List.setIfInBounds_toArray, List.set_cons_zero, List.set_cons_succ]
      refine wpAnyH_take (i := 16) (v := .bool false) rfl (by kernel_rfl) (by kernel_rfl) (by kernel_rfl) (fun _ _ _ h => h) (Or.inl ⟨by rfl, fun wx hx => by simp [go_sem]⟩) hS ?_
      simp only [Act.put, List.getElem_toArray, List.getElem_cons_succ, List.getElem_cons_zero, List.setIfInBounds_toArray, List.set_cons_zero, List.set_cons_succ]
      refine wpAnyH_done (by kernel_rfl) ?_ _
      clear hS
      go_wp2
      refine bodyPost_ret (results_tmp2 rfl _ _ _) rfl ?_
      exact ⟨rfl, HBB.out⟩
    case pos =>
      have hlk : (i : Int) < (n : Int) := by omega
      have HIN : Hid (i < n) := hin
      have f1 : IntKind.i64.wrap ((i : Int) + 1) = (i : Int) + 1 := by rw [IntKind.wrap_i64]; have := HNL.out; omega
      have hik : i < ks.length := by rw [← HN.out]; exact hin
      obtain ⟨b, off, rfl, hci⟩ := HR1.out.at hik
      obtain ⟨si, HSI⟩ : ∃ s, Hid (s = strB (ks.getD i [])) := ⟨_, rfl⟩
      rw [← HSI.out] at hci
      have HLT : Hid (Op.bytesLess si.toList sk.toList = ltB (ks.getD i []) key) := by show _ = _; rw [HSI.out, HSK.out, less_str]
      cases hlt : ltB (ks.getD i []) key
      case false =>
        have HL2 : Hid (Op.bytesLess si.toList sk.toList = false) := by show _ = _; rw [HLT.out]; exact hlt
        have HIe : Hid (plI ks key = i) := plI_at ks key i (by rw [← HN.out]; exact hi) HF.out (fun _ => hlt)
        have HEQ : Hid ((si.toList == sk.toList) = pB) := by
          show _ = _
          rw [HPB.out, HSI.out, HSK.out, strB_inj, plB, HIe.out, ← HN.out, decide_eq_true hin]
          rfl
        obtain rfl : pI = i := by rw [HPI.out]; exact HIe.out
        clear hlt
        have tq0 : Hid True := trivial
        have tq1 : Hid True := trivial
        go_wp2_with (first
          | (clear tq0; with_reducible refine wpSeq_idxS (.tmp 14) (.tmp 15) b off n c pI HIN.out ?_ ?_ ?_ ?_ ?_
             · rfl
             · rfl
             · rfl
             · rfl)
          | (clear tq1; with_reducible refine wpSeq_sLt si sk false (.tmp 17) (.tmp 18) HL2.out ?_ ?_ ?_ ?_ ?_
             · rfl
             · rfl
             · rfl
             · rfl))
        refine wp_region_held_drew (S := Over (World.drew wr)) (by kernel_rfl) (Over.refl _) ?_
        intro hS
        have HD0 : Hid ((World.drew wr).cell? ⟨gm, 0, none⟩ = some (.slice (some ⟨b, off, none⟩) n c)) := HM.out.cell 0
        have HDC : Hid ((World.drew wr).cell? ⟨b, off + pI, none⟩ = some (.string si)) := hci
        have HBB : Hid (Below w.heap.size w (World.drew wr)) := HB1.out.drew
        change wpAnyH _ _ _ _ _ _ _ _ (World.drew wr)
        generalize World.drew wr = y3 at *
        refine wpAnyH_take (i := 0) (v := .int .i64 (pI : Int)) rfl (by kernel_rfl) (by kernel_rfl) (by kernel_rfl) (fun _ _ _ h => h) (Or.inl ⟨by rfl, fun wx hx => by simp [go_sem]⟩) hS ?_
        simp only [Act.put, List.getElem_toArray, List.getElem_cons_zero, List.setIfInBounds_toArray, List.set_cons_zero, List.set_cons_succ]
        refine wpAnyH_take (i := 1) (v := .int .i64 (pI : Int)) rfl (by kernel_rfl) (by kernel_rfl) (by kernel_rfl) (fun _ _ _ h => h) (Or.inl ⟨by rfl, fun wx hx => by simp [go_sem]⟩) hS ?_
        simp only [Act.put, List.getElem_toArray, List.getElem_cons_succ, List.getElem_cons_zero, List.setIfInBounds_toArray, List.set_cons_zero, List.set_cons_succ]
        refine wpAnyH_take (i := 2) (v := .pointer (some ⟨gm, 0, none⟩)) rfl (by kernel_rfl) (by kernel_rfl) (by kernel_rfl) (fun _ _ _ h => h) (Or.inl ⟨by rfl, fun wx hx => by simp [go_sem]⟩) hS ?_
        simp only [Act.put, List.getElem_toArray, List.getElem_cons_succ, List.getElem_cons_zero, List.setIfInBounds_toArray, List.set_cons_zero, List.set_cons_succ]
        refine wpAnyH_take (i := 3) (v := .slice (some ⟨b, off, none⟩) n c) rfl (by kernel_rfl) (by kernel_rfl) (by kernel_rfl) (fun _ _ _ h => h) (Or.inl ⟨by rfl, fun wx hx => by (have hc := below_cell hx HD0.out; simp [go_sem, hc])⟩) hS ?_
        simp only [Act.put, List.getElem_toArray, List.getElem_cons_succ, List.getElem_cons_zero, List.setIfInBounds_toArray, List.set_cons_zero, List.set_cons_succ]
        refine wpAnyH_take (i := 4) (v := .int .i64 (n : Int)) rfl (by kernel_rfl) (by kernel_rfl) (by kernel_rfl) (fun _ _ _ h => h) (Or.inl ⟨by rfl, fun wx hx => by simp [go_sem]⟩) hS ?_
        simp only [Act.put, List.getElem_toArray, List.getElem_cons_succ, List.getElem_cons_zero, List.setIfInBounds_toArray, List.set_cons_zero, List.set_cons_succ]
        refine wpAnyH_take (i := 5) (v := .bool true) rfl (by kernel_rfl) (by kernel_rfl) (by kernel_rfl) (fun _ _ _ h => h) (Or.inl ⟨by rfl, fun wx hx => by simp [go_sem, hlk]⟩) hS ?_
        simp only [Act.put, List.getElem_toArray, List.getElem_cons_succ, List.getElem_cons_zero, List.setIfInBounds_toArray, List.set_cons_zero, List.set_cons_succ]
        refine wpAnyH_take (i := 6) (v := .bool true) rfl (by kernel_rfl) (by kernel_rfl) (by kernel_rfl) (fun _ _ _ h => h) (Or.inl ⟨by rfl, fun wx hx => by simp [go_sem]⟩) hS ?_
        simp only [Act.put, List.getElem_toArray, List.getElem_cons_succ, List.getElem_cons_zero, List.setIfInBounds_toArray, List.set_cons_zero, List.set_cons_succ]
        refine wpAnyH_take (i := 7) (v := .pointer (some ⟨gm, 0, none⟩)) rfl (by kernel_rfl) (by kernel_rfl) (by kernel_rfl) (fun _ _ _ h => h) (Or.inl ⟨by rfl, fun wx hx => by simp [go_sem]⟩) hS ?_
        simp only [Act.put, List.getElem_toArray, List.getElem_cons_succ, List.getElem_cons_zero, List.setIfInBounds_toArray, List.set_cons_zero, List.set_cons_succ]
        refine wpAnyH_take (i := 8) (v := .slice (some ⟨b, off, none⟩) n c) rfl (by kernel_rfl) (by kernel_rfl) (by kernel_rfl) (fun _ _ _ h => h) (Or.inl ⟨by rfl, fun wx hx => by (have hc := below_cell hx HD0.out; simp [go_sem, hc])⟩) hS ?_
        simp only [Act.put, List.getElem_toArray, List.getElem_cons_succ, List.getElem_cons_zero, List.setIfInBounds_toArray, List.set_cons_zero, List.set_cons_succ]
        refine wpAnyH_take (i := 9) (v := .int .i64 (pI : Int)) rfl (by kernel_rfl) (by kernel_rfl) (by kernel_rfl) (fun _ _ _ h => h) (Or.inl ⟨by rfl, fun wx hx => by simp [go_sem]⟩) hS ?_
        simp only [Act.put, List.getElem_toArray, List.getElem_cons_succ, List.getElem_cons_zero, List.setIfInBounds_toArray, List.set_cons_zero, List.set_cons_succ]
        refine wpAnyH_take (i := 10) (v := .pointer (some ⟨b, off + pI, none⟩)) rfl (by kernel_rfl) (by kernel_rfl) (by kernel_rfl) (fun _ _ _ h => h) (Or.inl ⟨by rfl, fun wx hx => by exact idxS b off n c pI HIN.out _ _ _ _ rfl rfl rfl _⟩) hS ?_
        simp only [Act.put, List.getElem_toArray, List.getElem_cons_succ, List.getElem_cons_zero, List.setIfInBounds_toArray, List.set_cons_zero, List.set_cons_succ]
        refine wpAnyH_take (i := 11) (v := .string si) rfl (by kernel_rfl) (by kernel_rfl) (by kernel_rfl) (fun _ _ _ h => h) (Or.inl ⟨by rfl, fun wx hx => by (have hc := below_cell hx HDC.out; simp [go_sem, hc])⟩) hS ?_
        simp only [Act.put, List.getElem_toArray, List.getElem_cons_succ, List.getElem_cons_zero, List.setIfInBounds_toArray, List.set_cons_zero, List.set_cons_succ]
        refine wpAnyH_take (i := 12) (v := .string sk) rfl (by kernel_rfl) (by kernel_rfl) (by kernel_rfl) (fun _ _ _ h => h) (Or.inl ⟨by rfl, fun wx hx => by simp [go_sem]⟩) hS ?_
        simp only [Act.put, List.getElem_toArray, List.getElem_cons_succ, List.getElem_cons_zero, List.setIfInBounds_toArray, List.set_cons_zero, List.set_cons_succ]
        refine wpAnyH_take (i := 13) (v := .bool pB) rfl (by kernel_rfl) (by kernel_rfl) (by kernel_rfl) (fun _ _ _ h => h) (Or.inl ⟨by rfl, fun wx hx => by exact run_strOp .eql si sk _ HEQ.out (Or.inr (Or.inr (Or.inl rfl))) _ _ _ _ rfl rfl rfl _⟩) hS ?_
        simp only [Act.put, List.getElem_toArray, List.getElem_cons_succ, List.getElem_cons_zero, List.setIfInBounds_toArray, List.set_cons_zero, List.set_cons_succ]
        refine wpAnyH_take (i := 14) (v := .bool pB) rfl (by kernel_rfl) (by kernel_rfl) (by kernel_rfl) (fun _ _ _ h => h) (Or.inl ⟨by rfl, fun wx hx => by simp [go_sem]⟩) hS ?_
        simp only [Act.put, List.getElem_toArray, List.getElem_cons_succ, List.getElem_cons_zero, List.setIfInBounds_toArray, List.set_cons_zero, List.set_cons_succ]
        refine wpAnyH_take (i := 15) (v := .int .i64 (pI : Int)) rfl (by kernel_rfl) (by kernel_rfl) (by kernel_rfl) (fun _ _ _ h => h) (Or.inl ⟨by rfl, fun wx hx => by simp [go_sem]⟩) hS ?_
        simp only [Act.put, List.getElem_toArray, List.getElem_cons_succ, List.getElem_cons_zero, List.setIfInBounds_toArray, List.set_cons_zero, List.set_cons_succ]
        refine wpAnyH_take (i := 16) (v := .bool pB) rfl (by kernel_rfl) (by kernel_rfl) (by kernel_rfl) (fun _ _ _ h => h) (Or.inl ⟨by rfl, fun wx hx => by simp [go_sem]⟩) hS ?_
        simp only [Act.put, List.getElem_toArray, List.getElem_cons_succ, List.getElem_cons_zero, List.setIfInBounds_toArray, List.set_cons_zero, List.set_cons_succ]
        refine wpAnyH_done (by kernel_rfl) ?_ _
        clear hS
        go_wp2
        refine bodyPost_ret (results_tmp2 rfl _ _ _) rfl ?_
        exact ⟨rfl, HBB.out⟩
      case true =>
        have HL2 : Hid (Op.bytesLess si.toList sk.toList = true) := by show _ = _; rw [HLT.out]; exact hlt
        have HF2 : Hid (∀ j, j < i + 1 → ltB (ks.getD j []) key = true) := fun j hj => by
          by_cases hji : j = i
          · rw [hji]; exact hlt
          · exact HF.out j (by omega)
        clear hlt
        have tr0 : Hid True := trivial
        have tr1 : Hid True := trivial
        go_wp2_with (first
          | (clear tr0; with_reducible refine wpSeq_idxS (.tmp 14) (.tmp 15) b off n c i HIN.out ?_ ?_ ?_ ?_ ?_
             · rfl
             · rfl
             · rfl
             · rfl)
          | (clear tr1; with_reducible refine wpSeq_sLt si sk true (.tmp 17) (.tmp 18) HL2.out ?_ ?_ ?_ ?_ ?_
             · rfl
             · rfl
             · rfl
             · rfl))
        go_roundw
        case rel => exact ⟨i + 1, by omega, by simp, HF2, trivial⟩
        case measure => simp [intOf]; omega
end Go.Proofs.YtopmeedmgjdcgaaGreatDoor
/- The walk of the reference's Get (layer 15). -/
namespace Go.Proofs.YtopmeedmgjdcgaaGreatDoor
open Go.RowKit
set_option maxRecDepth 100000
theorem info_keys (x y : Value) : (Tryz.prog.info? 43).map (·.size) = some [x, y].length := by kernel_rfl
theorem plB_lt {ks : List Bs} {key : Bs} (h : plB ks key = true) : plI ks key < ks.length := by
  unfold plB at h
  simp only [Bool.and_eq_true, decide_eq_true_eq] at h
  exact h.1
end Go.Proofs.YtopmeedmgjdcgaaGreatDoor
/- Where a key stands in a rising list (layer 15; plain). -/
namespace Go.Proofs.YtopmeedmgjdcgaaGreatDoor
theorem plI_cons (k : Bs) (ks : List Bs) (key : Bs) : plI (k :: ks) key = if ltB k key = true then plI ks key + 1 else 0 := by
  rw [plI, List.takeWhile_cons]
  cases ltB k key <;> rfl
theorem plB_lt1 {k : Bs} {ks : List Bs} {key : Bs} (h : ltB k key = true) : plB (k :: ks) key = plB ks key := by
  rw [plB, plB, plI_cons, if_pos h, List.length_cons, List.getD_cons_succ]
  congr 1
  rw [decide_eq_decide]
  omega
theorem plB_ge {k : Bs} {ks : List Bs} {key : Bs} (h : ltB k key = false) : plB (k :: ks) key = decide (k = key) := by
  rw [plB, plI_cons, if_neg (by rw [h]; decide), List.length_cons, List.getD_cons_zero, decide_eq_true (Nat.succ_pos _), Bool.true_and]
theorem rise_cons {p : Bs × Bs} {m : KM} : Rise (p :: m) ↔ (∀ q ∈ m, ltB p.1 q.1 = true) ∧ Rise m := List.pairwise_cons
theorem ge_lt {a b c : Bs} (h : ltB a b = false) (h2 : ltB a c = true) : ltB b c = true := by
  rcases ltB_tri a b with h3 | h3 | h3
  · rw [h3] at h; cases h
  · rw [← h3]; exact h2
  · exact ltB_trans _ _ _ h3 h2
theorem lt_part : ∀ {m : KM} (key : Bs), Rise m → m.filter (fun p => ltB p.1 key) = m.take (plI (m.map (·.1)) key)
  | [], _, _ => rfl
  | p :: m, key, h => by
    obtain ⟨h1, h2⟩ := rise_cons.1 h
    rw [List.map_cons, plI_cons, List.filter_cons]
    cases hp : ltB p.1 key
    · rw [if_neg (by decide), if_neg (by decide), List.take_zero, List.filter_eq_nil_iff]
      intro q hq
      have h3 := ge_lt hp (h1 q hq)
      rw [ltB_asym h3]
      decide
    · rw [if_pos rfl, if_pos rfl, List.take_succ_cons, lt_part key h2]
theorem gt_part : ∀ {m : KM} (key : Bs), Rise m → m.filter (fun p => ltB key p.1) = m.drop (if plB (m.map (·.1)) key = true then plI (m.map (·.1)) key + 1 else plI (m.map (·.1)) key)
  | [], _, _ => by simp
  | p :: m, key, h => by
    obtain ⟨h1, h2⟩ := rise_cons.1 h
    have ft : ¬ (false = true) := by decide
    rw [List.map_cons, plI_cons, List.filter_cons]
    cases hp : ltB p.1 key
    · rw [if_neg ft, plB_ge hp]
      have hall : m.filter (fun q => ltB key q.1) = m := by
        rw [List.filter_eq_self]
        exact fun q hq => ge_lt hp (h1 q hq)
      by_cases he : p.1 = key
      · rw [decide_eq_true he, if_pos rfl, he, ltB_irr, if_neg ft, hall]
        rfl
      · rw [decide_eq_false he, if_neg ft]
        have h3 : ltB key p.1 = true := by
          rcases ltB_tri p.1 key with h | h | h
          · rw [h] at hp; cases hp
          · exact absurd h he
          · exact h
        rw [if_pos h3, hall]
        rfl
    · rw [if_pos rfl, plB_lt1 hp, if_neg (by rw [ltB_asym hp]; decide), gt_part key h2]
      split <;> rfl
/-- one act, as the reference cuts it -/
theorem oneM_cut {m : KM} (h : Rise m) (a : ActT) : oneM m a = m.take (plI (m.map (·.1)) a.key) ++ ((if a.set then [(a.key, a.data)] else []) ++ m.drop (if plB (m.map (·.1)) a.key = true then plI (m.map (·.1)) a.key + 1 else plI (m.map (·.1)) a.key)) := by
  rw [oneM, lt_part _ h, gt_part _ h]
end Go.Proofs.YtopmeedmgjdcgaaGreatDoor
/- The store's map of texts: as a rising list of keys with texts (layer 15). -/
namespace Go.Proofs.YtopmeedmgjdcgaaGreatDoor
open Go.RowKit
set_option maxRecDepth 100000
theorem getM_cons (p : Bs × Bs) (m : KM) (k : Bs) : getM (p :: m) k = if p.1 = k then some p.2 else getM m k := by
  unfold getM
  by_cases e : p.1 = k
  · rw [if_pos e, List.find?_cons_of_pos (by simp [e])]; rfl
  · rw [if_neg e, List.find?_cons_of_neg (by simp [e])]
theorem opt_ext {x y : Option Bs} (h : ∀ d, x = some d ↔ y = some d) : x = y := by
  cases x with
  | none =>
    cases y with
    | none => rfl
    | some d => exact absurd ((h d).2 rfl) (by simp)
  | some d => exact ((h d).1 rfl).symm
theorem get_one {m : KM} (h : Rise m) (a : ActT) (q : Bs) : getM (oneM m a) q = if q = a.key then (if a.set then some a.data else none) else getM m q := by
  apply opt_ext
  intro d
  rw [getM_mem (h.one a), mem_one]
  by_cases e : q = a.key
  · rw [if_pos e]
    constructor
    · rintro (⟨_, h2⟩ | ⟨h1, h2⟩)
      · exact absurd e h2
      · rw [if_pos h1]; simp at h2; rw [h2.2]
    · intro h1
      by_cases hs : a.set = true
      · rw [if_pos hs] at h1
        simp at h1
        exact Or.inr ⟨hs, by rw [e, h1]⟩
      · rw [if_neg hs] at h1
        cases h1
  · rw [if_neg e, getM_mem h]
    constructor
    · rintro (⟨h1, _⟩ | ⟨_, h2⟩)
      · exact h1
      · simp at h2; exact absurd h2.1 e
    · intro h1
      exact Or.inl ⟨h1, e⟩
theorem len_parts : ∀ {m : KM} (k : Bs), Rise m → (m.filter (fun p => ltB p.1 k)).length + (m.filter (fun p => ltB k p.1)).length + (if (getM m k).isSome then 1 else 0) = m.length
  | [], k, _ => by simp [getM]
  | p :: m, k, h => by
    obtain ⟨h1, h2⟩ := rise_cons.1 h
    have ih := len_parts k h2
    rw [getM_cons]
    rcases ltB_tri p.1 k with c | c | c
    · rw [List.filter_cons_of_pos (by exact c), List.filter_cons_of_neg (by rw [ltB_asym c]; decide), if_neg (ltB_ne c), List.length_cons, List.length_cons]
      omega
    · have e1 : m.filter (fun p => ltB p.1 k) = [] := List.filter_eq_nil_iff.2 (fun q hq => by have := h1 q hq; rw [c] at this; simp [ltB_asym this])
      have e2 : m.filter (fun p => ltB k p.1) = m := List.filter_eq_self.2 (fun q hq => by have := h1 q hq; rw [c] at this; exact this)
      rw [List.filter_cons_of_neg (by rw [c, ltB_irr]; decide), List.filter_cons_of_neg (by rw [c, ltB_irr]; decide), e1, e2, if_pos c]
      simp
    · rw [List.filter_cons_of_neg (by rw [ltB_asym c]; decide), List.filter_cons_of_pos (by exact c), if_neg (show ¬ p.1 = k from fun e => by rw [e, ltB_irr] at c; cases c), List.length_cons, List.length_cons]
      omega
theorem len_one {m : KM} (h : Rise m) (a : ActT) : (oneM m a).length + (if (getM m a.key).isSome then 1 else 0) = m.length + (if a.set then 1 else 0) := by
  have h1 := len_parts a.key h
  unfold oneM
  rw [List.length_append, List.length_append]
  cases a.set <;> simp <;> omega
/-- how a slice reads -/
def slD : Value → DataW Unit
  | .slice none n c => .agg [.lit (.int .i64 (-1)), .lit (.int .i64 0), .lit (.int .i64 (n : Int)), .lit (.int .i64 (c : Int)), .lit (.int .i64 0)]
  | .slice (some ⟨b, o, none⟩) n c => .agg [.lit (.int .i64 (b : Int)), .lit (.int .i64 (o : Int)), .lit (.int .i64 (n : Int)), .lit (.int .i64 (c : Int)), .lit (.int .i64 (-1))]
  | .slice (some ⟨b, o, some s⟩) n c => .agg [.lit (.int .i64 (b : Int)), .lit (.int .i64 (o : Int)), .lit (.int .i64 (n : Int)), .lit (.int .i64 (c : Int)), .lit (.int .i64 (s : Int))]
  | _ => .nil
def isSl : Value → Bool
  | .slice _ _ _ => true
  | _ => false
def slE (v : Value) : Option (DataW Unit × List MemPlace) := if isSl v then some (slD v, []) else none
theorem slE_mk {v : Value} (h : isSl v = true) : slE v = some (slD v, []) := if_pos h
theorem slE_inv {v u : Value} {ps : List MemPlace} (hu : isSl u = true) (h : slE v = some (slD u, ps)) : v = u := by
  unfold slE at h
  split at h
  · rename_i hv
    simp only [Option.some.injEq, Prod.mk.injEq] at h
    obtain ⟨e, _⟩ := h
    cases v <;> simp [isSl] at hv
    rename_i ad n c
    cases u <;> simp [isSl] at hu
    rename_i ad2 n2 c2
    rcases ad with _ | ⟨b, o, _ | s⟩ <;> rcases ad2 with _ | ⟨b2, o2, _ | s2⟩ <;> simp [slD] at e ⊢ <;> omega
  · cases h
theorem Reads.isSl {w : World} {v : Value} {b : Bs} (h : Reads w v b) : b ≠ [] → isSl v = true := by
  obtain ⟨ad, cap, rfl, h2, h3, h4⟩ := h
  intro hb
  obtain ⟨b0, off, rfl, _⟩ := h4 (List.length_pos_iff.2 hb)
  rfl
def litB (s : Bs) : Lit := .string (strB s).data.toList
theorem strB_inj2 {s t : Bs} (h : strB s = strB t) : s = t := by
  have h1 := strB_inj s t
  rw [h] at h1
  simp at h1
  exact h1
theorem litB_inj {s t : Bs} (h : litB s = litB t) : s = t := by
  unfold litB at h
  apply strB_inj2
  revert h
  cases strB s; cases strB t
  intro h
  simp at h
  simp [h]
theorem kSt : Maps.Keyed Tryz.prog 9 := Maps.string_keyed Tryz.underlying9
theorem keyB {s : Bs} (h : s.length ≤ 1000000) : keyOf Tryz.prog 9 (.string (strB s)) = some (litB s) := WideMaps.keyOf_string_mk Tryz.underlying9 (by rw [strB_size]; unfold maxLen; omega)
theorem litBK (s : Bs) : WideAt.IsKeyLit (litB s) := trivial
/-- block gm is a map of the keys of m, under which the slices V lie -/
structure MapM (w : World) (gm n : Nat) (V : Bs → Value) (m : KM) : Prop where
  ex : ∃ D : DataW Unit, w.ownsMap Tryz.prog 9 slE gm n D ∧ Maps.size D = m.length ∧ ∀ s, Maps.has D (litB s) = (getM m s).isSome ∧ ((getM m s).isSome = true → D.atKey (litB s) (slD (.slice none 0 0)) = slD (V s))
  sl : ∀ s, (getM m s).isSome = true → isSl (V s) = true
  up : Rise m
theorem MapM.lt {w : World} {gm n : Nat} {V : Bs → Value} {m : KM} (h : MapM w gm n V m) : gm < w.heap.size := by obtain ⟨D, h1, _⟩ := h.ex; exact h1.lt
theorem MapM.same {w w' : World} {gm n : Nat} {V : Bs → Value} {m : KM} (h : MapM w gm n V m) (e : w'.heap[gm]? = w.heap[gm]?) : MapM w' gm n V m := by
  obtain ⟨D, ⟨es, cl, hb, r⟩, h2⟩ := h.ex
  exact ⟨⟨D, ⟨es, cl, by rw [e]; exact hb, r⟩, h2⟩, h.sl, h.up⟩
theorem MapM.ne {w : World} {gm n : Nat} {V : Bs → Value} {m : KM} (h : MapM w gm n V m) {g : Nat} {cs : Array Value} {t : TypeId} {fr : Nat × Nat} (hb : w.heap[g]? = some (.cells cs t fr)) : gm ≠ g := fun e => by
  obtain ⟨D, ⟨es, cl, hm, _⟩, _⟩ := h.ex
  subst e
  rw [hm] at hb
  cases hb
theorem mapM_new (w : World) (V : Bs → Value) : MapM (w.alloc (.map #[] 0)) w.heap.size 0 V [] :=
  ⟨⟨.map [], World.ownsMap_made w _ _ _, rfl, fun _ => ⟨rfl, fun h => (by cases h)⟩⟩, fun _ h => (by cases h), List.Pairwise.nil⟩
/-- a key looked up: what lies under it, and whether it is there -/
theorem MapM.look {w : World} {gm n : Nat} {V : Bs → Value} {m : KM} (h : MapM w gm n V m) {s : Bs} (hs : s.length ≤ 1000000) : (Instr.lookup 97 (.map (some gm)) (.string (strB s)) true).run Tryz.prog w = .ok (.tuple #[if (getM m s).isSome then V s else .slice none 0 0, .bool (getM m s).isSome]) w := by
  obtain ⟨D, h1, h2, h3⟩ := h.ex
  obtain ⟨v, ps, hr, hv⟩ := h1.look_ok kSt Tryz.underlying97 (z := .slice none 0 0) (by kernel_rfl) (slE_mk rfl) (keyB hs)
  obtain ⟨h4, h5⟩ := h3 s
  rw [h4] at hr
  by_cases c : (getM m s).isSome = true
  · rw [h5 c] at hv
    rw [slE_inv (h.sl s c) hv] at hr
    rw [if_pos c]
    exact hr
  · have hf : Maps.has D (litB s) = false := by rw [h4]; simpa using c
    rw [Maps.atKey_of_not_has hf] at hv
    rw [slE_inv rfl hv] at hr
    rw [if_neg c]
    exact hr
theorem MapM.len {w : World} {gm n : Nat} {V : Bs → Value} {m : KM} (h : MapM w gm n V m) (ty : TypeId) : (Builtin.len_ #[97] ty #[.map (some gm)]).run Tryz.prog w = .ok (.int .i64 (m.length : Int)) w := by
  obtain ⟨D, h1, h2, _⟩ := h.ex
  rw [h1.len Tryz.underlying97 ty, h2]
/-- nothing but the block gm changed -/
theorem mapTurned_only {w w' : World} {gm : Nat} (h : w.mapTurned w' gm) : Only gm w w' := by
  obtain ⟨es, cl, es', cl', hb, rfl⟩ := h
  exact ⟨rfl, rfl, rfl, by simp [ChangeMaps.setBlock], fun k hk _ => ChangeMaps.heap_setBlock_other hb _ hk⟩
theorem MapM.lay {w : World} {gm n : Nat} {V : Bs → Value} {m : KM} (h : MapM w gm n V m) (hn : n < 100000000) {s : Bs} (hs : s.length ≤ 1000000) {v : Value} (hv : isSl v = true) (t : Bs) : ∃ w', (Instr.mapUpdate 97 (.map (some gm)) (.string (strB s)) v).run Tryz.prog w = .ok () w' ∧ MapM w' gm (n + 1) (fun q => if q = s then v else V q) (oneM m ⟨s, true, t⟩) ∧ Only gm w w' := by
  obtain ⟨D, h1, h2, h3⟩ := h.ex
  have hi := h1.isMap
  have ht := h1.tidy kSt
  obtain ⟨w', hr, h4, h5⟩ := h1.store kSt Tryz.underlying97 (by unfold maxLen; omega) (keyB hs) (slE_mk hv)
  refine ⟨w', hr, ⟨⟨_, h4, ?_, fun q => ?_⟩, fun q hq => ?_, h.up.one _⟩, mapTurned_only h5⟩
  · have e1 := Maps.size_put (k := litB s) ht (slD v)
    have e2 := len_one h.up ⟨s, true, t⟩
    rw [(h3 s).1] at e1
    rw [e1]
    simp only [if_true] at e2
    by_cases c : (getM m s).isSome = true
    · rw [if_pos c] at e2 ⊢; omega
    · rw [if_neg c] at e2 ⊢; omega
  · rw [get_one h.up]
    by_cases e : q = s
    · subst e
      refine ⟨?_, fun _ => ?_⟩
      · rw [Maps.has_put_same hi (litBK _)]; simp
      · rw [Maps.atKey_put_same hi (litBK _), if_pos rfl]
    · have hne : litB q ≠ litB s := fun e2 => e (litB_inj e2)
      rw [if_neg e]
      refine ⟨?_, fun hq => ?_⟩
      · rw [Maps.has_put_other hne]; exact (h3 q).1
      · rw [Maps.atKey_put_other hne, if_neg e]; exact (h3 q).2 hq
  · show isSl (if q = s then v else V q) = true
    by_cases e : q = s
    · rw [if_pos e]; exact hv
    · rw [if_neg e]
      rw [get_one h.up, if_neg e] at hq
      exact h.sl q hq
theorem MapM.cut {w : World} {gm n : Nat} {V : Bs → Value} {m : KM} (h : MapM w gm n V m) {s : Bs} (hs : s.length ≤ 1000000) (ty : TypeId) : ∃ w', (Builtin.delete_ #[97, 9] ty #[.map (some gm), .string (strB s)]).run Tryz.prog w = .ok (.tuple #[]) w' ∧ MapM w' gm n V (oneM m ⟨s, false, []⟩) ∧ Only gm w w' := by
  obtain ⟨D, h1, h2, h3⟩ := h.ex
  have ht := h1.tidy kSt
  obtain ⟨w', hr, h4, h5⟩ := h1.drop kSt Tryz.underlying97 (keyB hs) ty
  refine ⟨w', hr, ⟨⟨_, h4, ?_, fun q => ?_⟩, fun q hq => ?_, h.up.one _⟩, mapTurned_only h5⟩
  · have e1 := Maps.size_del (k := litB s) ht
    have e2 := len_one h.up ⟨s, false, []⟩
    rw [(h3 s).1] at e1
    simp only [Bool.false_eq_true, if_false] at e2
    omega
  · rw [get_one h.up]
    by_cases e : q = s
    · subst e
      refine ⟨?_, fun hq => ?_⟩
      · rw [Maps.has_del_same]; simp
      · simp at hq
    · have hne : litB q ≠ litB s := fun e2 => e (litB_inj e2)
      rw [if_neg e]
      refine ⟨?_, fun hq => ?_⟩
      · rw [Maps.has_del_other hne]; exact (h3 q).1
      · rw [Maps.atKey_del_other hne]; exact (h3 q).2 hq
  · rw [get_one h.up] at hq
    by_cases e : q = s
    · rw [if_pos e] at hq; simp at hq
    · rw [if_neg e] at hq; exact h.sl q hq
end Go.Proofs.YtopmeedmgjdcgaaGreatDoor
/- The store's do: a batch done to its map (layer 15). -/
namespace Go.Proofs.YtopmeedmgjdcgaaGreatDoor
open Go.RowKit
set_option maxRecDepth 100000
/-- a slice of acts, with the slices of their data -/
def RdP (w : World) (v : Value) (ps : List (ActT × Value)) : Prop := ∃ ad cap, v = .slice ad ps.length cap ∧ (0 < ps.length → ∃ b off, ad = some ⟨b, off, none⟩ ∧ ∀ (j : Nat) (p : ActT × Value), ps[j]? = some p → w.rangeAt b (off + j * 3) (actC p.1 p.2))
theorem RdP.form {w : World} {v : Value} {ps : List (ActT × Value)} (h : RdP w v ps) : ∃ ad c, v = .slice ad ps.length c := by
  obtain ⟨ad, c, hv, _⟩ := h
  exact ⟨ad, c, hv⟩
theorem RdP.at {w : World} {ad : Option Addr} {n c : Nat} {ps : List (ActT × Value)} (h : RdP w (.slice ad n c) ps) {j : Nat} {p : ActT × Value} (hj : ps[j]? = some p) : ∃ b off, ad = some ⟨b, off, none⟩ ∧ w.rangeAt b (off + j * 3) (actC p.1 p.2) := by
  obtain ⟨ad', cap, h1, h3⟩ := h
  simp only [Value.slice.injEq] at h1
  obtain ⟨rfl, _, _⟩ := h1
  have hl := (List.getElem?_eq_some_iff.1 hj).1
  obtain ⟨b, off, h4, h5⟩ := h3 (by omega)
  exact ⟨b, off, h4, h5 j p hj⟩
theorem range_mut {w w' : World} {P : Nat → Prop} {b off : Nat} {cs : List Value} (h : w.rangeAt b off cs) (m : Mut P w w') (hb : ¬ P b) : w'.rangeAt b off cs := fun j u hj => by
  have h1 := h j u hj
  rw [World.cell?_of_block (w := w) (m.block b (block_lt_of_cell h1) hb)]
  exact h1
theorem MapM.neC {w : World} {gm n : Nat} {V : Bs → Value} {m : KM} (h : MapM w gm n V m) {a : Addr} {u : Value} (hc : w.cell? a = some u) : a.block ≠ gm := fun e => by
  obtain ⟨D, ⟨es, cl, hm, _⟩, _⟩ := h.ex
  rw [World.cell?, e, hm] at hc
  simp at hc
/-- while a batch is done -/
structure DoS (w : World) (gm n : Nat) (K : Value → Bs → Prop) (m : KM) (V : Bs → Value) (wr : World) : Prop where
  mp : MapM wr gm n V m
  kk : ∀ s t, getM m s = some t → K (V s) t
  mu : Mut (fun j => j = gm) w wr
theorem DoS.below {w wr w' : World} {gm n : Nat} {K : Value → Bs → Prop} {m : KM} {V : Bs → Value} (h : DoS w gm n K m V wr) (hb : Below wr.heap.size wr w') : DoS w gm n K m V w' := ⟨h.mp.same (hb.block gm h.mp.lt), h.kk, h.mu.trans (fun _ _ h => h) (mut_below hb _)⟩
theorem DoS.only {w wr w' : World} {gm n g : Nat} {K : Value → Bs → Prop} {m : KM} {V : Bs → Value} {cs : List Value} {t : TypeId} (h : DoS w gm n K m V wr) (hb : Blk wr g cs t) (hg : w.heap.size ≤ g) (ho : Only g wr w') : DoS w gm n K m V w' :=
  ⟨h.mp.same (ho.block gm (h.mp.ne hb) h.mp.lt), h.kk, h.mu.trans (fun k hk (e : k = g) => absurd hk (by omega)) (ho.mut (P := fun k => k = g) rfl)⟩
theorem DoS.set {w wr w' : World} {gm n : Nat} {K : Value → Bs → Prop} {m : KM} {V : Bs → Value} (h : DoS w gm n K m V wr) {s t : Bs} {v : Value} (hv : K v t) (hm : MapM w' gm (n + 1) (fun q => if q = s then v else V q) (oneM m ⟨s, true, t⟩)) (ho : Only gm wr w') : DoS w gm (n + 1) K (oneM m ⟨s, true, t⟩) (fun q => if q = s then v else V q) w' := by
  refine ⟨hm, fun q u hq => ?_, h.mu.trans (fun _ _ h => h) (ho.mut (P := fun k => k = gm) rfl)⟩
  rw [get_one h.mp.up] at hq
  by_cases e : q = s
  · rw [if_pos e] at hq
    simp at hq
    show K (if q = s then v else V q) u
    rw [if_pos e, ← hq]
    exact hv
  · rw [if_neg e] at hq
    show K (if q = s then v else V q) u
    rw [if_neg e]
    exact h.kk q u hq
theorem DoS.del {w wr w' : World} {gm n : Nat} {K : Value → Bs → Prop} {m : KM} {V : Bs → Value} (h : DoS w gm n K m V wr) {s : Bs} (hm : MapM w' gm n V (oneM m ⟨s, false, []⟩)) (ho : Only gm wr w') : DoS w gm (n + 1) K (oneM m ⟨s, false, []⟩) V w' := by
  refine ⟨⟨?_, hm.sl, hm.up⟩, fun q u hq => ?_, h.mu.trans (fun _ _ h => h) (ho.mut (P := fun k => k = gm) rfl)⟩
  · obtain ⟨D, h1, h2⟩ := hm.ex
    exact ⟨D, h1.mono (Nat.le_succ _), h2⟩
  · rw [get_one h.mp.up] at hq
    by_cases e : q = s
    · rw [if_pos e] at hq; simp at hq
    · rw [if_neg e] at hq
      exact h.kk q u hq
theorem one_unset (m : KM) (a : ActT) (h : a.set = false) : oneM m a = oneM m ⟨a.key, false, []⟩ := by unfold oneM; rw [h]; rfl
theorem isSl_form {v : Value} (h : isSl v = true) : ∃ ad n c, v = .slice ad n c := by
  cases v <;> simp [isSl] at h
  exact ⟨_, _, _, rfl⟩
set_option maxRecDepth 100000 in
set_option maxHeartbeats 2000000 in
theorem sDo_any {w : World} {gm n : Nat} {V : Bs → Value} {m : KM} (K : Value → Bs → Prop) (hm : MapM w gm n V m) (hK : ∀ s t, getM m s = some t → K (V s) t) (v : Value) (ps : List (ActT × Value)) (hr : RdP w v ps) (hp : ∀ p ∈ ps, p.1.key.length ≤ 1000000 ∧ isSl p.2 = true ∧ (p.1.set = true → K p.2 p.1.data)) (hn : n + ps.length < 10000000) :
    Calls Tryz.prog 54 #[.map (some gm), v] w fun e w' => e = .returned (.tuple #[]) ∧ ∃ V', DoS w gm (n + ps.length) K (doneM m (ps.map (·.1))) V' w' := by
  obtain ⟨ad, cp, hv⟩ := hr.form
  obtain ⟨N, HN⟩ : ∃ x, Hid (x = ps.length) := ⟨_, rfl⟩
  rw [← HN.out] at hv hn ⊢
  subst hv
  have HR : Hid (RdP w (.slice ad N cp) ps) := hr
  have HP : Hid (∀ p ∈ ps, p.1.key.length ≤ 1000000 ∧ isSl p.2 = true ∧ (p.1.set = true → K p.2 p.1.data)) := hp
  have HNN : Hid (n + N < 10000000) := hn
  have HI0 : Hid (DoS w gm (n + 0) K (doneM m ((ps.take 0).map (·.1))) V w) := ⟨hm, hK, Mut.refl _ _⟩
  have HM0 : Hid (MapM w gm n V m) := hm
  clear hr hp hn hm hK
  go_enter Tryz.func54, Tryz.ntmps54
  go_wp2
  go_loopw [8] (fun i wr => ∃ k : Nat, k ≤ N ∧ i = .int .i64 (k : Int) ∧ ∃ V', DoS w gm (n + k) K (doneM m ((ps.take k).map (·.1))) V' wr) (fun i _ => N - (intOf i).toNat)
  case atStart => exact ⟨0, Nat.zero_le _, rfl, V, HI0.out⟩
  case round =>
    clear HI0
    obtain ⟨k, hkn, rfl, V', hI⟩ := hrel
    by_cases hlt : k < N
    · obtain ⟨p, hp⟩ : ∃ p, ps[k]? = some p := ⟨_, List.getElem?_eq_getElem (by rw [← HN.out]; exact hlt)⟩
      obtain ⟨hk1, hk2, hk3⟩ := HP.out p (List.mem_of_getElem? hp)
      obtain ⟨b, off, e1, hrg⟩ := HR.out.at hp
      subst e1
      have hneb : ¬ b = gm := HM0.out.neC (hrg 0 _ rfl)
      have hrw := range_mut hrg hI.mu hneb
      have HTK : Hid (doneM m ((ps.take (k + 1)).map (·.1)) = oneM (doneM m ((ps.take k).map (·.1))) p.1) := by
        show _ = _
        rw [List.take_add_one, hp, List.map_append]
        exact doneM_snoc _ _ _
      obtain ⟨⟨ky, st, da⟩, vd⟩ := p
      obtain ⟨av, nv, cv, hvd⟩ := isSl_form hk2
      simp only at hvd
      subst hvd
      obtain ⟨sk, HSK⟩ : ∃ x, Hid (x = strB ky) := ⟨_, rfl⟩
      have HRW : Hid (wr.rangeAt b (off + k * 3) [.string sk, .bool st, .slice av nv cv]) := by
        show wr.rangeAt _ _ _
        rw [HSK.out]
        exact hrw
      have HW : Hid (DoS w gm (n + k) K (doneM m ((ps.take k).map (·.1))) V' wr) := hI
      have HKY : Hid (ky.length ≤ 1000000 ∧ isSl (.slice av nv cv) = true ∧ (st = true → K (.slice av nv cv) da)) := ⟨hk1, hk2, hk3⟩
      have k0 : (0 : Int) ≤ (k : Int) := by omega
      have k3 : (k : Int) < (N : Int) := by omega
      have f5 : IntKind.i64.wrap ((k : Int) + 1) = (k : Int) + 1 := by have := HNN.out; rw [IntKind.wrap_i64]; omega
      clear hI hp hk1 hk2 hk3 hrg hrw hneb
      have tk0 : Hid True := trivial
      have tk1 : Hid True := trivial
      have tk2 : Hid True := trivial
      have tk3 : Hid True := trivial
      cases st with
      | true =>
        go_wp2_with (first
          | (clear tk3; with_reducible refine wpSeq_idxA (.tmp 6) (.tmp 8) b off N cp k hlt ?_ ?_ ?_ ?_ ?_
             · rfl
             · rfl
             · rfl
             · rfl)
          | (clear tk0; with_reducible refine wpSeq_loadW 62 (.tmp 10) b (off + k * 3) [.string sk, .bool true, .slice av nv cv] _ HRW.out Tryz.underlying62 rfl (info_act15 _ _ _) ?_ ?_ ?_ ?_
             · rfl
             · rfl
             · rfl)
          | (clear tk1; with_reducible refine wpSeq_allocA ?_ ?_ ?_
             · rfl
             · rfl
             intro g5 y1 nn
             have H5 : Hid (Blk y1 g5 zA 62) := nn.blk
             have HG5 : Hid (w.heap.size ≤ g5) := Nat.le_trans HW.out.mu.size nn.ge
             replace HW : Hid (DoS w gm (n + k) K (doneM m ((ps.take k).map (·.1))) V' y1) := HW.out.below nn.below
             clear nn)
          | (clear tk2; with_reducible refine wpSeq_storeRow 62 (.tmp 5) (.tmp 11) g5 zA [.string sk, .bool true, .slice av nv cv] H5.out rfl (info_act15 _ _ _) (one_act _ _ _ _ _) ?_ ?_ ?_ ?_ ?_
             · rfl
             · rfl
             · rfl
             · rfl
             intro y2 sr
             replace HW : Hid (DoS w gm (n + k) K (doneM m ((ps.take k).map (·.1))) V' y2) := HW.out.only H5.out HG5.out sr.only
             have c0 : y2.cell? ⟨g5, 0, none⟩ = some (.string sk) := sr.blk.cell 0
             have c1 : y2.cell? ⟨g5, 1, none⟩ = some (.bool true) := sr.blk.cell 1
             have c2 : y2.cell? ⟨g5, 2, none⟩ = some (.slice av nv cv) := sr.blk.cell 2
             obtain ⟨y3, hr3, hm3, ho3⟩ := HW.out.mp.lay (by have := HNN.out; omega) HKY.out.1 HKY.out.2.1 da
             rw [← HSK.out] at hr3
             have HW3 : Hid (DoS w gm (n + k + 1) K (oneM (doneM m ((ps.take k).map (·.1))) ⟨ky, true, da⟩) (fun q => if q = ky then .slice av nv cv else V' q) y3) := HW.out.set (HKY.out.2.2 rfl) hm3 ho3
             clear sr hm3 ho3))
        go_roundw
        case rel => exact ⟨k + 1, hlt, rfl, _, by rw [HTK.out]; exact HW3.out⟩
        case measure => simp [intOf]; omega
      | false =>
        go_wp2_with (first
          | (clear tk3; with_reducible refine wpSeq_idxA (.tmp 6) (.tmp 8) b off N cp k hlt ?_ ?_ ?_ ?_ ?_
             · rfl
             · rfl
             · rfl
             · rfl)
          | (clear tk0; with_reducible refine wpSeq_loadW 62 (.tmp 10) b (off + k * 3) [.string sk, .bool false, .slice av nv cv] _ HRW.out Tryz.underlying62 rfl (info_act15 _ _ _) ?_ ?_ ?_ ?_
             · rfl
             · rfl
             · rfl)
          | (clear tk1; with_reducible refine wpSeq_allocA ?_ ?_ ?_
             · rfl
             · rfl
             intro g5 y1 nn
             have H5 : Hid (Blk y1 g5 zA 62) := nn.blk
             have HG5 : Hid (w.heap.size ≤ g5) := Nat.le_trans HW.out.mu.size nn.ge
             replace HW : Hid (DoS w gm (n + k) K (doneM m ((ps.take k).map (·.1))) V' y1) := HW.out.below nn.below
             clear nn)
          | (clear tk2; with_reducible refine wpSeq_storeRow 62 (.tmp 5) (.tmp 11) g5 zA [.string sk, .bool false, .slice av nv cv] H5.out rfl (info_act15 _ _ _) (one_act _ _ _ _ _) ?_ ?_ ?_ ?_ ?_
             · rfl
             · rfl
             · rfl
             · rfl
             intro y2 sr
             replace HW : Hid (DoS w gm (n + k) K (doneM m ((ps.take k).map (·.1))) V' y2) := HW.out.only H5.out HG5.out sr.only
             have c0 : y2.cell? ⟨g5, 0, none⟩ = some (.string sk) := sr.blk.cell 0
             have c1 : y2.cell? ⟨g5, 1, none⟩ = some (.bool false) := sr.blk.cell 1
             obtain ⟨y3, hr3, hm3, ho3⟩ := HW.out.mp.cut HKY.out.1 0
             rw [← HSK.out] at hr3
             have HW3 : Hid (DoS w gm (n + k + 1) K (oneM (doneM m ((ps.take k).map (·.1))) ⟨ky, false, []⟩) V' y3) := HW.out.del hm3 ho3
             clear sr hm3 ho3))
        go_roundw
        case rel => exact ⟨k + 1, hlt, rfl, _, by rw [HTK.out, one_unset _ ⟨ky, false, da⟩ rfl]; exact HW3.out⟩
        case measure => simp [intOf]; omega
    · have hkk : k = N := by omega
      subst hkk
      have HF : Hid (DoS w gm (n + k) K (doneM m (ps.map (·.1))) V' wr) := by
        have h9 := hI
        rw [List.take_of_length_le (by rw [← HN.out]; exact Nat.le_refl _)] at h9
        exact h9
      clear hI
      go_wp2
      refine bodyPost_end (results_none rfl _ _ _) rfl ?_
      exact ⟨rfl, _, HF.out⟩
end Go.Proofs.YtopmeedmgjdcgaaGreatDoor
/- The store's copies: acts with data in memory of its own (layer 15). -/
namespace Go.Proofs.YtopmeedmgjdcgaaGreatDoor
open Go.RowKit
set_option maxRecDepth 100000
theorem rowP_app (a b : List (ActT × Value)) : rowP (a ++ b) = rowP a ++ rowP b := by simp [rowP]
theorem rowP_idx {ps : List (ActT × Value)} {q : Nat} {u : Value} (h : (rowP ps)[q]? = some u) : ∃ p, ps[q / 3]? = some p ∧ (actC p.1 p.2)[q % 3]? = some u := by
  have hl : q < (rowP ps).length := (List.getElem?_eq_some_iff.1 h).1
  rw [rowP_len] at hl
  have hq : q / 3 < ps.length := by omega
  refine ⟨ps[q / 3], List.getElem?_eq_getElem hq, ?_⟩
  have h3 : q % 3 < (actC ps[q / 3].1 ps[q / 3].2).length := by show q % 3 < 3; omega
  have h4 := rowP_at ps (q / 3) (q % 3) _ _ (List.getElem?_eq_getElem hq) (List.getElem?_eq_getElem h3)
  rw [show q / 3 * 3 + q % 3 = q by omega, h] at h4
  rw [List.getElem?_eq_getElem h3]
  exact h4.symm
theorem rowP_one {ps : List (ActT × Value)} (h : ∀ p ∈ ps, isSl p.2 = true) : ∀ u ∈ rowP ps, u.oneCell' = true := by
  intro u hu
  obtain ⟨q, hq⟩ := List.mem_iff_getElem?.1 hu
  obtain ⟨p, hp, hi⟩ := rowP_idx hq
  obtain ⟨ad, n, c, e⟩ := isSl_form (h p (List.mem_of_getElem? hp))
  rw [actC, e] at hi
  exact one_act _ _ _ _ _ u (List.mem_of_getElem? hi)
theorem build_a0 (f : Operand → Value) (o : Oper) (ho : o.op = .buildSlice 22 0 #[]) (w : World) : (execOp f o).run Tryz.prog w = .ok (.value (.slice (some ⟨w.heap.size, 0, none⟩) 0 0)) (w.alloc (.cells #[] 62)) := by
  unfold execOp
  rw [ho]
  kernel_rfl
theorem wpSeq_buildA0 {ops : Array Oper} {Q : Exit → Act → World → Prop} {rest : List Oper} {o : Oper} {a : Act} {w : World} (ho : o.op = .buildSlice 22 0 #[]) (hw : Region.wanted o (yielded ops a.tmps) = true)
    (h : ∀ g w', w.heap.size ≤ g → w'.ownsRow w.heap.size 62 3 (.slice (some ⟨g, 0, none⟩) 0 0) 0 [] → Below w.heap.size w w' → wpList Tryz.prog ops Q rest (a.put o.dst (.slice (some ⟨g, 0, none⟩) 0 0)) w') : wpList Tryz.prog ops Q (o :: rest) a w :=
  wpSeq_val _ _ hw (build_a0 _ _ ho _) (h _ _ (Nat.le_refl _) ⟨rfl, Or.inr ⟨w.heap.size, 0, #[], rfl, Nat.le_refl _, Blk.new w [] _, Nat.le_refl _, by unfold maxLen; omega, rfl, rfl⟩⟩ (below_alloc _ _))
set_option maxRecDepth 100000 in
set_option maxHeartbeats 2000000 in
theorem slCloneA_any {w : World} (v : Value) (ps : List (ActT × Value)) (hr : RdP w v ps) (hs : ∀ p ∈ ps, isSl p.2 = true) (hl : ps.length < 1000000) : Calls Tryz.prog 81 #[v] w fun e w' => ∃ v', e = .returned v' ∧ w'.ownsRow w.heap.size 62 3 v' ps.length (rowP ps) ∧ Below w.heap.size w w' := by
  obtain ⟨ad, cp, hv, hx⟩ := id hr
  obtain ⟨N, HN⟩ : ∃ x, Hid (x = ps.length) := ⟨_, rfl⟩
  rw [← HN.out] at hv hl
  subst hv
  have HR : Hid (RdP w (.slice ad N cp) ps) := hr
  have HS : Hid (∀ u ∈ rowP ps, u.oneCell' = true) := rowP_one hs
  have HL : Hid (N < 1000000) := hl
  cases ad with
  | none =>
    have h0 : ps = [] := by
      rcases Nat.eq_zero_or_pos ps.length with h | h
      · exact List.eq_nil_of_length_eq_zero h
      · obtain ⟨b, off, e, _⟩ := hx h
        cases e
    have HF : Hid (w.ownsRow w.heap.size 62 3 (.slice none 0 0) ps.length (rowP ps)) := by
      show World.ownsRow _ _ _ _ _ _ _
      rw [h0]
      exact World.ownsRow_nil _ _ _ _
    clear hr hx hs hl h0
    have fe : (binOp .eql 22 (.slice none N cp) (.slice none 0 0)).run Tryz.prog w = .ok (.bool true) w := by kernel_rfl
    go_enter Tryz.func81, Tryz.ntmps81
    go_wp2
    go_ret
    exact ⟨_, rfl, HF.out, Below.refl _ _⟩
  | some a =>
    have HRG : Hid (∀ q u, (rowP ps)[q]? = some u → w.cell? (a.add q) = some u) := fun q u hq => by
      obtain ⟨p, hp, hi⟩ := rowP_idx hq
      obtain ⟨b, off, e, h⟩ := HR.out.at hp
      cases e
      have h2 := h _ _ hi
      rw [Addr.add_mid]
      rw [show off + q / 3 * 3 + q % 3 = off + q by omega] at h2
      exact h2
    clear hr hx hs hl
    have fe : (binOp .eql 22 (.slice (some a) N cp) (.slice none 0 0)).run Tryz.prog w = .ok (.bool false) w := by kernel_rfl
    go_enter Tryz.func81, Tryz.ntmps81
    have tk0 : Hid True := trivial
    have tk1 : Hid True := trivial
    go_wp2_with (first
      | (clear tk0; with_reducible refine wpSeq_buildA0 ?_ ?_ ?_
         · rfl
         · rfl
         intro g5 y1 hg5 ow1 bl1
         have HO : Hid (y1.ownsRow w.heap.size 62 3 (.slice (some ⟨g5, 0, none⟩) 0 0) 0 []) := ow1
         have HBL : Hid (Below w.heap.size w y1) := bl1
         have HRG1 : Hid (∀ q u, (rowP ps)[q]? = some u → y1.cell? (a.add q) = some u) := fun q u hq => by
           have h2 := HRG.out q u hq
           rw [bl1.cell (p := a.add q) (block_lt_of_cell h2)]
           exact h2
         clear ow1 bl1 hg5)
      | (clear tk1; at_builtin
         obtain ⟨i0, hi, hz0, hz1, hz2⟩ := info_parts Tryz.infoact
         refine wpList_append_own (P := Tryz.prog) y1 rfl (.tmp 5) (.tmp 6) 22 rfl w.heap.size 62 i0 (.agg zA.toArray) 3 48 Tryz.underlying22 hi hz0 hz1 hz2 rfl (by decide) _ 0 [] rfl HO.out a N cp (rowP ps) rfl (by rw [rowP_len, HN.out]) HRG1.out HS.out (by unfold maxLen; have := HL.out; omega) (by have := HL.out; omega) HBL.out.size ?_
         intro v2 y2 ow2 gr2 _
         have HF : Hid (y2.ownsRow w.heap.size 62 3 v2 ps.length (rowP ps)) := by
           show World.ownsRow _ _ _ _ _ _ _
           rw [Nat.zero_add, List.nil_append, HN.out] at ow2
           exact ow2
         have HB2 : Hid (Below w.heap.size w y2) := HBL.out.trans ((Below.refl _ _).grown gr2 HBL.out.size (fun k hk => (World.ownsRow.lt HO.out k hk).1))
         clear ow2 gr2 hi hz0 hz1 hz2))
    go_ret
    exact ⟨_, rfl, HF.out, HB2.out⟩
theorem OwnB.isSl {w : World} {base : Nat} {v : Value} {l : Bs} (h : OwnB w base v l) : isSl v = true := by
  obtain ⟨_, ⟨rfl, _⟩ | ⟨g, cap, cur, rfl, _⟩⟩ := h
  · rfl
  · rfl
/-- while data is copied -/
structure CpI (w : World) (g : Nat) (ps qs : List (ActT × Value)) (k : Nat) (tail : List Value) (W : World) : Prop where
  blk : Blk W g (rowP (qs ++ ps.drop k) ++ tail) 62
  len : qs.length = k
  fst : qs.map (·.1) = (ps.take k).map (·.1)
  dat : ∀ p ∈ qs, OwnB W w.heap.size p.2 p.1.data
  bel : Below w.heap.size w W
theorem OwnB.onlyA {w w' : World} {base g : Nat} {v : Value} {l : Bs} {cs : List Value} (h : OwnB w base v l) (hb : Blk w g cs 62) (ho : Only g w w') : OwnB w' base v l :=
  h.sameS (fun k hk => ho.block k (fun e => by subst e; exact h.neA hb (by decide) hk) (h.ltS k hk).2)
set_option maxRecDepth 100000 in
set_option maxHeartbeats 2000000 in
theorem sCopies_any {w : World} (v : Value) (ps : List (ActT × Value)) (hr : RdP w v ps) (hs : ∀ p ∈ ps, isSl p.2 = true) (hd : ∀ p ∈ ps, Reads w p.2 p.1.data) (hb : ∀ p ∈ ps, p.1.data.length ≤ 140737488355328) (hl : ps.length < 1000000) : Calls Tryz.prog 55 #[v] w fun e w' => ∃ v' qs, e = .returned v' ∧ OwnA w' w.heap.size v' qs ∧ qs.map (·.1) = ps.map (·.1) ∧ Below w.heap.size w w' := by
  have hcl := slCloneA_any v ps hr hs hl
  obtain ⟨N, HN⟩ : ∃ x, Hid (x = ps.length) := ⟨_, rfl⟩
  have HCL : Hid (Calls Tryz.prog 81 #[v] w fun e w' => ∃ v', e = .returned v' ∧ w'.ownsRow w.heap.size 62 3 v' ps.length (rowP ps) ∧ Below w.heap.size w w') := hcl
  have HD : Hid (∀ p ∈ ps, Reads w p.2 p.1.data ∧ p.1.data.length ≤ 140737488355328) := fun p hp => ⟨hd p hp, hb p hp⟩
  have HSL : Hid (∀ p ∈ ps, isSl p.2 = true) := hs
  have HNL : Hid (N < 1000000) := by show N < _; rw [HN.out]; exact hl
  clear hcl hr hs hd hb hl
  go_enter Tryz.func55, Tryz.ntmps55
  have tk0 : Hid True := trivial
  go_wp2_with (first
    | (clear tk0; go_at_call 81; refine (HCL.out).mono ?_; rintro e0 y0 ⟨vc, rfl, ow0, bl0⟩
       obtain ⟨ad, cp, hvc⟩ : ∃ ad cp, vc = .slice ad N cp := by
         obtain ⟨_, ⟨rfl, h0⟩ | ⟨g, cap, cur, rfl, _⟩⟩ := ow0
         · exact ⟨none, 0, by rw [HN.out, h0]⟩
         · exact ⟨_, _, by rw [HN.out]⟩
       subst hvc
       have HOW : Hid (y0.ownsRow w.heap.size 62 3 (.slice ad N cp) ps.length (rowP ps)) := ow0
       have HB0 : Hid (Below w.heap.size w y0) := bl0
       clear ow0 bl0))
  by_cases hz : N = 0
  · subst hz
    have HF : Hid (OwnA y0 w.heap.size (.slice ad 0 cp) [] ∧ ([] : List (ActT × Value)).map (·.1) = ps.map (·.1)) := by
      have e : ps = [] := List.eq_nil_of_length_eq_zero HN.out.symm
      have h1 := HOW.out
      rw [e] at h1 ⊢
      exact ⟨⟨h1, fun p hp => by cases hp⟩, rfl⟩
    go_loopw [9] (fun i wr => i = .int .i64 0 ∧ wr = y0) (fun _ _ => 0)
    case atStart => exact ⟨rfl, rfl⟩
    case round =>
      obtain ⟨rfl, rfl⟩ := hrel
      go_wp2
      go_ret
      exact ⟨_, rfl, [], HF.out.1, HF.out.2, HB0.out⟩
  · obtain ⟨g, tail, HG⟩ : ∃ g tail, Hid (ad = some ⟨g, 0, none⟩ ∧ w.heap.size ≤ g ∧ Blk y0 g (rowP ps ++ tail) 62 ∧ N ≤ cp ∧ cp ≤ maxLen ∧ (rowP ps ++ tail).length = cp * 3) := by
      obtain ⟨h1, ⟨e, h0⟩ | ⟨g, cap, cur, e, hg, hh, hc, hmx, hsz, ht⟩⟩ := HOW.out
      · exact absurd (by rw [HN.out]; exact h0) hz
      · simp only [Value.slice.injEq] at e
        obtain ⟨rfl, _, rfl⟩ := e
        have e2 : rowP ps ++ cur.toList.drop (ps.length * 3) = cur.toList := by rw [← ht]; exact List.take_append_drop _ _
        refine ⟨g, cur.toList.drop (ps.length * 3), rfl, hg, ?_, by rw [HN.out]; exact hc, hmx, by rw [e2]; simpa using hsz⟩
        rw [e2]
        exact hh
    obtain ⟨hga, hge, hblk, hnc, hcm, hlen⟩ := HG.out
    subst hga
    have HI0 : Hid (CpI w g ps [] 0 tail y0) := ⟨hblk, rfl, rfl, fun p hp => (by cases hp), HB0.out⟩
    have HGE : Hid (w.heap.size ≤ g) := hge
    have HCP : Hid (N ≤ cp ∧ cp ≤ maxLen ∧ (rowP ps ++ tail).length = cp * 3) := ⟨hnc, hcm, hlen⟩
    clear hge hblk hnc hcm hlen HG HOW HB0
    go_loopw [9] (fun i wr => ∃ (k : Nat) (qs : List (ActT × Value)), k ≤ N ∧ i = .int .i64 (k : Int) ∧ CpI w g ps qs k tail wr) (fun i _ => N - (intOf i).toNat)
    case atStart => exact ⟨0, [], Nat.zero_le _, rfl, HI0.out⟩
    case round =>
      clear HI0
      obtain ⟨k, qs, hkn, rfl, hI⟩ := hrel
      have HI : Hid (CpI w g ps qs k tail wr) := hI
      by_cases hlt : k < N
      · obtain ⟨p, hp⟩ : ∃ p, ps[k]? = some p := ⟨_, List.getElem?_eq_getElem (by rw [← HN.out]; exact hlt)⟩
        have hdr : ps.drop k = p :: ps.drop (k + 1) := by
          rw [List.drop_eq_getElem_cons (by rw [← HN.out]; exact hlt)]
          congr 1
          rw [List.getElem?_eq_getElem (by rw [← HN.out]; exact hlt)] at hp
          simpa using hp
        obtain ⟨hrd, hbd⟩ := HD.out p (List.mem_of_getElem? hp)
        have hbr := hI.blk
        rw [hdr, rowP_app] at hbr
        obtain ⟨av, nv, cv, hvd⟩ := isSl_form (HSL.out p (List.mem_of_getElem? hp))
        obtain ⟨⟨ky, st, da⟩, vd⟩ := p
        simp only at hvd
        subst hvd
        have hq3 : (rowP qs).length = k * 3 := by rw [rowP_len, hI.len]
        have d2 : wr.cell? ⟨g, k * 3 + 2, none⟩ = some (.slice av nv cv) := by
          rw [hbr.cell, List.append_assoc, List.getElem?_append_right (by omega), hq3, show k * 3 + 2 - k * 3 = 2 by omega]
          rfl
        have HBC : Hid (Calls Tryz.prog 64 #[.slice av nv cv] wr fun e w' => ∃ v', e = .returned v' ∧ OwnB w' wr.heap.size v' da ∧ Below wr.heap.size wr w') := bclone_any _ _ _ (hrd.below hI.bel) hbd
        have HNX : Hid (∀ y z a n c, z = .slice a n c → OwnB y wr.heap.size z da → Below wr.heap.size wr y → Blk y g (rowP qs ++ (actC ⟨ky, st, da⟩ (.slice av nv cv) ++ rowP (ps.drop (k + 1))) ++ tail) 62 ∧ CpI w g ps (qs ++ [(⟨ky, st, da⟩, z)]) (k + 1) tail (y.setCell ⟨g, k * 3 + 2, none⟩ z)) := by
          intro y z a n c hz2 ow bl
          have hby : Blk y g (rowP qs ++ (actC ⟨ky, st, da⟩ (.slice av nv cv) ++ rowP (ps.drop (k + 1))) ++ tail) 62 := hbr.below bl hbr.lt
          have on := Only.setCell (Only.refl g y) (k * 3 + 2) z
          refine ⟨hby, ⟨?_, by rw [List.length_append, hI.len]; rfl, ?_, ?_, ?_⟩⟩
          · have h7 := hby.set (k * 3 + 2) z
            have e7 : (rowP qs ++ (actC ⟨ky, st, da⟩ (.slice av nv cv) ++ rowP (ps.drop (k + 1))) ++ tail).set (k * 3 + 2) z = rowP (qs ++ [(⟨ky, st, da⟩, z)] ++ ps.drop (k + 1)) ++ tail := by
              rw [rowP_app, rowP_snoc, List.append_assoc, List.append_assoc, List.append_assoc, List.set_append_right _ _ (by omega), hq3, show k * 3 + 2 - k * 3 = 2 by omega, List.append_assoc]
              rfl
            rw [e7] at h7
            exact h7
          · rw [List.map_append, hI.fst, List.take_add_one, hp, List.map_append]; rfl
          · intro q hq
            rcases List.mem_append.1 hq with hq | hq
            · have h8 := hI.dat q hq
              exact (h8.below bl (Nat.le_refl _)).onlyA hby on
            · simp at hq
              rw [hq]
              have h8 : OwnB y w.heap.size z da := by
                obtain ⟨g1, ⟨e9, g2⟩ | ⟨gg, cap, cur, e9, hg9, r9⟩⟩ := ow
                · exact ⟨g1, Or.inl ⟨e9, g2⟩⟩
                · exact ⟨g1, Or.inr ⟨gg, cap, cur, e9, Nat.le_trans hI.bel.size hg9, r9⟩⟩
              exact h8.onlyA hby on
          · exact (hI.bel.trans (bl.mono hI.bel.size)).trans (on.below HGE.out (Nat.le_trans hI.bel.size bl.size))
        have k0 : (0 : Int) ≤ (k : Int) := by omega
        have k3 : (k : Int) < (N : Int) := by omega
        have f5 : IntKind.i64.wrap ((k : Int) + 1) = (k : Int) + 1 := by have := HNL.out; rw [IntKind.wrap_i64]; omega
        clear hI hp hdr hrd hbd hbr hq3
        have tk1 : Hid True := trivial
        have tk2 : Hid True := trivial
        have tk3 : Hid True := trivial
        go_wp2_with (first
          | (clear tk1; with_reducible refine wpSeq_idxA (.tmp 14) (.tmp 15) g 0 N cp k hlt ?_ ?_ ?_ ?_ ?_
             · rfl
             · rfl
             · rfl
             · rfl
             rw [Nat.zero_add])
          | (clear tk2; go_at_call 64; refine (HBC.out).mono ?_; rintro e4 y4 ⟨v4, rfl, ow4, bl4⟩
             obtain ⟨a4, c4, hv4⟩ : ∃ a c, v4 = .slice a da.length c := by obtain ⟨a, c, h, _⟩ := ow4.reads; exact ⟨a, c, h⟩
             obtain ⟨n4, HN4⟩ : ∃ x, Hid (x = da.length) := ⟨_, rfl⟩
             rw [← HN4.out] at hv4
             obtain ⟨hb4, hi4⟩ := HNX.out y4 v4 a4 n4 c4 hv4 ow4 bl4
             subst hv4
             have HI4 : Hid (CpI w g ps (qs ++ [(⟨ky, st, da⟩, .slice a4 n4 c4)]) (k + 1) tail (y4.setCell ⟨g, k * 3 + 2, none⟩ (.slice a4 n4 c4))) := hi4
             have hf4 := hb4.frozen (k * 3 + 2)
             have hc4 : y4.cell? ⟨g, k * 3 + 2, none⟩ = some (.slice av nv cv) := by
               have h9 := d2
               rw [← bl4.cell (p := ⟨g, k * 3 + 2, none⟩) (block_lt_of_cell h9)] at h9
               exact h9
             clear ow4 bl4 hb4 hi4)
          | (clear tk3; with_reducible refine wpSeq_idxA (.tmp 12) (.tmp 13) g 0 N cp k hlt ?_ ?_ ?_ ?_ ?_
             · rfl
             · rfl
             · rfl
             · rfl
             rw [Nat.zero_add]))
        go_roundw
        case rel => exact ⟨k + 1, _, hlt, rfl, HI4.out⟩
        case measure => simp [intOf]; omega
      · have hkk : k = N := by omega
        subst hkk
        have HF : Hid (OwnA wr w.heap.size (.slice (some ⟨g, 0, none⟩) k cp) qs ∧ qs.map (·.1) = ps.map (·.1) ∧ Below w.heap.size w wr) := by
          have hb := hI.blk
          rw [List.drop_eq_nil_of_le (by rw [← HN.out]; exact Nat.le_refl _), List.append_nil] at hb
          have hql : qs.length = k := hI.len
          have hrl : (rowP qs).length = (rowP ps).length := by rw [rowP_len, rowP_len, hql, HN.out]
          refine ⟨⟨⟨rowP_len qs, Or.inr ⟨g, cp, (rowP qs ++ tail).toArray, by rw [hql], HGE.out, hb, by rw [hql]; exact HCP.out.1, HCP.out.2.1, ?_, ?_⟩⟩, hI.dat⟩, ?_, hI.bel⟩
          · have h9 := HCP.out.2.2
            rw [List.size_toArray, List.length_append, hrl, ← List.length_append]
            exact h9
          · rw [List.toList_toArray, ← rowP_len, List.take_left]
          · rw [hI.fst, List.take_of_length_le (by rw [← HN.out]; exact Nat.le_refl _)]
        clear hI
        go_wp2
        go_ret
        exact ⟨_, rfl, qs, HF.out.1, HF.out.2.1, HF.out.2.2⟩
end Go.Proofs.YtopmeedmgjdcgaaGreatDoor
/- The store in memory: Get, Len, load and Open of a disk without records (layer 15). -/
namespace Go.Proofs.YtopmeedmgjdcgaaGreatDoor
open Go.RowKit
set_option maxRecDepth 100000
def Um (P Q : Nat → Prop) (g : Nat) : Nat → Prop := fun k => Un P Q k ∨ k = g
theorem DkIs.belowS {w w' : World} {g : Nat} {P : Nat → Prop} {D : DkT} (h : DkIs w g P D) (hb : Below w.heap.size w w') : DkIs w' g P D := by
  obtain ⟨gs, vw, fu, lf, hm, hP⟩ := h
  exact ⟨gs, vw, fu, lf, hm.below hb, hP⟩
/-- the store m at block gs: its log, its map, the texts under its keys -/
structure StM (w : World) (gs gd lg gm n : Nat) (P Q : Nat → Prop) (V : Bs → Value) (m : KM) (D : DkT) (J : JnT) : Prop where
  sb : Blk w gs [.pointer (some ⟨lg, 0, none⟩), .map (some gm)] 99
  pk : Pk LgJ w gd lg P Q D J
  mp : MapM w gm n V m
  tx : ∀ s t, getM m s = some t → Sta (Um P Q gm) w (fun W => Reads W (V s) t) ∧ t.length ≤ 1048576
  ns : ¬ Un P Q gs
  nm : ¬ Un P Q gm
set_option maxRecDepth 100000 in
set_option maxHeartbeats 2000000 in
theorem sGet_any {w : World} {gs gm n : Nat} {lv : Value} {V : Bs → Value} {m : KM} (hsb : Blk w gs [lv, .map (some gm)] 99) (hm : MapM w gm n V m) (htx : ∀ s t, getM m s = some t → Reads w (V s) t ∧ t.length ≤ 1048576) (s : Bs) (hs : s.length ≤ 1000000) :
    Calls Tryz.prog 32 #[.pointer (some ⟨gs, 0, none⟩), .string (strB s)] w fun e w' => ∃ v', e = .returned (.tuple #[v', .bool (getM m s).isSome]) ∧ OwnB w' w.heap.size v' ((getM m s).getD []) ∧ Below w.heap.size w w' := by
  have c1 : w.cell? ⟨gs, 1, none⟩ = some (.map (some gm)) := hsb.cell 1
  have hk := hm.look hs
  obtain ⟨sk, HSK⟩ : ∃ x, Hid (x = strB s) := ⟨_, rfl⟩
  rw [← HSK.out] at hk ⊢
  cases e : getM m s with
  | none =>
    rw [e] at hk
    simp only [Option.isSome_none, Bool.false_eq_true, if_false] at hk
    have HBC : Hid (Calls Tryz.prog 64 #[.slice none 0 0] w fun e w' => ∃ v', e = .returned v' ∧ OwnB w' w.heap.size v' [] ∧ Below w.heap.size w w') := bclone_any _ [] w (reads_nil13 w) (by decide)
    clear hsb hm htx e hs
    go_enter Tryz.func32, Tryz.ntmps32
    go_wp2_with (first
      | (go_at_call 64; refine (HBC.out).mono ?_; rintro e4 y4 ⟨v4, rfl, ow4, bl4⟩
         have HO : Hid (OwnB y4 w.heap.size v4 [] ∧ Below w.heap.size w y4) := ⟨ow4, bl4⟩
         clear ow4 bl4))
    refine bodyPost_ret (results_tmp2 rfl _ _ _) rfl ?_
    exact ⟨v4, rfl, HO.out.1, HO.out.2⟩
  | some t =>
    rw [e] at hk
    simp only [Option.isSome_some, if_true] at hk
    obtain ⟨hrd, hle⟩ := htx s t e
    obtain ⟨av, nv, cv, hvs⟩ := isSl_form (hm.sl s (by rw [e]; rfl))
    have HBC : Hid (Calls Tryz.prog 64 #[.slice av nv cv] w fun e w' => ∃ v', e = .returned v' ∧ OwnB w' w.heap.size v' t ∧ Below w.heap.size w w') := by rw [← hvs]; exact bclone_any _ t w hrd (Nat.le_trans hle (by decide))
    rw [hvs] at hk
    clear hsb hm htx e hs hrd hle hvs
    go_enter Tryz.func32, Tryz.ntmps32
    go_wp2_with (first
      | (go_at_call 64; refine (HBC.out).mono ?_; rintro e4 y4 ⟨v4, rfl, ow4, bl4⟩
         have HO : Hid (OwnB y4 w.heap.size v4 t ∧ Below w.heap.size w y4) := ⟨ow4, bl4⟩
         clear ow4 bl4))
    refine bodyPost_ret (results_tmp2 rfl _ _ _) rfl ?_
    exact ⟨v4, rfl, HO.out.1, HO.out.2⟩
set_option maxRecDepth 100000 in
set_option maxHeartbeats 2000000 in
theorem sLen_any {w : World} {gs gm n : Nat} {lv : Value} {V : Bs → Value} {m : KM} (hsb : Blk w gs [lv, .map (some gm)] 99) (hm : MapM w gm n V m) : Calls Tryz.prog 36 #[.pointer (some ⟨gs, 0, none⟩)] w fun e w' => e = .returned (.int .i64 (m.length : Int)) ∧ w' = w := by
  have c1 : w.cell? ⟨gs, 1, none⟩ = some (.map (some gm)) := hsb.cell 1
  have hk := fun ty => hm.len ty
  clear hsb hm
  go_enter Tryz.func36, Tryz.ntmps36
  go_wp2
  go_ret
  exact ⟨rfl, rfl⟩
theorem wpSeq_mkMap {ops : Array Oper} {Q : Exit → Act → World → Prop} {rest : List Oper} {o : Oper} {a : Act} {w : World} (V : Bs → Value) (ho : o.op = .makeMap 97 none) (hw : Region.wanted o (yielded ops a.tmps) = true)
    (h : ∀ gm w', w.heap.size ≤ gm → MapM w' gm 0 V [] → Below w.heap.size w w' → wpList Tryz.prog ops Q rest (a.put o.dst (.map (some gm))) w') : wpList Tryz.prog ops Q (o :: rest) a w := by
  refine wpSeq_val _ _ hw ?_ (h _ _ (Nat.le_refl _) (mapM_new w V) (below_alloc _ _))
  unfold execOp
  rw [ho]
  rfl
def nilV : Bs → Value := fun _ => .slice none 0 0
set_option maxRecDepth 100000 in
set_option maxHeartbeats 2000000 in
theorem sLoad_empty {w : World} {gd : Nat} {P : Nat → Prop} {D : DkT} (hK : KOk w) (hd : DkIs w gd P D) (hw : D.wait.length ≤ 200) (hl : (dumpD D).length < 8000000) (h0 : rdL14 (dumpD D) = []) :
    Calls Tryz.prog 61 #[.pointer (some ⟨gd, 0, none⟩)] w fun e w' => ∃ gm, e = .returned (.tuple #[.map (some gm), .bool true]) ∧ MapM w' gm 0 nilV [] ∧ Below w.heap.size w w' ∧ w.heap.size ≤ gm := by
  have HD : Hid (DkIs w gd P D ∧ D.wait.length ≤ 200 ∧ (dumpD D).length < 8000000 ∧ rdL14 (dumpD D) = [] ∧ KOk w) := ⟨hd, hw, hl, h0, hK⟩
  clear hd hw hl h0 hK
  obtain ⟨gn, HGN⟩ : ∃ x, Hid (x = (rdG14 (dumpD D) : Int)) := ⟨_, rfl⟩
  obtain ⟨xn, HXN⟩ : ∃ x, Hid (x = rdX14 (dumpD D)) := ⟨_, rfl⟩
  go_enter Tryz.func61, Tryz.ntmps61
  have tk0 : Hid True := trivial
  have tk1 : Hid True := trivial
  have tk2 : Hid True := trivial
  go_wp2_with (first
    | (clear tk0; with_reducible refine wpSeq_mkMap nilV ?_ ?_ ?_
       · rfl
       · rfl
       intro gm y0 hg0 hm0 bl0
       have HM : Hid (MapM y0 gm 0 nilV []) := hm0
       have HB : Hid (Below w.heap.size w y0 ∧ w.heap.size ≤ gm) := ⟨bl0, hg0⟩
       clear hg0 hm0 bl0)
    | (clear tk1; go_at_call 25; refine (dkDump_b (HD.out.1.belowS HB.out.1) HD.out.2.1).mono ?_; rintro e1 y1 ⟨vd, rfl, hr1, bl1⟩
       have HR1 : Hid (Reads y1 vd (dumpD D)) := hr1
       replace HM : Hid (MapM y1 gm 0 nilV []) := HM.out.same (bl1.block gm HM.out.lt)
       replace HB : Hid (Below w.heap.size w y1 ∧ w.heap.size ≤ gm) := ⟨HB.out.1.trans (bl1.mono HB.out.1.size), HB.out.2⟩
       clear hr1 bl1)
    | (clear tk2; go_at_call 86; refine (jRead_any vd (dumpD D) HD.out.2.2.1 y1 (HD.out.2.2.2.2.below HB.out.1 HD.out.2.2.2.2.lt) HR1.out).mono ?_; rintro e2 y2 ⟨lv, rfl, hl2, bl2⟩
       rw [HD.out.2.2.2.1] at hl2
       obtain ⟨al, cl, hlv⟩ : ∃ a c, lv = .slice a 0 c := by obtain ⟨a, c, h, _⟩ := hl2; exact ⟨a, c, h⟩
       subst hlv
       rw [← HGN.out, ← HXN.out]
       replace HM : Hid (MapM y2 gm 0 nilV []) := HM.out.same (bl2.block gm HM.out.lt)
       replace HB : Hid (Below w.heap.size w y2 ∧ w.heap.size ≤ gm) := ⟨HB.out.1.trans (bl2.mono HB.out.1.size), HB.out.2⟩
       clear hl2 bl2 HR1))
  go_loopw [25] (fun i wr => i = .int .i64 0 ∧ wr = y2) (fun _ _ => 0)
  case atStart => exact ⟨rfl, rfl⟩
  case round =>
    obtain ⟨rfl, rfl⟩ := hrel
    go_wp2
    refine bodyPost_ret (results_tmp2 rfl _ _ _) rfl ?_
    exact ⟨gm, rfl, HM.out, HB.out.1, HB.out.2⟩
end Go.Proofs.YtopmeedmgjdcgaaGreatDoor
/- The store opened anew; a batch that fits into the journal (layer 15). -/
namespace Go.Proofs.YtopmeedmgjdcgaaGreatDoor
open Go.RowKit
set_option maxRecDepth 100000
theorem dump_zero (m : Nat) : dumpD (zeroD m) = List.replicate (64 * m) 0 := by rw [zeroD_load]; exact dump_idle _
theorem rdl_zero (m : Nat) : rdL14 (dumpD (zeroD m)) = [] := by
  unfold rdL14
  split
  · unfold readJ
    rw [dump_zero, pick_zero]
    rfl
  · rfl
theorem DkIs.ltS {w : World} {g : Nat} {P : Nat → Prop} {D : DkT} (h : DkIs w g P D) : ∀ k, P k → k < w.heap.size := by
  obtain ⟨gs, vw, fu, lf, hm, hP⟩ := h
  subst hP
  exact hm.lt
theorem LgJ.ltS {w : World} {lg gd n : Nat} {Q : Nat → Prop} {J : JnT} (h : LgJ w lg Q gd n J) : ∀ k, Q k → k < w.heap.size := by
  obtain ⟨vr, us, hm, hQ⟩ := h
  subst hQ
  exact hm.lt
theorem LgJ.sameS {w w' : World} {lg gd n : Nat} {Q : Nat → Prop} {J : JnT} (h : LgJ w lg Q gd n J) (hs : w.heap.size ≤ w'.heap.size) (hq : ∀ k, Q k → w'.heap[k]? = w.heap[k]?) : LgJ w' lg Q gd n J := by
  obtain ⟨vr, us, hm, hQ⟩ := h
  subst hQ
  exact ⟨vr, us, hm.same hs hq, rfl⟩
theorem Pk.belowS {w w' : World} {gd lg : Nat} {P Q : Nat → Prop} {D : DkT} {J : JnT} (h : Pk LgJ w gd lg P Q D J) (hb : Below w.heap.size w w') : Pk LgJ w' gd lg P Q D J := ⟨h.dk.belowS hb, h.lg.sameS hb.size (fun k hk => hb.block k (h.lg.ltS k hk)), h.ap⟩
theorem StM.below {w w' : World} {gs gd lg gm n : Nat} {P Q : Nat → Prop} {V : Bs → Value} {m : KM} {D : DkT} {J : JnT} (h : StM w gs gd lg gm n P Q V m D J) (hb : Below w.heap.size w w') : StM w' gs gd lg gm n P Q V m D J :=
  ⟨h.sb.below hb h.sb.lt, h.pk.belowS hb, h.mp.same (hb.block gm h.mp.lt), fun s t ht => ⟨(h.tx s t ht).1.below hb, (h.tx s t ht).2⟩, h.ns, h.nm⟩
set_option maxRecDepth 100000 in
set_option maxHeartbeats 2000000 in
theorem sOpen_zero {w : World} {gd : Nat} {P : Nat → Prop} (m : Nat) (hK : KOk w) (hd : DkIs w gd P (zeroD m)) (h8 : 8 ≤ m) (h9 : m ≤ 100) :
    Calls Tryz.prog 28 #[.pointer (some ⟨gd, 0, none⟩)] w fun e w' => ∃ gs lg gm P' Q, e = .returned (.tuple #[.pointer (some ⟨gs, 0, none⟩), .int .i64 0]) ∧ StM w' gs gd lg gm 0 P' Q nilV [] (openD (zeroD m)) ⟨0, 1, []⟩ ∧ Mut P w w' ∧ Grew w P P' ∧ (∀ k, Q k → w.heap.size ≤ k) ∧ w.heap.size ≤ gs ∧ w.heap.size ≤ gm := by
  obtain ⟨z1, z2, z3, z4⟩ := open_zero h8 (Nat.le_trans h9 (by decide))
  have HLD : Hid (Calls Tryz.prog 61 #[.pointer (some ⟨gd, 0, none⟩)] w fun e w' => ∃ gm, e = .returned (.tuple #[.map (some gm), .bool true]) ∧ MapM w' gm 0 nilV [] ∧ Below w.heap.size w w' ∧ w.heap.size ≤ gm) := sLoad_empty hK hd (Nat.zero_le _) (by rw [dump_zero, List.length_replicate]; omega) (rdl_zero m)
  have HOP : Hid (∀ W, KOk W → DkIs W gd P (zeroD m) → Calls Tryz.prog 63 #[.pointer (some ⟨gd, 0, none⟩)] W fun e w' => ∃ P' lg Q, e = .returned (.tuple #[.pointer (some ⟨lg, 0, none⟩), .int .i64 0]) ∧ Pk LgJ w' gd lg P' Q (openD (zeroD m)) ⟨0, 1, []⟩ ∧ Mut P W w' ∧ Grew W P P' ∧ ∀ k, Q k → W.heap.size ≤ k) := fun W hk hd2 => by
    have hn8 : ¬ sizeD (zeroD m) < 8 := by rw [size_zero]; omega
    have hg := openG_eq (D := zeroD m) (by rw [dump_zero, pick_zero]; decide)
    have hok : okD (zeroD m) := okD_zero (by omega) (by omega)
    refine (jOpen_any hk hd2 rfl (by rw [size_zero]; omega) (by rw [size_zero]; omega)).mono (fun e w' h => ?_)
    obtain ⟨P', lv, h1, h2⟩ := h
    rw [hg] at h1 h2
    have ex : (runJ (zeroD m) (openS (zeroD m)).1).2 = 0 := by have := z1; rw [show openX (zeroD m) = (runJ (zeroD m) (openS (zeroD m)).1).2 from if_neg hn8] at this; exact this
    have ed : (runJ (zeroD m) (openS (zeroD m)).1).1 = openD (zeroD m) := (if_neg hn8).symm
    obtain ⟨lg, Q, e1, e2, e3⟩ := h2.lg ex
    rw [ex, e1] at h1
    have h3 := h2.dk
    rw [ed] at h3
    rw [z2] at e2
    have e4 : LgJ w' lg Q gd (sizeD (openD (zeroD m))) ⟨0, 1, []⟩ := by rw [z4, ← size_zero m]; exact e2
    exact ⟨P', lg, Q, h1, ⟨h3, e4, fun k hk => (e3 k hk).2⟩, h2.mv, h2.gr, fun k hk => (e3 k hk).1⟩
  have HD : Hid (DkIs w gd P (zeroD m) ∧ KOk w) := ⟨hd, hK⟩
  clear hd hK z1 z2 z3 z4 h8 h9
  go_enter Tryz.func28, Tryz.ntmps28
  have tk0 : Hid True := trivial
  have tk1 : Hid True := trivial
  have tk2 : Hid True := trivial
  go_wp2_with (first
    | (clear tk0; go_at_call 61; refine (HLD.out).mono ?_; rintro e0 y0 ⟨gm, rfl, hm0, bl0, hg0⟩
       have HM : Hid (MapM y0 gm 0 nilV [] ∧ Below w.heap.size w y0 ∧ w.heap.size ≤ gm) := ⟨hm0, bl0, hg0⟩
       clear hm0 bl0 hg0)
    | (clear tk1; go_at_call 63; refine (HOP.out y0 (HD.out.2.below HM.out.2.1 HD.out.2.lt) (HD.out.1.belowS HM.out.2.1)).mono ?_; rintro e1 y1 ⟨P1, lg, Q, rfl, hpk, mu1, gr1, hq1⟩
       have HPK : Hid (Pk LgJ y1 gd lg P1 Q (openD (zeroD m)) ⟨0, 1, []⟩) := hpk
       have HNP : Hid (¬ P gm) := fun h => absurd (HD.out.1.ltS gm h) (by have := HM.out.2.2; omega)
       have HM1 : Hid (MapM y1 gm 0 nilV []) := HM.out.1.same (mu1.block gm HM.out.1.lt HNP.out)
       have HMU : Hid (Mut P w y1 ∧ Grew w P P1 ∧ ∀ k, Q k → y0.heap.size ≤ k) := ⟨(mut_below HM.out.2.1 P).trans (fun _ _ h => h) mu1, (Grew.refl w P).trans HM.out.2.1.size gr1, hq1⟩
       have HNU : Hid (¬ Un P1 Q gm) := fun h => by
         rcases h with h | h
         · rcases gr1 gm h with h2 | h2
           · exact HNP.out h2
           · exact absurd HM.out.1.lt (by omega)
         · exact absurd HM.out.1.lt (by have := hq1 gm h; omega)
       clear hpk mu1 gr1 hq1)
    | (clear tk2; with_reducible refine wpSeq_boxW 99 (.tmp 33) [.pointer (some ⟨lg, 0, none⟩), .map (some gm)] ?_ ?_ ?_ ?_
       · rfl
       · rfl
       · rfl
       intro gs y2 nn
       have HF : Hid (StM y2 gs gd lg gm 0 P1 Q nilV [] (openD (zeroD m)) ⟨0, 1, []⟩) := ⟨nn.blk, HPK.out.belowS nn.below, HM1.out.same (nn.below.block gm HM1.out.lt), fun s t h => (by cases h), fun h => by
         rcases h with h | h
         · exact absurd (HPK.out.dk.ltS gs h) (by have := nn.ge; omega)
         · exact absurd (HPK.out.lg.ltS gs h) (by have := nn.ge; omega), HNU.out⟩
       have HMU2 : Hid (Mut P w y2 ∧ w.heap.size ≤ gs) := ⟨HMU.out.1.trans (fun _ _ h => h) (mut_below nn.below P), Nat.le_trans HMU.out.1.size nn.ge⟩
       clear nn))
  refine bodyPost_ret (results_tmp2 rfl _ _ _) rfl ?_
  exact ⟨gs, lg, gm, P1, Q, rfl, HF.out, HMU2.out.1, HMU.out.2.1, fun k hk => Nat.le_trans HM.out.2.1.size (HMU.out.2.2 k hk), HMU2.out.2, HM.out.2.2⟩
end Go.Proofs.YtopmeedmgjdcgaaGreatDoor
/- The store: a batch that fits is put into the journal and done (layer 15). -/
namespace Go.Proofs.YtopmeedmgjdcgaaGreatDoor
open Go.RowKit
set_option maxRecDepth 100000
theorem StM.lt {w : World} {gs gd lg gm n : Nat} {P Q : Nat → Prop} {V : Bs → Value} {m : KM} {D : DkT} {J : JnT} (h : StM w gs gd lg gm n P Q V m D J) : ∀ k, Un P Q k → k < w.heap.size := fun k hk => hk.elim (h.pk.dk.ltS k) (h.pk.lg.ltS k)
theorem StM.ltM {w : World} {gs gd lg gm n : Nat} {P Q : Nat → Prop} {V : Bs → Value} {m : KM} {D : DkT} {J : JnT} (h : StM w gs gd lg gm n P Q V m D J) : ∀ k, Um P Q gm k → k < w.heap.size := fun k hk => hk.elim (h.lt k) (fun e => by rw [e]; exact h.mp.lt)
theorem StM.moved {w w' : World} {gs gd lg gm n : Nat} {P Q P' Q' : Nat → Prop} {V : Bs → Value} {m : KM} {D D' : DkT} {J J' : JnT} (h : StM w gs gd lg gm n P Q V m D J) (hm : Mut (Un P Q) w w') (hg : Grew w (Un P Q) (Un P' Q')) (hp : Pk LgJ w' gd lg P' Q' D' J') : StM w' gs gd lg gm n P' Q' V m D' J' :=
  ⟨hm.blk h.sb h.ns, hp, h.mp.same (hm.block gm h.mp.lt h.nm), fun s t ht => ⟨(h.tx s t ht).1.go ⟨hm.os, hm.tape, hm.output, hm.size, fun k hk hn => hm.block k hk (fun hx => hn (Or.inl hx))⟩ (fun k hk hx => hx.elim (fun hx => Or.inl (hg.old k hk hx)) Or.inr), (h.tx s t ht).2⟩, fun hx => h.ns (hg.old gs h.sb.lt hx), fun hx => h.nm (hg.old gm h.mp.lt hx)⟩
set_option maxRecDepth 100000 in
set_option maxHeartbeats 2000000 in
theorem sRecord_fit {w : World} {gs gd lg gm n : Nat} {P Q : Nat → Prop} {V : Bs → Value} {m : KM} {D : DkT} {J : JnT} (h : StM w gs gd lg gm n P Q V m D J) (hK : KOk w) (hok : okJ D J) (v : Value) (l : List ActT) (hr : ReadsA w v l) (hz : okZ l) (hf : (batchB l).length ≤ roomZ J.l (sizeD D)) :
    Calls Tryz.prog 53 #[.pointer (some ⟨gs, 0, none⟩), v] w fun e w' => e = .returned (.int .i64 (appX J D (batchB l))) ∧ ∃ P' Q', Mut (Un P Q) w w' ∧ Grew w (Un P Q) (Un P' Q') ∧ (appX J D (batchB l) ≠ 14 → StM w' gs gd lg gm n P' Q' V m (appD J D (batchB l)) (appJ J D (batchB l))) := by
  obtain ⟨nr, HNR⟩ : ∃ x, Hid (x = roomZ J.l (sizeD D)) := ⟨_, rfl⟩
  rw [← HNR.out] at hf
  have h4 : Calls Tryz.prog 78 #[.pointer (some ⟨lg, 0, none⟩)] w fun e w' => e = .returned (.int .i64 (nr : Int)) ∧ Below w.heap.size w w' := by
    obtain ⟨vr, us, hm, hQ⟩ := id h.pk.lg
    have h1 := hok.fit
    have h2 := hok.hi
    have h3 := sizeL_eq J.l
    unfold hsD at h1
    have h4 := jRoom_any hm.lb (by omega) (by omega)
    rw [show min 1048576 (64 * (sizeD D / 2 - (1 + secL J.l)) - 57) = nr from by rw [HNR.out, roomZ]; omega] at h4
    exact h4
  have HRM : Hid (Calls Tryz.prog 78 #[.pointer (some ⟨lg, 0, none⟩)] w fun e w' => e = .returned (.int .i64 (nr : Int)) ∧ Below w.heap.size w w') := h4
  have hxl : (batchB l).length ≤ 100000 := by
    have h2 := hok.hi
    have h3 := HNR.out
    rw [roomZ] at h3
    omega
  obtain ⟨x, HX⟩ : ∃ x, Hid (x = batchB l) := ⟨_, rfl⟩
  have HWI : Hid (∀ W, ReadsA W v l → Calls Tryz.prog 46 #[v, .int .i64 (nr : Int)] W fun e w' => ∃ vb, e = .returned (.tuple #[vb, .bool true]) ∧ OwnB w' W.heap.size vb x ∧ Below W.heap.size W w') := fun W hr => by
    refine (sWithin_any v l (nr : Int) W hr hz).mono (fun e w' h => ?_)
    obtain ⟨vb, e1, e2, e3⟩ := h
    have hle : ((batchB l).length : Int) ≤ (nr : Int) := by omega
    rw [decide_eq_true hle] at e1
    rw [HX.out]
    exact ⟨vb, e1, e2 hle, e3⟩
  rw [← HX.out] at hxl ⊢
  obtain ⟨ex, HEX⟩ : ∃ e, Hid (e = appX J D x) := ⟨_, rfl⟩
  have HAP : Hid (∀ W vb, StM W gs gd lg gm n P Q V m D J → KOk W → Sta (Un P Q) W (fun X => Reads X vb x) → Calls Tryz.prog 79 #[.pointer (some ⟨lg, 0, none⟩), vb] W fun e w' => e = .returned (.int .i64 ex) ∧ ∃ P' Q', Mut (Un P Q) W w' ∧ Grew W (Un P Q) (Un P' Q') ∧ (ex ≠ 14 → StM w' gs gd lg gm n P' Q' V m (appD J D x) (appJ J D x))) := fun W vb hs hk hb => by
    refine (jAppend_any vb x hk hs.pk hok hxl hb).mono (fun e w' h => ?_)
    obtain ⟨h1, P', Q', h2, h3, h4, h5⟩ := h
    rw [← HEX.out] at h1 h5
    exact ⟨h1, P', Q', h3, h4, fun he => hs.moved h3 h4 (h5 he)⟩
  rw [← HEX.out]
  have HS : Hid (StM w gs gd lg gm n P Q V m D J) := h
  have HR : Hid (ReadsA w v l ∧ KOk w) := ⟨hr, hK⟩
  have c0 : w.cell? ⟨gs, 0, none⟩ = some (.pointer (some ⟨lg, 0, none⟩)) := h.sb.cell 0
  clear h hK hok hr hz hf h4 hxl
  go_enter Tryz.func53, Tryz.ntmps53
  have tk0 : Hid True := trivial
  have tk1 : Hid True := trivial
  have tk2 : Hid True := trivial
  go_wp2_with (first
    | (clear tk0; go_at_call 78; refine (HRM.out).mono ?_; rintro e0 y0 ⟨rfl, bl0⟩
       have HS0 : Hid (StM y0 gs gd lg gm n P Q V m D J) := HS.out.below bl0
       have HB0 : Hid (Below w.heap.size w y0) := bl0
       clear bl0)
    | (clear tk1; go_at_call 46; refine (HWI.out y0 (HR.out.1.below HB0.out)).mono ?_; rintro e1 y1 ⟨vb, rfl, ow1, bl1⟩
       have HST : Hid (Sta (Un P Q) y1 (fun X => Reads X vb x)) := ow1.st (fun k hk => HS0.out.lt k hk)
       have HS1 : Hid (StM y1 gs gd lg gm n P Q V m D J) := HS0.out.below bl1
       have HB1 : Hid (Below w.heap.size w y1) := HB0.out.trans (bl1.mono HB0.out.size)
       have c1 : y1.cell? ⟨gs, 0, none⟩ = some (.pointer (some ⟨lg, 0, none⟩)) := HS1.out.sb.cell 0
       clear ow1 bl1)
    | (clear tk2; go_at_call 79; refine (HAP.out y1 vb HS1.out (HR.out.2.below HB1.out HR.out.2.lt) HST.out).mono ?_; rintro e2 y2 ⟨rfl, P', Q', mu, gr, hs2⟩
       have HF : Hid (Mut (Un P Q) w y2 ∧ Grew w (Un P Q) (Un P' Q') ∧ (ex ≠ 14 → StM y2 gs gd lg gm n P' Q' V m (appD J D x) (appJ J D x))) := ⟨(mut_below HB1.out _).trans (fun _ _ h => h) mu, fun k hk => (gr k hk).elim Or.inl (fun h => Or.inr (Nat.le_trans HB1.out.size h)), hs2⟩
       clear mu gr hs2))
  go_ret
  exact ⟨rfl, P', Q', HF.out⟩
theorem OwnA.rdp {W : World} {base : Nat} {v : Value} {ps : List (ActT × Value)} (h : OwnA W base v ps) : RdP W v ps := by
  obtain ⟨h1, h2⟩ := id h.row
  rcases h2 with ⟨rfl, h0⟩ | ⟨g, cap, cur, rfl, hg, hh, hc, hm, hs, ht⟩
  · exact ⟨none, 0, by rw [h0], fun h => absurd h (by omega)⟩
  · refine ⟨_, cap, rfl, fun _ => ⟨g, 0, rfl, fun j p hp i u hu => ?_⟩⟩
    have hr := rowP_at ps j i p u hp hu
    have hi : j * 3 + i < (rowP ps).length := (List.getElem?_eq_some_iff.1 hr).1
    rw [rowP_len] at hi
    rw [cell_of_row W g (0 + j * 3 + i) cur _ (0, 0) hh, Nat.zero_add]
    rw [← ht, List.getElem?_take_of_lt hi] at hr
    simpa using hr
theorem RdP.below {w w' : World} {v : Value} {ps : List (ActT × Value)} (h : RdP w v ps) (hb : Below w.heap.size w w') : RdP w' v ps := by
  obtain ⟨ad, cap, h1, h2⟩ := h
  refine ⟨ad, cap, h1, fun hp => ?_⟩
  obtain ⟨b, off, h3, h4⟩ := h2 hp
  exact ⟨b, off, h3, fun j p hj => range_below (h4 j p hj) hb (block_lt_of_cell (h4 j p hj 0 _ rfl))⟩
/-- the store behind a batch that was done to its map -/
theorem StM.done {w w' : World} {gs gd lg gm n n' : Nat} {P Q : Nat → Prop} {V V' : Bs → Value} {m m' : KM} {D : DkT} {J : JnT} (h : StM w gs gd lg gm n P Q V m D J) (hd : DoS w gm n' (fun v t => Sta (Um P Q gm) w (fun W => Reads W v t) ∧ t.length ≤ 1048576) m' V' w') : StM w' gs gd lg gm n' P Q V' m' D J := by
  have hne : ¬ gs = gm := fun e => h.mp.ne h.sb e.symm
  refine ⟨hd.mu.blk h.sb hne, ⟨h.pk.dk.same14 (fun k hk => hd.mu.block k (h.pk.dk.ltS k hk) (fun e => h.nm (by rw [← e]; exact Or.inl hk))), h.pk.lg.sameS hd.mu.size (fun k hk => hd.mu.block k (h.pk.lg.ltS k hk) (fun e => h.nm (by rw [← e]; exact Or.inr hk))), h.pk.ap⟩, hd.mp, fun s t ht => ?_, h.ns, h.nm⟩
  obtain ⟨h1, h2⟩ := hd.kk s t ht
  exact ⟨h1.go ⟨hd.mu.os, hd.mu.tape, hd.mu.output, hd.mu.size, fun k hk hn => hd.mu.block k hk (fun e => hn (Or.inr e))⟩ (fun _ _ h => h), h2⟩
set_option maxRecDepth 100000 in
set_option maxHeartbeats 2000000 in
theorem sApply_ok {w : World} {gs gd lg gm n : Nat} {P Q : Nat → Prop} {V : Bs → Value} {m : KM} {D : DkT} {J : JnT} (h : StM w gs gd lg gm n P Q V m D J) (hK : KOk w) (hok : okJ D J) (v : Value) (ps : List (ActT × Value)) (hst : Sta (Un P Q) w (fun W => RdP W v ps ∧ (∀ p ∈ ps, Reads W p.2 p.1.data) ∧ ReadsA W v (ps.map (·.1)))) (hsl : ∀ p ∈ ps, isSl p.2 = true ∧ p.1.key.length ≤ 1000000 ∧ p.1.data.length ≤ 1048576) (hz : okZ (ps.map (·.1))) (hck : chkL (ps.map (·.1)) = 0) (h0 : ps ≠ []) (hf : (batchB (ps.map (·.1))).length ≤ roomZ J.l (sizeD D)) (hx : appX J D (batchB (ps.map (·.1))) = 0) (hn : n + ps.length < 10000000) (hpl : ps.length < 1000000) :
    Calls Tryz.prog 23 #[.pointer (some ⟨gs, 0, none⟩), v] w fun e w' => e = .returned (.int .i64 0) ∧ ∃ P' Q' V', StM w' gs gd lg gm (n + ps.length) P' Q' V' (doneM m (ps.map (·.1))) (appD J D (batchB (ps.map (·.1)))) (appJ J D (batchB (ps.map (·.1)))) ∧ Mut (Um P Q gm) w w' ∧ Grew w (Un P Q) (Un P' Q') := by
  obtain ⟨l, HL⟩ : ∃ x, Hid (x = ps.map (·.1)) := ⟨_, rfl⟩
  rw [← HL.out] at hst hz hck hf hx ⊢
  obtain ⟨D', HD'⟩ : ∃ x, Hid (x = appD J D (batchB l)) := ⟨_, rfl⟩
  obtain ⟨J', HJ'⟩ : ∃ x, Hid (x = appJ J D (batchB l)) := ⟨_, rfl⟩
  have HRC : Hid (∀ W, Below w.heap.size w W → Calls Tryz.prog 53 #[.pointer (some ⟨gs, 0, none⟩), v] W fun e w' => e = .returned (.int .i64 0) ∧ ∃ P' Q', Mut (Un P Q) W w' ∧ Grew W (Un P Q) (Un P' Q') ∧ StM w' gs gd lg gm n P' Q' V m D' J') := fun W hb => by
    refine (sRecord_fit (h.below hb) (hK.below hb hK.lt) hok v l (hst.now.2.2.below hb) hz hf).mono (fun e w' h => ?_)
    obtain ⟨h1, P', Q', h2, h3, h4⟩ := h
    rw [hx] at h1 h4
    rw [HD'.out, HJ'.out]
    exact ⟨h1, P', Q', h2, h3, h4 (by decide)⟩
  rw [← HD'.out, ← HJ'.out]
  have hcc := sCheck_any v l w hst.now.2.2 (by have := hz.n; omega)
  rw [hck] at hcc
  have HCK : Hid (Calls Tryz.prog 11 #[v] w fun e w' => e = .returned (.int .i64 0) ∧ Below w.heap.size w w') := hcc
  obtain ⟨N, HN⟩ : ∃ x, Hid (x = ps.length) := ⟨_, rfl⟩
  obtain ⟨ad, cp, hv⟩ := hst.now.1.form
  rw [← HN.out] at hv
  subst hv
  have fz : ¬ ((N : Int) = 0) := by
    have h1 : 0 < ps.length := List.length_pos_iff.2 h0
    have h2 := HN.out
    omega
  have HCP : Hid (∀ W, RdP W (.slice ad N cp) ps → (∀ p ∈ ps, Reads W p.2 p.1.data) → Calls Tryz.prog 55 #[.slice ad N cp] W fun e w' => ∃ v' qs, e = .returned v' ∧ OwnA w' W.heap.size v' qs ∧ qs.map (·.1) = l ∧ Below W.heap.size W w') := fun W h1 h2 => by
    rw [HL.out]
    exact sCopies_any _ ps h1 (fun p hp => (hsl p hp).1) h2 (fun p hp => Nat.le_trans (hsl p hp).2.2 (by decide)) hpl
  have HQS : Hid (∀ qs : List (ActT × Value), qs.map (·.1) = l → qs.length = N ∧ ∀ q ∈ qs, q.1.key.length ≤ 1000000 ∧ q.1.data.length ≤ 1048576) := fun qs hq => by
    rw [HL.out] at hq
    have hle : (qs.map (·.1)).length = (ps.map (·.1)).length := by rw [hq]
    rw [List.length_map, List.length_map] at hle
    refine ⟨by rw [HN.out, hle], fun q hqm => ?_⟩
    have h1 : q.1 ∈ ps.map (·.1) := by rw [← hq]; exact List.mem_map_of_mem hqm
    obtain ⟨p, hp, e⟩ := List.mem_map.1 h1
    rw [← e]
    exact (hsl p hp).2
  have HST : Hid (Sta (Un P Q) w (fun W => RdP W (.slice ad N cp) ps ∧ (∀ p ∈ ps, Reads W p.2 p.1.data) ∧ ReadsA W (.slice ad N cp) l)) := hst
  have HNN : Hid (n + N < 10000000) := by show _ < _; rw [HN.out]; exact hn
  have HNM : Hid (¬ gs = gm) := fun e => h.mp.ne h.sb e.symm
  rw [← HN.out]
  clear h hK hok hst hsl hz hck h0 hf hx hn hpl hcc
  go_enter Tryz.func23, Tryz.ntmps23
  have tk0 : Hid True := trivial
  have tk1 : Hid True := trivial
  go_upto_region 7 with (first
    | (clear tk0; go_at_call 11; refine (HCK.out).mono ?_; rintro e0 y0 ⟨rfl, bl0⟩
       have HB0 : Hid (Below w.heap.size w y0) := bl0
       clear bl0)
    | (clear tk1; go_at_call 53; refine (HRC.out y0 HB0.out).mono ?_; rintro e1 y1 ⟨rfl, P', Q', mu1, gr1, hs1⟩
       have HS : Hid (StM y1 gs gd lg gm n P' Q' V m D' J') := hs1
       have HMU : Hid (Mut (Un P Q) w y1 ∧ Grew w (Un P Q) (Un P' Q')) := ⟨(mut_below HB0.out _).trans (fun _ _ h => h) mu1, fun k hk => (gr1 k hk).elim Or.inl (fun h => Or.inr (Nat.le_trans HB0.out.size h))⟩
       clear mu1 gr1 hs1))
  have HS1 : Hid (StM y1.drew gs gd lg gm n P' Q' V m D' J') := HS.out.below (Below.refl _ _).drew
  have HX1 : Hid (RdP y1.drew (.slice ad N cp) ps ∧ ∀ p ∈ ps, Reads y1.drew p.2 p.1.data) := ⟨(HST.out.at HMU.out.1.drew).1, (HST.out.at HMU.out.1.drew).2.1⟩
  refine wp_region_held_drew (S := fun wx => Blk wx gs [.pointer (some ⟨lg, 0, none⟩), .map (some gm)] 99) (by kernel_rfl) HS.out.sb.drew ?_
  intro hS
  refine wpAnyH_take (i := 0) (v := .pointer (some ⟨gs, 0, none⟩)) rfl (by kernel_rfl) (by kernel_rfl) (by kernel_rfl) (fun _ _ _ h => h) (Or.inl ⟨by rfl, fun wx hx => by simp [go_sem]⟩) hS ?_
  simp only [Act.put, List.getElem_toArray, List.getElem_cons_zero, List.setIfInBounds_toArray, List.set_cons_zero, List.set_cons_succ]
  refine wpAnyH_take (i := 1) (v := .pointer (some ⟨gs, 0, none⟩)) rfl (by kernel_rfl) (by kernel_rfl) (by kernel_rfl) (fun _ _ _ h => h) (Or.inl ⟨by rfl, fun wx hx => by simp [go_sem]⟩) hS ?_
  simp only [Act.put, List.getElem_toArray, List.getElem_cons_succ, List.getElem_cons_zero, List.setIfInBounds_toArray, List.set_cons_zero, List.set_cons_succ]
  refine wpAnyH_take (i := 2) (v := .pointer (some ⟨gs, 1, none⟩)) rfl (by kernel_rfl) (by kernel_rfl) (by kernel_rfl) (fun _ _ _ h => h) (Or.inl ⟨by rfl, fun wx hx => by simp [go_sem]⟩) hS ?_
  simp only [Act.put, List.getElem_toArray, List.getElem_cons_succ, List.getElem_cons_zero, List.setIfInBounds_toArray, List.set_cons_zero, List.set_cons_succ]
  refine wpAnyH_take (i := 3) (v := .map (some gm)) rfl (by kernel_rfl) (by kernel_rfl) (by kernel_rfl) (fun _ _ _ h => h) (Or.inl ⟨by rfl, fun wx hx => by (have c0 : wx.cell? ⟨gs, 1, none⟩ = some (.map (some gm)) := hx.cell 1; simp [go_sem, c0])⟩) hS ?_
  simp only [Act.put, List.getElem_toArray, List.getElem_cons_succ, List.getElem_cons_zero, List.setIfInBounds_toArray, List.set_cons_zero, List.set_cons_succ]
  refine wpAnyH_take (i := 4) (v := .slice ad N cp) rfl (by kernel_rfl) (by kernel_rfl) (by kernel_rfl) (fun _ _ _ h => h) (Or.inl ⟨by rfl, fun wx hx => by simp [go_sem]⟩) hS ?_
  simp only [Act.put, List.getElem_toArray, List.getElem_cons_succ, List.getElem_cons_zero, List.setIfInBounds_toArray, List.set_cons_zero, List.set_cons_succ]
  refine wpAnyH_enter 5 (by kernel_rfl) rfl (by rfl) (f := 55) (args := #[.slice ad N cp]) (by simp [go_sem]) (HCP.out _ HX1.out.1 HX1.out.2) ?_
  rintro e2 y2 ⟨v2, qs, rfl, ow2, hq2, bl2⟩
  have hS2 := HS1.out.below bl2
  refine ⟨_, rfl, hS2.sb, ?_⟩
  simp only [Act.put, List.getElem_toArray, List.getElem_cons_succ, List.getElem_cons_zero, List.setIfInBounds_toArray, List.set_cons_zero, List.set_cons_succ]
  obtain ⟨hqn, hqz⟩ := HQS.out qs hq2
  have hdo := sDo_any (fun v t => Sta (Um P' Q' gm) y2 (fun W => Reads W v t) ∧ t.length ≤ 1048576) hS2.mp hS2.tx v2 qs ow2.rdp (fun q hq => ⟨(hqz q hq).1, (ow2.dat q hq).isSl, fun _ => ⟨(ow2.dat q hq).st (fun k hk => HS1.out.ltM k hk), (hqz q hq).2⟩⟩) (by rw [hqn]; exact HNN.out)
  refine wpAnyH_enter 6 (by kernel_rfl) rfl (by rfl) (f := 54) (args := #[.map (some gm), v2]) (by simp [go_sem]) hdo ?_
  rintro e3 y3 ⟨rfl, V', hI⟩
  rw [hq2, hqn] at hI
  have hS3 := hS2.done hI
  refine ⟨_, rfl, hS3.sb, ?_⟩
  simp only [Act.put, List.getElem_toArray, List.getElem_cons_succ, List.getElem_cons_zero, List.setIfInBounds_toArray, List.set_cons_zero, List.set_cons_succ]
  have HF : Hid (StM y3 gs gd lg gm (n + N) P' Q' V' (doneM m l) D' J' ∧ Mut (Um P Q gm) w y3 ∧ Grew w (Un P Q) (Un P' Q')) := by
    refine ⟨hS3, ?_, HMU.out.2⟩
    have m1 : Mut (Um P Q gm) w y1.drew := ⟨HMU.out.1.os, HMU.out.1.tape, HMU.out.1.output, HMU.out.1.size, fun k hk hn => HMU.out.1.block k hk (fun hx => hn (Or.inl hx))⟩
    exact (m1.trans (fun _ _ h => h) (mut_below bl2 _)).trans (fun _ _ h => Or.inr h) hI.mu
  clear hS hS2 hS3 hI hdo ow2 hq2 bl2 hqn hqz
  refine wpAnyH_done (by kernel_rfl) ?_ _
  go_wp2
  go_ret
  exact ⟨rfl, P', Q', V', HF.out⟩
end Go.Proofs.YtopmeedmgjdcgaaGreatDoor

import Derived.Test.YtphmmnffgknkcabGreatDoorMxb
import Derived.Sort.Lot0
import Derived.Test.YtphmmnffgknkcabGreatDoorChecked
import Derived.Shelf.SlSortCmp.Kit1
import Derived.Sort.WalkB2
import Derived.Sort.WalkB12
import Derived.Deep.LoopGhost
import Derived.Sort.WalkA
import Derived.Deep.CutRange
import Derived.Lib.SliceRun
namespace Go.Proofs.YtphmmnffgknkcabGreatDoor
open Go.RowKit
set_option maxRecDepth 100000
set_option maxRecDepth 100000 in
set_option maxHeartbeats 2000000 in
theorem soSearch_any (n g : Nat) (cbs : Array Value) (p : Nat → Bool) (w : World) (eg : ∀ args w, (callFunc g args).run Tryz.prog w = .ok (.enter g args) w) (hn : n < 1000000000) (hf : ∀ W i, Over w W → i < n → Calls Tryz.prog g (#[.int .i64 (i : Int)] ++ cbs) W fun e w' => e = .returned (.bool (p i)) ∧ Below W.heap.size W w') :
    Calls Tryz.prog 54 #[.int .i64 (n : Int), .func (.func g) #[] cbs] w fun e w' => ∃ k : Nat, e = .returned (.int .i64 (k : Int)) ∧ k ≤ n ∧ (k = 0 ∨ p (k - 1) = false) ∧ (k = n ∨ p k = true) ∧ Below w.heap.size w w' := by
  have HFF : Aside (∀ W i, Over w W → i < n → Calls Tryz.prog g (#[.int .i64 (i : Int)] ++ cbs) W fun e w' => e = .returned (.bool (p i)) ∧ Below W.heap.size W w') := hf
  clear hf
  go_enter Tryz.func54, Tryz.ntmps54
  go_wp2
  go_loopg [5, 6] n (fun kx s5 s6 wr => ∃ (i j : Nat), s5 = .int .i64 i ∧ s6 = .int .i64 j ∧ i ≤ j ∧ j ≤ n ∧ j - i ≤ kx ∧ Hid (Over w wr) ∧ Hid (i = 0 ∨ p (i - 1) = false) ∧ Hid (j = n ∨ p j = true))
  case atStart => exact ⟨0, n, rfl, rfl, by omega, by omega, by omega, Over.refl w, Or.inl rfl, Or.inl rfl⟩
  case round =>
    obtain ⟨i, j, rfl, rfl, hij, hjn, hkx, HO, H1, H2⟩ := hrel
    by_cases hlt : i < j
    · have hltz : (i : Int) < (j : Int) := by omega
      have rs : IntKind.i64.wrap ((i : Int) + (j : Int)) = (i : Int) + (j : Int) := by rw [IntKind.wrap_i64]; omega
      go_upto_region 4 with (fail)
      obtain ⟨h, hh1, hh2, eh⟩ : ∃ h : Nat, i ≤ h ∧ h < j ∧ ((i : Int) + (j : Int)) / 2 = (h : Int) := ⟨(i + j) / 2, by omega, by omega, by omega⟩
      simp only [eh]
      clear eh rs
      have HCA : Hid (Calls Tryz.prog g (#[.int .i64 (h : Int)] ++ cbs) wr fun e w' => e = .returned (.bool (p h)) ∧ Below wr.heap.size wr w') := HFF.out wr h HO.out (by omega)
      have r1 : IntKind.i64.wrap ((h : Int) + 1) = (h : Int) + 1 := by rw [IntKind.wrap_i64]; omega
      cases hp : p h with
      | false =>
        rw [hp] at HCA
        go_wp2_with (go_at_fn g; refine HCA.out.mono ?_; rintro e w2 ⟨rfl, hb⟩)
        go_roundg (j - (h + 1))
        case measure => omega
        case rel => exact ⟨h + 1, j, by go_num, rfl, by omega, hjn, Nat.le_refl _, HO.out.more hb, Or.inr hp, H2⟩
      | true =>
        rw [hp] at HCA
        go_wp2_with (go_at_fn g; refine HCA.out.mono ?_; rintro e w2 ⟨rfl, hb⟩)
        go_roundg (h - i)
        case measure => omega
        case rel => exact ⟨i, h, rfl, rfl, by omega, by omega, Nat.le_refl _, HO.out.more hb, H1, Or.inr hp⟩
    · have hltz : ¬ (i : Int) < (j : Int) := by omega
      have e : j = i := by omega
      subst e
      go_wp2
      go_ret
      exact ⟨j, rfl, hjn, H1.out, H2.out, HO.out⟩
structure LvRow (W : World) (b off : Nat) (ps : List (Nat × Lf)) : Prop where
  cell : ∀ k, k < ps.length → W.cell? ⟨b, off + k, none⟩ = some (ptr (ps.getD k default).1)
  leaf : ∀ q ∈ ps, TreeC W q.1 1 (dig (pairB 76 q.2.1 q.2.2)) q.2.1 q.2.2 (.pointer none) (.pointer none)
theorem LvRow.next {W W' : World} {b off : Nat} {ps : List (Nat × Lf)} (h : LvRow W b off ps) (hb : Below W.heap.size W W') : LvRow W' b off ps :=
  ⟨fun k hk => by
    have h1 := h.cell k hk
    rw [hb.cell (p := ⟨b, off + k, none⟩) (block_lt_of_cell h1)]
    exact h1, fun q hq => (h.leaf q hq).next hb⟩
theorem LvRow.take {W : World} {b off k : Nat} {ps : List (Nat × Lf)} (h : LvRow W b off ps) : LvRow W b off (ps.take k) :=
  ⟨fun j hj => by
    rw [List.length_take] at hj
    rw [h.cell j (by omega), List.getD_eq_getElem?_getD, List.getD_eq_getElem?_getD, List.getElem?_take_of_lt (by omega)], fun q hq => h.leaf q (List.mem_of_mem_take hq)⟩
theorem LvRow.drop {W : World} {b off k : Nat} {ps : List (Nat × Lf)} (h : LvRow W b off ps) : LvRow W b (off + k) (ps.drop k) :=
  ⟨fun j hj => by
    rw [List.length_drop] at hj
    rw [Nat.add_assoc, h.cell (k + j) (by omega), List.getD_eq_getElem?_getD, List.getD_eq_getElem?_getD, List.getElem?_drop], fun q hq => h.leaf q (List.mem_of_mem_drop hq)⟩
set_option maxRecDepth 100000 in
set_option maxHeartbeats 2000000 in
theorem trBelow1_any (b off n cap i g2 g3 : Nat) (d : Nat) (ps : List (Nat × Lf)) (w : World) (hR : LvRow w b off ps) (hn : ps.length = n) (hi : i < n) (hd : d < 256) (hc2 : w.cell? ⟨g2, 0, none⟩ = some (.slice (some ⟨b, off, none⟩) n cap)) (hc3 : w.cell? ⟨g3, 0, none⟩ = some (.int .i64 (d : Int))) :
    Calls Tryz.prog 55 (#[.int .i64 (i : Int)] ++ #[.pointer (some ⟨g2, 0, none⟩), .pointer (some ⟨g3, 0, none⟩)]) w fun e w' => e = .returned (.bool (bt (ps.getD i default).2.1 d)) ∧ Below w.heap.size w w' := by
  have HR : Hid (LvRow w.drew b off ps) := hR.next (Below.refl _ w).drew
  obtain ⟨q, HQ⟩ : ∃ q, Hid (q = ps.getD i default) := ⟨_, rfl⟩
  have HM : Hid (q ∈ ps) := by
    show _ ∈ _
    rw [HQ.out, List.getD_eq_getElem?_getD, List.getElem?_eq_getElem (by omega), Option.getD_some]
    exact List.getElem_mem _
  have HL : Hid (q.2.1.length = 32) := (hR.leaf q HM.out).l2
  have HB : Hid (bitI q.2.1 (d : Int) = bt q.2.1 d) := bitI_nat _ _ hd
  rw [← HQ.out, ← HB.out]
  obtain ⟨gq, x, vq⟩ := q
  have HC : Hid (∀ wx, Over w.drew wx → wx.cell? ⟨b, off + i, none⟩ = some (.pointer (some ⟨gq, 0, none⟩))) := fun wx hx => by
    have := (HR.out.next hx.out).cell i (by omega)
    rw [← HQ.out] at this
    exact this
  have HX : Hid (∀ wx, Over w.drew wx → wx.rangeAt gq 33 (cb x)) := fun wx hx => ((HR.out.next hx.out).leaf _ HM.out).index
  have HC2 : Hid (∀ wx, Over w.drew wx → wx.cell? ⟨g2, 0, none⟩ = some (.slice (some ⟨b, off, none⟩) n cap)) := fun wx hx => (hx.out.cell (p := ⟨g2, 0, none⟩) (block_lt_of_cell hc2)).trans hc2
  have HC3 : Hid (∀ wx, Over w.drew wx → wx.cell? ⟨g3, 0, none⟩ = some (.int .i64 (d : Int))) := fun wx hx => (hx.out.cell (p := ⟨g3, 0, none⟩) (block_lt_of_cell hc3)).trans hc3
  clear hR hn hc2 hc3 HR HQ HM HB
  have i0 : (0 : Int) ≤ (i : Int) := by omega
  have i1 : (i : Int) < (n : Int) := by omega
  simp only [List.append_toArray, List.cons_append, List.nil_append]
  go_enter Tryz.func55, Tryz.ntmps55
  go_wp2_with fail
  refine wp_region_held_drew (S := Over w.drew) (by kernel_rfl) (Over.refl _) ?_
  intro hS
  refine wpAnyH_take (i := 0) (v := .slice (some ⟨b, off, none⟩) n cap) rfl (by kernel_rfl) (by kernel_rfl) (by kernel_rfl) (fun _ _ _ h => h) (Or.inl ⟨by rfl, fun wx hx => by (have hc := HC2.out wx hx; simp [go_sem, hc])⟩) hS ?_
  simp only [Act.put, List.getElem_toArray, List.getElem_cons_zero, List.setIfInBounds_toArray, List.set_cons_zero, List.set_cons_succ]
  refine wpAnyH_take (i := 1) (v := .int .i64 (i : Int)) rfl (by kernel_rfl) (by kernel_rfl) (by kernel_rfl) (fun _ _ _ h => h) (Or.inl ⟨by rfl, fun wx hx => by simp [go_sem]⟩) hS ?_
  simp only [Act.put, List.getElem_toArray, List.getElem_cons_succ, List.getElem_cons_zero, List.setIfInBounds_toArray, List.set_cons_zero, List.set_cons_succ]
  refine wpAnyH_take (i := 2) (v := .pointer (some ⟨b, off + i, none⟩)) rfl (by kernel_rfl) (by kernel_rfl) (by kernel_rfl) (fun _ _ _ h => h) (Or.inl ⟨by rfl, fun wx hx => by simp [go_sem, i0, i1]⟩) hS ?_
  simp only [Act.put, List.getElem_toArray, List.getElem_cons_succ, List.getElem_cons_zero, List.setIfInBounds_toArray, List.set_cons_zero, List.set_cons_succ]
  refine wpAnyH_take (i := 3) (v := .pointer (some ⟨gq, 0, none⟩)) rfl (by kernel_rfl) (by kernel_rfl) (by kernel_rfl) (fun _ _ _ h => h) (Or.inl ⟨by rfl, fun wx hx => by (have hc := HC.out wx hx; simp [go_sem, hc])⟩) hS ?_
  simp only [Act.put, List.getElem_toArray, List.getElem_cons_succ, List.getElem_cons_zero, List.setIfInBounds_toArray, List.set_cons_zero, List.set_cons_succ]
  refine wpAnyH_take (i := 4) (v := .pointer (some ⟨gq, 0, none⟩)) rfl (by kernel_rfl) (by kernel_rfl) (by kernel_rfl) (fun _ _ _ h => h) (Or.inl ⟨by rfl, fun wx hx => by simp [go_sem]⟩) hS ?_
  simp only [Act.put, List.getElem_toArray, List.getElem_cons_succ, List.getElem_cons_zero, List.setIfInBounds_toArray, List.set_cons_zero, List.set_cons_succ]
  refine wpAnyH_take (i := 5) (v := .pointer (some ⟨gq, 33, none⟩)) rfl (by kernel_rfl) (by kernel_rfl) (by kernel_rfl) (fun _ _ _ h => h) (Or.inl ⟨by rfl, fun wx hx => by simp [go_sem]⟩) hS ?_
  simp only [Act.put, List.getElem_toArray, List.getElem_cons_succ, List.getElem_cons_zero, List.setIfInBounds_toArray, List.set_cons_zero, List.set_cons_succ]
  refine wpAnyH_take (i := 6) (v := .agg (cb x).toArray) rfl (by kernel_rfl) (by kernel_rfl) (by kernel_rfl) (fun _ _ _ h => h) (Or.inl ⟨by rfl, fun wx hx => by exact load_run 40 _ rfl _ _ rfl (cb x) _ (HX.out wx hx) Tryz.underlying40 rfl (by rw [cb_len, HL.out]; exact info_digest)⟩) hS ?_
  simp only [Act.put, List.getElem_toArray, List.getElem_cons_succ, List.getElem_cons_zero, List.setIfInBounds_toArray, List.set_cons_zero, List.set_cons_succ]
  refine wpAnyH_take (i := 7) (v := .int .i64 (d : Int)) rfl (by kernel_rfl) (by kernel_rfl) (by kernel_rfl) (fun _ _ _ h => h) (Or.inl ⟨by rfl, fun wx hx => by (have hc := HC3.out wx hx; simp [go_sem, hc])⟩) hS ?_
  simp only [Act.put, List.getElem_toArray, List.getElem_cons_succ, List.getElem_cons_zero, List.setIfInBounds_toArray, List.set_cons_zero, List.set_cons_succ]
  refine wpAnyH_enter 8 (by kernel_rfl) rfl (by rfl) (f := 56) (args := #[.agg (cb x).toArray, .int .i64 (d : Int)]) (by simp [go_sem]) (pBit_any x HL.out _ _) ?_
  rintro e wy ⟨rfl, hbq⟩
  refine ⟨_, rfl, hS.more hbq, ?_⟩
  replace hS := hS.more hbq
  clear hbq
  simp only [Act.put, List.getElem_toArray, List.getElem_cons_succ, List.getElem_cons_zero, List.setIfInBounds_toArray, List.set_cons_zero, List.set_cons_succ]
  refine wpAnyH_take (i := 9) (v := .bool (bitI x (d : Int))) rfl (by kernel_rfl) (by kernel_rfl) (by kernel_rfl) (fun _ _ _ h => h) (Or.inl ⟨by rfl, fun wx hx => by simp [go_sem]⟩) hS ?_
  simp only [Act.put, List.getElem_toArray, List.getElem_cons_succ, List.getElem_cons_zero, List.setIfInBounds_toArray, List.set_cons_zero, List.set_cons_succ]
  refine wpAnyH_done (by kernel_rfl) ?_ _
  go_wp2_with fail
  go_ret
  exact ⟨rfl, hS.after (Below.refl _ w).drew⟩
theorem slLo (b off n cap k : Nat) (h : k ≤ cap) (w : World) : (Instr.sliceAt 78 (.slice (some ⟨b, off, none⟩) n cap) none (some (.int .i64 (k : Int))) none).run Tryz.prog w = .ok (.slice (some ⟨b, off, none⟩) k cap) w := by
  have hs : (sizeOf 36).run Tryz.prog w = .ok 1 w := by kernel_rfl
  rw [run_sliceAt_slice w 78 _ _ _ _ (by kernel_rfl), run_slice_h w 78 _ _ _ (by kernel_rfl) .i64 _ (by omega) (by omega)]
  rw [show Tryz.prog.elem 78 = 36 from by kernel_rfl, hs]
  simp only [Result.andThen_ok, sliced, Int.toNat_natCast, Nat.mul_one, Option.map_some]
  split <;> simp [Addr.add_mid]
theorem slHi (b off n cap k : Nat) (h : k ≤ n) (w : World) : (Instr.sliceAt 78 (.slice (some ⟨b, off, none⟩) n cap) (some (.int .i64 (k : Int))) none none).run Tryz.prog w = .ok (.slice (some ⟨b, if cap = k then off else off + k, none⟩) (n - k) (cap - k)) w := by
  have hs : (sizeOf 36).run Tryz.prog w = .ok 1 w := by kernel_rfl
  rw [run_sliceAt_slice w 78 _ _ _ _ (by kernel_rfl), run_slice_l w 78 _ _ _ (by kernel_rfl) .i64 _ (by omega) (by omega)]
  rw [show Tryz.prog.elem 78 = 36 from by kernel_rfl, hs]
  simp only [Result.andThen_ok, sliced, Int.toNat_natCast, Nat.mul_one, Option.map_some]
  split <;> simp [Addr.add_mid]
theorem search_half {ps : List (Nat × Lf)} {d k : Nat} (hF : Fits (ps.map (·.2)) d) (hk : k ≤ ps.length) (h1 : k = 0 ∨ bt (ps.getD (k - 1) default).2.1 d = false) (h2 : k = ps.length ∨ bt (ps.getD k default).2.1 d = true) : (ps.take k).map (·.2) = halfL (ps.map (·.2)) d false ∧ (ps.drop k).map (·.2) = halfL (ps.map (·.2)) d true := by
  have ho := half_order hF
  obtain ⟨A, hA⟩ : ∃ A, A = halfL (ps.map (·.2)) d false := ⟨_, rfl⟩
  obtain ⟨B, hB⟩ : ∃ B, B = halfL (ps.map (·.2)) d true := ⟨_, rfl⟩
  rw [← hA, ← hB] at ho ⊢
  have hAm : ∀ p ∈ A, bt p.1 d = false := fun p hp => by rw [hA] at hp; exact (mem_halfL.1 hp).2
  have hBm : ∀ p ∈ B, bt p.1 d = true := fun p hp => by rw [hB] at hp; exact (mem_halfL.1 hp).2
  have hlen : ps.length = A.length + B.length := by have := congrArg List.length ho; rw [List.length_map, List.length_append] at this; exact this
  have get : ∀ j, j < ps.length → (ps.getD j default).2 = (A ++ B).getD j ([], []) := fun j hj => by
    rw [← ho, List.getD_eq_getElem?_getD, List.getD_eq_getElem?_getD, List.getElem?_map, List.getElem?_eq_getElem hj]
    rfl
  have hkA : k = A.length := by
    rcases Nat.lt_trichotomy k A.length with h | h | h
    · rcases h2 with e | e
      · omega
      · rw [get k (by omega), List.getD_eq_getElem?_getD, List.getElem?_append_left h, List.getElem?_eq_getElem h, Option.getD_some, hAm _ (List.getElem_mem _)] at e
        cases e
    · exact h
    · rcases h1 with e | e
      · omega
      · rw [get (k - 1) (by omega), List.getD_eq_getElem?_getD, List.getElem?_append_right (by omega), List.getElem?_eq_getElem (by omega), Option.getD_some, hBm _ (List.getElem_mem _)] at e
        cases e
  rw [List.map_take, List.map_drop, ho, hkA]
  exact ⟨List.take_left, List.drop_left⟩
theorem trBelow_nil (ad : Option Addr) (cap d : Nat) (w : World) (hK : KOk w) : Calls Tryz.prog 34 #[.slice ad 0 cap, .int .i64 (d : Int)] w fun e w' => ∃ g, e = .returned (.pointer (some ⟨g, 0, none⟩)) ∧ TreeIs w' d g [] ∧ Below w.heap.size w w' := by
  have HK : Hid (KOk w) := hK
  clear hK
  obtain ⟨wB, HWB⟩ : ∃ z, Hid (z = (w.alloc (.cells #[.slice ad 0 cap] 78)).alloc (.cells #[.int .i64 (d : Int)] 3)) := ⟨_, rfl⟩
  have HBW : Hid (Below w.heap.size w wB) := by rw [HWB.out]; exact ((Below.refl _ w).alloc (Nat.le_refl _) _).alloc (by simp) _
  replace HK : Hid (KOk wB) := HK.out.below HBW.out HK.out.lt
  go_enter Tryz.func34, Tryz.ntmps34
  go_upto_region 3 with fail
  rw [← HWB.out]
  go_wp2_with (go_at_call 53; refine (trEmpty_any _ HK.out).mono ?_; rintro e wb ⟨ge, rfl, hce, hb⟩)
  go_ret
  exact ⟨ge, rfl, .none d ge hce, HBW.out.trans (hb.mono HBW.out.size)⟩
theorem trBelow_one (b off cap d : Nat) (q : Nat × Lf) (w : World) (hR : LvRow w b off [q]) : Calls Tryz.prog 34 #[.slice (some ⟨b, off, none⟩) 1 cap, .int .i64 (d : Int)] w fun e w' => ∃ g, e = .returned (.pointer (some ⟨g, 0, none⟩)) ∧ TreeIs w' d g [q.2] ∧ Below w.heap.size w w' := by
  obtain ⟨gq, x, v⟩ := q
  obtain ⟨wB, HWB⟩ : ∃ z, Hid (z = (w.alloc (.cells #[.slice (some ⟨b, off, none⟩) 1 cap] 78)).alloc (.cells #[.int .i64 (d : Int)] 3)) := ⟨_, rfl⟩
  have HBW : Hid (Below w.heap.size w wB) := by rw [HWB.out]; exact ((Below.refl _ w).alloc (Nat.le_refl _) _).alloc (by simp) _
  have HR : Hid (LvRow wB b off [(gq, x, v)]) := hR.next HBW.out
  have c1 : wB.cell? ⟨b, off, none⟩ = some (.pointer (some ⟨gq, 0, none⟩)) := HR.out.cell 0 (by simp)
  have c2 : wB.cell? ⟨w.heap.size, 0, none⟩ = some (.slice (some ⟨b, off, none⟩) 1 cap) := by rw [HWB.out]; simp
  clear hR
  go_enter Tryz.func34, Tryz.ntmps34
  go_upto_region 5 with fail
  rw [← HWB.out]
  go_wp2_with fail
  go_ret
  exact ⟨gq, rfl, .leaf d gq x v (HR.out.leaf (gq, x, v) (by simp)), HBW.out⟩
set_option maxRecDepth 100000 in
set_option maxHeartbeats 8000000 in
theorem trBelow_many (b off n cap d : Nat) (ps : List (Nat × Lf)) (w : World) (IH : ∀ (ad : Option Addr) (b off n cap : Nat) (ps : List (Nat × Lf)) (w : World), KOk w → LvRow w b off ps → ps.length = n → n ≤ cap → (n = 0 ∨ ad = some ⟨b, off, none⟩) → n < 100000 → Fits (ps.map (·.2)) (d + 1) → Calls Tryz.prog 34 #[.slice ad n cap, .int .i64 ((d + 1 : Nat) : Int)] w fun e w' => ∃ g, e = .returned (.pointer (some ⟨g, 0, none⟩)) ∧ TreeIs w' (d + 1) g (ps.map (·.2)) ∧ Below w.heap.size w w') (hK : KOk w) (hR : LvRow w b off ps) (hn : ps.length = n) (hcap : n ≤ cap) (h2 : 2 ≤ n) (hn2 : n < 100000) (hF : Fits (ps.map (·.2)) d) :
    Calls Tryz.prog 34 #[.slice (some ⟨b, off, none⟩) n cap, .int .i64 (d : Int)] w fun e w' => ∃ g, e = .returned (.pointer (some ⟨g, 0, none⟩)) ∧ TreeIs w' d g (ps.map (·.2)) ∧ Below w.heap.size w w' := by
  have hd : d < 256 := hF.lt (by rw [List.length_map]; omega)
  have HFI : Hid (Fits (ps.map (·.2)) d) := hF
  have HN : Hid (ps.length = n) := hn
  have HIH : Aside _ := IH
  obtain ⟨gl, HGL⟩ : ∃ g, Hid (g = w.heap.size) := ⟨_, rfl⟩
  obtain ⟨wB, HWB⟩ : ∃ z, Hid (z = (w.alloc (.cells #[.slice (some ⟨b, off, none⟩) n cap] 78)).alloc (.cells #[.int .i64 (d : Int)] 3)) := ⟨_, rfl⟩
  have HBW : Hid (Below w.heap.size w wB) := by rw [HWB.out]; exact ((Below.refl _ w).alloc (Nat.le_refl _) _).alloc (by simp) _
  have HK : Hid (KOk wB) := hK.below HBW.out hK.lt
  have HR : Hid (LvRow wB b off ps) := hR.next HBW.out
  have c2 : wB.cell? ⟨gl, 0, none⟩ = some (.slice (some ⟨b, off, none⟩) n cap) := by rw [HWB.out, HGL.out]; simp
  have c3 : wB.cell? ⟨gl + 1, 0, none⟩ = some (.int .i64 (d : Int)) := by rw [HWB.out, HGL.out]; simp
  have HC2 : Hid (∀ wx, Over wB wx → wx.cell? ⟨gl, 0, none⟩ = some (.slice (some ⟨b, off, none⟩) n cap)) := fun wx hx => (hx.out.cell (p := ⟨gl, 0, none⟩) (block_lt_of_cell c2)).trans c2
  have HC3 : Hid (∀ wx, Over wB wx → wx.cell? ⟨gl + 1, 0, none⟩ = some (.int .i64 (d : Int))) := fun wx hx => (hx.out.cell (p := ⟨gl + 1, 0, none⟩) (block_lt_of_cell c3)).trans c3
  have HSE : Hid (Calls Tryz.prog 54 #[.int .i64 (n : Int), .func (.func 55) #[] #[.pointer (some ⟨gl, 0, none⟩), .pointer (some ⟨gl + 1, 0, none⟩)]] wB fun e w' => ∃ k : Nat, e = .returned (.int .i64 (k : Int)) ∧ k ≤ n ∧ (k = 0 ∨ bt (ps.getD (k - 1) default).2.1 d = false) ∧ (k = n ∨ bt (ps.getD k default).2.1 d = true) ∧ Below wB.heap.size wB w') :=
    soSearch_any n 55 _ (fun i => bt (ps.getD i default).2.1 d) wB (enters_of Tryz.func55 (by kernel_rfl) rfl) (by omega) fun W i hW hi => trBelow1_any b off n cap i gl (gl + 1) d ps W (HR.out.next hW.out) HN.out hi hd (HC2.out W hW) (HC3.out W hW)
  have z0 : ¬ ((n : Int) = 0) := by omega
  have z0' : ((n : Int) == 0) = false := by rw [beq_eq_false_iff_ne]; omega
  have z1 : ¬ ((n : Int) = 1) := by omega
  have z1' : ((n : Int) == 1) = false := by rw [beq_eq_false_iff_ne]; omega
  clear hF hn IH hK hR
  go_enter Tryz.func34, Tryz.ntmps34
  go_upto_region 1 with fail
  rw [← HWB.out]
  have e0 : (some ⟨w.heap.size, 0, none⟩ : Option Addr) = some ⟨gl, 0, none⟩ := by rw [HGL.out]
  have e1 : (some ⟨w.heap.size + 1, 0, none⟩ : Option Addr) = some ⟨gl + 1, 0, none⟩ := by rw [HGL.out]
  simp only [e0, e1]
  clear e0 e1
  go_upto_region 7 with (go_at_call 54; refine HSE.out.mono ?_; rintro e w1 ⟨k, rfl, hkn, hk1, hk2, hb1⟩
                         have HO : Hid (Over wB w1) := hb1
                         have HK1 : Hid (k = 0 ∨ bt (ps.getD (k - 1) default).2.1 d = false) := hk1
                         have HK2 : Hid (k = n ∨ bt (ps.getD k default).2.1 d = true) := hk2
                         clear hb1 hk1 hk2 c2 c3 HSE)
  clear z0 z0' z1 z1'
  have HSP : Hid ((ps.take k).map (·.2) = halfL (ps.map (·.2)) d false ∧ (ps.drop k).map (·.2) = halfL (ps.map (·.2)) d true) := search_half HFI.out (by rw [HN.out]; exact hkn) HK1.out (by rw [HN.out]; exact HK2.out)
  have HO1 : Hid (∀ wx, Over w1.drew wx → Over wB wx) := fun wx hx => (HO.out.more (Below.refl _ w1).drew).more hx.out
  have rd : IntKind.i64.wrap ((d : Int) + 1) = ((d + 1 : Nat) : Int) := by rw [IntKind.wrap_i64]; omega
  obtain ⟨o2, HO2⟩ : ∃ o, Hid (o = if cap = k then off else off + k) := ⟨_, rfl⟩
  have hsl := slLo b off n cap k (by omega)
  have hsh := slHi b off n cap k hkn
  rw [← HO2.out] at hsh
  obtain ⟨n2, HN2⟩ : ∃ x, Hid (x = n - k) := ⟨_, rfl⟩
  obtain ⟨cap2, HCAP2⟩ : ∃ x, Hid (x = cap - k) := ⟨_, rfl⟩
  rw [← HN2.out, ← HCAP2.out] at hsh
  obtain ⟨d1, HD1⟩ : ∃ x, Hid (x = d + 1) := ⟨_, rfl⟩
  rw [← HD1.out] at rd
  have HCA : Hid (∀ wx, Over w1.drew wx → Calls Tryz.prog 34 #[.slice (some ⟨b, off, none⟩) k cap, .int .i64 (d1 : Int)] wx fun e w' => ∃ g, e = .returned (.pointer (some ⟨g, 0, none⟩)) ∧ TreeIs w' (d + 1) g (halfL (ps.map (·.2)) d false) ∧ Below wx.heap.size wx w') := fun wx hx => by
    have := HIH.out (some ⟨b, off, none⟩) b off k cap (ps.take k) wx (HK.out.below (HO1.out wx hx).out HK.out.lt) (HR.out.next (HO1.out wx hx).out).take (by rw [List.length_take, HN.out]; omega) (by omega) (Or.inr rfl) (by omega) (by rw [HSP.out.1]; exact HFI.out.half _)
    rw [HSP.out.1] at this
    rw [HD1.out]
    exact this
  have HCB : Hid (∀ wx, Over w1.drew wx → Calls Tryz.prog 34 #[.slice (some ⟨b, o2, none⟩) n2 cap2, .int .i64 (d1 : Int)] wx fun e w' => ∃ g, e = .returned (.pointer (some ⟨g, 0, none⟩)) ∧ TreeIs w' (d + 1) g (halfL (ps.map (·.2)) d true) ∧ Below wx.heap.size wx w') := fun wx hx => by
    have hrow : LvRow wx b o2 (ps.drop k) := by
      by_cases e : cap = k
      · have h0 : ps.drop k = [] := List.drop_eq_nil_of_le (by rw [HN.out]; omega)
        rw [h0]
        exact ⟨fun j hj => absurd hj (Nat.not_lt_zero _), fun q hq => by simp at hq⟩
      · rw [HO2.out, if_neg e]
        exact (HR.out.next (HO1.out wx hx).out).drop
    have := HIH.out (some ⟨b, o2, none⟩) b o2 n2 cap2 (ps.drop k) wx (HK.out.below (HO1.out wx hx).out HK.out.lt) hrow (by rw [List.length_drop, HN.out, HN2.out]) (by rw [HN2.out, HCAP2.out]; omega) (Or.inr rfl) (by rw [HN2.out]; omega) (by rw [HSP.out.2]; exact HFI.out.half _)
    rw [HSP.out.2] at this
    rw [HD1.out]
    exact this
  have k0 : (0 : Int) ≤ (k : Int) := by omega
  refine wp_region_held_drew (S := Over w1.drew) (by kernel_rfl) (Over.refl _) ?_
  intro hS
  refine wpAnyH_take (i := 0) (v := .slice (some ⟨b, off, none⟩) n cap) rfl (by kernel_rfl) (by kernel_rfl) (by kernel_rfl) (fun _ _ _ h => h) (Or.inl ⟨by rfl, fun wx hx => by (have hc := HC2.out wx (HO1.out wx hx); simp [go_sem, hc])⟩) hS ?_
  simp only [Act.put, List.getElem_toArray, List.getElem_cons_zero, List.setIfInBounds_toArray, List.set_cons_zero, List.set_cons_succ]
  refine wpAnyH_take (i := 1) (v := .int .i64 (k : Int)) rfl (by kernel_rfl) (by kernel_rfl) (by kernel_rfl) (fun _ _ _ h => h) (Or.inl ⟨by rfl, fun wx hx => by simp [go_sem]⟩) hS ?_
  simp only [Act.put, List.getElem_toArray, List.getElem_cons_succ, List.getElem_cons_zero, List.setIfInBounds_toArray, List.set_cons_zero, List.set_cons_succ]
  refine wpAnyH_take (i := 2) (v := .slice (some ⟨b, off, none⟩) k cap) rfl (by kernel_rfl) (by kernel_rfl) (by kernel_rfl) (fun _ _ _ h => h) (Or.inl ⟨by rfl, fun wx hx => by simp [execOp, Act.eval, hsl]⟩) hS ?_
  simp only [Act.put, List.getElem_toArray, List.getElem_cons_succ, List.getElem_cons_zero, List.setIfInBounds_toArray, List.set_cons_zero, List.set_cons_succ]
  refine wpAnyH_take (i := 3) (v := .int .i64 (d : Int)) rfl (by kernel_rfl) (by kernel_rfl) (by kernel_rfl) (fun _ _ _ h => h) (Or.inl ⟨by rfl, fun wx hx => by (have hc := HC3.out wx (HO1.out wx hx); simp [go_sem, hc])⟩) hS ?_
  simp only [Act.put, List.getElem_toArray, List.getElem_cons_succ, List.getElem_cons_zero, List.setIfInBounds_toArray, List.set_cons_zero, List.set_cons_succ]
  refine wpAnyH_take (i := 4) (v := .int .i64 (d1 : Int)) rfl (by kernel_rfl) (by kernel_rfl) (by kernel_rfl) (fun _ _ _ h => h) (Or.inl ⟨by rfl, fun wx hx => by simp [go_sem, rd]⟩) hS ?_
  simp only [Act.put, List.getElem_toArray, List.getElem_cons_succ, List.getElem_cons_zero, List.setIfInBounds_toArray, List.set_cons_zero, List.set_cons_succ]
  refine wpAnyH_take (i := 6) (v := .slice (some ⟨b, off, none⟩) n cap) rfl (by kernel_rfl) (by kernel_rfl) (by kernel_rfl) (fun _ _ _ h => h) (Or.inl ⟨by rfl, fun wx hx => by (have hc := HC2.out wx (HO1.out wx hx); simp [go_sem, hc])⟩) hS ?_
  simp only [Act.put, List.getElem_toArray, List.getElem_cons_succ, List.getElem_cons_zero, List.setIfInBounds_toArray, List.set_cons_zero, List.set_cons_succ]
  refine wpAnyH_take (i := 7) (v := .int .i64 (k : Int)) rfl (by kernel_rfl) (by kernel_rfl) (by kernel_rfl) (fun _ _ _ h => h) (Or.inl ⟨by rfl, fun wx hx => by simp [go_sem]⟩) hS ?_
  simp only [Act.put, List.getElem_toArray, List.getElem_cons_succ, List.getElem_cons_zero, List.setIfInBounds_toArray, List.set_cons_zero, List.set_cons_succ]
  refine wpAnyH_take (i := 8) (v := .slice (some ⟨b, o2, none⟩) n2 cap2) rfl (by kernel_rfl) (by kernel_rfl) (by kernel_rfl) (fun _ _ _ h => h) (Or.inl ⟨by rfl, fun wx hx => by simp [execOp, Act.eval, hsh]⟩) hS ?_
  simp only [Act.put, List.getElem_toArray, List.getElem_cons_succ, List.getElem_cons_zero, List.setIfInBounds_toArray, List.set_cons_zero, List.set_cons_succ]
  refine wpAnyH_take (i := 9) (v := .int .i64 (d : Int)) rfl (by kernel_rfl) (by kernel_rfl) (by kernel_rfl) (fun _ _ _ h => h) (Or.inl ⟨by rfl, fun wx hx => by (have hc := HC3.out wx (HO1.out wx hx); simp [go_sem, hc])⟩) hS ?_
  simp only [Act.put, List.getElem_toArray, List.getElem_cons_succ, List.getElem_cons_zero, List.setIfInBounds_toArray, List.set_cons_zero, List.set_cons_succ]
  refine wpAnyH_take (i := 10) (v := .int .i64 (d1 : Int)) rfl (by kernel_rfl) (by kernel_rfl) (by kernel_rfl) (fun _ _ _ h => h) (Or.inl ⟨by rfl, fun wx hx => by simp [go_sem, rd]⟩) hS ?_
  simp only [Act.put, List.getElem_toArray, List.getElem_cons_succ, List.getElem_cons_zero, List.setIfInBounds_toArray, List.set_cons_zero, List.set_cons_succ]
  refine wpAnyH_enter 5 (by kernel_rfl) rfl (by rfl) (f := 34) (args := #[.slice (some ⟨b, off, none⟩) k cap, .int .i64 (d1 : Int)]) (by simp [go_sem]) (HCA.out _ hS) ?_
  rintro e wy ⟨g0, rfl, ht0, hbq⟩
  refine ⟨_, rfl, hS.more hbq, ?_⟩
  replace hS := hS.more hbq
  clear hbq
  simp only [Act.put, List.getElem_toArray, List.getElem_cons_succ, List.getElem_cons_zero, List.setIfInBounds_toArray, List.set_cons_zero, List.set_cons_succ]
  refine wpAnyH_enter 11 (by kernel_rfl) rfl (by rfl) (f := 34) (args := #[.slice (some ⟨b, o2, none⟩) n2 cap2, .int .i64 (d1 : Int)]) (by simp [go_sem]) (HCB.out _ hS) ?_
  rintro e wz ⟨g1, rfl, ht1, hbq⟩
  replace ht0 := ht0.next hbq
  refine ⟨_, rfl, hS.more hbq, ?_⟩
  replace hS := hS.more hbq
  clear hbq
  simp only [Act.put, List.getElem_toArray, List.getElem_cons_succ, List.getElem_cons_zero, List.setIfInBounds_toArray, List.set_cons_zero, List.set_cons_succ]
  obtain ⟨ix0, vl0, p0, q0, hc0⟩ := ht0.cells
  obtain ⟨ix1, vl1, p1, q1, hc1⟩ := ht1.cells
  have hlen : (halfL (ps.map (·.2)) d false).length + (halfL (ps.map (·.2)) d true).length = (ps.map (·.2)).length := (half_len HFI.out).symm
  refine wpAnyH_enter 12 (by kernel_rfl) rfl (by rfl) (f := 57) (args := #[.pointer (some ⟨g0, 0, none⟩), .pointer (some ⟨g1, 0, none⟩)]) (by simp [go_sem]) (trJoined_any g0 g1 _ _ _ _ _ _ _ _ _ _ _ _ wz (HK.out.below (HO1.out _ hS).out HK.out.lt) hc0 hc1 (by rw [hlen, List.length_map, HN.out]; omega)) ?_
  rintro e wn ⟨g, rfl, hcg, hbq⟩
  replace ht0 := ht0.next hbq
  replace ht1 := ht1.next hbq
  refine ⟨_, rfl, hS.more hbq, ?_⟩
  replace hS := hS.more hbq
  clear hbq
  have HTR : Hid (TreeIs wn d g (ps.map (·.2))) := by
    rw [hlen] at hcg
    refine .node d g g0 g1 _ (by rw [List.length_map, HN.out]; exact h2) HFI.out ht0 ht1 ?_
    rw [rootL_two HFI.out (by rw [List.length_map, HN.out]; exact h2)]
    exact hcg
  clear ht0 ht1 hc0 hc1 hcg hlen
  simp only [Act.put, List.getElem_toArray, List.getElem_cons_succ, List.getElem_cons_zero, List.setIfInBounds_toArray, List.set_cons_zero, List.set_cons_succ]
  refine wpAnyH_take (i := 13) (v := .pointer (some ⟨g, 0, none⟩)) rfl (by kernel_rfl) (by kernel_rfl) (by kernel_rfl) (fun _ _ _ h => h) (Or.inl ⟨by rfl, fun wx hx => by simp [go_sem]⟩) hS ?_
  simp only [Act.put, List.getElem_toArray, List.getElem_cons_succ, List.getElem_cons_zero, List.setIfInBounds_toArray, List.set_cons_zero, List.set_cons_succ]
  refine wpAnyH_done (by kernel_rfl) ?_ _
  go_wp2_with fail
  go_ret
  exact ⟨g, rfl, HTR.out, ((HO1.out _ hS).after HBW.out)⟩
theorem trBelow_any : ∀ (f d : Nat) (ad : Option Addr) (b off n cap : Nat) (ps : List (Nat × Lf)) (w : World), 256 ≤ d + f → KOk w → LvRow w b off ps → ps.length = n → n ≤ cap → (n = 0 ∨ ad = some ⟨b, off, none⟩) → n < 100000 → Fits (ps.map (·.2)) d → Calls Tryz.prog 34 #[.slice ad n cap, .int .i64 (d : Int)] w fun e w' => ∃ g, e = .returned (.pointer (some ⟨g, 0, none⟩)) ∧ TreeIs w' d g (ps.map (·.2)) ∧ Below w.heap.size w w'
  | f, d, ad, b, off, n, cap, ps, w, hf, hK, hR, hn, hcap, had, hn2, hF => by
    match n, had with
    | 0, _ =>
      have : ps = [] := List.length_eq_zero_iff.1 hn
      subst this
      exact trBelow_nil ad cap d w hK
    | 1, had =>
      obtain ⟨q, hq⟩ : ∃ q, ps = [q] := List.length_eq_one_iff.1 hn
      subst hq
      have e : ad = some ⟨b, off, none⟩ := by rcases had with h | h; cases h; exact h
      subst e
      exact trBelow_one b off cap d q w hR
    | n + 2, had =>
      have e : ad = some ⟨b, off, none⟩ := by rcases had with h | h; cases h; exact h
      subst e
      have hd : d < 256 := hF.lt (by rw [List.length_map]; omega)
      match f with
      | 0 => omega
      | f + 1 => exact trBelow_many b off (n + 2) cap d ps w (fun ad b off n cap ps w h1 h2 h3 h4 h5 h6 h7 => trBelow_any f (d + 1) ad b off n cap ps w (by omega) h1 h2 h3 h4 h5 h6 h7) hK hR hn hcap (by omega) hn2 hF
end Go.Proofs.YtphmmnffgknkcabGreatDoor
namespace Go.Proofs.YtphmmnffgknkcabGreatDoor
open Go.Sort
set_option maxRecDepth 100000
variable {α : Type} [Inhabited α] {lt : α → α → Bool} {R : α → α → Prop}
def Ris (R : α → α → Prop) (a b : Nat) (d : Array α) : Prop := ∀ i j, a ≤ i → i < j → j < b → R d[i]! d[j]!
structure Keep (lt : α → α → Bool) (R : α → α → Prop) : Prop where
  tr : ∀ x y z, R x y → R y z → R x z
  lr : ∀ x y, lt x y = true → R x y
def Ahead (lt : α → α → Bool) (R : α → α → Prop) (a m b : Nat) (d : Array α) : Prop := ∀ i j, a ≤ i → i < m → m ≤ j → j < b → lt d[j]! d[i]! = false → R d[i]! d[j]!
theorem Ahead.mono {a m b a' m' b' : Nat} {d : Array α} (h : Ahead lt R a m b d) (h1 : a ≤ a') (h2 : m' ≤ m) (h3 : m ≤ m') (h4 : b' ≤ b) : Ahead lt R a' m' b' d := fun i j hi hi2 hj hj2 => h i j (by omega) (by omega) (by omega) (by omega)
theorem Ris.mono {a b a' b' : Nat} {d : Array α} (h : Ris R a b d) (h1 : a ≤ a') (h2 : b' ≤ b) : Ris R a' b' d := fun i j hi hij hj => h i j (by omega) hij (by omega)
theorem Ris.glue {a q b : Nat} {d : Array α} (h1 : Ris R a q d) (h2 : Ris R q b d) (hc : ∀ i j, a ≤ i → i < q → q ≤ j → j < b → R d[i]! d[j]!) : Ris R a b d := by
  intro i j hi hij hj
  by_cases hq : j < q
  · exact h1 i j hi hij hq
  · by_cases hq2 : i < q
    · exact hc i j hi hq2 (by omega) hj
    · exact h2 i j (by omega) hij hj
theorem Ris.le (K : Keep lt R) {a b i j : Nat} {d : Array α} {y : α} (h : Ris R a b d) (hi : a ≤ i) (hij : i ≤ j) (hj : j < b) (hy : R d[j]! y) : R d[i]! y := by
  by_cases e : i = j
  · rw [e]; exact hy
  · exact K.tr _ _ _ (h i j hi (by omega) hj) hy
theorem Ris.ge (K : Keep lt R) {a b i j : Nat} {d : Array α} {y : α} (h : Ris R a b d) (hi : a ≤ i) (hij : i ≤ j) (hj : j < b) (hy : R y d[i]!) : R y d[j]! := by
  by_cases e : i = j
  · rw [← e]; exact hy
  · exact K.tr _ _ _ hy (h i j hi (by omega) hj)
structure Rot (s m e : Nat) (d d' : Array α) : Prop where
  le1 : s ≤ m
  le2 : m ≤ e
  hi : e ≤ d.size
  fst : ∀ k, s ≤ k → k < s + (e - m) → d'[k]! = d[k + (m - s)]!
  snd : ∀ k, s + (e - m) ≤ k → k < e → d'[k]! = d[k - (e - m)]!
  perm : PermIn s e d d'
theorem Rot.size {s m e : Nat} {d d' : Array α} (h : Rot s m e d d') : d'.size = d.size := h.perm.1
theorem Rot.out {s m e : Nat} {d d' : Array α} (h : Rot s m e d d') (k : Nat) (hk : k < s ∨ e ≤ k) : d'[k]! = d[k]! := h.perm.2.1 k hk
theorem Rot.none {s m e : Nat} {d : Array α} (h1 : s ≤ m) (h2 : m ≤ e) (h3 : e ≤ d.size) (h : s = m ∨ m = e) : Rot s m e d d := by
  refine ⟨h1, h2, h3, fun k hk hk2 => ?_, fun k hk hk2 => ?_, permIn_refl _ _ _⟩
  · congr 1; omega
  · congr 1; omega
structure Mid (lt : α → α → Bool) (R : α → α → Prop) (a s q e b : Nat) (d : Array α) : Prop where
  r1 : Ris R a s d
  r2 : Ris R s q d
  r3 : Ris R q e d
  r4 : Ris R e b d
  a1 : Ahead lt R a s q d
  a2 : Ahead lt R q e b d
  cross : ∀ i j, a ≤ i → i < q → q ≤ j → j < b → R d[i]! d[j]!
theorem rot_mid (K : Keep lt R) {a s m e b : Nat} {d d' : Array α} (h1 : Ris R a m d) (h2 : Ris R m b d) (hx : Ahead lt R a m b d) (hr : Rot s m e d d') (has : a ≤ s) (heb : e ≤ b) (hlo : (s = a ∨ e = b) ∨ lt d[e]! d[s - 1]! = false) (hhi : (s = m ∨ e = m) ∨ lt d[e - 1]! d[s]! = true) : Mid lt R a s (s + (e - m)) e b d' := by
  have l1 := hr.le1
  have l2 := hr.le2
  refine ⟨?_, ?_, ?_, ?_, ?_, ?_, ?_⟩
  · intro i j hi hij hj
    rw [hr.out i (by omega), hr.out j (by omega)]
    exact h1 i j hi hij (by omega)
  · intro i j hi hij hj
    rw [hr.fst i (by omega) (by omega), hr.fst j (by omega) (by omega)]
    exact h2 _ _ (by omega) (by omega) (by omega)
  · intro i j hi hij hj
    rw [hr.snd i (by omega) (by omega), hr.snd j (by omega) (by omega)]
    exact h1 _ _ (by omega) (by omega) (by omega)
  · intro i j hi hij hj
    rw [hr.out i (by omega), hr.out j (by omega)]
    exact h2 i j (by omega) hij hj
  · intro i j hi hi2 hj hj2
    rw [hr.out i (by omega), hr.fst j (by omega) (by omega)]
    exact hx _ _ hi (by omega) (by omega) (by omega)
  · intro i j hi hi2 hj hj2
    rw [hr.snd i (by omega) (by omega), hr.out j (by omega)]
    exact hx _ _ (by omega) (by omega) (by omega) (by omega)
  · intro i j hi hi2 hj hj2
    by_cases c1 : i < s
    · rw [hr.out i (by omega)]
      by_cases c2 : j < e
      · rw [hr.snd j (by omega) c2]
        exact h1 _ _ hi (by omega) (by omega)
      · rw [hr.out j (by omega)]
        rcases hlo with h | h
        · omega
        · have := hx (s - 1) e (by omega) (by omega) (by omega) (by omega) h
          exact Ris.le K h1 hi (show i ≤ s - 1 by omega) (by omega) (Ris.ge K h2 (show m ≤ e by omega) (by omega) hj2 this)
    · rw [hr.fst i (by omega) (by omega)]
      by_cases c2 : j < e
      · rw [hr.snd j (by omega) c2]
        rcases hhi with h | h
        · omega
        · have := K.lr _ _ h
          exact Ris.le K h2 (by omega) (show i + (m - s) ≤ e - 1 by omega) (by omega) (Ris.ge K h1 (show a ≤ s by omega) (by omega) (by omega) this)
      · rw [hr.out j (by omega)]
        exact h2 _ _ (by omega) (by omega) hj2
def Merged (R : α → α → Prop) (a b : Nat) (d d' : Array α) : Prop := PermIn a b d d' ∧ Ris R a b d'
theorem PermIn.wide {a b a' b' : Nat} {d d' : Array α} (h : PermIn a b d d') (h1 : a' ≤ a) (h2 : b ≤ b') (h3 : b' ≤ d.size) : PermIn a' b' d d' := permIn_mono d d' a b a' b' h1 h2 h3 h
theorem one_left (K : Keep lt R) {a m b i : Nat} {d d' : Array α} (hm : m = a + 1) (h2 : Ris R m b d) (hx : Ahead lt R a m b d) (hb : b ≤ d.size) (hi : i ≤ b) (hr : Rot a m i d d') (hlo : i = b ∨ lt d[i]! d[a]! = false) (hhi : i = m ∨ lt d[i - 1]! d[a]! = true) : Merged R a b d d' := by
  subst hm
  have l2 := hr.le2
  have h1 : Ris R a (a + 1) d := fun i j h1 h2 h3 => by omega
  have hM := rot_mid K h1 h2 hx hr (Nat.le_refl _) hi (Or.inl (Or.inl rfl)) (by rcases hhi with h | h; exact Or.inl (Or.inr h); exact Or.inr h)
  refine ⟨PermIn.wide hr.perm (Nat.le_refl _) hi hb, Ris.glue (q := a + (i - (a + 1))) hM.r2 (Ris.glue (q := i) hM.r3 hM.r4 ?_) hM.cross⟩
  intro k j hk hk2 hj hj2
  rw [hr.snd k hk hk2, hr.out j (by omega)]
  rcases hlo with h | h
  · omega
  · have e : k - (i - (a + 1)) = a := by omega
    rw [e]
    exact Ris.ge K h2 (by omega) hj hj2 (hx a i (by omega) (by omega) (by omega) (by omega) h)
theorem one_right (K : Keep lt R) {a m b i : Nat} {d d' : Array α} (hm : b = m + 1) (h1 : Ris R a m d) (hx : Ahead lt R a m b d) (hb : b ≤ d.size) (hi : a ≤ i) (hr : Rot i m b d d') (hlo : i = a ∨ lt d[m]! d[i - 1]! = false) (hhi : i = m ∨ lt d[m]! d[i]! = true) : Merged R a b d d' := by
  subst hm
  have l1 := hr.le1
  have h2 : Ris R m (m + 1) d := fun i j h1 h2 h3 => by omega
  have hM := rot_mid K h1 h2 hx hr hi (Nat.le_refl _) (Or.inl (Or.inr rfl)) (by rcases hhi with h | h; exact Or.inl (Or.inl h); exact Or.inr h)
  refine ⟨PermIn.wide hr.perm hi (Nat.le_refl _) hb, Ris.glue (q := i + (m + 1 - m)) (Ris.glue (q := i) hM.r1 hM.r2 ?_) (Ris.glue (q := m + 1) hM.r3 hM.r4 (fun _ _ _ _ h3 h4 => by omega)) hM.cross⟩
  intro k j hk hk2 hj hj2
  rw [hr.out k (by omega), hr.fst j (by omega) (by omega)]
  rcases hlo with h | h
  · omega
  · have e : j + (m - i) = m := by omega
    rw [e]
    exact Ris.le K h1 hk (show k ≤ i - 1 by omega) (by omega) (hx (i - 1) m (by omega) (by omega) (by omega) (by omega) h)
theorem both {a mid b : Nat} {d d1 d2 d3 : Array α} (h1 : PermIn a b d d1) (hb : b ≤ d.size) (ham : a ≤ mid) (hmb : mid ≤ b) (hc : ∀ i j, a ≤ i → i < mid → mid ≤ j → j < b → R d1[i]! d1[j]!) (m1 : Merged R a mid d1 d2) (m2 : Merged R mid b d2 d3) : Merged R a b d d3 := by
  have s1 : d1.size = d.size := h1.1
  have s2 : d2.size = d1.size := m1.1.1
  have p1 : PermIn a b d1 d2 := PermIn.wide m1.1 (Nat.le_refl _) hmb (by omega)
  have p2 : PermIn a b d2 d3 := PermIn.wide m2.1 ham (Nat.le_refl _) (by omega)
  refine ⟨permIn_trans _ _ _ _ _ (permIn_trans _ _ _ _ _ h1 p1) p2, Ris.glue (q := mid) ?_ m2.2 ?_⟩
  · intro i j hi hij hj
    rw [m2.1.2.1 i (by omega), m2.1.2.1 j (by omega)]
    exact m1.2 i j hi hij hj
  · intro i j hi hi2 hj hj2
    rw [m2.1.2.1 i (by omega)]
    have A := permIn_all d1 d2 a mid (fun x => ∀ j, mid ≤ j → j < b → R x d1[j]!) (by omega) m1.1 (fun i hi hi2 j hj hj2 => hc i j hi hi2 hj hj2) i hi hi2
    have B := permIn_all d2 d3 mid b (fun y => R d2[i]! y) (by omega) m2.1 (fun j hj hj2 => by rw [m1.1.2.1 j (by omega)]; exact A j hj hj2) j hj hj2
    exact B
theorem Merged.none {a b : Nat} {d : Array α} (h : Ris R a b d) : Merged R a b d d := ⟨permIn_refl _ _ _, h⟩
def Stood (lt : α → α → Bool) (R : α → α → Prop) (a b : Nat) (d : Array α) : Prop := ∀ i j, a ≤ i → i < j → j < b → lt d[j]! d[i]! = false → R d[i]! d[j]!
def Cut (lt : α → α → Bool) (R : α → α → Prop) (c n : Nat) (d : Array α) : Prop := Ahead lt R 0 c n d
theorem Cut.perm {c n a b : Nat} {d d' : Array α} (h : Cut lt R c n d) (hp : PermIn a b d d') (hb : b ≤ d.size) (hbn : b ≤ n) (hc : b ≤ c ∨ c ≤ a) : Cut lt R c n d' := by
  intro i j hi hi2 hj hj2
  rcases hc with hc | hc
  · rw [hp.2.1 j (by omega)]
    by_cases c1 : a ≤ i ∧ i < b
    · exact permIn_all d d' a b (fun x => lt d[j]! x = false → R x d[j]!) hb hp (fun k hk hk2 => h k j (by omega) (by omega) hj hj2) i c1.1 c1.2
    · rw [hp.2.1 i (by omega)]
      exact h i j hi hi2 hj hj2
  · rw [hp.2.1 i (by omega)]
    by_cases c1 : a ≤ j ∧ j < b
    · exact permIn_all d d' a b (fun y => lt y d[i]! = false → R d[i]! y) hb hp (fun k hk hk2 => h i k (by omega) (by omega) (by omega) (by omega)) j c1.1 c1.2
    · rw [hp.2.1 j (by omega)]
      exact h i j hi hi2 hj hj2
theorem Ris.other {a b a' b' : Nat} {d d' : Array α} (h : Ris R a' b' d) (hp : PermIn a b d d') (hc : b' ≤ a ∨ b ≤ a') : Ris R a' b' d' := by
  intro i j hi hij hj
  rw [hp.2.1 i (by omega), hp.2.1 j (by omega)]
  exact h i j hi hij hj
end Go.Proofs.YtphmmnffgknkcabGreatDoor
namespace Go.Proofs.YtphmmnffgknkcabGreatDoor
open Go.Sort
set_option maxRecDepth 100000
variable {α : Type} [Inhabited α]
def swaps (a b : Nat) : Nat → Array α → Array α
  | 0, d => d
  | k + 1, d => swp (swaps a b k d) (a + k) (b + k)
theorem size_swaps (a b k : Nat) (d : Array α) : (swaps a b k d).size = d.size := by
  induction k with
  | zero => rfl
  | succ k ih => rw [swaps, size_swp, ih]
theorem swaps_other (a b k : Nat) (d : Array α) (x : Nat) (h1 : x < a ∨ a + k ≤ x) (h2 : x < b ∨ b + k ≤ x) : (swaps a b k d)[x]! = d[x]! := by
  induction k with
  | zero => rfl
  | succ k ih => rw [swaps, swp_other _ _ _ _ (by omega) (by omega), ih (by omega) (by omega)]
theorem swaps_fst (a b k : Nat) (d : Array α) (hab : a + k ≤ b) (hb : b + k ≤ d.size) (x : Nat) (h1 : a ≤ x) (h2 : x < a + k) : (swaps a b k d)[x]! = d[x + (b - a)]! := by
  induction k with
  | zero => omega
  | succ k ih =>
    rw [swaps]
    by_cases e : x = a + k
    · rw [e, swp_left _ _ _ (by rw [size_swaps]; omega) (by omega), swaps_other _ _ _ _ _ (by omega) (by omega)]
      congr 1; omega
    · rw [swp_other _ _ _ _ (by omega) (by omega)]
      exact ih (by omega) (by omega) (by omega)
theorem swaps_snd (a b k : Nat) (d : Array α) (hab : a + k ≤ b) (hb : b + k ≤ d.size) (x : Nat) (h1 : b ≤ x) (h2 : x < b + k) : (swaps a b k d)[x]! = d[x - (b - a)]! := by
  induction k with
  | zero => omega
  | succ k ih =>
    rw [swaps]
    by_cases e : x = b + k
    · rw [e, swp_right _ _ _ (by rw [size_swaps]; omega), swaps_other _ _ _ _ _ (by omega) (by omega)]
      congr 1; omega
    · rw [swp_other _ _ _ _ (by omega) (by omega)]
      exact ih (by omega) (by omega) (by omega)
theorem swaps_perm (a b k lo hi : Nat) (d : Array α) (h1 : lo ≤ a) (h2 : a + k ≤ hi) (h3 : lo ≤ b) (h4 : b + k ≤ hi) (hh : hi ≤ d.size) : PermIn lo hi d (swaps a b k d) := by
  induction k with
  | zero => exact permIn_refl _ _ _
  | succ k ih => exact permIn_trans _ _ _ _ _ (ih (by omega) (by omega)) (swp_permIn _ lo hi (a + k) (b + k) (by omega) (by omega) (by omega) (by omega) (by rw [size_swaps]; exact hh))
theorem rot_left {m i j : Nat} {d d' : Array α} (him : i ≤ m) (hji : j < i) (hs : m + j ≤ d.size) (h : Rot (m - (i - j)) m (m + j) (swaps (m - i) m j d) d') : Rot (m - i) m (m + j) d d' := by
  have h2 := h.perm
  refine ⟨by omega, by omega, hs, fun k hk hk2 => ?_, fun k hk hk2 => ?_, permIn_trans _ _ _ _ _ (swaps_perm _ _ _ (m - i) (m + j) d (by omega) (by omega) (by omega) (by omega) hs) (PermIn.wide h2 (by omega) (by omega) (by rw [size_swaps]; exact hs))⟩
  · rw [h.out k (by omega), swaps_fst _ _ _ _ (by omega) hs k hk (by omega)]
  · by_cases c : k < m
    · by_cases c2 : k < m - (i - j) + (m + j - m)
      · rw [h.fst k (by omega) c2, swaps_snd _ _ _ _ (by omega) hs _ (by omega) (by omega)]
        congr 1; omega
      · rw [h.snd k (by omega) (by omega), swaps_other _ _ _ _ _ (by omega) (by omega)]
    · by_cases c2 : k < m - (i - j) + (m + j - m)
      · rw [h.fst k (by omega) c2, swaps_snd _ _ _ _ (by omega) hs _ (by omega) (by omega)]
        congr 1; omega
      · rw [h.snd k (by omega) (by omega), swaps_other _ _ _ _ _ (by omega) (by omega)]
theorem rot_right {m i j : Nat} {d d' : Array α} (him : i ≤ m) (hij : i < j) (hs : m + j ≤ d.size) (h : Rot (m - i) m (m + (j - i)) (swaps (m - i) (m + j - i) i d) d') : Rot (m - i) m (m + j) d d' := by
  have h2 := h.perm
  refine ⟨by omega, by omega, hs, fun k hk hk2 => ?_, fun k hk hk2 => ?_, permIn_trans _ _ _ _ _ (swaps_perm _ _ _ (m - i) (m + j) d (by omega) (by omega) (by omega) (by omega) hs) (PermIn.wide h2 (by omega) (by omega) (by rw [size_swaps]; exact hs))⟩
  · by_cases c2 : k < m - i + (m + (j - i) - m)
    · rw [h.fst k (by omega) c2, swaps_other _ _ _ _ _ (by omega) (by omega)]
    · rw [h.snd k (by omega) (by omega), swaps_fst _ _ _ _ (by omega) (by omega) _ (by omega) (by omega)]
      congr 1; omega
  · rw [h.out k (by omega), swaps_snd _ _ _ _ (by omega) (by omega) k (by omega) (by omega)]
    congr 1; omega
theorem rot_even {m i : Nat} {d : Array α} (him : i ≤ m) (hs : m + i ≤ d.size) : Rot (m - i) m (m + i) d (swaps (m - i) m i d) := by
  refine ⟨by omega, by omega, hs, fun k hk hk2 => ?_, fun k hk hk2 => ?_, swaps_perm _ _ _ (m - i) (m + i) d (by omega) (by omega) (by omega) (by omega) hs⟩
  · rw [swaps_fst _ _ _ _ (by omega) hs k hk (by omega)]
  · rw [swaps_snd _ _ _ _ (by omega) hs k (by omega) (by omega)]
    congr 1; omega
theorem rot_up {a k : Nat} {d d' : Array α} (hs : a + 1 + k < d.size) (h : Rot a (a + 1) (a + 1 + k) d d') : Rot a (a + 1) (a + 1 + (k + 1)) d (swp d' (a + k) (a + k + 1)) := by
  have hz := h.size
  refine ⟨by omega, by omega, by omega, fun x hx hx2 => ?_, fun x hx hx2 => ?_, ?_⟩
  · by_cases e : x = a + k
    · rw [e, swp_left _ _ _ (by omega) (by omega), h.out _ (by omega)]
      congr 1; omega
    · rw [swp_other _ _ _ _ e (by omega), h.fst x hx (by omega)]
  · have e : x = a + k + 1 := by omega
    rw [e, swp_right _ _ _ (by omega), h.snd _ (by omega) (by omega)]
    congr 1; omega
  · exact permIn_trans _ _ _ _ _ (PermIn.wide h.perm (Nat.le_refl _) (by omega) (by omega)) (swp_permIn _ _ _ _ _ (by omega) (by omega) (by omega) (by omega) (by omega))
theorem rot_down {m k : Nat} {d d' : Array α} (hk : k < m) (hs : m < d.size) (h : Rot (k + 1) m (m + 1) d d') : Rot k m (m + 1) d (swp d' (k + 1) k) := by
  have hz := h.size
  refine ⟨by omega, by omega, by omega, fun x hx hx2 => ?_, fun x hx hx2 => ?_, ?_⟩
  · have e : x = k := by omega
    rw [e, swp_right _ _ _ (by omega), h.fst _ (by omega) (by omega)]
    congr 1; omega
  · by_cases e : x = k + 1
    · rw [e, swp_left _ _ _ (by omega) (by omega), h.out _ (by omega)]
      congr 1; omega
    · rw [swp_other _ _ _ _ e (by omega), h.snd x (by omega) hx2]
  · exact permIn_trans _ _ _ _ _ (PermIn.wide h.perm (by omega) (Nat.le_refl _) (by omega)) (swp_permIn _ _ _ _ _ (by omega) (by omega) (by omega) (by omega) (by omega))
end Go.Proofs.YtphmmnffgknkcabGreatDoor
namespace Go.Proofs.YtphmmnffgknkcabGreatDoor
open Go.Shelf Go.RowKit Go.Lib Go.Sort
set_option maxRecDepth 100000
variable {α : Type} [Inhabited α]
set_option maxHeartbeats 4000000 in
set_option maxRecDepth 1000000 in
theorem swapRange_any (enc : α → Value) (g : Nat) (cb : Array Value) (blk off L cap a b n : Nat) (d0 d : Array α) (w0 w : World) (R : Row1 enc w0 blk off d0) (hs : d0.size = d.size) (hL : d.size = L) (S : SW enc w0 blk off d w) (hab : a + n ≤ b) (hb : b + n ≤ d.size) (hsz : d.size < 4611686018427387904) :
    Calls Tryz.prog 116 #[.slice (some ⟨blk, off, none⟩) L cap, .int .i64 a, .int .i64 b, .int .i64 n, .func (.func g) #[] cb] w fun e w' => e = .returned (.tuple #[]) ∧ SW enc w0 blk off (swaps a b n d) w' := by
  have mixed : Tryz.prog.follows .mixedOrders = true := by kernel_rfl
  have hcl0 := R.hO.cells
  simp only [Value.cells] at hcl0
  have hst := R.hO.store Tryz.prog
  have S0 : Aside (SW enc w0 blk off d w) := S
  clear S
  go_enter Tryz.func116, Tryz.ntmps116
  go_wp2
  go_loopg [10] n (fun kx s10 wr => ∃ (i : Nat) (dk : Array α), s10 = .int .i64 i ∧ i ≤ n ∧ n - i ≤ kx ∧ dk.size = d.size ∧ Aside (SW enc w0 blk off dk wr) ∧ Hid (dk = swaps a b i d))
  case atStart => exact ⟨0, d, rfl, by omega, by omega, rfl, S0, rfl⟩
  case round =>
    clear S0
    obtain ⟨i, dk, rfl, hin, hkx, hds, S1, HE⟩ := hrel
    by_cases hlt : i < n
    · have hltz : (i : Int) < (n : Int) := by omega
      go_wp2_with fail
      obtain ⟨iN, hiN⟩ : ∃ q, q = a + i := ⟨_, rfl⟩
      obtain ⟨jN, hjN⟩ : ∃ q, q = b + i := ⟨_, rfl⟩
      have ea : ((a : Int) + (i : Int)).toNat = iN := by omega
      have pa : (0 : Int) ≤ (a : Int) + (i : Int) := by omega
      have ba : (a : Int) + (i : Int) < (L : Int) := by omega
      have ra : IntKind.i64.wrap ((a : Int) + (i : Int)) = (a : Int) + (i : Int) := by rw [IntKind.wrap_i64]; omega
      have ec : ((b : Int) + (i : Int)).toNat = jN := by omega
      have pc : (0 : Int) ≤ (b : Int) + (i : Int) := by omega
      have bc : (b : Int) + (i : Int) < (L : Int) := by omega
      have rc : IntKind.i64.wrap ((b : Int) + (i : Int)) = (b : Int) + (i : Int) := by rw [IntKind.wrap_i64]; omega
      obtain ⟨x, hx⟩ : ∃ x, x = dk[a + i]! := ⟨_, rfl⟩
      obtain ⟨y, hy⟩ : ∃ x, x = dk[b + i]! := ⟨_, rfl⟩
      have S2 : Aside (SW enc w0 blk off (swp dk (a + i) (b + i)) ((wr.setCell ⟨blk, off + iN, none⟩ (enc y)).setCell ⟨blk, off + jN, none⟩ (enc x)).drew) := by rw [hiN, hjN, hx, hy]; exact S1.out.swapped R (a + i) (b + i) (by omega) (by omega)
      have ca := S1.out.c1 R (by omega) (a + i) (by omega)
      have cc := S1.out.c1 R (by omega) (b + i) (by omega)
      have fa := S1.out.f1 R (by omega) (a + i) (by omega)
      have fb := S1.out.f1 R (by omega) (b + i) (by omega)
      obtain ⟨u, cu⟩ := S1.out.c2 R (by omega) (a + i) (b + i) (by omega) (by omega) (enc y)
      rw [← hjN, ← hiN] at cu
      rw [← hx, ← hiN] at ca
      rw [← hy, ← hjN] at cc
      rw [← hiN] at fa
      rw [← hjN] at fb
      clear S1 hx hy hiN hjN
      go_wp2_with fail
      go_big_region_o
      clear ca cc cu fa fb
      generalize ((wr.setCell ⟨blk, off + iN, none⟩ (enc y)).setCell ⟨blk, off + jN, none⟩ (enc x)).drew = w2 at S2 ⊢
      clear ea ec
      go_wp2
      go_roundg (n - (i + 1))
      case measure => omega
      case rel => exact ⟨i + 1, swp dk (a + i) (b + i), by go_num, by omega, Nat.le_refl _, by rw [size_swp]; exact hds, S2, (show Hid _ from by show _ = _; rw [HE.out]; rfl)⟩
    · have e : i = n := by omega
      subst e
      have hltz : ¬ (i : Int) < (i : Int) := by omega
      go_wp2
      go_end0
      exact ⟨rfl, by rw [← HE.out]; exact S1.out⟩
set_option maxHeartbeats 4000000 in
set_option maxRecDepth 1000000 in
theorem rotate_any (enc : α → Value) (g : Nat) (cb : Array Value) (blk off L cap a m b : Nat) (d0 d : Array α) (w0 w : World) (R : Row1 enc w0 blk off d0) (hs : d0.size = d.size) (hL : d.size = L) (S : SW enc w0 blk off d w) (ham : a < m) (hmb : m < b) (hb : b ≤ d.size) (hsz : d.size < 4611686018427387904) :
    Calls Tryz.prog 113 #[.slice (some ⟨blk, off, none⟩) L cap, .int .i64 a, .int .i64 m, .int .i64 b, .func (.func g) #[] cb] w fun e w' => e = .returned (.tuple #[]) ∧ ∃ d', Rot a m b d d' ∧ SW enc w0 blk off d' w' := by
  have S0 : Aside (SW enc w0 blk off d w) := S
  have HR : Hid (Row1 enc w0 blk off d0) := R
  have CS : Aside (∀ (a b n : Nat) (dk : Array α) (w : World), dk.size = L → SW enc w0 blk off dk w → a + n ≤ b → b + n ≤ L → Calls Tryz.prog 116 #[.slice (some ⟨blk, off, none⟩) L cap, .int .i64 a, .int .i64 b, .int .i64 n, .func (.func g) #[] cb] w fun e w' => e = .returned (.tuple #[]) ∧ SW enc w0 blk off (swaps a b n dk) w') := fun a b n dk w h1 h2 h3 h4 => swapRange_any enc g cb blk off L cap a b n d0 dk w0 w R (by omega) h1 h2 h3 (by omega) (by omega)
  clear S R
  have r1 : IntKind.i64.wrap ((m : Int) - (a : Int)) = (m : Int) - (a : Int) := by rw [IntKind.wrap_i64]; omega
  have r2 : IntKind.i64.wrap ((b : Int) - (m : Int)) = (b : Int) - (m : Int) := by rw [IntKind.wrap_i64]; omega
  go_enter Tryz.func113, Tryz.ntmps113
  go_wp2
  clear r1 r2
  go_loopg [10, 11] (b - a) (fun kx s10 s11 wr => ∃ (i j : Nat) (dk : Array α), s10 = .int .i64 i ∧ s11 = .int .i64 j ∧ 0 < i ∧ i ≤ m ∧ 0 < j ∧ m + j ≤ L ∧ i + j ≤ kx ∧ dk.size = d.size ∧ Aside (SW enc w0 blk off dk wr) ∧ Hid (∀ d', Rot (m - i) m (m + j) dk d' → Rot a m b d d'))
  case atStart =>
    refine ⟨m - a, b - m, d, by congr 1; omega, by congr 1; omega, by omega, by omega, by omega, by omega, by omega, rfl, S0, fun d' h => ?_⟩
    rw [show m - (m - a) = a by omega, show m + (b - m) = b by omega] at h
    exact h
  case round =>
    clear S0
    obtain ⟨i, j, dk, rfl, rfl, hi0, him, hj0, hjm, hkx, hds, S1, HE⟩ := hrel
    have rm : IntKind.i64.wrap ((m : Int) - (i : Int)) = ((m - i : Nat) : Int) := by rw [IntKind.wrap_i64]; omega
    by_cases hij : i = j
    · subst hij
      have HE' : Hid (Rot a m b d (swaps (m - i) m i dk)) := HE.out _ (rot_even him (by omega))
      have hd : decide ((i : Int) ≠ (i : Int)) = false := decide_eq_false fun h => h rfl
      go_wp2_with (go_at_call 116; refine (CS.out (m - i) m i dk _ (by omega) S1.out (by omega) (by omega)).mono ?_; rintro e w2 ⟨rfl, hS⟩)
      go_end0
      exact ⟨rfl, _, HE'.out, hS⟩
    · have hne : (i : Int) ≠ (j : Int) := by omega
      have hd : decide ((i : Int) ≠ (j : Int)) = true := decide_eq_true hne
      by_cases hgt : j < i
      · have hg : decide ((i : Int) > (j : Int)) = true := decide_eq_true (by omega)
        have hg' : (j : Int) < (i : Int) := by omega
        have ri : IntKind.i64.wrap ((i : Int) - (j : Int)) = ((i - j : Nat) : Int) := by rw [IntKind.wrap_i64]; omega
        go_wp2_with (go_at_call 116; refine (CS.out (m - i) m j dk _ (by omega) S1.out (by omega) (by omega)).mono ?_; rintro e w2 ⟨rfl, hS⟩)
        go_roundg (i - j + j)
        case measure => omega
        case rel => exact ⟨i - j, j, swaps (m - i) m j dk, rfl, rfl, by omega, by omega, hj0, hjm, by omega, by rw [size_swaps]; exact hds, hS, fun d' h => HE.out d' (rot_left him hgt (by omega) h)⟩
      · have hg : decide ((i : Int) > (j : Int)) = false := decide_eq_false (by omega)
        have hg' : ¬ (j : Int) < (i : Int) := by omega
        have ri : IntKind.i64.wrap ((j : Int) - (i : Int)) = ((j - i : Nat) : Int) := by rw [IntKind.wrap_i64]; omega
        have r3 : IntKind.i64.wrap ((m : Int) + (j : Int)) = (m : Int) + (j : Int) := by rw [IntKind.wrap_i64]; omega
        have r4 : IntKind.i64.wrap ((m : Int) + (j : Int) - (i : Int)) = ((m + j - i : Nat) : Int) := by rw [IntKind.wrap_i64]; omega
        go_wp2_with (go_at_call 116; refine (CS.out (m - i) (m + j - i) i dk _ (by omega) S1.out (by omega) (by omega)).mono ?_; rintro e w2 ⟨rfl, hS⟩)
        go_roundg (i + (j - i))
        case measure => omega
        case rel => exact ⟨i, j - i, swaps (m - i) (m + j - i) i dk, rfl, rfl, hi0, him, by omega, by omega, by omega, by rw [size_swaps]; exact hds, hS, fun d' h => HE.out d' (rot_right him (by omega) (by omega) h)⟩
end Go.Proofs.YtphmmnffgknkcabGreatDoor
namespace Go.Proofs.YtphmmnffgknkcabGreatDoor
open Go.Shelf Go.RowKit Go.Lib Go.Sort
set_option maxRecDepth 100000
variable {α : Type} [Inhabited α]
set_option maxHeartbeats 8000000 in
set_option maxRecDepth 1000000 in
theorem symLeft_any (enc : α → Value) (cf : α → α → Int) (Rr : α → α → Prop) (K : Keep (ltOf cf) Rr) (g : Nat) (cb : Array Value) (eg : ∀ args w, (callFunc g args).run Tryz.prog w = .ok (.enter g args) w) (blk off L cap a m b : Nat) (d0 d : Array α) (w0 w : World) (hcmp : CmpLays1 Tryz.prog g cb enc cf blk off d0.size w0) (R : Row1 enc w0 blk off d0) (hs : d0.size = d.size) (hL : d.size = L) (S : SW enc w0 blk off d w) (ham : m = a + 1) (hmb : m < b) (hb : b ≤ d.size) (hsz : d.size < 1000000000) (h2 : Ris Rr m b d) (hx : Ahead (ltOf cf) Rr a m b d) :
    Calls Tryz.prog 105 #[.slice (some ⟨blk, off, none⟩) L cap, .int .i64 a, .int .i64 m, .int .i64 b, .func (.func g) #[] cb] w fun e w' => e = .returned (.tuple #[]) ∧ ∃ d', Merged Rr a b d d' ∧ SW enc w0 blk off d' w' := by
  have mixed : Tryz.prog.follows .mixedOrders = true := by kernel_rfl
  have hcl0 := R.hO.cells
  simp only [Value.cells] at hcl0
  have hst := R.hO.store Tryz.prog
  have HC : Aside _ := hcmp
  have HM : Hid (∀ i d', i ≤ b → Rot a m i d d' → (i = b ∨ ltOf cf d[i]! d[a]! = false) → (i = m ∨ ltOf cf d[i - 1]! d[a]! = true) → Merged Rr a b d d') := fun i d' hi hr hlo hhi => one_left K ham h2 hx hb hi hr hlo hhi
  have HAM : Hid (m = a + 1) := ham
  have hm1 : m ≤ a + 1 := Nat.le_of_eq ham
  have hm2 : a + 1 ≤ m := Nat.le_of_eq ham.symm
  clear h2 hx K hcmp ham
  have S0 : Aside (SW enc w0 blk off d w) := S
  clear S
  have e0 : IntKind.i64.wrap ((m : Int) - (a : Int)) = 1 := by rw [IntKind.wrap_i64]; omega
  go_enter Tryz.func105, Tryz.ntmps105
  go_wp2
  clear e0
  go_loopg [10, 11] (b - m) (fun kx s10 s11 wr => ∃ (i j : Nat), s10 = .int .i64 i ∧ s11 = .int .i64 j ∧ m ≤ i ∧ i ≤ j ∧ j ≤ b ∧ j - i ≤ kx ∧ Aside (SW enc w0 blk off d wr) ∧ Hid (i = m ∨ ltOf cf d[i - 1]! d[a]! = true) ∧ Hid (j = b ∨ ltOf cf d[j]! d[a]! = false))
  case atStart => exact ⟨m, b, rfl, rfl, by omega, by omega, by omega, by omega, S0, Or.inl rfl, Or.inl rfl⟩
  case round =>
    clear S0
    obtain ⟨i, j, rfl, rfl, hmi, hij, hjb, hkx, S1, H1, H2⟩ := hrel
    by_cases hlt : i < j
    · have hltz : (i : Int) < (j : Int) := by omega
      have rs : IntKind.i64.wrap ((i : Int) + (j : Int)) = (i : Int) + (j : Int) := by rw [IntKind.wrap_i64]; omega
      go_wp2_with fail
      obtain ⟨h, hh1, hh2, eh⟩ : ∃ h : Nat, i ≤ h ∧ h < j ∧ ((i : Int) + (j : Int)) / 2 = (h : Int) := ⟨(i + j) / 2, by omega, by omega, by omega⟩
      simp only [eh]
      clear eh rs
      cases hlv : ltOf cf d[h]! d[a]! with
      | true =>
        obtain ⟨iNp, hiNp⟩ : ∃ q, q = h := ⟨_, rfl⟩
        obtain ⟨jNp, hjNp⟩ : ∃ q, q = a := ⟨_, rfl⟩
        have eap : ((h : Int)).toNat = iNp := by omega
        have pap : (0 : Int) ≤ (h : Int) := by omega
        have bap : (h : Int) < (L : Int) := by omega
        have rap : IntKind.i64.wrap ((h : Int)) = (h : Int) := by rw [IntKind.wrap_i64]; omega
        have ecp : ((a : Int)).toNat = jNp := by omega
        have pcp : (0 : Int) ≤ (a : Int) := by omega
        have bcp : (a : Int) < (L : Int) := by omega
        obtain ⟨xp, hxp⟩ : ∃ x, x = d[h]! := ⟨_, rfl⟩
        obtain ⟨yp, hyp⟩ : ∃ x, x = d[a]! := ⟨_, rfl⟩
        have lap := S1.out.cl R (by omega) (h) (by omega)
        have lbp := S1.out.cl R (by omega) (a) (by omega)
        rw [← hxp, ← hiNp] at lap
        rw [← hyp, ← hjNp] at lbp
        have hcp := S1.out.cmp HC.out (by omega) xp yp
        have hvp : cf xp yp < 0 := by rw [hxp, hyp]; exact of_decide_eq_true hlv
        have hdp : decide (cf xp yp < 0) = true := decide_eq_true hvp
        clear hxp hyp hiNp hjNp
        go_quiet_grown (first | (go_at_fn g; refine Calls.grown_of (hcp _ _)))
        have S2 : Aside (SW enc w0 blk off d (grow (wr.drewN nq) osq)) := S1.out.grown nq osq
        clear lap lbp hcp S1
        generalize grow (wr.drewN nq) osq = wp at S2 ⊢
        clear nq osq
        clear eap ecp
        go_wp2
        go_roundg (j - (h + 1))
        case measure => omega
        case rel => exact ⟨h + 1, j, by first | rfl | go_num, rfl, by omega, by omega, hjb, Nat.le_refl _, S2, Or.inr hlv, H2⟩
      | false =>
        obtain ⟨iNp, hiNp⟩ : ∃ q, q = h := ⟨_, rfl⟩
        obtain ⟨jNp, hjNp⟩ : ∃ q, q = a := ⟨_, rfl⟩
        have eap : ((h : Int)).toNat = iNp := by omega
        have pap : (0 : Int) ≤ (h : Int) := by omega
        have bap : (h : Int) < (L : Int) := by omega
        have rap : IntKind.i64.wrap ((h : Int)) = (h : Int) := by rw [IntKind.wrap_i64]; omega
        have ecp : ((a : Int)).toNat = jNp := by omega
        have pcp : (0 : Int) ≤ (a : Int) := by omega
        have bcp : (a : Int) < (L : Int) := by omega
        obtain ⟨xp, hxp⟩ : ∃ x, x = d[h]! := ⟨_, rfl⟩
        obtain ⟨yp, hyp⟩ : ∃ x, x = d[a]! := ⟨_, rfl⟩
        have lap := S1.out.cl R (by omega) (h) (by omega)
        have lbp := S1.out.cl R (by omega) (a) (by omega)
        rw [← hxp, ← hiNp] at lap
        rw [← hyp, ← hjNp] at lbp
        have hcp := S1.out.cmp HC.out (by omega) xp yp
        have hvp : ¬ cf xp yp < 0 := by rw [hxp, hyp]; exact of_decide_eq_false hlv
        have hdp : decide (cf xp yp < 0) = false := decide_eq_false hvp
        clear hxp hyp hiNp hjNp
        go_quiet_grown (first | (go_at_fn g; refine Calls.grown_of (hcp _ _)))
        have S2 : Aside (SW enc w0 blk off d (grow (wr.drewN nq) osq)) := S1.out.grown nq osq
        clear lap lbp hcp S1
        generalize grow (wr.drewN nq) osq = wp at S2 ⊢
        clear nq osq
        clear eap ecp
        go_wp2
        go_roundg (h - i)
        case measure => omega
        case rel => exact ⟨i, h, rfl, by first | rfl | go_num, hmi, by omega, by omega, Nat.le_refl _, S2, H1, Or.inr hlv⟩
    · have e : j = i := by omega
      subst e
      have hltz : ¬ (j : Int) < (j : Int) := by omega
      have HM2 : Hid (∀ d', Rot a m j d d' → Merged Rr a b d d') := fun d' h => HM.out j d' hjb h H2.out H1.out
      clear HM H1 H2 HC
      have r0 : IntKind.i64.wrap ((j : Int) - 1) = (j : Int) - 1 := by rw [IntKind.wrap_i64]; omega
      go_wp2
      go_loopg [13] (j - 1 - a) (fun kx s13 wr => ∃ (k : Nat) (dk : Array α), s13 = .int .i64 k ∧ a ≤ k ∧ k ≤ j - 1 ∧ j - 1 - k ≤ kx ∧ dk.size = d.size ∧ Aside (SW enc w0 blk off dk wr) ∧ Hid (Rot a (a + 1) (a + 1 + (k - a)) d dk))
      case atStart => exact ⟨a, d, rfl, Nat.le_refl _, by omega, Nat.le_refl _, rfl, S1, Rot.none (by omega) (by omega) (by omega) (Or.inr (by omega))⟩
      case round =>
        clear S1
        obtain ⟨k, dk, rfl, hak, hkj, hkx2, hds, S2, HE⟩ := hrel
        by_cases hk : k < j - 1
        · have hkz : (k : Int) < (j : Int) - 1 := by omega
          go_wp2_with fail
          obtain ⟨iNq, hiNq⟩ : ∃ q, q = k := ⟨_, rfl⟩
          obtain ⟨jNq, hjNq⟩ : ∃ q, q = k + 1 := ⟨_, rfl⟩
          have eaq : ((k : Int)).toNat = iNq := by omega
          have paq : (0 : Int) ≤ (k : Int) := by omega
          have baq : (k : Int) < (L : Int) := by omega
          have raq : IntKind.i64.wrap ((k : Int)) = (k : Int) := by rw [IntKind.wrap_i64]; omega
          have ecq : ((k : Int) + 1).toNat = jNq := by omega
          have pcq : (0 : Int) ≤ (k : Int) + 1 := by omega
          have bcq : (k : Int) + 1 < (L : Int) := by omega
          have rcq : IntKind.i64.wrap ((k : Int) + 1) = (k : Int) + 1 := by rw [IntKind.wrap_i64]; omega
          obtain ⟨xq, hxq⟩ : ∃ x, x = dk[k]! := ⟨_, rfl⟩
          obtain ⟨yq, hyq⟩ : ∃ x, x = dk[k + 1]! := ⟨_, rfl⟩
          have S3 : Aside (SW enc w0 blk off (swp dk (k) (k + 1)) ((wr.setCell ⟨blk, off + iNq, none⟩ (enc yq)).setCell ⟨blk, off + jNq, none⟩ (enc xq)).drew) := by rw [hiNq, hjNq, hxq, hyq]; exact S2.out.swapped R (k) (k + 1) (by omega) (by omega)
          have caq := S2.out.c1 R (by omega) (k) (by omega)
          have ccq := S2.out.c1 R (by omega) (k + 1) (by omega)
          have faq := S2.out.f1 R (by omega) (k) (by omega)
          have fbq := S2.out.f1 R (by omega) (k + 1) (by omega)
          obtain ⟨uq, cuq⟩ := S2.out.c2 R (by omega) (k) (k + 1) (by omega) (by omega) (enc yq)
          rw [← hjNq, ← hiNq] at cuq
          rw [← hxq, ← hiNq] at caq
          rw [← hyq, ← hjNq] at ccq
          rw [← hiNq] at faq
          rw [← hjNq] at fbq
          clear S2 hxq hyq hiNq hjNq
          go_wp2_with fail
          go_big_region_o
          clear caq ccq cuq faq fbq
          generalize ((wr.setCell ⟨blk, off + iNq, none⟩ (enc yq)).setCell ⟨blk, off + jNq, none⟩ (enc xq)).drew = wq at S3 ⊢
          clear eaq ecq
          go_wp2
          go_roundg (j - 1 - (k + 1))
          case measure => omega
          case rel =>
            refine ⟨k + 1, swp dk k (k + 1), by go_num, by omega, by omega, Nat.le_refl _, by rw [size_swp]; exact hds, S3, ?_⟩
            show Rot _ _ _ _ _
            have := rot_up (by omega) HE.out
            rw [show a + (k - a) = k by omega] at this
            rw [show k + 1 - a = k - a + 1 by omega]
            exact this
        · have hkz : ¬ (k : Int) < (j : Int) - 1 := by omega
          have ek : a + 1 + (k - a) = j := by omega
          go_wp2
          (try simp only [Exit.inBlock, Exit.then]); refine bodyPost_ret (results_none rfl _ _ _) rfl ?_
          refine ⟨rfl, dk, HM2.out dk ?_, S2.out⟩
          have := HE.out
          rw [ek] at this
          rw [HAM.out]
          exact this
end Go.Proofs.YtphmmnffgknkcabGreatDoor
namespace Go.Proofs.YtphmmnffgknkcabGreatDoor
open Go.Shelf Go.RowKit Go.Lib Go.Sort
set_option maxRecDepth 100000
variable {α : Type} [Inhabited α]
set_option maxHeartbeats 8000000 in
set_option maxRecDepth 1000000 in
theorem symRight_any (enc : α → Value) (cf : α → α → Int) (Rr : α → α → Prop) (K : Keep (ltOf cf) Rr) (g : Nat) (cb : Array Value) (eg : ∀ args w, (callFunc g args).run Tryz.prog w = .ok (.enter g args) w) (blk off L cap a m b : Nat) (d0 d : Array α) (w0 w : World) (hcmp : CmpLays1 Tryz.prog g cb enc cf blk off d0.size w0) (R : Row1 enc w0 blk off d0) (hs : d0.size = d.size) (hL : d.size = L) (S : SW enc w0 blk off d w) (ham : a < m) (ham1 : m ≠ a + 1) (hmb : b = m + 1) (hb : b ≤ d.size) (hsz : d.size < 1000000000) (h1 : Ris Rr a m d) (hx : Ahead (ltOf cf) Rr a m b d) :
    Calls Tryz.prog 105 #[.slice (some ⟨blk, off, none⟩) L cap, .int .i64 a, .int .i64 m, .int .i64 b, .func (.func g) #[] cb] w fun e w' => e = .returned (.tuple #[]) ∧ ∃ d', Merged Rr a b d d' ∧ SW enc w0 blk off d' w' := by
  have mixed : Tryz.prog.follows .mixedOrders = true := by kernel_rfl
  have hcl0 := R.hO.cells
  simp only [Value.cells] at hcl0
  have hst := R.hO.store Tryz.prog
  have HC : Aside _ := hcmp
  have HM : Hid (∀ i d', a ≤ i → Rot i m b d d' → (i = a ∨ ltOf cf d[m]! d[i - 1]! = false) → (i = m ∨ ltOf cf d[m]! d[i]! = true) → Merged Rr a b d d') := fun i d' hi hr hlo hhi => one_right K hmb h1 hx hb hi hr hlo hhi
  have HAM : Hid (b = m + 1) := hmb
  have hm1 : b ≤ m + 1 := Nat.le_of_eq hmb
  have hm2 : m + 1 ≤ b := Nat.le_of_eq hmb.symm
  clear h1 hx K hcmp hmb
  have S0 : Aside (SW enc w0 blk off d w) := S
  clear S
  have e0 : IntKind.i64.wrap ((m : Int) - (a : Int)) = (m : Int) - (a : Int) := by rw [IntKind.wrap_i64]; omega
  have e1 : ((m : Int) - (a : Int) == 1) = false := by rw [beq_eq_false_iff_ne]; omega
  have e1' : ¬ ((m : Int) - (a : Int) = 1) := by omega
  have e2 : IntKind.i64.wrap ((b : Int) - (m : Int)) = 1 := by rw [IntKind.wrap_i64]; omega
  go_enter Tryz.func105, Tryz.ntmps105
  go_wp2
  clear e0 e1 e2
  go_loopg [14, 15] (m - a) (fun kx s10 s11 wr => ∃ (i j : Nat), s10 = .int .i64 i ∧ s11 = .int .i64 j ∧ a ≤ i ∧ i ≤ j ∧ j ≤ m ∧ j - i ≤ kx ∧ Aside (SW enc w0 blk off d wr) ∧ Hid (i = a ∨ ltOf cf d[m]! d[i - 1]! = false) ∧ Hid (j = m ∨ ltOf cf d[m]! d[j]! = true))
  case atStart => exact ⟨a, m, rfl, rfl, by omega, by omega, by omega, by omega, S0, Or.inl rfl, Or.inl rfl⟩
  case round =>
    clear S0
    obtain ⟨i, j, rfl, rfl, hmi, hij, hjb, hkx, S1, H1, H2⟩ := hrel
    by_cases hlt : i < j
    · have hltz : (i : Int) < (j : Int) := by omega
      have rs : IntKind.i64.wrap ((i : Int) + (j : Int)) = (i : Int) + (j : Int) := by rw [IntKind.wrap_i64]; omega
      go_wp2_with fail
      obtain ⟨h, hh1, hh2, eh⟩ : ∃ h : Nat, i ≤ h ∧ h < j ∧ ((i : Int) + (j : Int)) / 2 = (h : Int) := ⟨(i + j) / 2, by omega, by omega, by omega⟩
      simp only [eh]
      clear eh rs
      cases hlv : ltOf cf d[m]! d[h]! with
      | false =>
        obtain ⟨iNp, hiNp⟩ : ∃ q, q = m := ⟨_, rfl⟩
        obtain ⟨jNp, hjNp⟩ : ∃ q, q = h := ⟨_, rfl⟩
        have eap : ((m : Int)).toNat = iNp := by omega
        have pap : (0 : Int) ≤ (m : Int) := by omega
        have bap : (m : Int) < (L : Int) := by omega
        have rap : IntKind.i64.wrap ((m : Int)) = (m : Int) := by rw [IntKind.wrap_i64]; omega
        have ecp : ((h : Int)).toNat = jNp := by omega
        have pcp : (0 : Int) ≤ (h : Int) := by omega
        have bcp : (h : Int) < (L : Int) := by omega
        obtain ⟨xp, hxp⟩ : ∃ x, x = d[m]! := ⟨_, rfl⟩
        obtain ⟨yp, hyp⟩ : ∃ x, x = d[h]! := ⟨_, rfl⟩
        have lap := S1.out.cl R (by omega) (m) (by omega)
        have lbp := S1.out.cl R (by omega) (h) (by omega)
        rw [← hxp, ← hiNp] at lap
        rw [← hyp, ← hjNp] at lbp
        have hcp := S1.out.cmp HC.out (by omega) xp yp
        have hvp : ¬ cf xp yp < 0 := by rw [hxp, hyp]; exact of_decide_eq_false hlv
        have hdp : decide (cf xp yp < 0) = false := decide_eq_false hvp
        clear hxp hyp hiNp hjNp
        go_quiet_grown (first | (go_at_fn g; refine Calls.grown_of (hcp _ _)))
        have S2 : Aside (SW enc w0 blk off d (grow (wr.drewN nq) osq)) := S1.out.grown nq osq
        clear lap lbp hcp S1
        generalize grow (wr.drewN nq) osq = wp at S2 ⊢
        clear nq osq
        clear eap ecp
        go_wp2
        go_roundg (j - (h + 1))
        case measure => omega
        case rel => exact ⟨h + 1, j, by first | rfl | go_num, rfl, by omega, by omega, hjb, Nat.le_refl _, S2, Or.inr hlv, H2⟩
      | true =>
        obtain ⟨iNp, hiNp⟩ : ∃ q, q = m := ⟨_, rfl⟩
        obtain ⟨jNp, hjNp⟩ : ∃ q, q = h := ⟨_, rfl⟩
        have eap : ((m : Int)).toNat = iNp := by omega
        have pap : (0 : Int) ≤ (m : Int) := by omega
        have bap : (m : Int) < (L : Int) := by omega
        have rap : IntKind.i64.wrap ((m : Int)) = (m : Int) := by rw [IntKind.wrap_i64]; omega
        have ecp : ((h : Int)).toNat = jNp := by omega
        have pcp : (0 : Int) ≤ (h : Int) := by omega
        have bcp : (h : Int) < (L : Int) := by omega
        obtain ⟨xp, hxp⟩ : ∃ x, x = d[m]! := ⟨_, rfl⟩
        obtain ⟨yp, hyp⟩ : ∃ x, x = d[h]! := ⟨_, rfl⟩
        have lap := S1.out.cl R (by omega) (m) (by omega)
        have lbp := S1.out.cl R (by omega) (h) (by omega)
        rw [← hxp, ← hiNp] at lap
        rw [← hyp, ← hjNp] at lbp
        have hcp := S1.out.cmp HC.out (by omega) xp yp
        have hvp : cf xp yp < 0 := by rw [hxp, hyp]; exact of_decide_eq_true hlv
        have hdp : decide (cf xp yp < 0) = true := decide_eq_true hvp
        clear hxp hyp hiNp hjNp
        go_quiet_grown (first | (go_at_fn g; refine Calls.grown_of (hcp _ _)))
        have S2 : Aside (SW enc w0 blk off d (grow (wr.drewN nq) osq)) := S1.out.grown nq osq
        clear lap lbp hcp S1
        generalize grow (wr.drewN nq) osq = wp at S2 ⊢
        clear nq osq
        clear eap ecp
        go_wp2
        go_roundg (h - i)
        case measure => omega
        case rel => exact ⟨i, h, rfl, by first | rfl | go_num, hmi, by omega, by omega, Nat.le_refl _, S2, H1, Or.inr hlv⟩
    · have e : j = i := by omega
      subst e
      have hltz : ¬ (j : Int) < (j : Int) := by omega
      have HM2 : Hid (∀ d', Rot j m b d d' → Merged Rr a b d d') := fun d' h => HM.out j d' hmi h H1.out H2.out
      clear HM H1 H2 HC
      go_wp2
      go_loopg [17] (m - j) (fun kx s13 wr => ∃ (k : Nat) (dk : Array α), s13 = .int .i64 k ∧ j ≤ k ∧ k ≤ m ∧ k - j ≤ kx ∧ dk.size = d.size ∧ Aside (SW enc w0 blk off dk wr) ∧ Hid (Rot k m (m + 1) d dk))
      case atStart => exact ⟨m, d, rfl, by omega, by omega, Nat.le_refl _, rfl, S1, Rot.none (by omega) (by omega) (by omega) (Or.inl rfl)⟩
      case round =>
        clear S1
        obtain ⟨k, dk, rfl, hak, hkj, hkx2, hds, S2, HE⟩ := hrel
        by_cases hk : j < k
        · have hkz : (j : Int) < (k : Int) := by omega
          obtain ⟨kp, rfl⟩ : ∃ q, k = q + 1 := ⟨k - 1, by omega⟩
          have hkz2 : (j : Int) < (kp : Int) + 1 := by omega
          have rk : IntKind.i64.wrap ((kp : Int) + 1 - 1) = (kp : Int) := by rw [IntKind.wrap_i64]; omega
          go_wp2_with fail
          obtain ⟨iNq, hiNq⟩ : ∃ q, q = kp + 1 := ⟨_, rfl⟩
          obtain ⟨jNq, hjNq⟩ : ∃ q, q = kp := ⟨_, rfl⟩
          have eaq : ((kp : Int) + 1).toNat = iNq := by omega
          have paq : (0 : Int) ≤ (kp : Int) + 1 := by omega
          have baq : (kp : Int) + 1 < (L : Int) := by omega
          have raq : IntKind.i64.wrap ((kp : Int) + 1) = (kp : Int) + 1 := by rw [IntKind.wrap_i64]; omega
          have ecq : ((kp : Int)).toNat = jNq := by omega
          have pcq : (0 : Int) ≤ (kp : Int) := by omega
          have bcq : (kp : Int) < (L : Int) := by omega
          have rcq : IntKind.i64.wrap ((kp : Int)) = (kp : Int) := by rw [IntKind.wrap_i64]; omega
          obtain ⟨xq, hxq⟩ : ∃ x, x = dk[kp + 1]! := ⟨_, rfl⟩
          obtain ⟨yq, hyq⟩ : ∃ x, x = dk[kp]! := ⟨_, rfl⟩
          have S3 : Aside (SW enc w0 blk off (swp dk (kp + 1) (kp)) ((wr.setCell ⟨blk, off + iNq, none⟩ (enc yq)).setCell ⟨blk, off + jNq, none⟩ (enc xq)).drew) := by rw [hiNq, hjNq, hxq, hyq]; exact S2.out.swapped R (kp + 1) (kp) (by omega) (by omega)
          have caq := S2.out.c1 R (by omega) (kp + 1) (by omega)
          have ccq := S2.out.c1 R (by omega) (kp) (by omega)
          have faq := S2.out.f1 R (by omega) (kp + 1) (by omega)
          have fbq := S2.out.f1 R (by omega) (kp) (by omega)
          obtain ⟨uq, cuq⟩ := S2.out.c2 R (by omega) (kp + 1) (kp) (by omega) (by omega) (enc yq)
          rw [← hiNq, ← hjNq] at cuq
          rw [← hxq, ← hiNq] at caq
          rw [← hyq, ← hjNq] at ccq
          rw [← hiNq] at faq
          rw [← hjNq] at fbq
          clear S2 hxq hyq hiNq hjNq
          go_wp2_with fail
          go_big_region_o
          clear caq ccq cuq faq fbq
          generalize ((wr.setCell ⟨blk, off + iNq, none⟩ (enc yq)).setCell ⟨blk, off + jNq, none⟩ (enc xq)).drew = wq at S3 ⊢
          clear eaq ecq
          go_wp2
          go_roundg (kp - j)
          case measure => omega
          case rel => exact ⟨kp, swp dk (kp + 1) kp, by first | rfl | go_num, by omega, by omega, Nat.le_refl _, by rw [size_swp]; exact hds, S3, rot_down (by omega) (by omega) HE.out⟩
        · have hkz : ¬ (j : Int) < (k : Int) := by omega
          have ek : k = j := by omega
          go_wp2
          (try simp only [Exit.inBlock, Exit.then]); refine bodyPost_ret (results_none rfl _ _ _) rfl ?_
          refine ⟨rfl, dk, HM2.out dk ?_, S2.out⟩
          have := HE.out
          rw [ek, ← HAM.out] at this
          exact this
end Go.Proofs.YtphmmnffgknkcabGreatDoor
namespace Go.Proofs.YtphmmnffgknkcabGreatDoor
open Go.Sort
set_option maxRecDepth 100000
variable {α : Type} [Inhabited α] {lt : α → α → Bool} {R : α → α → Prop}
theorem mid_left {a s mid e b : Nat} {d : Array α} (M : Mid lt R a s mid e b d) (h1 : a ≤ s) (h2 : s ≤ mid) (h : ¬ (a < s ∧ s < mid)) : Ris R a mid d := by
  by_cases e1 : s = a
  · subst e1; exact M.r2
  · have e2 : s = mid := by omega
    subst e2; exact M.r1
theorem mid_right {a s mid e b : Nat} {d d2 : Array α} (M : Mid lt R a s mid e b d) (h1 : mid ≤ e) (h2 : e ≤ b) (hp : PermIn a mid d d2) (h : ¬ (mid < e ∧ e < b)) : Ris R mid b d2 := by
  refine Ris.other ?_ hp (Or.inr (Nat.le_refl _))
  by_cases e1 : e = mid
  · subst e1; exact M.r4
  · have e2 : e = b := by omega
    subst e2; exact M.r3
theorem mid_ahead {a s mid e b : Nat} {d d2 : Array α} (M : Mid lt R a s mid e b d) (h1 : mid ≤ e) (hp : PermIn a mid d d2) : Ris R mid e d2 ∧ Ris R e b d2 ∧ Ahead lt R mid e b d2 := by
  refine ⟨M.r3.other hp (Or.inr (Nat.le_refl _)), M.r4.other hp (Or.inr h1), fun i j hi hi2 hj hj2 => ?_⟩
  rw [hp.2.1 i (by omega), hp.2.1 j (by omega)]
  exact M.a2 i j hi hi2 hj hj2
theorem mid_of (K : Keep lt R) {a m b s e mid n p lo hi : Nat} {d d1 : Array α} (h1 : Ris R a m d) (h2 : Ris R m b d) (hx : Ahead lt R a m b d) (hr : Rot s m e d d1) (hn : n = mid + m) (hp : p + 1 = n) (he : e = n - s) (hm : 2 * mid ≤ a + b ∧ a + b ≤ 2 * mid + 1) (ham : a < m) (hmb : m < b) (hlh : (mid < m ∧ lo = n - b ∧ hi = mid) ∨ (m ≤ mid ∧ lo = a ∧ hi = m)) (hs1 : lo ≤ s) (hs2 : s ≤ hi) (i1 : s = lo ∨ lt d[p - (s - 1)]! d[s - 1]! = false) (i2 : s = hi ∨ lt d[p - s]! d[s]! = true) : Mid lt R a s mid e b d1 := by
  have := rot_mid (s := s) (e := e) K h1 h2 hx hr (by omega) (by omega) ?_ ?_
  · rw [show s + (e - m) = mid by omega] at this
    exact this
  · rcases i1 with h | h
    · exact Or.inl (by omega)
    · by_cases c : s = lo
      · exact Or.inl (by omega)
      · rw [show p - (s - 1) = e by omega] at h
        exact Or.inr h
  · rcases i2 with h | h
    · exact Or.inl (by omega)
    · by_cases c : s = hi
      · exact Or.inl (by omega)
      · rw [show p - s = e - 1 by omega] at h
        exact Or.inr h
end Go.Proofs.YtphmmnffgknkcabGreatDoor
namespace Go.Proofs.YtphmmnffgknkcabGreatDoor
open Go.Shelf Go.RowKit Go.Lib Go.Sort
set_option maxRecDepth 100000
variable {α : Type} [Inhabited α]
set_option maxHeartbeats 8000000 in
set_option maxRecDepth 1000000 in
theorem symMidA_any (enc : α → Value) (cf : α → α → Int) (Rr : α → α → Prop) (K : Keep (ltOf cf) Rr) (g : Nat) (cb : Array Value) (eg : ∀ args w, (callFunc g args).run Tryz.prog w = .ok (.enter g args) w) (blk off L cap a m b : Nat) (d0 d : Array α) (w0 w : World) (hcmp : CmpLays1 Tryz.prog g cb enc cf blk off d0.size w0) (R : Row1 enc w0 blk off d0) (hs : d0.size = d.size) (hL : d.size = L) (S : SW enc w0 blk off d w) (NN : Nat) (hNN : b - a ≤ NN) (IH : (∀ (a m b : Nat) (d : Array α) (w : World), b - a < NN → d0.size = d.size → SW enc w0 blk off d w → a < m → m < b → b ≤ d.size → Ris Rr a m d → Ris Rr m b d → Ahead (ltOf cf) Rr a m b d → Calls Tryz.prog 105 #[.slice (some ⟨blk, off, none⟩) L cap, .int .i64 a, .int .i64 m, .int .i64 b, .func (.func g) #[] cb] w fun e w' => e = .returned (.tuple #[]) ∧ ∃ d', Merged Rr a b d d' ∧ SW enc w0 blk off d' w')) (ham : a < m) (ham1 : m ≠ a + 1) (hmb : m < b) (hmb1 : b ≠ m + 1) (mid : Nat) (hmid : 2 * mid ≤ a + b ∧ a + b ≤ 2 * mid + 1) (hcase : mid < m) (hb : b ≤ d.size) (hsz : d.size < 1000000000) (h1 : Ris Rr a m d) (h2 : Ris Rr m b d) (hx : Ahead (ltOf cf) Rr a m b d) :
    Calls Tryz.prog 105 #[.slice (some ⟨blk, off, none⟩) L cap, .int .i64 a, .int .i64 m, .int .i64 b, .func (.func g) #[] cb] w fun e w' => e = .returned (.tuple #[]) ∧ ∃ d', Merged Rr a b d d' ∧ SW enc w0 blk off d' w' := by
  have mixed : Tryz.prog.follows .mixedOrders = true := by kernel_rfl
  have hcl0 := R.hO.cells
  simp only [Value.cells] at hcl0
  have hst := R.hO.store Tryz.prog
  have HC : Aside _ := hcmp
  obtain ⟨n, hn⟩ : ∃ n, n = mid + m := ⟨_, rfl⟩
  obtain ⟨p, hp⟩ : ∃ p, p + 1 = n := ⟨n - 1, by omega⟩
  obtain ⟨lo, hlo⟩ : ∃ x, x = n - b := ⟨_, rfl⟩
  obtain ⟨hi, hhi⟩ : ∃ x, x = mid := ⟨_, rfl⟩
  have HLO : Hid (lo = n - b) := hlo
  have HHI : Hid (hi = mid) := hhi
  have HMo : Hid (∀ s e d1, Rot s m e d d1 → e = n - s → lo ≤ s → s ≤ hi → (s = lo ∨ ltOf cf d[p - (s - 1)]! d[s - 1]! = false) → (s = hi ∨ ltOf cf d[p - s]! d[s]! = true) → Mid (ltOf cf) Rr a s mid e b d1) := fun s e d1 hr he hs1 hs2 i1 i2 => mid_of K h1 h2 hx hr hn hp he hmid ham hmb (Or.inl ⟨hcase, HLO.out, HHI.out⟩) hs1 hs2 i1 i2
  have HIH : Aside _ := IH
  have CR : Aside (∀ (s e : Nat) (w : World), SW enc w0 blk off d w → s < m → m < e → e ≤ d.size → Calls Tryz.prog 113 #[.slice (some ⟨blk, off, none⟩) L cap, .int .i64 s, .int .i64 m, .int .i64 e, .func (.func g) #[] cb] w fun e' w' => e' = .returned (.tuple #[]) ∧ ∃ d', Rot s m e d d' ∧ SW enc w0 blk off d' w') := fun s e w h1 h2 h3 h4 => rotate_any enc g cb blk off L cap s m e d0 d w0 w R hs hL h1 h2 h3 h4 (by omega)
  clear IH h1 h2 hx K hcmp
  have n1 : n ≤ mid + m := Nat.le_of_eq hn
  have n2 : mid + m ≤ n := Nat.le_of_eq hn.symm
  have p1 : p + 1 ≤ n := Nat.le_of_eq hp
  have p2 : n ≤ p + 1 := Nat.le_of_eq hp.symm
  have lo1 : lo ≤ n - b := Nat.le_of_eq hlo
  have lo2 : n - b ≤ lo := Nat.le_of_eq hlo.symm
  have hi1 : hi ≤ mid := Nat.le_of_eq hhi
  have hi2 : mid ≤ hi := Nat.le_of_eq hhi.symm
  have S0 : Aside (SW enc w0 blk off d w) := S
  clear S hn hp hlo hhi
  have e0 : IntKind.i64.wrap ((m : Int) - (a : Int)) = (m : Int) - (a : Int) := by rw [IntKind.wrap_i64]; omega
  have e1 : ((m : Int) - (a : Int) == 1) = false := by rw [beq_eq_false_iff_ne]; omega
  have e1' : ¬ ((m : Int) - (a : Int) = 1) := by omega
  have e2 : IntKind.i64.wrap ((b : Int) - (m : Int)) = (b : Int) - (m : Int) := by rw [IntKind.wrap_i64]; omega
  have e3 : ((b : Int) - (m : Int) == 1) = false := by rw [beq_eq_false_iff_ne]; omega
  have e3' : ¬ ((b : Int) - (m : Int) = 1) := by omega
  have rs : IntKind.i64.wrap ((a : Int) + (b : Int)) = (a : Int) + (b : Int) := by rw [IntKind.wrap_i64]; omega
  go_enter Tryz.func105, Tryz.ntmps105
  go_upto_region 25 with (fail)
  clear e0 e1 e1' e2 e3 e3' rs
  have em : ((a : Int) + (b : Int)) / 2 = (mid : Int) := by omega
  simp only [em]
  clear em
  have rn : IntKind.i64.wrap ((mid : Int) + (m : Int)) = (n : Int) := by rw [IntKind.wrap_i64]; omega
  have rp : IntKind.i64.wrap ((n : Int) - 1) = (p : Int) := by rw [IntKind.wrap_i64]; omega
  have rl : IntKind.i64.wrap ((n : Int) - (b : Int)) = (lo : Int) := by rw [IntKind.wrap_i64]; omega
  have gt : decide ((m : Int) > (mid : Int)) = true := decide_eq_true (by omega)
  have gt2 : (mid : Int) < (m : Int) := by omega
  go_wp2
  clear rn rp gt gt2
  go_loopg [20, 21] (b - a) (fun kx s20 s21 wr => ∃ (i j : Nat), s20 = .int .i64 i ∧ s21 = .int .i64 j ∧ lo ≤ i ∧ i ≤ j ∧ j ≤ hi ∧ j - i ≤ kx ∧ Aside (SW enc w0 blk off d wr) ∧ Hid (i = lo ∨ ltOf cf d[p - (i - 1)]! d[i - 1]! = false) ∧ Hid (j = hi ∨ ltOf cf d[p - j]! d[j]! = true))
  case atStart => exact ⟨lo, hi, by first | rfl | (congr 1; omega), by first | rfl | (congr 1; omega), by omega, by omega, by omega, by omega, S0, Or.inl rfl, Or.inl rfl⟩
  case round =>
    clear S0
    obtain ⟨i, j, rfl, rfl, hmi, hij, hjb, hkx, S1, H1, H2⟩ := hrel
    by_cases hlt : i < j
    · have hltz : (i : Int) < (j : Int) := by omega
      have rs : IntKind.i64.wrap ((i : Int) + (j : Int)) = (i : Int) + (j : Int) := by rw [IntKind.wrap_i64]; omega
      go_wp2_with fail
      obtain ⟨h, hh1, hh2, eh⟩ : ∃ h : Nat, i ≤ h ∧ h < j ∧ ((i : Int) + (j : Int)) / 2 = (h : Int) := ⟨(i + j) / 2, by omega, by omega, by omega⟩
      simp only [eh]
      clear eh rs
      obtain ⟨qn, hq⟩ : ∃ q, q = p - h := ⟨_, rfl⟩
      have HQ : Hid (qn = p - h) := hq
      have q1 : qn ≤ p - h := Nat.le_of_eq hq
      have q2 : p - h ≤ qn := Nat.le_of_eq hq.symm
      clear hq
      have rq : IntKind.i64.wrap ((p : Int) - (h : Int)) = (qn : Int) := by rw [IntKind.wrap_i64]; omega
      cases hlv : ltOf cf d[qn]! d[h]! with
      | false =>
        obtain ⟨iNp, hiNp⟩ : ∃ q, q = qn := ⟨_, rfl⟩
        obtain ⟨jNp, hjNp⟩ : ∃ q, q = h := ⟨_, rfl⟩
        have eap : ((qn : Int)).toNat = iNp := by omega
        have pap : (0 : Int) ≤ (qn : Int) := by omega
        have bap : (qn : Int) < (L : Int) := by omega
        have rap : IntKind.i64.wrap ((qn : Int)) = (qn : Int) := by rw [IntKind.wrap_i64]; omega
        have ecp : ((h : Int)).toNat = jNp := by omega
        have pcp : (0 : Int) ≤ (h : Int) := by omega
        have bcp : (h : Int) < (L : Int) := by omega
        obtain ⟨xp, hxp⟩ : ∃ x, x = d[qn]! := ⟨_, rfl⟩
        obtain ⟨yp, hyp⟩ : ∃ x, x = d[h]! := ⟨_, rfl⟩
        have lap := S1.out.cl R (by omega) (qn) (by omega)
        have lbp := S1.out.cl R (by omega) (h) (by omega)
        rw [← hxp, ← hiNp] at lap
        rw [← hyp, ← hjNp] at lbp
        have hcp := S1.out.cmp HC.out (by omega) xp yp
        have hvp : ¬ cf xp yp < 0 := by rw [hxp, hyp]; exact of_decide_eq_false hlv
        have hdp : decide (cf xp yp < 0) = false := decide_eq_false hvp
        clear hxp hyp hiNp hjNp
        go_quiet_grown (first | (go_at_fn g; refine Calls.grown_of (hcp _ _)))
        have S2 : Aside (SW enc w0 blk off d (grow (wr.drewN nq) osq)) := S1.out.grown nq osq
        clear lap lbp hcp S1
        generalize grow (wr.drewN nq) osq = wp at S2 ⊢
        clear nq osq
        clear eap ecp
        go_wp2
        go_roundg (j - (h + 1))
        case measure => omega
        case rel => exact ⟨h + 1, j, by first | rfl | go_num, rfl, by omega, by omega, hjb, Nat.le_refl _, S2, Or.inr (by rw [HQ.out] at hlv; exact hlv), H2⟩
      | true =>
        obtain ⟨iNp, hiNp⟩ : ∃ q, q = qn := ⟨_, rfl⟩
        obtain ⟨jNp, hjNp⟩ : ∃ q, q = h := ⟨_, rfl⟩
        have eap : ((qn : Int)).toNat = iNp := by omega
        have pap : (0 : Int) ≤ (qn : Int) := by omega
        have bap : (qn : Int) < (L : Int) := by omega
        have rap : IntKind.i64.wrap ((qn : Int)) = (qn : Int) := by rw [IntKind.wrap_i64]; omega
        have ecp : ((h : Int)).toNat = jNp := by omega
        have pcp : (0 : Int) ≤ (h : Int) := by omega
        have bcp : (h : Int) < (L : Int) := by omega
        obtain ⟨xp, hxp⟩ : ∃ x, x = d[qn]! := ⟨_, rfl⟩
        obtain ⟨yp, hyp⟩ : ∃ x, x = d[h]! := ⟨_, rfl⟩
        have lap := S1.out.cl R (by omega) (qn) (by omega)
        have lbp := S1.out.cl R (by omega) (h) (by omega)
        rw [← hxp, ← hiNp] at lap
        rw [← hyp, ← hjNp] at lbp
        have hcp := S1.out.cmp HC.out (by omega) xp yp
        have hvp : cf xp yp < 0 := by rw [hxp, hyp]; exact of_decide_eq_true hlv
        have hdp : decide (cf xp yp < 0) = true := decide_eq_true hvp
        clear hxp hyp hiNp hjNp
        go_quiet_grown (first | (go_at_fn g; refine Calls.grown_of (hcp _ _)))
        have S2 : Aside (SW enc w0 blk off d (grow (wr.drewN nq) osq)) := S1.out.grown nq osq
        clear lap lbp hcp S1
        generalize grow (wr.drewN nq) osq = wp at S2 ⊢
        clear nq osq
        clear eap ecp
        go_wp2
        go_roundg (h - i)
        case measure => omega
        case rel => exact ⟨i, h, rfl, by first | rfl | go_num, hmi, by omega, by omega, Nat.le_refl _, S2, H1, Or.inr (by rw [HQ.out] at hlv; exact hlv)⟩
    · have e : j = i := by omega
      subst e
      have hltz : ¬ (j : Int) < (j : Int) := by omega
      clear HC hcl0 hst mixed
      obtain ⟨ee, hee⟩ : ∃ x, x = n - j := ⟨_, rfl⟩
      have HM2 : Hid (∀ d1, Rot j m ee d d1 → Mid (ltOf cf) Rr a j mid ee b d1) := fun d1 hr => HMo.out j ee d1 hr hee hmi hjb H1.out H2.out
      clear HMo H1 H2
      have re : IntKind.i64.wrap ((n : Int) - (j : Int)) = (ee : Int) := by rw [IntKind.wrap_i64]; omega
      have ee1 : ee ≤ n - j := Nat.le_of_eq hee
      have ee2 : n - j ≤ ee := Nat.le_of_eq hee.symm
      clear hee
      have hje : j ≤ m := by omega
      have hme : m ≤ ee := by omega
      have heb : ee ≤ b := by omega
      have haj : a ≤ j := by omega
      have hjm : j ≤ mid := by omega
      have hmide : mid ≤ ee := by omega
      have hmidb : mid < b := by omega
      have hamid : a < mid := by omega
      clear lo1 lo2 hi1 hi2 hmi hjb HLO HHI n1 n2 p1 p2 ee1 ee2
      go_upto_region 39 with (fail)
      obtain ⟨c39, hc39⟩ : ∃ c : Bool, Hid (c = (decide (j < m) && decide (m < ee))) := ⟨_, rfl⟩
      go_cut [185] from 178 to 185 (fun b W => b = .bool c39 ∧ W = wr)
      case first =>
        by_cases k1 : j < m
        · have k1z : ((j : Nat) : Int) < ((m : Nat) : Int) := by omega
          by_cases k2 : m < ee
          · have k2z : ((m : Nat) : Int) < ((ee : Nat) : Int) := by omega
            go_wp2_with fail
            go_meet
            case rel => exact ⟨by rw [hc39.out, decide_eq_true k1, decide_eq_true k2]; rfl, rfl⟩
          · have k2z : ¬ ((m : Nat) : Int) < ((ee : Nat) : Int) := by omega
            go_wp2_with fail
            go_meet
            case rel => exact ⟨by rw [hc39.out, decide_eq_true k1, decide_eq_false k2]; rfl, rfl⟩
        · have k1z : ¬ ((j : Nat) : Int) < ((m : Nat) : Int) := by omega
          go_wp2_with fail
          go_meet
          case rel => exact ⟨by rw [hc39.out, decide_eq_false k1]; rfl, rfl⟩
      case rest =>
        obtain ⟨rfl, rfl⟩ := hcut
        go_upto_if 185 with (fail)
        go_cut [191] from 185 to 191 (fun _ W => ∃ d1 : Array α, Hid (Rot j m ee d d1) ∧ Aside (SW enc w0 blk off d1 W))
        case first =>
          cases hcc : c39 with
          | true =>
            have k := hc39.out.symm.trans hcc
            rw [Bool.and_eq_true] at k
            have k1 := of_decide_eq_true k.1
            have k2 := of_decide_eq_true k.2
            clear k
            go_wp2_with (go_at_call 113; refine (CR.out j ee _ S1.out k1 k2 (by omega)).mono ?_; rintro e w2 ⟨rfl, d1, hrot, hS1⟩)
            go_meet
            case rel => exact ⟨d1, hrot, hS1⟩
          | false =>
            have k : ¬ (j < m ∧ m < ee) := fun h => by
              have := hc39.out.symm.trans hcc
              rw [decide_eq_true h.1, decide_eq_true h.2] at this
              cases this
            go_wp2_with fail
            go_meet
            case rel => exact ⟨d, Rot.none hje hme (by omega) (by omega), S1⟩
        case rest =>
          clear hc39
          obtain ⟨d1, HRO, S2⟩ := hcut
          have HMM : Hid (Mid (ltOf cf) Rr a j mid ee b d1) := HM2.out d1 HRO.out
          have hz1 : d1.size = d.size := HRO.out.size
          clear CR HM2 S1
          go_upto_region 41 with (fail)
          obtain ⟨c41, hc41⟩ : ∃ c : Bool, Hid (c = (decide (a < j) && decide (j < mid))) := ⟨_, rfl⟩
          go_cut [199] from 192 to 199 (fun b W => b = .bool c41 ∧ W = wc)
          case first =>
            by_cases k1 : a < j
            · have k1z : ((a : Nat) : Int) < ((j : Nat) : Int) := by omega
              by_cases k2 : j < mid
              · have k2z : ((j : Nat) : Int) < ((mid : Nat) : Int) := by omega
                go_wp2_with fail
                go_meet
                case rel => exact ⟨by rw [hc41.out, decide_eq_true k1, decide_eq_true k2]; rfl, rfl⟩
              · have k2z : ¬ ((j : Nat) : Int) < ((mid : Nat) : Int) := by omega
                go_wp2_with fail
                go_meet
                case rel => exact ⟨by rw [hc41.out, decide_eq_true k1, decide_eq_false k2]; rfl, rfl⟩
            · have k1z : ¬ ((a : Nat) : Int) < ((j : Nat) : Int) := by omega
              go_wp2_with fail
              go_meet
              case rel => exact ⟨by rw [hc41.out, decide_eq_false k1]; rfl, rfl⟩
          case rest =>
            obtain ⟨rfl, rfl⟩ := hcut
            go_upto_if 199 with (fail)
            go_cut [205] from 199 to 205 (fun _ W => ∃ d2 : Array α, Hid (Merged Rr a mid d1 d2) ∧ Aside (SW enc w0 blk off d2 W))
            case first =>
              cases hcc : c41 with
              | true =>
                have k := hc41.out.symm.trans hcc
                rw [Bool.and_eq_true] at k
                have k1 := of_decide_eq_true k.1
                have k2 := of_decide_eq_true k.2
                clear k
                go_wp2_with (go_at_call 105; refine (HIH.out a j mid d1 _ (by omega) (by omega) S2.out k1 k2 (by omega) HMM.out.r1 HMM.out.r2 HMM.out.a1).mono ?_; rintro e w2 ⟨rfl, d2, hmg, hS1⟩)
                go_meet
                case rel => exact ⟨d2, hmg, hS1⟩
              | false =>
                have k : ¬ (a < j ∧ j < mid) := fun h => by
                  have := hc41.out.symm.trans hcc
                  rw [decide_eq_true h.1, decide_eq_true h.2] at this
                  cases this
                go_wp2_with fail
                go_meet
                case rel => exact ⟨d1, Merged.none (mid_left HMM.out haj hjm k), S2⟩
            case rest =>
              clear hc41
              obtain ⟨d2, HG1, S3⟩ := hcut
              have hz2 : d2.size = d1.size := HG1.out.1.1
              clear S2
              go_upto_region 43 with (fail)
              obtain ⟨c43, hc43⟩ : ∃ c : Bool, Hid (c = (decide (mid < ee) && decide (ee < b))) := ⟨_, rfl⟩
              go_cut [213] from 206 to 213 (fun b W => b = .bool c43 ∧ W = wc)
              case first =>
                by_cases k1 : mid < ee
                · have k1z : ((mid : Nat) : Int) < ((ee : Nat) : Int) := by omega
                  by_cases k2 : ee < b
                  · have k2z : ((ee : Nat) : Int) < ((b : Nat) : Int) := by omega
                    go_wp2_with fail
                    go_meet
                    case rel => exact ⟨by rw [hc43.out, decide_eq_true k1, decide_eq_true k2]; rfl, rfl⟩
                  · have k2z : ¬ ((ee : Nat) : Int) < ((b : Nat) : Int) := by omega
                    go_wp2_with fail
                    go_meet
                    case rel => exact ⟨by rw [hc43.out, decide_eq_true k1, decide_eq_false k2]; rfl, rfl⟩
                · have k1z : ¬ ((mid : Nat) : Int) < ((ee : Nat) : Int) := by omega
                  go_wp2_with fail
                  go_meet
                  case rel => exact ⟨by rw [hc43.out, decide_eq_false k1]; rfl, rfl⟩
              case rest =>
                obtain ⟨rfl, rfl⟩ := hcut
                go_upto_if 213 with (fail)
                cases hcc : c43 with
                | true =>
                  have k := hc43.out.symm.trans hcc
                  rw [Bool.and_eq_true] at k
                  have k1 := of_decide_eq_true k.1
                  have k2 := of_decide_eq_true k.2
                  clear k
                  go_wp2_with (go_at_call 105; refine (HIH.out mid ee b d2 _ (by omega) (by omega) S3.out k1 k2 (by omega) (mid_ahead HMM.out hmide HG1.out.1).1 (mid_ahead HMM.out hmide HG1.out.1).2.1 (mid_ahead HMM.out hmide HG1.out.1).2.2).mono ?_; rintro e w2 ⟨rfl, d3, hmg, hS1⟩)
                  go_end0
                  exact ⟨rfl, d3, both (PermIn.wide HRO.out.perm haj heb hb) hb (Nat.le_of_lt hamid) (Nat.le_of_lt hmidb) HMM.out.cross HG1.out hmg, hS1⟩
                | false =>
                  have k : ¬ (mid < ee ∧ ee < b) := fun h => by
                    have := hc43.out.symm.trans hcc
                    rw [decide_eq_true h.1, decide_eq_true h.2] at this
                    cases this
                  go_wp2_with fail
                  go_end0
                  exact ⟨rfl, d2, both (PermIn.wide HRO.out.perm haj heb hb) hb (Nat.le_of_lt hamid) (Nat.le_of_lt hmidb) HMM.out.cross HG1.out (Merged.none (mid_right HMM.out hmide heb HG1.out.1 k)), S3.out⟩
end Go.Proofs.YtphmmnffgknkcabGreatDoor
namespace Go.Proofs.YtphmmnffgknkcabGreatDoor
open Go.Shelf Go.RowKit Go.Lib Go.Sort
set_option maxRecDepth 100000
variable {α : Type} [Inhabited α]
set_option maxHeartbeats 8000000 in
set_option maxRecDepth 1000000 in
theorem symMidB_any (enc : α → Value) (cf : α → α → Int) (Rr : α → α → Prop) (K : Keep (ltOf cf) Rr) (g : Nat) (cb : Array Value) (eg : ∀ args w, (callFunc g args).run Tryz.prog w = .ok (.enter g args) w) (blk off L cap a m b : Nat) (d0 d : Array α) (w0 w : World) (hcmp : CmpLays1 Tryz.prog g cb enc cf blk off d0.size w0) (R : Row1 enc w0 blk off d0) (hs : d0.size = d.size) (hL : d.size = L) (S : SW enc w0 blk off d w) (NN : Nat) (hNN : b - a ≤ NN) (IH : (∀ (a m b : Nat) (d : Array α) (w : World), b - a < NN → d0.size = d.size → SW enc w0 blk off d w → a < m → m < b → b ≤ d.size → Ris Rr a m d → Ris Rr m b d → Ahead (ltOf cf) Rr a m b d → Calls Tryz.prog 105 #[.slice (some ⟨blk, off, none⟩) L cap, .int .i64 a, .int .i64 m, .int .i64 b, .func (.func g) #[] cb] w fun e w' => e = .returned (.tuple #[]) ∧ ∃ d', Merged Rr a b d d' ∧ SW enc w0 blk off d' w')) (ham : a < m) (ham1 : m ≠ a + 1) (hmb : m < b) (hmb1 : b ≠ m + 1) (mid : Nat) (hmid : 2 * mid ≤ a + b ∧ a + b ≤ 2 * mid + 1) (hcase : m ≤ mid) (hb : b ≤ d.size) (hsz : d.size < 1000000000) (h1 : Ris Rr a m d) (h2 : Ris Rr m b d) (hx : Ahead (ltOf cf) Rr a m b d) :
    Calls Tryz.prog 105 #[.slice (some ⟨blk, off, none⟩) L cap, .int .i64 a, .int .i64 m, .int .i64 b, .func (.func g) #[] cb] w fun e w' => e = .returned (.tuple #[]) ∧ ∃ d', Merged Rr a b d d' ∧ SW enc w0 blk off d' w' := by
  have mixed : Tryz.prog.follows .mixedOrders = true := by kernel_rfl
  have hcl0 := R.hO.cells
  simp only [Value.cells] at hcl0
  have hst := R.hO.store Tryz.prog
  have HC : Aside _ := hcmp
  obtain ⟨n, hn⟩ : ∃ n, n = mid + m := ⟨_, rfl⟩
  obtain ⟨p, hp⟩ : ∃ p, p + 1 = n := ⟨n - 1, by omega⟩
  obtain ⟨lo, hlo⟩ : ∃ x, x = a := ⟨_, rfl⟩
  obtain ⟨hi, hhi⟩ : ∃ x, x = m := ⟨_, rfl⟩
  have HLO : Hid (lo = a) := hlo
  have HHI : Hid (hi = m) := hhi
  have HMo : Hid (∀ s e d1, Rot s m e d d1 → e = n - s → lo ≤ s → s ≤ hi → (s = lo ∨ ltOf cf d[p - (s - 1)]! d[s - 1]! = false) → (s = hi ∨ ltOf cf d[p - s]! d[s]! = true) → Mid (ltOf cf) Rr a s mid e b d1) := fun s e d1 hr he hs1 hs2 i1 i2 => mid_of K h1 h2 hx hr hn hp he hmid ham hmb (Or.inr ⟨hcase, HLO.out, HHI.out⟩) hs1 hs2 i1 i2
  have HIH : Aside _ := IH
  have CR : Aside (∀ (s e : Nat) (w : World), SW enc w0 blk off d w → s < m → m < e → e ≤ d.size → Calls Tryz.prog 113 #[.slice (some ⟨blk, off, none⟩) L cap, .int .i64 s, .int .i64 m, .int .i64 e, .func (.func g) #[] cb] w fun e' w' => e' = .returned (.tuple #[]) ∧ ∃ d', Rot s m e d d' ∧ SW enc w0 blk off d' w') := fun s e w h1 h2 h3 h4 => rotate_any enc g cb blk off L cap s m e d0 d w0 w R hs hL h1 h2 h3 h4 (by omega)
  clear IH h1 h2 hx K hcmp
  have n1 : n ≤ mid + m := Nat.le_of_eq hn
  have n2 : mid + m ≤ n := Nat.le_of_eq hn.symm
  have p1 : p + 1 ≤ n := Nat.le_of_eq hp
  have p2 : n ≤ p + 1 := Nat.le_of_eq hp.symm
  have lo1 : lo ≤ a := Nat.le_of_eq hlo
  have lo2 : a ≤ lo := Nat.le_of_eq hlo.symm
  have hi1 : hi ≤ m := Nat.le_of_eq hhi
  have hi2 : m ≤ hi := Nat.le_of_eq hhi.symm
  have S0 : Aside (SW enc w0 blk off d w) := S
  clear S hn hp hlo hhi
  have e0 : IntKind.i64.wrap ((m : Int) - (a : Int)) = (m : Int) - (a : Int) := by rw [IntKind.wrap_i64]; omega
  have e1 : ((m : Int) - (a : Int) == 1) = false := by rw [beq_eq_false_iff_ne]; omega
  have e1' : ¬ ((m : Int) - (a : Int) = 1) := by omega
  have e2 : IntKind.i64.wrap ((b : Int) - (m : Int)) = (b : Int) - (m : Int) := by rw [IntKind.wrap_i64]; omega
  have e3 : ((b : Int) - (m : Int) == 1) = false := by rw [beq_eq_false_iff_ne]; omega
  have e3' : ¬ ((b : Int) - (m : Int) = 1) := by omega
  have rs : IntKind.i64.wrap ((a : Int) + (b : Int)) = (a : Int) + (b : Int) := by rw [IntKind.wrap_i64]; omega
  go_enter Tryz.func105, Tryz.ntmps105
  go_upto_region 25 with (fail)
  clear e0 e1 e1' e2 e3 e3' rs
  have em : ((a : Int) + (b : Int)) / 2 = (mid : Int) := by omega
  simp only [em]
  clear em
  have rn : IntKind.i64.wrap ((mid : Int) + (m : Int)) = (n : Int) := by rw [IntKind.wrap_i64]; omega
  have rp : IntKind.i64.wrap ((n : Int) - 1) = (p : Int) := by rw [IntKind.wrap_i64]; omega
  have gt : decide ((m : Int) > (mid : Int)) = false := decide_eq_false (by omega)
  have gt2 : ¬ (mid : Int) < (m : Int) := by omega
  go_wp2
  clear rn rp gt gt2
  go_loopg [20, 21] (b - a) (fun kx s20 s21 wr => ∃ (i j : Nat), s20 = .int .i64 i ∧ s21 = .int .i64 j ∧ lo ≤ i ∧ i ≤ j ∧ j ≤ hi ∧ j - i ≤ kx ∧ Aside (SW enc w0 blk off d wr) ∧ Hid (i = lo ∨ ltOf cf d[p - (i - 1)]! d[i - 1]! = false) ∧ Hid (j = hi ∨ ltOf cf d[p - j]! d[j]! = true))
  case atStart => exact ⟨lo, hi, by first | rfl | (congr 1; omega), by first | rfl | (congr 1; omega), by omega, by omega, by omega, by omega, S0, Or.inl rfl, Or.inl rfl⟩
  case round =>
    clear S0
    obtain ⟨i, j, rfl, rfl, hmi, hij, hjb, hkx, S1, H1, H2⟩ := hrel
    by_cases hlt : i < j
    · have hltz : (i : Int) < (j : Int) := by omega
      have rs : IntKind.i64.wrap ((i : Int) + (j : Int)) = (i : Int) + (j : Int) := by rw [IntKind.wrap_i64]; omega
      go_wp2_with fail
      obtain ⟨h, hh1, hh2, eh⟩ : ∃ h : Nat, i ≤ h ∧ h < j ∧ ((i : Int) + (j : Int)) / 2 = (h : Int) := ⟨(i + j) / 2, by omega, by omega, by omega⟩
      simp only [eh]
      clear eh rs
      obtain ⟨qn, hq⟩ : ∃ q, q = p - h := ⟨_, rfl⟩
      have HQ : Hid (qn = p - h) := hq
      have q1 : qn ≤ p - h := Nat.le_of_eq hq
      have q2 : p - h ≤ qn := Nat.le_of_eq hq.symm
      clear hq
      have rq : IntKind.i64.wrap ((p : Int) - (h : Int)) = (qn : Int) := by rw [IntKind.wrap_i64]; omega
      cases hlv : ltOf cf d[qn]! d[h]! with
      | false =>
        obtain ⟨iNp, hiNp⟩ : ∃ q, q = qn := ⟨_, rfl⟩
        obtain ⟨jNp, hjNp⟩ : ∃ q, q = h := ⟨_, rfl⟩
        have eap : ((qn : Int)).toNat = iNp := by omega
        have pap : (0 : Int) ≤ (qn : Int) := by omega
        have bap : (qn : Int) < (L : Int) := by omega
        have rap : IntKind.i64.wrap ((qn : Int)) = (qn : Int) := by rw [IntKind.wrap_i64]; omega
        have ecp : ((h : Int)).toNat = jNp := by omega
        have pcp : (0 : Int) ≤ (h : Int) := by omega
        have bcp : (h : Int) < (L : Int) := by omega
        obtain ⟨xp, hxp⟩ : ∃ x, x = d[qn]! := ⟨_, rfl⟩
        obtain ⟨yp, hyp⟩ : ∃ x, x = d[h]! := ⟨_, rfl⟩
        have lap := S1.out.cl R (by omega) (qn) (by omega)
        have lbp := S1.out.cl R (by omega) (h) (by omega)
        rw [← hxp, ← hiNp] at lap
        rw [← hyp, ← hjNp] at lbp
        have hcp := S1.out.cmp HC.out (by omega) xp yp
        have hvp : ¬ cf xp yp < 0 := by rw [hxp, hyp]; exact of_decide_eq_false hlv
        have hdp : decide (cf xp yp < 0) = false := decide_eq_false hvp
        clear hxp hyp hiNp hjNp
        go_quiet_grown (first | (go_at_fn g; refine Calls.grown_of (hcp _ _)))
        have S2 : Aside (SW enc w0 blk off d (grow (wr.drewN nq) osq)) := S1.out.grown nq osq
        clear lap lbp hcp S1
        generalize grow (wr.drewN nq) osq = wp at S2 ⊢
        clear nq osq
        clear eap ecp
        go_wp2
        go_roundg (j - (h + 1))
        case measure => omega
        case rel => exact ⟨h + 1, j, by first | rfl | go_num, rfl, by omega, by omega, hjb, Nat.le_refl _, S2, Or.inr (by rw [HQ.out] at hlv; exact hlv), H2⟩
      | true =>
        obtain ⟨iNp, hiNp⟩ : ∃ q, q = qn := ⟨_, rfl⟩
        obtain ⟨jNp, hjNp⟩ : ∃ q, q = h := ⟨_, rfl⟩
        have eap : ((qn : Int)).toNat = iNp := by omega
        have pap : (0 : Int) ≤ (qn : Int) := by omega
        have bap : (qn : Int) < (L : Int) := by omega
        have rap : IntKind.i64.wrap ((qn : Int)) = (qn : Int) := by rw [IntKind.wrap_i64]; omega
        have ecp : ((h : Int)).toNat = jNp := by omega
        have pcp : (0 : Int) ≤ (h : Int) := by omega
        have bcp : (h : Int) < (L : Int) := by omega
        obtain ⟨xp, hxp⟩ : ∃ x, x = d[qn]! := ⟨_, rfl⟩
        obtain ⟨yp, hyp⟩ : ∃ x, x = d[h]! := ⟨_, rfl⟩
        have lap := S1.out.cl R (by omega) (qn) (by omega)
        have lbp := S1.out.cl R (by omega) (h) (by omega)
        rw [← hxp, ← hiNp] at lap
        rw [← hyp, ← hjNp] at lbp
        have hcp := S1.out.cmp HC.out (by omega) xp yp
        have hvp : cf xp yp < 0 := by rw [hxp, hyp]; exact of_decide_eq_true hlv
        have hdp : decide (cf xp yp < 0) = true := decide_eq_true hvp
        clear hxp hyp hiNp hjNp
        go_quiet_grown (first | (go_at_fn g; refine Calls.grown_of (hcp _ _)))
        have S2 : Aside (SW enc w0 blk off d (grow (wr.drewN nq) osq)) := S1.out.grown nq osq
        clear lap lbp hcp S1
        generalize grow (wr.drewN nq) osq = wp at S2 ⊢
        clear nq osq
        clear eap ecp
        go_wp2
        go_roundg (h - i)
        case measure => omega
        case rel => exact ⟨i, h, rfl, by first | rfl | go_num, hmi, by omega, by omega, Nat.le_refl _, S2, H1, Or.inr (by rw [HQ.out] at hlv; exact hlv)⟩
    · have e : j = i := by omega
      subst e
      have hltz : ¬ (j : Int) < (j : Int) := by omega
      clear HC hcl0 hst mixed
      obtain ⟨ee, hee⟩ : ∃ x, x = n - j := ⟨_, rfl⟩
      have HM2 : Hid (∀ d1, Rot j m ee d d1 → Mid (ltOf cf) Rr a j mid ee b d1) := fun d1 hr => HMo.out j ee d1 hr hee hmi hjb H1.out H2.out
      clear HMo H1 H2
      have re : IntKind.i64.wrap ((n : Int) - (j : Int)) = (ee : Int) := by rw [IntKind.wrap_i64]; omega
      have ee1 : ee ≤ n - j := Nat.le_of_eq hee
      have ee2 : n - j ≤ ee := Nat.le_of_eq hee.symm
      clear hee
      have hje : j ≤ m := by omega
      have hme : m ≤ ee := by omega
      have heb : ee ≤ b := by omega
      have haj : a ≤ j := by omega
      have hjm : j ≤ mid := by omega
      have hmide : mid ≤ ee := by omega
      have hmidb : mid < b := by omega
      have hamid : a < mid := by omega
      clear lo1 lo2 hi1 hi2 hmi hjb HLO HHI n1 n2 p1 p2 ee1 ee2
      go_upto_region 39 with (fail)
      obtain ⟨c39, hc39⟩ : ∃ c : Bool, Hid (c = (decide (j < m) && decide (m < ee))) := ⟨_, rfl⟩
      go_cut [185] from 178 to 185 (fun b W => b = .bool c39 ∧ W = wr)
      case first =>
        by_cases k1 : j < m
        · have k1z : ((j : Nat) : Int) < ((m : Nat) : Int) := by omega
          by_cases k2 : m < ee
          · have k2z : ((m : Nat) : Int) < ((ee : Nat) : Int) := by omega
            go_wp2_with fail
            go_meet
            case rel => exact ⟨by rw [hc39.out, decide_eq_true k1, decide_eq_true k2]; rfl, rfl⟩
          · have k2z : ¬ ((m : Nat) : Int) < ((ee : Nat) : Int) := by omega
            go_wp2_with fail
            go_meet
            case rel => exact ⟨by rw [hc39.out, decide_eq_true k1, decide_eq_false k2]; rfl, rfl⟩
        · have k1z : ¬ ((j : Nat) : Int) < ((m : Nat) : Int) := by omega
          go_wp2_with fail
          go_meet
          case rel => exact ⟨by rw [hc39.out, decide_eq_false k1]; rfl, rfl⟩
      case rest =>
        obtain ⟨rfl, rfl⟩ := hcut
        go_upto_if 185 with (fail)
        go_cut [191] from 185 to 191 (fun _ W => ∃ d1 : Array α, Hid (Rot j m ee d d1) ∧ Aside (SW enc w0 blk off d1 W))
        case first =>
          cases hcc : c39 with
          | true =>
            have k := hc39.out.symm.trans hcc
            rw [Bool.and_eq_true] at k
            have k1 := of_decide_eq_true k.1
            have k2 := of_decide_eq_true k.2
            clear k
            go_wp2_with (go_at_call 113; refine (CR.out j ee _ S1.out k1 k2 (by omega)).mono ?_; rintro e w2 ⟨rfl, d1, hrot, hS1⟩)
            go_meet
            case rel => exact ⟨d1, hrot, hS1⟩
          | false =>
            have k : ¬ (j < m ∧ m < ee) := fun h => by
              have := hc39.out.symm.trans hcc
              rw [decide_eq_true h.1, decide_eq_true h.2] at this
              cases this
            go_wp2_with fail
            go_meet
            case rel => exact ⟨d, Rot.none hje hme (by omega) (by omega), S1⟩
        case rest =>
          clear hc39
          obtain ⟨d1, HRO, S2⟩ := hcut
          have HMM : Hid (Mid (ltOf cf) Rr a j mid ee b d1) := HM2.out d1 HRO.out
          have hz1 : d1.size = d.size := HRO.out.size
          clear CR HM2 S1
          go_upto_region 41 with (fail)
          obtain ⟨c41, hc41⟩ : ∃ c : Bool, Hid (c = (decide (a < j) && decide (j < mid))) := ⟨_, rfl⟩
          go_cut [199] from 192 to 199 (fun b W => b = .bool c41 ∧ W = wc)
          case first =>
            by_cases k1 : a < j
            · have k1z : ((a : Nat) : Int) < ((j : Nat) : Int) := by omega
              by_cases k2 : j < mid
              · have k2z : ((j : Nat) : Int) < ((mid : Nat) : Int) := by omega
                go_wp2_with fail
                go_meet
                case rel => exact ⟨by rw [hc41.out, decide_eq_true k1, decide_eq_true k2]; rfl, rfl⟩
              · have k2z : ¬ ((j : Nat) : Int) < ((mid : Nat) : Int) := by omega
                go_wp2_with fail
                go_meet
                case rel => exact ⟨by rw [hc41.out, decide_eq_true k1, decide_eq_false k2]; rfl, rfl⟩
            · have k1z : ¬ ((a : Nat) : Int) < ((j : Nat) : Int) := by omega
              go_wp2_with fail
              go_meet
              case rel => exact ⟨by rw [hc41.out, decide_eq_false k1]; rfl, rfl⟩
          case rest =>
            obtain ⟨rfl, rfl⟩ := hcut
            go_upto_if 199 with (fail)
            go_cut [205] from 199 to 205 (fun _ W => ∃ d2 : Array α, Hid (Merged Rr a mid d1 d2) ∧ Aside (SW enc w0 blk off d2 W))
            case first =>
              cases hcc : c41 with
              | true =>
                have k := hc41.out.symm.trans hcc
                rw [Bool.and_eq_true] at k
                have k1 := of_decide_eq_true k.1
                have k2 := of_decide_eq_true k.2
                clear k
                go_wp2_with (go_at_call 105; refine (HIH.out a j mid d1 _ (by omega) (by omega) S2.out k1 k2 (by omega) HMM.out.r1 HMM.out.r2 HMM.out.a1).mono ?_; rintro e w2 ⟨rfl, d2, hmg, hS1⟩)
                go_meet
                case rel => exact ⟨d2, hmg, hS1⟩
              | false =>
                have k : ¬ (a < j ∧ j < mid) := fun h => by
                  have := hc41.out.symm.trans hcc
                  rw [decide_eq_true h.1, decide_eq_true h.2] at this
                  cases this
                go_wp2_with fail
                go_meet
                case rel => exact ⟨d1, Merged.none (mid_left HMM.out haj hjm k), S2⟩
            case rest =>
              clear hc41
              obtain ⟨d2, HG1, S3⟩ := hcut
              have hz2 : d2.size = d1.size := HG1.out.1.1
              clear S2
              go_upto_region 43 with (fail)
              obtain ⟨c43, hc43⟩ : ∃ c : Bool, Hid (c = (decide (mid < ee) && decide (ee < b))) := ⟨_, rfl⟩
              go_cut [213] from 206 to 213 (fun b W => b = .bool c43 ∧ W = wc)
              case first =>
                by_cases k1 : mid < ee
                · have k1z : ((mid : Nat) : Int) < ((ee : Nat) : Int) := by omega
                  by_cases k2 : ee < b
                  · have k2z : ((ee : Nat) : Int) < ((b : Nat) : Int) := by omega
                    go_wp2_with fail
                    go_meet
                    case rel => exact ⟨by rw [hc43.out, decide_eq_true k1, decide_eq_true k2]; rfl, rfl⟩
                  · have k2z : ¬ ((ee : Nat) : Int) < ((b : Nat) : Int) := by omega
                    go_wp2_with fail
                    go_meet
                    case rel => exact ⟨by rw [hc43.out, decide_eq_true k1, decide_eq_false k2]; rfl, rfl⟩
                · have k1z : ¬ ((mid : Nat) : Int) < ((ee : Nat) : Int) := by omega
                  go_wp2_with fail
                  go_meet
                  case rel => exact ⟨by rw [hc43.out, decide_eq_false k1]; rfl, rfl⟩
              case rest =>
                obtain ⟨rfl, rfl⟩ := hcut
                go_upto_if 213 with (fail)
                cases hcc : c43 with
                | true =>
                  have k := hc43.out.symm.trans hcc
                  rw [Bool.and_eq_true] at k
                  have k1 := of_decide_eq_true k.1
                  have k2 := of_decide_eq_true k.2
                  clear k
                  go_wp2_with (go_at_call 105; refine (HIH.out mid ee b d2 _ (by omega) (by omega) S3.out k1 k2 (by omega) (mid_ahead HMM.out hmide HG1.out.1).1 (mid_ahead HMM.out hmide HG1.out.1).2.1 (mid_ahead HMM.out hmide HG1.out.1).2.2).mono ?_; rintro e w2 ⟨rfl, d3, hmg, hS1⟩)
                  go_end0
                  exact ⟨rfl, d3, both (PermIn.wide HRO.out.perm haj heb hb) hb (Nat.le_of_lt hamid) (Nat.le_of_lt hmidb) HMM.out.cross HG1.out hmg, hS1⟩
                | false =>
                  have k : ¬ (mid < ee ∧ ee < b) := fun h => by
                    have := hc43.out.symm.trans hcc
                    rw [decide_eq_true h.1, decide_eq_true h.2] at this
                    cases this
                  go_wp2_with fail
                  go_end0
                  exact ⟨rfl, d2, both (PermIn.wide HRO.out.perm haj heb hb) hb (Nat.le_of_lt hamid) (Nat.le_of_lt hmidb) HMM.out.cross HG1.out (Merged.none (mid_right HMM.out hmide heb HG1.out.1 k)), S3.out⟩
end Go.Proofs.YtphmmnffgknkcabGreatDoor
namespace Go.Proofs.YtphmmnffgknkcabGreatDoor
open Go.Shelf Go.RowKit Go.Lib Go.Sort
set_option maxRecDepth 100000
variable {α : Type} [Inhabited α]
structure Ins (lt : α → α → Bool) (R : α → α → Prop) (a i j : Nat) (dk dj : Array α) : Prop where
  r1 : Ris R a j dj
  r2 : Ris R j (i + 1) dj
  cr : ∀ p q, a ≤ p → p < j → j < q → q ≤ i → R dj[p]! dj[q]!
  tie : ∀ p, a ≤ p → p < j → lt dj[j]! dj[p]! = false → R dj[p]! dj[j]!
  perm : PermIn a (i + 1) dk dj
theorem Ins.start {lt : α → α → Bool} {R : α → α → Prop} {a i : Nat} {dk : Array α} (h : Ris R a i dk) (ht : ∀ p, a ≤ p → p < i → lt dk[i]! dk[p]! = false → R dk[p]! dk[i]!) : Ins lt R a i i dk dk :=
  ⟨h, fun _ _ _ _ _ => by omega, fun _ _ _ _ _ _ => by omega, ht, permIn_refl _ _ _⟩
theorem Ins.step {lt : α → α → Bool} {R : α → α → Prop} (K : Keep lt R) {a i j : Nat} {dk dj : Array α} (h : Ins lt R a i (j + 1) dk dj) (haj : a ≤ j) (hji : j + 1 ≤ i) (hi : i < dk.size) (hl : lt dj[j + 1]! dj[j]! = true) : Ins lt R a i j dk (swp dj (j + 1) j) := by
  have hz : dj.size = dk.size := h.perm.1
  have hR := K.lr _ _ hl
  have sl : (swp dj (j + 1) j)[j + 1]! = dj[j]! := swp_left dj (j + 1) j (by omega) (by omega)
  have sr : (swp dj (j + 1) j)[j]! = dj[j + 1]! := swp_right dj (j + 1) j (by omega)
  have so : ∀ k, k ≠ j → k ≠ j + 1 → (swp dj (j + 1) j)[k]! = dj[k]! := fun k h1 h2 => swp_other dj (j + 1) j k h2 h1
  refine ⟨?_, ?_, ?_, ?_, permIn_trans _ _ _ _ _ h.perm (swp_permIn dj a (i + 1) (j + 1) j (by omega) (by omega) (by omega) (by omega) (by omega))⟩
  · intro p q hp hpq hq
    rw [so p (by omega) (by omega), so q (by omega) (by omega)]
    exact h.r1 p q hp hpq (by omega)
  · intro p q hp hpq hq
    by_cases ep : p = j
    · rw [ep, sr]
      by_cases eq : q = j + 1
      · rw [eq, sl]; exact hR
      · rw [so q (by omega) eq]
        exact h.r2 (j + 1) q (by omega) (by omega) hq
    · by_cases ep2 : p = j + 1
      · rw [ep2, sl, so q (by omega) (by omega)]
        exact h.cr j q (by omega) (by omega) (by omega) (by omega)
      · rw [so p ep ep2, so q (by omega) (by omega)]
        exact h.r2 p q (by omega) hpq hq
  · intro p q hp hp2 hq hq2
    rw [so p (by omega) (by omega)]
    by_cases eq : q = j + 1
    · rw [eq, sl]
      exact h.r1 p j hp hp2 (by omega)
    · rw [so q (by omega) eq]
      exact h.cr p q hp (by omega) (by omega) hq2
  · intro p hp hp2
    rw [sr, so p (by omega) (by omega)]
    exact h.tie p hp (by omega)
theorem Ins.stop {lt : α → α → Bool} {R : α → α → Prop} (K : Keep lt R) {a i j : Nat} {dk dj : Array α} (h : Ins lt R a i j dk dj) (haj : a ≤ j) (hs : j = a ∨ lt dj[j]! dj[j - 1]! = false) : Merged R a (i + 1) dk dj := by
  refine ⟨h.perm, Ris.glue (q := j) h.r1 h.r2 fun p q hp hp2 hq hq2 => ?_⟩
  rcases hs with hs | hs
  · omega
  · have := h.tie (j - 1) (by omega) (by omega) hs
    by_cases e : q = j
    · rw [e]
      exact Ris.le K h.r1 hp (show p ≤ j - 1 by omega) (by omega) this
    · exact h.cr p q hp hp2 (by omega) (by omega)
structure InsO (lt : α → α → Bool) (R : α → α → Prop) (a b i : Nat) (d dk : Array α) : Prop where
  mg : Merged R a i d dk
  tie : ∀ p q, a ≤ p → p < q → i ≤ q → q < b → lt dk[q]! dk[p]! = false → R dk[p]! dk[q]!
theorem InsO.next {lt : α → α → Bool} {R : α → α → Prop} {a b i : Nat} {d dk dj : Array α} (h : InsO lt R a b i d dk) (hib : i < b) (hb : b ≤ d.size) (hm : Merged R a (i + 1) dk dj) : InsO lt R a b (i + 1) d dj := by
  have hz : dk.size = d.size := h.mg.1.1
  refine ⟨⟨permIn_trans _ _ _ _ _ (PermIn.wide h.mg.1 (Nat.le_refl _) (by omega) (by omega)) hm.1, hm.2⟩, fun p q hp hpq hq hqb => ?_⟩
  rw [hm.1.2.1 q (by omega)]
  by_cases hpi : p < i + 1
  · exact permIn_all dk dj a (i + 1) (fun x => lt dk[q]! x = false → R x dk[q]!) (by omega) hm.1 (fun k hk hk2 => h.tie k q hk (by omega) (by omega) hqb) p hp hpi
  · rw [hm.1.2.1 p (by omega)]
    exact h.tie p q hp hpq (by omega) hqb
set_option maxHeartbeats 8000000 in
set_option maxRecDepth 1000000 in
theorem insertion_any (enc : α → Value) (cf : α → α → Int) (Rr : α → α → Prop) (K : Keep (ltOf cf) Rr) (g : Nat) (cb : Array Value) (eg : ∀ args w, (callFunc g args).run Tryz.prog w = .ok (.enter g args) w) (blk off L cap a b : Nat) (d0 d : Array α) (w0 w : World) (hcmp : CmpLays1 Tryz.prog g cb enc cf blk off d0.size w0) (R : Row1 enc w0 blk off d0) (hs : d0.size = d.size) (hL : d.size = L) (S : SW enc w0 blk off d w) (hab : a ≤ b) (hb : b ≤ d.size) (hsz : d.size < 1000000000) (hS : Stood (ltOf cf) Rr a b d) :
    Calls Tryz.prog 104 #[.slice (some ⟨blk, off, none⟩) L cap, .int .i64 a, .int .i64 b, .func (.func g) #[] cb] w fun e w' => e = .returned (.tuple #[]) ∧ ∃ d', Merged Rr a b d d' ∧ SW enc w0 blk off d' w' := by
  have mixed : Tryz.prog.follows .mixedOrders = true := by kernel_rfl
  have hcl0 := R.hO.cells
  simp only [Value.cells] at hcl0
  have hst := R.hO.store Tryz.prog
  have HC : Aside _ := hcmp
  have HK : Hid (Keep (ltOf cf) Rr) := K
  have HI0 : Hid (InsO (ltOf cf) Rr a b (a + 1) d d) := ⟨⟨permIn_refl _ _ _, fun i j h1 h2 h3 => by omega⟩, fun p q hp hpq _ hqb hl => hS p q hp hpq hqb hl⟩
  have S0 : Aside (SW enc w0 blk off d w) := S
  clear S hcmp K hS
  go_enter Tryz.func104, Tryz.ntmps104
  go_wp2
  go_loopg [8] (b - a) (fun g1 vi wr => ∃ (i : Nat) (dk : Array α), vi = .int .i64 i ∧ a < i ∧ i ≤ b + 1 ∧ (a < b → i ≤ b) ∧ b + 1 - i ≤ g1 + 1 ∧ dk.size = d.size ∧ Aside (SW enc w0 blk off dk wr) ∧ Hid (InsO (ltOf cf) Rr a b i d dk) ∧ Hid (b ≤ a → dk = d))
  case atStart => exact ⟨a + 1, d, by go_num, by omega, by omega, by omega, by omega, rfl, S0, HI0, fun _ => rfl⟩
  case round =>
    clear S0 HI0
    obtain ⟨i, dk, rfl, hai, hib, hib2, hg1, hsk, S1, HO, HN⟩ := hrel
    by_cases hlt : i < b
    · have hltz : (i : Int) < (b : Int) := by omega
      clear hib2
      go_wp2
      have HI1 : Hid (Ins (ltOf cf) Rr a i i dk dk) := Ins.start HO.out.mg.2 (fun p hp hp2 hl => HO.out.tie p i hp hp2 (Nat.le_refl _) hlt hl)
      go_loopg [9] i (fun g2 vj wr2 => ∃ (j : Nat) (dj : Array α), vj = .int .i64 j ∧ a ≤ j ∧ j ≤ i ∧ j ≤ g2 ∧ dj.size = d.size ∧ Aside (SW enc w0 blk off dj wr2) ∧ Hid (Ins (ltOf cf) Rr a i j dk dj))
      case atStart => exact ⟨i, dk, rfl, by omega, Nat.le_refl _, Nat.le_refl _, hsk, S1, HI1⟩
      case round =>
        clear S1 HI1
        obtain ⟨j, dj, rfl, haj, hji, hg2, hsj, SJ, HI⟩ := hrel
        by_cases hja : a < j
        · obtain ⟨jp, rfl⟩ : ∃ q, j = q + 1 := ⟨j - 1, by omega⟩
          have hjad : decide ((jp : Int) + 1 > (a : Int)) = true := decide_eq_true (by omega)
          have hjaz' : (a : Int) < (jp : Int) + 1 := by omega
          have rj : IntKind.i64.wrap ((jp : Int) + 1 - 1) = (jp : Int) := by rw [IntKind.wrap_i64]; omega
          cases hlv : (ltOf cf) dj[jp + 1]! dj[jp]! with
          | true =>
            go_wp2_with fail
            obtain ⟨iNp, hiNp⟩ : ∃ q, q = jp + 1 := ⟨_, rfl⟩
            obtain ⟨jNp, hjNp⟩ : ∃ q, q = jp := ⟨_, rfl⟩
            have eap : ((jp : Int) + 1).toNat = iNp := by omega
            have pap : (0 : Int) ≤ (jp : Int) + 1 := by omega
            have bap : (jp : Int) + 1 < (L : Int) := by omega
            have rap : IntKind.i64.wrap ((jp : Int) + 1) = (jp : Int) + 1 := by rw [IntKind.wrap_i64]; omega
            have ecp : ((jp : Int)).toNat = jNp := by omega
            have pcp : (0 : Int) ≤ (jp : Int) := by omega
            have bcp : (jp : Int) < (L : Int) := by omega
            have rcp : IntKind.i64.wrap ((jp : Int)) = (jp : Int) := by rw [IntKind.wrap_i64]; omega
            obtain ⟨xp, hxp⟩ : ∃ x, x = dj[jp + 1]! := ⟨_, rfl⟩
            obtain ⟨yp, hyp⟩ : ∃ x, x = dj[jp]! := ⟨_, rfl⟩
            have lap := SJ.out.cl R (by omega) (jp + 1) (by omega)
            have lbp := SJ.out.cl R (by omega) (jp) (by omega)
            rw [← hxp, ← hiNp] at lap
            rw [← hyp, ← hjNp] at lbp
            have hcp := SJ.out.cmp HC.out (by omega) xp yp
            have hvp : cf xp yp < 0 := by rw [hxp, hyp]; exact of_decide_eq_true hlv
            have hdp : decide (cf xp yp < 0) = true := decide_eq_true hvp
            clear hxp hyp hiNp hjNp
            go_quiet_grown (first | (go_at_fn g; refine Calls.grown_of (hcp _ _)))
            have S2 : Aside (SW enc w0 blk off dj (grow (wr.drewN nq) osq)) := SJ.out.grown nq osq
            clear lap lbp hcp SJ
            generalize grow (wr.drewN nq) osq = wp at S2 ⊢
            clear nq osq
            clear eap ecp
            go_wp2_with fail
            obtain ⟨iNq, hiNq⟩ : ∃ q, q = jp + 1 := ⟨_, rfl⟩
            obtain ⟨jNq, hjNq⟩ : ∃ q, q = jp := ⟨_, rfl⟩
            have eaq : ((jp : Int) + 1).toNat = iNq := by omega
            have paq : (0 : Int) ≤ (jp : Int) + 1 := by omega
            have baq : (jp : Int) + 1 < (L : Int) := by omega
            have raq : IntKind.i64.wrap ((jp : Int) + 1) = (jp : Int) + 1 := by rw [IntKind.wrap_i64]; omega
            have ecq : ((jp : Int)).toNat = jNq := by omega
            have pcq : (0 : Int) ≤ (jp : Int) := by omega
            have bcq : (jp : Int) < (L : Int) := by omega
            have rcq : IntKind.i64.wrap ((jp : Int)) = (jp : Int) := by rw [IntKind.wrap_i64]; omega
            obtain ⟨xq, hxq⟩ : ∃ x, x = dj[jp + 1]! := ⟨_, rfl⟩
            obtain ⟨yq, hyq⟩ : ∃ x, x = dj[jp]! := ⟨_, rfl⟩
            have S3 : Aside (SW enc w0 blk off (swp dj (jp + 1) (jp)) ((wp.setCell ⟨blk, off + iNq, none⟩ (enc yq)).setCell ⟨blk, off + jNq, none⟩ (enc xq)).drew) := by rw [hiNq, hjNq, hxq, hyq]; exact S2.out.swapped R (jp + 1) (jp) (by omega) (by omega)
            have caq := S2.out.c1 R (by omega) (jp + 1) (by omega)
            have ccq := S2.out.c1 R (by omega) (jp) (by omega)
            have faq := S2.out.f1 R (by omega) (jp + 1) (by omega)
            have fbq := S2.out.f1 R (by omega) (jp) (by omega)
            obtain ⟨uq, cuq⟩ := S2.out.c2 R (by omega) (jp + 1) (jp) (by omega) (by omega) (enc yq)
            rw [← hiNq, ← hjNq] at cuq
            rw [← hxq, ← hiNq] at caq
            rw [← hyq, ← hjNq] at ccq
            rw [← hiNq] at faq
            rw [← hjNq] at fbq
            clear S2 hxq hyq hiNq hjNq
            go_wp2_with fail
            go_big_region_o
            clear caq ccq cuq faq fbq
            generalize ((wp.setCell ⟨blk, off + iNq, none⟩ (enc yq)).setCell ⟨blk, off + jNq, none⟩ (enc xq)).drew = wq at S3 ⊢
            clear eaq ecq
            go_wp2
            go_roundg jp
            case measure => omega
            case rel => exact ⟨jp, swp dj (jp + 1) jp, by first | rfl | go_num, by omega, by omega, Nat.le_refl _, by rw [size_swp]; exact hsj, S3, Ins.step HK.out HI.out (by omega) hji (by omega) hlv⟩
          | false =>
            go_wp2_with fail
            obtain ⟨iNp, hiNp⟩ : ∃ q, q = jp + 1 := ⟨_, rfl⟩
            obtain ⟨jNp, hjNp⟩ : ∃ q, q = jp := ⟨_, rfl⟩
            have eap : ((jp : Int) + 1).toNat = iNp := by omega
            have pap : (0 : Int) ≤ (jp : Int) + 1 := by omega
            have bap : (jp : Int) + 1 < (L : Int) := by omega
            have rap : IntKind.i64.wrap ((jp : Int) + 1) = (jp : Int) + 1 := by rw [IntKind.wrap_i64]; omega
            have ecp : ((jp : Int)).toNat = jNp := by omega
            have pcp : (0 : Int) ≤ (jp : Int) := by omega
            have bcp : (jp : Int) < (L : Int) := by omega
            have rcp : IntKind.i64.wrap ((jp : Int)) = (jp : Int) := by rw [IntKind.wrap_i64]; omega
            obtain ⟨xp, hxp⟩ : ∃ x, x = dj[jp + 1]! := ⟨_, rfl⟩
            obtain ⟨yp, hyp⟩ : ∃ x, x = dj[jp]! := ⟨_, rfl⟩
            have lap := SJ.out.cl R (by omega) (jp + 1) (by omega)
            have lbp := SJ.out.cl R (by omega) (jp) (by omega)
            rw [← hxp, ← hiNp] at lap
            rw [← hyp, ← hjNp] at lbp
            have hcp := SJ.out.cmp HC.out (by omega) xp yp
            have hvp : ¬ cf xp yp < 0 := by rw [hxp, hyp]; exact of_decide_eq_false hlv
            have hdp : decide (cf xp yp < 0) = false := decide_eq_false hvp
            clear hxp hyp hiNp hjNp
            go_quiet_grown (first | (go_at_fn g; refine Calls.grown_of (hcp _ _)))
            have S2 : Aside (SW enc w0 blk off dj (grow (wr.drewN nq) osq)) := SJ.out.grown nq osq
            clear lap lbp hcp SJ
            generalize grow (wr.drewN nq) osq = wp at S2 ⊢
            clear nq osq
            clear eap ecp
            go_wp2
            go_roundg (b - (i + 1))
            case measure => omega
            case rel => exact ⟨i + 1, dj, by go_num, by omega, by omega, by omega, by omega, hsj, S2, InsO.next HO.out hlt hb (HI.out.stop HK.out (by omega) (Or.inr hlv)), fun h => absurd h (by omega)⟩
        · have hjaz : decide ((j : Int) > (a : Int)) = false := decide_eq_false (by omega)
          have hjaz' : ¬ (a : Int) < (j : Int) := by omega
          go_wp2_with fail
          go_big_region_o
          have S2 : Aside (SW enc w0 blk off dj wr.drew) := SJ.out.drew
          clear SJ
          generalize wr.drew = w2 at S2 ⊢
          go_wp2
          go_roundg (b - (i + 1))
          case measure => omega
          case rel => exact ⟨i + 1, dj, by go_num, by omega, by omega, by omega, by omega, hsj, S2, InsO.next HO.out hlt hb (HI.out.stop HK.out haj (Or.inl (by omega))), fun h => absurd h (by omega)⟩
    · have hltz : ¬ (i : Int) < (b : Int) := by omega
      have HF : Hid (Merged Rr a b d dk) := by
        show Merged _ _ _ _ _
        by_cases e : i = b
        · rw [← e]; exact HO.out.mg
        · have hnab : ¬ a < b := fun h => by have := hib2 h; omega
          rw [HN.out (by omega)]
          exact ⟨permIn_refl _ _ _, fun x y h1 h2 h3 => by omega⟩
      go_wp2
      go_end0
      exact ⟨rfl, dk, HF.out, S1.out⟩
end Go.Proofs.YtphmmnffgknkcabGreatDoor
namespace Go.Proofs.YtphmmnffgknkcabGreatDoor
open Go.Shelf Go.RowKit Go.Lib Go.Sort
set_option maxRecDepth 100000
variable {α : Type} [Inhabited α]
theorem symMerge_any (enc : α → Value) (cf : α → α → Int) (Rr : α → α → Prop) (K : Keep (ltOf cf) Rr) (g : Nat) (cb : Array Value) (eg : ∀ args w, (callFunc g args).run Tryz.prog w = .ok (.enter g args) w) (blk off L cap : Nat) (d0 : Array α) (w0 : World) (hcmp : CmpLays1 Tryz.prog g cb enc cf blk off d0.size w0) (R : Row1 enc w0 blk off d0) (hL : d0.size = L) (hsz : L < 1000000000) : ∀ (NN a m b : Nat) (d : Array α) (w : World), b - a < NN → d0.size = d.size → SW enc w0 blk off d w → a < m → m < b → b ≤ d.size → Ris Rr a m d → Ris Rr m b d → Ahead (ltOf cf) Rr a m b d → Calls Tryz.prog 105 #[.slice (some ⟨blk, off, none⟩) L cap, .int .i64 a, .int .i64 m, .int .i64 b, .func (.func g) #[] cb] w fun e w' => e = .returned (.tuple #[]) ∧ ∃ d', Merged Rr a b d d' ∧ SW enc w0 blk off d' w'
  | 0, a, m, b, d, w, h, _, _, _, _, _, _, _, _ => by omega
  | NN + 1, a, m, b, d, w, h, hz, S, ham, hmb, hb, h1, h2, hx => by
    have IH := symMerge_any enc cf Rr K g cb eg blk off L cap d0 w0 hcmp R hL hsz NN
    by_cases c1 : m = a + 1
    · exact symLeft_any enc cf Rr K g cb eg blk off L cap a m b d0 d w0 w hcmp R hz (by omega) S c1 hmb hb (by omega) h2 hx
    · by_cases c2 : b = m + 1
      · exact symRight_any enc cf Rr K g cb eg blk off L cap a m b d0 d w0 w hcmp R hz (by omega) S ham c1 c2 hb (by omega) h1 hx
      · by_cases c3 : (a + b) / 2 < m
        · exact symMidA_any enc cf Rr K g cb eg blk off L cap a m b d0 d w0 w hcmp R hz (by omega) S NN (by omega) IH ham c1 hmb c2 ((a + b) / 2) ⟨by omega, by omega⟩ c3 hb (by omega) h1 h2 hx
        · exact symMidB_any enc cf Rr K g cb eg blk off L cap a m b d0 d w0 w hcmp R hz (by omega) S NN (by omega) IH ham c1 hmb c2 ((a + b) / 2) ⟨by omega, by omega⟩ (by omega) hb (by omega) h1 h2 hx
structure Blkd (lt : α → α → Bool) (R : α → α → Prop) (B hi n : Nat) (d dk : Array α) : Prop where
  perm : PermIn 0 n d dk
  cut : ∀ k, Cut lt R (k * B) n dk
  ris : ∀ k, k * B < hi → Ris R (k * B) (min (k * B + B) n) dk
structure Half (lt : α → α → Bool) (R : α → α → Prop) (B k n : Nat) (d dk : Array α) : Prop where
  perm : PermIn 0 n d dk
  cut2 : ∀ j, Cut lt R (j * (2 * B)) n dk
  cut1 : ∀ j, k * (2 * B) ≤ j * B → Cut lt R (j * B) n dk
  ris2 : ∀ j, j < k → Ris R (j * (2 * B)) (min (j * (2 * B) + 2 * B) n) dk
  ris1 : ∀ j, k * (2 * B) ≤ j * B → j * B < n → Ris R (j * B) (min (j * B + B) n) dk
theorem Blkd.first {lt : α → α → Bool} {R : α → α → Prop} {n : Nat} {d : Array α} (h : Stood lt R 0 n d) : Blkd lt R 20 0 n d d :=
  ⟨permIn_refl _ _ _, fun k i j _ hi hj hj2 hl => h i j (Nat.zero_le _) (by omega) hj2 hl, fun k hk => by omega⟩
theorem Blkd.next {lt : α → α → Bool} {R : α → α → Prop} {k e n : Nat} {d dk dj : Array α} (h : Blkd lt R 20 (k * 20) n d dk) (he : e = min (k * 20 + 20) n) (hk : k * 20 ≤ n) (hn : n ≤ d.size) (hm : Merged R (k * 20) e dk dj) : Blkd lt R 20 (k * 20 + 20) n d dj := by
  have hz : dk.size = d.size := h.perm.1
  refine ⟨permIn_trans _ _ _ _ _ h.perm (PermIn.wide hm.1 (Nat.zero_le _) (by omega) (by omega)), fun c => (h.cut c).perm hm.1 (by omega) (by omega) ?_, fun c hc => ?_⟩
  · by_cases c1 : c ≤ k
    · exact Or.inr (Nat.mul_le_mul_right 20 c1)
    · have : (k + 1) * 20 ≤ c * 20 := Nat.mul_le_mul_right 20 (by omega)
      exact Or.inl (by omega)
  · by_cases c1 : c < k
    · have h1 : (c + 1) * 20 ≤ k * 20 := Nat.mul_le_mul_right 20 (by omega)
      exact (h.ris c (by omega)).other hm.1 (Or.inl (by omega))
    · have e1 : c = k := by
        by_cases c2 : k < c
        · have : (k + 1) * 20 ≤ c * 20 := Nat.mul_le_mul_right 20 (by omega)
          omega
        · omega
      rw [e1, ← he]
      exact hm.2
theorem Blkd.half {lt : α → α → Bool} {R : α → α → Prop} {B n : Nat} {d dk : Array α} (h : Blkd lt R B n n d dk) : Half lt R B 0 n d dk :=
  ⟨h.perm, fun j => by rw [show j * (2 * B) = (j * 2) * B by rw [Nat.mul_assoc]]; exact h.cut _, fun j _ => h.cut j, fun j hj => by omega, fun j _ hj => h.ris j hj⟩
theorem Half.next {lt : α → α → Bool} {R : α → α → Prop} {B k e n : Nat} {d dk dj : Array α} (h : Half lt R B k n d dk) (he : e = min (k * (2 * B) + 2 * B) n) (hn : n ≤ d.size) (hm : Merged R (k * (2 * B)) e dk dj) : Half lt R B (k + 1) n d dj := by
  have hz : dk.size = d.size := h.perm.1
  have hk1 : (k + 1) * (2 * B) = k * (2 * B) + 2 * B := Nat.succ_mul _ _
  refine ⟨permIn_trans _ _ _ _ _ h.perm (PermIn.wide hm.1 (Nat.zero_le _) (by omega) (by omega)), fun c => (h.cut2 c).perm hm.1 (by omega) (by omega) ?_, fun c hc => (h.cut1 c (by omega)).perm hm.1 (by omega) (by omega) (Or.inl (by omega)), fun c hc => ?_, fun c hc hcn => (h.ris1 c (by omega) hcn).other hm.1 (Or.inr (by omega))⟩
  · by_cases c1 : c ≤ k
    · exact Or.inr (Nat.mul_le_mul_right _ c1)
    · have : (k + 1) * (2 * B) ≤ c * (2 * B) := Nat.mul_le_mul_right _ (by omega)
      exact Or.inl (by omega)
  · by_cases c1 : c < k
    · have h1 : (c + 1) * (2 * B) ≤ k * (2 * B) := Nat.mul_le_mul_right _ (by omega)
      rw [Nat.succ_mul] at h1
      exact (h.ris2 c c1).other hm.1 (Or.inl (by omega))
    · rw [show c = k by omega, ← he]
      exact hm.2
theorem Half.asks {lt : α → α → Bool} {R : α → α → Prop} {B k e n : Nat} {d dk : Array α} (h : Half lt R B k n d dk) (he : e = min (k * (2 * B) + 2 * B) n) (hB : 0 < B) (hm : k * (2 * B) + B < n) : Ris R (k * (2 * B)) (k * (2 * B) + B) dk ∧ Ris R (k * (2 * B) + B) e dk ∧ Ahead lt R (k * (2 * B)) (k * (2 * B) + B) e dk := by
  have e1 : k * (2 * B) = (2 * k) * B := by rw [Nat.mul_comm k, Nat.mul_assoc, Nat.mul_assoc, Nat.mul_comm B k]
  have e2 : k * (2 * B) + B = (2 * k + 1) * B := by rw [Nat.succ_mul (2 * k), e1]
  have q1 := h.ris1 (2 * k) (by omega) (by omega)
  have q2 := h.ris1 (2 * k + 1) (by omega) (by omega)
  have q3 := h.cut1 (2 * k + 1) (by omega)
  rw [← e1] at q1
  rw [← e2] at q2 q3
  exact ⟨q1.mono (Nat.le_refl _) (by omega), q2.mono (Nat.le_refl _) (by omega), q3.mono (Nat.zero_le _) (Nat.le_refl _) (Nat.le_refl _) (by omega)⟩
theorem Half.last {lt : α → α → Bool} {R : α → α → Prop} {B k n : Nat} {d dk : Array α} (h : Half lt R B k n d dk) (hB : 0 < B) (h1 : n ≤ k * (2 * B) + B) : Blkd lt R (2 * B) n n d dk := by
  refine ⟨h.perm, h.cut2, fun c hc => ?_⟩
  by_cases c1 : c < k
  · exact h.ris2 c c1
  · by_cases c2 : k < c
    · have : (k + 1) * (2 * B) ≤ c * (2 * B) := Nat.mul_le_mul_right _ (by omega)
      rw [Nat.succ_mul] at this
      omega
    · have e : c = k := by omega
      subst e
      have e1 : c * (2 * B) = (2 * c) * B := by rw [Nat.mul_comm c, Nat.mul_assoc, Nat.mul_assoc, Nat.mul_comm B c]
      have q1 := h.ris1 (2 * c) (by omega) (by omega)
      rw [← e1] at q1
      exact q1.mono (Nat.le_refl _) (by omega)
theorem Half.done {lt : α → α → Bool} {R : α → α → Prop} {B k n : Nat} {d dk : Array α} (h : Half lt R B k n d dk) (h1 : n ≤ k * (2 * B)) : Blkd lt R (2 * B) n n d dk := by
  refine ⟨h.perm, h.cut2, fun c hc => h.ris2 c ?_⟩
  by_cases c2 : c < k
  · exact c2
  · have : k * (2 * B) ≤ c * (2 * B) := Nat.mul_le_mul_right _ (by omega)
    omega
theorem Blkd.wide {lt : α → α → Bool} {R : α → α → Prop} {B hi n : Nat} {d dk : Array α} (h : Blkd lt R B hi n d dk) (hh : n ≤ hi) : Blkd lt R B n n d dk := ⟨h.perm, h.cut, fun k hk => h.ris k (by omega)⟩
theorem Blkd.whole {lt : α → α → Bool} {R : α → α → Prop} {B n : Nat} {d dk : Array α} (h : Blkd lt R B n n d dk) (hB : n ≤ B) : Merged R 0 n d dk := by
  refine ⟨h.perm, ?_⟩
  by_cases hn : n = 0
  · intro i j _ _ hj; omega
  · have := h.ris 0 (by omega)
    rw [Nat.zero_mul, Nat.zero_add, show min B n = n by omega] at this
    exact this
set_option maxHeartbeats 8000000 in
set_option maxRecDepth 1000000 in
theorem stable_any (enc : α → Value) (cf : α → α → Int) (Rr : α → α → Prop) (K : Keep (ltOf cf) Rr) (g : Nat) (cb : Array Value) (eg : ∀ args w, (callFunc g args).run Tryz.prog w = .ok (.enter g args) w) (blk off n cap : Nat) (d : Array α) (w0 w : World) (hcmp : CmpLays1 Tryz.prog g cb enc cf blk off d.size w0) (R : Row1 enc w0 blk off d) (hn : d.size = n) (S : SW enc w0 blk off d w) (hsz : n < 1000000000) (hS : Stood (ltOf cf) Rr 0 n d) :
    Calls Tryz.prog 86 #[.slice (some ⟨blk, off, none⟩) n cap, .int .i64 n, .func (.func g) #[] cb] w fun e w' => e = .returned (.tuple #[]) ∧ ∃ d', Merged Rr 0 n d d' ∧ SW enc w0 blk off d' w' := by
  have CI : Aside (∀ (a b : Nat) (dk : Array α) (w : World), dk.size = n → SW enc w0 blk off dk w → a ≤ b → b ≤ n → Stood (ltOf cf) Rr a b dk → Calls Tryz.prog 104 #[.slice (some ⟨blk, off, none⟩) n cap, .int .i64 a, .int .i64 b, .func (.func g) #[] cb] w fun e w' => e = .returned (.tuple #[]) ∧ ∃ d', Merged Rr a b dk d' ∧ SW enc w0 blk off d' w') := fun a b dk w h1 h2 h3 h4 h5 => insertion_any enc cf Rr K g cb eg blk off n cap a b d dk w0 w hcmp R (by omega) h1 h2 h3 (by omega) (by omega) h5
  have CM : Aside (∀ (a m b : Nat) (dk : Array α) (w : World), dk.size = n → SW enc w0 blk off dk w → a < m → m < b → b ≤ n → (Ris Rr a m dk ∧ Ris Rr m b dk ∧ Ahead (ltOf cf) Rr a m b dk) → Calls Tryz.prog 105 #[.slice (some ⟨blk, off, none⟩) n cap, .int .i64 a, .int .i64 m, .int .i64 b, .func (.func g) #[] cb] w fun e w' => e = .returned (.tuple #[]) ∧ ∃ d', Merged Rr a b dk d' ∧ SW enc w0 blk off d' w') := fun a m b dk w h1 h2 h3 h4 h5 h6 => symMerge_any enc cf Rr K g cb eg blk off n cap d w0 hcmp R hn hsz (b - a + 1) a m b dk w (by omega) (by omega) h2 h3 h4 (by omega) h6.1 h6.2.1 h6.2.2
  have HST : Hid (Stood (ltOf cf) Rr 0 n d) := hS
  have S0 : Aside (SW enc w0 blk off d w) := S
  have n1 : n ≤ d.size := Nat.le_of_eq hn.symm
  have n2 : d.size ≤ n := Nat.le_of_eq hn
  clear S hcmp R K hS hn
  go_enter Tryz.func86, Tryz.ntmps86
  go_wp2
  go_loopg [7, 8] n (fun kx s7 s8 wr => ∃ (aN bN : Nat) (dk : Array α), s7 = .int .i64 aN ∧ s8 = .int .i64 bN ∧ bN ≤ aN + 20 ∧ aN + 20 ≤ bN ∧ aN ≤ n ∧ n - aN ≤ kx ∧ Hid (dk.size = n) ∧ Aside (SW enc w0 blk off dk wr) ∧ Hid (∀ i, aN ≤ i → dk[i]! = d[i]!) ∧ Hid (∃ k, aN = k * 20 ∧ Blkd (ltOf cf) Rr 20 (k * 20) n d dk))
  case atStart => exact ⟨0, 20, d, rfl, rfl, by omega, by omega, by omega, by omega, (show d.size = n by omega), S0, fun _ _ => rfl, ⟨0, rfl, Blkd.first HST.out⟩⟩
  case round =>
    clear S0
    obtain ⟨aN, bN, dk, rfl, rfl, hb1, hb2, han, hkx, HZ, S1, HSA, HB⟩ := hrel
    by_cases hlt : bN ≤ n
    · have hltz : (bN : Int) ≤ (n : Int) := by omega
      have rb : IntKind.i64.wrap ((bN : Int) + 20) = (bN : Int) + 20 := by rw [IntKind.wrap_i64]; omega
      have HSS : Hid (Stood (ltOf cf) Rr aN bN dk) := fun i j hi hij hj hl => by
        rw [HSA.out i hi, HSA.out j (by omega)] at hl ⊢
        exact HST.out i j (Nat.zero_le _) hij (by omega) hl
      go_wp2_with (go_at_call 104; refine (CI.out aN bN dk _ HZ.out S1.out (by omega) (by omega) HSS.out).mono ?_; rintro e w2 ⟨rfl, d2, hmg, hS2⟩)
      go_roundg (n - bN)
      case measure => omega
      case rel =>
        refine ⟨bN, bN + 20, d2, rfl, by go_num, by omega, by omega, by omega, Nat.le_refl _, (show d2.size = n by rw [hmg.1.1]; exact HZ.out), hS2, fun i hi => ?_, ?_⟩
        · rw [hmg.1.2.1 i (by omega)]
          exact HSA.out i (by omega)
        · obtain ⟨k, hk, hB⟩ := HB.out
          have e : bN = (k + 1) * 20 := by omega
          refine ⟨k + 1, e, ?_⟩
          rw [hk] at hmg
          have := hB.next (e := bN) (by omega) (by omega) n1 hmg
          rw [Nat.succ_mul]
          exact this
    · have hltz : ¬ (bN : Int) ≤ (n : Int) := by omega
      have HSS : Hid (Stood (ltOf cf) Rr aN n dk) := fun i j hi hij hj hl => by
        rw [HSA.out i hi, HSA.out j (by omega)] at hl ⊢
        exact HST.out i j (Nat.zero_le _) hij (by omega) hl
      go_wp2_with (go_at_call 104; refine (CI.out aN n dk _ HZ.out S1.out han (Nat.le_refl _) HSS.out).mono ?_; rintro e w2 ⟨rfl, d2, hmg, hS2⟩)
      have HB2 : Hid (Blkd (ltOf cf) Rr 20 n n d d2) := by
        obtain ⟨k, hk, hB⟩ := HB.out
        rw [hk] at hmg
        exact (hB.next (e := n) (by omega) (by omega) n1 hmg).wide (by omega)
      have HZ2 : Hid (d2.size = n) := (show d2.size = n by rw [hmg.1.1]; exact HZ.out)
      have S2 : Aside (SW enc w0 blk off d2 w2) := hS2
      clear CI HST HSA HB HSS hmg hS2 S1 HZ
      go_loopg [6] n (fun kx s6 wr => ∃ (B : Nat) (dk : Array α), s6 = .int .i64 B ∧ 0 < B ∧ B ≤ 2 * n + 20 ∧ n - B ≤ kx ∧ Hid (dk.size = n) ∧ Aside (SW enc w0 blk off dk wr) ∧ Hid (Blkd (ltOf cf) Rr B n n d dk))
      case atStart => exact ⟨20, d2, rfl, by omega, by omega, by omega, HZ2, S2, HB2⟩
      case round =>
        clear S2 HB2 HZ2
        obtain ⟨B, dk, rfl, hB0, hB1, hkx2, HZ, S1, HB⟩ := hrel
        by_cases hBn : B < n
        · have hBz : (B : Int) < (n : Int) := by omega
          have r2 : IntKind.i64.wrap (2 * (B : Int)) = 2 * (B : Int) := by rw [IntKind.wrap_i64]; omega
          go_wp2
          go_loopg [7, 8] n (fun kx s7 s8 wr => ∃ (aN bN : Nat) (dj : Array α), s7 = .int .i64 aN ∧ s8 = .int .i64 bN ∧ bN ≤ aN + 2 * B ∧ aN + 2 * B ≤ bN ∧ aN ≤ n ∧ n - aN ≤ kx ∧ Hid (dj.size = n) ∧ Aside (SW enc w0 blk off dj wr) ∧ Hid (∃ k, aN = k * (2 * B) ∧ Half (ltOf cf) Rr B k n d dj))
          case atStart => exact ⟨0, 2 * B, dk, rfl, by first | rfl | go_num, by omega, by omega, by omega, by omega, HZ, S1, ⟨0, by omega, HB.out.half⟩⟩
          case round =>
            clear S1 HZ HB
            obtain ⟨aN, bN, dj, rfl, rfl, hb3, hb4, han2, hkx3, HZ, S1, HH⟩ := hrel
            by_cases hlt2 : bN ≤ n
            · have hltz2 : (bN : Int) ≤ (n : Int) := by omega
              have ra : IntKind.i64.wrap ((aN : Int) + (B : Int)) = ((aN + B : Nat) : Int) := by rw [IntKind.wrap_i64]; omega
              have rb : IntKind.i64.wrap ((bN : Int) + 2 * (B : Int)) = (bN : Int) + 2 * (B : Int) := by rw [IntKind.wrap_i64]; omega
              have HA : Hid (Ris Rr aN (aN + B) dj ∧ Ris Rr (aN + B) bN dj ∧ Ahead (ltOf cf) Rr aN (aN + B) bN dj) := by
                obtain ⟨k, hk, hH⟩ := HH.out
                have := hH.asks (e := bN) (by omega) hB0 (by omega)
                rw [← hk] at this
                exact this
              go_wp2_with (go_at_call 105; refine (CM.out aN (aN + B) bN dj _ HZ.out S1.out (by omega) (by omega) hlt2 HA.out).mono ?_; rintro e w3 ⟨rfl, d3, hmg, hS3⟩)
              go_roundg (n - bN)
              case measure => omega
              case rel =>
                refine ⟨bN, bN + 2 * B, d3, rfl, by go_num, by omega, by omega, by omega, Nat.le_refl _, (show d3.size = n by rw [hmg.1.1]; exact HZ.out), hS3, ?_⟩
                obtain ⟨k, hk, hH⟩ := HH.out
                have e : bN = (k + 1) * (2 * B) := by rw [Nat.succ_mul]; omega
                refine ⟨k + 1, e, ?_⟩
                rw [hk] at hmg
                exact hH.next (e := bN) (by omega) n1 hmg
            · have hltz2 : ¬ (bN : Int) ≤ (n : Int) := by omega
              obtain ⟨mN, hmN⟩ : ∃ x, x = aN + B := ⟨_, rfl⟩
              have ra : IntKind.i64.wrap ((aN : Int) + (B : Int)) = (mN : Int) := by rw [IntKind.wrap_i64]; omega
              have m1 : mN ≤ aN + B := Nat.le_of_eq hmN
              have m2 : aN + B ≤ mN := Nat.le_of_eq hmN.symm
              have HMN : Hid (mN = aN + B) := hmN
              clear hmN
              have rB : IntKind.i64.wrap ((B : Int) * 2) = (B : Int) * 2 := by rw [IntKind.wrap_i64]; omega
              by_cases hmn : mN < n
              · have hmz : (mN : Int) < (n : Int) := by omega
                have HA : Hid (Ris Rr aN mN dj ∧ Ris Rr mN n dj ∧ Ahead (ltOf cf) Rr aN mN n dj) := by
                  obtain ⟨k, hk, hH⟩ := HH.out
                  have := hH.asks (e := n) (by omega) hB0 (by omega)
                  rw [← hk, ← HMN.out] at this
                  exact this
                go_wp2_with (go_at_call 105; refine (CM.out aN mN n dj _ HZ.out S1.out (by omega) hmn (Nat.le_refl _) HA.out).mono ?_; rintro e w3 ⟨rfl, d3, hmg, hS3⟩)
                go_roundg (n - 2 * B)
                case measure => omega
                case rel =>
                  refine ⟨2 * B, d3, by first | rfl | go_num | (congr 1; omega), by omega, by omega, Nat.le_refl _, (show d3.size = n by rw [hmg.1.1]; exact HZ.out), hS3, ?_⟩
                  obtain ⟨k, hk, hH⟩ := HH.out
                  rw [hk] at hmg
                  exact (hH.next (e := n) (by omega) n1 hmg).done (by rw [Nat.succ_mul]; omega)
              · have hmz : ¬ (mN : Int) < (n : Int) := by omega
                go_wp2_with fail
                go_roundg (n - 2 * B)
                case measure => omega
                case rel =>
                  refine ⟨2 * B, dj, by first | rfl | go_num | (congr 1; omega), by omega, by omega, Nat.le_refl _, HZ, S1, ?_⟩
                  obtain ⟨k, hk, hH⟩ := HH.out
                  exact hH.last hB0 (by omega)
        · have hBz : ¬ (B : Int) < (n : Int) := by omega
          go_wp2
          go_end0
          exact ⟨rfl, dk, HB.out.whole (by omega), S1.out⟩
end Go.Proofs.YtphmmnffgknkcabGreatDoor
namespace Go.Proofs.YtphmmnffgknkcabGreatDoor
open Go.Shelf Go.RowKit Go.Lib Go.Sort
set_option maxRecDepth 100000
theorem heap_mapBlock (w : World) (blk j : Nat) (f : Array Value → Array Value) (h : j ≠ blk) : (mapBlock w blk f).heap[j]? = w.heap[j]? := by
  unfold mapBlock
  simp [Array.getElem?_modify, Ne.symm h]
section
variable {α : Type} [Inhabited α] {enc : α → Value} {w0 W : World} {blk off : Nat} {dk : Array α}
theorem heap_sortWorld (n j : Nat) (os : Array Obj) (h : j ≠ blk) (hj : j < w0.heap.size) : (sortWorld enc w0 blk off n dk os).heap[j]? = w0.heap[j]? := by
  unfold sortWorld
  show ((putRow enc (Sort.ahead w0 n) blk off dk).heap ++ os)[j]? = _
  rw [Array.getElem?_append_left (by rw [Go.Sort.size_putRow]; exact hj)]
  exact heap_mapBlock _ _ _ _ h
theorem sw_heap (h : SW enc w0 blk off dk W) (j : Nat) (hj : j ≠ blk) (hl : j < w0.heap.size) : W.heap[j]? = w0.heap[j]? := by
  obtain ⟨n, os, rfl⟩ := h
  exact heap_sortWorld n j os hj hl
theorem sw_bel {w : World} {B : Nat} (h : SW enc w0 blk off dk W) (hb : Below B w w0) (hB : B ≤ blk) (hs : B ≤ w0.heap.size) : Below B w W := by
  have hh := sw_heap h
  have hle := h.le
  obtain ⟨n, os, rfl⟩ := h
  refine ⟨hb.os, hb.tape, hb.output, Nat.le_trans hb.size hle, fun k hk => ?_⟩
  rw [hh k (by omega) (by omega)]
  exact hb.block k hk
theorem sw_set (h : SW enc w0 blk off dk W) (hblk : blk < w0.heap.size) (i : Nat) (x : α) (hi : i < dk.size) : SW enc w0 blk off (dk.setIfInBounds i x) (W.setCell ⟨blk, off + i, none⟩ (enc x)) := by
  obtain ⟨n, os, rfl⟩ := h
  refine ⟨n, os, ?_⟩
  unfold sortWorld
  rw [← putRow_grow enc (Sort.ahead w0 n) os blk off dk hblk, putRow_set enc _ blk off dk i x hi, putRow_grow enc (Sort.ahead w0 n) os blk off _ hblk]
end
theorem blk_heap {W W' : World} {g : Nat} {cs : List Value} {t : TypeId} (h : Blk W g cs t) (e : W'.heap[g]? = W.heap[g]?) : Blk W' g cs t := by
  unfold Blk at *
  rw [e]; exact h
theorem TreeC.heap {W W' : World} {g c : Nat} {rt ix vl : List (BitVec 8)} {p q : Value} (h : TreeC W g c rt ix vl p q) (e : W'.heap[g]? = W.heap[g]?) : TreeC W' g c rt ix vl p q := ⟨blk_heap h.blk e, h.l1, h.l2, h.l3⟩
abbrev cmpB (x y : List (BitVec 8)) : Int := Lib.compareBytes (x.map UInt8.ofBitVec) (y.map UInt8.ofBitVec)
theorem loadB (z : List (BitVec 8)) (b o : Nat) (w : World) (hz : z.length = 32) (hb : w.rangeAt b o (cb z)) : (Extern.Bytes.loadBytes ⟨b, o, none⟩ 32 .empty).run Tryz.prog w = .ok ⟨(z.map UInt8.ofBitVec).toArray⟩ w := by
  have hl := Lib.run_loadBytesX (P := Tryz.prog) w (z.map fun b => (b.toNat : Int)) ⟨b, o, none⟩ .empty (fun j v hj => by
    have hjl : j < z.length := by have := (List.getElem?_eq_some_iff.1 hj).1; simpa using this
    rw [Addr.add_mid, hb j _ (cb_get z j hjl)]
    rw [List.getElem?_map, List.getElem?_eq_getElem hjl] at hj
    simp only [Option.map_some, Option.some.injEq] at hj
    rw [← hj, List.getD_eq_getElem?_getD, List.getElem?_eq_getElem hjl, Option.getD_some])
  rw [List.length_map, hz, bytes_cb] at hl
  simpa using hl
theorem run_compareR (x y : List (BitVec 8)) (hx : x.length = 32) (hy : y.length = 32) (g h o p : Nat) {w : World} (h1 : w.rangeAt g o (cb x)) (h2 : w.rangeAt h p (cb y)) :
    (Extern.BytealgCompare.compare #[.slice (some ⟨g, o, none⟩) 32 32, .slice (some ⟨h, p, none⟩) 32 32]).run Tryz.prog w = .ok (.int .i64 (cmpB x y)) w := by
  change Sem.run Tryz.prog (do pure (goInt (Extern.BytealgCompare.cmp (← Extern.Bytes.bytesOf (.slice (some ⟨g, o, none⟩) 32 32)) (← Extern.Bytes.bytesOf (.slice (some ⟨h, p, none⟩) 32 32))))) w = _
  simp only [Extern.Bytes.bytesOf, Sem.run_bind, Sem.run_pure, loadB x g o w hx h1, loadB y h p w hy h2, Result.andThen]
  rw [Lib.cmp_eq]
  rfl
theorem slice_dig33 (g : Nat) (w : World) : (Instr.sliceAt 40 (.pointer (some ⟨g, 33, none⟩)) none none none).run Tryz.prog w = .ok (.slice (some ⟨g, 33, none⟩) 32 32) w := by kernel_rfl
set_option maxRecDepth 100000 in
theorem bCompareR_any (x y : List (BitVec 8)) (hx : x.length = 32) (hy : y.length = 32) (g h o p : Nat) (w : World) (h1 : w.rangeAt g o (cb x)) (h2 : w.rangeAt h p (cb y)) :
    Calls Tryz.prog 27 #[.slice (some ⟨g, o, none⟩) 32 32, .slice (some ⟨h, p, none⟩) 32 32] w fun e w' => e = .returned (.int .i64 (cmpB x y)) ∧ w' = w := by
  have hr := run_compareR x y hx hy g h o p h1 h2
  obtain ⟨c, HC⟩ : ∃ c, Hid (c = cmpB x y) := ⟨_, rfl⟩
  rw [← HC.out] at hr ⊢
  clear h1 h2
  go_enter Tryz.func27, Tryz.ntmps27
  go_wp2
  rw [run_callFunc_extern Tryz.func41 (by kernel_rfl) (by kernel_rfl) (by kernel_rfl) (e := Extern.BytealgCompare.compare) (by kernel_rfl), hr]
  simp only [Result.andThen]
  rw [Oper.upon_value]
  go_wp2
  go_ret
  exact ⟨rfl, rfl⟩
set_option maxRecDepth 100000 in
set_option maxHeartbeats 1000000 in
theorem trRising1_any (gx gy : Nat) (x y : List (BitVec 8)) (w : World) (hx : w.rangeAt gx 33 (cb x)) (hy : w.rangeAt gy 33 (cb y)) (h1 : x.length = 32) (h2 : y.length = 32) : Calls Tryz.prog 61 #[.pointer (some ⟨gx, 0, none⟩), .pointer (some ⟨gy, 0, none⟩)] w fun e w' => e = .returned (.int .i64 (cmpB x y)) ∧ w' = w.drew := by
  have HX : Hid (w.drew.rangeAt gx 33 (cb x)) := hx
  have HY : Hid (w.drew.rangeAt gy 33 (cb y)) := hy
  have H1 : Hid (x.length = 32) := h1
  have H2 : Hid (y.length = 32) := h2
  obtain ⟨c, HC⟩ : ∃ c, Hid (c = cmpB x y) := ⟨_, rfl⟩
  rw [← HC.out]
  clear hx hy h1 h2
  go_enter Tryz.func61, Tryz.ntmps61
  go_wp2_with fail
  refine wp_region_any (by kernel_rfl) ?_
  change wpAny _ _ _ _ _ _ _ (World.drew w)
  refine wpAny_take (i := 0) (v := .pointer (some ⟨gx, 0, none⟩)) rfl (by kernel_rfl) (by kernel_rfl) (by kernel_rfl) (fun _ _ _ h => h) (Or.inl ⟨by rfl, fun wx => by simp [go_sem]⟩) ?_
  simp only [Act.put, List.getElem_toArray, List.getElem_cons_zero, List.setIfInBounds_toArray, List.set_cons_zero, List.set_cons_succ]
  refine wpAny_take (i := 1) (v := .pointer (some ⟨gx, 0, none⟩)) rfl (by kernel_rfl) (by kernel_rfl) (by kernel_rfl) (fun _ _ _ h => h) (Or.inl ⟨by rfl, fun wx => by simp [go_sem]⟩) ?_
  simp only [Act.put, List.getElem_toArray, List.getElem_cons_succ, List.getElem_cons_zero, List.setIfInBounds_toArray, List.set_cons_zero, List.set_cons_succ]
  refine wpAny_take (i := 2) (v := .pointer (some ⟨gx, 33, none⟩)) rfl (by kernel_rfl) (by kernel_rfl) (by kernel_rfl) (fun _ _ _ h => h) (Or.inl ⟨by rfl, fun wx => by simp [go_sem]⟩) ?_
  simp only [Act.put, List.getElem_toArray, List.getElem_cons_succ, List.getElem_cons_zero, List.setIfInBounds_toArray, List.set_cons_zero, List.set_cons_succ]
  refine wpAny_take (i := 3) (v := .slice (some ⟨gx, 33, none⟩) 32 32) rfl (by kernel_rfl) (by kernel_rfl) (by kernel_rfl) (fun _ _ _ h => h) (Or.inl ⟨by rfl, fun wx => by simp [execOp, Act.eval, slice_dig33]⟩) ?_
  simp only [Act.put, List.getElem_toArray, List.getElem_cons_succ, List.getElem_cons_zero, List.setIfInBounds_toArray, List.set_cons_zero, List.set_cons_succ]
  refine wpAny_take (i := 4) (v := .pointer (some ⟨gy, 0, none⟩)) rfl (by kernel_rfl) (by kernel_rfl) (by kernel_rfl) (fun _ _ _ h => h) (Or.inl ⟨by rfl, fun wx => by simp [go_sem]⟩) ?_
  simp only [Act.put, List.getElem_toArray, List.getElem_cons_succ, List.getElem_cons_zero, List.setIfInBounds_toArray, List.set_cons_zero, List.set_cons_succ]
  refine wpAny_take (i := 5) (v := .pointer (some ⟨gy, 0, none⟩)) rfl (by kernel_rfl) (by kernel_rfl) (by kernel_rfl) (fun _ _ _ h => h) (Or.inl ⟨by rfl, fun wx => by simp [go_sem]⟩) ?_
  simp only [Act.put, List.getElem_toArray, List.getElem_cons_succ, List.getElem_cons_zero, List.setIfInBounds_toArray, List.set_cons_zero, List.set_cons_succ]
  refine wpAny_take (i := 6) (v := .pointer (some ⟨gy, 33, none⟩)) rfl (by kernel_rfl) (by kernel_rfl) (by kernel_rfl) (fun _ _ _ h => h) (Or.inl ⟨by rfl, fun wx => by simp [go_sem]⟩) ?_
  simp only [Act.put, List.getElem_toArray, List.getElem_cons_succ, List.getElem_cons_zero, List.setIfInBounds_toArray, List.set_cons_zero, List.set_cons_succ]
  refine wpAny_take (i := 7) (v := .slice (some ⟨gy, 33, none⟩) 32 32) rfl (by kernel_rfl) (by kernel_rfl) (by kernel_rfl) (fun _ _ _ h => h) (Or.inl ⟨by rfl, fun wx => by simp [execOp, Act.eval, slice_dig33]⟩) ?_
  simp only [Act.put, List.getElem_toArray, List.getElem_cons_succ, List.getElem_cons_zero, List.setIfInBounds_toArray, List.set_cons_zero, List.set_cons_succ]
  refine wpAny_enter 8 (by kernel_rfl) rfl (by rfl) (f := 27) (args := #[.slice (some ⟨gx, 33, none⟩) 32 32, .slice (some ⟨gy, 33, none⟩) 32 32]) (by simp [go_sem]) (bCompareR_any x y H1.out H2.out gx gy 33 33 _ HX.out HY.out) ?_
  rintro e wz ⟨rfl, hz⟩
  rw [hz, ← HC.out]; clear hz wz
  refine ⟨_, rfl, ?_⟩
  simp only [Act.put, List.getElem_toArray, List.getElem_cons_succ, List.getElem_cons_zero, List.setIfInBounds_toArray, List.set_cons_zero, List.set_cons_succ]
  refine wpAny_take (i := 9) (v := .int .i64 c) rfl (by kernel_rfl) (by kernel_rfl) (by kernel_rfl) (fun _ _ _ h => h) (Or.inl ⟨by rfl, fun wx => by simp [go_sem]⟩) ?_
  simp only [Act.put, List.getElem_toArray, List.getElem_cons_succ, List.getElem_cons_zero, List.setIfInBounds_toArray, List.set_cons_zero, List.set_cons_succ]
  refine wpAny_done (by kernel_rfl) ?_ _
  go_wp2_with fail
  go_ret
  exact ⟨rfl, rfl⟩
set_option maxRecDepth 100000 in
set_option maxHeartbeats 1000000 in
theorem trRising2_any (gx gy : Nat) (x y : List (BitVec 8)) (w : World) (hx : w.rangeAt gx 33 (cb x)) (hy : w.rangeAt gy 33 (cb y)) (h1 : x.length = 32) (h2 : y.length = 32) : Calls Tryz.prog 63 #[.pointer (some ⟨gx, 0, none⟩), .pointer (some ⟨gy, 0, none⟩)] w fun e w' => e = .returned (.bool (decide (x = y))) ∧ w' = w.drew := by
  have HX : Hid (∀ wx, Over w.drew wx → wx.rangeAt gx 33 (cb x)) := fun wx hw => rangeAt_below (w := w.drew) hx hw.out (rangeAt_lt hx h1)
  have HY : Hid (∀ wx, Over w.drew wx → wx.rangeAt gy 33 (cb y)) := fun wx hw => rangeAt_below (w := w.drew) hy hw.out (rangeAt_lt hy h2)
  have H1 : Hid (x.length = 32) := h1
  have H2 : Hid (y.length = 32) := h2
  have heq : ∀ wx : World, (Op.equalIn 10000 40 (.agg (cb x).toArray) (.agg (cb y).toArray)).run Tryz.prog wx = .ok (decide (x = y)) wx := fun wx => eq_dig x y h1 h2 wx
  clear hx hy h1 h2
  go_enter Tryz.func63, Tryz.ntmps63
  go_wp2_with fail
  refine wp_region_held_drew (S := Over w.drew) (by kernel_rfl) (Over.refl _) ?_
  intro hS
  refine wpAnyH_take (i := 0) (v := .pointer (some ⟨gx, 0, none⟩)) rfl (by kernel_rfl) (by kernel_rfl) (by kernel_rfl) (fun _ _ _ h => h) (Or.inl ⟨by rfl, fun wx hx => by simp [go_sem]⟩) hS ?_
  simp only [Act.put, List.getElem_toArray, List.getElem_cons_zero, List.setIfInBounds_toArray, List.set_cons_zero, List.set_cons_succ]
  refine wpAnyH_take (i := 1) (v := .pointer (some ⟨gx, 0, none⟩)) rfl (by kernel_rfl) (by kernel_rfl) (by kernel_rfl) (fun _ _ _ h => h) (Or.inl ⟨by rfl, fun wx hx => by simp [go_sem]⟩) hS ?_
  simp only [Act.put, List.getElem_toArray, List.getElem_cons_succ, List.getElem_cons_zero, List.setIfInBounds_toArray, List.set_cons_zero, List.set_cons_succ]
  refine wpAnyH_take (i := 2) (v := .pointer (some ⟨gx, 33, none⟩)) rfl (by kernel_rfl) (by kernel_rfl) (by kernel_rfl) (fun _ _ _ h => h) (Or.inl ⟨by rfl, fun wx hx => by simp [go_sem]⟩) hS ?_
  simp only [Act.put, List.getElem_toArray, List.getElem_cons_succ, List.getElem_cons_zero, List.setIfInBounds_toArray, List.set_cons_zero, List.set_cons_succ]
  refine wpAnyH_take (i := 3) (v := .agg (cb x).toArray) rfl (by kernel_rfl) (by kernel_rfl) (by kernel_rfl) (fun _ _ _ h => h) (Or.inl ⟨by rfl, fun wx hx => by exact load_run 40 _ rfl _ _ rfl (cb x) _ (HX.out wx hx) Tryz.underlying40 rfl (by rw [cb_len, H1.out]; exact info_digest)⟩) hS ?_
  simp only [Act.put, List.getElem_toArray, List.getElem_cons_succ, List.getElem_cons_zero, List.setIfInBounds_toArray, List.set_cons_zero, List.set_cons_succ]
  refine wpAnyH_take (i := 4) (v := .pointer (some ⟨gy, 0, none⟩)) rfl (by kernel_rfl) (by kernel_rfl) (by kernel_rfl) (fun _ _ _ h => h) (Or.inl ⟨by rfl, fun wx hx => by simp [go_sem]⟩) hS ?_
  simp only [Act.put, List.getElem_toArray, List.getElem_cons_succ, List.getElem_cons_zero, List.setIfInBounds_toArray, List.set_cons_zero, List.set_cons_succ]
  refine wpAnyH_take (i := 5) (v := .pointer (some ⟨gy, 0, none⟩)) rfl (by kernel_rfl) (by kernel_rfl) (by kernel_rfl) (fun _ _ _ h => h) (Or.inl ⟨by rfl, fun wx hx => by simp [go_sem]⟩) hS ?_
  simp only [Act.put, List.getElem_toArray, List.getElem_cons_succ, List.getElem_cons_zero, List.setIfInBounds_toArray, List.set_cons_zero, List.set_cons_succ]
  refine wpAnyH_take (i := 6) (v := .pointer (some ⟨gy, 33, none⟩)) rfl (by kernel_rfl) (by kernel_rfl) (by kernel_rfl) (fun _ _ _ h => h) (Or.inl ⟨by rfl, fun wx hx => by simp [go_sem]⟩) hS ?_
  simp only [Act.put, List.getElem_toArray, List.getElem_cons_succ, List.getElem_cons_zero, List.setIfInBounds_toArray, List.set_cons_zero, List.set_cons_succ]
  refine wpAnyH_take (i := 7) (v := .agg (cb y).toArray) rfl (by kernel_rfl) (by kernel_rfl) (by kernel_rfl) (fun _ _ _ h => h) (Or.inl ⟨by rfl, fun wx hx => by exact load_run 40 _ rfl _ _ rfl (cb y) _ (HY.out wx hx) Tryz.underlying40 rfl (by rw [cb_len, H2.out]; exact info_digest)⟩) hS ?_
  simp only [Act.put, List.getElem_toArray, List.getElem_cons_succ, List.getElem_cons_zero, List.setIfInBounds_toArray, List.set_cons_zero, List.set_cons_succ]
  refine wpAnyH_take (i := 8) (v := .bool (decide (x = y))) rfl (by kernel_rfl) (by kernel_rfl) (by kernel_rfl) (fun _ _ _ h => h) (Or.inl ⟨by rfl, fun wx hx => by simp [go_sem, heq]⟩) hS ?_
  simp only [Act.put, List.getElem_toArray, List.getElem_cons_succ, List.getElem_cons_zero, List.setIfInBounds_toArray, List.set_cons_zero, List.set_cons_succ]
  refine wpAnyH_take (i := 9) (v := .bool (decide (x = y))) rfl (by kernel_rfl) (by kernel_rfl) (by kernel_rfl) (fun _ _ _ h => h) (Or.inl ⟨by rfl, fun wx hx => by simp [go_sem]⟩) hS ?_
  simp only [Act.put, List.getElem_toArray, List.getElem_cons_succ, List.getElem_cons_zero, List.setIfInBounds_toArray, List.set_cons_zero, List.set_cons_succ]
  refine wpAnyH_done (by kernel_rfl) ?_ _
  go_wp2_with fail
  go_ret
  exact ⟨rfl, rfl⟩
end Go.Proofs.YtphmmnffgknkcabGreatDoor
namespace Go.Proofs.YtphmmnffgknkcabGreatDoor
open Go.Shelf Go.RowKit Go.Lib Go.Sort
set_option maxRecDepth 100000
variable {α : Type} [Inhabited α]
def EqLays (g : Nat) (cb : Array Value) (enc : α → Value) (eqf : α → α → Bool) (blk off size : Nat) (w : World) : Prop :=
  ∀ (m : Nat) (os : Array Obj) (dk : Array α), dk.size = size → ∀ x y : α,
    Calls Tryz.prog g (#[enc x, enc y] ++ cb) (sortWorld enc w blk off m dk os) fun e w' => e = .returned (.bool (eqf x y)) ∧ ∃ q os', w' = grow ((sortWorld enc w blk off m dk os).drewN q) os'
theorem swEq {enc : α → Value} {w0 W : World} {blk off : Nat} {dk : Array α} {g : Nat} {cb : Array Value} {eqf : α → α → Bool} {size : Nat} (h : SW enc w0 blk off dk W) (hC : EqLays g cb enc eqf blk off size w0) (hs : dk.size = size) (x y : α) (n : Nat) (os : Array Obj) :
    Calls Tryz.prog g (#[enc x, enc y] ++ cb) (grow (W.drewN n) os) fun e w' => e = .returned (.bool (eqf x y)) ∧ ∃ q os', w' = grow ((grow (W.drewN n) os).drewN q) os' := by
  obtain ⟨m, os0, hw⟩ := h.grown n os
  rw [hw]
  exact hC m os0 dk hs x y
def keptB (eqf : α → α → Bool) (d : Array α) (k : Nat) : Bool := k == 0 || !eqf d[k]! d[k - 1]!
def keptL (eqf : α → α → Bool) (d : Array α) (n : Nat) : List α := ((List.range n).filter (keptB eqf d)).map fun k => d[k]!
theorem keptL_succ (eqf : α → α → Bool) (d : Array α) (n : Nat) : keptL eqf d (n + 1) = keptL eqf d n ++ (if keptB eqf d n then [d[n]!] else []) := by
  unfold keptL
  rw [List.range_succ, List.filter_append, List.map_append]
  congr 1
  rw [List.filter_cons]
  split <;> simp
theorem keptL_le (eqf : α → α → Bool) (d : Array α) (n : Nat) : (keptL eqf d n).length ≤ n := by
  unfold keptL
  rw [List.length_map]
  exact Nat.le_trans (List.length_filter_le _ _) (by simp)
theorem keptL_all (eqf : α → α → Bool) (d : Array α) (n : Nat) (hn : n ≤ d.size) (h : ∀ k, 1 ≤ k → k < n → eqf d[k]! d[k - 1]! = false) : keptL eqf d n = d.toList.take n := by
  induction n with
  | zero => simp [keptL]
  | succ n ih =>
    rw [keptL_succ, ih (by omega) (fun k h1 h2 => h k h1 (by omega)), List.take_add_one]
    congr 1
    have hk : keptB eqf d n = true := by
      unfold keptB
      by_cases e : n = 0
      · simp [e]
      · rw [h n (by omega) (by omega)]; simp
    rw [if_pos hk, Array.getElem?_toList, Array.getElem?_eq_getElem (by omega), getElem!_pos d n (by omega)]
    rfl
structure Cpt (eqf : α → α → Bool) (d : Array α) (i kk : Nat) (dk : Array α) : Prop where
  size : dk.size = d.size
  take : dk.toList.take kk = keptL eqf d i
  len : kk = (keptL eqf d i).length
  lt : kk < i
  same : ∀ k, i ≤ k + 1 → dk[k]! = d[k]!
theorem Cpt.skip {eqf : α → α → Bool} {d dk : Array α} {i kk : Nat} (h : Cpt eqf d i kk dk) (h0 : 0 < i) (he : eqf d[i]! d[i - 1]! = true) : Cpt eqf d (i + 1) kk dk := by
  have hk : keptB eqf d i = false := by unfold keptB; rw [he]; simp; omega
  have e : keptL eqf d (i + 1) = keptL eqf d i := by rw [keptL_succ, hk]; simp
  exact ⟨h.size, by rw [e]; exact h.take, by rw [e]; exact h.len, by have := h.lt; omega, fun k hk => h.same k (by omega)⟩
theorem Cpt.keep {eqf : α → α → Bool} {d dk : Array α} {i kk : Nat} (h : Cpt eqf d i kk dk) (hi : i < d.size) (he : eqf d[i]! d[i - 1]! = false) : Cpt eqf d (i + 1) (kk + 1) (dk.setIfInBounds kk d[i]!) := by
  have hz := h.size
  have hl := h.lt
  have hk : keptB eqf d i = true := by unfold keptB; rw [he]; simp
  have e : keptL eqf d (i + 1) = keptL eqf d i ++ [d[i]!] := by rw [keptL_succ, hk]; simp
  refine ⟨by simpa using hz, ?_, by rw [e, List.length_append, ← h.len]; rfl, by omega, fun k hk => ?_⟩
  · rw [e, ← h.take, Array.toList_setIfInBounds, List.take_add_one, List.getElem?_set_self (by rw [Array.length_toList]; omega), List.take_set_of_le (Nat.le_refl _)]
    rfl
  · rw [getElem!_set_other _ _ _ _ (by omega), h.same k (by omega)]
structure Cmpd (enc : α → Value) (eqf : α → α → Bool) (d : Array α) (blk off kk : Nat) (w0 W : World) : Prop where
  len : kk = (keptL eqf d d.size).length
  cell : ∀ j, j < kk → W.cell? ⟨blk, off + j, none⟩ = some (enc (keptL eqf d d.size)[j]!)
  heap : ∀ j, j ≠ blk → j < w0.heap.size → W.heap[j]? = w0.heap[j]?
  bel : ∀ (B : Nat) (w : World), Below B w w0 → B ≤ blk → B ≤ w0.heap.size → Below B w W
theorem cell_setCells (g j : Nat) : ∀ (vs : List Value) (o : Nat) (w : World), j < o → (w.setCells g o vs).cell? ⟨g, j, none⟩ = w.cell? ⟨g, j, none⟩
  | [], _, _, _ => rfl
  | v :: r, o, w, h => by
    rw [World.setCells, cell_setCells g j r (o + 1) _ (by omega), World.cell?_setCell_other _ _ _ _ (by intro e; simp only [Addr.mk.injEq] at e; omega)]
theorem take_get {dk : Array α} {kk : Nat} {l : List α} (h : dk.toList.take kk = l) (hk : kk ≤ dk.size) (j : Nat) (hj : j < kk) : dk[j]! = l[j]! := by
  rw [← h, getElem!_pos dk j (by omega), getElem!_pos _ j (by rw [List.length_take, Array.length_toList]; omega), List.getElem_take, Array.getElem_toList]
set_option maxHeartbeats 8000000 in
set_option maxRecDepth 1000000 in
theorem compact_any (enc : α → Value) (eqf : α → α → Bool) (g : Nat) (cb : Array Value) (eg : ∀ args w, (callFunc g args).run Tryz.prog w = .ok (.enter g args) w) (blk off L cap : Nat) (d : Array α) (w0 w : World) (hE : EqLays g cb enc eqf blk off d.size w0) (R : Row1 enc w0 blk off d) (hL : d.size = L) (S : SW enc w0 blk off d w) (h1 : 1 ≤ L) (hcap : L ≤ cap) (hsz : L < 1000000000) :
    Calls Tryz.prog 62 #[.slice (some ⟨blk, off, none⟩) L cap, .func (.func g) #[] cb] w fun e w' => ∃ kk, e = .returned (.slice (some ⟨blk, off, none⟩) kk cap) ∧ Cmpd enc eqf d blk off kk w0 w' := by
  have mixed : Tryz.prog.follows .mixedOrders = true := by kernel_rfl
  have hcl0 := R.hO.cells
  simp only [Value.cells] at hcl0
  have hst := R.hO.store Tryz.prog
  have HE : Aside _ := hE
  have S0 : Aside (SW enc w0 blk off d w) := S
  have l1 : d.size ≤ L := Nat.le_of_eq hL
  have l2 : L ≤ d.size := Nat.le_of_eq hL.symm
  have HL : Hid (d.size = L) := hL
  have HFULL : Hid (∀ W, SW enc w0 blk off d W → (∀ k, 1 ≤ k → k < L → eqf d[k]! d[k - 1]! = false) → Cmpd enc eqf d blk off L w0 W) := fun W hS hk => by
    have e : keptL eqf d d.size = d.toList := by rw [keptL_all eqf d d.size (Nat.le_refl _) (by rw [HL.out]; exact hk), ← Array.length_toList, List.take_length]
    refine ⟨by rw [e, Array.length_toList, HL.out], fun j hj => ?_, fun j h1 h2 => sw_heap hS j h1 h2, fun B w hb h1 h2 => sw_bel hS hb h1 h2⟩
    rw [hS.c1 R rfl j (by omega), e, getElem!_pos d j (by omega), getElem!_pos _ j (by rw [Array.length_toList]; omega), Array.getElem_toList]
  clear S hL hE
  go_enter Tryz.func62, Tryz.ntmps62
  by_cases hL2 : L < 2
  · have hz : (L : Int) < 2 := by omega
    have HF : Hid (Cmpd enc eqf d blk off L w0 w) := HFULL.out w S0.out (fun k a b => by omega)
    go_wp2
    go_ret
    exact ⟨L, rfl, HF.out⟩
  · have hz : ¬ (L : Int) < 2 := by omega
    go_wp2
    go_loopg [5] L (fun kx s5 wr => ∃ (k : Nat), s5 = .int .i64 k ∧ 1 ≤ k ∧ k ≤ L ∧ L - k ≤ kx ∧ Aside (SW enc w0 blk off d wr) ∧ Hid (∀ j, 1 ≤ j → j < k → eqf d[j]! d[j - 1]! = false))
    case atStart => exact ⟨1, rfl, by omega, by omega, by omega, S0, fun j h1 h2 => by omega⟩
    case round =>
      clear S0
      obtain ⟨k, rfl, hk1, hkL, hkx, S1, HA⟩ := hrel
      by_cases hlt : k < L
      · have hltz : (k : Int) < (L : Int) := by omega
        obtain ⟨kp, rfl⟩ : ∃ q, k = q + 1 := ⟨k - 1, by omega⟩
        have rk : IntKind.i64.wrap ((kp : Int) + 1 - 1) = (kp : Int) := by rw [IntKind.wrap_i64]; omega
        have hltz2 : (kp : Int) + 1 < (L : Int) := by omega
        cases hlv : eqf d[kp + 1]! d[kp]! with
        | false =>
          go_wp2_with fail
          obtain ⟨iNp, hiNp⟩ : ∃ q, q = kp + 1 := ⟨_, rfl⟩
          obtain ⟨jNp, hjNp⟩ : ∃ q, q = kp := ⟨_, rfl⟩
          have eap : ((kp : Int) + 1).toNat = iNp := by omega
          have pap : (0 : Int) ≤ (kp : Int) + 1 := by omega
          have bap : (kp : Int) + 1 < (L : Int) := by omega
          have rap : IntKind.i64.wrap ((kp : Int) + 1) = (kp : Int) + 1 := by rw [IntKind.wrap_i64]; omega
          have ecp : ((kp : Int)).toNat = jNp := by omega
          have pcp : (0 : Int) ≤ (kp : Int) := by omega
          have bcp : (kp : Int) < (L : Int) := by omega
          have rcp : IntKind.i64.wrap ((kp : Int)) = (kp : Int) := by rw [IntKind.wrap_i64]; omega
          obtain ⟨xp, hxp⟩ : ∃ x, x = d[kp + 1]! := ⟨_, rfl⟩
          obtain ⟨yp, hyp⟩ : ∃ x, x = d[kp]! := ⟨_, rfl⟩
          have lap := S1.out.cl R (by omega) (kp + 1) (by omega)
          have lbp := S1.out.cl R (by omega) (kp) (by omega)
          rw [← hxp, show off + (kp + 1) = off + iNp by omega] at lap
          rw [← hyp, show off + (kp) = off + jNp by omega] at lbp
          have hcp := swEq S1.out HE.out (by omega) xp yp
          rw [show eqf xp yp = false by rw [hxp, hyp]; exact hlv] at hcp
          clear hxp hyp hiNp hjNp
          go_quiet_grown (first | (go_at_fn g; refine Calls.grown_of (hcp _ _)))
          have S2 : Aside (SW enc w0 blk off d (grow (wr.drewN nq) osq)) := S1.out.grown nq osq
          clear lap lbp hcp S1
          generalize grow (wr.drewN nq) osq = wp at S2 ⊢
          clear nq osq
          clear eap ecp
          have rk2 : IntKind.i64.wrap ((kp : Int) + 1 + 1) = (kp : Int) + 1 + 1 := by rw [IntKind.wrap_i64]; omega
          go_wp2
          go_roundg (L - (kp + 1 + 1))
          case measure => omega
          case rel =>
            refine ⟨kp + 1 + 1, by go_num, by omega, by omega, Nat.le_refl _, S2, fun j h1 h2 => ?_⟩
            by_cases e : j = kp + 1
            · rw [e]; exact hlv
            · exact HA.out j h1 (by omega)
        | true =>
          go_wp2_with fail
          obtain ⟨iNp, hiNp⟩ : ∃ q, q = kp + 1 := ⟨_, rfl⟩
          obtain ⟨jNp, hjNp⟩ : ∃ q, q = kp := ⟨_, rfl⟩
          have eap : ((kp : Int) + 1).toNat = iNp := by omega
          have pap : (0 : Int) ≤ (kp : Int) + 1 := by omega
          have bap : (kp : Int) + 1 < (L : Int) := by omega
          have rap : IntKind.i64.wrap ((kp : Int) + 1) = (kp : Int) + 1 := by rw [IntKind.wrap_i64]; omega
          have ecp : ((kp : Int)).toNat = jNp := by omega
          have pcp : (0 : Int) ≤ (kp : Int) := by omega
          have bcp : (kp : Int) < (L : Int) := by omega
          have rcp : IntKind.i64.wrap ((kp : Int)) = (kp : Int) := by rw [IntKind.wrap_i64]; omega
          obtain ⟨xp, hxp⟩ : ∃ x, x = d[kp + 1]! := ⟨_, rfl⟩
          obtain ⟨yp, hyp⟩ : ∃ x, x = d[kp]! := ⟨_, rfl⟩
          have lap := S1.out.cl R (by omega) (kp + 1) (by omega)
          have lbp := S1.out.cl R (by omega) (kp) (by omega)
          rw [← hxp, show off + (kp + 1) = off + iNp by omega] at lap
          rw [← hyp, show off + (kp) = off + jNp by omega] at lbp
          have hcp := swEq S1.out HE.out (by omega) xp yp
          rw [show eqf xp yp = true by rw [hxp, hyp]; exact hlv] at hcp
          clear hxp hyp hiNp hjNp
          go_quiet_grown (first | (go_at_fn g; refine Calls.grown_of (hcp _ _)))
          have S2 : Aside (SW enc w0 blk off d (grow (wr.drewN nq) osq)) := S1.out.grown nq osq
          clear lap lbp hcp S1
          generalize grow (wr.drewN nq) osq = wp at S2 ⊢
          clear nq osq
          clear eap ecp
          obtain ⟨oK, hoK⟩ : ∃ q, q = off + (kp + 1) := ⟨_, rfl⟩
          obtain ⟨nK, hnK⟩ : ∃ q, q = L - (kp + 1) := ⟨_, rfl⟩
          obtain ⟨cK, hcK⟩ : ∃ q, q = cap - (kp + 1) := ⟨_, rfl⟩
          have hsh : ∀ w : World, (Instr.sliceAt 78 (.slice (some ⟨blk, off, none⟩) L cap) (some (.int .i64 ((kp : Int) + 1))) none none).run Tryz.prog w = .ok (.slice (some ⟨blk, oK, none⟩) nK cK) w := fun w => by
            have := slHi blk off L cap (kp + 1) (by omega) w
            rw [if_neg (by omega), ← hoK, ← hnK, ← hcK] at this
            exact this
          have o1 : oK ≤ off + (kp + 1) := Nat.le_of_eq hoK
          have o2 : off + (kp + 1) ≤ oK := Nat.le_of_eq hoK.symm
          have n1 : nK ≤ L - (kp + 1) := Nat.le_of_eq hnK
          have n2 : L - (kp + 1) ≤ nK := Nat.le_of_eq hnK.symm
          clear hoK hnK hcK
          have HC0 : Hid (Cpt eqf d (kp + 2) (kp + 1) d) := by
            have e1 : keptL eqf d (kp + 1) = d.toList.take (kp + 1) := keptL_all eqf d (kp + 1) (by omega) (fun j h1 h2 => HA.out j h1 h2)
            have e2 : keptL eqf d (kp + 2) = keptL eqf d (kp + 1) := by rw [keptL_succ]; simp [keptB, hlv]
            exact ⟨rfl, by rw [e2, e1], by rw [e2, e1, List.length_take, Array.length_toList]; omega, by omega, fun _ _ => rfl⟩
          clear hlv HA HFULL
          go_wp2_with fail
          go_loopg [5, 7] L (fun kx s5 s7 wr => ∃ (kk k2 : Nat) (dk : Array α), s5 = .int .i64 kk ∧ s7 = .int .i64 k2 ∧ 1 ≤ k2 ∧ k2 ≤ nK ∧ nK - k2 ≤ kx ∧ Aside (SW enc w0 blk off dk wr) ∧ Hid (Cpt eqf d (kp + 1 + k2) kk dk))
          case atStart => exact ⟨kp + 1, 1, d, by first | rfl | go_num, rfl, by omega, by omega, by omega, S2, HC0⟩
          case round =>
            clear S2 HC0 hsh
            obtain ⟨kk, k2, dk, rfl, rfl, hk21, hk22, hkx2, S3, HP⟩ := hrel
            have hdz : dk.size = d.size := HP.out.size
            have hkklt : kk < kp + 1 + k2 := HP.out.lt
            by_cases hlt2 : k2 < nK
            · have hltz3 : (k2 : Int) < (nK : Int) := by omega
              obtain ⟨kq, rfl⟩ : ∃ q, k2 = q + 1 := ⟨k2 - 1, by omega⟩
              have hltz4 : (kq : Int) + 1 < (nK : Int) := by omega
              have rq : IntKind.i64.wrap ((kq : Int) + 1 - 1) = (kq : Int) := by rw [IntKind.wrap_i64]; omega
              have rq2 : IntKind.i64.wrap ((kq : Int) + 1 + 1) = (kq : Int) + 1 + 1 := by rw [IntKind.wrap_i64]; omega
              have HS1 : Hid (dk[kp + 1 + (kq + 1)]! = d[kp + 1 + (kq + 1)]!) := HP.out.same _ (by omega)
              have HS2 : Hid (dk[kp + 1 + kq]! = d[kp + 1 + kq]!) := HP.out.same _ (by omega)
              cases hlw : eqf dk[kp + 1 + (kq + 1)]! dk[kp + 1 + kq]! with
              | true =>
                go_wp2_with fail
                obtain ⟨iNr, hiNr⟩ : ∃ q, q = kq + 1 := ⟨_, rfl⟩
                obtain ⟨jNr, hjNr⟩ : ∃ q, q = kq := ⟨_, rfl⟩
                have ear : ((kq : Int) + 1).toNat = iNr := by omega
                have par : (0 : Int) ≤ (kq : Int) + 1 := by omega
                have bar : (kq : Int) + 1 < (nK : Int) := by omega
                have rar : IntKind.i64.wrap ((kq : Int) + 1) = (kq : Int) + 1 := by rw [IntKind.wrap_i64]; omega
                have ecr : ((kq : Int)).toNat = jNr := by omega
                have pcr : (0 : Int) ≤ (kq : Int) := by omega
                have bcr : (kq : Int) < (nK : Int) := by omega
                have rcr : IntKind.i64.wrap ((kq : Int)) = (kq : Int) := by rw [IntKind.wrap_i64]; omega
                obtain ⟨xr, hxr⟩ : ∃ x, x = dk[kp + 1 + (kq + 1)]! := ⟨_, rfl⟩
                obtain ⟨yr, hyr⟩ : ∃ x, x = dk[kp + 1 + kq]! := ⟨_, rfl⟩
                have lar := S3.out.cl R (by omega) (kp + 1 + (kq + 1)) (by omega)
                have lbr := S3.out.cl R (by omega) (kp + 1 + kq) (by omega)
                rw [← hxr, show off + (kp + 1 + (kq + 1)) = oK + iNr by omega] at lar
                rw [← hyr, show off + (kp + 1 + kq) = oK + jNr by omega] at lbr
                have hcr := swEq S3.out HE.out (by omega) xr yr
                rw [show eqf xr yr = true by rw [hxr, hyr]; exact hlw] at hcr
                clear hxr hyr hiNr hjNr
                go_quiet_grown (first | (go_at_fn g; refine Calls.grown_of (hcr _ _)))
                have S4 : Aside (SW enc w0 blk off dk (grow (wr.drewN nq) osq)) := S3.out.grown nq osq
                clear lar lbr hcr S3
                generalize grow (wr.drewN nq) osq = wr at S4 ⊢
                clear nq osq
                clear ear ecr
                go_wp2
                go_roundg (nK - (kq + 1 + 1))
                case measure => omega
                case rel =>
                  refine ⟨kk, kq + 1 + 1, dk, rfl, by go_num, by omega, by omega, Nat.le_refl _, S4, ?_⟩
                  rw [HS1.out, HS2.out] at hlw
                  exact HP.out.skip (by omega) hlw
              | false =>
                go_wp2_with fail
                obtain ⟨iNr, hiNr⟩ : ∃ q, q = kq + 1 := ⟨_, rfl⟩
                obtain ⟨jNr, hjNr⟩ : ∃ q, q = kq := ⟨_, rfl⟩
                have ear : ((kq : Int) + 1).toNat = iNr := by omega
                have par : (0 : Int) ≤ (kq : Int) + 1 := by omega
                have bar : (kq : Int) + 1 < (nK : Int) := by omega
                have rar : IntKind.i64.wrap ((kq : Int) + 1) = (kq : Int) + 1 := by rw [IntKind.wrap_i64]; omega
                have ecr : ((kq : Int)).toNat = jNr := by omega
                have pcr : (0 : Int) ≤ (kq : Int) := by omega
                have bcr : (kq : Int) < (nK : Int) := by omega
                have rcr : IntKind.i64.wrap ((kq : Int)) = (kq : Int) := by rw [IntKind.wrap_i64]; omega
                obtain ⟨xr, hxr⟩ : ∃ x, x = dk[kp + 1 + (kq + 1)]! := ⟨_, rfl⟩
                obtain ⟨yr, hyr⟩ : ∃ x, x = dk[kp + 1 + kq]! := ⟨_, rfl⟩
                have lar := S3.out.cl R (by omega) (kp + 1 + (kq + 1)) (by omega)
                have lbr := S3.out.cl R (by omega) (kp + 1 + kq) (by omega)
                rw [← hxr, show off + (kp + 1 + (kq + 1)) = oK + iNr by omega] at lar
                rw [← hyr, show off + (kp + 1 + kq) = oK + jNr by omega] at lbr
                have hcr := swEq S3.out HE.out (by omega) xr yr
                rw [show eqf xr yr = false by rw [hxr, hyr]; exact hlw] at hcr
                clear hxr hyr hiNr hjNr
                go_quiet_grown (first | (go_at_fn g; refine Calls.grown_of (hcr _ _)))
                have S4 : Aside (SW enc w0 blk off dk (grow (wr.drewN nq) osq)) := S3.out.grown nq osq
                clear lar lbr hcr S3
                generalize grow (wr.drewN nq) osq = wr at S4 ⊢
                clear nq osq
                clear ear ecr
                obtain ⟨iN, hiN⟩ : ∃ q, q = kq + 1 := ⟨_, rfl⟩
                have ea : ((kq : Int) + 1).toNat = iN := by omega
                obtain ⟨u, hu⟩ : ∃ x, x = dk[kp + 1 + (kq + 1)]! := ⟨_, rfl⟩
                have c1 := S4.out.c1 R (by omega) (kp + 1 + (kq + 1)) (by omega)
                rw [← hu, show off + (kp + 1 + (kq + 1)) = oK + iN by omega] at c1
                have c2 := S4.out.c1 R (by omega) kk (by omega)
                have f2 := S4.out.f1 R (by omega) kk (by omega)
                have S5 : Aside (SW enc w0 blk off (dk.setIfInBounds kk u) (wr.setCell ⟨blk, off + kk, none⟩ (enc u))) := sw_set S4.out R.hblk kk u (by omega)
                have rkk : IntKind.i64.wrap ((kk : Int) + 1) = (kk : Int) + 1 := by rw [IntKind.wrap_i64]; omega
                have hkL : (kk : Int) < (L : Int) := by omega
                have hk0 : (0 : Int) ≤ (kk : Int) := by omega
                have ek : ((kk : Int)).toNat = kk := by omega
                have HU : Hid (u = dk[kp + 1 + (kq + 1)]!) := hu
                clear S4 hiN hu
                go_wp2_with fail
                clear c1 c2 f2 ea
                go_roundg (nK - (kq + 1 + 1))
                case measure => omega
                case rel =>
                  refine ⟨kk + 1, kq + 1 + 1, dk.setIfInBounds kk u, by go_num, by go_num, by omega, by omega, Nat.le_refl _, S5, ?_⟩
                  rw [HS1.out, HS2.out] at hlw
                  rw [HU.out, HS1.out]
                  exact HP.out.keep (by omega) hlw
            · have hltz3 : ¬ (k2 : Int) < (nK : Int) := by omega
              have ekk : kp + 1 + k2 = d.size := by omega
              have HP2 : Hid (Cpt eqf d d.size kk dk) := by have := HP.out; rw [ekk] at this; exact this
              clear HP
              obtain ⟨oF, hoF⟩ : ∃ q, q = off + kk := ⟨_, rfl⟩
              obtain ⟨nF, hnF⟩ : ∃ q, q = L - kk := ⟨_, rfl⟩
              obtain ⟨cF, hcF⟩ : ∃ q, q = cap - kk := ⟨_, rfl⟩
              have hsf : ∀ w : World, (Instr.sliceAt 78 (.slice (some ⟨blk, off, none⟩) L cap) (some (.int .i64 (kk : Int))) none none).run Tryz.prog w = .ok (.slice (some ⟨blk, oF, none⟩) nF cF) w := fun w => by
                have := slHi blk off L cap kk (by omega) w
                rw [if_neg (by omega), ← hoF, ← hnF, ← hcF] at this
                exact this
              have hsg := slLo blk off L cap kk (by omega)
              have hcl : ∀ ty, (Builtin.clear_ #[78] ty #[.slice (some ⟨blk, oF, none⟩) nF cF]).run Tryz.prog wr = .ok (.tuple #[]) (wr.setCells blk oF (List.replicate nF (.pointer none))) := fun ty =>
                Lib.run_clear_slice wr _ 36 ty (.pointer none) Tryz.underlying78 (fun w => by kernel_rfl) rfl rfl blk oF nF cF (by omega) (fun j hj => by rw [show oF + j = off + (kk + j) by omega, S3.out.c1 R (by omega) (kk + j) (by omega)]; rfl) (fun j hj => by rw [show oF + j = off + (kk + j) by omega]; exact S3.out.f1 R (by omega) (kk + j) (by omega))
              have HFI : Hid (Cmpd enc eqf d blk off kk w0 (wr.setCells blk oF (List.replicate nF (.pointer none)))) := by
                refine ⟨HP2.out.len, fun j hj => ?_, fun j h1 h2 => ?_, fun B w hb h1 h2 => Below.setCells _ h1 _ _ _ (sw_bel S3.out hb h1 h2)⟩
                · rw [cell_setCells _ _ _ _ _ (by omega), S3.out.c1 R (by omega) j (by omega), take_get HP2.out.take (by omega) j hj]
                · rw [At'.setCells _ _ wr (fun _ _ => rfl) j h1]
                  exact sw_heap S3.out j h1 h2
              clear S3 HP2 hoF hnF hcF
              go_wp2_with fail
              go_ret
              exact ⟨kk, rfl, HFI.out⟩
      · have hltz : ¬ (k : Int) < (L : Int) := by omega
        have e : k = L := by omega
        have HF : Hid (Cmpd enc eqf d blk off L w0 wr) := HFULL.out wr S1.out (by rw [← e]; exact HA.out)
        go_wp2
        go_ret
        exact ⟨L, rfl, HF.out⟩
end Go.Proofs.YtphmmnffgknkcabGreatDoor
namespace Go.Proofs.YtphmmnffgknkcabGreatDoor
open Go.Shelf Go.RowKit Go.Lib Go.Sort
set_option maxRecDepth 100000
variable {α : Type} (f : α → Nat × Lf)
def ordR (a b : α) : Prop := lessB (f a).2.1 (f b).2.1 = true ∨ ((f a).2.1 = (f b).2.1 ∧ (f b).1 < (f a).1)
def sameK (a b : α) : Bool := decide ((f a).2.1 = (f b).2.1)
def cmpF (a b : α) : Int := cmpB (f a).2.1 (f b).2.1
variable {f}
theorem ordR.trans {a b c : α} (h1 : ordR f a b) (h2 : ordR f b c) : ordR f a c := by
  rcases h1 with h1 | ⟨e1, h1⟩
  · rcases h2 with h2 | ⟨e2, h2⟩
    · exact Or.inl (lessB_trans _ _ _ h1 h2)
    · exact Or.inl (by rw [← e2]; exact h1)
  · rcases h2 with h2 | ⟨e2, h2⟩
    · exact Or.inl (by rw [e1]; exact h2)
    · exact Or.inr ⟨e1.trans e2, by omega⟩
theorem ltF_is (h32 : ∀ a, (f a).2.1.length = 32) (a b : α) : ltOf (cmpF f) a b = lessB (f a).2.1 (f b).2.1 := by
  unfold ltOf cmpF
  exact cmp_less _ _ (by rw [h32, h32])
theorem keep_ordR (h32 : ∀ a, (f a).2.1.length = 32) : Keep (ltOf (cmpF f)) (ordR f) :=
  ⟨fun _ _ _ => ordR.trans, fun a b h => Or.inl (by rw [← ltF_is h32]; exact h)⟩
theorem ordR.le {a b : α} (h : ordR f a b) : lessB (f b).2.1 (f a).2.1 = false := by
  rcases h with h | ⟨e, _⟩
  · exact less_asym h
  · rw [e]; exact lessB_self _
variable [Inhabited α]
theorem stood_ordR (h32 : ∀ a, (f a).2.1.length = 32) {n : Nat} {d : Array α} (h : ∀ i j, i < j → j < n → (f d[j]!).1 < (f d[i]!).1) : Stood (ltOf (cmpF f)) (ordR f) 0 n d := by
  intro i j _ hij hj hl
  rw [ltF_is h32] at hl
  by_cases e : (f d[i]!).2.1 = (f d[j]!).2.1
  · exact Or.inr ⟨e, h i j hij hj⟩
  · rcases less_total (h32 _) (h32 _) e with h1 | h1
    · exact Or.inl h1
    · rw [h1] at hl; cases hl
theorem mem_kept {eqf : α → α → Bool} {d : Array α} {n : Nat} {a : α} : a ∈ keptL eqf d n ↔ ∃ k, k < n ∧ keptB eqf d k = true ∧ d[k]! = a := by
  unfold keptL
  simp only [List.mem_map, List.mem_filter, List.mem_range]
  constructor
  · rintro ⟨k, ⟨h1, h2⟩, h3⟩; exact ⟨k, h1, h2, h3⟩
  · rintro ⟨k, h1, h2, h3⟩; exact ⟨k, ⟨h1, h2⟩, h3⟩
def Last (f : α → Nat × Lf) (d : Array α) (k : Nat) : Prop := ∀ j, j < d.size → (f d[j]!).2.1 = (f d[k]!).2.1 → (f d[j]!).1 ≤ (f d[k]!).1
theorem same_ahead (h32 : ∀ a, (f a).2.1.length = 32) {d : Array α} (h : Ris (ordR f) 0 d.size d) {j k : Nat} (hjk : j < k) (hk : k < d.size) (e : (f d[j]!).2.1 = (f d[k]!).2.1) : (f d[k]!).2.1 = (f d[k - 1]!).2.1 := by
  by_cases c : j = k - 1
  · rw [← c, e]
  · have h1 := (h j (k - 1) (Nat.zero_le _) (by omega) (by omega)).le
    have h2 := (h (k - 1) k (Nat.zero_le _) (by omega) hk).le
    by_cases e2 : (f d[k]!).2.1 = (f d[k - 1]!).2.1
    · exact e2
    · rcases less_total (h32 _) (h32 _) e2 with h3 | h3
      · rw [h3] at h2; cases h2
      · rw [e, h3] at h1; cases h1
theorem kept_last (h32 : ∀ a, (f a).2.1.length = 32) {d : Array α} (h : Ris (ordR f) 0 d.size d) {k : Nat} (hk : k < d.size) : keptB (sameK f) d k = true ↔ Last f d k := by
  unfold keptB
  constructor
  · intro hb j hj e
    rcases Nat.lt_trichotomy j k with c | c | c
    · have := same_ahead h32 h c hk e
      simp [sameK, this] at hb
      omega
    · rw [c]; exact Nat.le_refl _
    · rcases h k j (Nat.zero_le _) c hj with h1 | ⟨_, h1⟩
      · rw [← e, lessB_self] at h1; cases h1
      · omega
  · intro hl
    by_cases c : k = 0
    · simp [c]
    · have hne : (f d[k]!).2.1 ≠ (f d[k - 1]!).2.1 := fun e => by
        have h1 := hl (k - 1) (by omega) e.symm
        rcases h (k - 1) k (Nat.zero_le _) (by omega) hk with h2 | ⟨_, h2⟩
        · rw [e, lessB_self] at h2; cases h2
        · omega
      simp [sameK, hne]
theorem kept_up (h32 : ∀ a, (f a).2.1.length = 32) {d : Array α} (h : Ris (ordR f) 0 d.size d) : Up ((keptL (sameK f) d d.size).map fun a => (f a).2) := by
  unfold Up keptL
  rw [List.map_map, List.pairwise_map, List.pairwise_filter]
  have hr : (List.range d.size).Pairwise (· < ·) := List.pairwise_lt_range
  refine hr.imp_of_mem fun {i j} hi hj hij hki hkj => ?_
  have hj' := List.mem_range.1 hj
  rcases h i j (Nat.zero_le _) hij hj' with h1 | ⟨e, h1⟩
  · exact h1
  · have h2 := (kept_last h32 h hj').1 hkj i (by omega) e
    omega
theorem mem_ofLb : ∀ (ps : List (Nat × Lf)), (ps.Pairwise fun p q => p.1 < q.1) → ∀ p : Lf, p ∈ ofL (ps.map (·.2)) ↔ ∃ g, (g, p) ∈ ps ∧ ∀ q ∈ ps, q.2.1 = p.1 → q.1 ≤ g := by
  intro ps
  induction hn : ps.length generalizing ps with
  | zero =>
    intro _ p
    have : ps = [] := List.length_eq_zero_iff.1 hn
    subst this
    simp [ofL]
  | succ n ih =>
    intro hp p
    obtain ⟨r, b, rfl⟩ : ∃ r b, ps = r ++ [b] := ⟨ps.dropLast, ps.getLast (by intro e; rw [e] at hn; simp at hn), (List.dropLast_concat_getLast _).symm⟩
    rw [List.pairwise_append] at hp
    obtain ⟨hp1, _, hp3⟩ := hp
    have hr := ih r (by rw [List.length_append] at hn; simpa using hn) hp1
    have e : ofL ((r ++ [b]).map (·.2)) = putL (ofL (r.map (·.2))) b.2.1 b.2.2 := by
      unfold ofL
      rw [List.map_append, List.foldl_append]
      rfl
    rw [e, mem_putL, hr]
    constructor
    · rintro (h | ⟨h1, g, h2, h3⟩)
      · refine ⟨b.1, by rw [h]; simp, fun q hq _ => ?_⟩
        rcases List.mem_append.1 hq with hq | hq
        · exact Nat.le_of_lt (hp3 q hq b (by simp))
        · rw [List.mem_singleton] at hq; rw [hq]; exact Nat.le_refl _
      · refine ⟨g, List.mem_append_left _ h2, fun q hq e => ?_⟩
        rcases List.mem_append.1 hq with hq | hq
        · exact h3 q hq e
        · rw [List.mem_singleton] at hq; rw [hq] at e; exact absurd e.symm h1
    · rintro ⟨g, h1, h2⟩
      rcases List.mem_append.1 h1 with h1 | h1
      · by_cases c : p.1 = b.2.1
        · have h3 := h2 b (by simp) c.symm
          have h4 := hp3 (g, p) h1 b (by simp)
          simp only at h4
          omega
        · exact Or.inr ⟨c, g, h1, fun q hq => h2 q (List.mem_append_left _ hq)⟩
      · rw [List.mem_singleton] at h1
        exact Or.inl (by rw [← h1])
theorem rising_is (h32 : ∀ a, (f a).2.1.length = 32) {d : Array α} (h : Ris (ordR f) 0 d.size d) {ps : List (Nat × Lf)} (hp : ps.Pairwise fun p q => p.1 < q.1) (hok : okLf (ps.map (·.2))) (hm : ∀ q, q ∈ ps ↔ ∃ k, k < d.size ∧ f d[k]! = q) : (keptL (sameK f) d d.size).map (fun a => (f a).2) = ofL (ps.map (·.2)) := by
  refine up_ext (kept_up h32 h) (ofL_good _ hok).2 fun p => ?_
  rw [mem_ofLb ps hp]
  simp only [List.mem_map, mem_kept]
  constructor
  · rintro ⟨a, ⟨k, hk, hb, rfl⟩, rfl⟩
    refine ⟨(f d[k]!).1, (hm _).2 ⟨k, hk, rfl⟩, fun q hq e => ?_⟩
    obtain ⟨j, hj, rfl⟩ := (hm q).1 hq
    exact (kept_last h32 h hk).1 hb j hj e
  · rintro ⟨g, h1, h2⟩
    obtain ⟨k, hk, e⟩ := (hm _).1 h1
    refine ⟨d[k]!, ⟨k, hk, (kept_last h32 h hk).2 fun j hj ej => ?_, rfl⟩, by rw [e]⟩
    rw [e] at ej ⊢
    exact h2 _ ((hm _).2 ⟨j, hj, rfl⟩) ej
end Go.Proofs.YtphmmnffgknkcabGreatDoor
namespace Go.Proofs.YtphmmnffgknkcabGreatDoor
open Go.Shelf Go.RowKit Go.Lib Go.Sort
set_option maxRecDepth 100000
variable {α : Type} [Inhabited α]
structure Rvd (i : Nat) (d dk : Array α) : Prop where
  size : dk.size = d.size
  out : ∀ k, k < d.size → (k < i ∨ d.size ≤ k + i) → dk[k]! = d[d.size - 1 - k]!
  mid : ∀ k, i ≤ k → k + i < d.size → dk[k]! = d[k]!
theorem Rvd.step {i : Nat} {d dk : Array α} (h : Rvd i d dk) (hi : i < d.size - 1 - i) : Rvd (i + 1) d (swp dk i (d.size - 1 - i)) := by
  have hz := h.size
  refine ⟨by rw [size_swp]; exact hz, fun k hk hk2 => ?_, fun k hk hk2 => ?_⟩
  · by_cases e1 : k = i
    · rw [e1, swp_left _ _ _ (by omega) (by omega), h.mid _ (by omega) (by omega)]
    · by_cases e2 : k = d.size - 1 - i
      · rw [e2, swp_right _ _ _ (by omega), h.mid _ (by omega) (by omega)]
        congr 1; omega
      · rw [swp_other _ _ _ _ e1 e2, h.out k hk (by omega)]
  · rw [swp_other _ _ _ _ (by omega) (by omega), h.mid k (by omega) (by omega)]
theorem Rvd.done {i : Nat} {d dk : Array α} (h : Rvd i d dk) (hi : d.size ≤ i + i + 1) : dk.toList = d.toList.reverse := by
  apply List.ext_getElem
  · rw [Array.length_toList, List.length_reverse, Array.length_toList, h.size]
  · intro k h1 h2
    rw [Array.length_toList, h.size] at h1
    rw [List.getElem_reverse, Array.getElem_toList, Array.getElem_toList]
    have e : dk[k]! = d[d.size - 1 - k]! := by
      by_cases c : k < i ∨ d.size ≤ k + i
      · exact h.out k h1 c
      · rw [h.mid k (by omega) (by omega)]
        congr 1; omega
    rw [getElem!_pos dk k (by rw [h.size]; exact h1), getElem!_pos d _ (by omega)] at e
    rw [e]
    simp
set_option maxHeartbeats 4000000 in
set_option maxRecDepth 1000000 in
theorem reverse_any (enc : α → Value) (blk off L cap : Nat) (d : Array α) (w0 w : World) (R : Row1 enc w0 blk off d) (hL : d.size = L) (S : SW enc w0 blk off d w) (h1 : 1 ≤ L) (hsz : L < 1000000000) :
    Calls Tryz.prog 59 #[.slice (some ⟨blk, off, none⟩) L cap] w fun e w' => e = .returned (.tuple #[]) ∧ ∃ d', d'.toList = d.toList.reverse ∧ SW enc w0 blk off d' w' := by
  have mixed : Tryz.prog.follows .mixedOrders = true := by kernel_rfl
  have hcl0 := R.hO.cells
  simp only [Value.cells] at hcl0
  have hst := R.hO.store Tryz.prog
  have S0 : Aside (SW enc w0 blk off d w) := S
  have l1 : d.size ≤ L := Nat.le_of_eq hL
  have l2 : L ≤ d.size := Nat.le_of_eq hL.symm
  have HL : Hid (d.size = L) := hL
  clear S hL
  have r0 : IntKind.i64.wrap ((L : Int) - 1) = ((L - 1 : Nat) : Int) := by rw [IntKind.wrap_i64]; omega
  go_enter Tryz.func59, Tryz.ntmps59
  go_wp2
  clear r0
  go_loopg [2, 3] L (fun kx s2 s3 wr => ∃ (i j : Nat) (dk : Array α), s2 = .int .i64 i ∧ s3 = .int .i64 j ∧ j + i ≤ L - 1 ∧ L - 1 ≤ j + i ∧ L - i ≤ kx ∧ Aside (SW enc w0 blk off dk wr) ∧ Hid (Rvd i d dk))
  case atStart => exact ⟨0, L - 1, d, rfl, by first | rfl | go_num, by omega, by omega, by omega, S0, ⟨rfl, fun k hk h => by omega, fun k _ _ => rfl⟩⟩
  case round =>
    clear S0
    obtain ⟨i, j, dk, rfl, rfl, hij1, hij2, hkx, S1, HR⟩ := hrel
    by_cases hlt : i < j
    · have hltz : (i : Int) < (j : Int) := by omega
      have hsk : dk.size = d.size := HR.out.size
      go_wp2_with fail
      obtain ⟨iNq, hiNq⟩ : ∃ q, q = i := ⟨_, rfl⟩
      obtain ⟨jNq, hjNq⟩ : ∃ q, q = j := ⟨_, rfl⟩
      have eaq : ((i : Int)).toNat = iNq := by omega
      have paq : (0 : Int) ≤ (i : Int) := by omega
      have baq : (i : Int) < (L : Int) := by omega
      have raq : IntKind.i64.wrap ((i : Int)) = (i : Int) := by rw [IntKind.wrap_i64]; omega
      have ecq : ((j : Int)).toNat = jNq := by omega
      have pcq : (0 : Int) ≤ (j : Int) := by omega
      have bcq : (j : Int) < (L : Int) := by omega
      have rcq : IntKind.i64.wrap ((j : Int)) = (j : Int) := by rw [IntKind.wrap_i64]; omega
      obtain ⟨xq, hxq⟩ : ∃ x, x = dk[i]! := ⟨_, rfl⟩
      obtain ⟨yq, hyq⟩ : ∃ x, x = dk[j]! := ⟨_, rfl⟩
      have S2 : Aside (SW enc w0 blk off (swp dk (i) (j)) ((wr.setCell ⟨blk, off + iNq, none⟩ (enc yq)).setCell ⟨blk, off + jNq, none⟩ (enc xq)).drew) := by rw [hiNq, hjNq, hxq, hyq]; exact S1.out.swapped R (i) (j) (by omega) (by omega)
      have caq := S1.out.c1 R (by omega) (i) (by omega)
      have ccq := S1.out.c1 R (by omega) (j) (by omega)
      have faq := S1.out.f1 R (by omega) (i) (by omega)
      have fbq := S1.out.f1 R (by omega) (j) (by omega)
      obtain ⟨uq, cuq⟩ := S1.out.c2 R (by omega) (i) (j) (by omega) (by omega) (enc yq)
      rw [← hjNq, ← hiNq] at cuq
      rw [← hxq, ← hiNq] at caq
      rw [← hyq, ← hjNq] at ccq
      rw [← hiNq] at faq
      rw [← hjNq] at fbq
      clear S1 hxq hyq hiNq hjNq
      go_wp2_with fail
      go_big_region_o
      clear caq ccq cuq faq fbq
      generalize ((wr.setCell ⟨blk, off + iNq, none⟩ (enc yq)).setCell ⟨blk, off + jNq, none⟩ (enc xq)).drew = wq at S2 ⊢
      clear eaq ecq
      have rj : IntKind.i64.wrap ((j : Int) - 1) = ((j - 1 : Nat) : Int) := by rw [IntKind.wrap_i64]; omega
      go_wp2
      go_roundg (L - (i + 1))
      case measure => omega
      case rel =>
        refine ⟨i + 1, j - 1, swp dk i j, by go_num, by first | rfl | go_num, by omega, by omega, Nat.le_refl _, S2, ?_⟩
        have e : j = d.size - 1 - i := by omega
        have := HR.out.step (by omega)
        rw [← e] at this
        exact this
    · have hltz : ¬ (i : Int) < (j : Int) := by omega
      go_wp2
      go_end0
      exact ⟨rfl, dk, HR.out.done (by omega), S1.out⟩
end Go.Proofs.YtphmmnffgknkcabGreatDoor
namespace Go.Proofs.YtphmmnffgknkcabGreatDoor
open Go.Shelf Go.RowKit Go.Lib Go.Sort
set_option maxRecDepth 100000
structure RowS (W : World) (B n cap : Nat) (ps : List (Nat × Lf)) : Prop where
  len : ps.length = n
  cap : n ≤ cap
  lt : B < W.heap.size
  cell : ∀ j, j < n → W.cell? ⟨B, j, none⟩ = some (ptr (ps.getD j default).1)
  free : ∀ j, j < n → W.frozen? ⟨B, j, none⟩ = false
  leaf : ∀ q ∈ ps, TreeC W q.1 1 (dig (pairB 76 q.2.1 q.2.2)) q.2.1 q.2.2 (.pointer none) (.pointer none)
  ne : ∀ q ∈ ps, q.1 ≠ B
  up : ps.Pairwise fun p q => p.1 < q.1
abbrev Ap (ps : List (Nat × Lf)) : Type := { q : Nat × Lf // q ∈ ps }
def encP (ps : List (Nat × Lf)) (a : Ap ps) : Value := ptr a.1.1
theorem oneP (ps : List (Nat × Lf)) : OneCell (encP ps) := fun _ => rfl
theorem inhP {ps : List (Nat × Lf)} (h : 0 < ps.length) : Nonempty (Inhabited (Ap ps)) := ⟨⟨⟨ps[0], List.getElem_mem h⟩⟩⟩
theorem len32P {W : World} {B n cap : Nat} {ps : List (Nat × Lf)} (h : RowS W B n cap ps) (a : Ap ps) : (a.1).2.1.length = 32 := (h.leaf a.1 a.2).l2
def Lies (W W' : World) (ps : List (Nat × Lf)) : Prop := ∀ q ∈ ps, W'.heap[q.1]? = W.heap[q.1]? ∧ q.1 < W'.heap.size
theorem RowS.index {W w1 : World} {B n cap : Nat} {ps : List (Nat × Lf)} (h : RowS W B n cap ps) (hl : Lies W w1 ps) (a : Ap ps) : w1.rangeAt a.1.1 33 (cb a.1.2.1) := ((h.leaf a.1 a.2).heap (hl a.1 a.2).1).index
section
variable {ps : List (Nat × Lf)} [Inhabited (Ap ps)]
theorem attach_get (k : Nat) (hk : k < ps.length) : (ps.attach.toArray[k]!).1 = ps.getD k default := by
  rw [getElem!_pos _ k (by simpa using hk), List.getD_eq_getElem?_getD, List.getElem?_eq_getElem hk, Option.getD_some]
  simp
theorem RowS.row1 {W : World} {B n cap : Nat} (h : RowS W B n cap ps) : Row1 (encP ps) W B 0 ps.attach.toArray := by
  refine ⟨oneP ps, fun j hj => ?_, h.lt⟩
  have hj' : j < ps.length := by simpa using hj
  rw [Nat.zero_add]
  refine ⟨?_, h.free j (by rw [← h.len]; exact hj')⟩
  rw [h.cell j (by rw [← h.len]; exact hj'), encP, attach_get j hj']
theorem row1_of_sw {w0 W : World} {B : Nat} {d0 d : Array (Ap ps)} (R : Row1 (encP ps) w0 B 0 d0) (S : SW (encP ps) w0 B 0 d W) (hs : d.size = d0.size) : Row1 (encP ps) W B 0 d := ⟨R.hO, S.holds R.hblk R.hH hs, S.lt R.hblk⟩
theorem lies_sw {W w0 w1 : World} {B : Nat} {d : Array (Ap ps)} (hl : Lies W w0 ps) (hne : ∀ q ∈ ps, q.1 ≠ B) (S : SW (encP ps) w0 B 0 d w1) : Lies W w1 ps := fun q hq =>
  ⟨(sw_heap S q.1 (hne q hq) (hl q hq).2).trans (hl q hq).1, Nat.lt_of_lt_of_le (hl q hq).2 S.le⟩
theorem RowS.cmp {W w1 : World} {B n cap : Nat} (h : RowS W B n cap ps) (hl : Lies W w1 ps) (size : Nat) : CmpLays1 Tryz.prog 61 #[] (encP ps) (cmpF Subtype.val) B 0 size w1 := by
  intro m os dk _ x y
  have hl2 : Lies W (sortWorld (encP ps) w1 B 0 m dk os) ps := lies_sw hl h.ne ⟨m, os, rfl⟩
  refine (trRising1_any x.1.1 y.1.1 x.1.2.1 y.1.2.1 _ (h.index hl2 x) (h.index hl2 y) (len32P h x) (len32P h y)).mono fun e w' hh => ⟨hh.1, 1, #[], ?_⟩
  rw [hh.2, grow_empty]; rfl
theorem RowS.eq {W w1 : World} {B n cap : Nat} (h : RowS W B n cap ps) (hl : Lies W w1 ps) (size : Nat) : EqLays 63 #[] (encP ps) (sameK Subtype.val) B 0 size w1 := by
  intro m os dk _ x y
  have hl2 : Lies W (sortWorld (encP ps) w1 B 0 m dk os) ps := lies_sw hl h.ne ⟨m, os, rfl⟩
  refine (trRising2_any x.1.1 y.1.1 x.1.2.1 y.1.2.1 _ (h.index hl2 x) (h.index hl2 y) (len32P h x) (len32P h y)).mono fun e w' hh => ⟨hh.1, 1, #[], ?_⟩
  rw [hh.2, grow_empty]; rfl
end
set_option maxHeartbeats 1000000 in
theorem sortStable_any {α : Type} [Inhabited α] (enc : α → Value) (cf : α → α → Int) (Rr : α → α → Prop) (K : Keep (ltOf cf) Rr) (g : Nat) (cb : Array Value) (eg : ∀ args w, (callFunc g args).run Tryz.prog w = .ok (.enter g args) w) (blk off n cap : Nat) (d : Array α) (w0 w : World) (hcmp : CmpLays1 Tryz.prog g cb enc cf blk off d.size w0) (R : Row1 enc w0 blk off d) (hn : d.size = n) (S : SW enc w0 blk off d w) (hsz : n < 1000000000) (hS : Stood (ltOf cf) Rr 0 n d) :
    Calls Tryz.prog 60 #[.slice (some ⟨blk, off, none⟩) n cap, .func (.func g) #[] cb] w fun e w' => e = .returned (.tuple #[]) ∧ ∃ d', Merged Rr 0 n d d' ∧ SW enc w0 blk off d' w' := by
  have HH : Hid (Calls Tryz.prog 86 #[.slice (some ⟨blk, off, none⟩) n cap, .int .i64 n, .func (.func g) #[] cb] w fun e w' => e = .returned (.tuple #[]) ∧ ∃ d', Merged Rr 0 n d d' ∧ SW enc w0 blk off d' w') := stable_any enc cf Rr K g cb eg blk off n cap d w0 w hcmp R hn S hsz hS
  clear hcmp R hn S hS K
  go_enter Tryz.func60, Tryz.ntmps60
  go_wp2_with (go_at_call 86; refine HH.out.mono ?_; rintro e w2 ⟨rfl, hd⟩)
  go_end0
  exact ⟨rfl, hd⟩
def Rv1 (W : World) (B n : Nat) (ps : List (Nat × Lf)) (w1 : World) : Prop := ∃ (_ : Inhabited (Ap ps)) (d1 : Array (Ap ps)), d1.toList = ps.attach.reverse ∧ d1.size = n ∧ Row1 (encP ps) w1 B 0 d1 ∧ SW (encP ps) W B 0 d1 w1
theorem row_reverse {W : World} {B n cap : Nat} {ps : List (Nat × Lf)} (h : RowS W B n cap ps) (h1 : 1 ≤ n) (hn : n < 1000000) : Calls Tryz.prog 59 #[.slice (some ⟨B, 0, none⟩) n cap] W fun e w' => e = .returned (.tuple #[]) ∧ Rv1 W B n ps w' := by
  obtain ⟨inh⟩ := inhP (ps := ps) (by rw [h.len]; omega)
  have hz : ps.attach.toArray.size = n := by simpa using h.len
  refine (reverse_any (encP ps) B 0 n cap ps.attach.toArray W W h.row1 hz (SW.start h.row1.hH) h1 (by omega)).mono ?_
  rintro e w' ⟨he, d', hd, hS⟩
  have hz2 : d'.size = n := by rw [← Array.length_toList, hd, List.length_reverse]; simpa using h.len
  exact ⟨he, inh, d', by simpa using hd, hz2, row1_of_sw h.row1 hS (by rw [hz2, hz]), hS⟩
def Rv2 (W : World) (B n : Nat) (ps : List (Nat × Lf)) (w2 : World) : Prop := ∃ (_ : Inhabited (Ap ps)) (d2 : Array (Ap ps)), d2.toList.Perm ps.attach ∧ d2.size = n ∧ Row1 (encP ps) w2 B 0 d2 ∧ Lies W w2 ps ∧ Ris (ordR Subtype.val) 0 n d2 ∧ ∀ (C : Nat) (w : World), Below C w W → C ≤ B → C ≤ W.heap.size → Below C w w2
theorem row_sort {W w1 : World} {B n cap : Nat} {ps : List (Nat × Lf)} (h : RowS W B n cap ps) (hn : n < 1000000) (hr : Rv1 W B n ps w1) : Calls Tryz.prog 60 #[.slice (some ⟨B, 0, none⟩) n cap, .func (.func 61) #[] #[]] w1 fun e w' => e = .returned (.tuple #[]) ∧ Rv2 W B n ps w' := by
  obtain ⟨inh, d1, hd, hz, hR, hS⟩ := hr
  have hl0 : Lies W W ps := fun q hq => ⟨rfl, (h.leaf q hq).blk.lt⟩
  have hl : Lies W w1 ps := lies_sw hl0 h.ne hS
  have hst : Stood (ltOf (cmpF Subtype.val)) (ordR Subtype.val) 0 n d1 := by
    refine stood_ordR (len32P h) fun i j hij hj => ?_
    have e : ∀ k, k < n → (d1[k]!).1 = ps.getD (n - 1 - k) default := fun k hk => by
      rw [getElem!_pos d1 k (by omega), ← Array.getElem_toList]
      have hk2 : k < (ps.attach.reverse).length := by rw [List.length_reverse, List.length_attach, h.len]; exact hk
      have e2 : d1.toList[k]'(by rw [Array.length_toList]; omega) = (ps.attach.reverse)[k]'hk2 := by simp only [hd]
      rw [e2, List.getElem_reverse, List.getD_eq_getElem?_getD, List.getElem?_eq_getElem (by rw [h.len]; omega), Option.getD_some]
      simp [h.len]
    rw [e i (by omega), e j hj]
    have hp := List.pairwise_iff_getElem.1 h.up (n - 1 - j) (n - 1 - i) (by rw [h.len]; omega) (by rw [h.len]; omega) (by omega)
    rw [List.getD_eq_getElem?_getD, List.getD_eq_getElem?_getD, List.getElem?_eq_getElem (by rw [h.len]; omega), List.getElem?_eq_getElem (by rw [h.len]; omega)]
    exact hp
  refine (sortStable_any (encP ps) (cmpF Subtype.val) (ordR Subtype.val) (keep_ordR (len32P h)) 61 #[] (enters_of Tryz.func61 (by kernel_rfl) rfl) B 0 n cap d1 w1 w1 (h.cmp hl _) hR hz (SW.start hR.hH) (by omega) hst).mono ?_
  rintro e w' ⟨he, d2, hm, hS2⟩
  have hz2 : d2.size = n := by rw [hm.1.1, hz]
  have hp : d2.toList.Perm d1.toList := by
    have := hm.1.2.2
    have e1 : d2.extract 0 n = d2 := by rw [← hz2]; simp
    have e2 : d1.extract 0 n = d1 := by rw [← hz]; simp
    rwa [e1, e2] at this
  refine ⟨he, inh, d2, hp.trans (by rw [hd]; exact List.reverse_perm _), hz2, row1_of_sw hR hS2 (by rw [hz2, hz]), lies_sw hl h.ne hS2, hm.2, fun C w hb h1 h2 => ?_⟩
  exact sw_bel hS2 (sw_bel hS hb h1 h2) h1 (Nat.le_trans h2 hS.le)
theorem row_compact {W w2 : World} {B n cap : Nat} {ps : List (Nat × Lf)} (h : RowS W B n cap ps) (h1 : 1 ≤ n) (hn : n < 1000000) (hr : Rv2 W B n ps w2) : Calls Tryz.prog 62 #[.slice (some ⟨B, 0, none⟩) n cap, .func (.func 63) #[] #[]] w2 fun e w' => ∃ kk qs, e = .returned (.slice (some ⟨B, 0, none⟩) kk cap) ∧ qs.length = kk ∧ kk ≤ n ∧ LvRow w' B 0 qs ∧ qs.map (·.2) = ofL (ps.map (·.2)) ∧ ∀ (C : Nat) (w : World), Below C w W → C ≤ B → C ≤ W.heap.size → Below C w w' := by
  obtain ⟨inh, d2, hp, hz, hR, hl, hris, hbel⟩ := hr
  have hlw : W.heap.size ≤ w2.heap.size := (hbel 0 W (Below.refl _ _) (Nat.zero_le _) (Nat.zero_le _)).size
  refine (compact_any (encP ps) (sameK Subtype.val) 63 #[] (enters_of Tryz.func63 (by kernel_rfl) rfl) B 0 n cap d2 w2 w2 (h.eq hl _) hR hz (SW.start hR.hH) h1 h.cap (by omega)).mono ?_
  rintro e w' ⟨kk, he, hc⟩
  refine ⟨kk, (keptL (sameK Subtype.val) d2 d2.size).map Subtype.val, he, by rw [List.length_map, ← hc.len], by rw [hc.len]; exact Nat.le_trans (keptL_le _ _ _) (Nat.le_of_eq hz), ⟨fun k hk => ?_, fun q hq => ?_⟩, ?_, fun C w hb g1 g2 => hc.bel C w (hbel C w hb g1 g2) g1 (Nat.le_trans g2 hlw)⟩
  · rw [List.length_map, ← hc.len] at hk
    rw [hc.cell k hk, encP, List.getD_eq_getElem?_getD, List.getElem?_map, List.getElem?_eq_getElem (by rw [← hc.len]; exact hk), getElem!_pos _ k (by rw [← hc.len]; exact hk)]
    rfl
  · obtain ⟨a, _, rfl⟩ := List.mem_map.1 hq
    refine (h.leaf a.1 a.2).heap ?_
    rw [hc.heap a.1.1 (h.ne a.1 a.2) (hl a.1 a.2).2]
    exact (hl a.1 a.2).1
  · rw [List.map_map]
    refine rising_is (len32P h) (by rw [hz]; exact hris) h.up (fun p hp => ?_) fun q => ?_
    · obtain ⟨q, hq, rfl⟩ := List.mem_map.1 hp
      exact ⟨(h.leaf q hq).l2, (h.leaf q hq).l3⟩
    · constructor
      · intro hq
        have hm : (⟨q, hq⟩ : Ap ps) ∈ d2.toList := hp.mem_iff.2 (List.mem_attach _ _)
        obtain ⟨k, hk, e⟩ := List.getElem_of_mem hm
        rw [Array.length_toList] at hk
        refine ⟨k, hk, ?_⟩
        rw [getElem!_pos d2 k hk, ← Array.getElem_toList, e]
      · rintro ⟨k, _, rfl⟩
        exact (d2[k]!).2
end Go.Proofs.YtphmmnffgknkcabGreatDoor
namespace Go.Proofs.YtphmmnffgknkcabGreatDoor
open Go.Shelf Go.RowKit Go.Lib Go.Sort
set_option maxRecDepth 100000
def ptrs (ps : List (Nat × Lf)) : List Value := ps.map fun q => ptr q.1
structure Rg (w : World) (gl : Nat) (v : Value) (ps : List (Nat × Lf)) (W : World) : Prop where
  own : W.ownsRow gl 36 1 v ps.length (ptrs ps)
  leaf : ∀ q ∈ ps, TreeC W q.1 1 (dig (pairB 76 q.2.1 q.2.2)) q.2.1 q.2.2 (.pointer none) (.pointer none)
  ne : ∀ q ∈ ps, v.ownBlock ≠ some q.1
  up : ps.Pairwise fun p q => p.1 < q.1
  bel : Below gl w W
  ge : gl ≤ W.heap.size
  nil : ps = [] → v = .slice none 0 0
theorem own_keep {w w' : World} {base n : Nat} {v : Value} {cs : List Value} (h : w.ownsRow base 36 1 v n cs) (hs : ∀ k, base ≤ k → k < w.heap.size → w'.heap[k]? = w.heap[k]?) : w'.ownsRow base 36 1 v n cs := by
  have hlt := World.ownsRow.lt h
  rcases h with ⟨h1, ⟨rfl, h2⟩ | ⟨g, cap, cur, rfl, hg, hh, h3⟩⟩
  · exact ⟨h1, Or.inl ⟨rfl, h2⟩⟩
  · exact ⟨h1, Or.inr ⟨g, cap, cur, rfl, hg, by rw [hs g hg (hlt g rfl).2]; exact hh, h3⟩⟩
theorem Rg.next {w W W' : World} {gl : Nat} {v : Value} {ps : List (Nat × Lf)} (h : Rg w gl v ps W) (hb : Below W.heap.size W W') : Rg w gl v ps W' :=
  ⟨own_keep h.own fun k _ hk => hb.block k hk, fun q hq => (h.leaf q hq).next hb, h.ne, h.up, h.bel.trans (hb.mono h.ge), Nat.le_trans h.ge hb.size, h.nil⟩
theorem own_slice {w : World} {base n : Nat} {v : Value} {cs : List Value} (h : w.ownsRow base 36 1 v n cs) : ∃ ad c, v = .slice ad n c := by
  rcases h with ⟨_, ⟨rfl, h2⟩ | ⟨g, cap, cur, rfl, _⟩⟩
  · exact ⟨none, 0, by rw [h2]⟩
  · exact ⟨_, _, rfl⟩
theorem Tryz.infop : (Tryz.prog.info? 36).map (fun i => (i.zero, i.size, i.bytes)) = some (some (.pointer none), 1, 8) := by kernel_rfl
theorem wp_appendP {o : Oper} {a : Act} {w w0 : World} {K : Act → World → Prop} {Q : Exit → Act → World → Prop} (s x : Operand) (gl : Nat) (v : Value) (ps : List (Nat × Lf)) (q : Nat × Lf) (g : Nat)
    (hR : Rg w0 gl v ps w) (hu : Blk w g [ptr q.1] 36) (hq : TreeC w q.1 1 (dig (pairB 76 q.2.1 q.2.2)) q.2.1 q.2.2 (.pointer none) (.pointer none)) (hup : ∀ p ∈ ps, p.1 < q.1) (hnew : ∀ j, v.ownBlock = some j → j < q.1) (hl : ps.length < 2000000)
    (ho : o.op = .call { callee := .builtin .append, args := #[s, x], argTypes := #[78, 78] }) (hs : a.eval s = v) (hx : a.eval x = .slice (some ⟨g, 0, none⟩) 1 1)
    (h : ∀ v' w', Rg w0 gl v' (ps ++ [q]) w' → K (a.put o.dst v') w') : o.wp Tryz.prog a w K Q := by
  obtain ⟨i0, hi, hz0, hz1, hz2⟩ := info_parts Tryz.infop
  have hown := hR.own
  obtain ⟨v', w', hr, h2, h3, h4, h5⟩ := run_append_own_at (P := Tryz.prog) w gl 78 o.type 36 i0 (.pointer none) 1 8 Tryz.underlying78 hi hz0 hz1 hz2 rfl (by decide) v ps.length (ptrs ps) hown ⟨g, 0, none⟩ 1 1 [ptr q.1] rfl (by intro j u hj; rw [Addr.add_mid, Nat.zero_add, hu.cell, hj]) (by intro u hu; rw [List.mem_singleton] at hu; rw [hu]; rfl) (by unfold maxLen; omega) (by omega) hR.ge
  unfold Oper.wp execOp
  simp only [ho, resolve, invoke, builtin, Sem.run_bind, Sem.run_pure, Result.andThen_ok, List.map_toArray, List.map_cons, List.map_nil, hs, hx, hr]
  have hlt := World.ownsRow.lt hown
  have other : ∀ k, v.ownBlock ≠ some k → k < w.heap.size → w'.heap[k]? = w.heap[k]? := fun k hk hl => h3.block k hl (fun e => hk e.symm)
  have hbel : Below gl w w' := (Below.refl _ _).grown h3 hR.ge (fun k hk => (hlt k hk).1)
  refine h v' w' ⟨?_, fun p hp => ?_, fun p hp => ?_, ?_, hR.bel.trans hbel, Nat.le_trans hR.ge hbel.size, fun e => by simp at e⟩
  · rw [List.length_append]
    have e : ptrs (ps ++ [q]) = ptrs ps ++ [ptr q.1] := by unfold ptrs; rw [List.map_append]; rfl
    rw [e]
    exact h2
  · rcases List.mem_append.1 hp with hp | hp
    · exact (hR.leaf p hp).heap (other _ (hR.ne p hp) (hR.leaf p hp).blk.lt)
    · rw [List.mem_singleton] at hp; subst hp
      exact hq.heap (other _ (fun e => by have := hnew _ e; omega) hq.blk.lt)
  · rcases h5 with e | e
    · rw [e]
      rcases List.mem_append.1 hp with hp | hp
      · exact hR.ne p hp
      · rw [List.mem_singleton] at hp; subst hp
        exact fun e => by have := hnew _ e; omega
    · rw [e]
      have hplt : p.1 < w.heap.size := by
        rcases List.mem_append.1 hp with hp | hp
        · exact (hR.leaf p hp).blk.lt
        · rw [List.mem_singleton] at hp; subst hp; exact hq.blk.lt
      exact fun e => by simp only [Option.some.injEq] at e; omega
  · rw [List.pairwise_append]
    exact ⟨hR.up, List.pairwise_singleton _ _, fun p hp r hr => by rw [List.mem_singleton] at hr; rw [hr]; exact hup p hp⟩
theorem Rg.row {w W : World} {gl n cap : Nat} {ad : Option Addr} {ps : List (Nat × Lf)} (h : Rg w gl (.slice ad n cap) ps W) (hn : ps.length = n) (h1 : 1 ≤ n) : ∃ B, ad = some ⟨B, 0, none⟩ ∧ gl ≤ B ∧ RowS W B n cap ps := by
  rcases h.own with ⟨e1, ⟨e2, e3⟩ | ⟨g, cp, cur, e2, hg, hh, hc, hm, hs, ht⟩⟩
  · omega
  · simp only [Value.slice.injEq] at e2
    obtain ⟨rfl, e4, rfl⟩ := e2
    have hlt := World.ownsRow.lt h.own
    refine ⟨g, rfl, hg, ⟨hn, by omega, (hlt g rfl).2, fun j hj => ?_, fun j _ => frozen_of_row W g j cur 36 hh, h.leaf, fun q hq e => h.ne q hq (by rw [e]; rfl), h.up⟩⟩
    rw [cell_of_row W g _ cur 36 (0, 0) hh]
    have h2 : (cur.toList.take (ps.length * 1))[j]? = (ptrs ps)[j]? := by rw [ht]
    rw [List.getElem?_take, if_pos (by omega)] at h2
    rw [← Array.getElem?_toList, h2]
    unfold ptrs
    rw [List.getElem?_map, List.getElem?_eq_getElem (by omega), List.getD_eq_getElem?_getD, List.getElem?_eq_getElem (by omega)]
    rfl
set_option maxHeartbeats 1000000 in
theorem reverse_none (w : World) : Calls Tryz.prog 59 #[.slice none 0 0] w fun e w' => e = .returned (.tuple #[]) ∧ w' = w := by
  go_enter Tryz.func59, Tryz.ntmps59
  go_wp2
  go_loopg [2, 3] 0 (fun _ s2 s3 wr => s2 = .int .i64 0 ∧ s3 = .int .i64 (-1) ∧ wr = w)
  case atStart => exact ⟨rfl, rfl, rfl⟩
  case round =>
    obtain ⟨rfl, rfl, rfl⟩ := hrel
    go_wp2
    go_end0
    exact ⟨rfl, rfl⟩
set_option maxHeartbeats 1000000 in
theorem insertion_none (g : Nat) (cb : Array Value) (w : World) : Calls Tryz.prog 104 #[.slice none 0 0, .int .i64 0, .int .i64 0, .func (.func g) #[] cb] w fun e w' => e = .returned (.tuple #[]) ∧ w' = w := by
  go_enter Tryz.func104, Tryz.ntmps104
  go_wp2
  go_loopg [8] 0 (fun _ s8 wr => s8 = .int .i64 1 ∧ wr = w)
  case atStart => exact ⟨rfl, rfl⟩
  case round =>
    obtain ⟨rfl, rfl⟩ := hrel
    go_wp2
    go_end0
    exact ⟨rfl, rfl⟩
set_option maxHeartbeats 1000000 in
theorem stable_none (g : Nat) (cb : Array Value) (w W0 : World) (hw : w = W0) : Calls Tryz.prog 86 #[.slice none 0 0, .int .i64 0, .func (.func g) #[] cb] w fun e w' => e = .returned (.tuple #[]) ∧ w' = W0 := by
  have HW : Hid (w = W0) := hw
  clear hw
  go_enter Tryz.func86, Tryz.ntmps86
  go_wp2
  go_loopg [7, 8] 0 (fun _ s7 s8 wr => s7 = .int .i64 0 ∧ s8 = .int .i64 20 ∧ Hid (wr = W0))
  case atStart => exact ⟨rfl, rfl, HW⟩
  case round =>
    clear HW
    obtain ⟨rfl, rfl, HW⟩ := hrel
    go_wp2_with (go_at_call 104; refine (insertion_none g cb _).mono ?_; rintro e w2 ⟨rfl, hq⟩; rw [hq]; clear hq w2)
    go_loopg [6] 0 (fun _ s6 wx => s6 = .int .i64 20 ∧ Hid (wx = W0))
    case atStart => exact ⟨rfl, HW⟩
    case round =>
      clear HW
      obtain ⟨rfl, HW⟩ := hrel
      go_wp2
      go_end0
      exact ⟨rfl, HW.out⟩
theorem sortStable_none (g : Nat) (cb : Array Value) (w : World) : Calls Tryz.prog 60 #[.slice none 0 0, .func (.func g) #[] cb] w fun e w' => e = .returned (.tuple #[]) ∧ w' = w := by
  go_enter Tryz.func60, Tryz.ntmps60
  go_wp2_with (go_at_call 86; refine (stable_none g cb _ _ rfl).mono ?_; rintro e w2 ⟨rfl, rfl⟩)
  go_end0
  exact ⟨rfl, rfl⟩
theorem compact_none (g : Nat) (cb : Array Value) (w : World) : Calls Tryz.prog 62 #[.slice none 0 0, .func (.func g) #[] cb] w fun e w' => e = .returned (.slice none 0 0) ∧ w' = w := by
  go_enter Tryz.func62, Tryz.ntmps62
  go_wp2
  go_ret
  exact ⟨rfl, rfl⟩
theorem buildP (f : Operand → Value) (o : Oper) (x : Operand) (ho : o.op = .buildSlice 78 1 #[(0, x)]) (g : Nat) (hx : f x = .pointer (some ⟨g, 0, none⟩)) (w : World) : (execOp f o).run Tryz.prog w = .ok (.value (.slice (some ⟨w.heap.size, 0, none⟩) 1 1)) (w.alloc (.cells [ptr g].toArray 36)) := by
  unfold execOp
  rw [ho]
  simp only [List.map_toArray, List.map_cons, List.map_nil, hx]
  kernel_rfl
set_option maxRecDepth 100000 in
set_option maxHeartbeats 8000000 in
theorem trRising_any (w : World) (vt vu : Value) (ds es : List (List (BitVec 8))) (hK : KOk w) (hA : ReadsD w vt ds) (hB : ReadsD w vu es) (hl : ds.length < 50000) :
    Calls Tryz.prog 35 #[vt, vu] w fun e w' => ∃ ad B n cap qs, e = .returned (.slice ad n cap) ∧ qs.length = n ∧ n ≤ cap ∧ (n = 0 ∨ ad = some ⟨B, 0, none⟩) ∧ n < 100000 ∧ LvRow w' B 0 qs ∧ qs.map (·.2) = ofL (ds.zip es) ∧ Below w.heap.size w w' := by
  have HK : Hid (KOk w) := hK
  have HRA : Hid (ReadsD w vt ds) := hA
  have HRB : Hid (ReadsD w vu es) := hB
  obtain ⟨na, HNA⟩ : ∃ n, Hid (n = ds.length) := ⟨_, rfl⟩
  obtain ⟨nb, HNB⟩ : ∃ n, Hid (n = es.length) := ⟨_, rfl⟩
  obtain ⟨ada, cpa, hva⟩ := hA.slice
  obtain ⟨adb, cpb, hvb⟩ := hB.slice
  rw [← HNA.out] at hva
  rw [← HNB.out] at hvb
  subst hva hvb
  obtain ⟨gl, HGL⟩ : ∃ g, Hid (g = w.heap.size) := ⟨_, rfl⟩
  obtain ⟨m, hm1, hm2, hm3⟩ : ∃ m, m ≤ na ∧ m ≤ nb ∧ (na ≤ m ∨ nb ≤ m) := ⟨min na nb, by omega, by omega, by omega⟩
  have hna : na < 50000 := by rw [HNA.out]; exact hl
  have HI : Hid (Rg w gl (.slice none 0 0) [] w) := by
    rw [HGL.out]
    exact ⟨World.ownsRow_nil _ _ _ _, fun q hq => by simp at hq, fun q hq => by simp at hq, List.Pairwise.nil, Below.refl _ _, Nat.le_refl _, fun _ => rfl⟩
  clear hK hA hB hl
  have emin : min (na : Int) (nb : Int) = (m : Int) := by omega
  go_enter Tryz.func35, Tryz.ntmps35
  go_wp2_with fail
  clear emin
  go_loopg [5, 12] m (fun kx s5 s12 wr => ∃ (k : Nat) (v : Value) (ps : List (Nat × Lf)), s5 = v ∧ s12 = .int .i64 (k : Int) ∧ k ≤ m ∧ m - k ≤ kx ∧ Hid (Rg w gl v ps wr) ∧ Hid (ps.map (·.2) = (ds.zip es).take k))
  case atStart => exact ⟨0, _, [], rfl, rfl, by omega, by omega, HI, rfl⟩
  case round =>
    clear HI
    obtain ⟨k, v, ps, rfl, rfl, hkm, hkx, HG, HP⟩ := hrel
    obtain ⟨nv, HNV⟩ : ∃ z : Nat, Hid (z = ps.length) := ⟨_, rfl⟩
    obtain ⟨adv, cpv, hvv⟩ := own_slice HG.out.own
    rw [← HNV.out] at hvv
    subst hvv
    have HKN : Hid (nv = k) := by
      have := congrArg List.length HP.out
      rw [List.length_map, ← HNV.out, List.length_take, List.length_zip, ← HNA.out, ← HNB.out] at this
      show _ = _
      omega
    by_cases hlt : k < m
    · have hltz : (k : Int) < (m : Int) := by omega
      have hkd : k < ds.length := by rw [← HNA.out]; omega
      have hke : k < es.length := by rw [← HNB.out]; omega
      obtain ⟨ba, offa, cpa', hva, hya⟩ := HRA.out.at (by omega)
      obtain ⟨bb, offb, cpb', hvb, hyb⟩ := HRB.out.at (by omega)
      simp only [Value.slice.injEq] at hva hvb
      obtain ⟨rfl, hq1, rfl⟩ := hva
      obtain ⟨rfl, hq2, rfl⟩ := hvb
      clear hq1 hq2
      obtain ⟨dx, HDX⟩ : ∃ d, Hid (d = ds.getD k []) := ⟨_, rfl⟩
      obtain ⟨dv, HDV⟩ : ∃ d, Hid (d = es.getD k []) := ⟨_, rfl⟩
      have HX32 : Hid (dx.length = 32) := by show _ = _; rw [HDX.out]; exact getD_mem32 HRA.out.2 hkd
      have HV32 : Hid (dv.length = 32) := by show _ = _; rw [HDV.out]; exact getD_mem32 HRB.out.2 hke
      have HXA : Hid (∀ wx, Below gl w wx → wx.rangeAt ba (offa + k * 32) (cb dx)) := fun wx hx => by
        have h := hya k hkd
        rw [← HDX.out] at h
        exact rangeAt_below h hx (by rw [HGL.out]; exact rangeAt_lt h HX32.out)
      have HXB : Hid (∀ wx, Below gl w wx → wx.rangeAt bb (offb + k * 32) (cb dv)) := fun wx hx => by
        have h := hyb k hke
        rw [← HDV.out] at h
        exact rangeAt_below h hx (by rw [HGL.out]; exact rangeAt_lt h HV32.out)
      have HZ : Hid ((ds.zip es).take (k + 1) = (ds.zip es).take k ++ [(dx, dv)]) := by show _ = _; rw [zip_take hkd hke, HDX.out, HDV.out]
      have HLL : Hid (ps.length < 2000000) := by show _ < _; have h1 := HNV.out; have h2 := HKN.out; omega
      clear hya hyb hkd hke HDX HDV
      have k0 : (0 : Int) ≤ (k : Int) := by omega
      have ka : (k : Int) < (na : Int) := by omega
      have kb : (k : Int) < (nb : Int) := by omega
      have rk : IntKind.i64.wrap ((k : Int) + 1) = (k : Int) + 1 := by rw [IntKind.wrap_i64]; omega
      go_upto_region 5 with fail
      refine wp_region_held_drew (S := Below gl w) (by kernel_rfl) (HG.out.next (Below.refl _ wr).drew).bel ?_
      intro hS
      have hI := HG.out.next (Below.refl _ wr).drew
      clear HG
      change wpAnyH _ _ _ _ _ _ _ _ (World.drew wr)
      generalize World.drew wr = y0 at *
      refine wpAnyH_take (i := 0) (v := .slice adv nv cpv) rfl (by kernel_rfl) (by kernel_rfl) (by kernel_rfl) (fun _ _ _ h => h) (Or.inl ⟨by rfl, fun wx hx => by simp [go_sem]⟩) hS ?_
      simp only [Act.put, List.getElem_toArray, List.getElem_cons_zero, List.setIfInBounds_toArray, List.set_cons_zero, List.set_cons_succ]
      refine wpAnyH_take (i := 1) (v := .slice (some ⟨ba, offa, none⟩) na cpa) rfl (by kernel_rfl) (by kernel_rfl) (by kernel_rfl) (fun _ _ _ h => h) (Or.inl ⟨by rfl, fun wx hx => by simp [go_sem]⟩) hS ?_
      simp only [Act.put, List.getElem_toArray, List.getElem_cons_succ, List.getElem_cons_zero, List.setIfInBounds_toArray, List.set_cons_zero, List.set_cons_succ]
      refine wpAnyH_take (i := 2) (v := .int .i64 (k : Int)) rfl (by kernel_rfl) (by kernel_rfl) (by kernel_rfl) (fun _ _ _ h => h) (Or.inl ⟨by rfl, fun wx hx => by simp [go_sem]⟩) hS ?_
      simp only [Act.put, List.getElem_toArray, List.getElem_cons_succ, List.getElem_cons_zero, List.setIfInBounds_toArray, List.set_cons_zero, List.set_cons_succ]
      refine wpAnyH_take (i := 3) (v := .pointer (some ⟨ba, offa + k * 32, none⟩)) rfl (by kernel_rfl) (by kernel_rfl) (by kernel_rfl) (fun _ _ _ h => h) (Or.inl ⟨by rfl, fun wx hx => by (simp [go_sem, ka, k0])⟩) hS ?_
      simp only [Act.put, List.getElem_toArray, List.getElem_cons_succ, List.getElem_cons_zero, List.setIfInBounds_toArray, List.set_cons_zero, List.set_cons_succ]
      refine wpAnyH_take (i := 4) (v := .agg (cb dx).toArray) rfl (by kernel_rfl) (by kernel_rfl) (by kernel_rfl) (fun _ _ _ h => h) (Or.inl ⟨by rfl, fun wx hx => by exact load_run 40 _ rfl _ _ rfl (cb dx) _ (HXA.out wx hx) Tryz.underlying40 rfl (by rw [cb_len, HX32.out]; exact info_digest)⟩) hS ?_
      simp only [Act.put, List.getElem_toArray, List.getElem_cons_succ, List.getElem_cons_zero, List.setIfInBounds_toArray, List.set_cons_zero, List.set_cons_succ]
      refine wpAnyH_take (i := 5) (v := .slice (some ⟨bb, offb, none⟩) nb cpb) rfl (by kernel_rfl) (by kernel_rfl) (by kernel_rfl) (fun _ _ _ h => h) (Or.inl ⟨by rfl, fun wx hx => by simp [go_sem]⟩) hS ?_
      simp only [Act.put, List.getElem_toArray, List.getElem_cons_succ, List.getElem_cons_zero, List.setIfInBounds_toArray, List.set_cons_zero, List.set_cons_succ]
      refine wpAnyH_take (i := 6) (v := .int .i64 (k : Int)) rfl (by kernel_rfl) (by kernel_rfl) (by kernel_rfl) (fun _ _ _ h => h) (Or.inl ⟨by rfl, fun wx hx => by simp [go_sem]⟩) hS ?_
      simp only [Act.put, List.getElem_toArray, List.getElem_cons_succ, List.getElem_cons_zero, List.setIfInBounds_toArray, List.set_cons_zero, List.set_cons_succ]
      refine wpAnyH_take (i := 7) (v := .pointer (some ⟨bb, offb + k * 32, none⟩)) rfl (by kernel_rfl) (by kernel_rfl) (by kernel_rfl) (fun _ _ _ h => h) (Or.inl ⟨by rfl, fun wx hx => by (simp [go_sem, kb, k0])⟩) hS ?_
      simp only [Act.put, List.getElem_toArray, List.getElem_cons_succ, List.getElem_cons_zero, List.setIfInBounds_toArray, List.set_cons_zero, List.set_cons_succ]
      refine wpAnyH_take (i := 8) (v := .agg (cb dv).toArray) rfl (by kernel_rfl) (by kernel_rfl) (by kernel_rfl) (fun _ _ _ h => h) (Or.inl ⟨by rfl, fun wx hx => by exact load_run 40 _ rfl _ _ rfl (cb dv) _ (HXB.out wx hx) Tryz.underlying40 rfl (by rw [cb_len, HV32.out]; exact info_digest)⟩) hS ?_
      simp only [Act.put, List.getElem_toArray, List.getElem_cons_succ, List.getElem_cons_zero, List.setIfInBounds_toArray, List.set_cons_zero, List.set_cons_succ]
      refine wpAnyH_enter 9 (by kernel_rfl) rfl (by rfl) (f := 58) (args := #[.agg (cb dx).toArray, .agg (cb dv).toArray]) (by simp [go_sem]) (trSingle_any dx dv HX32.out HV32.out _ (HK.out.below hI.bel (by rw [HGL.out]; exact HK.out.lt))) ?_
      rintro e y1 ⟨gN, rfl, hge, hcN, hbq⟩
      have hup : ∀ p ∈ ps, p.1 < gN := fun p hp => Nat.lt_of_lt_of_le (hI.leaf p hp).blk.lt hge
      have hnew : ∀ j, (Value.slice adv nv cpv).ownBlock = some j → j < gN := fun j hj => Nat.lt_of_lt_of_le (World.ownsRow.lt hI.own j hj).2 hge
      replace hI := hI.next hbq
      refine ⟨_, rfl, hI.bel, ?_⟩
      replace hS := hI.bel
      clear hbq hge
      simp only [Act.put, List.getElem_toArray, List.getElem_cons_succ, List.getElem_cons_zero, List.setIfInBounds_toArray, List.set_cons_zero, List.set_cons_succ]
      have hn1 := hI.next (below_alloc y1 (.cells [ptr gN].toArray 36))
      have hc1 := hcN.next (below_alloc y1 (.cells [ptr gN].toArray 36))
      have hu1 : Blk (y1.alloc (.cells [ptr gN].toArray 36)) y1.heap.size [ptr gN] 36 := Blk.new _ _ _
      refine wpAnyH_step 10 (.slice (some ⟨y1.heap.size, 0, none⟩) 1 1) (y1.alloc (.cells [ptr gN].toArray 36)) (by kernel_rfl) rfl (by rfl) (buildP _ _ _ rfl gN rfl _) hn1.bel ?_
      simp only [Act.put, List.getElem_toArray, List.getElem_cons_succ, List.getElem_cons_zero, List.setIfInBounds_toArray, List.set_cons_zero, List.set_cons_succ]
      refine wpAnyH_law 11 (by kernel_rfl) rfl (by rfl) (wp_appendP (.tmp 15) (.tmp 25) gl (.slice adv nv cpv) ps (gN, (dx, dv)) y1.heap.size hn1 hu1 hc1 hup hnew HLL.out rfl rfl rfl ?_)
      intro z9 q9 hJ
      refine ⟨hJ.bel, ?_⟩
      obtain ⟨a9, c9, hx9⟩ := own_slice hJ.own
      obtain ⟨n9, HN9⟩ : ∃ z : Nat, Hid (z = (ps ++ [(gN, (dx, dv))]).length) := ⟨_, rfl⟩
      rw [← HN9.out] at hx9
      subst hx9
      simp only [Act.put, List.getElem_toArray, List.getElem_cons_succ, List.getElem_cons_zero, List.setIfInBounds_toArray, List.set_cons_zero, List.set_cons_succ]
      refine wpAnyH_take (i := 12) (v := .slice a9 n9 c9) rfl (by kernel_rfl) (by kernel_rfl) (by kernel_rfl) (fun _ _ _ h => h) (Or.inl ⟨by rfl, fun wx hx => by simp [go_sem]⟩) hJ.bel ?_
      simp only [Act.put, List.getElem_toArray, List.getElem_cons_succ, List.getElem_cons_zero, List.setIfInBounds_toArray, List.set_cons_zero, List.set_cons_succ]
      refine wpAnyH_done (by kernel_rfl) ?_ _
      have HJ : Hid (Rg w gl (.slice a9 n9 c9) (ps ++ [(gN, (dx, dv))]) q9) := hJ
      clear hI hn1 hc1 hu1 hcN hup hnew hJ hS
      go_wp2_with fail
      go_roundg (m - (k + 1))
      case measure => omega
      case rel =>
        refine ⟨k + 1, _, ps ++ [(gN, (dx, dv))], rfl, by go_num, by omega, Nat.le_refl _, HJ, ?_⟩
        show _ = _
        rw [List.map_append, HP.out, HZ.out]
        rfl
    · have hltz : ¬ (k : Int) < (m : Int) := by omega
      have HPZ : Hid (ps.map (·.2) = ds.zip es) := by
        show _ = _
        rw [HP.out]
        refine List.take_of_length_le ?_
        rw [List.length_zip, ← HNA.out, ← HNB.out]
        omega
      have HBG : Hid (Below w.heap.size w wr) := by rw [← HGL.out]; exact HG.out.bel
      by_cases hz : nv = 0
      · subst hz
        have hps : ps = [] := List.length_eq_zero_iff.1 HNV.out.symm
        obtain ⟨e1, e2⟩ : adv = none ∧ cpv = 0 := by
          have e2 := HG.out.nil hps
          simp only [Value.slice.injEq] at e2
          exact ⟨e2.1, e2.2.2⟩
        subst e1 e2
        go_wp2_with (first
          | (go_at_call 59; refine (reverse_none _).mono ?_; rintro e w2 ⟨rfl, rfl⟩)
          | (go_at_call 60; refine (sortStable_none _ _ _).mono ?_; rintro e w2 ⟨rfl, rfl⟩)
          | (go_at_call 62; refine (compact_none _ _ _).mono ?_; rintro e w2 ⟨rfl, rfl⟩))
        go_ret
        exact ⟨none, 0, 0, 0, [], rfl, rfl, Nat.le_refl _, Or.inl rfl, by omega, ⟨fun k hk => absurd hk (Nat.not_lt_zero _), fun q hq => by simp at hq⟩, by rw [← HPZ.out, hps]; rfl, HBG.out⟩
      · obtain ⟨B, hB, hgB, hrow⟩ := HG.out.row HNV.out.symm (by omega)
        subst hB
        have HRW : Hid (RowS wr B nv cpv ps) := hrow
        have hnv : nv < 50000 := by have := HKN.out; omega
        have HGE : Hid (gl ≤ wr.heap.size) := HG.out.ge
        clear hrow HG
        go_wp2_with (first
          | (go_at_call 59; refine (row_reverse HRW.out (by omega) (by omega)).mono ?_; rintro e w2 ⟨rfl, hr1⟩
             have HR1 : Hid (Rv1 wr B nv ps w2) := hr1
             clear hr1)
          | (go_at_call 60; refine (row_sort HRW.out (by omega) HR1.out).mono ?_; rintro e w3 ⟨rfl, hr1⟩
             have HR2 : Hid (Rv2 wr B nv ps w3) := hr1
             clear hr1)
          | (go_at_call 62; refine (row_compact HRW.out (by omega) (by omega) HR2.out).mono ?_; rintro e w4 ⟨kk, qs, rfl, hq1, hq2, hq3, hq4, hq5⟩
             have HQ : Hid (qs.length = kk ∧ kk ≤ nv ∧ LvRow w4 B 0 qs ∧ qs.map (·.2) = ofL (ps.map (·.2)) ∧ ∀ (C : Nat) (w : World), Below C w wr → C ≤ B → C ≤ wr.heap.size → Below C w w4) := ⟨hq1, hq2, hq3, hq4, hq5⟩
             clear hq1 hq2 hq3 hq4 hq5))
        go_ret
        obtain ⟨q1, q2, q3, q4, q5⟩ := HQ.out
        exact ⟨_, B, kk, cpv, qs, rfl, q1, Nat.le_trans q2 HRW.out.cap, Or.inr rfl, by omega, q3, by rw [q4, HPZ.out], q5 _ _ HBG.out (by rw [← HGL.out]; exact hgB) (by rw [← HGL.out]; exact HGE.out)⟩
end Go.Proofs.YtphmmnffgknkcabGreatDoor
namespace Go.Proofs.YtphmmnffgknkcabGreatDoor
open Go.RowKit
set_option maxRecDepth 100000
structure Wt (w : World) (d g gl : Nat) (l : List Lf) (x v : List (BitVec 8)) : Prop where
  kok : KOk w
  tree : TreeIs w d g l
  leaf : TreeC w gl 1 (dig (pairB 76 x v)) x v (.pointer none) (.pointer none)
theorem Wt.next {w w' : World} {d g gl : Nat} {l : List Lf} {x v : List (BitVec 8)} (h : Wt w d g gl l x v) (hb : Below w.heap.size w w') : Wt w' d g gl l x v :=
  ⟨h.kok.below hb h.kok.lt, h.tree.next hb, h.leaf.next hb⟩
theorem Wt.cnt {w : World} {d g gl : Nat} {l : List Lf} {x v : List (BitVec 8)} (h : Wt w d g gl l x v) : w.cell? ⟨g, 0, none⟩ = some (.int .i64 (l.length : Int)) := by
  obtain ⟨ix, vl, p, q, hc⟩ := h.tree.cells
  exact hc.cnt
end Go.Proofs.YtphmmnffgknkcabGreatDoor
namespace Go.Proofs.YtphmmnffgknkcabGreatDoor
open Go.RowKit
set_option maxRecDepth 100000
end Go.Proofs.YtphmmnffgknkcabGreatDoor
namespace Go.Proofs.YtphmmnffgknkcabGreatDoor
open Go.RowKit
set_option maxRecDepth 100000
theorem zip_okR {W : World} {vt vu : Value} {ds es : List (List (BitVec 8))} (h1 : ReadsD W vt ds) (h2 : ReadsD W vu es) : okLf (ds.zip es) := fun _ hp => ⟨h1.2 _ (List.of_mem_zip hp).1, h2.2 _ (List.of_mem_zip hp).2⟩
set_option maxHeartbeats 1000000 in
theorem trOf_any (w : World) (vt vu : Value) (ds es : List (List (BitVec 8))) (hK : KOk w) (hA : ReadsD w vt ds) (hB : ReadsD w vu es) (hl : ds.length < 50000) :
    Calls Tryz.prog 21 #[vt, vu] w fun e w' => ∃ g, e = .returned (.pointer (some ⟨g, 0, none⟩)) ∧ TT w' g (ofL (ds.zip es)) ∧ Below w.heap.size w w' := by
  have HK : Hid (KOk w) := hK
  have HG : Hid (okLf (ofL (ds.zip es)) ∧ Up (ofL (ds.zip es))) := ofL_good _ (zip_okR hA hB)
  have HR : Hid (Calls Tryz.prog 35 #[vt, vu] w fun e w' => ∃ ad B n cap qs, e = .returned (.slice ad n cap) ∧ qs.length = n ∧ n ≤ cap ∧ (n = 0 ∨ ad = some ⟨B, 0, none⟩) ∧ n < 100000 ∧ LvRow w' B 0 qs ∧ qs.map (·.2) = ofL (ds.zip es) ∧ Below w.heap.size w w') := trRising_any w vt vu ds es hK hA hB hl
  clear hK hA hB hl
  go_enter Tryz.func21, Tryz.ntmps21
  go_wp2_with (first
    | (go_at_call 35; refine HR.out.mono ?_; rintro e w1 ⟨ad, B, n, cap, qs, rfl, h1, h2, h3, h4, h5, h6, h7⟩
       have HBW : Hid (Below w.heap.size w w1) := h7
       have HC : Hid (Calls Tryz.prog 34 #[.slice ad n cap, .int .i64 ((0 : Nat) : Int)] w1 fun e w' => ∃ g, e = .returned (.pointer (some ⟨g, 0, none⟩)) ∧ TreeIs w' 0 g (ofL (ds.zip es)) ∧ Below w1.heap.size w1 w') := by
         have := trBelow_any 256 0 ad B 0 n cap qs w1 (by omega) (HK.out.below h7 HK.out.lt) h5 h1 h2 h3 h4 (by rw [h6]; exact fits_zero HG.out.1 HG.out.2)
         rw [h6] at this
         exact this
       clear h1 h2 h3 h4 h5 h6 h7)
    | (go_at_call 34; refine HC.out.mono ?_; rintro e w2 ⟨g, rfl, ht, hb⟩))
  go_ret
  exact ⟨g, rfl, ⟨ht, HG.out⟩, HBW.out.trans (hb.mono HBW.out.size)⟩
end Go.Proofs.YtphmmnffgknkcabGreatDoor

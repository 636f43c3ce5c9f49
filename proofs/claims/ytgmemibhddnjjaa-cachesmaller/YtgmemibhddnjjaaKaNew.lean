/- The program's cache: New, Get, Put (layer 16). -/
import Derived.Test.YtgmemibhddnjjaaKaDo
namespace Go.Proofs.Ytgmemibhddnjjaa
open Go.RowKit
set_option maxRecDepth 100000
theorem new_is (w : World) (n : Nat) : CaIs ((w.alloc (.map #[] 0)).alloc (.cells (caC n 0 w.heap.size none none 0 0).toArray 56)) (w.heap.size + 1) (caP (w.heap.size + 1) w.heap.size []) (newC n) := by
  refine ⟨w.heap.size, [], ⟨⟨?_, fun i x h => by simp at h, List.nodup_nil⟩, ?_, rfl, ok_new n⟩, rfl⟩
  · exact Blk.new_at (w := w.alloc (.map #[] 0)) (by simp) (caC n 0 w.heap.size none none 0 0) 56
  · have h := map_new w
    exact h.same ((below_alloc (w.alloc (.map #[] 0)) _).block _ h.lt)
set_option maxRecDepth 100000 in
set_option maxHeartbeats 400000 in
theorem kaNew_any (w : World) (n : Int) : Calls Try.prog 16 #[.int .i64 n] w fun r w' => ∃ g P, r = .returned (.pointer (some ⟨g, 0, none⟩)) ∧ CaIs w' g P (newC n.toNat) ∧ Below w.heap.size w w' ∧ ∀ k, P k → w.heap.size ≤ k := by
  have hmm := @run_makeMap Try.prog
  have HB : Hid (∀ o, Below w.heap.size w ((w.alloc (.map #[] 0)).alloc o)) := fun o => (below_alloc w _).trans ((below_alloc _ o).mono (by simp))
  have HP : Hid (∀ k, caP (w.heap.size + 1) w.heap.size [] k → w.heap.size ≤ k) := fun k hk => by
    rcases hk with rfl | rfl | hk
    · omega
    · omega
    · simp at hk
  have HN : Hid (∀ n, CaIs ((w.alloc (.map #[] 0)).alloc (.cells (caC n 0 w.heap.size none none 0 0).toArray 56)) (w.heap.size + 1) (caP (w.heap.size + 1) w.heap.size []) (newC n)) := new_is w
  go_enter Try.func16, Try.ntmps16
  by_cases h0 : n < 0
  · go_wp2
    go_ret
    have e : n.toNat = 0 := by omega
    rw [e]
    first | exact ⟨_, rfl, _, HN.out 0, HB.out _, HP.out⟩ | exact ⟨_, _, rfl, HN.out 0, HB.out _, HP.out⟩
  · go_wp2
    go_ret
    have e : n = ((n.toNat : Nat) : Int) := by omega
    have := HN.out n.toNat
    unfold caC at this
    rw [← e] at this
    first | exact ⟨_, rfl, _, this, HB.out _, HP.out⟩ | exact ⟨_, _, rfl, this, HB.out _, HP.out⟩
theorem Ring.hit {w : World} {g m mo h ms : Nat} {T : List ThT} (R : Ring w g m mo h ms T) : Ring (w.setCell ⟨g, 5, none⟩ (.int .i64 ((h : Int) + 1))) g m mo (h + 1) ms T :=
  ⟨R.me.set 5 _, fun i x hx => (R.th i x hx).other _ _ (neTK (R.th i x hx) R.me (by decide)), R.nd⟩
theorem Ring.lack {w : World} {g m mo h ms : Nat} {T : List ThT} (R : Ring w g m mo h ms T) : Ring (w.setCell ⟨g, 6, none⟩ (.int .i64 ((ms : Int) + 1))) g m mo h (ms + 1) T :=
  ⟨R.me.set 6 _, fun i x hx => (R.th i x hx).other _ _ (neTK (R.th i x hx) R.me (by decide)), R.nd⟩
theorem onlyL_cell (w : World) (g i : Nat) (v : Value) : OnlyL [g] w (w.setCell ⟨g, i, none⟩ v) := (OnlyL.refl _ w).set (by simp) i v
theorem map_apart {w : World} {g m mo h ms n : Nat} {T : List ThT} {F : ByteArray → Option Nat} (R : Ring w g m mo h ms T) (hm : MapF w m n F) : m ∉ g :: T.map (·.1) := by
  intro e
  rcases List.mem_cons.1 e with e | e
  · exact hm.ne R.me e
  · obtain ⟨z, hz, e2⟩ := List.mem_map.1 e
    obtain ⟨j, hj⟩ := List.mem_iff_getElem?.1 hz
    exact hm.ne (R.th j z hj) e2.symm
set_option maxRecDepth 100000 in
set_option maxHeartbeats 800000 in
theorem kaGet_any {w : World} {g : Nat} {P : Nat → Prop} {C : KaT} (h : CaIs w g P C) (hc : smC C) {s : ByteArray} (hs : s.size ≤ maxLen) : Calls Try.prog 15 #[.pointer (some ⟨g, 0, none⟩), .string s] w fun r w' => ∃ P', r = .returned (.tuple #[.int .i64 (getV C s), .bool (hasK C s)]) ∧ CaIs w' g P' (getC C s) ∧ Mut P w w' ∧ Grew w P P' := by
  obtain ⟨m, T, h1, hP⟩ := h
  have hf := kaFind_any h1.ring h1.map hs
  have hl : T.length < 4611686018427387904 := by rw [h1.len]; have := h1.ok.le; have := hc.mo; omega
  have hmn := map_apart h1.ring h1.map
  have hmg : m ≠ g := fun e => hmn (by simp [e])
  cases e : fdT T s with
  | none =>
    have ef := h1.fd e
    have e1 : hasK C s = false := by unfold hasK; rw [ef]; rfl
    have e2 : getV C s = 0 := by unfold getV; rw [ef]; rfl
    have e3 : getC C s = ⟨C.most, C.l, C.hits, C.miss + 1, C.puts⟩ := by unfold getC; rw [ef]
    rw [e1, e2, e3]
    rw [e] at hf
    have HF : Hid (Calls Try.prog 23 #[.pointer (some ⟨g, 0, none⟩), .string s] w fun e w' => e = .returned (.pointer none) ∧ w' = w) := hf
    have c6 : w.cell? ⟨g, 6, none⟩ = some (.int .i64 (C.miss : Int)) := h1.ring.me.cell 6
    have f6 : w.frozen? ⟨g, 6, none⟩ = false := h1.ring.me.frozen 6
    have q1 : IntKind.i64.wrap ((C.miss : Int) + 1) = (C.miss : Int) + 1 := by have := hc.mi; rw [IntKind.wrap_i64]; omega
    have HFin : Hid (∃ P', CaIs (w.setCell ⟨g, 6, none⟩ (.int .i64 ((C.miss : Int) + 1))) g P' ⟨C.most, C.l, C.hits, C.miss + 1, C.puts⟩ ∧ Mut P w (w.setCell ⟨g, 6, none⟩ (.int .i64 ((C.miss : Int) + 1))) ∧ Grew w P P') := by
      have o := onlyL_cell w g 6 (.int .i64 ((C.miss : Int) + 1))
      refine ⟨caP g m T, ⟨m, T, ⟨h1.ring.lack, h1.map.same (o.block m (by simp; exact hmg)), h1.tl, ⟨h1.ok.nd, h1.ok.le, h1.ok.sz⟩⟩, rfl⟩, ?_, ?_⟩
      · rw [hP]; exact o.mut (fun k hk => Or.inl (by simpa using hk))
      · rw [hP]; exact Grew.refl _ _
    clear hf h1 hP hc hs e e1 e2 e3 ef hl hmn hmg
    go_enter Try.func15, Try.ntmps15
    go_wp2_with (first
      | (go_at_call 23; refine (HF.out).mono ?_; rintro e0 y0 ⟨rfl, rfl⟩))
    refine bodyPost_ret (results_tmp2 rfl _ _ _) rfl ?_
    obtain ⟨P', q1, q2, q3⟩ := HFin.out
    exact ⟨P', rfl, q1, q2, q3⟩
  | some k =>
    obtain ⟨i, x, hi, ek, eb⟩ := fdT_some e
    obtain ⟨f1, f2, f3, f4⟩ := h1.fds hi
    have e1 : hasK C s = true := by unfold hasK; rw [← ek, f2]; rfl
    have e2 : getV C s = x.2.2 := by unfold getV; rw [← ek, f2]; rfl
    have e3 : getC C s = ⟨C.most, woK C.l s ++ [(s, x.2.2)], C.hits + 1, C.miss, C.puts⟩ := by unfold getC; rw [← ek, f2]
    have e4 : okC (getC C s) := ok_get h1.ok s hs
    rw [e3] at e4
    rw [e1, e2, e3]
    rw [e, ← eb] at hf
    have HF : Hid (Calls Try.prog 23 #[.pointer (some ⟨g, 0, none⟩), .string s] w fun e w' => e = .returned (.pointer (some ⟨x.1, 0, none⟩)) ∧ w' = w) := hf
    have c5 : w.cell? ⟨g, 5, none⟩ = some (.int .i64 (C.hits : Int)) := h1.ring.me.cell 5
    have g5 : w.frozen? ⟨g, 5, none⟩ = false := h1.ring.me.frozen 5
    have q1 : IntKind.i64.wrap ((C.hits : Int) + 1) = (C.hits : Int) + 1 := by have := hc.hi; rw [IntKind.wrap_i64]; omega
    obtain ⟨w1, HW1⟩ : ∃ w1, Hid (w1 = w.setCell ⟨g, 5, none⟩ (.int .i64 ((C.hits : Int) + 1))) := ⟨_, rfl⟩
    have r1 := h1.ring.hit
    rw [← HW1.out] at r1
    have o1 := onlyL_cell w g 5 (.int .i64 ((C.hits : Int) + 1))
    rw [← HW1.out] at o1
    have m1 : MapF w1 m C.puts (fdT T) := h1.map.same (o1.block m (by simp; exact hmg))
    have HU : Hid (Calls Try.prog 24 #[.pointer (some ⟨g, 0, none⟩), .pointer (some ⟨x.1, 0, none⟩)] w1 fun r w' => r = .returned (.tuple #[]) ∧ Ring w' g m C.most (C.hits + 1) C.miss (T.eraseIdx i) ∧ Blk w' x.1 (thC x.2 none none) 58 ∧ OnlyL (g :: T.map (·.1)) w1 w') := unlink_any r1 hi hl
    have hxn : x.1 ∉ (T.eraseIdx i).map (·.1) := by
      intro hm
      obtain ⟨y, hy, e5⟩ := List.mem_map.1 hm
      obtain ⟨j, hj⟩ := List.mem_iff_getElem?.1 hy
      rw [List.getElem?_eraseIdx] at hj
      split at hj
      · have := nd_idx h1.ring.nd hj hi e5; omega
      · have := nd_idx h1.ring.nd hj hi e5; omega
    have mx : x.1 ∈ T.map (·.1) := List.mem_map.2 ⟨x, List.mem_of_getElem? hi, rfl⟩
    have hsub : ∀ k, k ∈ (T.eraseIdx i ++ [x]).map (·.1) → k ∈ T.map (·.1) := fun k hk => by
      rw [List.map_append] at hk
      rcases List.mem_append.1 hk with hk | hk
      · exact ((List.eraseIdx_sublist _ _).map _).mem hk
      · simp at hk; rw [hk]; exact mx
    have HLk : Hid (∀ y, Ring y g m C.most (C.hits + 1) C.miss (T.eraseIdx i) → Blk y x.1 (thC x.2 none none) 58 → Calls Try.prog 25 #[.pointer (some ⟨g, 0, none⟩), .pointer (some ⟨x.1, 0, none⟩)] y fun r w' => r = .returned (.tuple #[]) ∧ Ring w' g m C.most (C.hits + 1) C.miss (T.eraseIdx i ++ [x]) ∧ OnlyL (g :: (T.eraseIdx i ++ [x]).map (·.1)) y w') := fun y r b => link_any r b hxn (by have := List.length_eraseIdx_le T i; omega)
    have HC1 : Hid (∀ y, Ring y g m C.most (C.hits + 1) C.miss (T.eraseIdx i ++ [x]) → y.cell? ⟨x.1, 1, none⟩ = some (.int .i64 x.2.2)) := fun y r => by
      have hlen : (T.eraseIdx i ++ [x])[(T.eraseIdx i).length]? = some x := by rw [List.getElem?_append_right (Nat.le_refl _), Nat.sub_self]; rfl
      exact (r.th _ x hlen).cell 1
    have HFin : Hid (∀ y0 y, OnlyL (g :: T.map (·.1)) w1 y0 → OnlyL (g :: (T.eraseIdx i ++ [x]).map (·.1)) y0 y → Ring y g m C.most (C.hits + 1) C.miss (T.eraseIdx i ++ [x]) → ∃ P', CaIs y g P' ⟨C.most, woK C.l s ++ [(s, x.2.2)], C.hits + 1, C.miss, C.puts⟩ ∧ Mut P w y ∧ Grew w P P') := fun y0 y o2 o3 r => by
      have hm3 : m ∉ g :: (T.eraseIdx i ++ [x]).map (·.1) := fun e5 => by
        rcases List.mem_cons.1 e5 with e5 | e5
        · exact hmg e5
        · exact hmn (List.mem_cons_of_mem _ (hsub m e5))
      have m3 : MapF y m C.puts (fdT T) := (m1.same (o2.block m hmn)).same (o3.block m hm3)
      have ef : fdT (T.eraseIdx i ++ [x]) = fdT T := by
        have h5 : fdT (T.eraseIdx i) x.2.1 = none := by rw [fdT_erase h1.keys hi]; exact if_pos rfl
        rw [fdT_snoc h5, fdT_erase h1.keys hi]
        funext t
        by_cases et : t = x.2.1
        · rw [if_pos et, et, fdT_at h1.keys hi]
        · rw [if_neg et]; exact if_neg et
      refine ⟨caP g m (T.eraseIdx i ++ [x]), ⟨m, T.eraseIdx i ++ [x], ⟨r, by rw [ef]; exact m3, ?_, e4⟩, rfl⟩, ?_, ?_⟩
      · show _ = woK C.l s ++ [(s, x.2.2)]
        rw [List.map_append, ← ek, f3]; rfl
      · rw [hP]
        refine (o1.mut (fun k hk => Or.inl (by simpa using hk))).trans (fun k _ h => h) ((o2.mut (fun k hk => ?_)).trans (fun k _ h => h) (o3.mut (fun k hk => ?_)))
        · rcases List.mem_cons.1 hk with e5 | e5
          · exact Or.inl e5
          · exact Or.inr (Or.inr e5)
        · rcases List.mem_cons.1 hk with e5 | e5
          · exact Or.inl e5
          · exact Or.inr (Or.inr (hsub k e5))
      · rw [hP]
        rintro k (rfl | rfl | hk)
        · exact Or.inl (Or.inl rfl)
        · exact Or.inl (Or.inr (Or.inl rfl))
        · exact Or.inl (Or.inr (Or.inr (hsub k hk)))
    obtain ⟨xg, xk, xv⟩ := x
    clear hf h1 hP hc hs e e1 e2 e3 e4 hl hmn hmg f1 f2 f3 f4 hi ek eb r1 o1 m1 hxn mx hsub
    go_enter Try.func15, Try.ntmps15
    go_wp2_with (first
      | (go_at_call 23; refine (HF.out).mono ?_; rintro e0 y0 ⟨rfl, rfl⟩)
      | (go_at_call 24; rw [← HW1.out]; refine (HU.out).mono ?_; rintro e1 y1 ⟨rfl, r1, b1, o1⟩
         have HLk1 := HLk.out y1 r1 b1
         have HO1 : Hid (OnlyL (g :: T.map (·.1)) w1 y1) := o1
         clear r1 b1 o1
         replace HLk1 : Hid (Calls Try.prog 25 #[.pointer (some ⟨g, 0, none⟩), .pointer (some ⟨xg, 0, none⟩)] y1 fun r w' => r = .returned (.tuple #[]) ∧ Ring w' g m C.most (C.hits + 1) C.miss (T.eraseIdx i ++ [(xg, xk, xv)]) ∧ OnlyL (g :: (T.eraseIdx i ++ [(xg, xk, xv)]).map (·.1)) y1 w') := HLk1)
      | (go_at_call 25; refine (HLk1.out).mono ?_; rintro e2 y2 ⟨rfl, r2, o2⟩
         have c7 := HC1.out y2 r2
         have HE := HFin.out y1 y2 HO1.out o2 r2
         clear r2 o2))
    refine bodyPost_ret (results_tmp2 rfl _ _ _) rfl ?_
    obtain ⟨P', q1, q2, q3⟩ := HE
    exact ⟨P', rfl, q1, q2, q3⟩
theorem MapF.mono {w : World} {m n n' : Nat} {F : ByteArray → Option Nat} (h : MapF w m n F) (hn : n ≤ n') : MapF w m n' F := by
  obtain ⟨D, h1, h2⟩ := h
  exact ⟨D, h1.mono hn, h2⟩
theorem eraseZ {T : List ThT} : T.eraseIdx 0 = T.drop 1 := by cases T <;> rfl
set_option maxRecDepth 100000 in
set_option maxHeartbeats 800000 in
theorem kaPut_any {w : World} {g : Nat} {P : Nat → Prop} {C : KaT} (h : CaIs w g P C) (hc : smC C) {s : ByteArray} (hs : s.size ≤ maxLen) (v : Int) : Calls Try.prog 17 #[.pointer (some ⟨g, 0, none⟩), .string s, .int .i64 v] w fun r w' => ∃ P', r = .returned (.tuple #[]) ∧ CaIs w' g P' (putC C s v) ∧ Mut P w w' ∧ Grew w P P' := by
  have HK : Hid (CaIs w g P C) := h
  have hd := kaDrop_any h hc hs
  obtain ⟨m0, T0, h1, hP⟩ := h
  have c0 : w.cell? ⟨g, 0, none⟩ = some (.int .i64 (C.most : Int)) := h1.ring.me.cell 0
  have hok := ok_put h1.ok s v hs
  have hod := ok_drop h1.ok s
  by_cases h0 : C.most = 0
  · have hl0 : C.l = [] := List.eq_nil_of_length_eq_zero (by have := h1.ok.le; omega)
    have q0 : (C.most : Int) = 0 := by omega
    have HFin : Hid (CaIs w g P (putC C s v)) := by
      refine ⟨m0, T0, ⟨h1.ring, h1.map.mono (Nat.le_succ _), ?_, hok⟩, hP⟩
      rw [h1.tl]
      show C.l = _
      unfold putC
      rw [hl0, h0]
      rfl
    rw [q0] at c0
    clear hd h1 hP hc hs hok hod h0 hl0 q0
    go_enter Try.func17, Try.ntmps17
    go_wp2
    refine bodyPost_ret (results_none rfl _ _ _) rfl ?_
    exact ⟨P, rfl, HFin.out, Mut.refl _ _, Grew.refl _ _⟩
  · have q0 : ¬ ((C.most : Int) = 0) := by omega
    have HD : Hid (Calls Try.prog 18 #[.pointer (some ⟨g, 0, none⟩), .string s] w fun r w' => ∃ P', r = .returned (.bool (hasK C s)) ∧ CaIs w' g P' (dropC C s) ∧ Mut P w w' ∧ Grew w P P') := hd
    obtain ⟨lw, HLW⟩ : ∃ n, Hid (n = (woK C.l s).length) := ⟨_, rfl⟩
    have HLL : Hid (lw ≤ C.most ∧ C.most ≤ 1000000 ∧ C.puts < 1000000 ∧ C.most ≠ 0) := by
      have h5 := wo_len C.l s
      have h6 := h1.ok.le
      rw [← HLW.out] at h5
      exact ⟨by omega, hc.mo, hc.pu, h0⟩
    -- behind Drop: the world y0, its row T, the new thing's block
    have HA : Hid (∀ y0 P1, CaIs y0 g P1 (dropC C s) → ∃ m T, P1 = caP g m T ∧ T.length = lw ∧ CaM y0 g m T (dropC C s) ∧
        Calls Try.prog 25 #[.pointer (some ⟨g, 0, none⟩), .pointer (some ⟨y0.heap.size, 0, none⟩)] (y0.alloc (.cells #[.string s, .int .i64 v, .pointer none, .pointer none] 58)) fun r w' => r = .returned (.tuple #[]) ∧ Ring w' g m C.most C.hits C.miss (T ++ [(y0.heap.size, s, v)]) ∧ OnlyL (g :: (T ++ [(y0.heap.size, s, v)]).map (·.1)) (y0.alloc (.cells #[.string s, .int .i64 v, .pointer none, .pointer none] 58)) w') := by
      rintro y0 P1 ⟨m, T, hM, rfl⟩
      have hlT : T.length = lw := by rw [hM.len, HLW.out]; rfl
      refine ⟨m, T, rfl, hlT, hM, ?_⟩
      have hb := below_alloc y0 (.cells #[.string s, .int .i64 v, .pointer none, .pointer none] 58)
      have hM1 := hM.same (w' := y0.alloc (.cells #[.string s, .int .i64 v, .pointer none, .pointer none] 58)) (fun k hk => hb.block k (hM.lt k hk))
      refine link_any (x := (y0.heap.size, s, v)) hM1.ring (Blk.new y0 _ _) (fun hm => ?_) (by rw [hlT]; have := HLL.out; omega)
      exact absurd (hM.lt _ (Or.inr (Or.inr hm))) (Nat.lt_irrefl _)
    have HB : Hid (∀ y0 P1 m T y1, P1 = caP g m T → CaM y0 g m T (dropC C s) → T.length = lw → Ring y1 g m C.most C.hits C.miss (T ++ [(y0.heap.size, s, v)]) → OnlyL (g :: (T ++ [(y0.heap.size, s, v)]).map (·.1)) (y0.alloc (.cells #[.string s, .int .i64 v, .pointer none, .pointer none] 58)) y1 →
        ∃ y2, (Instr.mapUpdate 53 (.map (some m)) (.string s) (.pointer (some ⟨y0.heap.size, 0, none⟩))).run Try.prog y1 = .ok () y2 ∧ MapF y2 m (C.puts + 1) (fdT (T ++ [(y0.heap.size, s, v)])) ∧ Ring y2 g m C.most C.hits C.miss (T ++ [(y0.heap.size, s, v)]) ∧ Mut (caP g m (T ++ [(y0.heap.size, s, v)])) y0 y2 ∧ y1.cell? ⟨g, 2, none⟩ = some (.map (some m)) ∧ y2.cell? ⟨g, 0, none⟩ = some (.int .i64 (C.most : Int)) ∧ y2.cell? ⟨g, 1, none⟩ = some (.int .i64 ((lw : Int) + 1))) := by
      intro y0 P1 m T y1 hP1 hM hlT r1 o1
      have hb := below_alloc y0 (.cells #[.string s, .int .i64 v, .pointer none, .pointer none] 58)
      have hM1 := hM.same (w' := y0.alloc (.cells #[.string s, .int .i64 v, .pointer none, .pointer none] 58)) (fun k hk => hb.block k (hM.lt k hk))
      have hmx : m ∉ g :: (T ++ [(y0.heap.size, s, v)]).map (·.1) := fun e => by
        rw [List.map_append, ← List.cons_append] at e
        rcases List.mem_append.1 e with e | e
        · exact map_apart hM.ring hM.map e
        · simp at e
          exact absurd (hM.lt m (Or.inr (Or.inl rfl))) (by omega)
      have hM2 : MapF y1 m C.puts (fdT T) := hM1.map.same (o1.block m hmx)
      obtain ⟨y2, hr, hM3, o2⟩ := hM2.lay (by unfold maxLen; have := HLL.out; omega) hs y0.heap.size
      have hfn : fdT T s = none := by
        apply fdT_none.2
        intro i x hx e
        have h7 : s ∈ (woK C.l s).map (·.1) := by
          have h8 : T.map (·.2) = woK C.l s := hM.tl
          rw [← h8, List.map_map]
          exact List.mem_map.2 ⟨x, List.mem_of_getElem? hx, e⟩
        exact wo_not C.l s h7
      have r2 := r1.same (w' := y2) (fun k hk => o2.block k (fun e => by
        have e : k = m := by simpa using e
        rw [e] at hk
        exact hmx hk))
      refine ⟨y2, hr, ?_, r2, ?_, r1.me.cell 2, r2.me.cell 0, ?_⟩
      · rw [fdT_snoc (x := (y0.heap.size, s, v)) hfn]; exact hM3
      · refine (mut_below hb _).trans (fun k _ h => h) ((o1.mut (fun k hk => ?_)).trans (fun k _ h => h) (o2.mut (fun k hk => ?_)))
        · rcases List.mem_cons.1 hk with e | e
          · exact Or.inl e
          · exact Or.inr (Or.inr e)
        · exact Or.inr (Or.inl (by simpa using hk))
      · have := r2.me.cell 1
        rw [this]
        show some (Value.int .i64 (((T ++ [(y0.heap.size, s, v)]).length : Nat) : Int)) = _
        rw [List.length_append, hlT]
        rfl
    -- what is left at the end: the row T', by Q's blocks
    have HE : Hid (∀ y0 P1 m T y2 T' y3, CaM y0 g m T (dropC C s) → P1 = caP g m T → Mut P w y0 → Grew w P P1 → Mut (caP g m (T ++ [(y0.heap.size, s, v)])) y0 y2 → Mut (caP g m (T ++ [(y0.heap.size, s, v)])) y2 y3 → Ring y3 g m C.most C.hits C.miss T' → MapF y3 m (C.puts + 1) (fdT T') → T'.map (·.2) = (putC C s v).l → (∀ k, k ∈ T'.map (·.1) → k ∈ (T ++ [(y0.heap.size, s, v)]).map (·.1)) → ∃ P', CaIs y3 g P' (putC C s v) ∧ Mut P w y3 ∧ Grew w P P') := by
      intro y0 P1 m T y2 T' y3 hM hP1 mu0 gr0 mu1 mu2 r3 m3 ht hsb
      refine ⟨caP g m T', ⟨m, T', ⟨r3, m3, ht, hok⟩, rfl⟩, ?_, ?_⟩
      · refine mu0.trans ?_ (mu1.trans (fun k _ h => h) mu2)
        intro k hk hq
        have : caP g m T k := by
          rcases hq with e | e | e
          · exact Or.inl e
          · exact Or.inr (Or.inl e)
          · rw [List.map_append] at e
            rcases List.mem_append.1 e with e | e
            · exact Or.inr (Or.inr e)
            · simp at e
              have := mu0.size
              omega
        rw [← hP1] at this
        exact gr0.old k hk this
      · intro k hk
        have : caP g m T k ∨ w.heap.size ≤ k := by
          rcases hk with e | e | e
          · exact Or.inl (Or.inl e)
          · exact Or.inl (Or.inr (Or.inl e))
          · have e := hsb k e
            rw [List.map_append] at e
            rcases List.mem_append.1 e with e | e
            · exact Or.inl (Or.inr (Or.inr e))
            · simp at e
              have := mu0.size
              exact Or.inr (by omega)
        rcases this with h9 | h9
        · rw [← hP1] at h9
          exact gr0 k h9
        · exact Or.inr h9
    have hkeys : ∀ y0 m T, CaM y0 g m T (dropC C s) → (T ++ [(y0.heap.size, s, v)]).map (·.2) = woK C.l s ++ [(s, v)] := fun y0 m T hM => by
      have h8 : T.map (·.2) = woK C.l s := hM.tl
      rw [List.map_append, h8]
      rfl
    have hndk : ∀ y0 m T, CaM y0 g m T (dropC C s) → ((T ++ [(y0.heap.size, s, v)]).map (·.2.1)).Nodup := fun y0 m T hM => by
      have h8 := hkeys y0 m T hM
      have h9 := nd_snoc h1.ok.nd s v
      rw [← h8, List.map_map] at h9
      exact h9
    by_cases hq : C.most < lw + 1
    · have q1 : (C.most : Int) < (lw : Int) + 1 := by omega
      have HX : Hid (∀ y0 m T y2, T.length = lw → CaM y0 g m T (dropC C s) → Ring y2 g m C.most C.hits C.miss (T ++ [(y0.heap.size, s, v)]) → MapF y2 m (C.puts + 1) (fdT (T ++ [(y0.heap.size, s, v)])) → ∃ x0 : ThT, y2.cell? ⟨g, 3, none⟩ = some (.pointer (some ⟨x0.1, 0, none⟩)) ∧ ∀ y2', y2'.heap = y2.heap → Calls Try.prog 27 #[.pointer (some ⟨g, 0, none⟩), .pointer (some ⟨x0.1, 0, none⟩)] y2' fun r w' => r = .returned (.tuple #[]) ∧ Ring w' g m C.most C.hits C.miss ((T ++ [(y0.heap.size, s, v)]).eraseIdx 0) ∧ MapF w' m (C.puts + 1) (fdT ((T ++ [(y0.heap.size, s, v)]).eraseIdx 0)) ∧ OnlyL (g :: m :: (T ++ [(y0.heap.size, s, v)]).map (·.1)) y2' w') := by
        intro y0 m T y2 hlT hM r2 m2
        have hlen : (T ++ [(y0.heap.size, s, v)]).length = lw + 1 := by rw [List.length_append, hlT]; rfl
        obtain ⟨x0, hx0⟩ : ∃ x0, (T ++ [(y0.heap.size, s, v)])[0]? = some x0 := ⟨_, List.getElem?_eq_getElem (by omega)⟩
        refine ⟨x0, ?_, fun y2' eh => ?_⟩
        · have := r2.me.cell 3
          rw [this]
          show some (ptK (firstK _)) = _
          unfold firstK
          rw [hx0]
          rfl
        · have r2' := r2.same (w' := y2') (fun k _ => by rw [eh])
          have m2' := m2.same (w' := y2') (by rw [eh])
          have hsz : x0.2.1.size ≤ maxLen := by
            have h8 := hkeys y0 m T hM
            have h9 : x0.2 ∈ (T ++ [(y0.heap.size, s, v)]).map (·.2) := List.mem_map.2 ⟨x0, List.mem_of_getElem? hx0, rfl⟩
            rw [h8] at h9
            rcases List.mem_append.1 h9 with h9 | h9
            · exact hod.sz _ h9
            · simp at h9; rw [h9]; exact hs
          refine (kaRemove_any r2' m2' hx0 (by rw [hlen]; have := HLL.out; omega) hsz).mono ?_
          rintro e y ⟨rfl, a1, a2, a3⟩
          rw [← fdT_erase (hndk y0 m T hM) hx0] at a2
          exact ⟨rfl, a1, a2, a3⟩
      have HPL : Hid (∀ y0 m T, CaM y0 g m T (dropC C s) → ((T ++ [(y0.heap.size, s, v)]).eraseIdx 0).map (·.2) = (putC C s v).l) := fun y0 m T hM => by
        show _ = (woK C.l s ++ [(s, v)]).drop _
        rw [← HLW.out, if_pos hq, eraseZ, List.map_drop, hkeys y0 m T hM]
      clear hd h1 hP hc hok hod h0 hkeys hndk hq
      have HSS : Hid (s.size ≤ maxLen) := hs
      clear hs
      go_enter Try.func17, Try.ntmps17
      have tk0 : Hid True := trivial
      go_wp2_with (first
        | (clear tk0; go_at_call 18; refine (HD.out).mono ?_; rintro e0 y0 ⟨P1, rfl, hI, mu0, gr0⟩
           obtain ⟨m, T, hP1, hlT, hM, hLk⟩ := HA.out y0 P1 hI
           have HI : Hid (P1 = caP g m T ∧ T.length = lw ∧ CaM y0 g m T (dropC C s) ∧ Mut P w y0 ∧ Grew w P P1) := ⟨hP1, hlT, hM, mu0, gr0⟩
           have HLk : Hid (Calls Try.prog 25 #[.pointer (some ⟨g, 0, none⟩), .pointer (some ⟨y0.heap.size, 0, none⟩)] (y0.alloc (.cells #[.string s, .int .i64 v, .pointer none, .pointer none] 58)) fun r w' => r = .returned (.tuple #[]) ∧ Ring w' g m C.most C.hits C.miss (T ++ [(y0.heap.size, s, v)]) ∧ OnlyL (g :: (T ++ [(y0.heap.size, s, v)]).map (·.1)) (y0.alloc (.cells #[.string s, .int .i64 v, .pointer none, .pointer none] 58)) w') := hLk
           clear hP1 hlT hM mu0 gr0 hI hLk)
        | (go_at_call 25; refine (HLk.out).mono ?_; rintro e1 y1 ⟨rfl, r1, o1⟩
           obtain ⟨y2, hr2, m2, r2, mu2, k2, k0, k1⟩ := HB.out y0 P1 m T y1 HI.out.1 HI.out.2.2.1 HI.out.2.1 r1 o1
           have HM2 : Hid (MapF y2 m (C.puts + 1) (fdT (T ++ [(y0.heap.size, s, v)])) ∧ Ring y2 g m C.most C.hits C.miss (T ++ [(y0.heap.size, s, v)]) ∧ Mut (caP g m (T ++ [(y0.heap.size, s, v)])) y0 y2) := ⟨m2, r2, mu2⟩
           obtain ⟨x0, k3, hx0⟩ := HX.out y0 m T y2 HI.out.2.1 HI.out.2.2.1 r2 m2
           have HX0 : Hid (∀ y2', y2'.heap = y2.heap → Calls Try.prog 27 #[.pointer (some ⟨g, 0, none⟩), .pointer (some ⟨x0.1, 0, none⟩)] y2' fun r w' => r = .returned (.tuple #[]) ∧ Ring w' g m C.most C.hits C.miss ((T ++ [(y0.heap.size, s, v)]).eraseIdx 0) ∧ MapF w' m (C.puts + 1) (fdT ((T ++ [(y0.heap.size, s, v)]).eraseIdx 0)) ∧ OnlyL (g :: m :: (T ++ [(y0.heap.size, s, v)]).map (·.1)) y2' w') := hx0
           clear m2 r2 mu2 hx0 r1 o1)
        | (go_at_call 26; refine (kaLike_any s _).mono ?_; rintro e2 y8 ⟨rfl, rfl⟩))
      go_region_held3 (fun wx => wx.cell? ⟨g, 1, none⟩ = some (.int .i64 ((lw : Int) + 1)) ∧ wx.cell? ⟨g, 0, none⟩ = some (.int .i64 (C.most : Int))) (go_keep) (fail)
      go_wp2_with (first
        | (go_at_call 27; refine (HX0.out y2.drew rfl).mono ?_; rintro e3 y3 ⟨rfl, r3, m3, o3⟩
           have HR3 : Hid (Ring y3 g m C.most C.hits C.miss ((T ++ [(y0.heap.size, s, v)]).eraseIdx 0)) := r3
           have HM3 : Hid (MapF y3 m (C.puts + 1) (fdT ((T ++ [(y0.heap.size, s, v)]).eraseIdx 0))) := m3
           have HO3 : Hid (OnlyL (g :: m :: (T ++ [(y0.heap.size, s, v)]).map (·.1)) y2.drew y3) := o3
           clear r3 m3 o3))
      refine bodyPost_end (results_none rfl _ _ _) rfl ?_
      obtain ⟨P', q1, q2, q3⟩ := HE.out y0 P1 m T y2 _ y3 HI.out.2.2.1 HI.out.1 HI.out.2.2.2.1 HI.out.2.2.2.2 HM2.out.2.2 ((mut_drew _ _).trans (fun k _ h => h) (HO3.out.mut (fun k hk => by simp only [List.mem_cons] at hk; exact hk))) HR3.out HM3.out (HPL.out y0 m T HI.out.2.2.1) (fun k hk => ((List.eraseIdx_sublist _ _).map _).mem hk)
      exact ⟨P', rfl, q1, q2, q3⟩
    · have q1 : ¬ ((C.most : Int) < (lw : Int) + 1) := by omega
      have HPL : Hid (∀ y0 m T, CaM y0 g m T (dropC C s) → (T ++ [(y0.heap.size, s, v)]).map (·.2) = (putC C s v).l) := fun y0 m T hM => by
        show _ = (woK C.l s ++ [(s, v)]).drop _
        rw [← HLW.out, if_neg hq, hkeys y0 m T hM]
        rfl
      clear hd h1 hP hc hok hod h0 hkeys hndk hq
      have HSS : Hid (s.size ≤ maxLen) := hs
      clear hs
      go_enter Try.func17, Try.ntmps17
      have tk0 : Hid True := trivial
      go_wp2_with (first
        | (clear tk0; go_at_call 18; refine (HD.out).mono ?_; rintro e0 y0 ⟨P1, rfl, hI, mu0, gr0⟩
           obtain ⟨m, T, hP1, hlT, hM, hLk⟩ := HA.out y0 P1 hI
           have HI : Hid (P1 = caP g m T ∧ T.length = lw ∧ CaM y0 g m T (dropC C s) ∧ Mut P w y0 ∧ Grew w P P1) := ⟨hP1, hlT, hM, mu0, gr0⟩
           have HLk : Hid (Calls Try.prog 25 #[.pointer (some ⟨g, 0, none⟩), .pointer (some ⟨y0.heap.size, 0, none⟩)] (y0.alloc (.cells #[.string s, .int .i64 v, .pointer none, .pointer none] 58)) fun r w' => r = .returned (.tuple #[]) ∧ Ring w' g m C.most C.hits C.miss (T ++ [(y0.heap.size, s, v)]) ∧ OnlyL (g :: (T ++ [(y0.heap.size, s, v)]).map (·.1)) (y0.alloc (.cells #[.string s, .int .i64 v, .pointer none, .pointer none] 58)) w') := hLk
           clear hP1 hlT hM mu0 gr0 hI hLk)
        | (go_at_call 25; refine (HLk.out).mono ?_; rintro e1 y1 ⟨rfl, r1, o1⟩
           obtain ⟨y2, hr2, m2, r2, mu2, k2, k0, k1⟩ := HB.out y0 P1 m T y1 HI.out.1 HI.out.2.2.1 HI.out.2.1 r1 o1
           have HM2 : Hid (MapF y2 m (C.puts + 1) (fdT (T ++ [(y0.heap.size, s, v)])) ∧ Ring y2 g m C.most C.hits C.miss (T ++ [(y0.heap.size, s, v)]) ∧ Mut (caP g m (T ++ [(y0.heap.size, s, v)])) y0 y2) := ⟨m2, r2, mu2⟩
           clear m2 r2 mu2 r1 o1)
        | (go_at_call 26; refine (kaLike_any s _).mono ?_; rintro e2 y8 ⟨rfl, rfl⟩))
      go_region_held3 (fun wx => wx.cell? ⟨g, 1, none⟩ = some (.int .i64 ((lw : Int) + 1)) ∧ wx.cell? ⟨g, 0, none⟩ = some (.int .i64 (C.most : Int))) (go_keep) (fail)
      go_wp2
      refine bodyPost_end (results_none rfl _ _ _) rfl ?_
      obtain ⟨P', q1, q2, q3⟩ := HE.out y0 P1 m T y2 _ y2.drew HI.out.2.2.1 HI.out.1 HI.out.2.2.2.1 HI.out.2.2.2.2 HM2.out.2.2 (mut_drew _ _) (HM2.out.2.1.same (fun _ _ => rfl)) (HM2.out.1.same rfl) (HPL.out y0 m T HI.out.2.2.1) (fun k hk => hk)
      exact ⟨P', rfl, q1, q2, q3⟩
end Go.Proofs.Ytgmemibhddnjjaa

/- CacheAsks (layer 16). -/
import Derived.Test.YtgmemibhddnjjaaKaDs
import Derived.Deep.Cut
import Derived.Deep.CutRange
namespace Go.Proofs.Ytgmemibhddnjjaa
open Go.RowKit
set_option maxRecDepth 100000
def flK (l : List ByteArray) (key : ByteArray) : List ByteArray := l.filter (fun s => !decide (s = key))
theorem fl_snoc (a : List ByteArray) (p key : ByteArray) : flK (a ++ [p]) key = flK a key ++ (if p = key then [] else [p]) := by
  unfold flK
  rw [List.filter_append]
  congr 1
  by_cases h : p = key
  · rw [if_pos h, List.filter_cons_of_neg (by simp [h])]; rfl
  · rw [if_neg h, List.filter_cons_of_pos (by simp [h])]; rfl
theorem fl_wo (l : List KV) (key : ByteArray) : flK ((woK l key).map (·.1)) key = flK (l.map (·.1)) key := by
  induction l with
  | nil => rfl
  | cons p l ih =>
    unfold woK at ih ⊢
    by_cases e : p.1 = key
    · rw [List.filter_cons_of_neg (by simp [e]), ih, List.map_cons]
      unfold flK
      rw [List.filter_cons_of_neg (by simp [e])]
    · rw [List.filter_cons_of_pos (by simp [e]), List.map_cons, List.map_cons]
      unfold flK at ih ⊢
      rw [List.filter_cons_of_pos (by simp [e]), List.filter_cons_of_pos (by simp [e]), ih]
theorem fl_same {l : List ByteArray} {key : ByteArray} (h : key ∉ l) : flK l key = l := by
  unfold flK
  rw [List.filter_eq_self]
  intro p hp
  simp
  intro e
  exact h (e ▸ hp)
theorem fl_less {l : List ByteArray} {key : ByteArray} (h : key ∈ l) : (flK l key).length < l.length := by
  have h1 : (flK l key).length ≤ l.length := List.length_filter_le _ _
  rcases Nat.lt_or_ge (flK l key).length l.length with h2 | h2
  · exact h2
  · have h3 : flK l key = l := List.Sublist.eq_of_length_le List.filter_sublist h2
    have h4 : key ∈ flK l key := by rw [h3]; exact h
    have := (List.mem_filter.1 h4).2
    simp at this
/-- what asking for a key makes of the keys -/
theorem asks_plain {C : KaT} (hok : okC C) (key : ByteArray) : ((getC C key).l.map (·.1)).length = (C.l.map (·.1)).length ∧ flK (C.l.map (·.1)) key = flK ((getC C key).l.map (·.1)) key ∧ (hasK C key = true → ((getC C key).l.map (·.1))[(C.l.map (·.1)).length - 1]? = some key ∧ 0 < (C.l.map (·.1)).length ∧ (flK (C.l.map (·.1)) key).length < (C.l.map (·.1)).length) ∧ (hasK C key = false → ¬ (flK (C.l.map (·.1)) key).length < (C.l.map (·.1)).length) := by
  cases e : fdK C.l key with
  | none =>
    have h1 : (getC C key).l = C.l := by unfold getC; rw [e]
    have h2 : hasK C key = false := by unfold hasK; rw [e]; rfl
    rw [h1, h2]
    refine ⟨rfl, rfl, fun h => (by cases h), fun _ => ?_⟩
    rw [fl_same (fd_none.1 e)]
    exact Nat.lt_irrefl _
  | some v =>
    have hm := fd_some e
    obtain ⟨i, hi⟩ := List.mem_iff_getElem?.1 hm
    have hl : i < C.l.length := (List.getElem?_eq_some_iff.1 hi).1
    have h1 : (getC C key).l = woK C.l key ++ [(key, v)] := by unfold getC; rw [e]
    have h2 : hasK C key = true := by unfold hasK; rw [e]; rfl
    have h3 : (woK C.l key).length = C.l.length - 1 := by rw [wo_erase hok.nd hi, List.length_eraseIdx_of_lt hl]
    rw [h1, h2]
    refine ⟨?_, ?_, fun _ => ⟨?_, ?_, ?_⟩, fun h => (by cases h)⟩
    · rw [List.length_map, List.length_append, h3, List.length_map]; simp; omega
    · rw [List.map_append, show [(key, v)].map (·.1) = [key] from rfl, fl_snoc, if_pos rfl, List.append_nil, fl_wo]
    · rw [List.map_append, List.getElem?_append_right (by rw [List.length_map, List.length_map, h3]; exact Nat.le_refl _), List.length_map, List.length_map, h3, Nat.sub_self]; rfl
    · rw [List.length_map]; omega
    · exact fl_less (List.mem_map.2 ⟨_, hm, rfl⟩)
theorem app_K2 {o : Oper} {a : Act} {w : World} {K : Act → World → Prop} {Q : Exit → Act → World → Prop} (s x : Operand) (base : Nat) (v : Value) (u : ByteArray) (cs : List Value) (g : Nat)
    (hown : OwnR 9 w base v cs) (hb : Blk w g [.string u] 9) (hlen : cs.length < 1000000) (hbase : base ≤ w.heap.size)
    (ho : o.op = .call { callee := .builtin .append, args := #[s, x], argTypes := #[24, 24] }) (hs : a.eval s = v) (hx : a.eval x = .slice (some ⟨g, 0, none⟩) 1 1)
    (h : ∀ v' w', OwnR 9 w' base v' (cs ++ [.string u]) → w.grownBy w' v.ownBlock → (v'.ownBlock = v.ownBlock ∨ v'.ownBlock = some w.heap.size) → K (a.put o.dst v') w') : o.wp Try.prog a w K Q := by
  obtain ⟨i0, hi, hz0, hz1, hz2⟩ := info_parts Try.infoStr
  obtain ⟨v', w', hr, h2, h3, h4, h5⟩ := run_append_own_at (P := Try.prog) w base 24 o.type 9 i0 _ 1 16 Try.underlying24 hi hz0 hz1 hz2 rfl (by decide) v cs.length cs hown ⟨g, 0, none⟩ 1 1 [.string u] rfl (fun j q hj => by rw [Addr.add_mid, Nat.zero_add, hb.cell]; exact hj) (fun q hq => by rw [List.mem_singleton.1 hq]; rfl) (by unfold maxLen; omega) (by omega) hbase
  unfold Oper.wp execOp
  simp only [ho, resolve, invoke, builtin, Sem.run_bind, Sem.run_pure, Result.andThen_ok, List.map_toArray, List.map_cons, List.map_nil, hs, hx, hr]
  refine h v' w' ?_ h3 h5
  unfold OwnR
  rw [List.length_append]
  exact h2
theorem wpList_appK2 {ops : Array Oper} {rest : List Oper} {o : Oper} {a : Act} {w : World} {Q : Exit → Act → World → Prop} (s x : Operand) (base : Nat) (v : Value) (u : ByteArray) (cs : List Value) (g : Nat)
    (hown : OwnR 9 w base v cs) (hb : Blk w g [.string u] 9) (hlen : cs.length < 1000000) (hbase : base ≤ w.heap.size) (hgd : o.guard = none)
    (ho : o.op = .call { callee := .builtin .append, args := #[s, x], argTypes := #[24, 24] }) (hs : a.eval s = v) (hx : a.eval x = .slice (some ⟨g, 0, none⟩) 1 1)
    (h : ∀ v' w', OwnR 9 w' base v' (cs ++ [.string u]) → w.grownBy w' v.ownBlock → (v'.ownBlock = v.ownBlock ∨ v'.ownBlock = some w.heap.size) → wpList Try.prog ops Q rest (a.put o.dst v') w') : wpList Try.prog ops Q (o :: rest) a w :=
  wpList_plain hgd fun _ hK => app_K2 s x base v u cs g hown hb hlen hbase ho hs hx fun v' w' h2 h3 h4 => hK _ _ (h v' w' h2 h3 h4)
/-- two lists of keys that grow beside each other -/
structure AkI (y : World) (la lb : List Value) (va vb : Value) (W : World) : Prop where
  oa : OwnR 9 W y.heap.size va la
  ob : OwnR 9 W y.heap.size vb lb
  ne : ∀ k, va.ownBlock = some k → vb.ownBlock ≠ some k
  bel : Below y.heap.size y W
theorem AkI.appA {y W q : World} {la lb : List Value} {va vb z u : Value} (h : AkI y la lb va vb W) (o : Obj) (ho : OwnR 9 q y.heap.size z (la ++ [u])) (hg : (W.alloc o).grownBy q va.ownBlock) (hz : z.ownBlock = va.ownBlock ∨ z.ownBlock = some (W.alloc o).heap.size) : AkI y (la ++ [u]) lb z vb q := by
  have b1 := OwnR.app1 h.ob o
  refine ⟨ho, b1.same (fun k _ hh hk => hg.block k (heap_lt hh) (fun e => h.ne k e.symm hk)), fun k hk hb => ?_, (h.bel.trans ((below_alloc W o).mono h.bel.size)).trans ((Below.refl _ _).grown hg (Nat.le_trans h.bel.size (below_alloc W o).size) (fun k hk => (h.oa.lt k hk).1))⟩
  rcases hz with e | e
  · rw [e] at hk; exact h.ne k hk hb
  · rw [e] at hk
    have h1 := (b1.lt k hb).2
    simp only [Option.some.injEq] at hk
    omega
theorem AkI.appB {y W q : World} {la lb : List Value} {va vb z u : Value} (h : AkI y la lb va vb W) (o : Obj) (ho : OwnR 9 q y.heap.size z (lb ++ [u])) (hg : (W.alloc o).grownBy q vb.ownBlock) (hz : z.ownBlock = vb.ownBlock ∨ z.ownBlock = some (W.alloc o).heap.size) : AkI y la (lb ++ [u]) va z q := by
  have b1 := OwnR.app1 h.oa o
  refine ⟨b1.same (fun k _ hh hk => hg.block k (heap_lt hh) (fun e => h.ne k hk e.symm)), ho, fun k hk hb => ?_, (h.bel.trans ((below_alloc W o).mono h.bel.size)).trans ((Below.refl _ _).grown hg (Nat.le_trans h.bel.size (below_alloc W o).size) (fun k hk => (h.ob.lt k hk).1))⟩
  rcases hz with e | e
  · rw [e] at hb; exact h.ne k hk hb
  · rw [e] at hb
    have h1 := (b1.lt k hk).2
    simp only [Option.some.injEq] at hb
    omega
set_option maxRecDepth 100000 in
set_option maxHeartbeats 4000000 in
theorem cacheAsks_law (w : World) (most : Int) (v : Value) (l : List OpK) (key : ByteArray) (hr : RdO w v l) (hs : ∀ o ∈ l, o.k.size ≤ maxLen) (hkey : key.size ≤ maxLen) : Calls Try.prog 7 #[.int .i64 most, v, .string key] w fun e w' => e = .returned (.bool true) ∧ Below w.heap.size w w' := by
  obtain ⟨C0, HC0⟩ : ∃ X, Hid (X = newC (startN most)) := ⟨_, rfl⟩
  have HST : Hid (Calls Try.prog 8 #[.int .i64 most] w fun r w' => ∃ g P, r = .returned (.tuple #[.pointer (some ⟨g, 0, none⟩), .agg [.int .i64 (C0.most : Int), .slice none 0 0, .slice none 0 0, .int .i64 (C0.hits : Int), .int .i64 (C0.miss : Int)].toArray]) ∧ CaIs w' g P C0 ∧ Below w.heap.size w w' ∧ ∀ k, P k → w.heap.size ≤ k) := by show Calls _ _ _ _ _; rw [HC0.out]; exact start16_any w most
  obtain ⟨ad, cp, hv⟩ := hr.form
  obtain ⟨n, HN⟩ : ∃ n, Hid (n = l.length) := ⟨_, rfl⟩
  rw [← HN.out] at hv
  subst hv
  have HR : Hid (RdO w (.slice ad n cp) l) := hr
  have HSZ : Hid (∀ o ∈ l, o.k.size ≤ maxLen) := hs
  have HRD : Hid (n ≤ 200 → ∀ k, okC (runC C0 (l.take k)) ∧ smC (runC C0 (l.take k)) ∧ (runC C0 (l.take k)).most < 1000000 ∧ cntC (runC C0 (l.take k)) ≤ 200 ∧ (runC C0 (l.take k)).most = C0.most) := fun h k => ready16 C0 (by rw [HC0.out]; exact ok_new _) (by rw [HC0.out]; exact startN_le _) (by rw [HC0.out]; rfl) l (by rw [← HN.out]; exact h) hs k
  clear hr hs
  by_cases hn : n ≤ 200
  · have q1 : decide ((n : Int) ≤ 200) = true := decide_eq_true (by omega)
    have HN200 : Hid (n ≤ 200) := hn
    clear hn
    go_enter Try.func7, Try.ntmps7
    have tk0 : Hid True := trivial
    have tk1 : Hid True := trivial
    have tk2 : Hid True := trivial
    have tk3 : Hid True := trivial
    go_wp2_with (first
      | (clear tk0; go_at_call 8; refine (HST.out).mono ?_; rintro e0 y0 ⟨g, P, rfl, ca, bl, hP⟩
         have HCA : Hid (CaIs y0 g P C0) := ca
         have HB : Hid (Below w.heap.size w y0 ∧ ∀ k, P k → w.heap.size ≤ k) := ⟨bl, hP⟩
         clear ca bl hP)
      | (clear tk1; with_reducible refine wpSeq_allocRc ?_ ?_ ?_
         · rfl
         · rfl
         intro g6 y1 nn
         have H6 : Hid (Blk y1 g6 zRc 27) := nn.blk
         have HG6 : Hid (w.heap.size ≤ g6) := Nat.le_trans HB.out.1.size nn.ge
         replace HCA : Hid (CaIs y1 g P C0) := HCA.out.below nn.below
         replace HB : Hid (Below w.heap.size w y1 ∧ ∀ k, P k → w.heap.size ≤ k) := ⟨HB.out.1.trans (nn.below.mono HB.out.1.size), HB.out.2⟩
         clear nn)
      | (clear tk2; with_reducible refine wpSeq_storeRow 27 (.tmp 8) (.tmp 21) g6 zRc [.int .i64 (C0.most : Int), .slice none 0 0, .slice none 0 0, .int .i64 (C0.hits : Int), .int .i64 (C0.miss : Int)] H6.out rfl (info_rc _ _ _ _ _) ?_ ?_ ?_ ?_ ?_ ?_
         · exact one_rc _ _ _ ⟨rfl, rfl, rfl⟩ _ _ _ _ _ _
         · rfl
         · rfl
         · rfl
         · rfl
         intro y2 sr
         have HI : Hid (LwI w g g6 P C0 (.slice none 0 0) (.slice none 0 0) y2) := ⟨HCA.out.only H6.out sr.only (by decide) (by decide), by rw [HC0.out]; exact RfV.nilC _ _, sr.blk, HB.out.1.trans (sr.only.below HG6.out HB.out.1.size), HB.out.2, HG6.out⟩
         clear sr HCA HB H6 HG6)
      | (clear tk3; go_at_call 9; refine (few16_any _ _ _ _).mono ?_; rintro ef yf ⟨rfl, rfl⟩
         rw [q1]))
    go_loopw [9] (fun i wr => ∃ k : Nat, k ≤ n ∧ i = .int .i64 (k : Int) ∧ ∃ P vk vv, LwI w g g6 P (runC C0 (l.take k)) vk vv wr) (fun i _ => n - (intOf i).toNat)
    case atStart => exact ⟨0, Nat.zero_le _, rfl, P, _, _, HI.out⟩
    case round =>
      clear HI
      obtain ⟨k, hkn, rfl, P, vk, vv, hI⟩ := hrel
      by_cases hlt : k < n
      · obtain ⟨o, ho⟩ : ∃ o, l[k]? = some o := ⟨_, List.getElem?_eq_getElem (by rw [← HN.out]; exact hlt)⟩
        obtain ⟨b, off, e1, hat⟩ := HR.out.at ho
        subst e1
        have HAT : Hid (∀ W, Below w.heap.size w W → W.rangeAt b (off + k * 3) [.int .i64 o.kind, .string o.k, .int .i64 o.v]) := hat
        have hso := HSZ.out o (List.mem_of_getElem? ho)
        obtain ⟨hok, hsm, hmo, _, hmc⟩ := HRD.out HN200.out k
        obtain ⟨hok', hsm', hmo', _, hmc'⟩ := HRD.out HN200.out (k + 1)
        have hrt := run_take C0 ho
        obtain ⟨a1, n1, c1, a2, n2, c2, hv1, hv2⟩ := hI.rf.forms
        subst hv1 hv2
        obtain ⟨C, HC⟩ : ∃ X, Hid (X = runC C0 (l.take k)) := ⟨_, rfl⟩
        obtain ⟨C', HC'⟩ : ∃ X, Hid (X = runC C0 (l.take (k + 1))) := ⟨_, rfl⟩
        rw [← HC.out] at hI hok hsm hmo hrt hmc
        rw [← HC'.out] at hok' hsm' hmo' hrt hmc'
        have HW : Hid (LwI w g g6 P C (.slice a1 n1 c1) (.slice a2 n2 c2) wr) := hI
        have HOK' : Hid (okC C' ∧ smC C' ∧ C'.l.length < 1000000 ∧ C'.most = C0.most) := ⟨hok', hsm', Nat.lt_of_le_of_lt hok'.le hmo', hmc'⟩
        have HSTP : Hid (∀ W P vk vv, Both W g P C vk vv → Calls Try.prog 11 #[.pointer (some ⟨g, 0, none⟩), .agg [.int .i64 (C.most : Int), vk, vv, .int .i64 (C.hits : Int), .int .i64 (C.miss : Int)].toArray, .agg [.int .i64 o.kind, .string o.k, .int .i64 o.v].toArray] W fun r w' => ∃ P' vk' vv', r = .returned (.tuple #[.agg [.int .i64 (C'.most : Int), vk', vv', .int .i64 (C'.hits : Int), .int .i64 (C'.miss : Int)].toArray, .bool true]) ∧ Both w' g P' C' vk' vv' ∧ Mut P W w' ∧ Grew W P P') := fun W P vk vv h => by rw [hrt]; exact step16_any h hsm hmo hok o hso
        have f5 : IntKind.i64.wrap ((k : Int) + 1) = (k : Int) + 1 := by have := HN200.out; rw [IntKind.wrap_i64]; omega
        obtain ⟨kd, s, x⟩ := o
        simp only at HAT HSTP
        clear hI hok hsm hmo hok' hsm' hmo' hrt hso hat ho hmc hmc'
        go_wp2
        refine wp_region_held_drew (S := fun wx => Below w.heap.size w wx) (by kernel_rfl) HW.out.drew.bel ?_
        intro hS
        replace HW : Hid (LwI w g g6 P C (.slice a1 n1 c1) (.slice a2 n2 c2) (World.drew wr)) := HW.out.drew
        change wpAnyH _ _ _ _ _ _ _ _ (World.drew wr)
        generalize World.drew wr = y0 at *
        try simp only [Act.put, List.setIfInBounds_toArray, List.set_cons_zero, List.set_cons_succ]
        refine wpAnyH_take (i := 0) (v := .pointer (some ⟨g, 0, none⟩)) rfl (by kernel_rfl) (by kernel_rfl) (by kernel_rfl) (fun _ _ _ h => h) (Or.inl ⟨by rfl, fun wx hx => by simp [go_sem]⟩) hS ?_
        simp only [Act.put, List.getElem_toArray, List.getElem_cons_zero, List.setIfInBounds_toArray, List.set_cons_zero, List.set_cons_succ]
        refine wpAnyH_take (i := 2) (v := .slice (some ⟨b, off, none⟩) n cp) rfl (by kernel_rfl) (by kernel_rfl) (by kernel_rfl) (fun _ _ _ h => h) (Or.inl ⟨by rfl, fun wx hx => by simp [go_sem]⟩) hS ?_
        simp only [Act.put, List.getElem_toArray, List.getElem_cons_succ, List.getElem_cons_zero, List.setIfInBounds_toArray, List.set_cons_zero, List.set_cons_succ]
        refine wpAnyH_take (i := 3) (v := .int .i64 (k : Int)) rfl (by kernel_rfl) (by kernel_rfl) (by kernel_rfl) (fun _ _ _ h => h) (Or.inl ⟨by rfl, fun wx hx => by simp [go_sem]⟩) hS ?_
        simp only [Act.put, List.getElem_toArray, List.getElem_cons_succ, List.getElem_cons_zero, List.setIfInBounds_toArray, List.set_cons_zero, List.set_cons_succ]
        refine wpAnyH_take (i := 4) (v := .pointer (some ⟨b, off + k * 3, none⟩)) rfl (by kernel_rfl) (by kernel_rfl) (by kernel_rfl) (fun _ _ _ h => h) (Or.inl ⟨by rfl, fun wx hx => by exact idxO b off n cp k hlt _ _ _ _ rfl rfl rfl _⟩) hS ?_
        simp only [Act.put, List.getElem_toArray, List.getElem_cons_succ, List.getElem_cons_zero, List.setIfInBounds_toArray, List.set_cons_zero, List.set_cons_succ]
        refine wpAnyH_take (i := 5) (v := .agg [.int .i64 kd, .string s, .int .i64 x].toArray) rfl (by kernel_rfl) (by kernel_rfl) (by kernel_rfl) (fun _ _ _ h => h) (Or.inl ⟨by rfl, fun wx hx => by exact load_run 35 _ rfl b (off + k * 3) rfl _ _ (HAT.out _ hx) Try.underlying35 rfl (info_op _ _ _)⟩) hS ?_
        simp only [Act.put, List.getElem_toArray, List.getElem_cons_succ, List.getElem_cons_zero, List.setIfInBounds_toArray, List.set_cons_zero, List.set_cons_succ]
        refine wpAnyH_step 1 (.agg [.int .i64 (C.most : Int), .slice a1 n1 c1, .slice a2 n2 c2, .int .i64 (C.hits : Int), .int .i64 (C.miss : Int)].toArray) y0 (by kernel_rfl) rfl (by rfl) (load_run 27 _ rfl g6 0 rfl [.int .i64 (C.most : Int), .slice a1 n1 c1, .slice a2 n2 c2, .int .i64 (C.hits : Int), .int .i64 (C.miss : Int)] _ HW.out.b6.range Try.underlying27 rfl (info_rc _ _ _ _ _)) hS ?_
        simp only [Act.put, List.getElem_toArray, List.getElem_cons_succ, List.getElem_cons_zero, List.setIfInBounds_toArray, List.set_cons_zero, List.set_cons_succ]
        have hcc := HSTP.out y0 P (.slice a1 n1 c1) (.slice a2 n2 c2) ⟨HW.out.ca, HW.out.rf⟩
        generalize hA : #[Value.pointer (some ⟨g, 0, none⟩), .agg [.int .i64 (C.most : Int), .slice a1 n1 c1, .slice a2 n2 c2, .int .i64 (C.hits : Int), .int .i64 (C.miss : Int)].toArray, .agg [.int .i64 kd, .string s, .int .i64 x].toArray] = AA at hcc
        refine wpAnyH_enter 6 (by kernel_rfl) rfl (by rfl) (f := 11) (args := AA) (by subst hA; simp [go_sem]) hcc ?_
        rintro e z1 ⟨P', vk', vv', rfl, hBo, hmu, hgr⟩
        obtain ⟨a3, n3, c3, a4, n4, c4, hv3, hv4⟩ := hBo.rf.forms
        subst hv3 hv4
        obtain ⟨hb6, hbel, hge⟩ := HW.out.mut hmu hgr
        replace hS := hbel
        refine ⟨_, rfl, hS, ?_⟩
        simp only [Act.put, List.getElem_toArray, List.getElem_cons_succ, List.getElem_cons_zero, List.setIfInBounds_toArray, List.set_cons_zero, List.set_cons_succ]
        refine wpAnyH_take (i := 7) (v := .tuple #[.agg [.int .i64 (C'.most : Int), .slice a3 n3 c3, .slice a4 n4 c4, .int .i64 (C'.hits : Int), .int .i64 (C'.miss : Int)].toArray, .bool true]) rfl (by kernel_rfl) (by kernel_rfl) (by kernel_rfl) (fun _ _ _ h => h) (Or.inl ⟨by rfl, fun wx hx => by simp [go_sem]⟩) hS ?_
        simp only [Act.put, List.getElem_toArray, List.getElem_cons_succ, List.getElem_cons_zero, List.setIfInBounds_toArray, List.set_cons_zero, List.set_cons_succ]
        refine wpAnyH_take (i := 8) (v := .agg [.int .i64 (C'.most : Int), .slice a3 n3 c3, .slice a4 n4 c4, .int .i64 (C'.hits : Int), .int .i64 (C'.miss : Int)].toArray) rfl (by kernel_rfl) (by kernel_rfl) (by kernel_rfl) (fun _ _ _ h => h) (Or.inl ⟨by rfl, fun wx hx => by simp [go_sem]⟩) hS ?_
        simp only [Act.put, List.getElem_toArray, List.getElem_cons_succ, List.getElem_cons_zero, List.setIfInBounds_toArray, List.set_cons_zero, List.set_cons_succ]
        refine wpAnyH_take (i := 9) (v := .bool true) rfl (by kernel_rfl) (by kernel_rfl) (by kernel_rfl) (fun _ _ _ h => h) (Or.inl ⟨by rfl, fun wx hx => by simp [go_sem]⟩) hS ?_
        simp only [Act.put, List.getElem_toArray, List.getElem_cons_succ, List.getElem_cons_zero, List.setIfInBounds_toArray, List.set_cons_zero, List.set_cons_succ]
        refine wpAnyH_storeRow 10 27 (.tmp 8) (.tmp 42) g6 [.int .i64 (C.most : Int), .slice a1 n1 c1, .slice a2 n2 c2, .int .i64 (C.hits : Int), .int .i64 (C.miss : Int)] [.int .i64 (C'.most : Int), .slice a3 n3 c3, .slice a4 n4 c4, .int .i64 (C'.hits : Int), .int .i64 (C'.miss : Int)] hb6 rfl (info_rc _ _ _ _ _) (one_rc _ _ _ ⟨rfl, rfl, rfl⟩ _ _ _ _ _ _) (by kernel_rfl) rfl (by rfl) rfl rfl rfl ?_
        intro yE hs
        have hbE : Below w.heap.size w yE := hS.trans (hs.only.below HW.out.g6 hS.size)
        have HW2 : Hid (LwI w g g6 P' C' (.slice a3 n3 c3) (.slice a4 n4 c4) yE) := ⟨hBo.ca.only hb6 hs.only (by decide) (by decide), hBo.rf.only hb6 (by decide) (by decide) hs.only, hs.blk, hbE, hge, HW.out.g6⟩
        refine ⟨hbE, ?_⟩
        simp only [Act.put, List.getElem_toArray, List.getElem_cons_succ, List.getElem_cons_zero]
        refine wpAnyH_done (by kernel_rfl) ?_ _
        clear hcc hA hbE hs hge hb6 hbel hS hmu hgr hBo HW
        go_wp2
        go_roundw
        case rel => exact ⟨k + 1, hlt, rfl, P', _, _, by rw [← HC'.out]; exact HW2.out⟩
        case measure => simp [intOf]; omega
      · have hkk : k = n := by omega
        subst hkk
        obtain ⟨hok, hsm, hmo, hcn, _⟩ := HRD.out HN200.out k
        have hpl := asks_plain hok key
        obtain ⟨C, HC⟩ : ∃ X, Hid (X = runC C0 (l.take k)) := ⟨_, rfl⟩
        rw [← HC.out] at hI hok hsm hmo hpl hcn
        obtain ⟨C', HC'⟩ : ∃ X, Hid (X = getC C key) := ⟨_, rfl⟩
        rw [← HC'.out] at hpl
        have HSM' : Hid (smC C') := by
          show smC C'
          have h1 := cnt_get C key
          rw [HC'.out]
          exact sm_of (by omega) (by rw [h1.2]; omega)
        obtain ⟨KW, HKW⟩ : ∃ X, Hid (X = C.l.map (·.1)) := ⟨_, rfl⟩
        obtain ⟨KN, HKNE⟩ : ∃ X, Hid (X = C'.l.map (·.1)) := ⟨_, rfl⟩
        obtain ⟨m, HMM⟩ : ∃ X, Hid (X = KW.length) := ⟨_, rfl⟩
        rw [← HKW.out, ← HKNE.out, ← HMM.out] at hpl
        have HM : Hid (KW.length = m ∧ m < 1000000) := ⟨HMM.out.symm, by rw [HMM.out, HKW.out, List.length_map]; exact Nat.lt_of_le_of_lt hok.le hmo⟩
        have HKN : Hid (KN.length = m) := hpl.1
        have HFL : Hid (flK KW key = flK KN key) := hpl.2.1
        have HL3 : Hid ((hasK C key = true → KN[m - 1]? = some key ∧ 0 < m ∧ (flK KW key).length < m) ∧ (hasK C key = false → ¬ (flK KW key).length < m)) := hpl.2.2
        have HI : Hid (LwI w g g6 P C vk vv wr) := hI
        have HGTA : Hid (∀ y P, CaIs y g P C → Calls Try.prog 15 #[.pointer (some ⟨g, 0, none⟩), .string key] y fun r w' => ∃ P', r = .returned (.tuple #[.int .i64 (getV C key), .bool (hasK C key)]) ∧ CaIs w' g P' C' ∧ Mut P y w' ∧ Grew y P P') := fun y P h => by rw [HC'.out]; exact kaGet_any h hsm hkey
        have HSM : Hid (smC C) := hsm
        obtain ⟨gv, HGV⟩ : ∃ x, Hid (x = getV C key) := ⟨_, rfl⟩
        rw [← HGV.out] at HGTA
        clear hpl hI hok hsm hmo hcn HC HC' HGV
        cases eh : hasK C key with
        | true =>
          rw [eh] at HGTA HL3
          have HGT : Hid (∀ y P, CaIs y g P C → Calls Try.prog 15 #[.pointer (some ⟨g, 0, none⟩), .string key] y fun r w' => ∃ P', r = .returned (.tuple #[.int .i64 gv, .bool true]) ∧ CaIs w' g P' C' ∧ Mut P y w' ∧ Grew y P P') := HGTA.out
          clear HGTA eh
          have HLK : Hid (KN[m - 1]? = some key ∧ 0 < m ∧ (flK KW key).length < m) := HL3.out.1 rfl
          have w1 : IntKind.i64.wrap ((m : Int) - 1) = ((m - 1 : Nat) : Int) := by have := HLK.out.2.1; have := HM.out.2; rw [IntKind.wrap_i64]; omega
          have w2 : (0 : Int) ≤ ((m - 1 : Nat) : Int) := by omega
          have w3 : ((m - 1 : Nat) : Int) < (m : Int) := by have := HLK.out.2.1; omega
          have hqk : (key.toList == key.toList) = true := by simp
          obtain ⟨m1, HM1⟩ : ∃ x, Hid (x = m - 1) := ⟨_, rfl⟩
          rw [← HM1.out] at w1 w2 w3
          clear HL3
          have tk4 : Hid True := trivial
          have tk5 : Hid True := trivial
          have tk6 : Hid True := trivial
          go_wp2_with (first
              | (clear tk4; go_at_call 14; refine (kaKeys_any HI.out.ca HSM.out).mono ?_; rintro e6 y6 ⟨vq, rfl, ow6, ca6, bl6⟩
                 obtain ⟨aq, cq, hvq⟩ := ow6.form
                 rw [show (C.l.map (fun p => Value.string p.1)).length = m by rw [List.length_map, ← HM.out.1, HKW.out, List.length_map]] at hvq
                 subst hvq
                 have HQW : Hid (RdV 9 y6 (.slice aq m cq) (strV KW)) := by
                   show RdV _ _ _ _
                   rw [HKW.out, ← ky_str]
                   exact ow6.rd
                 have HCA : Hid (CaIs y6 g P C) := ca6
                 have HBL : Hid (Below w.heap.size w y6) := HI.out.bel.trans (bl6.mono HI.out.bel.size)
                 have HGE : Hid (∀ k, P k → w.heap.size ≤ k) := HI.out.ge
                 clear ow6 ca6 bl6 HI)
              | (clear tk5; go_at_call 15; refine (HGT.out y6 P HCA.out).mono ?_; rintro e7 y7 ⟨P7, rfl, ca7, mu7, gr7⟩
                 replace HQW : Hid (RdV 9 y7 (.slice aq m cq) (strV KW)) := HQW.out.mut HCA.out mu7 (by decide) (by decide)
                 replace HBL : Hid (Below w.heap.size w y7) := HBL.out.trans (mu7.below HBL.out.size HGE.out)
                 replace HCA : Hid (CaIs y7 g P7 C') := ca7
                 clear ca7 mu7 gr7 HGE)
              | (clear tk6; go_at_call 14; refine (kaKeys_any HCA.out HSM'.out).mono ?_; rintro e8 y8 ⟨vr, rfl, ow8, ca8, bl8⟩
                 obtain ⟨ar, cr, hvr⟩ := ow8.form
                 rw [show (C'.l.map (fun p => Value.string p.1)).length = m by rw [List.length_map, ← HKN.out, HKNE.out, List.length_map]] at hvr
                 subst hvr
                 have HQN : Hid (RdV 9 y8 (.slice ar m cr) (strV KN)) := by
                   show RdV _ _ _ _
                   rw [HKNE.out, ← ky_str]
                   exact ow8.rd
                 replace HQW : Hid (RdV 9 y8 (.slice aq m cq) (strV KW)) := HQW.out.below bl8
                 replace HBL : Hid (Below w.heap.size w y8) := HBL.out.trans (bl8.mono HBL.out.size)
                 obtain ⟨bz, oz, ez, kz⟩ := HQN.out.at (strV_at HLK.out.1)
                 subst ez
                 rw [← HM1.out] at kz
                 clear ow8 ca8 bl8 HCA))
          go_loopw [14, 15, 16] (fun a b i W => ∃ j : Nat, j ≤ m ∧ i = .int .i64 (j : Int) ∧ AkI y8 (strV (flK (KW.take j) key)) (strV (flK (KN.take j) key)) a b W) (fun _ _ i _ => m - (intOf i).toNat)
          case atStart => exact ⟨0, Nat.zero_le _, rfl, ⟨OwnR.nil _ _ _, OwnR.nil _ _ _, fun k hk => (by cases hk), Below.refl _ _⟩⟩
          case round =>
            obtain ⟨j, hjm, rfl, hA⟩ := hrel
            rename World => W5
            obtain ⟨a5, c5, h5⟩ := hA.oa.form
            obtain ⟨a6, c6, h6⟩ := hA.ob.form
            rw [strV_len] at h5 h6
            obtain ⟨n5, HN5⟩ : ∃ n, Hid (n = (flK (KW.take j) key).length) := ⟨_, rfl⟩
            obtain ⟨n6, HN6⟩ : ∃ n, Hid (n = (flK (KN.take j) key).length) := ⟨_, rfl⟩
            rw [← HN5.out] at h5
            rw [← HN6.out] at h6
            subst h5 h6
            have HA : Hid (AkI y8 (strV (flK (KW.take j) key)) (strV (flK (KN.take j) key)) (.slice a5 n5 c5) (.slice a6 n6 c6) W5) := hA
            clear hA
            by_cases hj : j < m
            · have f6 : IntKind.i64.wrap ((j : Int) + 1) = (j : Int) + 1 := by have := HM.out.2; rw [IntKind.wrap_i64]; omega
              obtain ⟨p, hp⟩ : ∃ p, KW[j]? = some p := ⟨_, List.getElem?_eq_getElem (by rw [HM.out.1]; exact hj)⟩
              obtain ⟨r, hr⟩ : ∃ p, KN[j]? = some p := ⟨_, List.getElem?_eq_getElem (by rw [HKN.out]; exact hj)⟩
              obtain ⟨b1, o1, e1, k1⟩ := (HQW.out.below HA.out.bel).at (strV_at hp)
              obtain ⟨b2, o2, e2, _⟩ := (HQN.out.below HA.out.bel).at (strV_at hr)
              subst e1
              first | subst e2 | (simp only [Option.some.injEq, Addr.mk.injEq, and_true] at e2; obtain ⟨e21, e22⟩ := e2; have e23 := e21.symm; have e24 := e22.symm; subst e23 e24)
              have HRN : Hid (∀ W, Below y8.heap.size y8 W → W.cell? ⟨b2, o2 + j, none⟩ = some (.string r)) := fun W hb => by
                obtain ⟨b', o', e', h'⟩ := (HQN.out.below hb).at (strV_at hr)
                simp only [Option.some.injEq, Addr.mk.injEq] at e'
                obtain ⟨rfl, rfl, _⟩ := e'
                exact h'
              have j0 : (0 : Int) ≤ (j : Int) := by omega
              have j1 : (j : Int) < (m : Int) := by omega
              have HTP : Hid (flK (KW.take (j + 1)) key = flK (KW.take j) key ++ (if p = key then [] else [p])) := by show _ = _; rw [List.take_add_one, hp]; exact fl_snoc _ _ _
              have HTR : Hid (flK (KN.take (j + 1)) key = flK (KN.take j) key ++ (if r = key then [] else [r])) := by show _ = _; rw [List.take_add_one, hr]; exact fl_snoc _ _ _
              have HLA : Hid ((strV (flK (KW.take j) key)).length < 1000000 ∧ (strV (flK (KN.take j) key)).length < 1000000) := by
                rw [strV_len, strV_len]
                have h1 : (flK (KW.take j) key).length ≤ (KW.take j).length := List.length_filter_le _ _
                have h2 : (flK (KN.take j) key).length ≤ (KN.take j).length := List.length_filter_le _ _
                rw [List.length_take] at h1 h2
                have := HM.out.2
                exact ⟨by omega, by omega⟩
              clear hp hr
              by_cases ep : p = key
              · by_cases er : r = key
                · have hq1 : (p.toList == key.toList) = true := by rw [str_eq]; exact decide_eq_true ep
                  have hq2 : (r.toList == key.toList) = true := by rw [str_eq]; exact decide_eq_true er
                  have HTP2 : Hid (strV (flK (KW.take (j + 1)) key) = strV (flK (KW.take j) key)) := by show _ = _; rw [HTP.out, if_pos ep]; unfold strV; rw [List.map_append]; first | rfl | exact List.append_nil _
                  have HTR2 : Hid (strV (flK (KN.take (j + 1)) key) = strV (flK (KN.take j) key)) := by show _ = _; rw [HTR.out, if_pos er]; unfold strV; rw [List.map_append]; first | rfl | exact List.append_nil _
                  have k2 := HRN.out W5 HA.out.bel
                  clear ep er
                  go_wp2
                  go_roundw
                  case rel => exact ⟨j + 1, hj, rfl, by rw [HTP2.out, HTR2.out]; exact HA.out⟩
                  case measure => simp [intOf]; omega
                · have hq1 : (p.toList == key.toList) = true := by rw [str_eq]; exact decide_eq_true ep
                  have hq2 : (r.toList == key.toList) = false := by rw [str_eq]; exact decide_eq_false er
                  have HTP2 : Hid (strV (flK (KW.take (j + 1)) key) = strV (flK (KW.take j) key)) := by show _ = _; rw [HTP.out, if_pos ep]; unfold strV; rw [List.map_append]; first | rfl | exact List.append_nil _
                  have HTR2 : Hid (strV (flK (KN.take (j + 1)) key) = strV (flK (KN.take j) key) ++ [.string r]) := by show _ = _; rw [HTR.out, if_neg er]; unfold strV; rw [List.map_append]; first | rfl | exact List.append_nil _
                  have k2 := HRN.out W5 HA.out.bel
                  clear ep er
                  have tkB : Hid True := trivial
                  go_wp2_with (first
                      | (clear tkB; at_builtin; refine wpList_appK2 (.tmp 97) (.tmp 102) y8.heap.size _ r _ W5.heap.size (OwnR.app1 HA.out.ob _) (str1_blk W5 r) HLA.out.2 (Nat.le_trans HA.out.bel.size (below_alloc W5 _).size) rfl rfl rfl rfl ?_
                         intro v8 W8 ow8 gr8 oz8
                         replace HA : Hid (AkI y8 (strV (flK (KW.take j) key)) (strV (flK (KN.take j) key) ++ [.string r]) (.slice a5 n5 c5) v8 W8) := HA.out.appB _ ow8 gr8 oz8
                         clear ow8 gr8 oz8))
                  go_roundw
                  case rel => exact ⟨j + 1, hj, rfl, by rw [HTP2.out, HTR2.out]; exact HA.out⟩
                  case measure => simp [intOf]; omega
              · by_cases er : r = key
                · have hq1 : (p.toList == key.toList) = false := by rw [str_eq]; exact decide_eq_false ep
                  have hq2 : (r.toList == key.toList) = true := by rw [str_eq]; exact decide_eq_true er
                  have HTP2 : Hid (strV (flK (KW.take (j + 1)) key) = strV (flK (KW.take j) key) ++ [.string p]) := by show _ = _; rw [HTP.out, if_neg ep]; unfold strV; rw [List.map_append]; first | rfl | exact List.append_nil _
                  have HTR2 : Hid (strV (flK (KN.take (j + 1)) key) = strV (flK (KN.take j) key)) := by show _ = _; rw [HTR.out, if_pos er]; unfold strV; rw [List.map_append]; first | rfl | exact List.append_nil _
                  clear ep er
                  have tkA : Hid True := trivial
                  go_wp2_with (first
                      | (clear tkA; at_builtin; refine wpList_appK2 (.tmp 84) (.tmp 89) y8.heap.size _ p _ W5.heap.size (OwnR.app1 HA.out.oa _) (str1_blk W5 p) HLA.out.1 (Nat.le_trans HA.out.bel.size (below_alloc W5 _).size) rfl rfl rfl rfl ?_
                         intro v7 W7 ow7 gr7 oz7
                         replace HA : Hid (AkI y8 (strV (flK (KW.take j) key) ++ [.string p]) (strV (flK (KN.take j) key)) v7 (.slice a6 n6 c6) W7) := HA.out.appA _ ow7 gr7 oz7
                         have k2 := HRN.out W7 HA.out.bel
                         clear ow7 gr7 oz7))
                  go_roundw
                  case rel => exact ⟨j + 1, hj, rfl, by rw [HTP2.out, HTR2.out]; exact HA.out⟩
                  case measure => simp [intOf]; omega
                · have hq1 : (p.toList == key.toList) = false := by rw [str_eq]; exact decide_eq_false ep
                  have hq2 : (r.toList == key.toList) = false := by rw [str_eq]; exact decide_eq_false er
                  have HTP2 : Hid (strV (flK (KW.take (j + 1)) key) = strV (flK (KW.take j) key) ++ [.string p]) := by show _ = _; rw [HTP.out, if_neg ep]; unfold strV; rw [List.map_append]; first | rfl | exact List.append_nil _
                  have HTR2 : Hid (strV (flK (KN.take (j + 1)) key) = strV (flK (KN.take j) key) ++ [.string r]) := by show _ = _; rw [HTR.out, if_neg er]; unfold strV; rw [List.map_append]; first | rfl | exact List.append_nil _
                  clear ep er
                  have tkA : Hid True := trivial
                  have tkB : Hid True := trivial
                  go_wp2_with (first
                      | (clear tkA; at_builtin; refine wpList_appK2 (.tmp 84) (.tmp 89) y8.heap.size _ p _ W5.heap.size (OwnR.app1 HA.out.oa _) (str1_blk W5 p) HLA.out.1 (Nat.le_trans HA.out.bel.size (below_alloc W5 _).size) rfl rfl rfl rfl ?_
                         intro v7 W7 ow7 gr7 oz7
                         replace HA : Hid (AkI y8 (strV (flK (KW.take j) key) ++ [.string p]) (strV (flK (KN.take j) key)) v7 (.slice a6 n6 c6) W7) := HA.out.appA _ ow7 gr7 oz7
                         have k2 := HRN.out W7 HA.out.bel
                         clear ow7 gr7 oz7)
                      | (clear tkB; at_builtin; refine wpList_appK2 (.tmp 97) (.tmp 102) y8.heap.size _ r _ W7.heap.size (OwnR.app1 HA.out.ob _) (str1_blk W7 r) HLA.out.2 (Nat.le_trans HA.out.bel.size (below_alloc W7 _).size) rfl rfl rfl rfl ?_
                         intro v8 W8 ow8 gr8 oz8
                         replace HA : Hid (AkI y8 (strV (flK (KW.take j) key) ++ [.string p]) (strV (flK (KN.take j) key) ++ [.string r]) v7 v8 W8) := HA.out.appB _ ow8 gr8 oz8
                         clear ow8 gr8 oz8))
                  go_roundw
                  case rel => exact ⟨j + 1, hj, rfl, by rw [HTP2.out, HTR2.out]; exact HA.out⟩
                  case measure => simp [intOf]; omega
            · have hjj : j = m := by omega
              subst hjj
              have HE : Hid (flK (KW.take j) key = flK KW key ∧ flK (KN.take j) key = flK KN key) := by rw [List.take_of_length_le (by rw [HM.out.1]; exact Nat.le_refl _), List.take_of_length_le (by rw [HKN.out]; exact Nat.le_refl _)]; exact ⟨rfl, rfl⟩
              have HSQ : Hid (Calls Try.prog 13 #[.slice a5 n5 c5, .slice a6 n6 c6] W5 fun e w' => e = .returned (.bool true) ∧ Below W5.heap.size W5 w') := by
                have h1 := same16_any HA.out.oa.rd HA.out.ob.rd (by rw [← strV_len]; exact Nat.lt_of_le_of_lt (by rw [strV_len]; exact Nat.le_trans (List.length_filter_le _ _) (by rw [List.length_take]; exact Nat.min_le_left _ _)) HM.out.2)
                rw [decide_eq_true (by rw [HE.out.1, HE.out.2]; exact HFL.out)] at h1
                exact h1
              have HB5 : Hid (Below w.heap.size w W5) := HBL.out.trans (HA.out.bel.mono HBL.out.size)
              have HN7 : Hid (n5 = (flK KW key).length) := by show n5 = _; rw [HN5.out, HE.out.1]
              have zf : n5 < j := by have h1 := HLK.out.2.2; have h2 := HN7.out; omega
              have tk8 : Hid True := trivial
              have tk9 : Hid True := trivial
              go_wp2_with (first
                | (clear tk8; go_at_call 13; refine (HSQ.out).mono ?_; rintro e9 y9 ⟨rfl, bl9⟩
                   have HB9 : Hid (Below w.heap.size w y9) := HB5.out.trans (bl9.mono HB5.out.size)
                   clear bl9)
                | (clear tk9; go_at_call 10; refine (works16_any _).mono ?_; rintro ew yw ⟨rfl, blw⟩
                   have HBW : Hid (Below w.heap.size w yw) := HB9.out.trans (blw.mono HB9.out.size)
                   clear blw))
              go_ret
              exact ⟨rfl, HBW.out⟩
        | false =>
          rw [eh] at HGTA HL3
          have HGT : Hid (∀ y P, CaIs y g P C → Calls Try.prog 15 #[.pointer (some ⟨g, 0, none⟩), .string key] y fun r w' => ∃ P', r = .returned (.tuple #[.int .i64 gv, .bool false]) ∧ CaIs w' g P' C' ∧ Mut P y w' ∧ Grew y P P') := HGTA.out
          clear HGTA eh
          have HLN : Hid (¬ (flK KW key).length < m) := HL3.out.2 rfl
          clear HL3
          have tk4 : Hid True := trivial
          have tk5 : Hid True := trivial
          have tk6 : Hid True := trivial
          go_wp2_with (first
              | (clear tk4; go_at_call 14; refine (kaKeys_any HI.out.ca HSM.out).mono ?_; rintro e6 y6 ⟨vq, rfl, ow6, ca6, bl6⟩
                 obtain ⟨aq, cq, hvq⟩ := ow6.form
                 rw [show (C.l.map (fun p => Value.string p.1)).length = m by rw [List.length_map, ← HM.out.1, HKW.out, List.length_map]] at hvq
                 subst hvq
                 have HQW : Hid (RdV 9 y6 (.slice aq m cq) (strV KW)) := by
                   show RdV _ _ _ _
                   rw [HKW.out, ← ky_str]
                   exact ow6.rd
                 have HCA : Hid (CaIs y6 g P C) := ca6
                 have HBL : Hid (Below w.heap.size w y6) := HI.out.bel.trans (bl6.mono HI.out.bel.size)
                 have HGE : Hid (∀ k, P k → w.heap.size ≤ k) := HI.out.ge
                 clear ow6 ca6 bl6 HI)
              | (clear tk5; go_at_call 15; refine (HGT.out y6 P HCA.out).mono ?_; rintro e7 y7 ⟨P7, rfl, ca7, mu7, gr7⟩
                 replace HQW : Hid (RdV 9 y7 (.slice aq m cq) (strV KW)) := HQW.out.mut HCA.out mu7 (by decide) (by decide)
                 replace HBL : Hid (Below w.heap.size w y7) := HBL.out.trans (mu7.below HBL.out.size HGE.out)
                 replace HCA : Hid (CaIs y7 g P7 C') := ca7
                 clear ca7 mu7 gr7 HGE)
              | (clear tk6; go_at_call 14; refine (kaKeys_any HCA.out HSM'.out).mono ?_; rintro e8 y8 ⟨vr, rfl, ow8, ca8, bl8⟩
                 obtain ⟨ar, cr, hvr⟩ := ow8.form
                 rw [show (C'.l.map (fun p => Value.string p.1)).length = m by rw [List.length_map, ← HKN.out, HKNE.out, List.length_map]] at hvr
                 subst hvr
                 have HQN : Hid (RdV 9 y8 (.slice ar m cr) (strV KN)) := by
                   show RdV _ _ _ _
                   rw [HKNE.out, ← ky_str]
                   exact ow8.rd
                 replace HQW : Hid (RdV 9 y8 (.slice aq m cq) (strV KW)) := HQW.out.below bl8
                 replace HBL : Hid (Below w.heap.size w y8) := HBL.out.trans (bl8.mono HBL.out.size)
                 clear ow8 ca8 bl8 HCA))
          go_loopw [14, 15, 16] (fun a b i W => ∃ j : Nat, j ≤ m ∧ i = .int .i64 (j : Int) ∧ AkI y8 (strV (flK (KW.take j) key)) (strV (flK (KN.take j) key)) a b W) (fun _ _ i _ => m - (intOf i).toNat)
          case atStart => exact ⟨0, Nat.zero_le _, rfl, ⟨OwnR.nil _ _ _, OwnR.nil _ _ _, fun k hk => (by cases hk), Below.refl _ _⟩⟩
          case round =>
            obtain ⟨j, hjm, rfl, hA⟩ := hrel
            rename World => W5
            obtain ⟨a5, c5, h5⟩ := hA.oa.form
            obtain ⟨a6, c6, h6⟩ := hA.ob.form
            rw [strV_len] at h5 h6
            obtain ⟨n5, HN5⟩ : ∃ n, Hid (n = (flK (KW.take j) key).length) := ⟨_, rfl⟩
            obtain ⟨n6, HN6⟩ : ∃ n, Hid (n = (flK (KN.take j) key).length) := ⟨_, rfl⟩
            rw [← HN5.out] at h5
            rw [← HN6.out] at h6
            subst h5 h6
            have HA : Hid (AkI y8 (strV (flK (KW.take j) key)) (strV (flK (KN.take j) key)) (.slice a5 n5 c5) (.slice a6 n6 c6) W5) := hA
            clear hA
            by_cases hj : j < m
            · have f6 : IntKind.i64.wrap ((j : Int) + 1) = (j : Int) + 1 := by have := HM.out.2; rw [IntKind.wrap_i64]; omega
              obtain ⟨p, hp⟩ : ∃ p, KW[j]? = some p := ⟨_, List.getElem?_eq_getElem (by rw [HM.out.1]; exact hj)⟩
              obtain ⟨r, hr⟩ : ∃ p, KN[j]? = some p := ⟨_, List.getElem?_eq_getElem (by rw [HKN.out]; exact hj)⟩
              obtain ⟨b1, o1, e1, k1⟩ := (HQW.out.below HA.out.bel).at (strV_at hp)
              obtain ⟨b2, o2, e2, _⟩ := (HQN.out.below HA.out.bel).at (strV_at hr)
              subst e1
              first | subst e2 | (simp only [Option.some.injEq, Addr.mk.injEq, and_true] at e2; obtain ⟨e21, e22⟩ := e2; have e23 := e21.symm; have e24 := e22.symm; subst e23 e24)
              have HRN : Hid (∀ W, Below y8.heap.size y8 W → W.cell? ⟨b2, o2 + j, none⟩ = some (.string r)) := fun W hb => by
                obtain ⟨b', o', e', h'⟩ := (HQN.out.below hb).at (strV_at hr)
                simp only [Option.some.injEq, Addr.mk.injEq] at e'
                obtain ⟨rfl, rfl, _⟩ := e'
                exact h'
              have j0 : (0 : Int) ≤ (j : Int) := by omega
              have j1 : (j : Int) < (m : Int) := by omega
              have HTP : Hid (flK (KW.take (j + 1)) key = flK (KW.take j) key ++ (if p = key then [] else [p])) := by show _ = _; rw [List.take_add_one, hp]; exact fl_snoc _ _ _
              have HTR : Hid (flK (KN.take (j + 1)) key = flK (KN.take j) key ++ (if r = key then [] else [r])) := by show _ = _; rw [List.take_add_one, hr]; exact fl_snoc _ _ _
              have HLA : Hid ((strV (flK (KW.take j) key)).length < 1000000 ∧ (strV (flK (KN.take j) key)).length < 1000000) := by
                rw [strV_len, strV_len]
                have h1 : (flK (KW.take j) key).length ≤ (KW.take j).length := List.length_filter_le _ _
                have h2 : (flK (KN.take j) key).length ≤ (KN.take j).length := List.length_filter_le _ _
                rw [List.length_take] at h1 h2
                have := HM.out.2
                exact ⟨by omega, by omega⟩
              clear hp hr
              by_cases ep : p = key
              · by_cases er : r = key
                · have hq1 : (p.toList == key.toList) = true := by rw [str_eq]; exact decide_eq_true ep
                  have hq2 : (r.toList == key.toList) = true := by rw [str_eq]; exact decide_eq_true er
                  have HTP2 : Hid (strV (flK (KW.take (j + 1)) key) = strV (flK (KW.take j) key)) := by show _ = _; rw [HTP.out, if_pos ep]; unfold strV; rw [List.map_append]; first | rfl | exact List.append_nil _
                  have HTR2 : Hid (strV (flK (KN.take (j + 1)) key) = strV (flK (KN.take j) key)) := by show _ = _; rw [HTR.out, if_pos er]; unfold strV; rw [List.map_append]; first | rfl | exact List.append_nil _
                  have k2 := HRN.out W5 HA.out.bel
                  clear ep er
                  go_wp2
                  go_roundw
                  case rel => exact ⟨j + 1, hj, rfl, by rw [HTP2.out, HTR2.out]; exact HA.out⟩
                  case measure => simp [intOf]; omega
                · have hq1 : (p.toList == key.toList) = true := by rw [str_eq]; exact decide_eq_true ep
                  have hq2 : (r.toList == key.toList) = false := by rw [str_eq]; exact decide_eq_false er
                  have HTP2 : Hid (strV (flK (KW.take (j + 1)) key) = strV (flK (KW.take j) key)) := by show _ = _; rw [HTP.out, if_pos ep]; unfold strV; rw [List.map_append]; first | rfl | exact List.append_nil _
                  have HTR2 : Hid (strV (flK (KN.take (j + 1)) key) = strV (flK (KN.take j) key) ++ [.string r]) := by show _ = _; rw [HTR.out, if_neg er]; unfold strV; rw [List.map_append]; first | rfl | exact List.append_nil _
                  have k2 := HRN.out W5 HA.out.bel
                  clear ep er
                  have tkB : Hid True := trivial
                  go_wp2_with (first
                      | (clear tkB; at_builtin; refine wpList_appK2 (.tmp 97) (.tmp 102) y8.heap.size _ r _ W5.heap.size (OwnR.app1 HA.out.ob _) (str1_blk W5 r) HLA.out.2 (Nat.le_trans HA.out.bel.size (below_alloc W5 _).size) rfl rfl rfl rfl ?_
                         intro v8 W8 ow8 gr8 oz8
                         replace HA : Hid (AkI y8 (strV (flK (KW.take j) key)) (strV (flK (KN.take j) key) ++ [.string r]) (.slice a5 n5 c5) v8 W8) := HA.out.appB _ ow8 gr8 oz8
                         clear ow8 gr8 oz8))
                  go_roundw
                  case rel => exact ⟨j + 1, hj, rfl, by rw [HTP2.out, HTR2.out]; exact HA.out⟩
                  case measure => simp [intOf]; omega
              · by_cases er : r = key
                · have hq1 : (p.toList == key.toList) = false := by rw [str_eq]; exact decide_eq_false ep
                  have hq2 : (r.toList == key.toList) = true := by rw [str_eq]; exact decide_eq_true er
                  have HTP2 : Hid (strV (flK (KW.take (j + 1)) key) = strV (flK (KW.take j) key) ++ [.string p]) := by show _ = _; rw [HTP.out, if_neg ep]; unfold strV; rw [List.map_append]; first | rfl | exact List.append_nil _
                  have HTR2 : Hid (strV (flK (KN.take (j + 1)) key) = strV (flK (KN.take j) key)) := by show _ = _; rw [HTR.out, if_pos er]; unfold strV; rw [List.map_append]; first | rfl | exact List.append_nil _
                  clear ep er
                  have tkA : Hid True := trivial
                  go_wp2_with (first
                      | (clear tkA; at_builtin; refine wpList_appK2 (.tmp 84) (.tmp 89) y8.heap.size _ p _ W5.heap.size (OwnR.app1 HA.out.oa _) (str1_blk W5 p) HLA.out.1 (Nat.le_trans HA.out.bel.size (below_alloc W5 _).size) rfl rfl rfl rfl ?_
                         intro v7 W7 ow7 gr7 oz7
                         replace HA : Hid (AkI y8 (strV (flK (KW.take j) key) ++ [.string p]) (strV (flK (KN.take j) key)) v7 (.slice a6 n6 c6) W7) := HA.out.appA _ ow7 gr7 oz7
                         have k2 := HRN.out W7 HA.out.bel
                         clear ow7 gr7 oz7))
                  go_roundw
                  case rel => exact ⟨j + 1, hj, rfl, by rw [HTP2.out, HTR2.out]; exact HA.out⟩
                  case measure => simp [intOf]; omega
                · have hq1 : (p.toList == key.toList) = false := by rw [str_eq]; exact decide_eq_false ep
                  have hq2 : (r.toList == key.toList) = false := by rw [str_eq]; exact decide_eq_false er
                  have HTP2 : Hid (strV (flK (KW.take (j + 1)) key) = strV (flK (KW.take j) key) ++ [.string p]) := by show _ = _; rw [HTP.out, if_neg ep]; unfold strV; rw [List.map_append]; first | rfl | exact List.append_nil _
                  have HTR2 : Hid (strV (flK (KN.take (j + 1)) key) = strV (flK (KN.take j) key) ++ [.string r]) := by show _ = _; rw [HTR.out, if_neg er]; unfold strV; rw [List.map_append]; first | rfl | exact List.append_nil _
                  clear ep er
                  have tkA : Hid True := trivial
                  have tkB : Hid True := trivial
                  go_wp2_with (first
                      | (clear tkA; at_builtin; refine wpList_appK2 (.tmp 84) (.tmp 89) y8.heap.size _ p _ W5.heap.size (OwnR.app1 HA.out.oa _) (str1_blk W5 p) HLA.out.1 (Nat.le_trans HA.out.bel.size (below_alloc W5 _).size) rfl rfl rfl rfl ?_
                         intro v7 W7 ow7 gr7 oz7
                         replace HA : Hid (AkI y8 (strV (flK (KW.take j) key) ++ [.string p]) (strV (flK (KN.take j) key)) v7 (.slice a6 n6 c6) W7) := HA.out.appA _ ow7 gr7 oz7
                         have k2 := HRN.out W7 HA.out.bel
                         clear ow7 gr7 oz7)
                      | (clear tkB; at_builtin; refine wpList_appK2 (.tmp 97) (.tmp 102) y8.heap.size _ r _ W7.heap.size (OwnR.app1 HA.out.ob _) (str1_blk W7 r) HLA.out.2 (Nat.le_trans HA.out.bel.size (below_alloc W7 _).size) rfl rfl rfl rfl ?_
                         intro v8 W8 ow8 gr8 oz8
                         replace HA : Hid (AkI y8 (strV (flK (KW.take j) key) ++ [.string p]) (strV (flK (KN.take j) key) ++ [.string r]) v7 v8 W8) := HA.out.appB _ ow8 gr8 oz8
                         clear ow8 gr8 oz8))
                  go_roundw
                  case rel => exact ⟨j + 1, hj, rfl, by rw [HTP2.out, HTR2.out]; exact HA.out⟩
                  case measure => simp [intOf]; omega
            · have hjj : j = m := by omega
              subst hjj
              have HE : Hid (flK (KW.take j) key = flK KW key ∧ flK (KN.take j) key = flK KN key) := by rw [List.take_of_length_le (by rw [HM.out.1]; exact Nat.le_refl _), List.take_of_length_le (by rw [HKN.out]; exact Nat.le_refl _)]; exact ⟨rfl, rfl⟩
              have HSQ : Hid (Calls Try.prog 13 #[.slice a5 n5 c5, .slice a6 n6 c6] W5 fun e w' => e = .returned (.bool true) ∧ Below W5.heap.size W5 w') := by
                have h1 := same16_any HA.out.oa.rd HA.out.ob.rd (by rw [← strV_len]; exact Nat.lt_of_le_of_lt (by rw [strV_len]; exact Nat.le_trans (List.length_filter_le _ _) (by rw [List.length_take]; exact Nat.min_le_left _ _)) HM.out.2)
                rw [decide_eq_true (by rw [HE.out.1, HE.out.2]; exact HFL.out)] at h1
                exact h1
              have HB5 : Hid (Below w.heap.size w W5) := HBL.out.trans (HA.out.bel.mono HBL.out.size)
              have HN7 : Hid (n5 = (flK KW key).length) := by show n5 = _; rw [HN5.out, HE.out.1]
              have zf : ¬ (n5 < j) := by have h1 := HLN.out; have h2 := HN7.out; omega
              have tk8 : Hid True := trivial
              have tk9 : Hid True := trivial
              go_wp2_with (first
                | (clear tk8; go_at_call 13; refine (HSQ.out).mono ?_; rintro e9 y9 ⟨rfl, bl9⟩
                   have HB9 : Hid (Below w.heap.size w y9) := HB5.out.trans (bl9.mono HB5.out.size)
                   clear bl9)
                | (clear tk9; go_at_call 10; refine (works16_any _).mono ?_; rintro ew yw ⟨rfl, blw⟩
                   have HBW : Hid (Below w.heap.size w yw) := HB9.out.trans (blw.mono HB9.out.size)
                   clear blw))
              go_ret
              exact ⟨rfl, HBW.out⟩
  · have q1 : decide ((n : Int) ≤ 200) = false := decide_eq_false (by omega)
    clear hn
    go_enter Try.func7, Try.ntmps7
    have tk0 : Hid True := trivial
    have tk1 : Hid True := trivial
    have tk2 : Hid True := trivial
    have tk3 : Hid True := trivial
    have tk4 : Hid True := trivial
    go_wp2_with (first
      | (clear tk0; go_at_call 8; refine (HST.out).mono ?_; rintro e0 y0 ⟨g, P, rfl, ca, bl, hP⟩
         have HCA : Hid (CaIs y0 g P C0) := ca
         have HB : Hid (Below w.heap.size w y0 ∧ ∀ k, P k → w.heap.size ≤ k) := ⟨bl, hP⟩
         clear ca bl hP)
      | (clear tk1; with_reducible refine wpSeq_allocRc ?_ ?_ ?_
         · rfl
         · rfl
         intro g6 y1 nn
         have H6 : Hid (Blk y1 g6 zRc 27) := nn.blk
         have HG6 : Hid (w.heap.size ≤ g6) := Nat.le_trans HB.out.1.size nn.ge
         replace HCA : Hid (CaIs y1 g P C0) := HCA.out.below nn.below
         replace HB : Hid (Below w.heap.size w y1 ∧ ∀ k, P k → w.heap.size ≤ k) := ⟨HB.out.1.trans (nn.below.mono HB.out.1.size), HB.out.2⟩
         clear nn)
      | (clear tk2; with_reducible refine wpSeq_storeRow 27 (.tmp 8) (.tmp 21) g6 zRc [.int .i64 (C0.most : Int), .slice none 0 0, .slice none 0 0, .int .i64 (C0.hits : Int), .int .i64 (C0.miss : Int)] H6.out rfl (info_rc _ _ _ _ _) ?_ ?_ ?_ ?_ ?_ ?_
         · exact one_rc _ _ _ ⟨rfl, rfl, rfl⟩ _ _ _ _ _ _
         · rfl
         · rfl
         · rfl
         · rfl
         intro y2 sr
         have HI : Hid (LwI w g g6 P C0 (.slice none 0 0) (.slice none 0 0) y2) := ⟨HCA.out.only H6.out sr.only (by decide) (by decide), by rw [HC0.out]; exact RfV.nilC _ _, sr.blk, HB.out.1.trans (sr.only.below HG6.out HB.out.1.size), HB.out.2, HG6.out⟩
         clear sr HCA HB H6 HG6)
      | (clear tk3; go_at_call 9; refine (few16_any _ _ _ _).mono ?_; rintro ef yf ⟨rfl, rfl⟩
         rw [q1])
      | (clear tk4; go_at_call 10; refine (works16_any _).mono ?_; rintro ew yw ⟨rfl, blw⟩
         have HBW : Hid (Below w.heap.size w yw) := HI.out.bel.trans (blw.mono HI.out.bel.size)
         clear blw))
    go_ret
    exact ⟨rfl, HBW.out⟩
end Go.Proofs.Ytgmemibhddnjjaa

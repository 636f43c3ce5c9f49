/- CacheDoes (layer 16). -/
import Derived.Test.YtgmemibhddnjjaaKaSt
import Derived.Deep.Cut
import Derived.Deep.CutRange
namespace Go.Proofs.Ytgmemibhddnjjaa
open Go.RowKit
set_option maxRecDepth 100000
/-- a slice of acts -/
def RdO (w : World) (v : Value) (l : List OpK) : Prop := ∃ ad cap, v = .slice ad l.length cap ∧ l.length ≤ cap ∧ (0 < l.length → ∃ b off, ad = some ⟨b, off, none⟩ ∧ ∀ (j : Nat) (o : OpK), l[j]? = some o → w.rangeAt b (off + j * 3) (opC o))
theorem RdO.form {w : World} {v : Value} {l : List OpK} (h : RdO w v l) : ∃ ad c, v = .slice ad l.length c := by
  obtain ⟨ad, c, hv, _⟩ := h
  exact ⟨ad, c, hv⟩
theorem range_bel {w w' : World} {B b off : Nat} {cs : List Value} (h : w.rangeAt b off cs) (hb : Below B w w') (hlt : b < B) : w'.rangeAt b off cs := fun j u hj => by
  rw [hb.cell (p := ⟨b, off + j, none⟩) hlt]
  exact h j u hj
theorem RdO.at {w : World} {ad : Option Addr} {n c : Nat} {l : List OpK} (h : RdO w (.slice ad n c) l) {j : Nat} {o : OpK} (hj : l[j]? = some o) : ∃ b off, ad = some ⟨b, off, none⟩ ∧ ∀ W, Below w.heap.size w W → W.rangeAt b (off + j * 3) (opC o) := by
  obtain ⟨ad', cap, h1, h2, h3⟩ := h
  simp only [Value.slice.injEq] at h1
  obtain ⟨rfl, _, _⟩ := h1
  have hl := (List.getElem?_eq_some_iff.1 hj).1
  obtain ⟨b, off, h4, h5⟩ := h3 (by omega)
  have h6 := h5 j o hj
  exact ⟨b, off, h4, fun W hb => range_bel h6 hb (block_lt_of_cell (h6 0 _ rfl))⟩
theorem info_op (a b c : Value) : (Try.prog.info? 35).map (·.size) = some [a, b, c].length := by kernel_rfl
theorem idxO (b off n c k : Nat) (hk : k < n) (f : Operand → Value) (o : Oper) (x y : Operand) (ho : o.op = .indexAddr 22 x y) (hx : f x = .slice (some ⟨b, off, none⟩) n c) (hy : f y = .int .i64 (k : Int)) (w : World) :
    (execOp f o).run Try.prog w = .ok (.value (.pointer (some ⟨b, off + k * 3, none⟩))) w := by
  have k0 : (0 : Int) ≤ (k : Int) := by omega
  have k1 : (k : Int) < (n : Int) := by omega
  have hs : (sizeOf 35).run Try.prog w = .ok 3 w := by kernel_rfl
  unfold execOp
  rw [ho]
  simp [go_sem, hx, hy, k0, k1, Addr.add_mid, hs]
/-- while acts are done on both caches -/
structure LwI (w : World) (g g6 : Nat) (P : Nat → Prop) (C : KaT) (vk vv : Value) (W : World) : Prop where
  ca : CaIs W g P C
  rf : RfV W C vk vv
  b6 : Blk W g6 (rcC C vk vv) 27
  bel : Below w.heap.size w W
  ge : ∀ k, P k → w.heap.size ≤ k
  g6 : w.heap.size ≤ g6
theorem LwI.drew {w W : World} {g g6 : Nat} {P : Nat → Prop} {C : KaT} {vk vv : Value} (h : LwI w g g6 P C vk vv W) : LwI w g g6 P C vk vv W.drew := ⟨h.ca.same (fun _ _ => rfl), ⟨h.rf.k.drew, h.rf.v.drew⟩, h.b6, ⟨h.bel.os, h.bel.tape, h.bel.output, h.bel.size, h.bel.block⟩, h.ge, h.g6⟩
theorem LwI.below {w W W' : World} {g g6 : Nat} {P : Nat → Prop} {C : KaT} {vk vv : Value} (h : LwI w g g6 P C vk vv W) (hb : Below W.heap.size W W') : LwI w g g6 P C vk vv W' := ⟨h.ca.below hb, h.rf.below hb, h.b6.below hb h.b6.lt, h.bel.trans (hb.mono h.bel.size), h.ge, h.g6⟩
theorem LwI.mut {w W W' : World} {g g6 : Nat} {P P' : Nat → Prop} {C : KaT} {vk vv : Value} (h : LwI w g g6 P C vk vv W) (m : Mut P W W') (gr : Grew W P P') : Blk W' g6 (rcC C vk vv) 27 ∧ Below w.heap.size w W' ∧ ∀ k, P' k → w.heap.size ≤ k :=
  ⟨h.b6.mutc h.ca m (by decide) (by decide), h.bel.trans (m.below h.bel.size h.ge), fun k hk => (gr k hk).elim (h.ge k) (fun e => Nat.le_trans h.bel.size e)⟩
theorem run_take {l : List OpK} {k : Nat} {o : OpK} (C : KaT) (h : l[k]? = some o) : runC C (l.take (k + 1)) = stepC (runC C (l.take k)) o := by rw [List.take_add_one, h]; exact run_snoc C _ o
theorem RfV.nilC (w : World) (n : Nat) : RfV w (newC n) (.slice none 0 0) (.slice none 0 0) := ⟨RdV.nil _ _, RdV.nil _ _⟩
theorem ready16 (C0 : KaT) (h : okC C0) (hm : C0.most ≤ 1000) (hc : cntC C0 = 0) (l : List OpK) (hl : l.length ≤ 200) (hs : ∀ o ∈ l, o.k.size ≤ maxLen) (k : Nat) : okC (runC C0 (l.take k)) ∧ smC (runC C0 (l.take k)) ∧ (runC C0 (l.take k)).most < 1000000 ∧ cntC (runC C0 (l.take k)) ≤ 200 ∧ (runC C0 (l.take k)).most = C0.most := by
  have h1 := run_cnt C0 (l.take k)
  have h2 : (l.take k).length ≤ 200 := by rw [List.length_take]; omega
  refine ⟨run_ok h _ (fun o ho => hs o ((List.take_sublist k l).mem ho)), sm_of (by omega) (by omega), by omega, by omega, h1.2⟩
set_option maxRecDepth 100000 in
set_option maxHeartbeats 2000000 in
theorem cacheDoes_law (w : World) (most : Int) (v : Value) (l : List OpK) (hr : RdO w v l) (hs : ∀ o ∈ l, o.k.size ≤ maxLen) : Calls Try.prog 3 #[.int .i64 most, v] w fun e w' => e = .returned (.bool true) ∧ Below w.heap.size w w' := by
  obtain ⟨C0, HC0⟩ : ∃ X, Hid (X = newC (startN most)) := ⟨_, rfl⟩
  have HST : Hid (Calls Try.prog 8 #[.int .i64 most] w fun r w' => ∃ g P, r = .returned (.tuple #[.pointer (some ⟨g, 0, none⟩), .agg [.int .i64 (C0.most : Int), .slice none 0 0, .slice none 0 0, .int .i64 (C0.hits : Int), .int .i64 (C0.miss : Int)].toArray]) ∧ CaIs w' g P C0 ∧ Below w.heap.size w w' ∧ ∀ k, P k → w.heap.size ≤ k) := by show Calls _ _ _ _ _; rw [HC0.out]; exact start16_any w most
  obtain ⟨ad, cp, hv⟩ := hr.form
  obtain ⟨n, HN⟩ : ∃ n, Hid (n = l.length) := ⟨_, rfl⟩
  rw [← HN.out] at hv
  subst hv
  have HR : Hid (RdO w (.slice ad n cp) l) := hr
  have HSZ : Hid (∀ o ∈ l, o.k.size ≤ maxLen) := hs
  have HRD : Hid (n ≤ 200 → ∀ k, okC (runC C0 (l.take k)) ∧ smC (runC C0 (l.take k)) ∧ (runC C0 (l.take k)).most < 1000000 ∧ cntC (runC C0 (l.take k)) ≤ 200 ∧ (runC C0 (l.take k)).most = C0.most) := fun h k => ready16 C0 (by rw [HC0.out]; exact ok_new _) (by rw [HC0.out]; exact startN_le _) (by rw [HC0.out]; rfl) l (by rw [← HN.out]; exact h) hs k
  clear hr hs
  by_cases hn : n ≤ 200
  · have q1 : decide ((n : Int) ≤ 200) = true := decide_eq_true (by omega)
    have HN200 : Hid (n ≤ 200) := hn
    clear hn
    go_enter Try.func3, Try.ntmps3
    have tk0 : Hid True := trivial
    have tk1 : Hid True := trivial
    have tk2 : Hid True := trivial
    have tk3 : Hid True := trivial
    go_wp2_with (first
      | (clear tk0; go_at_call 8; refine (HST.out).mono ?_; rintro e0 y0 ⟨g, P, rfl, ca, bl, hP⟩
         have HCA : Hid (CaIs y0 g P C0) := ca
         have HB : Hid (Below w.heap.size w y0 ∧ ∀ k, P k → w.heap.size ≤ k) := ⟨bl, hP⟩
         clear ca bl hP)
      | (clear tk1; with_reducible refine wpSeq_allocRc ?_ ?_ ?_
         · rfl
         · rfl
         intro g6 y1 nn
         have H6 : Hid (Blk y1 g6 zRc 27) := nn.blk
         have HG6 : Hid (w.heap.size ≤ g6) := Nat.le_trans HB.out.1.size nn.ge
         replace HCA : Hid (CaIs y1 g P C0) := HCA.out.below nn.below
         replace HB : Hid (Below w.heap.size w y1 ∧ ∀ k, P k → w.heap.size ≤ k) := ⟨HB.out.1.trans (nn.below.mono HB.out.1.size), HB.out.2⟩
         clear nn)
      | (clear tk2; with_reducible refine wpSeq_storeRow 27 (.tmp 6) (.tmp 16) g6 zRc [.int .i64 (C0.most : Int), .slice none 0 0, .slice none 0 0, .int .i64 (C0.hits : Int), .int .i64 (C0.miss : Int)] H6.out rfl (info_rc _ _ _ _ _) ?_ ?_ ?_ ?_ ?_ ?_
         · exact one_rc _ _ _ ⟨rfl, rfl, rfl⟩ _ _ _ _ _ _
         · rfl
         · rfl
         · rfl
         · rfl
         intro y2 sr
         have HI : Hid (LwI w g g6 P C0 (.slice none 0 0) (.slice none 0 0) y2) := ⟨HCA.out.only H6.out sr.only (by decide) (by decide), by rw [HC0.out]; exact RfV.nilC _ _, sr.blk, HB.out.1.trans (sr.only.below HG6.out HB.out.1.size), HB.out.2, HG6.out⟩
         clear sr HCA HB H6 HG6)
      | (clear tk3; go_at_call 9; refine (few16_any _ _ _ _).mono ?_; rintro ef yf ⟨rfl, rfl⟩
         rw [q1]))
    go_loopw [7] (fun i wr => ∃ k : Nat, k ≤ n ∧ i = .int .i64 (k : Int) ∧ ∃ P vk vv, LwI w g g6 P (runC C0 (l.take k)) vk vv wr) (fun i _ => n - (intOf i).toNat)
    case atStart => exact ⟨0, Nat.zero_le _, rfl, P, _, _, HI.out⟩
    case round =>
      clear HI
      obtain ⟨k, hkn, rfl, P, vk, vv, hI⟩ := hrel
      by_cases hlt : k < n
      · obtain ⟨o, ho⟩ : ∃ o, l[k]? = some o := ⟨_, List.getElem?_eq_getElem (by rw [← HN.out]; exact hlt)⟩
        obtain ⟨b, off, e1, hat⟩ := HR.out.at ho
        subst e1
        have HAT : Hid (∀ W, Below w.heap.size w W → W.rangeAt b (off + k * 3) [.int .i64 o.kind, .string o.k, .int .i64 o.v]) := hat
        have hso := HSZ.out o (List.mem_of_getElem? ho)
        obtain ⟨hok, hsm, hmo, _, _⟩ := HRD.out HN200.out k
        obtain ⟨hok', hsm', hmo', _, _⟩ := HRD.out HN200.out (k + 1)
        have hrt := run_take C0 ho
        obtain ⟨a1, n1, c1, a2, n2, c2, hv1, hv2⟩ := hI.rf.forms
        subst hv1 hv2
        obtain ⟨C, HC⟩ : ∃ X, Hid (X = runC C0 (l.take k)) := ⟨_, rfl⟩
        obtain ⟨C', HC'⟩ : ∃ X, Hid (X = runC C0 (l.take (k + 1))) := ⟨_, rfl⟩
        rw [← HC.out] at hI hok hsm hmo hrt
        rw [← HC'.out] at hok' hsm' hmo' hrt
        have HW : Hid (LwI w g g6 P C (.slice a1 n1 c1) (.slice a2 n2 c2) wr) := hI
        have HOK' : Hid (okC C' ∧ smC C' ∧ C'.l.length < 1000000) := ⟨hok', hsm', Nat.lt_of_le_of_lt hok'.le hmo'⟩
        have HSTP : Hid (∀ W P vk vv, Both W g P C vk vv → Calls Try.prog 11 #[.pointer (some ⟨g, 0, none⟩), .agg [.int .i64 (C.most : Int), vk, vv, .int .i64 (C.hits : Int), .int .i64 (C.miss : Int)].toArray, .agg [.int .i64 o.kind, .string o.k, .int .i64 o.v].toArray] W fun r w' => ∃ P' vk' vv', r = .returned (.tuple #[.agg [.int .i64 (C'.most : Int), vk', vv', .int .i64 (C'.hits : Int), .int .i64 (C'.miss : Int)].toArray, .bool true]) ∧ Both w' g P' C' vk' vv' ∧ Mut P W w' ∧ Grew W P P') := fun W P vk vv h => by rw [hrt]; exact step16_any h hsm hmo hok o hso
        have f5 : IntKind.i64.wrap ((k : Int) + 1) = (k : Int) + 1 := by have := HN200.out; rw [IntKind.wrap_i64]; omega
        obtain ⟨kd, s, x⟩ := o
        simp only at HAT HSTP
        clear hI hok hsm hmo hok' hsm' hmo' hrt hso hat ho HC HRD
        go_wp2
        go_cut [8, 9] from 29 to 38 (fun a b W => ∃ g8 P' a3 n3 c3 a4 n4 c4, a = .pointer (some ⟨g8, 0, none⟩) ∧ b = .bool true ∧ CaIs W g P' C' ∧ RfV W C' (.slice a3 n3 c3) (.slice a4 n4 c4) ∧ Blk W g6 [.int .i64 (C.most : Int), .slice a1 n1 c1, .slice a2 n2 c2, .int .i64 (C.hits : Int), .int .i64 (C.miss : Int)] 27 ∧ Blk W g8 [.int .i64 (C'.most : Int), .slice a3 n3 c3, .slice a4 n4 c4, .int .i64 (C'.hits : Int), .int .i64 (C'.miss : Int)] 27 ∧ g8 ≠ g6 ∧ Below w.heap.size w W ∧ ∀ k, P' k → w.heap.size ≤ k)
        case first =>
          refine wp_region_held_drew (S := fun wx => Below w.heap.size w wx ∧ Blk wx g6 [.int .i64 (C.most : Int), .slice a1 n1 c1, .slice a2 n2 c2, .int .i64 (C.hits : Int), .int .i64 (C.miss : Int)] 27) (by kernel_rfl) ⟨HW.out.drew.bel, HW.out.drew.b6⟩ ?_
          intro hS
          replace HW : Hid (LwI w g g6 P C (.slice a1 n1 c1) (.slice a2 n2 c2) (World.drew wr)) := HW.out.drew
          change wpAnyH _ _ _ _ _ _ _ _ (World.drew wr)
          generalize World.drew wr = y0 at *
          try simp only [Act.put, List.setIfInBounds_toArray, List.set_cons_zero, List.set_cons_succ]
          refine wpAnyH_take (i := 0) (v := .pointer (some ⟨g, 0, none⟩)) rfl (by kernel_rfl) (by kernel_rfl) (by kernel_rfl) (fun _ _ _ h => h) (Or.inl ⟨by rfl, fun wx hx => by simp [go_sem]⟩) hS ?_
          simp only [Act.put, List.getElem_toArray, List.getElem_cons_zero, List.setIfInBounds_toArray, List.set_cons_zero, List.set_cons_succ]
          refine wpAnyH_take (i := 1) (v := .agg [.int .i64 (C.most : Int), .slice a1 n1 c1, .slice a2 n2 c2, .int .i64 (C.hits : Int), .int .i64 (C.miss : Int)].toArray) rfl (by kernel_rfl) (by kernel_rfl) (by kernel_rfl) (fun _ _ _ h => h) (Or.inl ⟨by rfl, fun wx hx => by exact load_run 27 _ rfl g6 0 rfl _ _ hx.2.range Try.underlying27 rfl (info_rc _ _ _ _ _)⟩) hS ?_
          simp only [Act.put, List.getElem_toArray, List.getElem_cons_succ, List.getElem_cons_zero, List.setIfInBounds_toArray, List.set_cons_zero, List.set_cons_succ]
          refine wpAnyH_take (i := 2) (v := .slice (some ⟨b, off, none⟩) n cp) rfl (by kernel_rfl) (by kernel_rfl) (by kernel_rfl) (fun _ _ _ h => h) (Or.inl ⟨by rfl, fun wx hx => by simp [go_sem]⟩) hS ?_
          simp only [Act.put, List.getElem_toArray, List.getElem_cons_succ, List.getElem_cons_zero, List.setIfInBounds_toArray, List.set_cons_zero, List.set_cons_succ]
          refine wpAnyH_take (i := 3) (v := .int .i64 (k : Int)) rfl (by kernel_rfl) (by kernel_rfl) (by kernel_rfl) (fun _ _ _ h => h) (Or.inl ⟨by rfl, fun wx hx => by simp [go_sem]⟩) hS ?_
          simp only [Act.put, List.getElem_toArray, List.getElem_cons_succ, List.getElem_cons_zero, List.setIfInBounds_toArray, List.set_cons_zero, List.set_cons_succ]
          refine wpAnyH_take (i := 4) (v := .pointer (some ⟨b, off + k * 3, none⟩)) rfl (by kernel_rfl) (by kernel_rfl) (by kernel_rfl) (fun _ _ _ h => h) (Or.inl ⟨by rfl, fun wx hx => by exact idxO b off n cp k hlt _ _ _ _ rfl rfl rfl _⟩) hS ?_
          simp only [Act.put, List.getElem_toArray, List.getElem_cons_succ, List.getElem_cons_zero, List.setIfInBounds_toArray, List.set_cons_zero, List.set_cons_succ]
          refine wpAnyH_take (i := 5) (v := .agg [.int .i64 kd, .string s, .int .i64 x].toArray) rfl (by kernel_rfl) (by kernel_rfl) (by kernel_rfl) (fun _ _ _ h => h) (Or.inl ⟨by rfl, fun wx hx => by exact load_run 35 _ rfl b (off + k * 3) rfl _ _ (HAT.out _ hx.1) Try.underlying35 rfl (info_op _ _ _)⟩) hS ?_
          simp only [Act.put, List.getElem_toArray, List.getElem_cons_succ, List.getElem_cons_zero, List.setIfInBounds_toArray, List.set_cons_zero, List.set_cons_succ]
          refine wpAnyH_pair 6 10 (by kernel_rfl) ?_ ?_
          · have hcc := HSTP.out y0 P (.slice a1 n1 c1) (.slice a2 n2 c2) ⟨HW.out.ca, HW.out.rf⟩
            generalize hA : #[Value.pointer (some ⟨g, 0, none⟩), .agg [.int .i64 (C.most : Int), .slice a1 n1 c1, .slice a2 n2 c2, .int .i64 (C.hits : Int), .int .i64 (C.miss : Int)].toArray, .agg [.int .i64 kd, .string s, .int .i64 x].toArray] = AA at hcc
            refine wpOp_en 6 (by rfl) (by rfl) (f := 11) (args := AA) (by subst hA; simp [go_sem]) hcc ?_
            rintro e z1 ⟨P', vk', vv', rfl, hBo, hmu, hgr⟩
            obtain ⟨a3, n3, c3, a4, n4, c4, hv3, hv4⟩ := hBo.rf.forms
            subst hv3 hv4
            obtain ⟨hb6, hbel, hge⟩ := HW.out.mut hmu hgr
            replace hS := And.intro hbel hb6
            refine ⟨_, rfl, hS, ?_⟩
            simp only [Act.put, List.getElem_toArray, List.getElem_cons_succ, List.getElem_cons_zero, List.setIfInBounds_toArray, List.set_cons_zero, List.set_cons_succ]
            refine wpAnyH_take (i := 7) (v := .tuple #[.agg [.int .i64 (C'.most : Int), .slice a3 n3 c3, .slice a4 n4 c4, .int .i64 (C'.hits : Int), .int .i64 (C'.miss : Int)].toArray, .bool true]) rfl (by kernel_rfl) (by kernel_rfl) (by kernel_rfl) (fun _ _ _ h => h) (Or.inl ⟨by rfl, fun wx hx => by simp [go_sem]⟩) hS ?_
            simp only [Act.put, List.getElem_toArray, List.getElem_cons_succ, List.getElem_cons_zero, List.setIfInBounds_toArray, List.set_cons_zero, List.set_cons_succ]
            refine wpAnyH_take (i := 8) (v := .agg [.int .i64 (C'.most : Int), .slice a3 n3 c3, .slice a4 n4 c4, .int .i64 (C'.hits : Int), .int .i64 (C'.miss : Int)].toArray) rfl (by kernel_rfl) (by kernel_rfl) (by kernel_rfl) (fun _ _ _ h => h) (Or.inl ⟨by rfl, fun wx hx => by simp [go_sem]⟩) hS ?_
            simp only [Act.put, List.getElem_toArray, List.getElem_cons_succ, List.getElem_cons_zero, List.setIfInBounds_toArray, List.set_cons_zero, List.set_cons_succ]
            refine wpAnyH_take (i := 9) (v := .bool true) rfl (by kernel_rfl) (by kernel_rfl) (by kernel_rfl) (fun _ _ _ h => h) (Or.inl ⟨by rfl, fun wx hx => by simp [go_sem]⟩) hS ?_
            simp only [Act.put, List.getElem_toArray, List.getElem_cons_succ, List.getElem_cons_zero, List.setIfInBounds_toArray, List.set_cons_zero, List.set_cons_succ]
            have hb := below_alloc z1 (.cells zRc.toArray 27)
            have hba : Blk (z1.alloc (.cells zRc.toArray 27)) z1.heap.size zRc 27 := Blk.new _ _ _
            have hgn : z1.heap.size ≠ g6 := fun e => absurd hS.2.lt (by omega)
            have hgg : w.heap.size ≤ z1.heap.size := hS.1.size
            have hS2 : Below w.heap.size w (z1.alloc (.cells zRc.toArray 27)) ∧ Blk (z1.alloc (.cells zRc.toArray 27)) g6 [.int .i64 (C.most : Int), .slice a1 n1 c1, .slice a2 n2 c2, .int .i64 (C.hits : Int), .int .i64 (C.miss : Int)] 27 := ⟨hS.1.trans (hb.mono hS.1.size), hS.2.below hb hS.2.lt⟩
            refine wpAnyH_step 10 (.pointer (some ⟨z1.heap.size, 0, none⟩)) (z1.alloc (.cells zRc.toArray 27)) (by kernel_rfl) rfl (by rfl) (alloc_rc _ _ rfl _) hS2 ?_
            simp only [Act.put, List.getElem_toArray, List.getElem_cons_succ, List.getElem_cons_zero, List.setIfInBounds_toArray, List.set_cons_zero, List.set_cons_succ]
            replace hS := hS2
            clear hS2
            have hBo : Both (z1.alloc (.cells zRc.toArray 27)) g P' C' (.slice a3 n3 c3) (.slice a4 n4 c4) := ⟨hBo.ca.below hb, hBo.rf.below hb⟩
            clear hb
            generalize z1.alloc (.cells zRc.toArray 27) = z2 at *
            obtain ⟨ga, HGA⟩ : ∃ z, Hid (z = z1.heap.size) := ⟨_, rfl⟩
            rw [← HGA.out] at hba hgn hgg ⊢
            refine wpAnyH_storeRow 11 27 (.tmp 8) (.tmp 37) ga zRc [.int .i64 (C'.most : Int), .slice a3 n3 c3, .slice a4 n4 c4, .int .i64 (C'.hits : Int), .int .i64 (C'.miss : Int)] hba rfl (info_rc _ _ _ _ _) (one_rc _ _ _ ⟨rfl, rfl, rfl⟩ _ _ _ _ _ _) (by kernel_rfl) rfl (by rfl) rfl rfl rfl ?_
            intro yE hs
            have hbE : Below w.heap.size w yE := hS.1.trans (hs.only.below hgg hS.1.size)
            have h6E : Blk yE g6 [.int .i64 (C.most : Int), .slice a1 n1 c1, .slice a2 n2 c2, .int .i64 (C.hits : Int), .int .i64 (C.miss : Int)] 27 := hS.2.only hs.only hgn.symm
            replace hS := And.intro hbE h6E
            refine ⟨hS, ?_⟩
            simp only [Act.put, List.getElem_toArray, List.getElem_cons_succ, List.getElem_cons_zero]
            refine wpAnyH_take (i := 12) (v := .bool true) rfl (by kernel_rfl) (by kernel_rfl) (by kernel_rfl) (fun _ _ _ h => h) (Or.inl ⟨by rfl, fun wx hx => by simp [go_sem]⟩) hS ?_
            simp only [Act.put, List.getElem_toArray, List.getElem_cons_succ, List.getElem_cons_zero, List.setIfInBounds_toArray, List.set_cons_zero, List.set_cons_succ]
            refine wpAnyH_done (by kernel_rfl) ?_ _
            go_wp2
            go_meet
            case rel => exact ⟨ga, P', a3, n3, c3, a4, n4, c4, rfl, rfl, hBo.ca.only hba hs.only (by decide) (by decide), hBo.rf.only hba (by decide) (by decide) hs.only, h6E, hs.blk, hgn, hbE, hge⟩
          · have hb := below_alloc y0 (.cells zRc.toArray 27)
            have hba : Blk (y0.alloc (.cells zRc.toArray 27)) y0.heap.size zRc 27 := Blk.new _ _ _
            have hgn : y0.heap.size ≠ g6 := fun e => absurd hS.2.lt (by omega)
            have hgg : w.heap.size ≤ y0.heap.size := hS.1.size
            have hS2 : Below w.heap.size w (y0.alloc (.cells zRc.toArray 27)) ∧ Blk (y0.alloc (.cells zRc.toArray 27)) g6 [.int .i64 (C.most : Int), .slice a1 n1 c1, .slice a2 n2 c2, .int .i64 (C.hits : Int), .int .i64 (C.miss : Int)] 27 := ⟨hS.1.trans (hb.mono hS.1.size), hS.2.below hb hS.2.lt⟩
            refine wpOp_vl 10 (.pointer (some ⟨y0.heap.size, 0, none⟩)) (y0.alloc (.cells zRc.toArray 27)) (by rfl) (by rfl) (alloc_rc _ _ rfl _) ⟨hS2, ?_⟩
            simp only [Act.put, List.getElem_toArray, List.getElem_cons_succ, List.getElem_cons_zero, List.setIfInBounds_toArray, List.set_cons_zero, List.set_cons_succ]
            replace hS := hS2
            clear hS2
            replace HW : Hid (LwI w g g6 P C (.slice a1 n1 c1) (.slice a2 n2 c2) (y0.alloc (.cells zRc.toArray 27))) := HW.out.below hb
            clear hb
            generalize y0.alloc (.cells zRc.toArray 27) = z1 at *
            obtain ⟨ga, HGA⟩ : ∃ z, Hid (z = y0.heap.size) := ⟨_, rfl⟩
            rw [← HGA.out] at hba hgn hgg ⊢
            have hcc := HSTP.out z1 P (.slice a1 n1 c1) (.slice a2 n2 c2) ⟨HW.out.ca, HW.out.rf⟩
            generalize hA : #[Value.pointer (some ⟨g, 0, none⟩), .agg [.int .i64 (C.most : Int), .slice a1 n1 c1, .slice a2 n2 c2, .int .i64 (C.hits : Int), .int .i64 (C.miss : Int)].toArray, .agg [.int .i64 kd, .string s, .int .i64 x].toArray] = AA at hcc
            refine wpAnyH_enter 6 (by kernel_rfl) rfl (by rfl) (f := 11) (args := AA) (by subst hA; simp [go_sem]) hcc ?_
            rintro e z2 ⟨P', vk', vv', rfl, hBo, hmu, hgr⟩
            obtain ⟨a3, n3, c3, a4, n4, c4, hv3, hv4⟩ := hBo.rf.forms
            subst hv3 hv4
            obtain ⟨hb6, hbel, hge⟩ := HW.out.mut hmu hgr
            replace hba : Blk z2 ga zRc 27 := hba.mutc HW.out.ca hmu (by decide) (by decide)
            replace hS := And.intro hbel hb6
            refine ⟨_, rfl, hS, ?_⟩
            simp only [Act.put, List.getElem_toArray, List.getElem_cons_succ, List.getElem_cons_zero, List.setIfInBounds_toArray, List.set_cons_zero, List.set_cons_succ]
            refine wpAnyH_take (i := 7) (v := .tuple #[.agg [.int .i64 (C'.most : Int), .slice a3 n3 c3, .slice a4 n4 c4, .int .i64 (C'.hits : Int), .int .i64 (C'.miss : Int)].toArray, .bool true]) rfl (by kernel_rfl) (by kernel_rfl) (by kernel_rfl) (fun _ _ _ h => h) (Or.inl ⟨by rfl, fun wx hx => by simp [go_sem]⟩) hS ?_
            simp only [Act.put, List.getElem_toArray, List.getElem_cons_succ, List.getElem_cons_zero, List.setIfInBounds_toArray, List.set_cons_zero, List.set_cons_succ]
            refine wpAnyH_take (i := 8) (v := .agg [.int .i64 (C'.most : Int), .slice a3 n3 c3, .slice a4 n4 c4, .int .i64 (C'.hits : Int), .int .i64 (C'.miss : Int)].toArray) rfl (by kernel_rfl) (by kernel_rfl) (by kernel_rfl) (fun _ _ _ h => h) (Or.inl ⟨by rfl, fun wx hx => by simp [go_sem]⟩) hS ?_
            simp only [Act.put, List.getElem_toArray, List.getElem_cons_succ, List.getElem_cons_zero, List.setIfInBounds_toArray, List.set_cons_zero, List.set_cons_succ]
            refine wpAnyH_take (i := 9) (v := .bool true) rfl (by kernel_rfl) (by kernel_rfl) (by kernel_rfl) (fun _ _ _ h => h) (Or.inl ⟨by rfl, fun wx hx => by simp [go_sem]⟩) hS ?_
            simp only [Act.put, List.getElem_toArray, List.getElem_cons_succ, List.getElem_cons_zero, List.setIfInBounds_toArray, List.set_cons_zero, List.set_cons_succ]
            refine wpAnyH_storeRow 11 27 (.tmp 8) (.tmp 37) ga zRc [.int .i64 (C'.most : Int), .slice a3 n3 c3, .slice a4 n4 c4, .int .i64 (C'.hits : Int), .int .i64 (C'.miss : Int)] hba rfl (info_rc _ _ _ _ _) (one_rc _ _ _ ⟨rfl, rfl, rfl⟩ _ _ _ _ _ _) (by kernel_rfl) rfl (by rfl) rfl rfl rfl ?_
            intro yE hs
            have hbE : Below w.heap.size w yE := hS.1.trans (hs.only.below hgg hS.1.size)
            have h6E : Blk yE g6 [.int .i64 (C.most : Int), .slice a1 n1 c1, .slice a2 n2 c2, .int .i64 (C.hits : Int), .int .i64 (C.miss : Int)] 27 := hS.2.only hs.only hgn.symm
            replace hS := And.intro hbE h6E
            refine ⟨hS, ?_⟩
            simp only [Act.put, List.getElem_toArray, List.getElem_cons_succ, List.getElem_cons_zero]
            refine wpAnyH_take (i := 12) (v := .bool true) rfl (by kernel_rfl) (by kernel_rfl) (by kernel_rfl) (fun _ _ _ h => h) (Or.inl ⟨by rfl, fun wx hx => by simp [go_sem]⟩) hS ?_
            simp only [Act.put, List.getElem_toArray, List.getElem_cons_succ, List.getElem_cons_zero, List.setIfInBounds_toArray, List.set_cons_zero, List.set_cons_succ]
            refine wpAnyH_done (by kernel_rfl) ?_ _
            go_wp2
            go_meet
            case rel => exact ⟨ga, P', a3, n3, c3, a4, n4, c4, rfl, rfl, hBo.ca.only hba hs.only (by decide) (by decide), hBo.rf.only hba (by decide) (by decide) hs.only, h6E, hs.blk, hgn, hbE, hge⟩
        case rest =>
          obtain ⟨g8, P', a3, n3, c3, a4, n4, c4, rfl, rfl, hca, hrf, h6, h8, hne, hbl, hge⟩ := hcut
          have HCA : Hid (CaIs wc g P' C') := hca
          have HRF : Hid (RfV wc C' (.slice a3 n3 c3) (.slice a4 n4 c4)) := hrf
          have H6 : Hid (Blk wc g6 [.int .i64 (C.most : Int), .slice a1 n1 c1, .slice a2 n2 c2, .int .i64 (C.hits : Int), .int .i64 (C.miss : Int)] 27) := h6
          have H8 : Hid (Blk wc g8 [.int .i64 (C'.most : Int), .slice a3 n3 c3, .slice a4 n4 c4, .int .i64 (C'.hits : Int), .int .i64 (C'.miss : Int)] 27) := h8
          have HBL : Hid (Below w.heap.size w wc) := hbl
          have HGE : Hid (∀ k, P' k → w.heap.size ≤ k) := hge
          have HG6 : Hid (w.heap.size ≤ g6) := HW.out.g6
          clear hca hrf h6 h8 hbl hge hne HW
          have tk4 : Hid True := trivial
          have tk5 : Hid True := trivial
          have tk6 : Hid True := trivial
          go_wp2_with (first
            | (clear tk4; with_reducible refine load_rc (.tmp 8) g8 _ _ _ _ _ H8.out ?_ ?_ ?_ ?_
               · rfl
               · rfl
               · rfl)
            | (clear tk5; with_reducible refine wpSeq_storeRow 27 (.tmp 6) (.tmp 39) g6 [.int .i64 (C.most : Int), .slice a1 n1 c1, .slice a2 n2 c2, .int .i64 (C.hits : Int), .int .i64 (C.miss : Int)] [.int .i64 (C'.most : Int), .slice a3 n3 c3, .slice a4 n4 c4, .int .i64 (C'.hits : Int), .int .i64 (C'.miss : Int)] H6.out rfl (info_rc _ _ _ _ _) ?_ ?_ ?_ ?_ ?_ ?_
               · exact one_rc _ _ _ ⟨rfl, rfl, rfl⟩ _ _ _ _ _ _
               · rfl
               · rfl
               · rfl
               · rfl
               intro y6 sr
               have HW : Hid (LwI w g g6 P' C' (.slice a3 n3 c3) (.slice a4 n4 c4) y6) := ⟨HCA.out.only H6.out sr.only (by decide) (by decide), HRF.out.only H6.out (by decide) (by decide) sr.only, sr.blk, HBL.out.trans (sr.only.below HG6.out HBL.out.size), HGE.out, HG6.out⟩
               clear sr HCA HRF H6 H8 HBL HGE)
            | (clear tk6; go_at_call 12; refine (kaCount_any HW.out.ca).mono ?_; rintro e7 y7 ⟨rfl, ca7, bl7⟩
               replace HW : Hid (LwI w g g6 P' C' (.slice a3 n3 c3) (.slice a4 n4 c4) y7) := HW.out.below bl7
               have d1 : y7.cell? ⟨g6, 1, none⟩ = some (.slice a3 n3 c3) := HW.out.b6.cell 1
               have d3 : y7.cell? ⟨g6, 3, none⟩ = some (.int .i64 (C'.hits : Int)) := HW.out.b6.cell 3
               have d4 : y7.cell? ⟨g6, 4, none⟩ = some (.int .i64 (C'.miss : Int)) := HW.out.b6.cell 4
               clear ca7 bl7))
          go_region_held3 (fun wx => wx.cell? ⟨g6, 1, none⟩ = some (.slice a3 n3 c3) ∧ wx.cell? ⟨g6, 3, none⟩ = some (.int .i64 (C'.hits : Int)) ∧ wx.cell? ⟨g6, 4, none⟩ = some (.int .i64 (C'.miss : Int))) (go_keep)
            (first
              | (go_at_call 14; refine (kaKeys_any HW.out.drew.ca HOK'.out.2.1).mono ?_; rintro e8 y8 ⟨vq, rfl, ow8, ca8, bl8⟩
                 replace HW : Hid (LwI w g g6 P' C' (.slice a3 n3 c3) (.slice a4 n4 c4) y8) := HW.out.drew.below bl8
                 have g1 : y8.cell? ⟨g6, 1, none⟩ = some (.slice a3 n3 c3) := HW.out.b6.cell 1
                 have g3 : y8.cell? ⟨g6, 3, none⟩ = some (.int .i64 (C'.hits : Int)) := HW.out.b6.cell 3
                 have g4 : y8.cell? ⟨g6, 4, none⟩ = some (.int .i64 (C'.miss : Int)) := HW.out.b6.cell 4
                 have HQ : Hid (RdV 9 y8 vq (strV (C'.l.map (·.1)))) := by
                   show RdV _ _ _ _
                   rw [← ky_str]
                   exact ow8.rd
                 clear ow8 ca8 bl8)
              | (go_at_call 13; refine (same16_any HQ.out (lb := C'.l.map (·.1)) (by rw [← ky_str]; exact HW.out.rf.k) (by rw [List.length_map]; exact HOK'.out.2.2)).mono ?_; rintro e9 y9 ⟨rfl, bl9⟩
                 rw [decide_eq_true (rfl : C'.l.map (·.1) = C'.l.map (·.1))]
                 replace HW : Hid (LwI w g g6 P' C' (.slice a3 n3 c3) (.slice a4 n4 c4) y9) := HW.out.below bl9
                 have h1 : y9.cell? ⟨g6, 1, none⟩ = some (.slice a3 n3 c3) := HW.out.b6.cell 1
                 have h3 : y9.cell? ⟨g6, 3, none⟩ = some (.int .i64 (C'.hits : Int)) := HW.out.b6.cell 3
                 have h4 : y9.cell? ⟨g6, 4, none⟩ = some (.int .i64 (C'.miss : Int)) := HW.out.b6.cell 4
                 clear bl9))
          go_wp2
          go_roundw
          case rel => exact ⟨k + 1, hlt, rfl, P', _, _, by rw [← HC'.out]; exact HW.out⟩
          case measure => simp [intOf]; omega
      · have hkk : k = n := by omega
        subst hkk
        have HBL : Hid (Below w.heap.size w wr) := hI.bel
        clear hI
        have tk4 : Hid True := trivial
        go_wp2_with (first
          | (clear tk4; go_at_call 10; refine (works16_any _).mono ?_; rintro ew yw ⟨rfl, blw⟩
             have HBW : Hid (Below w.heap.size w yw) := HBL.out.trans (blw.mono HBL.out.size)
             clear blw))
        go_ret
        exact ⟨rfl, HBW.out⟩
  · have q1 : decide ((n : Int) ≤ 200) = false := decide_eq_false (by omega)
    clear hn
    go_enter Try.func3, Try.ntmps3
    have tk0 : Hid True := trivial
    have tk1 : Hid True := trivial
    have tk2 : Hid True := trivial
    have tk3 : Hid True := trivial
    have tk4 : Hid True := trivial
    go_wp2_with (first
      | (clear tk0; go_at_call 8; refine (HST.out).mono ?_; rintro e0 y0 ⟨g, P, rfl, ca, bl, hP⟩
         have HCA : Hid (CaIs y0 g P C0) := ca
         have HB : Hid (Below w.heap.size w y0 ∧ ∀ k, P k → w.heap.size ≤ k) := ⟨bl, hP⟩
         clear ca bl hP)
      | (clear tk1; with_reducible refine wpSeq_allocRc ?_ ?_ ?_
         · rfl
         · rfl
         intro g6 y1 nn
         have H6 : Hid (Blk y1 g6 zRc 27) := nn.blk
         have HG6 : Hid (w.heap.size ≤ g6) := Nat.le_trans HB.out.1.size nn.ge
         replace HCA : Hid (CaIs y1 g P C0) := HCA.out.below nn.below
         replace HB : Hid (Below w.heap.size w y1 ∧ ∀ k, P k → w.heap.size ≤ k) := ⟨HB.out.1.trans (nn.below.mono HB.out.1.size), HB.out.2⟩
         clear nn)
      | (clear tk2; with_reducible refine wpSeq_storeRow 27 (.tmp 6) (.tmp 16) g6 zRc [.int .i64 (C0.most : Int), .slice none 0 0, .slice none 0 0, .int .i64 (C0.hits : Int), .int .i64 (C0.miss : Int)] H6.out rfl (info_rc _ _ _ _ _) ?_ ?_ ?_ ?_ ?_ ?_
         · exact one_rc _ _ _ ⟨rfl, rfl, rfl⟩ _ _ _ _ _ _
         · rfl
         · rfl
         · rfl
         · rfl
         intro y2 sr
         have HI : Hid (LwI w g g6 P C0 (.slice none 0 0) (.slice none 0 0) y2) := ⟨HCA.out.only H6.out sr.only (by decide) (by decide), by rw [HC0.out]; exact RfV.nilC _ _, sr.blk, HB.out.1.trans (sr.only.below HG6.out HB.out.1.size), HB.out.2, HG6.out⟩
         clear sr HCA HB H6 HG6)
      | (clear tk3; go_at_call 9; refine (few16_any _ _ _ _).mono ?_; rintro ef yf ⟨rfl, rfl⟩
         rw [q1])
      | (clear tk4; go_at_call 10; refine (works16_any _).mono ?_; rintro ew yw ⟨rfl, blw⟩
         have HBW : Hid (Below w.heap.size w yw) := HI.out.bel.trans (blw.mono HI.out.bel.size)
         clear blw))
    go_ret
    exact ⟨rfl, HBW.out⟩
end Go.Proofs.Ytgmemibhddnjjaa

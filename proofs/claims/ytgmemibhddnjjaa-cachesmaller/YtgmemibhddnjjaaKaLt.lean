/- CacheLast (layer 16). -/
import Derived.Test.YtgmemibhddnjjaaKaDs
import Derived.Deep.Cut
import Derived.Deep.CutRange
namespace Go.Proofs.Ytgmemibhddnjjaa
open Go.RowKit
set_option maxRecDepth 100000
/-- what stands under a key is what was put last under it -/
structure LastI (C : KaT) (key : ByteArray) (want : Int) (there : Bool) : Prop where
  is : ∀ v, fdK C.l key = some v → there = true ∧ v = want
theorem fd_app (a b : List KV) (s : ByteArray) : fdK (a ++ b) s = (fdK a s).or (fdK b s) := by
  unfold fdK
  rw [List.find?_append]
  cases a.find? (fun p => decide (p.1 = s)) <;> rfl
theorem fd_wo_ne (l : List KV) {s t : ByteArray} (h : s ≠ t) : fdK (woK l t) s = fdK l s := by
  induction l with
  | nil => rfl
  | cons p l ih =>
    unfold woK at ih ⊢
    by_cases e : p.1 = t
    · rw [List.filter_cons_of_neg (by simp [e]), ih]
      unfold fdK
      rw [List.find?_cons_of_neg (by simp [e]; exact fun h2 => h h2.symm)]
    · rw [List.filter_cons_of_pos (by simp [e])]
      by_cases e2 : p.1 = s
      · unfold fdK; rw [List.find?_cons_of_pos (by simp [e2]), List.find?_cons_of_pos (by simp [e2])]
      · have := ih
        unfold fdK at this ⊢
        rw [List.find?_cons_of_neg (by simp [e2]), List.find?_cons_of_neg (by simp [e2])]
        exact this
theorem fd_wo_same (l : List KV) (s : ByteArray) : fdK (woK l s) s = none := fd_none.2 (wo_not l s)
theorem fd_one_ne {k s : ByteArray} (v : Int) (h : s ≠ k) : fdK [(k, v)] s = none := by unfold fdK; rw [List.find?_cons_of_neg (by simp; exact fun e => h e.symm)]; rfl
theorem fd_one (k : ByteArray) (v : Int) : fdK [(k, v)] k = some v := by unfold fdK; rw [List.find?_cons_of_pos (by simp)]; rfl
theorem get_fd {C : KaT} (k s : ByteArray) : fdK (getC C k).l s = fdK C.l s := by
  unfold getC
  cases e : fdK C.l k with
  | none => rfl
  | some v =>
    show fdK (woK C.l k ++ [(k, v)]) s = _
    rw [fd_app]
    by_cases h : s = k
    · subst h; rw [fd_wo_same, fd_one, e]; rfl
    · rw [fd_wo_ne _ h, fd_one_ne _ h]; cases fdK C.l s <;> rfl
theorem fd_drop1 {l : List KV} (h : (l.map (·.1)).Nodup) {n : Nat} {s : ByteArray} {v : Int} (hf : fdK (l.drop n) s = some v) : fdK l s = some v := fd_mem h ((List.drop_sublist n l).mem (fd_some hf))
theorem last_step {C : KaT} (hok : okC C) (o : OpK) {key : ByteArray} {want : Int} {there : Bool} (h : LastI C key want there) :
    LastI (stepC C o) key (if o.k = key ∧ o.kind = 1 then o.v else want) (if o.k = key ∧ o.kind = 2 then false else if o.k = key ∧ o.kind = 1 then true else there) := by
  constructor
  intro v hv
  unfold stepC at hv
  by_cases k0 : o.kind = 0
  · rw [if_pos k0, get_fd] at hv
    have h1 : ¬ (o.k = key ∧ o.kind = 1) := by omega
    have h2 : ¬ (o.k = key ∧ o.kind = 2) := by omega
    rw [if_neg h1, if_neg h2, if_neg h1]
    exact h.is v hv
  rw [if_neg k0] at hv
  by_cases k1 : o.kind = 1
  · rw [if_pos k1] at hv
    have hd := fd_drop1 (nd_snoc hok.nd o.k o.v) hv
    rw [fd_app] at hd
    have h2 : ¬ (o.k = key ∧ o.kind = 2) := by omega
    rw [if_neg h2]
    by_cases e : o.k = key
    · rw [if_pos ⟨e, k1⟩, if_pos ⟨e, k1⟩]
      rw [← e, fd_wo_same, fd_one] at hd
      simp at hd
      exact ⟨rfl, hd.symm⟩
    · have h1 : ¬ (o.k = key ∧ o.kind = 1) := fun h => e h.1
      rw [if_neg h1, if_neg h1]
      rw [fd_wo_ne _ (fun h => e h.symm), fd_one_ne _ (fun h => e h.symm)] at hd
      exact h.is v (by cases hq : fdK C.l key <;> rw [hq] at hd <;> simp at hd ⊢; exact hd)
  rw [if_neg k1] at hv
  by_cases k2 : o.kind = 2
  · rw [if_pos k2] at hv
    have h1 : ¬ (o.k = key ∧ o.kind = 1) := by omega
    rw [if_neg h1]
    by_cases e : o.k = key
    · rw [← e] at hv
      have h9 : fdK (woK C.l o.k) o.k = some v := hv
      rw [fd_wo_same] at h9
      cases h9
    · have h2 : ¬ (o.k = key ∧ o.kind = 2) := fun h => e h.1
      rw [if_neg h2, if_neg h1]
      have h9 : fdK (woK C.l o.k) key = some v := hv
      rw [fd_wo_ne _ (fun h => e h.symm)] at h9
      exact h.is v h9
  rw [if_neg k2] at hv
  have h1 : ¬ (o.k = key ∧ o.kind = 1) := fun h => k1 h.2
  have h2 : ¬ (o.k = key ∧ o.kind = 2) := fun h => k2 h.2
  rw [if_neg h1, if_neg h2, if_neg h1]
  exact h.is v hv
set_option maxRecDepth 100000 in
set_option maxHeartbeats 4000000 in
theorem cacheLast_law (w : World) (most : Int) (v : Value) (l : List OpK) (key : ByteArray) (hr : RdO w v l) (hs : ∀ o ∈ l, o.k.size ≤ maxLen) (hkey : key.size ≤ maxLen) : Calls Try.prog 5 #[.int .i64 most, v, .string key] w fun e w' => e = .returned (.bool true) ∧ Below w.heap.size w w' := by
  obtain ⟨C0, HC0⟩ : ∃ X, Hid (X = newC (startN most)) := ⟨_, rfl⟩
  have HST : Hid (Calls Try.prog 8 #[.int .i64 most] w fun r w' => ∃ g P, r = .returned (.tuple #[.pointer (some ⟨g, 0, none⟩), .agg [.int .i64 (C0.most : Int), .slice none 0 0, .slice none 0 0, .int .i64 (C0.hits : Int), .int .i64 (C0.miss : Int)].toArray]) ∧ CaIs w' g P C0 ∧ Below w.heap.size w w' ∧ ∀ k, P k → w.heap.size ≤ k) := by show Calls _ _ _ _ _; rw [HC0.out]; exact start16_any w most
  obtain ⟨ad, cp, hv⟩ := hr.form
  obtain ⟨n, HN⟩ : ∃ n, Hid (n = l.length) := ⟨_, rfl⟩
  rw [← HN.out] at hv
  subst hv
  have HR : Hid (RdO w (.slice ad n cp) l) := hr
  have HSZ : Hid (∀ o ∈ l, o.k.size ≤ maxLen) := hs
  have HRD : Hid (n ≤ 200 → ∀ k, okC (runC C0 (l.take k)) ∧ smC (runC C0 (l.take k)) ∧ (runC C0 (l.take k)).most < 1000000 ∧ cntC (runC C0 (l.take k)) ≤ 200 ∧ (runC C0 (l.take k)).most = C0.most) := fun h k => ready16 C0 (by rw [HC0.out]; exact ok_new _) (by rw [HC0.out]; exact startN_le _) (by rw [HC0.out]; rfl) l (by rw [← HN.out]; exact h) hs k
  clear hr hs
  by_cases hn : n ≤ 200
  · have q1 : decide ((n : Int) ≤ 200) = true := decide_eq_true (by omega)
    have HN200 : Hid (n ≤ 200) := hn
    clear hn
    go_enter Try.func5, Try.ntmps5
    have tk0 : Hid True := trivial
    have tk1 : Hid True := trivial
    have tk2 : Hid True := trivial
    have tk3 : Hid True := trivial
    go_wp2_with (first
      | (clear tk0; go_at_call 8; refine (HST.out).mono ?_; rintro e0 y0 ⟨g, P, rfl, ca, bl, hP⟩
         have HCA : Hid (CaIs y0 g P C0) := ca
         have HB : Hid (Below w.heap.size w y0 ∧ ∀ k, P k → w.heap.size ≤ k) := ⟨bl, hP⟩
         clear ca bl hP)
      | (clear tk1; with_reducible refine wpSeq_allocRc ?_ ?_ ?_
         · rfl
         · rfl
         intro g6 y1 nn
         have H6 : Hid (Blk y1 g6 zRc 27) := nn.blk
         have HG6 : Hid (w.heap.size ≤ g6) := Nat.le_trans HB.out.1.size nn.ge
         replace HCA : Hid (CaIs y1 g P C0) := HCA.out.below nn.below
         replace HB : Hid (Below w.heap.size w y1 ∧ ∀ k, P k → w.heap.size ≤ k) := ⟨HB.out.1.trans (nn.below.mono HB.out.1.size), HB.out.2⟩
         clear nn)
      | (clear tk2; with_reducible refine wpSeq_storeRow 27 (.tmp 8) (.tmp 18) g6 zRc [.int .i64 (C0.most : Int), .slice none 0 0, .slice none 0 0, .int .i64 (C0.hits : Int), .int .i64 (C0.miss : Int)] H6.out rfl (info_rc _ _ _ _ _) ?_ ?_ ?_ ?_ ?_ ?_
         · exact one_rc _ _ _ ⟨rfl, rfl, rfl⟩ _ _ _ _ _ _
         · rfl
         · rfl
         · rfl
         · rfl
         intro y2 sr
         have HI : Hid (LwI w g g6 P C0 (.slice none 0 0) (.slice none 0 0) y2) := ⟨HCA.out.only H6.out sr.only (by decide) (by decide), by rw [HC0.out]; exact RfV.nilC _ _, sr.blk, HB.out.1.trans (sr.only.below HG6.out HB.out.1.size), HB.out.2, HG6.out⟩
         clear sr HCA HB H6 HG6)
      | (clear tk3; go_at_call 9; refine (few16_any _ _ _ _).mono ?_; rintro ef yf ⟨rfl, rfl⟩
         rw [q1]))
    go_loopw [9, 10, 11] (fun a b i wr => ∃ (k : Nat) (wt : Int) (th : Bool), k ≤ n ∧ a = .int .i64 wt ∧ b = .bool th ∧ i = .int .i64 (k : Int) ∧ LastI (runC C0 (l.take k)) key wt th ∧ ∃ P vk vv, LwI w g g6 P (runC C0 (l.take k)) vk vv wr) (fun _ _ i _ => n - (intOf i).toNat)
    case atStart => exact ⟨0, 0, false, Nat.zero_le _, rfl, rfl, rfl, ⟨fun v hv => by rw [HC0.out] at hv; cases hv⟩, P, _, _, HI.out⟩
    case round =>
      clear HI
      obtain ⟨k, wt, th, hkn, rfl, rfl, rfl, hLS, P, vk, vv, hI⟩ := hrel
      by_cases hlt : k < n
      · obtain ⟨o, ho⟩ : ∃ o, l[k]? = some o := ⟨_, List.getElem?_eq_getElem (by rw [← HN.out]; exact hlt)⟩
        obtain ⟨b, off, e1, hat⟩ := HR.out.at ho
        subst e1
        have HAT : Hid (∀ W, Below w.heap.size w W → W.rangeAt b (off + k * 3) [.int .i64 o.kind, .string o.k, .int .i64 o.v]) := hat
        have hso := HSZ.out o (List.mem_of_getElem? ho)
        obtain ⟨hok, hsm, hmo, _, hmc⟩ := HRD.out HN200.out k
        obtain ⟨hok', hsm', hmo', _, hmc'⟩ := HRD.out HN200.out (k + 1)
        have hrt := run_take C0 ho
        obtain ⟨a1, n1, c1, a2, n2, c2, hv1, hv2⟩ := hI.rf.forms
        subst hv1 hv2
        obtain ⟨C, HC⟩ : ∃ X, Hid (X = runC C0 (l.take k)) := ⟨_, rfl⟩
        obtain ⟨C', HC'⟩ : ∃ X, Hid (X = runC C0 (l.take (k + 1))) := ⟨_, rfl⟩
        rw [← HC.out] at hI hok hsm hmo hrt hmc
        rw [← HC'.out] at hok' hsm' hmo' hrt hmc'
        have HW : Hid (LwI w g g6 P C (.slice a1 n1 c1) (.slice a2 n2 c2) wr) := hI
        have HOK' : Hid (okC C' ∧ smC C' ∧ C'.l.length < 1000000 ∧ C'.most = C0.most) := ⟨hok', hsm', Nat.lt_of_le_of_lt hok'.le hmo', hmc'⟩
        have HSTP : Hid (∀ W P vk vv, Both W g P C vk vv → Calls Try.prog 11 #[.pointer (some ⟨g, 0, none⟩), .agg [.int .i64 (C.most : Int), vk, vv, .int .i64 (C.hits : Int), .int .i64 (C.miss : Int)].toArray, .agg [.int .i64 o.kind, .string o.k, .int .i64 o.v].toArray] W fun r w' => ∃ P' vk' vv', r = .returned (.tuple #[.agg [.int .i64 (C'.most : Int), vk', vv', .int .i64 (C'.hits : Int), .int .i64 (C'.miss : Int)].toArray, .bool true]) ∧ Both w' g P' C' vk' vv' ∧ Mut P W w' ∧ Grew W P P') := fun W P vk vv h => by rw [hrt]; exact step16_any h hsm hmo hok o hso
        have f5 : IntKind.i64.wrap ((k : Int) + 1) = (k : Int) + 1 := by have := HN200.out; rw [IntKind.wrap_i64]; omega
        have HLS : Hid (LastI C' key (if o.k = key ∧ o.kind = 1 then o.v else wt) (if o.k = key ∧ o.kind = 2 then false else if o.k = key ∧ o.kind = 1 then true else th)) := by
          show LastI _ _ _ _
          rw [hrt]
          exact last_step hok o (by rw [HC.out]; exact hLS)
        clear hLS
        obtain ⟨kd, s, x⟩ := o
        simp only at HAT HSTP HLS
        clear hI hok hsm hmo hok' hsm' hmo' hrt hso hat ho hmc hmc'
        go_wp2
        refine wp_region_held_drew (S := fun wx => Below w.heap.size w wx) (by kernel_rfl) HW.out.drew.bel ?_
        intro hS
        replace HW : Hid (LwI w g g6 P C (.slice a1 n1 c1) (.slice a2 n2 c2) (World.drew wr)) := HW.out.drew
        change wpAnyH _ _ _ _ _ _ _ _ (World.drew wr)
        generalize World.drew wr = y0 at *
        try simp only [Act.put, List.setIfInBounds_toArray, List.set_cons_zero, List.set_cons_succ]
        refine wpAnyH_take (i := 0) (v := .pointer (some ⟨g, 0, none⟩)) rfl (by kernel_rfl) (by kernel_rfl) (by kernel_rfl) (fun _ _ _ h => h) (Or.inl ⟨by rfl, fun wx hx => by simp [go_sem]⟩) hS ?_
        simp only [Act.put, List.getElem_toArray, List.getElem_cons_zero, List.setIfInBounds_toArray, List.set_cons_zero, List.set_cons_succ]
        refine wpAnyH_take (i := 2) (v := .slice (some ⟨b, off, none⟩) n cp) rfl (by kernel_rfl) (by kernel_rfl) (by kernel_rfl) (fun _ _ _ h => h) (Or.inl ⟨by rfl, fun wx hx => by simp [go_sem]⟩) hS ?_
        simp only [Act.put, List.getElem_toArray, List.getElem_cons_succ, List.getElem_cons_zero, List.setIfInBounds_toArray, List.set_cons_zero, List.set_cons_succ]
        refine wpAnyH_take (i := 3) (v := .int .i64 (k : Int)) rfl (by kernel_rfl) (by kernel_rfl) (by kernel_rfl) (fun _ _ _ h => h) (Or.inl ⟨by rfl, fun wx hx => by simp [go_sem]⟩) hS ?_
        simp only [Act.put, List.getElem_toArray, List.getElem_cons_succ, List.getElem_cons_zero, List.setIfInBounds_toArray, List.set_cons_zero, List.set_cons_succ]
        refine wpAnyH_take (i := 4) (v := .pointer (some ⟨b, off + k * 3, none⟩)) rfl (by kernel_rfl) (by kernel_rfl) (by kernel_rfl) (fun _ _ _ h => h) (Or.inl ⟨by rfl, fun wx hx => by exact idxO b off n cp k hlt _ _ _ _ rfl rfl rfl _⟩) hS ?_
        simp only [Act.put, List.getElem_toArray, List.getElem_cons_succ, List.getElem_cons_zero, List.setIfInBounds_toArray, List.set_cons_zero, List.set_cons_succ]
        refine wpAnyH_take (i := 5) (v := .agg [.int .i64 kd, .string s, .int .i64 x].toArray) rfl (by kernel_rfl) (by kernel_rfl) (by kernel_rfl) (fun _ _ _ h => h) (Or.inl ⟨by rfl, fun wx hx => by exact load_run 35 _ rfl b (off + k * 3) rfl _ _ (HAT.out _ hx) Try.underlying35 rfl (info_op _ _ _)⟩) hS ?_
        simp only [Act.put, List.getElem_toArray, List.getElem_cons_succ, List.getElem_cons_zero, List.setIfInBounds_toArray, List.set_cons_zero, List.set_cons_succ]
        refine wpAnyH_step 1 (.agg [.int .i64 (C.most : Int), .slice a1 n1 c1, .slice a2 n2 c2, .int .i64 (C.hits : Int), .int .i64 (C.miss : Int)].toArray) y0 (by kernel_rfl) rfl (by rfl) (load_run 27 _ rfl g6 0 rfl [.int .i64 (C.most : Int), .slice a1 n1 c1, .slice a2 n2 c2, .int .i64 (C.hits : Int), .int .i64 (C.miss : Int)] _ HW.out.b6.range Try.underlying27 rfl (info_rc _ _ _ _ _)) hS ?_
        simp only [Act.put, List.getElem_toArray, List.getElem_cons_succ, List.getElem_cons_zero, List.setIfInBounds_toArray, List.set_cons_zero, List.set_cons_succ]
        have hcc := HSTP.out y0 P (.slice a1 n1 c1) (.slice a2 n2 c2) ⟨HW.out.ca, HW.out.rf⟩
        generalize hA : #[Value.pointer (some ⟨g, 0, none⟩), .agg [.int .i64 (C.most : Int), .slice a1 n1 c1, .slice a2 n2 c2, .int .i64 (C.hits : Int), .int .i64 (C.miss : Int)].toArray, .agg [.int .i64 kd, .string s, .int .i64 x].toArray] = AA at hcc
        refine wpAnyH_enter 6 (by kernel_rfl) rfl (by rfl) (f := 11) (args := AA) (by subst hA; simp [go_sem]) hcc ?_
        rintro e z1 ⟨P', vk', vv', rfl, hBo, hmu, hgr⟩
        obtain ⟨a3, n3, c3, a4, n4, c4, hv3, hv4⟩ := hBo.rf.forms
        subst hv3 hv4
        obtain ⟨hb6, hbel, hge⟩ := HW.out.mut hmu hgr
        replace hS := hbel
        refine ⟨_, rfl, hS, ?_⟩
        simp only [Act.put, List.getElem_toArray, List.getElem_cons_succ, List.getElem_cons_zero, List.setIfInBounds_toArray, List.set_cons_zero, List.set_cons_succ]
        refine wpAnyH_take (i := 7) (v := .tuple #[.agg [.int .i64 (C'.most : Int), .slice a3 n3 c3, .slice a4 n4 c4, .int .i64 (C'.hits : Int), .int .i64 (C'.miss : Int)].toArray, .bool true]) rfl (by kernel_rfl) (by kernel_rfl) (by kernel_rfl) (fun _ _ _ h => h) (Or.inl ⟨by rfl, fun wx hx => by simp [go_sem]⟩) hS ?_
        simp only [Act.put, List.getElem_toArray, List.getElem_cons_succ, List.getElem_cons_zero, List.setIfInBounds_toArray, List.set_cons_zero, List.set_cons_succ]
        refine wpAnyH_take (i := 8) (v := .agg [.int .i64 (C'.most : Int), .slice a3 n3 c3, .slice a4 n4 c4, .int .i64 (C'.hits : Int), .int .i64 (C'.miss : Int)].toArray) rfl (by kernel_rfl) (by kernel_rfl) (by kernel_rfl) (fun _ _ _ h => h) (Or.inl ⟨by rfl, fun wx hx => by simp [go_sem]⟩) hS ?_
        simp only [Act.put, List.getElem_toArray, List.getElem_cons_succ, List.getElem_cons_zero, List.setIfInBounds_toArray, List.set_cons_zero, List.set_cons_succ]
        refine wpAnyH_take (i := 9) (v := .bool true) rfl (by kernel_rfl) (by kernel_rfl) (by kernel_rfl) (fun _ _ _ h => h) (Or.inl ⟨by rfl, fun wx hx => by simp [go_sem]⟩) hS ?_
        simp only [Act.put, List.getElem_toArray, List.getElem_cons_succ, List.getElem_cons_zero, List.setIfInBounds_toArray, List.set_cons_zero, List.set_cons_succ]
        refine wpAnyH_storeRow 10 27 (.tmp 8) (.tmp 39) g6 [.int .i64 (C.most : Int), .slice a1 n1 c1, .slice a2 n2 c2, .int .i64 (C.hits : Int), .int .i64 (C.miss : Int)] [.int .i64 (C'.most : Int), .slice a3 n3 c3, .slice a4 n4 c4, .int .i64 (C'.hits : Int), .int .i64 (C'.miss : Int)] hb6 rfl (info_rc _ _ _ _ _) (one_rc _ _ _ ⟨rfl, rfl, rfl⟩ _ _ _ _ _ _) (by kernel_rfl) rfl (by rfl) rfl rfl rfl ?_
        intro yE hs
        have hbE : Below w.heap.size w yE := hS.trans (hs.only.below HW.out.g6 hS.size)
        have HW2 : Hid (LwI w g g6 P' C' (.slice a3 n3 c3) (.slice a4 n4 c4) yE) := ⟨hBo.ca.only hb6 hs.only (by decide) (by decide), hBo.rf.only hb6 (by decide) (by decide) hs.only, hs.blk, hbE, hge, HW.out.g6⟩
        refine ⟨hbE, ?_⟩
        simp only [Act.put, List.getElem_toArray, List.getElem_cons_succ, List.getElem_cons_zero]
        refine wpAnyH_done (by kernel_rfl) ?_ _
        clear hcc hA hbE hs hge hb6 hbel hS hmu hgr hBo HW
        have hrg := HAT.out yE HW2.out.bel
        have r0 : yE.cell? ⟨b, off + k * 3, none⟩ = some (.int .i64 kd) := hrg 0 _ rfl
        have r1 : yE.cell? ⟨b, off + k * 3 + 1, none⟩ = some (.string s) := hrg 1 _ rfl
        have r2 : yE.cell? ⟨b, off + k * 3 + 2, none⟩ = some (.int .i64 x) := hrg 2 _ rfl
        have k0 : (0 : Int) ≤ (k : Int) := by omega
        have k3 : (k : Int) < (n : Int) := by omega
        have hix := idxO b off n cp k hlt
        clear hrg
        by_cases ek : s = key
        · have hq : (s.toList == key.toList) = true := by rw [str_eq]; exact decide_eq_true ek
          have HEK : Hid (s = key) := ek
          clear ek
          by_cases e1 : kd = 1
          · subst e1
            have HE : Hid (LastI C' key x true) := by have := HLS.out; rw [if_pos ⟨HEK.out, rfl⟩, if_neg (by omega), if_pos ⟨HEK.out, rfl⟩] at this; exact this
            go_wp2
            refine ⟨⟨k + 1, x, true, hlt, rfl, rfl, rfl, by rw [← HC'.out]; exact HE.out, P', _, _, by rw [← HC'.out]; exact HW2.out⟩, ?_⟩
            simp [intOf]; omega
          · by_cases e2 : kd = 2
            · subst e2
              have HE : Hid (LastI C' key wt false) := by have := HLS.out; rw [if_neg (by omega), if_pos ⟨HEK.out, rfl⟩] at this; exact this
              go_wp2
              refine ⟨⟨k + 1, wt, false, hlt, rfl, rfl, rfl, by rw [← HC'.out]; exact HE.out, P', _, _, by rw [← HC'.out]; exact HW2.out⟩, ?_⟩
              simp [intOf]; omega
            · have HE : Hid (LastI C' key wt th) := by have := HLS.out; rw [if_neg (by omega), if_neg (by omega), if_neg (by omega)] at this; exact this
              go_wp2
              refine ⟨⟨k + 1, wt, th, hlt, rfl, rfl, rfl, by rw [← HC'.out]; exact HE.out, P', _, _, by rw [← HC'.out]; exact HW2.out⟩, ?_⟩
              simp [intOf]; omega
        · have hq : (s.toList == key.toList) = false := by rw [str_eq]; exact decide_eq_false ek
          have HE : Hid (LastI C' key wt th) := by have := HLS.out; rw [if_neg (fun h => ek h.1), if_neg (fun h => ek h.1), if_neg (fun h => ek h.1)] at this; exact this
          clear ek
          go_wp2
          refine ⟨⟨k + 1, wt, th, hlt, rfl, rfl, rfl, by rw [← HC'.out]; exact HE.out, P', _, _, by rw [← HC'.out]; exact HW2.out⟩, ?_⟩
          simp [intOf]; omega
      · have hkk : k = n := by omega
        subst hkk
        obtain ⟨hok, hsm, hmo, _, _⟩ := HRD.out HN200.out k
        have hg := kaGet_any hI.ca hsm hkey
        have HBL : Hid (Below w.heap.size w wr ∧ ∀ k, P k → w.heap.size ≤ k) := ⟨hI.bel, hI.ge⟩
        cases e : fdK (runC C0 (l.take k)).l key with
        | none =>
          rw [show getV (runC C0 (l.take k)) key = 0 by unfold getV; rw [e]; rfl, show hasK (runC C0 (l.take k)) key = false by unfold hasK; rw [e]; rfl] at hg
          have HGT : Hid (Calls Try.prog 15 #[.pointer (some ⟨g, 0, none⟩), .string key] wr fun r w' => ∃ P', r = .returned (.tuple #[.int .i64 0, .bool false]) ∧ CaIs w' g P' (getC (runC C0 (l.take k)) key) ∧ Mut P wr w' ∧ Grew wr P P') := hg
          clear hg hok hsm hmo hI hLS e
          have tk4 : Hid True := trivial
          have tk5 : Hid True := trivial
          go_wp2_with (first
              | (clear tk4; go_at_call 15; refine (HGT.out).mono ?_; rintro e7 y7 ⟨P7, rfl, ca7, mu7, gr7⟩
                 have HB7 : Hid (Below w.heap.size w y7) := HBL.out.1.trans (mu7.below HBL.out.1.size HBL.out.2)
                 clear ca7 mu7 gr7)
              | (clear tk5; go_at_call 10; refine (works16_any _).mono ?_; rintro ew yw ⟨rfl, blw⟩
                 have HBW : Hid (Below w.heap.size w yw) := HB7.out.trans (blw.mono HB7.out.size)
                 clear blw))
          go_ret
          exact ⟨rfl, HBW.out⟩
        | some v =>
          obtain ⟨rfl, rfl⟩ := hLS.is v e
          rw [show getV (runC C0 (l.take k)) key = v by unfold getV; rw [e]; rfl, show hasK (runC C0 (l.take k)) key = true by unfold hasK; rw [e]; rfl] at hg
          have HGT : Hid (Calls Try.prog 15 #[.pointer (some ⟨g, 0, none⟩), .string key] wr fun r w' => ∃ P', r = .returned (.tuple #[.int .i64 v, .bool true]) ∧ CaIs w' g P' (getC (runC C0 (l.take k)) key) ∧ Mut P wr w' ∧ Grew wr P P') := hg
          clear hg hok hsm hmo hI hLS e
          have tk4 : Hid True := trivial
          have tk5 : Hid True := trivial
          go_wp2_with (first
              | (clear tk4; go_at_call 15; refine (HGT.out).mono ?_; rintro e7 y7 ⟨P7, rfl, ca7, mu7, gr7⟩
                 have HB7 : Hid (Below w.heap.size w y7) := HBL.out.1.trans (mu7.below HBL.out.1.size HBL.out.2)
                 clear ca7 mu7 gr7)
              | (clear tk5; go_at_call 10; refine (works16_any _).mono ?_; rintro ew yw ⟨rfl, blw⟩
                 have HBW : Hid (Below w.heap.size w yw) := HB7.out.trans (blw.mono HB7.out.size)
                 clear blw))
          go_ret
          exact ⟨rfl, HBW.out⟩
  · have q1 : decide ((n : Int) ≤ 200) = false := decide_eq_false (by omega)
    clear hn
    go_enter Try.func5, Try.ntmps5
    have tk0 : Hid True := trivial
    have tk1 : Hid True := trivial
    have tk2 : Hid True := trivial
    have tk3 : Hid True := trivial
    have tk4 : Hid True := trivial
    go_wp2_with (first
      | (clear tk0; go_at_call 8; refine (HST.out).mono ?_; rintro e0 y0 ⟨g, P, rfl, ca, bl, hP⟩
         have HCA : Hid (CaIs y0 g P C0) := ca
         have HB : Hid (Below w.heap.size w y0 ∧ ∀ k, P k → w.heap.size ≤ k) := ⟨bl, hP⟩
         clear ca bl hP)
      | (clear tk1; with_reducible refine wpSeq_allocRc ?_ ?_ ?_
         · rfl
         · rfl
         intro g6 y1 nn
         have H6 : Hid (Blk y1 g6 zRc 27) := nn.blk
         have HG6 : Hid (w.heap.size ≤ g6) := Nat.le_trans HB.out.1.size nn.ge
         replace HCA : Hid (CaIs y1 g P C0) := HCA.out.below nn.below
         replace HB : Hid (Below w.heap.size w y1 ∧ ∀ k, P k → w.heap.size ≤ k) := ⟨HB.out.1.trans (nn.below.mono HB.out.1.size), HB.out.2⟩
         clear nn)
      | (clear tk2; with_reducible refine wpSeq_storeRow 27 (.tmp 8) (.tmp 18) g6 zRc [.int .i64 (C0.most : Int), .slice none 0 0, .slice none 0 0, .int .i64 (C0.hits : Int), .int .i64 (C0.miss : Int)] H6.out rfl (info_rc _ _ _ _ _) ?_ ?_ ?_ ?_ ?_ ?_
         · exact one_rc _ _ _ ⟨rfl, rfl, rfl⟩ _ _ _ _ _ _
         · rfl
         · rfl
         · rfl
         · rfl
         intro y2 sr
         have HI : Hid (LwI w g g6 P C0 (.slice none 0 0) (.slice none 0 0) y2) := ⟨HCA.out.only H6.out sr.only (by decide) (by decide), by rw [HC0.out]; exact RfV.nilC _ _, sr.blk, HB.out.1.trans (sr.only.below HG6.out HB.out.1.size), HB.out.2, HG6.out⟩
         clear sr HCA HB H6 HG6)
      | (clear tk3; go_at_call 9; refine (few16_any _ _ _ _).mono ?_; rintro ef yf ⟨rfl, rfl⟩
         rw [q1])
      | (clear tk4; go_at_call 10; refine (works16_any _).mono ?_; rintro ew yw ⟨rfl, blw⟩
         have HBW : Hid (Below w.heap.size w yw) := HI.out.bel.trans (blw.mono HI.out.bel.size)
         clear blw))
    go_ret
    exact ⟨rfl, HBW.out⟩
end Go.Proofs.Ytgmemibhddnjjaa

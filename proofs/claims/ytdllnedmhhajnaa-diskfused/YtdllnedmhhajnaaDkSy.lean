/- DiskSynced over what disk's functions do (layer 13). -/
import Derived.Test.YtdllnedmhhajnaaDkFu
namespace Go.Proofs.Ytdllnedmhhajnaa
open Go.RowKit
set_option maxRecDepth 100000
theorem cut_op (f : Operand → Value) (o : Oper) (x lo hi : Operand) (ho : o.op = .slice 24 x (some lo) (some hi) none) (ga off n cap l m : Nat) (hm : 0 < m) (hn : l + m ≤ n) (hc : n ≤ cap) (hx : f x = .slice (some ⟨ga, off, none⟩) n cap) (hlo : f lo = .int .i64 (l : Int)) (hhi : f hi = .int .i64 ((l + m : Nat) : Int)) (w : World) :
    (execOp f o).run Try.prog w = .ok (.value (.slice (some ⟨ga, off + l, none⟩) m (cap - l))) w := by
  unfold execOp
  rw [ho]
  simp only [hx, hlo, hhi, Option.map_some, Option.map_none, Sem.run_bind, cut_run ga off n cap l m hm hn hc w]
  rfl
theorem Reads.cap {w : World} {ad : Option Addr} {n c : Nat} {l : Bs} (h : Reads w (.slice ad n c) l) : l.length ≤ c := by
  obtain ⟨ad', cap, hv, hc, _⟩ := h
  simp only [Value.slice.injEq] at hv
  obtain ⟨_, _, rfl⟩ := hv
  exact hc
/-- what was safe, what waited, what is there now -/
structure SyI (w : World) (vn vs vw : Value) (cw sf : Bs) (wt : List (Nat × Bs)) (W : World) : Prop where
  bel : Below w.heap.size w W
  now : Reads W vn cw
  safe : Reads W vs sf
  wait : ReadsW W vw wt
theorem ReadsW.drew {w : World} {v : Value} {l : List (Nat × Bs)} (h : ReadsW w v l) : ReadsW w.drew v l := h
theorem SyI.drew {w : World} {vn vs vw : Value} {cw sf : Bs} {wt : List (Nat × Bs)} {W : World} (h : SyI w vn vs vw cw sf wt W) : SyI w vn vs vw cw sf wt W.drew := ⟨h.bel.drew, h.now.below (Below.refl _ _).drew, h.safe.below (Below.refl _ _).drew, h.wait.drew⟩
def touchB (l : List (Nat × Bs)) (i : Nat) : Bool := l.any (fun p => p.1 == i)
theorem touch_more {l : List (Nat × Bs)} {k i : Nat} (hk : k < l.length) : touchB (l.take (k + 1)) i = (touchB (l.take k) i || ((l.getD k (0, [])).1 == i)) := by
  rw [(getD_memW hk).2, touchB, List.any_append]
  simp [touchB]
theorem touch_no {l : List (Nat × Bs)} {i : Nat} (h : touchB l i = false) : ∀ p ∈ l, p.1 ≠ i := fun p hp he => by
  have h1 : touchB l i = true := List.any_eq_true.2 ⟨p, hp, by rw [he]; exact beq_self_eq_true i⟩
  rw [h] at h1
  cases h1
set_option maxRecDepth 100000 in
set_option maxHeartbeats 8000000 in
theorem diskSynced_law {Dk : World → Nat → (Nat → Prop) → DkT → Prop} (OPS : DkOps Dk) (n : Int) (v u : Value) (l : List OpT) (keep : List Int) (w : World) (hl : ReadsO w v l) (hk : ReadsI w u keep) :
    Calls Try.prog 5 #[.int .i64 n, v, u] w fun e w' => e = .returned (.bool true) ∧ Below w.heap.size w w' := by
  obtain ⟨ad, cp, hv⟩ := hl.form
  obtain ⟨nl, HNL⟩ : ∃ n, Hid (n = l.length) := ⟨_, rfl⟩
  rw [← HNL.out] at hv
  obtain ⟨ak, ck, hum⟩ := hk.form
  obtain ⟨kl, HKL⟩ : ∃ n, Hid (n = keep.length) := ⟨_, rfl⟩
  rw [← HKL.out] at hum
  subst hv hum
  have HL : Hid (ReadsO w (.slice ad nl cp) l) := hl
  have HK : Hid (ReadsI w (.slice ak kl ck) keep) := hk
  have HBW : Hid (Below w.heap.size w w) := Below.refl _ _
  clear hl hk
  by_cases h60 : nl ≤ 60
  case neg =>
    have HF : Hid (¬ nl ≤ 60) := h60
    clear h60
    go_enter Try.func5, Try.ntmps5
    have tk0 : Hid True := trivial
    have tk1 : Hid True := trivial
    have tk2 : Hid True := trivial
    have tk3 : Hid True := trivial
    have tk4 : Hid True := trivial
    go_wp2_with (first
      | (clear tk0; go_at_call 8; refine (start13_any OPS n w).mono ?_; rintro e0 y1 ⟨sn, g, P, vs0, hs1, hs8, rfl, hdk, hrs, hbz, hpw⟩
         obtain ⟨a0, c0, aw0, cw0, hvs, hvw⟩ := hrs.form
         clear hvw
         obtain ⟨n0, HN0⟩ : ∃ n, Hid (n = (zeroD sn).safe.length) := ⟨_, rfl⟩
         rw [← HN0.out] at hvs
         subst hvs
         have HDK : Hid (Dk y1 g P (zeroD sn)) := hdk
         have HPW : Hid (∀ k, P k → w.heap.size ≤ k) := hpw
         have HRS : Hid (RdS P y1 (zeroD sn) (.slice a0 n0 c0) (.slice none 0 0)) := hrs
         have HSN : Hid (1 ≤ sn ∧ sn ≤ 8) := ⟨hs1, hs8⟩
         replace HBW : Hid (Below w.heap.size w y1) := hbz
         clear hdk hpw hrs hbz hs1 hs8)
      | (clear tk1; with_reducible refine wpSeq_allocRd ?_ ?_ ?_
         · rfl
         · rfl
         intro gr y2 nn
         have NP_gr : Hid (¬ P gr) := fun h => absurd (OPS.lt HDK.out gr h) (by have h2 := nn.ge; omega)
         have GE_gr : Hid (w.heap.size ≤ gr) := Nat.le_trans HBW.out.size nn.ge
         have HRX : Hid (RdS (Ext P [gr]) y1 (zeroD sn) (.slice a0 n0 c0) (.slice none 0 0)) := HRS.out.go (Mut.refl _ _) (fun k hk h => h.elim id (fun h => by rw [List.mem_singleton.1 h] at hk; have h2 := nn.ge; omega)))
      | (clear tk2; with_reducible refine wpSeq_storeRow 27 (.tmp 8) (.tmp 20) gr [.slice none 0 0, .slice none 0 0, .int .i64 0, .bool false] [.slice a0 n0 c0, .slice none 0 0, .int .i64 (-1), .bool false] ?_ ?_ ?_ ?_ ?_ ?_ ?_ ?_ ?_
         · exact nn.blk
         · rfl
         · exact info_rd _ _ _ _
         · exact one_rd _ _ _ _ _ _ _ _
         · rfl
         · rfl
         · rfl
         · rfl
         intro y3 hs
         have hbz := nn.below.trans (hs.only.below nn.ge nn.below.size)
         replace HDK : Hid (Dk y3 g P (zeroD sn)) := OPS.same HDK.out hbz.size (fun k hk => hbz.block k (OPS.lt HDK.out k hk))
         replace HRS : Hid (RdS P y3 (zeroD sn) (.slice a0 n0 c0) (.slice none 0 0)) := HRS.out.below hbz
         replace HBW : Hid (Below w.heap.size w y3) := HBW.out.trans (hbz.mono HBW.out.size)
         have HR : Hid (Blk y3 gr [.slice a0 n0 c0, .slice none 0 0, .int .i64 (-1), .bool false] 27) := hs.blk
         replace HRX : Hid (RdS (Ext P [gr]) y3 (zeroD sn) (.slice a0 n0 c0) (.slice none 0 0)) := HRX.out.below hbz
         clear nn hs hbz)
      | (clear tk3; go_at_call 9; refine (few13_no _ _ _ y3 HF.out).mono ?_; rintro e y4 ⟨rfl, hbz⟩
         replace HR : Hid (Blk y4 gr [.slice a0 n0 c0, .slice none 0 0, .int .i64 (-1), .bool false] 27) := HR.out.below hbz HR.out.lt
         replace HDK : Hid (Dk y4 g P (zeroD sn)) := OPS.same HDK.out hbz.size (fun k hk => hbz.block k (OPS.lt HDK.out k hk))
         replace HBW : Hid (Below w.heap.size w y4) := HBW.out.trans (hbz.mono HBW.out.size)
         clear hbz )
      | (clear tk4; go_at_call 10; refine (works13_any OPS y4).mono ?_; rintro e y5 ⟨rfl, hbz⟩
         replace HR : Hid (Blk y5 gr [.slice a0 n0 c0, .slice none 0 0, .int .i64 (-1), .bool false] 27) := HR.out.below hbz HR.out.lt
         replace HDK : Hid (Dk y5 g P (zeroD sn)) := OPS.same HDK.out hbz.size (fun k hk => hbz.block k (OPS.lt HDK.out k hk))
         replace HBW : Hid (Below w.heap.size w y5) := HBW.out.trans (hbz.mono HBW.out.size)
         clear hbz ))
    go_ret
    exact ⟨rfl, HBW.out⟩
  have HF : Hid (nl ≤ 60) := h60
  clear h60
  go_enter Try.func5, Try.ntmps5
  have tk0 : Hid True := trivial
  have tk1 : Hid True := trivial
  have tk2 : Hid True := trivial
  have tk3 : Hid True := trivial
  go_wp2_with (first
    | (clear tk0; go_at_call 8; refine (start13_any OPS n w).mono ?_; rintro e0 y1 ⟨sn, g, P, vs0, hs1, hs8, rfl, hdk, hrs, hbz, hpw⟩
       obtain ⟨a0, c0, aw0, cw0, hvs, hvw⟩ := hrs.form
       clear hvw
       obtain ⟨n0, HN0⟩ : ∃ n, Hid (n = (zeroD sn).safe.length) := ⟨_, rfl⟩
       rw [← HN0.out] at hvs
       subst hvs
       have HDK : Hid (Dk y1 g P (zeroD sn)) := hdk
       have HPW : Hid (∀ k, P k → w.heap.size ≤ k) := hpw
       have HRS : Hid (RdS P y1 (zeroD sn) (.slice a0 n0 c0) (.slice none 0 0)) := hrs
       have HSN : Hid (1 ≤ sn ∧ sn ≤ 8) := ⟨hs1, hs8⟩
       replace HBW : Hid (Below w.heap.size w y1) := hbz
       clear hdk hpw hrs hbz hs1 hs8)
    | (clear tk1; with_reducible refine wpSeq_allocRd ?_ ?_ ?_
       · rfl
       · rfl
       intro gr y2 nn
       have NP_gr : Hid (¬ P gr) := fun h => absurd (OPS.lt HDK.out gr h) (by have h2 := nn.ge; omega)
       have GE_gr : Hid (w.heap.size ≤ gr) := Nat.le_trans HBW.out.size nn.ge
       have HRX : Hid (RdS (Ext P [gr]) y1 (zeroD sn) (.slice a0 n0 c0) (.slice none 0 0)) := HRS.out.go (Mut.refl _ _) (fun k hk h => h.elim id (fun h => by rw [List.mem_singleton.1 h] at hk; have h2 := nn.ge; omega)))
    | (clear tk2; with_reducible refine wpSeq_storeRow 27 (.tmp 8) (.tmp 20) gr [.slice none 0 0, .slice none 0 0, .int .i64 0, .bool false] [.slice a0 n0 c0, .slice none 0 0, .int .i64 (-1), .bool false] ?_ ?_ ?_ ?_ ?_ ?_ ?_ ?_ ?_
       · exact nn.blk
       · rfl
       · exact info_rd _ _ _ _
       · exact one_rd _ _ _ _ _ _ _ _
       · rfl
       · rfl
       · rfl
       · rfl
       intro y3 hs
       have hbz := nn.below.trans (hs.only.below nn.ge nn.below.size)
       replace HDK : Hid (Dk y3 g P (zeroD sn)) := OPS.same HDK.out hbz.size (fun k hk => hbz.block k (OPS.lt HDK.out k hk))
       replace HRS : Hid (RdS P y3 (zeroD sn) (.slice a0 n0 c0) (.slice none 0 0)) := HRS.out.below hbz
       replace HBW : Hid (Below w.heap.size w y3) := HBW.out.trans (hbz.mono HBW.out.size)
       have HR : Hid (Blk y3 gr [.slice a0 n0 c0, .slice none 0 0, .int .i64 (-1), .bool false] 27) := hs.blk
       replace HRX : Hid (RdS (Ext P [gr]) y3 (zeroD sn) (.slice a0 n0 c0) (.slice none 0 0)) := HRX.out.below hbz
       clear nn hs hbz)
    | (clear tk3; go_at_call 9; refine (few13_yes _ _ _ y3 HF.out).mono ?_; rintro e0 y4 ⟨rfl, hbz⟩
       replace HRX : Hid (RdS (Ext P [gr]) y4 (zeroD sn) (.slice a0 n0 c0) (.slice none 0 0)) := HRX.out.below hbz
       replace HR : Hid (Blk y4 gr [.slice a0 n0 c0, .slice none 0 0, .int .i64 (-1), .bool false] 27) := HR.out.below hbz HR.out.lt
       replace HDK : Hid (Dk y4 g P (zeroD sn)) := OPS.same HDK.out hbz.size (fun k hk => hbz.block k (OPS.lt HDK.out k hk))
       replace HRS : Hid (RdS P y4 (zeroD sn) (.slice a0 n0 c0) (.slice none 0 0)) := HRS.out.below hbz
       replace HBW : Hid (Below w.heap.size w y4) := HBW.out.trans (hbz.mono HBW.out.size)
       clear hbz))
  have HI0 : Hid (DdI Dk w g gr sn 0 P (zeroD sn) (.slice a0 n0 c0) (.slice none 0 0) y4) := ⟨HBW.out, HDK.out, HPW.out, HR.out, HRX.out, NP_gr.out, GE_gr.out, Nat.le_refl _, zero_size sn⟩
  clear HDK HPW HRS HRX HR NP_gr HBW
  go_loopw [9] (fun i wr => ∃ (k : Nat) (P : Nat → Prop) (D : DkT) (va : Option Addr) (na ca : Nat) (vb : Option Addr) (nb cb2 : Nat), k ≤ nl ∧ i = .int .i64 (k : Int) ∧ Hid (DdI Dk w g gr sn k P D (.slice va na ca) (.slice vb nb cb2) wr)) (fun i _ => nl - (intOf i).toNat)
  case atStart => exact ⟨0, P, zeroD sn, a0, n0, c0, none, 0, 0, Nat.zero_le _, rfl, HI0⟩
  case round =>
    clear HI0
    obtain ⟨k, P, D, va, na, ca, vb, nb, cb2, hkn, rfl, HI⟩ := hrel
    obtain ⟨lf, HLF⟩ : ∃ x, Hid (x = D.left) := ⟨_, rfl⟩
    obtain ⟨dn, HDN⟩ : ∃ x, Hid (x = D.down) := ⟨_, rfl⟩
    have HRC : Hid (rdC D (.slice va na ca) (.slice vb nb cb2) = [.slice va na ca, .slice vb nb cb2, .int .i64 lf, .bool dn]) := by show _ = _; rw [rdC, HLF.out, HDN.out]
    have HRR : Hid (Blk wr gr [.slice va na ca, .slice vb nb cb2, .int .i64 lf, .bool dn] 27) := by rw [← HRC.out]; exact HI.out.rr
    by_cases hlt : k < nl
    case pos =>
      have hlk : (k : Int) < (nl : Int) := by omega
      have f5 : IntKind.i64.wrap ((k : Int) + 1) = (k : Int) + 1 := by rw [IntKind.wrap_i64]; have := HF.out; omega
      have HLT : Hid (k < l.length) := by show _ < _; rw [← HNL.out]; exact hlt
      obtain ⟨b, off, rfl, hat⟩ := HL.out.at (Nat.lt_of_le_of_lt (Nat.zero_le _) HLT.out)
      obtain ⟨vk, hrg, hki, hn63⟩ := hat k HLT.out
      obtain ⟨o, HO⟩ : ∃ o, Hid (o = l.getD k zeroO) := ⟨_, rfl⟩
      rw [← HO.out] at hrg hki hn63
      obtain ⟨co, HCO⟩ : ∃ c, Hid (c = opC o vk) := ⟨_, rfl⟩
      have HRG : Hid (∀ W : World, Below w.heap.size w W → W.rangeAt b (off + k * 5) co) := fun W hh => by rw [HCO.out]; exact range_below hrg hh
      have HIO : Hid ((Try.prog.info? 36).map (·.size) = some co.length) := by show _ = _; rw [HCO.out]; exact info_op _ _ _ _ _
      have HKP : Hid (ReadsI w vk o.keep) := hki
      obtain ⟨D1, HD1⟩ : ∃ x, Hid (x = stepD D o) := ⟨_, rfl⟩
      obtain ⟨l1, HL1⟩ : ∃ x, Hid (x = D1.left) := ⟨_, rfl⟩
      obtain ⟨d1, HDD⟩ : ∃ x, Hid (x = D1.down) := ⟨_, rfl⟩
      have HRF : Hid (∀ x y, rdC D1 x y = [x, y, .int .i64 l1, .bool d1]) := fun x y => by rw [rdC, HL1.out, HDD.out]
      have HWL : Hid (D1.wait.length ≤ k + 1) := by rw [HD1.out]; have h1 := step_wait D o; have h2 := HI.out.wl; show _ ≤ _; omega
      have HS1 : Hid (sizeD D1 = sn) := by rw [HD1.out]; exact (step_size (OPS.ok HI.out.dk) o).trans HI.out.sz
      have HST : Hid (∀ (W : World) (X : List Nat), Dk W g P D → RdS (Ext P X) W D (.slice va na ca) (.slice vb nb cb2) → (∀ k, k ∈ X → k < W.heap.size) → Sta P W (fun W' => ReadsI W' vk o.keep) → Calls Try.prog 11 #[.pointer (some ⟨g, 0, none⟩), .agg [.slice va na ca, .slice vb nb cb2, .int .i64 lf, .bool dn].toArray, .agg co.toArray] W fun r w' => ∃ P1 xa xn xc ya yn yc, r = .returned (.tuple #[.agg [.slice xa xn xc, .slice ya yn yc, .int .i64 l1, .bool d1].toArray, .bool true]) ∧ Dk w' g P1 D1 ∧ RdS (Ext P1 X) w' D1 (.slice xa xn xc) (.slice ya yn yc) ∧ Mut P W w' ∧ Grew W P P1) := fun W X h1 h2 h3 h4 => by
        have h := step13_any OPS h1 h2 h3 (by have h5 := HI.out.wl; have h6 := HF.out; omega) h4 hn63
        rw [HRC.out, ← HCO.out, ← HD1.out] at h
        refine h.mono fun e w' h => ?_
        obtain ⟨P1, vs', vw', e1, e2, e3, e4, e5⟩ := h.ex
        obtain ⟨x1, x2, x3, x4, f1, f2⟩ := e3.form
        subst f1 f2
        rw [HRF.out] at e1
        exact ⟨P1, _, _, _, _, _, _, e1, e2, e3, e4, e5⟩
      clear hat hrg hki hn63
      go_wp2
      refine wp_region_held_drew (S := Mut (Ext P [gr]) (World.drew wr)) (by kernel_rfl) (Mut.refl _ _) ?_
      intro hS
      replace HI : Hid (DdI Dk w g gr sn k P D (.slice va na ca) (.slice vb nb cb2) (World.drew wr)) := HI.out.drew OPS
      replace HRR : Hid (Blk (World.drew wr) gr [.slice va na ca, .slice vb nb cb2, .int .i64 lf, .bool dn] 27) := HRR.out.drew
      change wpAnyH _ _ _ _ _ _ _ _ (World.drew wr)
      generalize World.drew wr = y0 at *
      try simp only [Act.put, List.setIfInBounds_toArray, List.set_cons_zero, List.set_cons_succ]
      refine wpAnyH_take (i := 0) (v := .pointer (some ⟨g, 0, none⟩)) rfl (by kernel_rfl) (by kernel_rfl) (by kernel_rfl) (fun _ _ _ h => h) (Or.inl ⟨by rfl, fun wx hx => by simp [go_sem]⟩) hS ?_
      simp only [Act.put, List.getElem_toArray, List.getElem_cons_zero, List.setIfInBounds_toArray, List.set_cons_zero, List.set_cons_succ]
      refine wpAnyH_take (i := 2) (v := .slice (some ⟨b, off, none⟩) nl cp) rfl (by kernel_rfl) (by kernel_rfl) (by kernel_rfl) (fun _ _ _ h => h) (Or.inl ⟨by rfl, fun wx hx => by simp [go_sem]⟩) hS ?_
      simp only [Act.put, List.getElem_toArray, List.getElem_cons_succ, List.getElem_cons_zero, List.setIfInBounds_toArray, List.set_cons_zero, List.set_cons_succ]
      refine wpAnyH_take (i := 3) (v := .int .i64 (k : Int)) rfl (by kernel_rfl) (by kernel_rfl) (by kernel_rfl) (fun _ _ _ h => h) (Or.inl ⟨by rfl, fun wx hx => by simp [go_sem]⟩) hS ?_
      simp only [Act.put, List.getElem_toArray, List.getElem_cons_succ, List.getElem_cons_zero, List.setIfInBounds_toArray, List.set_cons_zero, List.set_cons_succ]
      refine wpAnyH_take (i := 4) (v := .pointer (some ⟨b, off + k * 5, none⟩)) rfl (by kernel_rfl) (by kernel_rfl) (by kernel_rfl) (fun _ _ _ h => h) (Or.inl ⟨by rfl, fun wx hx => by exact idxO b off cp nl k hlt _ _ _ _ rfl rfl rfl _⟩) hS ?_
      simp only [Act.put, List.getElem_toArray, List.getElem_cons_succ, List.getElem_cons_zero, List.setIfInBounds_toArray, List.set_cons_zero, List.set_cons_succ]
      refine wpAnyH_take (i := 5) (v := .agg co.toArray) rfl (by kernel_rfl) (by kernel_rfl) (by kernel_rfl) (fun _ _ _ h => h) (Or.inl ⟨by rfl, fun wx hx => by exact load_run 36 _ rfl b (off + k * 5) rfl co _ (HRG.out _ (HI.out.bel.trans (hx.below HI.out.bel.size (ext_ge HI.out.pw HI.out.wr)))) Try.underlying36 rfl HIO.out⟩) hS ?_
      simp only [Act.put, List.getElem_toArray, List.getElem_cons_succ, List.getElem_cons_zero, List.setIfInBounds_toArray, List.set_cons_zero, List.set_cons_succ]
      refine wpAnyH_step 1 (.agg [.slice va na ca, .slice vb nb cb2, .int .i64 lf, .bool dn].toArray) y0 (by kernel_rfl) rfl (by rfl) (load_run 27 _ rfl gr 0 rfl [.slice va na ca, .slice vb nb cb2, .int .i64 lf, .bool dn] _ HRR.out.range Try.underlying27 rfl (info_rd _ _ _ _)) hS ?_
      simp only [Act.put, List.getElem_toArray, List.getElem_cons_succ, List.getElem_cons_zero, List.setIfInBounds_toArray, List.set_cons_zero, List.set_cons_succ]
      have hcc := HST.out y0 [gr] HI.out.dk HI.out.rs (fun k hk => by rw [List.mem_singleton.1 hk]; exact HI.out.rr.lt) (fun W' m => HKP.out.below (HI.out.bel.trans (m.below HI.out.bel.size HI.out.pw)))
      generalize hA : (#[.pointer (some ⟨g, 0, none⟩), .agg [.slice va na ca, .slice vb nb cb2, .int .i64 lf, .bool dn].toArray, .agg co.toArray] : Array Value) = AA at hcc
      refine wpAnyH_enter 6 (by kernel_rfl) rfl (by rfl) (f := 11) (args := AA) ?_ hcc ?_
      · subst hA; simp [go_sem]
      clear hcc hA
      rintro e z1 ⟨P1, xa, xn, xc, ya, yn, yc, rfl, hdk, hrs, hm, hgr⟩
      replace hS : Mut (Ext P [gr]) y0 z1 := hm.ext _
      have hba : Blk z1 gr [.slice va na ca, .slice vb nb cb2, .int .i64 lf, .bool dn] 27 := hm.blk HRR.out HI.out.np
      refine ⟨_, rfl, hS, ?_⟩
      simp only [Act.put, List.getElem_toArray, List.getElem_cons_succ, List.getElem_cons_zero, List.setIfInBounds_toArray, List.set_cons_zero, List.set_cons_succ]
      refine wpAnyH_take (i := 7) (v := .tuple #[.agg [.slice xa xn xc, .slice ya yn yc, .int .i64 l1, .bool d1].toArray, .bool true]) rfl (by kernel_rfl) (by kernel_rfl) (by kernel_rfl) (fun _ _ _ h => h) (Or.inl ⟨by rfl, fun wx hx => by simp [go_sem]⟩) hS ?_
      simp only [Act.put, List.getElem_toArray, List.getElem_cons_succ, List.getElem_cons_zero, List.setIfInBounds_toArray, List.set_cons_zero, List.set_cons_succ]
      refine wpAnyH_take (i := 8) (v := .agg [.slice xa xn xc, .slice ya yn yc, .int .i64 l1, .bool d1].toArray) rfl (by kernel_rfl) (by kernel_rfl) (by kernel_rfl) (fun _ _ _ h => h) (Or.inl ⟨by rfl, fun wx hx => by simp [go_sem]⟩) hS ?_
      simp only [Act.put, List.getElem_toArray, List.getElem_cons_succ, List.getElem_cons_zero, List.setIfInBounds_toArray, List.set_cons_zero, List.set_cons_succ]
      refine wpAnyH_take (i := 9) (v := .bool true) rfl (by kernel_rfl) (by kernel_rfl) (by kernel_rfl) (fun _ _ _ h => h) (Or.inl ⟨by rfl, fun wx hx => by simp [go_sem]⟩) hS ?_
      simp only [Act.put, List.getElem_toArray, List.getElem_cons_succ, List.getElem_cons_zero, List.setIfInBounds_toArray, List.set_cons_zero, List.set_cons_succ]
      refine wpAnyH_storeRow 10 27 (.tmp 8) (.tmp 41) gr [.slice va na ca, .slice vb nb cb2, .int .i64 lf, .bool dn] [.slice xa xn xc, .slice ya yn yc, .int .i64 l1, .bool d1] hba rfl (info_rd _ _ _ _) (one_rd _ _ _ _ _ _ _ _) (by kernel_rfl) rfl (by rfl) rfl rfl rfl ?_
      intro yE hs
      replace hS : Mut (Ext P [gr]) y0 yE := hS.trans (fun _ _ h => h) (hs.only.mut (Or.inr (by simp)))
      refine ⟨hS, ?_⟩
      simp only [Act.put, List.getElem_toArray, List.getElem_cons_succ, List.getElem_cons_zero]
      refine wpAnyH_done (by kernel_rfl) ?_ _
      have HI2 : Hid (DdI Dk w g gr sn (k + 1) P1 D1 (.slice xa xn xc) (.slice ya yn yc) yE) := HI.out.step3 OPS hm hgr hdk hrs hs.only (by rw [HRF.out]; exact hs.blk) HWL.out HS1.out
      clear hs hdk hrs hm hgr hba
      go_wp2
      go_roundw
      case rel => exact ⟨k + 1, P1, D1, xa, xn, xc, ya, yn, yc, by omega, by simp, HI2⟩
      case measure => simp [intOf]; omega
    case neg =>
      have hlk : ¬ ((k : Int) < (nl : Int)) := by omega
      have HWT : Hid (D.wait.length ≤ 200) := by have h1 := HI.out.wl; have h2 := HF.out; show D.wait.length ≤ 200; omega
      have HOK : Hid (okD D) := OPS.ok HI.out.dk
      obtain ⟨cw, HCW⟩ : ∃ x, Hid (x = crashW D.safe D.wait keep) := ⟨_, rfl⟩
      have HNA : Hid (na = D.safe.length) := by
        obtain ⟨a1, c1', a2, c2, e1, _⟩ := HI.out.rs.form
        simp only [Value.slice.injEq] at e1
        exact e1.2.1
      have HNB : Hid (nb = D.wait.length) := by
        obtain ⟨a1, c1', a2, c2, _, e2⟩ := HI.out.rs.form
        simp only [Value.slice.injEq] at e2
        exact e2.2.1
      have HLC : Hid (cw.length = na) := by show _ = _; rw [HCW.out, len_crashW _ _ _ HOK.out.size.1 HOK.out.wait, HNA.out, HOK.out.size.1]
      have HN64 : Hid (na = 64 * sn ∧ 1 ≤ sn ∧ sn ≤ 16384) := by have h := HOK.out.size; rw [HNA.out, ← HI.out.sz]; exact h
      have hq : Int.tdiv (na : Int) 64 = (sn : Int) := by have h := HN64.out.1; rw [Int.tdiv_eq_ediv_of_nonneg (by omega)]; omega
      have fq : IntKind.i64.wrap (sn : Int) = (sn : Int) := by rw [IntKind.wrap_i64]; have h := HN64.out; omega
      have HDM : Hid (∀ (W : World) (X : Nat → Prop), Dk W g X (crashD13 D keep) → Calls Try.prog 14 #[.pointer (some ⟨g, 0, none⟩)] W fun r w' => ∃ P' da dc, r = .returned (.slice da na dc) ∧ Sta P' w' (fun Y => Reads Y (.slice da na dc) cw) ∧ Dk w' g P' (crashD13 D keep) ∧ Mut X W w' ∧ Grew W X P') := fun W X h => (OPS.dump h (Nat.zero_le _)).mono fun r w' h => by
        obtain ⟨P', v, e1, e2, e3, e4, e5⟩ := h
        have e6 : Sta P' w' (fun Y => Reads Y v cw) := by rw [HCW.out]; exact e2
        obtain ⟨a, c, hv, _⟩ := e6.now
        rw [HLC.out] at hv
        subst hv
        exact ⟨P', a, c, e1, e6, e3, e4, e5⟩
      have HPN : Hid (∀ (W : World) (X : Nat → Prop), Dk W g X (crashD13 D keep) → Calls Try.prog 12 #[.pointer (some ⟨g, 0, none⟩)] W fun r w' => ∃ P', r = .returned (.int .i64 0) ∧ Dk w' g P' (crashD13 D keep) ∧ Mut X W w' ∧ Grew W X P') := fun W X h => OPS.pending h
      go_wp2
      refine wp_region_held_drew (S := Over (World.drew wr)) (by kernel_rfl) (Over.refl _) ?_
      intro hS
      replace HI : Hid (DdI Dk w g gr sn k P D (.slice va na ca) (.slice vb nb cb2) (World.drew wr)) := HI.out.drew OPS
      replace HRR : Hid (Blk (World.drew wr) gr [.slice va na ca, .slice vb nb cb2, .int .i64 lf, .bool dn] 27) := HRR.out.drew
      change wpAnyH _ _ _ _ _ _ _ _ (World.drew wr)
      generalize World.drew wr = y0 at *
      try simp only [Act.put, List.setIfInBounds_toArray, List.set_cons_zero, List.set_cons_succ]
      refine wpAnyH_take (i := 0) (v := .pointer (some ⟨gr, 0, none⟩)) rfl (by kernel_rfl) (by kernel_rfl) (by kernel_rfl) (fun _ _ _ h => h) (Or.inl ⟨by rfl, fun wx hx => by simp [go_sem]⟩) hS ?_
      simp only [Act.put, List.getElem_toArray, List.getElem_cons_zero, List.setIfInBounds_toArray, List.set_cons_zero, List.set_cons_succ]
      refine wpAnyH_take (i := 1) (v := .slice va na ca) rfl (by kernel_rfl) (by kernel_rfl) (by kernel_rfl) (fun _ _ _ h => h) (Or.inl ⟨by rfl, fun wx hx => by (have hc : wx.cell? ⟨gr, 0, none⟩ = some (.slice va na ca) := (HRR.out.below hx HRR.out.lt).cell 0); simp [go_sem, hc]⟩) hS ?_
      simp only [Act.put, List.getElem_toArray, List.getElem_cons_succ, List.getElem_cons_zero, List.setIfInBounds_toArray, List.set_cons_zero, List.set_cons_succ]
      refine wpAnyH_take (i := 2) (v := .pointer (some ⟨gr, 1, none⟩)) rfl (by kernel_rfl) (by kernel_rfl) (by kernel_rfl) (fun _ _ _ h => h) (Or.inl ⟨by rfl, fun wx hx => by simp [go_sem]⟩) hS ?_
      simp only [Act.put, List.getElem_toArray, List.getElem_cons_succ, List.getElem_cons_zero, List.setIfInBounds_toArray, List.set_cons_zero, List.set_cons_succ]
      refine wpAnyH_take (i := 3) (v := .slice vb nb cb2) rfl (by kernel_rfl) (by kernel_rfl) (by kernel_rfl) (fun _ _ _ h => h) (Or.inl ⟨by rfl, fun wx hx => by (have hc : wx.cell? ⟨gr, 1, none⟩ = some (.slice vb nb cb2) := (HRR.out.below hx HRR.out.lt).cell 1); simp [go_sem, hc]⟩) hS ?_
      simp only [Act.put, List.getElem_toArray, List.getElem_cons_succ, List.getElem_cons_zero, List.setIfInBounds_toArray, List.set_cons_zero, List.set_cons_succ]
      refine wpAnyH_take (i := 4) (v := .slice va na ca) rfl (by kernel_rfl) (by kernel_rfl) (by kernel_rfl) (fun _ _ _ h => h) (Or.inl ⟨by rfl, fun wx hx => by simp [go_sem]⟩) hS ?_
      simp only [Act.put, List.getElem_toArray, List.getElem_cons_succ, List.getElem_cons_zero, List.setIfInBounds_toArray, List.set_cons_zero, List.set_cons_succ]
      refine wpAnyH_take (i := 5) (v := .slice vb nb cb2) rfl (by kernel_rfl) (by kernel_rfl) (by kernel_rfl) (fun _ _ _ h => h) (Or.inl ⟨by rfl, fun wx hx => by simp [go_sem]⟩) hS ?_
      simp only [Act.put, List.getElem_toArray, List.getElem_cons_succ, List.getElem_cons_zero, List.setIfInBounds_toArray, List.set_cons_zero, List.set_cons_succ]
      refine wpAnyH_done (by kernel_rfl) ?_ _
      have HDK : Hid (Dk y0 g P D) := HI.out.dk
      have HPW : Hid (∀ k, P k → w.heap.size ≤ k) := HI.out.pw
      have HBW : Hid (Below w.heap.size w y0) := HI.out.bel
      have HRS0 : Hid (RdS (Ext P [gr]) y0 D (.slice va na ca) (.slice vb nb cb2)) := HI.out.rs
      clear HI HRR HRC HLF HDN hS
      have tk0 : Hid True := trivial
      have tk1 : Hid True := trivial
      have tk2 : Hid True := trivial
      go_wp2_with (first
        | (clear tk0; go_at_call 20; refine (OPS.crash (.slice ak kl ck) keep HDK.out HWT.out (fun W m => HK.out.below (HBW.out.trans (m.below HBW.out.size HPW.out)))).mono ?_; rintro e0 y1 ⟨P1, rfl, hdk, hm, hgr⟩
           have hpw : ∀ k, P1 k → w.heap.size ≤ k := fun k hk => (hgr k hk).elim (HPW.out k) (fun h => Nat.le_trans HBW.out.size h)
           replace HBW : Hid (Below w.heap.size w y1) := HBW.out.trans (hm.below HBW.out.size HPW.out)
           replace HPW : Hid (∀ k, P1 k → w.heap.size ≤ k) := hpw
           clear hpw
           replace HDK : Hid (Dk y1 g P1 (crashD13 D keep)) := hdk
           have HRS : Hid (RdS (Ext P1 [gr]) y1 D (.slice va na ca) (.slice vb nb cb2)) := HRS0.out.actE hm hgr
           clear hdk hm hgr )
        | (clear tk1; go_at_call 14; refine (HDM.out _ _ HDK.out).mono ?_; rintro e0 y2 ⟨P2, da, dc, rfl, hst, hdk, hm, hgr⟩
           have hpw : ∀ k, P2 k → w.heap.size ≤ k := fun k hk => (hgr k hk).elim (HPW.out k) (fun h => Nat.le_trans HBW.out.size h)
           replace HBW : Hid (Below w.heap.size w y2) := HBW.out.trans (hm.below HBW.out.size HPW.out)
           replace HPW : Hid (∀ k, P2 k → w.heap.size ≤ k) := hpw
           clear hpw
           replace HDK : Hid (Dk y2 g P2 (crashD13 D keep)) := hdk
           have HNW : Hid (Sta P2 y2 (fun X => Reads X (.slice da na dc) cw)) := hst
           replace HRS : Hid (RdS (Ext P2 [gr]) y2 D (.slice va na ca) (.slice vb nb cb2)) := HRS.out.actE hm hgr
           clear hdk hm hgr hst)
        | (clear tk2; go_at_call 12; refine (HPN.out _ _ HDK.out).mono ?_; rintro e0 y3 ⟨P3, rfl, hdk, hm, hgr⟩
           have hpw : ∀ k, P3 k → w.heap.size ≤ k := fun k hk => (hgr k hk).elim (HPW.out k) (fun h => Nat.le_trans HBW.out.size h)
           replace HBW : Hid (Below w.heap.size w y3) := HBW.out.trans (hm.below HBW.out.size HPW.out)
           replace HPW : Hid (∀ k, P3 k → w.heap.size ≤ k) := hpw
           clear hpw
           replace HDK : Hid (Dk y3 g P3 (crashD13 D keep)) := hdk
           replace HNW : Hid (Sta P3 y3 (fun X => Reads X (.slice da na dc) cw)) := HNW.out.go hm hgr.old
           replace HRS : Hid (RdS (Ext P3 [gr]) y3 D (.slice va na ca) (.slice vb nb cb2)) := HRS.out.actE hm hgr
           clear hdk hm hgr ))
      obtain ⟨bn, fn, rfl, hq1⟩ := HNW.out.now.atB (by rw [HLC.out]; have h := HN64.out; omega)
      obtain ⟨bs, fs, rfl, hq2⟩ := HRS.out.sf.now.atB (by rw [← HNA.out]; have h := HN64.out; omega)
      clear hq1 hq2
      have HJ0 : Hid (SyI w (.slice (some ⟨bn, fn, none⟩) na dc) (.slice (some ⟨bs, fs, none⟩) na ca) (.slice vb nb cb2) cw D.safe D.wait y3) := ⟨HBW.out, HNW.out.now, HRS.out.sf.now, HRS.out.wt.now⟩
      have HCdc : Hid (na ≤ dc) := by have h := HNW.out.now.cap; rw [HLC.out] at h; exact h
      have HCca : Hid (na ≤ ca) := by have h := HRS.out.sf.now.cap; rw [← HNA.out] at h; exact h
      clear HBW HDK HPW HNW HRS HRS0
      go_loopw [13] (fun i wr => ∃ (j : Nat), j ≤ sn ∧ i = .int .i64 (j : Int) ∧ Hid (SyI w (.slice (some ⟨bn, fn, none⟩) na dc) (.slice (some ⟨bs, fs, none⟩) na ca) (.slice vb nb cb2) cw D.safe D.wait wr)) (fun i _ => sn - (intOf i).toNat)
      case atStart => exact ⟨0, Nat.zero_le _, rfl, HJ0⟩
      case round =>
        clear HJ0
        obtain ⟨i, hkn2, rfl, HI⟩ := hrel
        by_cases hlt2 : i < sn
        case neg =>
          have hlk2 : ¬ ((i : Int) < (sn : Int)) := by omega
          have HBW : Hid (Below w.heap.size w wr) := HI.out.bel
          have tk0 : Hid True := trivial
          go_wp2_with (first
            | (clear tk0; go_at_call 10; refine (works13_any OPS wr).mono ?_; rintro e y1 ⟨rfl, hbz⟩
               replace HBW : Hid (Below w.heap.size w y1) := HBW.out.trans (hbz.mono HBW.out.size)
               clear hbz ))
          go_ret
          exact ⟨rfl, HBW.out⟩
        case pos =>
          have hlk2 : (i : Int) < (sn : Int) := by omega
          have f5 : IntKind.i64.wrap ((i : Int) + 1) = (i : Int) + 1 := by rw [IntKind.wrap_i64]; have h := HN64.out; omega
          have f64 : IntKind.i64.wrap (64 * (i : Int)) = 64 * (i : Int) := by rw [IntKind.wrap_i64]; have h := HN64.out; omega
          have f6k : IntKind.i64.wrap (64 * (i : Int) + 64) = 64 * (i : Int) + 64 := by rw [IntKind.wrap_i64]; have h := HN64.out; omega
          have HIB : Hid (64 * i + 64 ≤ na) := by have h := HN64.out; show _ ≤ _; omega
          have HT0 : Hid (touchB (D.wait.take 0) i = false) := rfl
          go_wp2
          go_loopw [14, 15] (fun t q wr => ∃ (k2 : Nat) (tb : Bool), k2 ≤ nb ∧ q = .int .i64 (k2 : Int) ∧ t = .bool tb ∧ Hid (tb = touchB (D.wait.take k2) i) ∧ Hid (SyI w (.slice (some ⟨bn, fn, none⟩) na dc) (.slice (some ⟨bs, fs, none⟩) na ca) (.slice vb nb cb2) cw D.safe D.wait wr)) (fun _ q _ => nb - (intOf q).toNat)
          case atStart => exact ⟨0, false, Nat.zero_le _, rfl, rfl, HT0.out.symm, HI⟩
          case round =>
            clear HI
            obtain ⟨k2, tb, hk2, rfl, rfl, HTB, HI⟩ := hrel
            by_cases hl3 : k2 < nb
            case pos =>
              have hlk3 : (k2 : Int) < (nb : Int) := by omega
              have k30 : (0 : Int) ≤ (k2 : Int) := by omega
              have f7 : IntKind.i64.wrap ((k2 : Int) + 1) = (k2 : Int) + 1 := by rw [IntKind.wrap_i64]; have h := HWT.out; have h2 := HNB.out; omega
              have HL3 : Hid (k2 < D.wait.length) := by show _ < _; rw [← HNB.out]; exact hl3
              obtain ⟨b, off, rfl, hat⟩ := HI.out.wait.at (Nat.lt_of_le_of_lt (Nat.zero_le _) HL3.out)
              obtain ⟨vj, hc1, _, _⟩ := hat k2 HL3.out
              obtain ⟨at_, HAT⟩ : ∃ x, Hid (x = (D.wait.getD k2 (0, [])).1) := ⟨_, rfl⟩
              rw [← HAT.out] at hc1
              have HTM : Hid (touchB (D.wait.take (k2 + 1)) i = (tb || (at_ == i))) := by show _ = _; rw [touch_more HL3.out, ← HTB.out, HAT.out]
              clear hat
              cases tb with
              | true =>
                have HT1 : Hid (true = touchB (D.wait.take (k2 + 1)) i) := by rw [HTM.out]; rfl
                clear HTM
                go_wp2
                go_roundw
                case rel => exact ⟨k2 + 1, true, by omega, by simp, rfl, HT1, HI⟩
                case measure => simp [intOf]; omega
              | false =>
                by_cases hat2 : at_ = i
                · have qa : ((at_ : Int) == (i : Int)) = true := by rw [beq_iff_eq]; omega
                  have HT1 : Hid (true = touchB (D.wait.take (k2 + 1)) i) := by rw [HTM.out, hat2]; simp [Hid]
                  clear HTM hat2
                  go_wp2
                  go_roundw
                  case rel => exact ⟨k2 + 1, true, by omega, by simp, rfl, HT1, HI⟩
                  case measure => simp [intOf]; omega
                · have qa : ((at_ : Int) == (i : Int)) = false := by rw [beq_eq_false_iff_ne]; omega
                  have HT1 : Hid (false = touchB (D.wait.take (k2 + 1)) i) := by rw [HTM.out, beq_eq_false_iff_ne.2 hat2]; rfl
                  clear HTM hat2
                  go_wp2
                  go_roundw
                  case rel => exact ⟨k2 + 1, false, by omega, by simp, rfl, HT1, HI⟩
                  case measure => simp [intOf]; omega
            case neg =>
              have hlk3 : ¬ ((k2 : Int) < (nb : Int)) := by omega
              have HTE : Hid (tb = touchB D.wait i) := by have h := HTB.out; rw [List.take_of_length_le (by rw [← HNB.out]; omega)] at h; exact h
              clear HTB
              cases tb with
              | true =>
                go_wp2
                refine wp_region_held_drew (S := Over (World.drew wr)) (by kernel_rfl) (Over.refl _) ?_
                intro hS
                replace HI : Hid (SyI w (.slice (some ⟨bn, fn, none⟩) na dc) (.slice (some ⟨bs, fs, none⟩) na ca) (.slice vb nb cb2) cw D.safe D.wait (World.drew wr)) := HI.out.drew
                change wpAnyH _ _ _ _ _ _ _ _ (World.drew wr)
                generalize World.drew wr = y0 at *
                try simp only [Act.put, List.setIfInBounds_toArray, List.set_cons_zero, List.set_cons_succ]
                refine wpAnyH_take (i := 0) (v := .bool true) rfl (by kernel_rfl) (by kernel_rfl) (by kernel_rfl) (fun _ _ _ h => h) (Or.inl ⟨by rfl, fun wx hx => by simp [go_sem]⟩) hS ?_
                simp only [Act.put, List.getElem_toArray, List.getElem_cons_zero, List.setIfInBounds_toArray, List.set_cons_zero, List.set_cons_succ]
                refine wpAnyH_take (i := 1) (v := .bool false) rfl (by kernel_rfl) (by kernel_rfl) (by kernel_rfl) (fun _ _ _ h => h) (Or.inl ⟨by rfl, fun wx hx => by simp [go_sem]⟩) hS ?_
                simp only [Act.put, List.getElem_toArray, List.getElem_cons_succ, List.getElem_cons_zero, List.setIfInBounds_toArray, List.set_cons_zero, List.set_cons_succ]
                refine wpAnyH_take (i := 2) (v := .bool false) rfl (by kernel_rfl) (by kernel_rfl) (by kernel_rfl) (fun _ _ _ h => h) (Or.inl ⟨by rfl, fun wx hx => by simp [go_sem]⟩) hS ?_
                simp only [Act.put, List.getElem_toArray, List.getElem_cons_succ, List.getElem_cons_zero, List.setIfInBounds_toArray, List.set_cons_zero, List.set_cons_succ]
                refine wpAnyH_take (i := 3) (v := undef) rfl (by kernel_rfl) (by kernel_rfl) (by kernel_rfl) (fun _ _ _ h => h) (Or.inr ⟨by rfl, rfl⟩) hS ?_
                simp only [Act.put, List.getElem_toArray, List.getElem_cons_succ, List.getElem_cons_zero, List.setIfInBounds_toArray, List.set_cons_zero, List.set_cons_succ]
                refine wpAnyH_take (i := 4) (v := undef) rfl (by kernel_rfl) (by kernel_rfl) (by kernel_rfl) (fun _ _ _ h => h) (Or.inr ⟨by rfl, rfl⟩) hS ?_
                simp only [Act.put, List.getElem_toArray, List.getElem_cons_succ, List.getElem_cons_zero, List.setIfInBounds_toArray, List.set_cons_zero, List.set_cons_succ]
                refine wpAnyH_take (i := 5) (v := undef) rfl (by kernel_rfl) (by kernel_rfl) (by kernel_rfl) (fun _ _ _ h => h) (Or.inr ⟨by rfl, rfl⟩) hS ?_
                simp only [Act.put, List.getElem_toArray, List.getElem_cons_succ, List.getElem_cons_zero, List.setIfInBounds_toArray, List.set_cons_zero, List.set_cons_succ]
                refine wpAnyH_take (i := 6) (v := undef) rfl (by kernel_rfl) (by kernel_rfl) (by kernel_rfl) (fun _ _ _ h => h) (Or.inr ⟨by rfl, rfl⟩) hS ?_
                simp only [Act.put, List.getElem_toArray, List.getElem_cons_succ, List.getElem_cons_zero, List.setIfInBounds_toArray, List.set_cons_zero, List.set_cons_succ]
                refine wpAnyH_take (i := 7) (v := undef) rfl (by kernel_rfl) (by kernel_rfl) (by kernel_rfl) (fun _ _ _ h => h) (Or.inr ⟨by rfl, rfl⟩) hS ?_
                simp only [Act.put, List.getElem_toArray, List.getElem_cons_succ, List.getElem_cons_zero, List.setIfInBounds_toArray, List.set_cons_zero, List.set_cons_succ]
                refine wpAnyH_take (i := 8) (v := undef) rfl (by kernel_rfl) (by kernel_rfl) (by kernel_rfl) (fun _ _ _ h => h) (Or.inr ⟨by rfl, rfl⟩) hS ?_
                simp only [Act.put, List.getElem_toArray, List.getElem_cons_succ, List.getElem_cons_zero, List.setIfInBounds_toArray, List.set_cons_zero, List.set_cons_succ]
                refine wpAnyH_take (i := 9) (v := undef) rfl (by kernel_rfl) (by kernel_rfl) (by kernel_rfl) (fun _ _ _ h => h) (Or.inr ⟨by rfl, rfl⟩) hS ?_
                simp only [Act.put, List.getElem_toArray, List.getElem_cons_succ, List.getElem_cons_zero, List.setIfInBounds_toArray, List.set_cons_zero, List.set_cons_succ]
                refine wpAnyH_take (i := 10) (v := undef) rfl (by kernel_rfl) (by kernel_rfl) (by kernel_rfl) (fun _ _ _ h => h) (Or.inr ⟨by rfl, rfl⟩) hS ?_
                simp only [Act.put, List.getElem_toArray, List.getElem_cons_succ, List.getElem_cons_zero, List.setIfInBounds_toArray, List.set_cons_zero, List.set_cons_succ]
                refine wpAnyH_take (i := 11) (v := undef) rfl (by kernel_rfl) (by kernel_rfl) (by kernel_rfl) (fun _ _ _ h => h) (Or.inr ⟨by rfl, rfl⟩) hS ?_
                simp only [Act.put, List.getElem_toArray, List.getElem_cons_succ, List.getElem_cons_zero, List.setIfInBounds_toArray, List.set_cons_zero, List.set_cons_succ]
                refine wpAnyH_take (i := 12) (v := undef) rfl (by kernel_rfl) (by kernel_rfl) (by kernel_rfl) (fun _ _ _ h => h) (Or.inr ⟨by rfl, rfl⟩) hS ?_
                simp only [Act.put, List.getElem_toArray, List.getElem_cons_succ, List.getElem_cons_zero, List.setIfInBounds_toArray, List.set_cons_zero, List.set_cons_succ]
                refine wpAnyH_take (i := 13) (v := undef) rfl (by kernel_rfl) (by kernel_rfl) (by kernel_rfl) (fun _ _ _ h => h) (Or.inr ⟨by rfl, rfl⟩) hS ?_
                simp only [Act.put, List.getElem_toArray, List.getElem_cons_succ, List.getElem_cons_zero, List.setIfInBounds_toArray, List.set_cons_zero, List.set_cons_succ]
                refine wpAnyH_take (i := 14) (v := undef) rfl (by kernel_rfl) (by kernel_rfl) (by kernel_rfl) (fun _ _ _ h => h) (Or.inr ⟨by rfl, rfl⟩) hS ?_
                simp only [Act.put, List.getElem_toArray, List.getElem_cons_succ, List.getElem_cons_zero, List.setIfInBounds_toArray, List.set_cons_zero, List.set_cons_succ]
                refine wpAnyH_take (i := 15) (v := undef) rfl (by kernel_rfl) (by kernel_rfl) (by kernel_rfl) (fun _ _ _ h => h) (Or.inr ⟨by rfl, rfl⟩) hS ?_
                simp only [Act.put, List.getElem_toArray, List.getElem_cons_succ, List.getElem_cons_zero, List.setIfInBounds_toArray, List.set_cons_zero, List.set_cons_succ]
                refine wpAnyH_take (i := 16) (v := undef) rfl (by kernel_rfl) (by kernel_rfl) (by kernel_rfl) (fun _ _ _ h => h) (Or.inr ⟨by rfl, rfl⟩) hS ?_
                simp only [Act.put, List.getElem_toArray, List.getElem_cons_succ, List.getElem_cons_zero, List.setIfInBounds_toArray, List.set_cons_zero, List.set_cons_succ]
                refine wpAnyH_take (i := 17) (v := undef) rfl (by kernel_rfl) (by kernel_rfl) (by kernel_rfl) (fun _ _ _ h => h) (Or.inr ⟨by rfl, rfl⟩) hS ?_
                simp only [Act.put, List.getElem_toArray, List.getElem_cons_succ, List.getElem_cons_zero, List.setIfInBounds_toArray, List.set_cons_zero, List.set_cons_succ]
                refine wpAnyH_take (i := 18) (v := undef) rfl (by kernel_rfl) (by kernel_rfl) (by kernel_rfl) (fun _ _ _ h => h) (Or.inr ⟨by rfl, rfl⟩) hS ?_
                simp only [Act.put, List.getElem_toArray, List.getElem_cons_succ, List.getElem_cons_zero, List.setIfInBounds_toArray, List.set_cons_zero, List.set_cons_succ]
                refine wpAnyH_take (i := 19) (v := .bool false) rfl (by kernel_rfl) (by kernel_rfl) (by kernel_rfl) (fun _ _ _ h => h) (Or.inl ⟨by rfl, fun wx hx => by simp [go_sem]⟩) hS ?_
                simp only [Act.put, List.getElem_toArray, List.getElem_cons_succ, List.getElem_cons_zero, List.setIfInBounds_toArray, List.set_cons_zero, List.set_cons_succ]
                refine wpAnyH_done (by kernel_rfl) ?_ _
                go_wp2
                go_roundw
                case rel => exact ⟨i + 1, by omega, by simp, HI⟩
                case measure => simp [intOf]; omega
              | false =>
                have HSC : Hid ((cw.drop (64 * i)).take 64 = (D.safe.drop (64 * i)).take 64) := by rw [HCW.out]; exact crash_sector HOK.out.size.1 HOK.out.wait (touch_no HTE.out.symm)
                go_wp2
                refine wp_region_held_drew (S := Over (World.drew wr)) (by kernel_rfl) (Over.refl _) ?_
                intro hS
                replace HI : Hid (SyI w (.slice (some ⟨bn, fn, none⟩) na dc) (.slice (some ⟨bs, fs, none⟩) na ca) (.slice vb nb cb2) cw D.safe D.wait (World.drew wr)) := HI.out.drew
                change wpAnyH _ _ _ _ _ _ _ _ (World.drew wr)
                generalize World.drew wr = y0 at *
                try simp only [Act.put, List.setIfInBounds_toArray, List.set_cons_zero, List.set_cons_succ]
                refine wpAnyH_take (i := 0) (v := .bool false) rfl (by kernel_rfl) (by kernel_rfl) (by kernel_rfl) (fun _ _ _ h => h) (Or.inl ⟨by rfl, fun wx hx => by simp [go_sem]⟩) hS ?_
                simp only [Act.put, List.getElem_toArray, List.getElem_cons_zero, List.setIfInBounds_toArray, List.set_cons_zero, List.set_cons_succ]
                refine wpAnyH_take (i := 1) (v := .bool true) rfl (by kernel_rfl) (by kernel_rfl) (by kernel_rfl) (fun _ _ _ h => h) (Or.inl ⟨by rfl, fun wx hx => by simp [go_sem]⟩) hS ?_
                simp only [Act.put, List.getElem_toArray, List.getElem_cons_succ, List.getElem_cons_zero, List.setIfInBounds_toArray, List.set_cons_zero, List.set_cons_succ]
                refine wpAnyH_take (i := 2) (v := .bool true) rfl (by kernel_rfl) (by kernel_rfl) (by kernel_rfl) (fun _ _ _ h => h) (Or.inl ⟨by rfl, fun wx hx => by simp [go_sem]⟩) hS ?_
                simp only [Act.put, List.getElem_toArray, List.getElem_cons_succ, List.getElem_cons_zero, List.setIfInBounds_toArray, List.set_cons_zero, List.set_cons_succ]
                refine wpAnyH_take (i := 3) (v := .slice (some ⟨bn, fn, none⟩) na dc) rfl (by kernel_rfl) (by kernel_rfl) (by kernel_rfl) (fun _ _ _ h => h) (Or.inl ⟨by rfl, fun wx hx => by simp [go_sem]⟩) hS ?_
                simp only [Act.put, List.getElem_toArray, List.getElem_cons_succ, List.getElem_cons_zero, List.setIfInBounds_toArray, List.set_cons_zero, List.set_cons_succ]
                refine wpAnyH_take (i := 4) (v := .int .i64 (i : Int)) rfl (by kernel_rfl) (by kernel_rfl) (by kernel_rfl) (fun _ _ _ h => h) (Or.inl ⟨by rfl, fun wx hx => by simp [go_sem]⟩) hS ?_
                simp only [Act.put, List.getElem_toArray, List.getElem_cons_succ, List.getElem_cons_zero, List.setIfInBounds_toArray, List.set_cons_zero, List.set_cons_succ]
                refine wpAnyH_take (i := 5) (v := .int .i64 ((64 * i : Nat) : Int)) rfl (by kernel_rfl) (by kernel_rfl) (by kernel_rfl) (fun _ _ _ h => h) (Or.inl ⟨by rfl, fun wx hx => by simp [go_sem, f64]⟩) hS ?_
                simp only [Act.put, List.getElem_toArray, List.getElem_cons_succ, List.getElem_cons_zero, List.setIfInBounds_toArray, List.set_cons_zero, List.set_cons_succ]
                refine wpAnyH_take (i := 6) (v := .int .i64 (i : Int)) rfl (by kernel_rfl) (by kernel_rfl) (by kernel_rfl) (fun _ _ _ h => h) (Or.inl ⟨by rfl, fun wx hx => by simp [go_sem]⟩) hS ?_
                simp only [Act.put, List.getElem_toArray, List.getElem_cons_succ, List.getElem_cons_zero, List.setIfInBounds_toArray, List.set_cons_zero, List.set_cons_succ]
                refine wpAnyH_take (i := 7) (v := .int .i64 ((64 * i : Nat) : Int)) rfl (by kernel_rfl) (by kernel_rfl) (by kernel_rfl) (fun _ _ _ h => h) (Or.inl ⟨by rfl, fun wx hx => by simp [go_sem, f64]⟩) hS ?_
                simp only [Act.put, List.getElem_toArray, List.getElem_cons_succ, List.getElem_cons_zero, List.setIfInBounds_toArray, List.set_cons_zero, List.set_cons_succ]
                refine wpAnyH_take (i := 8) (v := .int .i64 ((64 * i + 64 : Nat) : Int)) rfl (by kernel_rfl) (by kernel_rfl) (by kernel_rfl) (fun _ _ _ h => h) (Or.inl ⟨by rfl, fun wx hx => by simp [go_sem, f6k]⟩) hS ?_
                simp only [Act.put, List.getElem_toArray, List.getElem_cons_succ, List.getElem_cons_zero, List.setIfInBounds_toArray, List.set_cons_zero, List.set_cons_succ]
                refine wpAnyH_take (i := 9) (v := .slice (some ⟨bn, fn + 64 * i, none⟩) 64 (dc - 64 * i)) rfl (by kernel_rfl) (by kernel_rfl) (by kernel_rfl) (fun _ _ _ h => h) (Or.inl ⟨by rfl, fun wx hx => by exact cut_op _ _ _ _ _ rfl bn fn na dc (64 * i) 64 (by decide) HIB.out HCdc.out rfl rfl rfl _⟩) hS ?_
                simp only [Act.put, List.getElem_toArray, List.getElem_cons_succ, List.getElem_cons_zero, List.setIfInBounds_toArray, List.set_cons_zero, List.set_cons_succ]
                refine wpAnyH_take (i := 10) (v := .slice (some ⟨bs, fs, none⟩) na ca) rfl (by kernel_rfl) (by kernel_rfl) (by kernel_rfl) (fun _ _ _ h => h) (Or.inl ⟨by rfl, fun wx hx => by simp [go_sem]⟩) hS ?_
                simp only [Act.put, List.getElem_toArray, List.getElem_cons_succ, List.getElem_cons_zero, List.setIfInBounds_toArray, List.set_cons_zero, List.set_cons_succ]
                refine wpAnyH_take (i := 11) (v := .int .i64 (i : Int)) rfl (by kernel_rfl) (by kernel_rfl) (by kernel_rfl) (fun _ _ _ h => h) (Or.inl ⟨by rfl, fun wx hx => by simp [go_sem]⟩) hS ?_
                simp only [Act.put, List.getElem_toArray, List.getElem_cons_succ, List.getElem_cons_zero, List.setIfInBounds_toArray, List.set_cons_zero, List.set_cons_succ]
                refine wpAnyH_take (i := 12) (v := .int .i64 ((64 * i : Nat) : Int)) rfl (by kernel_rfl) (by kernel_rfl) (by kernel_rfl) (fun _ _ _ h => h) (Or.inl ⟨by rfl, fun wx hx => by simp [go_sem, f64]⟩) hS ?_
                simp only [Act.put, List.getElem_toArray, List.getElem_cons_succ, List.getElem_cons_zero, List.setIfInBounds_toArray, List.set_cons_zero, List.set_cons_succ]
                refine wpAnyH_take (i := 13) (v := .int .i64 (i : Int)) rfl (by kernel_rfl) (by kernel_rfl) (by kernel_rfl) (fun _ _ _ h => h) (Or.inl ⟨by rfl, fun wx hx => by simp [go_sem]⟩) hS ?_
                simp only [Act.put, List.getElem_toArray, List.getElem_cons_succ, List.getElem_cons_zero, List.setIfInBounds_toArray, List.set_cons_zero, List.set_cons_succ]
                refine wpAnyH_take (i := 14) (v := .int .i64 ((64 * i : Nat) : Int)) rfl (by kernel_rfl) (by kernel_rfl) (by kernel_rfl) (fun _ _ _ h => h) (Or.inl ⟨by rfl, fun wx hx => by simp [go_sem, f64]⟩) hS ?_
                simp only [Act.put, List.getElem_toArray, List.getElem_cons_succ, List.getElem_cons_zero, List.setIfInBounds_toArray, List.set_cons_zero, List.set_cons_succ]
                refine wpAnyH_take (i := 15) (v := .int .i64 ((64 * i + 64 : Nat) : Int)) rfl (by kernel_rfl) (by kernel_rfl) (by kernel_rfl) (fun _ _ _ h => h) (Or.inl ⟨by rfl, fun wx hx => by simp [go_sem, f6k]⟩) hS ?_
                simp only [Act.put, List.getElem_toArray, List.getElem_cons_succ, List.getElem_cons_zero, List.setIfInBounds_toArray, List.set_cons_zero, List.set_cons_succ]
                refine wpAnyH_take (i := 16) (v := .slice (some ⟨bs, fs + 64 * i, none⟩) 64 (ca - 64 * i)) rfl (by kernel_rfl) (by kernel_rfl) (by kernel_rfl) (fun _ _ _ h => h) (Or.inl ⟨by rfl, fun wx hx => by exact cut_op _ _ _ _ _ rfl bs fs na ca (64 * i) 64 (by decide) HIB.out HCca.out rfl rfl rfl _⟩) hS ?_
                simp only [Act.put, List.getElem_toArray, List.getElem_cons_succ, List.getElem_cons_zero, List.setIfInBounds_toArray, List.set_cons_zero, List.set_cons_succ]
                refine wpAnyH_enter 17 (by kernel_rfl) rfl (by rfl) (f := 13) (args := #[.slice (some ⟨bn, fn + 64 * i, none⟩) 64 (dc - 64 * i), .slice (some ⟨bs, fs + 64 * i, none⟩) 64 (ca - 64 * i)]) (by simp [go_sem]) (same_self _ _ ((cw.drop (64 * i)).take 64) y0 (HI.out.now.cutN (64 * i) 64 (by rw [HLC.out]; exact HIB.out)) (by rw [HSC.out]; exact HI.out.safe.cutN (64 * i) 64 (by rw [← HNA.out]; exact HIB.out))) ?_
                rintro e z1 ⟨rfl, rfl⟩
                refine ⟨_, rfl, hS, ?_⟩
                simp only [Act.put, List.getElem_toArray, List.getElem_cons_succ, List.getElem_cons_zero, List.setIfInBounds_toArray, List.set_cons_zero, List.set_cons_succ]
                refine wpAnyH_take (i := 18) (v := .bool false) rfl (by kernel_rfl) (by kernel_rfl) (by kernel_rfl) (fun _ _ _ h => h) (Or.inl ⟨by rfl, fun wx hx => by simp [go_sem]⟩) hS ?_
                simp only [Act.put, List.getElem_toArray, List.getElem_cons_succ, List.getElem_cons_zero, List.setIfInBounds_toArray, List.set_cons_zero, List.set_cons_succ]
                refine wpAnyH_take (i := 19) (v := .bool false) rfl (by kernel_rfl) (by kernel_rfl) (by kernel_rfl) (fun _ _ _ h => h) (Or.inl ⟨by rfl, fun wx hx => by simp [go_sem]⟩) hS ?_
                simp only [Act.put, List.getElem_toArray, List.getElem_cons_succ, List.getElem_cons_zero, List.setIfInBounds_toArray, List.set_cons_zero, List.set_cons_succ]
                refine wpAnyH_done (by kernel_rfl) ?_ _
                go_wp2
                go_roundw
                case rel => exact ⟨i + 1, by omega, by simp, HI⟩
                case measure => simp [intOf]; omega
end Go.Proofs.Ytdllnedmhhajnaa

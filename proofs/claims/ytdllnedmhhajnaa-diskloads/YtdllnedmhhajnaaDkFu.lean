/- DiskFused over what disk's functions do (layer 13). -/
import Derived.Test.YtdllnedmhhajnaaDkLd
namespace Go.Proofs.Ytdllnedmhhajnaa
open Go.RowKit
set_option maxRecDepth 100000
theorem DdI.step3 {Dk : World → Nat → (Nat → Prop) → DkT → Prop} {w : World} {g gr sn k : Nat} {P P1 : Nat → Prop} {D D1 : DkT} {vs vw vs1 vw1 : Value} {y0 z yE : World} (h : DdI Dk w g gr sn k P D vs vw y0) (OPS : DkOps Dk) (hm : Mut P y0 z) (hg : Grew y0 P P1) (hd : Dk z g P1 D1) (hr : RdS (Ext P1 [gr]) z D1 vs1 vw1) (ho : Only gr z yE) (hb : Blk yE gr (rdC D1 vs1 vw1) 27) {k' : Nat} (hk : D1.wait.length ≤ k') (hs : sizeD D1 = sn) : DdI Dk w g gr sn k' P1 D1 vs1 vw1 yE := by
  have h1 := h.bel.trans (hm.below h.bel.size h.pw)
  have hnp : ¬ P1 gr := fun h2 => h.np (hg.old gr h.rr.lt h2)
  exact ⟨h1.trans (ho.below h.wr h1.size), OPS.same hd ho.size (fun k hk => ho.block k (fun e => hnp (e ▸ hk)) (OPS.lt hd k hk)), fun k hk => (hg k hk).elim (h.pw k) (fun h2 => Nat.le_trans h.bel.size h2), hb, hr.go (ho.mut (Or.inr (by simp))) (fun _ _ h => h), hnp, h.wr, hk, hs⟩
theorem ext_ge {P : Nat → Prop} {B gr : Nat} (hp : ∀ k, P k → B ≤ k) (hg : B ≤ gr) : ∀ k, Ext P [gr] k → B ≤ k := fun k h => h.elim (hp k) (fun h => by rw [List.mem_singleton.1 h]; exact hg)
/-- a disk whose power has gone -/
def fuD (D : DkT) : DkT := ⟨D.safe, D.wait, 0, true⟩
theorem fused_sync (D : DkT) : syncD13 (fuseD13 D 0) = fuD D ∧ syncX13 (fuseD13 D 0) = 14 := by
  obtain ⟨sf, wt, lf, dn⟩ := D
  cases dn <;> exact ⟨rfl, rfl⟩
theorem fu_read (D : DkT) (i : Int) : readX13 (fuD D) i = 14 := rfl
theorem fu_put (D : DkT) (i : Int) (b : Bs) : putX13 (fuD D) i b = 14 ∧ putD13 (fuD D) i b = fuD D := ⟨rfl, rfl⟩
theorem fu_sync (D : DkT) : syncX13 (fuD D) = 14 ∧ syncD13 (fuD D) = fuD D := ⟨rfl, rfl⟩
structure FuI (Dk : World → Nat → (Nat → Prop) → DkT → Prop) (w : World) (g : Nat) (P : Nat → Prop) (D : DkT) (v : Value) (dd : Bs) (W : World) : Prop where
  bel : Below w.heap.size w W
  dk : Dk W g P D
  pw : ∀ k, P k → w.heap.size ≤ k
  was : Sta P W (fun X => Reads X v dd)
theorem FuI.act {Dk : World → Nat → (Nat → Prop) → DkT → Prop} {w : World} {g : Nat} {P P' : Nat → Prop} {D D' : DkT} {v : Value} {dd : Bs} {W W' : World} (h : FuI Dk w g P D v dd W) (hd : Dk W' g P' D') (m : Mut P W W') (hg : Grew W P P') : FuI Dk w g P' D' v dd W' :=
  ⟨h.bel.trans (m.below h.bel.size h.pw), hd, fun k hk => (hg k hk).elim (h.pw k) (fun h2 => Nat.le_trans h.bel.size h2), h.was.go m hg.old⟩
theorem FuI.next {Dk : World → Nat → (Nat → Prop) → DkT → Prop} (OPS : DkOps Dk) {w : World} {g : Nat} {P : Nat → Prop} {D : DkT} {v : Value} {dd : Bs} {W W' : World} (h : FuI Dk w g P D v dd W) (hb : Below W.heap.size W W') : FuI Dk w g P D v dd W' :=
  ⟨h.bel.trans (hb.mono h.bel.size), OPS.same h.dk hb.size (fun k hk => hb.block k (OPS.lt h.dk k hk)), h.pw, h.was.below hb⟩
theorem FuI.drew {Dk : World → Nat → (Nat → Prop) → DkT → Prop} (OPS : DkOps Dk) {w : World} {g : Nat} {P : Nat → Prop} {D : DkT} {v : Value} {dd : Bs} {W : World} (h : FuI Dk w g P D v dd W) : FuI Dk w g P D v dd W.drew := ⟨h.bel.drew, OPS.same h.dk (Nat.le_refl _) (fun _ _ => rfl), h.pw, h.was.go (mut_drew _ _) (fun _ _ h => h)⟩
set_option maxRecDepth 100000 in
set_option maxHeartbeats 8000000 in
theorem diskFused_law {Dk : World → Nat → (Nat → Prop) → DkT → Prop} (OPS : DkOps Dk) (n : Int) (v u : Value) (l more : List OpT) (w : World) (hl : ReadsO w v l) (hu : ReadsO w u more) :
    Calls Try.prog 7 #[.int .i64 n, v, u] w fun e w' => e = .returned (.bool true) ∧ Below w.heap.size w w' := by
  obtain ⟨ad, cp, hv⟩ := hl.form
  obtain ⟨nl, HNL⟩ : ∃ n, Hid (n = l.length) := ⟨_, rfl⟩
  rw [← HNL.out] at hv
  obtain ⟨am, cm, hum⟩ := hu.form
  obtain ⟨nm, HNM⟩ : ∃ n, Hid (n = more.length) := ⟨_, rfl⟩
  rw [← HNM.out] at hum
  subst hv hum
  have HL : Hid (ReadsO w (.slice ad nl cp) l) := hl
  have HM : Hid (ReadsO w (.slice am nm cm) more) := hu
  have HBW : Hid (Below w.heap.size w w) := Below.refl _ _
  clear hl hu
  by_cases h60 : nl ≤ 60
  case neg =>
    have HF : Hid (¬ nl ≤ 60) := h60
    clear h60
    go_enter Try.func7, Try.ntmps7
    have tk0 : Hid True := trivial
    have tk1 : Hid True := trivial
    have tk2 : Hid True := trivial
    have tk3 : Hid True := trivial
    have tk4 : Hid True := trivial
    go_wp2_with (first
      | (clear tk0; go_at_call 8; refine (start13_any OPS n w).mono ?_; rintro e0 y1 ⟨sn, g, P, vs0, hs1, hs8, rfl, hdk, hrs, hbz, hpw⟩
         obtain ⟨a0, c0, aw0, cw0, hvs, hvw⟩ := hrs.form
         clear hvw
         obtain ⟨n0, HN0⟩ : ∃ n, Hid (n = (zeroD sn).safe.length) := ⟨_, rfl⟩
         rw [← HN0.out] at hvs
         subst hvs
         have HDK : Hid (Dk y1 g P (zeroD sn)) := hdk
         have HPW : Hid (∀ k, P k → w.heap.size ≤ k) := hpw
         have HRS : Hid (RdS P y1 (zeroD sn) (.slice a0 n0 c0) (.slice none 0 0)) := hrs
         have HSN : Hid (1 ≤ sn ∧ sn ≤ 8) := ⟨hs1, hs8⟩
         replace HBW : Hid (Below w.heap.size w y1) := hbz
         clear hdk hpw hrs hbz hs1 hs8)
      | (clear tk1; with_reducible refine wpSeq_allocRd ?_ ?_ ?_
         · rfl
         · rfl
         intro gr y2 nn
         have NP_gr : Hid (¬ P gr) := fun h => absurd (OPS.lt HDK.out gr h) (by have h2 := nn.ge; omega)
         have GE_gr : Hid (w.heap.size ≤ gr) := Nat.le_trans HBW.out.size nn.ge
         have HRX : Hid (RdS (Ext P [gr]) y1 (zeroD sn) (.slice a0 n0 c0) (.slice none 0 0)) := HRS.out.go (Mut.refl _ _) (fun k hk h => h.elim id (fun h => by rw [List.mem_singleton.1 h] at hk; have h2 := nn.ge; omega)))
      | (clear tk2; with_reducible refine wpSeq_storeRow 27 (.tmp 8) (.tmp 20) gr [.slice none 0 0, .slice none 0 0, .int .i64 0, .bool false] [.slice a0 n0 c0, .slice none 0 0, .int .i64 (-1), .bool false] ?_ ?_ ?_ ?_ ?_ ?_ ?_ ?_ ?_
         · exact nn.blk
         · rfl
         · exact info_rd _ _ _ _
         · exact one_rd _ _ _ _ _ _ _ _
         · rfl
         · rfl
         · rfl
         · rfl
         intro y3 hs
         have hbz := nn.below.trans (hs.only.below nn.ge nn.below.size)
         replace HDK : Hid (Dk y3 g P (zeroD sn)) := OPS.same HDK.out hbz.size (fun k hk => hbz.block k (OPS.lt HDK.out k hk))
         replace HRS : Hid (RdS P y3 (zeroD sn) (.slice a0 n0 c0) (.slice none 0 0)) := HRS.out.below hbz
         replace HBW : Hid (Below w.heap.size w y3) := HBW.out.trans (hbz.mono HBW.out.size)
         have HR : Hid (Blk y3 gr [.slice a0 n0 c0, .slice none 0 0, .int .i64 (-1), .bool false] 27) := hs.blk
         replace HRX : Hid (RdS (Ext P [gr]) y3 (zeroD sn) (.slice a0 n0 c0) (.slice none 0 0)) := HRX.out.below hbz
         clear nn hs hbz)
      | (clear tk3; go_at_call 9; refine (few13_no _ _ _ y3 HF.out).mono ?_; rintro e y4 ⟨rfl, hbz⟩
         replace HR : Hid (Blk y4 gr [.slice a0 n0 c0, .slice none 0 0, .int .i64 (-1), .bool false] 27) := HR.out.below hbz HR.out.lt
         replace HDK : Hid (Dk y4 g P (zeroD sn)) := OPS.same HDK.out hbz.size (fun k hk => hbz.block k (OPS.lt HDK.out k hk))
         replace HBW : Hid (Below w.heap.size w y4) := HBW.out.trans (hbz.mono HBW.out.size)
         clear hbz )
      | (clear tk4; go_at_call 10; refine (works13_any OPS y4).mono ?_; rintro e y5 ⟨rfl, hbz⟩
         replace HR : Hid (Blk y5 gr [.slice a0 n0 c0, .slice none 0 0, .int .i64 (-1), .bool false] 27) := HR.out.below hbz HR.out.lt
         replace HDK : Hid (Dk y5 g P (zeroD sn)) := OPS.same HDK.out hbz.size (fun k hk => hbz.block k (OPS.lt HDK.out k hk))
         replace HBW : Hid (Below w.heap.size w y5) := HBW.out.trans (hbz.mono HBW.out.size)
         clear hbz ))
    go_ret
    exact ⟨rfl, HBW.out⟩
  have HF : Hid (nl ≤ 60) := h60
  clear h60
  by_cases h61 : nm ≤ 60
  case neg =>
    have HF2 : Hid (¬ nm ≤ 60) := h61
    clear h61
    go_enter Try.func7, Try.ntmps7
    have tk0 : Hid True := trivial
    have tk1 : Hid True := trivial
    have tk2 : Hid True := trivial
    have tk3 : Hid True := trivial
    have tk4 : Hid True := trivial
    have tk5 : Hid True := trivial
    go_wp2_with (first
      | (clear tk0; go_at_call 8; refine (start13_any OPS n w).mono ?_; rintro e0 y1 ⟨sn, g, P, vs0, hs1, hs8, rfl, hdk, hrs, hbz, hpw⟩
         obtain ⟨a0, c0, aw0, cw0, hvs, hvw⟩ := hrs.form
         clear hvw
         obtain ⟨n0, HN0⟩ : ∃ n, Hid (n = (zeroD sn).safe.length) := ⟨_, rfl⟩
         rw [← HN0.out] at hvs
         subst hvs
         have HDK : Hid (Dk y1 g P (zeroD sn)) := hdk
         have HPW : Hid (∀ k, P k → w.heap.size ≤ k) := hpw
         have HRS : Hid (RdS P y1 (zeroD sn) (.slice a0 n0 c0) (.slice none 0 0)) := hrs
         have HSN : Hid (1 ≤ sn ∧ sn ≤ 8) := ⟨hs1, hs8⟩
         replace HBW : Hid (Below w.heap.size w y1) := hbz
         clear hdk hpw hrs hbz hs1 hs8)
      | (clear tk1; with_reducible refine wpSeq_allocRd ?_ ?_ ?_
         · rfl
         · rfl
         intro gr y2 nn
         have NP_gr : Hid (¬ P gr) := fun h => absurd (OPS.lt HDK.out gr h) (by have h2 := nn.ge; omega)
         have GE_gr : Hid (w.heap.size ≤ gr) := Nat.le_trans HBW.out.size nn.ge
         have HRX : Hid (RdS (Ext P [gr]) y1 (zeroD sn) (.slice a0 n0 c0) (.slice none 0 0)) := HRS.out.go (Mut.refl _ _) (fun k hk h => h.elim id (fun h => by rw [List.mem_singleton.1 h] at hk; have h2 := nn.ge; omega)))
      | (clear tk2; with_reducible refine wpSeq_storeRow 27 (.tmp 8) (.tmp 20) gr [.slice none 0 0, .slice none 0 0, .int .i64 0, .bool false] [.slice a0 n0 c0, .slice none 0 0, .int .i64 (-1), .bool false] ?_ ?_ ?_ ?_ ?_ ?_ ?_ ?_ ?_
         · exact nn.blk
         · rfl
         · exact info_rd _ _ _ _
         · exact one_rd _ _ _ _ _ _ _ _
         · rfl
         · rfl
         · rfl
         · rfl
         intro y3 hs
         have hbz := nn.below.trans (hs.only.below nn.ge nn.below.size)
         replace HDK : Hid (Dk y3 g P (zeroD sn)) := OPS.same HDK.out hbz.size (fun k hk => hbz.block k (OPS.lt HDK.out k hk))
         replace HRS : Hid (RdS P y3 (zeroD sn) (.slice a0 n0 c0) (.slice none 0 0)) := HRS.out.below hbz
         replace HBW : Hid (Below w.heap.size w y3) := HBW.out.trans (hbz.mono HBW.out.size)
         have HR : Hid (Blk y3 gr [.slice a0 n0 c0, .slice none 0 0, .int .i64 (-1), .bool false] 27) := hs.blk
         replace HRX : Hid (RdS (Ext P [gr]) y3 (zeroD sn) (.slice a0 n0 c0) (.slice none 0 0)) := HRX.out.below hbz
         clear nn hs hbz)
      | (clear tk3; go_at_call 9; refine (few13_yes _ _ _ y3 HF.out).mono ?_; rintro e y4 ⟨rfl, hbz⟩
         replace HR : Hid (Blk y4 gr [.slice a0 n0 c0, .slice none 0 0, .int .i64 (-1), .bool false] 27) := HR.out.below hbz HR.out.lt
         replace HDK : Hid (Dk y4 g P (zeroD sn)) := OPS.same HDK.out hbz.size (fun k hk => hbz.block k (OPS.lt HDK.out k hk))
         replace HBW : Hid (Below w.heap.size w y4) := HBW.out.trans (hbz.mono HBW.out.size)
         clear hbz )
      | (clear tk4; go_at_call 9; refine (few13_no _ _ _ y4 HF2.out).mono ?_; rintro e y5 ⟨rfl, hbz⟩
         replace HR : Hid (Blk y5 gr [.slice a0 n0 c0, .slice none 0 0, .int .i64 (-1), .bool false] 27) := HR.out.below hbz HR.out.lt
         replace HDK : Hid (Dk y5 g P (zeroD sn)) := OPS.same HDK.out hbz.size (fun k hk => hbz.block k (OPS.lt HDK.out k hk))
         replace HBW : Hid (Below w.heap.size w y5) := HBW.out.trans (hbz.mono HBW.out.size)
         clear hbz )
      | (clear tk5; go_at_call 10; refine (works13_any OPS y5).mono ?_; rintro e y6 ⟨rfl, hbz⟩
         replace HR : Hid (Blk y6 gr [.slice a0 n0 c0, .slice none 0 0, .int .i64 (-1), .bool false] 27) := HR.out.below hbz HR.out.lt
         replace HDK : Hid (Dk y6 g P (zeroD sn)) := OPS.same HDK.out hbz.size (fun k hk => hbz.block k (OPS.lt HDK.out k hk))
         replace HBW : Hid (Below w.heap.size w y6) := HBW.out.trans (hbz.mono HBW.out.size)
         clear hbz ))
    go_ret
    exact ⟨rfl, HBW.out⟩
  have HF2 : Hid (nm ≤ 60) := h61
  clear h61
  go_enter Try.func7, Try.ntmps7
  have tk0 : Hid True := trivial
  have tk1 : Hid True := trivial
  have tk2 : Hid True := trivial
  have tk3 : Hid True := trivial
  have tk4 : Hid True := trivial
  go_wp2_with (first
    | (clear tk0; go_at_call 8; refine (start13_any OPS n w).mono ?_; rintro e0 y1 ⟨sn, g, P, vs0, hs1, hs8, rfl, hdk, hrs, hbz, hpw⟩
       obtain ⟨a0, c0, aw0, cw0, hvs, hvw⟩ := hrs.form
       clear hvw
       obtain ⟨n0, HN0⟩ : ∃ n, Hid (n = (zeroD sn).safe.length) := ⟨_, rfl⟩
       rw [← HN0.out] at hvs
       subst hvs
       have HDK : Hid (Dk y1 g P (zeroD sn)) := hdk
       have HPW : Hid (∀ k, P k → w.heap.size ≤ k) := hpw
       have HRS : Hid (RdS P y1 (zeroD sn) (.slice a0 n0 c0) (.slice none 0 0)) := hrs
       have HSN : Hid (1 ≤ sn ∧ sn ≤ 8) := ⟨hs1, hs8⟩
       replace HBW : Hid (Below w.heap.size w y1) := hbz
       clear hdk hpw hrs hbz hs1 hs8)
    | (clear tk1; with_reducible refine wpSeq_allocRd ?_ ?_ ?_
       · rfl
       · rfl
       intro gr y2 nn
       have NP_gr : Hid (¬ P gr) := fun h => absurd (OPS.lt HDK.out gr h) (by have h2 := nn.ge; omega)
       have GE_gr : Hid (w.heap.size ≤ gr) := Nat.le_trans HBW.out.size nn.ge
       have HRX : Hid (RdS (Ext P [gr]) y1 (zeroD sn) (.slice a0 n0 c0) (.slice none 0 0)) := HRS.out.go (Mut.refl _ _) (fun k hk h => h.elim id (fun h => by rw [List.mem_singleton.1 h] at hk; have h2 := nn.ge; omega)))
    | (clear tk2; with_reducible refine wpSeq_storeRow 27 (.tmp 8) (.tmp 20) gr [.slice none 0 0, .slice none 0 0, .int .i64 0, .bool false] [.slice a0 n0 c0, .slice none 0 0, .int .i64 (-1), .bool false] ?_ ?_ ?_ ?_ ?_ ?_ ?_ ?_ ?_
       · exact nn.blk
       · rfl
       · exact info_rd _ _ _ _
       · exact one_rd _ _ _ _ _ _ _ _
       · rfl
       · rfl
       · rfl
       · rfl
       intro y3 hs
       have hbz := nn.below.trans (hs.only.below nn.ge nn.below.size)
       replace HDK : Hid (Dk y3 g P (zeroD sn)) := OPS.same HDK.out hbz.size (fun k hk => hbz.block k (OPS.lt HDK.out k hk))
       replace HRS : Hid (RdS P y3 (zeroD sn) (.slice a0 n0 c0) (.slice none 0 0)) := HRS.out.below hbz
       replace HBW : Hid (Below w.heap.size w y3) := HBW.out.trans (hbz.mono HBW.out.size)
       have HR : Hid (Blk y3 gr [.slice a0 n0 c0, .slice none 0 0, .int .i64 (-1), .bool false] 27) := hs.blk
       replace HRX : Hid (RdS (Ext P [gr]) y3 (zeroD sn) (.slice a0 n0 c0) (.slice none 0 0)) := HRX.out.below hbz
       clear nn hs hbz)
    | (clear tk3; go_at_call 9; refine (few13_yes _ _ _ y3 HF.out).mono ?_; rintro e0 y4 ⟨rfl, hbz⟩
       replace HRX : Hid (RdS (Ext P [gr]) y4 (zeroD sn) (.slice a0 n0 c0) (.slice none 0 0)) := HRX.out.below hbz
       replace HR : Hid (Blk y4 gr [.slice a0 n0 c0, .slice none 0 0, .int .i64 (-1), .bool false] 27) := HR.out.below hbz HR.out.lt
       replace HDK : Hid (Dk y4 g P (zeroD sn)) := OPS.same HDK.out hbz.size (fun k hk => hbz.block k (OPS.lt HDK.out k hk))
       replace HRS : Hid (RdS P y4 (zeroD sn) (.slice a0 n0 c0) (.slice none 0 0)) := HRS.out.below hbz
       replace HBW : Hid (Below w.heap.size w y4) := HBW.out.trans (hbz.mono HBW.out.size)
       clear hbz)
    | (clear tk4; go_at_call 9; refine (few13_yes _ _ _ y4 HF2.out).mono ?_; rintro e0 y5 ⟨rfl, hbz⟩
       replace HRX : Hid (RdS (Ext P [gr]) y5 (zeroD sn) (.slice a0 n0 c0) (.slice none 0 0)) := HRX.out.below hbz
       replace HR : Hid (Blk y5 gr [.slice a0 n0 c0, .slice none 0 0, .int .i64 (-1), .bool false] 27) := HR.out.below hbz HR.out.lt
       replace HDK : Hid (Dk y5 g P (zeroD sn)) := OPS.same HDK.out hbz.size (fun k hk => hbz.block k (OPS.lt HDK.out k hk))
       replace HRS : Hid (RdS P y5 (zeroD sn) (.slice a0 n0 c0) (.slice none 0 0)) := HRS.out.below hbz
       replace HBW : Hid (Below w.heap.size w y5) := HBW.out.trans (hbz.mono HBW.out.size)
       clear hbz))
  have HI0 : Hid (DdI Dk w g gr sn 0 P (zeroD sn) (.slice a0 n0 c0) (.slice none 0 0) y5) := ⟨HBW.out, HDK.out, HPW.out, HR.out, HRX.out, NP_gr.out, GE_gr.out, Nat.le_refl _, zero_size sn⟩
  clear HDK HPW HRS HRX HR NP_gr HBW
  go_loopw [9] (fun i wr => ∃ (k : Nat) (P : Nat → Prop) (D : DkT) (va : Option Addr) (na ca : Nat) (vb : Option Addr) (nb cb2 : Nat), k ≤ nl ∧ i = .int .i64 (k : Int) ∧ Hid (DdI Dk w g gr sn k P D (.slice va na ca) (.slice vb nb cb2) wr)) (fun i _ => nl - (intOf i).toNat)
  case atStart => exact ⟨0, P, zeroD sn, a0, n0, c0, none, 0, 0, Nat.zero_le _, rfl, HI0⟩
  case round =>
    clear HI0
    obtain ⟨k, P, D, va, na, ca, vb, nb, cb2, hkn, rfl, HI⟩ := hrel
    obtain ⟨lf, HLF⟩ : ∃ x, Hid (x = D.left) := ⟨_, rfl⟩
    obtain ⟨dn, HDN⟩ : ∃ x, Hid (x = D.down) := ⟨_, rfl⟩
    have HRC : Hid (rdC D (.slice va na ca) (.slice vb nb cb2) = [.slice va na ca, .slice vb nb cb2, .int .i64 lf, .bool dn]) := by show _ = _; rw [rdC, HLF.out, HDN.out]
    have HRR : Hid (Blk wr gr [.slice va na ca, .slice vb nb cb2, .int .i64 lf, .bool dn] 27) := by rw [← HRC.out]; exact HI.out.rr
    by_cases hlt : k < nl
    case pos =>
      have hlk : (k : Int) < (nl : Int) := by omega
      have f5 : IntKind.i64.wrap ((k : Int) + 1) = (k : Int) + 1 := by rw [IntKind.wrap_i64]; have := HF.out; omega
      have HLT : Hid (k < l.length) := by show _ < _; rw [← HNL.out]; exact hlt
      obtain ⟨b, off, rfl, hat⟩ := HL.out.at (Nat.lt_of_le_of_lt (Nat.zero_le _) HLT.out)
      obtain ⟨vk, hrg, hki, hn63⟩ := hat k HLT.out
      obtain ⟨o, HO⟩ : ∃ o, Hid (o = l.getD k zeroO) := ⟨_, rfl⟩
      rw [← HO.out] at hrg hki hn63
      obtain ⟨co, HCO⟩ : ∃ c, Hid (c = opC o vk) := ⟨_, rfl⟩
      have HRG : Hid (∀ W : World, Below w.heap.size w W → W.rangeAt b (off + k * 5) co) := fun W hh => by rw [HCO.out]; exact range_below hrg hh
      have HIO : Hid ((Try.prog.info? 36).map (·.size) = some co.length) := by show _ = _; rw [HCO.out]; exact info_op _ _ _ _ _
      have HKP : Hid (ReadsI w vk o.keep) := hki
      obtain ⟨D1, HD1⟩ : ∃ x, Hid (x = stepD D o) := ⟨_, rfl⟩
      obtain ⟨l1, HL1⟩ : ∃ x, Hid (x = D1.left) := ⟨_, rfl⟩
      obtain ⟨d1, HDD⟩ : ∃ x, Hid (x = D1.down) := ⟨_, rfl⟩
      have HRF : Hid (∀ x y, rdC D1 x y = [x, y, .int .i64 l1, .bool d1]) := fun x y => by rw [rdC, HL1.out, HDD.out]
      have HWL : Hid (D1.wait.length ≤ k + 1) := by rw [HD1.out]; have h1 := step_wait D o; have h2 := HI.out.wl; show _ ≤ _; omega
      have HS1 : Hid (sizeD D1 = sn) := by rw [HD1.out]; exact (step_size (OPS.ok HI.out.dk) o).trans HI.out.sz
      have HST : Hid (∀ (W : World) (X : List Nat), Dk W g P D → RdS (Ext P X) W D (.slice va na ca) (.slice vb nb cb2) → (∀ k, k ∈ X → k < W.heap.size) → Sta P W (fun W' => ReadsI W' vk o.keep) → Calls Try.prog 11 #[.pointer (some ⟨g, 0, none⟩), .agg [.slice va na ca, .slice vb nb cb2, .int .i64 lf, .bool dn].toArray, .agg co.toArray] W fun r w' => ∃ P1 xa xn xc ya yn yc, r = .returned (.tuple #[.agg [.slice xa xn xc, .slice ya yn yc, .int .i64 l1, .bool d1].toArray, .bool true]) ∧ Dk w' g P1 D1 ∧ RdS (Ext P1 X) w' D1 (.slice xa xn xc) (.slice ya yn yc) ∧ Mut P W w' ∧ Grew W P P1) := fun W X h1 h2 h3 h4 => by
        have h := step13_any OPS h1 h2 h3 (by have h5 := HI.out.wl; have h6 := HF.out; omega) h4 hn63
        rw [HRC.out, ← HCO.out, ← HD1.out] at h
        refine h.mono fun e w' h => ?_
        obtain ⟨P1, vs', vw', e1, e2, e3, e4, e5⟩ := h.ex
        obtain ⟨x1, x2, x3, x4, f1, f2⟩ := e3.form
        subst f1 f2
        rw [HRF.out] at e1
        exact ⟨P1, _, _, _, _, _, _, e1, e2, e3, e4, e5⟩
      clear hat hrg hki hn63
      go_wp2
      refine wp_region_held_drew (S := Mut (Ext P [gr]) (World.drew wr)) (by kernel_rfl) (Mut.refl _ _) ?_
      intro hS
      replace HI : Hid (DdI Dk w g gr sn k P D (.slice va na ca) (.slice vb nb cb2) (World.drew wr)) := HI.out.drew OPS
      replace HRR : Hid (Blk (World.drew wr) gr [.slice va na ca, .slice vb nb cb2, .int .i64 lf, .bool dn] 27) := HRR.out.drew
      change wpAnyH _ _ _ _ _ _ _ _ (World.drew wr)
      generalize World.drew wr = y0 at *
      try simp only [Act.put, List.setIfInBounds_toArray, List.set_cons_zero, List.set_cons_succ]
      refine wpAnyH_take (i := 0) (v := .pointer (some ⟨g, 0, none⟩)) rfl (by kernel_rfl) (by kernel_rfl) (by kernel_rfl) (fun _ _ _ h => h) (Or.inl ⟨by rfl, fun wx hx => by simp [go_sem]⟩) hS ?_
      simp only [Act.put, List.getElem_toArray, List.getElem_cons_zero, List.setIfInBounds_toArray, List.set_cons_zero, List.set_cons_succ]
      refine wpAnyH_take (i := 2) (v := .slice (some ⟨b, off, none⟩) nl cp) rfl (by kernel_rfl) (by kernel_rfl) (by kernel_rfl) (fun _ _ _ h => h) (Or.inl ⟨by rfl, fun wx hx => by simp [go_sem]⟩) hS ?_
      simp only [Act.put, List.getElem_toArray, List.getElem_cons_succ, List.getElem_cons_zero, List.setIfInBounds_toArray, List.set_cons_zero, List.set_cons_succ]
      refine wpAnyH_take (i := 3) (v := .int .i64 (k : Int)) rfl (by kernel_rfl) (by kernel_rfl) (by kernel_rfl) (fun _ _ _ h => h) (Or.inl ⟨by rfl, fun wx hx => by simp [go_sem]⟩) hS ?_
      simp only [Act.put, List.getElem_toArray, List.getElem_cons_succ, List.getElem_cons_zero, List.setIfInBounds_toArray, List.set_cons_zero, List.set_cons_succ]
      refine wpAnyH_take (i := 4) (v := .pointer (some ⟨b, off + k * 5, none⟩)) rfl (by kernel_rfl) (by kernel_rfl) (by kernel_rfl) (fun _ _ _ h => h) (Or.inl ⟨by rfl, fun wx hx => by exact idxO b off cp nl k hlt _ _ _ _ rfl rfl rfl _⟩) hS ?_
      simp only [Act.put, List.getElem_toArray, List.getElem_cons_succ, List.getElem_cons_zero, List.setIfInBounds_toArray, List.set_cons_zero, List.set_cons_succ]
      refine wpAnyH_take (i := 5) (v := .agg co.toArray) rfl (by kernel_rfl) (by kernel_rfl) (by kernel_rfl) (fun _ _ _ h => h) (Or.inl ⟨by rfl, fun wx hx => by exact load_run 36 _ rfl b (off + k * 5) rfl co _ (HRG.out _ (HI.out.bel.trans (hx.below HI.out.bel.size (ext_ge HI.out.pw HI.out.wr)))) Try.underlying36 rfl HIO.out⟩) hS ?_
      simp only [Act.put, List.getElem_toArray, List.getElem_cons_succ, List.getElem_cons_zero, List.setIfInBounds_toArray, List.set_cons_zero, List.set_cons_succ]
      refine wpAnyH_step 1 (.agg [.slice va na ca, .slice vb nb cb2, .int .i64 lf, .bool dn].toArray) y0 (by kernel_rfl) rfl (by rfl) (load_run 27 _ rfl gr 0 rfl [.slice va na ca, .slice vb nb cb2, .int .i64 lf, .bool dn] _ HRR.out.range Try.underlying27 rfl (info_rd _ _ _ _)) hS ?_
      simp only [Act.put, List.getElem_toArray, List.getElem_cons_succ, List.getElem_cons_zero, List.setIfInBounds_toArray, List.set_cons_zero, List.set_cons_succ]
      have hcc := HST.out y0 [gr] HI.out.dk HI.out.rs (fun k hk => by rw [List.mem_singleton.1 hk]; exact HI.out.rr.lt) (fun W' m => HKP.out.below (HI.out.bel.trans (m.below HI.out.bel.size HI.out.pw)))
      generalize hA : (#[.pointer (some ⟨g, 0, none⟩), .agg [.slice va na ca, .slice vb nb cb2, .int .i64 lf, .bool dn].toArray, .agg co.toArray] : Array Value) = AA at hcc
      refine wpAnyH_enter 6 (by kernel_rfl) rfl (by rfl) (f := 11) (args := AA) ?_ hcc ?_
      · subst hA; simp [go_sem]
      clear hcc hA
      rintro e z1 ⟨P1, xa, xn, xc, ya, yn, yc, rfl, hdk, hrs, hm, hgr⟩
      replace hS : Mut (Ext P [gr]) y0 z1 := hm.ext _
      have hba : Blk z1 gr [.slice va na ca, .slice vb nb cb2, .int .i64 lf, .bool dn] 27 := hm.blk HRR.out HI.out.np
      refine ⟨_, rfl, hS, ?_⟩
      simp only [Act.put, List.getElem_toArray, List.getElem_cons_succ, List.getElem_cons_zero, List.setIfInBounds_toArray, List.set_cons_zero, List.set_cons_succ]
      refine wpAnyH_take (i := 7) (v := .tuple #[.agg [.slice xa xn xc, .slice ya yn yc, .int .i64 l1, .bool d1].toArray, .bool true]) rfl (by kernel_rfl) (by kernel_rfl) (by kernel_rfl) (fun _ _ _ h => h) (Or.inl ⟨by rfl, fun wx hx => by simp [go_sem]⟩) hS ?_
      simp only [Act.put, List.getElem_toArray, List.getElem_cons_succ, List.getElem_cons_zero, List.setIfInBounds_toArray, List.set_cons_zero, List.set_cons_succ]
      refine wpAnyH_take (i := 8) (v := .agg [.slice xa xn xc, .slice ya yn yc, .int .i64 l1, .bool d1].toArray) rfl (by kernel_rfl) (by kernel_rfl) (by kernel_rfl) (fun _ _ _ h => h) (Or.inl ⟨by rfl, fun wx hx => by simp [go_sem]⟩) hS ?_
      simp only [Act.put, List.getElem_toArray, List.getElem_cons_succ, List.getElem_cons_zero, List.setIfInBounds_toArray, List.set_cons_zero, List.set_cons_succ]
      refine wpAnyH_take (i := 9) (v := .bool true) rfl (by kernel_rfl) (by kernel_rfl) (by kernel_rfl) (fun _ _ _ h => h) (Or.inl ⟨by rfl, fun wx hx => by simp [go_sem]⟩) hS ?_
      simp only [Act.put, List.getElem_toArray, List.getElem_cons_succ, List.getElem_cons_zero, List.setIfInBounds_toArray, List.set_cons_zero, List.set_cons_succ]
      refine wpAnyH_storeRow 10 27 (.tmp 8) (.tmp 46) gr [.slice va na ca, .slice vb nb cb2, .int .i64 lf, .bool dn] [.slice xa xn xc, .slice ya yn yc, .int .i64 l1, .bool d1] hba rfl (info_rd _ _ _ _) (one_rd _ _ _ _ _ _ _ _) (by kernel_rfl) rfl (by rfl) rfl rfl rfl ?_
      intro yE hs
      replace hS : Mut (Ext P [gr]) y0 yE := hS.trans (fun _ _ h => h) (hs.only.mut (Or.inr (by simp)))
      refine ⟨hS, ?_⟩
      simp only [Act.put, List.getElem_toArray, List.getElem_cons_succ, List.getElem_cons_zero]
      refine wpAnyH_done (by kernel_rfl) ?_ _
      have HI2 : Hid (DdI Dk w g gr sn (k + 1) P1 D1 (.slice xa xn xc) (.slice ya yn yc) yE) := HI.out.step3 OPS hm hgr hdk hrs hs.only (by rw [HRF.out]; exact hs.blk) HWL.out HS1.out
      clear hs hdk hrs hm hgr hba
      go_wp2
      go_roundw
      case rel => exact ⟨k + 1, P1, D1, xa, xn, xc, ya, yn, yc, by omega, by simp, HI2⟩
      case measure => simp [intOf]; omega
    case neg =>
      have hlk : ¬ ((k : Int) < (nl : Int)) := by omega
      have HDK : Hid (Dk wr g P D) := HI.out.dk
      have HPW : Hid (∀ k, P k → w.heap.size ≤ k) := HI.out.pw
      have HBW : Hid (Below w.heap.size w wr) := HI.out.bel
      have HWT : Hid ((fuD D).wait.length ≤ 200) := by have h1 := HI.out.wl; have h2 := HF.out; show D.wait.length ≤ 200; omega
      have HOK : Hid (okD D) := OPS.ok HI.out.dk
      obtain ⟨wl, HWLN⟩ : ∃ x, Hid (x = D.wait.length) := ⟨_, rfl⟩
      obtain ⟨dd, HDP⟩ : ∃ x, Hid (x = dumpD (fuD D)) := ⟨_, rfl⟩
      have HSY : Hid (∀ (W : World) (X : Nat → Prop), Dk W g X (fuseD13 D 0) → Calls Try.prog 22 #[.pointer (some ⟨g, 0, none⟩)] W fun r w' => ∃ P', r = .returned (.int .i64 14) ∧ Dk w' g P' (fuD D) ∧ Mut X W w' ∧ Grew W X P') := fun W X h => by
        have h1 := OPS.sync h HWT.out
        rw [(fused_sync D).1, (fused_sync D).2] at h1
        exact h1
      have HDM : Hid (∀ (W : World) (X : Nat → Prop), Dk W g X (fuD D) → Calls Try.prog 14 #[.pointer (some ⟨g, 0, none⟩)] W fun r w' => ∃ P' da dl dc, r = .returned (.slice da dl dc) ∧ Sta P' w' (fun Y => Reads Y (.slice da dl dc) dd) ∧ Dk w' g P' (fuD D) ∧ Mut X W w' ∧ Grew W X P') := fun W X h => (OPS.dump h HWT.out).mono fun r w' h => by
        obtain ⟨P', v, e1, e2, e3, e4, e5⟩ := h
        obtain ⟨a, n, c, hv⟩ := e2.now.form
        subst hv
        exact ⟨P', a, n, c, e1, by rw [HDP.out]; exact e2, e3, e4, e5⟩
      have HPN : Hid (∀ (W : World) (X : Nat → Prop), Dk W g X (fuD D) → Calls Try.prog 12 #[.pointer (some ⟨g, 0, none⟩)] W fun r w' => ∃ P', r = .returned (.int .i64 (wl : Int)) ∧ Dk w' g P' (fuD D) ∧ Mut X W w' ∧ Grew W X P') := fun W X h => by rw [HWLN.out]; exact OPS.pending h
      have HRD : Hid (∀ (W : World) (X : Nat → Prop) (i : Int), Dk W g X (fuD D) → Calls Try.prog 23 #[.pointer (some ⟨g, 0, none⟩), .int .i64 i] W fun r w' => ∃ P' a n c, r = .returned (.tuple #[.slice a n c, .int .i64 14]) ∧ Dk w' g P' (fuD D) ∧ Mut X W w' ∧ Grew W X P') := fun W X i h => (OPS.read i h).mono fun r w' h => by
        obtain ⟨P', v, e1, e2, e3, e4, e5⟩ := h
        obtain ⟨a, n, c, hv⟩ := e2.now.form
        subst hv
        exact ⟨P', a, n, c, e1, e3, e4, e5⟩
      have HS2 : Hid (∀ (W : World) (X : Nat → Prop), Dk W g X (fuD D) → Calls Try.prog 22 #[.pointer (some ⟨g, 0, none⟩)] W fun r w' => ∃ P', r = .returned (.int .i64 14) ∧ Dk w' g P' (fuD D) ∧ Mut X W w' ∧ Grew W X P') := fun W X h => OPS.sync h HWT.out
      have HW1 : Hid (∀ (W : World) (X : Nat → Prop) (i : Int) (v : Value) (b : Bs), Dk W g X (fuD D) → b.length ≤ 1000 → Sta X W (fun Y => Reads Y v b) → Calls Try.prog 24 #[.pointer (some ⟨g, 0, none⟩), .int .i64 i, v] W fun r w' => ∃ P', r = .returned (.int .i64 14) ∧ Dk w' g P' (fuD D) ∧ Mut X W w' ∧ Grew W X P') := fun W X i v b h h1 h2 => OPS.write i v b h HWT.out h1 h2
      have HR0 : Hid (∀ (W : World) (X : Nat → Prop), Dk W g X (crashD13 (fuD D) []) → Calls Try.prog 23 #[.pointer (some ⟨g, 0, none⟩), .int .i64 0] W fun r w' => ∃ P' a n c, r = .returned (.tuple #[.slice a n c, .int .i64 0]) ∧ Dk w' g P' (crashD13 (fuD D) []) ∧ Mut X W w' ∧ Grew W X P') := fun W X h => (OPS.read 0 h).mono fun r w' h2 => by
        obtain ⟨P', v, e1, e2, e3, e4, e5⟩ := h2
        obtain ⟨a, n, c, hv⟩ := e2.now.form
        subst hv
        have h0 : readX13 (crashD13 (fuD D) []) 0 = 0 := by
          have hz := (OPS.ok h).size.2.1
          have hh : hasD (crashD13 (fuD D) []) 0 = true := (hasD_iff _ _).2 ⟨by omega, by omega⟩
          unfold readX13
          rw [if_neg (by show ¬ (false = true); decide), if_neg (by rw [hh]; decide)]
        rw [h0] at e1
        exact ⟨P', a, n, c, e1, e3, e4, e5⟩
      clear HI HRR HRC HLF HDN
      have tk0 : Hid True := trivial
      have tk1 : Hid True := trivial
      have tk2 : Hid True := trivial
      have tk3 : Hid True := trivial
      go_wp2_with (first
        | (clear tk0; go_at_call 21; refine (OPS.fuse 0 (by decide) HDK.out).mono ?_; rintro e0 y1 ⟨P1, rfl, hdk, hm, hgr⟩
           have hpw : ∀ k, P1 k → w.heap.size ≤ k := fun k hk => (hgr k hk).elim (HPW.out k) (fun h => Nat.le_trans HBW.out.size h)
           replace HBW : Hid (Below w.heap.size w y1) := HBW.out.trans (hm.below HBW.out.size HPW.out)
           replace HPW : Hid (∀ k, P1 k → w.heap.size ≤ k) := hpw
           clear hpw
           replace HDK : Hid (Dk y1 g P1 (fuseD13 D 0)) := hdk
           clear hdk hm hgr )
        | (clear tk1; go_at_call 22; refine (HSY.out _ _ HDK.out).mono ?_; rintro e0 y2 ⟨P2, rfl, hdk, hm, hgr⟩
           have hpw : ∀ k, P2 k → w.heap.size ≤ k := fun k hk => (hgr k hk).elim (HPW.out k) (fun h => Nat.le_trans HBW.out.size h)
           replace HBW : Hid (Below w.heap.size w y2) := HBW.out.trans (hm.below HBW.out.size HPW.out)
           replace HPW : Hid (∀ k, P2 k → w.heap.size ≤ k) := hpw
           clear hpw
           replace HDK : Hid (Dk y2 g P2 (fuD D)) := hdk
           clear hdk hm hgr )
        | (clear tk2; go_at_call 14; refine (HDM.out _ _ HDK.out).mono ?_; rintro e0 y3 ⟨P3, wa, wn, wc2, rfl, hst, hdk, hm, hgr⟩
           have hpw : ∀ k, P3 k → w.heap.size ≤ k := fun k hk => (hgr k hk).elim (HPW.out k) (fun h => Nat.le_trans HBW.out.size h)
           replace HBW : Hid (Below w.heap.size w y3) := HBW.out.trans (hm.below HBW.out.size HPW.out)
           replace HPW : Hid (∀ k, P3 k → w.heap.size ≤ k) := hpw
           clear hpw
           replace HDK : Hid (Dk y3 g P3 (fuD D)) := hdk
           have HWA : Hid (Sta P3 y3 (fun X => Reads X (.slice wa wn wc2) dd)) := hst
           clear hdk hm hgr hst)
        | (clear tk3; go_at_call 12; refine (HPN.out _ _ HDK.out).mono ?_; rintro e0 y4 ⟨P4, rfl, hdk, hm, hgr⟩
           have hpw : ∀ k, P4 k → w.heap.size ≤ k := fun k hk => (hgr k hk).elim (HPW.out k) (fun h => Nat.le_trans HBW.out.size h)
           replace HBW : Hid (Below w.heap.size w y4) := HBW.out.trans (hm.below HBW.out.size HPW.out)
           replace HPW : Hid (∀ k, P4 k → w.heap.size ≤ k) := hpw
           clear hpw
           replace HDK : Hid (Dk y4 g P4 (fuD D)) := hdk
           replace HWA : Hid (Sta P4 y4 (fun X => Reads X (.slice wa wn wc2) dd)) := HWA.out.go hm hgr.old
           clear hdk hm hgr ))
      have HJ0 : Hid (FuI Dk w g P4 (fuD D) (.slice wa wn wc2) dd y4) := ⟨HBW.out, HDK.out, HPW.out, HWA.out⟩
      clear HBW HDK HPW HWA
      go_loopw [12] (fun i wr => ∃ (k : Nat) (P : Nat → Prop), k ≤ nm ∧ i = .int .i64 (k : Int) ∧ Hid (FuI Dk w g P (fuD D) (.slice wa wn wc2) dd wr)) (fun i _ => nm - (intOf i).toNat)
      case atStart => exact ⟨0, _, Nat.zero_le _, rfl, HJ0⟩
      case round =>
        clear HJ0
        obtain ⟨k, P, hkn, rfl, HI⟩ := hrel
        by_cases hlt : k < nm
        case neg =>
          have hlk2 : ¬ ((k : Int) < (nm : Int)) := by omega
          have HDK : Hid (Dk wr g P (fuD D)) := HI.out.dk
          have HPW : Hid (∀ k, P k → w.heap.size ≤ k) := HI.out.pw
          have HBW : Hid (Below w.heap.size w wr) := HI.out.bel
          have HWA : Hid (Sta P wr (fun X => Reads X (.slice wa wn wc2) dd)) := HI.out.was
          clear HI
          have tk0 : Hid True := trivial
          have tk1 : Hid True := trivial
          have tk2 : Hid True := trivial
          have tk3 : Hid True := trivial
          have tk4 : Hid True := trivial
          have tk5 : Hid True := trivial
          go_wp2_with (first
            | (clear tk0; go_at_call 14; refine (HDM.out _ _ HDK.out).mono ?_; rintro e0 y1 ⟨P1, da, dl, dc, rfl, hst, hdk, hm, hgr⟩
               have hpw : ∀ k, P1 k → w.heap.size ≤ k := fun k hk => (hgr k hk).elim (HPW.out k) (fun h => Nat.le_trans HBW.out.size h)
               replace HBW : Hid (Below w.heap.size w y1) := HBW.out.trans (hm.below HBW.out.size HPW.out)
               replace HPW : Hid (∀ k, P1 k → w.heap.size ≤ k) := hpw
               clear hpw
               replace HDK : Hid (Dk y1 g P1 (fuD D)) := hdk
               have HNA : Hid (Reads y1 (.slice da dl dc) dd) := hst.now
               have HNB : Hid (Reads y1 (.slice wa wn wc2) dd) := HWA.out.at hm
               clear hdk hm hgr hst)
            | (clear tk1; go_at_call 13; refine (same_self _ _ dd y1 HNA.out HNB.out).mono ?_; rintro e0 y2 ⟨rfl, hw⟩
               subst hw)
            | (clear tk2; go_at_call 12; refine (HPN.out _ _ HDK.out).mono ?_; rintro e0 y3 ⟨P2, rfl, hdk, hm, hgr⟩
               have hpw : ∀ k, P2 k → w.heap.size ≤ k := fun k hk => (hgr k hk).elim (HPW.out k) (fun h => Nat.le_trans HBW.out.size h)
               replace HBW : Hid (Below w.heap.size w y3) := HBW.out.trans (hm.below HBW.out.size HPW.out)
               replace HPW : Hid (∀ k, P2 k → w.heap.size ≤ k) := hpw
               clear hpw
               replace HDK : Hid (Dk y3 g P2 (fuD D)) := hdk
               clear hdk hm hgr )
            | (clear tk3; go_at_call 20; refine (OPS.crash (.slice none 0 0) [] HDK.out HWT.out (fun W _ => ReadsI.nil W)).mono ?_; rintro e0 y4 ⟨P3, rfl, hdk, hm, hgr⟩
               have hpw : ∀ k, P3 k → w.heap.size ≤ k := fun k hk => (hgr k hk).elim (HPW.out k) (fun h => Nat.le_trans HBW.out.size h)
               replace HBW : Hid (Below w.heap.size w y4) := HBW.out.trans (hm.below HBW.out.size HPW.out)
               replace HPW : Hid (∀ k, P3 k → w.heap.size ≤ k) := hpw
               clear hpw
               replace HDK : Hid (Dk y4 g P3 (crashD13 (fuD D) [])) := hdk
               clear hdk hm hgr )
            | (clear tk4; go_at_call 23; refine (HR0.out _ _ HDK.out).mono ?_; rintro e0 y5 ⟨P4, ra, rn, rc, rfl, hdk, hm, hgr⟩
               have hpw : ∀ k, P4 k → w.heap.size ≤ k := fun k hk => (hgr k hk).elim (HPW.out k) (fun h => Nat.le_trans HBW.out.size h)
               replace HBW : Hid (Below w.heap.size w y5) := HBW.out.trans (hm.below HBW.out.size HPW.out)
               replace HPW : Hid (∀ k, P4 k → w.heap.size ≤ k) := hpw
               clear hpw
               replace HDK : Hid (Dk y5 g P4 (crashD13 (fuD D) [])) := hdk
               clear hdk hm hgr )
            | (clear tk5; go_at_call 10; refine (works13_any OPS y5).mono ?_; rintro e y6 ⟨rfl, hbz⟩
               replace HDK : Hid (Dk y6 g P4 (crashD13 (fuD D) [])) := OPS.same HDK.out hbz.size (fun k hk => hbz.block k (OPS.lt HDK.out k hk))
               replace HBW : Hid (Below w.heap.size w y6) := HBW.out.trans (hbz.mono HBW.out.size)
               clear hbz ))
          go_ret
          exact ⟨rfl, HBW.out⟩
        case pos =>
          have hlk2 : (k : Int) < (nm : Int) := by omega
          have k0 : (0 : Int) ≤ (k : Int) := by omega
          have f5 : IntKind.i64.wrap ((k : Int) + 1) = (k : Int) + 1 := by rw [IntKind.wrap_i64]; have := HF2.out; omega
          have HLT : Hid (k < more.length) := by show _ < _; rw [← HNM.out]; exact hlt
          obtain ⟨b, off, rfl, hat⟩ := HM.out.at (Nat.lt_of_le_of_lt (Nat.zero_le _) HLT.out)
          obtain ⟨vk, hrg, hki, hn63⟩ := hat k HLT.out
          obtain ⟨o, HO⟩ : ∃ o, Hid (o = more.getD k zeroO) := ⟨_, rfl⟩
          rw [← HO.out] at hrg hki
          obtain ⟨co, HCO⟩ : ∃ c, Hid (c = opC o vk) := ⟨_, rfl⟩
          obtain ⟨kd, HKD⟩ : ∃ x, Hid (x = o.kind) := ⟨_, rfl⟩
          obtain ⟨oi, HOI⟩ : ∃ x, Hid (x = o.i) := ⟨_, rfl⟩
          obtain ⟨bo, HBO⟩ : ∃ x, Hid (x = opB o) := ⟨_, rfl⟩
          obtain ⟨L, HLL⟩ : ∃ x, Hid (x = opL o) := ⟨_, rfl⟩
          have HBL : Hid (L = bo.length) := by show _ = _; rw [HBO.out, HLL.out, len_opB]
          have HRG : Hid (∀ W : World, Below w.heap.size w W → W.rangeAt b (off + k * 5) co) := fun W hh => by rw [HCO.out]; exact range_below hrg hh
          have HIO : Hid ((Try.prog.info? 36).map (·.size) = some co.length) := by show _ = _; rw [HCO.out]; exact info_op _ _ _ _ _
          have HC1 : Hid (∀ W : World, Below w.heap.size w W → W.cell? ⟨b, off + k * 5 + 1, none⟩ = some (.int .i64 oi)) := fun W hh => HRG.out W hh 1 _ (by rw [HCO.out, HOI.out]; rfl)
          have ck0 : wr.cell? ⟨b, off + k * 5, none⟩ = some (.int .i64 kd) := HRG.out wr HI.out.bel 0 _ (by rw [HCO.out, HKD.out]; rfl)
          have ck1 : wr.cell? ⟨b, off + k * 5 + 1, none⟩ = some (.int .i64 oi) := HC1.out wr HI.out.bel
          have HOB : Hid (∀ W : World, Calls Try.prog 25 #[.agg co.toArray] W fun r w' => ∃ g, r = .returned (.slice (some ⟨g, 0, none⟩) L L) ∧ W.heap.size ≤ g ∧ Blk w' g (cb bo) 5 ∧ Below W.heap.size W w') := fun W => by
            obtain ⟨ak, ck, hvk⟩ := hki.form
            have h := opBytes_any o ak o.keep.length ck W
            rw [← hvk, ← HCO.out, ← HLL.out, ← HBO.out] at h
            exact h
          have HWR : Hid (∀ (W : World) (X : Nat → Prop) (v : Value), Dk W g X (fuD D) → Sta X W (fun Y => Reads Y v bo) → Calls Try.prog 24 #[.pointer (some ⟨g, 0, none⟩), .int .i64 oi, v] W fun r w' => ∃ P', r = .returned (.int .i64 14) ∧ Dk w' g P' (fuD D) ∧ Mut X W w' ∧ Grew W X P') := fun W X v h1 h2 => HW1.out W X oi v bo h1 (by rw [← HBL.out, HLL.out]; have h := opL_le o; omega) h2
          clear hat hrg hki hn63
          by_cases h0 : kd = 0
          · have q0 : (kd == 0) = true := by rw [beq_iff_eq]; exact h0
            clear h0
            have tk1 : Hid True := trivial
            go_wp2_with (first
              | (clear tk1; go_at_call 23; refine (HRD.out wr _ oi HI.out.dk).mono ?_; rintro e0 y5 ⟨P1, ra, rn, rc, rfl, hdk, hm, hgr⟩
                 have HI2 : Hid (FuI Dk w g P1 (fuD D) (.slice wa wn wc2) dd y5) := HI.out.act hdk hm hgr
                 clear hdk hm hgr))
            go_roundw
            case rel => exact ⟨k + 1, P1, by omega, by simp, HI2⟩
            case measure => simp [intOf]; omega
          have q0 : (kd == 0) = false := by rw [beq_eq_false_iff_ne]; exact h0
          by_cases h1 : kd = 1
          · have q1 : (kd == 1) = true := by rw [beq_iff_eq]; exact h1
            clear h0 h1
            go_wp2
            refine wp_region_held_drew (S := Mut P (World.drew wr)) (by kernel_rfl) (Mut.refl _ _) ?_
            intro hS
            replace HI : Hid (FuI Dk w g P (fuD D) (.slice wa wn wc2) dd (World.drew wr)) := HI.out.drew OPS
            clear ck0 ck1
            change wpAnyH _ _ _ _ _ _ _ _ (World.drew wr)
            generalize World.drew wr = y0 at *
            try simp only [Act.put, List.setIfInBounds_toArray, List.set_cons_zero, List.set_cons_succ]
            refine wpAnyH_take (i := 0) (v := .pointer (some ⟨g, 0, none⟩)) rfl (by kernel_rfl) (by kernel_rfl) (by kernel_rfl) (fun _ _ _ h => h) (Or.inl ⟨by rfl, fun wx hx => by simp [go_sem]⟩) hS ?_
            simp only [Act.put, List.getElem_toArray, List.getElem_cons_zero, List.setIfInBounds_toArray, List.set_cons_zero, List.set_cons_succ]
            refine wpAnyH_take (i := 1) (v := .slice (some ⟨b, off, none⟩) nm cm) rfl (by kernel_rfl) (by kernel_rfl) (by kernel_rfl) (fun _ _ _ h => h) (Or.inl ⟨by rfl, fun wx hx => by simp [go_sem]⟩) hS ?_
            simp only [Act.put, List.getElem_toArray, List.getElem_cons_succ, List.getElem_cons_zero, List.setIfInBounds_toArray, List.set_cons_zero, List.set_cons_succ]
            refine wpAnyH_take (i := 2) (v := .int .i64 (k : Int)) rfl (by kernel_rfl) (by kernel_rfl) (by kernel_rfl) (fun _ _ _ h => h) (Or.inl ⟨by rfl, fun wx hx => by simp [go_sem]⟩) hS ?_
            simp only [Act.put, List.getElem_toArray, List.getElem_cons_succ, List.getElem_cons_zero, List.setIfInBounds_toArray, List.set_cons_zero, List.set_cons_succ]
            refine wpAnyH_take (i := 3) (v := .pointer (some ⟨b, off + k * 5, none⟩)) rfl (by kernel_rfl) (by kernel_rfl) (by kernel_rfl) (fun _ _ _ h => h) (Or.inl ⟨by rfl, fun wx hx => by exact idxO b off cm nm k hlt _ _ _ _ rfl rfl rfl _⟩) hS ?_
            simp only [Act.put, List.getElem_toArray, List.getElem_cons_succ, List.getElem_cons_zero, List.setIfInBounds_toArray, List.set_cons_zero, List.set_cons_succ]
            refine wpAnyH_take (i := 4) (v := .pointer (some ⟨b, off + k * 5 + 1, none⟩)) rfl (by kernel_rfl) (by kernel_rfl) (by kernel_rfl) (fun _ _ _ h => h) (Or.inl ⟨by rfl, fun wx hx => by simp [go_sem]⟩) hS ?_
            simp only [Act.put, List.getElem_toArray, List.getElem_cons_succ, List.getElem_cons_zero, List.setIfInBounds_toArray, List.set_cons_zero, List.set_cons_succ]
            refine wpAnyH_take (i := 5) (v := .int .i64 oi) rfl (by kernel_rfl) (by kernel_rfl) (by kernel_rfl) (fun _ _ _ h => h) (Or.inl ⟨by rfl, fun wx hx => by (have hc := HC1.out wx (HI.out.bel.trans (hx.below HI.out.bel.size HI.out.pw))); simp [go_sem, hc]⟩) hS ?_
            simp only [Act.put, List.getElem_toArray, List.getElem_cons_succ, List.getElem_cons_zero, List.setIfInBounds_toArray, List.set_cons_zero, List.set_cons_succ]
            refine wpAnyH_take (i := 6) (v := .slice (some ⟨b, off, none⟩) nm cm) rfl (by kernel_rfl) (by kernel_rfl) (by kernel_rfl) (fun _ _ _ h => h) (Or.inl ⟨by rfl, fun wx hx => by simp [go_sem]⟩) hS ?_
            simp only [Act.put, List.getElem_toArray, List.getElem_cons_succ, List.getElem_cons_zero, List.setIfInBounds_toArray, List.set_cons_zero, List.set_cons_succ]
            refine wpAnyH_take (i := 7) (v := .int .i64 (k : Int)) rfl (by kernel_rfl) (by kernel_rfl) (by kernel_rfl) (fun _ _ _ h => h) (Or.inl ⟨by rfl, fun wx hx => by simp [go_sem]⟩) hS ?_
            simp only [Act.put, List.getElem_toArray, List.getElem_cons_succ, List.getElem_cons_zero, List.setIfInBounds_toArray, List.set_cons_zero, List.set_cons_succ]
            refine wpAnyH_take (i := 8) (v := .pointer (some ⟨b, off + k * 5, none⟩)) rfl (by kernel_rfl) (by kernel_rfl) (by kernel_rfl) (fun _ _ _ h => h) (Or.inl ⟨by rfl, fun wx hx => by exact idxO b off cm nm k hlt _ _ _ _ rfl rfl rfl _⟩) hS ?_
            simp only [Act.put, List.getElem_toArray, List.getElem_cons_succ, List.getElem_cons_zero, List.setIfInBounds_toArray, List.set_cons_zero, List.set_cons_succ]
            refine wpAnyH_take (i := 9) (v := .agg co.toArray) rfl (by kernel_rfl) (by kernel_rfl) (by kernel_rfl) (fun _ _ _ h => h) (Or.inl ⟨by rfl, fun wx hx => by exact load_run 36 _ rfl b (off + k * 5) rfl co _ (HRG.out _ (HI.out.bel.trans (hx.below HI.out.bel.size HI.out.pw))) Try.underlying36 rfl HIO.out⟩) hS ?_
            simp only [Act.put, List.getElem_toArray, List.getElem_cons_succ, List.getElem_cons_zero, List.setIfInBounds_toArray, List.set_cons_zero, List.set_cons_succ]
            have hcc := HOB.out y0
            generalize hA : (#[.agg co.toArray] : Array Value) = AA at hcc
            refine wpAnyH_enter 10 (by kernel_rfl) rfl (by rfl) (f := 25) (args := AA) ?_ hcc ?_
            · subst hA; simp [go_sem]
            clear hcc hA
            rintro e z1 ⟨gq, rfl, hgq, hbq, hb⟩
            have HQ : Hid (Sta P z1 (fun X => Reads X (.slice (some ⟨gq, 0, none⟩) L L) bo)) := hbq.stB (fun h => absurd (OPS.lt HI.out.dk gq h) (by omega)) HBL.out (Nat.le_of_eq HBL.out.symm)
            have HI1 : Hid (FuI Dk w g P (fuD D) (.slice wa wn wc2) dd z1) := HI.out.next OPS hb
            replace hS : Mut P y0 z1 := mut_below hb P
            refine ⟨_, rfl, hS, ?_⟩
            clear hb hgq hbq
            simp only [Act.put, List.getElem_toArray, List.getElem_cons_succ, List.getElem_cons_zero, List.setIfInBounds_toArray, List.set_cons_zero, List.set_cons_succ]
            have hcc := HWR.out z1 _ _ HI1.out.dk HQ.out
            generalize hA : (#[.pointer (some ⟨g, 0, none⟩), .int .i64 oi, .slice (some ⟨gq, 0, none⟩) L L] : Array Value) = AA at hcc
            refine wpAnyH_enter 11 (by kernel_rfl) rfl (by rfl) (f := 24) (args := AA) ?_ hcc ?_
            · subst hA; simp [go_sem]
            clear hcc hA
            rintro e z2 ⟨P1, rfl, hdk, hm, hgr⟩
            have HI2 : Hid (FuI Dk w g P1 (fuD D) (.slice wa wn wc2) dd z2) := HI1.out.act hdk hm hgr
            replace hS : Mut P y0 z2 := hS.trans (fun _ _ h => h) hm
            refine ⟨_, rfl, hS, ?_⟩
            clear hdk hm hgr
            simp only [Act.put, List.getElem_toArray, List.getElem_cons_succ, List.getElem_cons_zero, List.setIfInBounds_toArray, List.set_cons_zero, List.set_cons_succ]
            refine wpAnyH_take (i := 12) (v := .int .i64 14) rfl (by kernel_rfl) (by kernel_rfl) (by kernel_rfl) (fun _ _ _ h => h) (Or.inl ⟨by rfl, fun wx hx => by simp [go_sem]⟩) hS ?_
            simp only [Act.put, List.getElem_toArray, List.getElem_cons_succ, List.getElem_cons_zero, List.setIfInBounds_toArray, List.set_cons_zero, List.set_cons_succ]
            refine wpAnyH_done (by kernel_rfl) ?_ _
            go_wp2
            go_roundw
            case rel => exact ⟨k + 1, P1, by omega, by simp, HI2⟩
            case measure => simp [intOf]; omega
          have q1 : (kd == 1) = false := by rw [beq_eq_false_iff_ne]; exact h1
          by_cases h2 : kd = 2
          · have q2 : (kd == 2) = true := by rw [beq_iff_eq]; exact h2
            clear h0 h1 h2
            have tk1 : Hid True := trivial
            go_wp2_with (first
              | (clear tk1; go_at_call 22; refine (HS2.out wr _ HI.out.dk).mono ?_; rintro e0 y5 ⟨P1, rfl, hdk, hm, hgr⟩
                 have HI2 : Hid (FuI Dk w g P1 (fuD D) (.slice wa wn wc2) dd y5) := HI.out.act hdk hm hgr
                 clear hdk hm hgr))
            go_roundw
            case rel => exact ⟨k + 1, P1, by omega, by simp, HI2⟩
            case measure => simp [intOf]; omega
          have q2 : (kd == 2) = false := by rw [beq_eq_false_iff_ne]; exact h2
          clear h0 h1 h2
          go_wp2
          go_roundw
          case rel => exact ⟨k + 1, P, by omega, by simp, HI⟩
          case measure => simp [intOf]; omega
end Go.Proofs.Ytdllnedmhhajnaa

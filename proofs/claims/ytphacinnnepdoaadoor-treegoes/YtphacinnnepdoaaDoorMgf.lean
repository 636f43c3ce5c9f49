/- Texts that the proof leans on, one behind the other: The walk of the statement TreeAgain, over any way in which trees lie in memory. The walk of the statement TreeProves, over any way in which trees lie in memory. The walk of the statement TreeGoes. .. -/
import Derived.Test.YtphacinnnepdoaaDoorMgc
import Derived.Test.YtphacinnnepdoaaDoorMgd
import Derived.Test.YtphacinnnepdoaaDoorMge
import Derived.RangeFuncNested
import Derived.Sort.QuietThIn
import Derived.Test.YtphacinnnepdoaaDoorRows
import Derived.Test.YtphacinnnepdoaaDoorMga
import Derived.ProofKit
import Derived.LaidMore
import Derived.OpenShut
import Derived.Stop.Joined
import Derived.Lib.LaidTab
import Derived.Carry
import Derived.ChangeSlices
import Derived.Test.YtphacinnnepdoaaDoorMgb
import Derived.Deep.Slices
/- The walk of the statement TreeAgain, over any way in which trees lie in memory. -/
namespace Go.Proofs.YtphacinnnepdoaaDoor
open Go.RowKit
set_option maxRecDepth 100000
theorem len60 {ds es : List (List (BitVec 8))} (h : ds.length ≤ 60) : (ofL (ds.zip es)).length ≤ 60 := by
  have h1 := ofL_len (ds.zip es)
  rw [List.length_zip] at h1
  omega
theorem zip_ok {ds es : List (List (BitVec 8))} (h1 : ∀ d ∈ ds, d.length = 32) (h2 : ∀ d ∈ es, d.length = 32) : okLf (ds.zip es) := fun p hp => by
  obtain ⟨a, b⟩ := p
  have := List.of_mem_zip hp
  exact ⟨h1 _ this.1, h2 _ this.2⟩
theorem ok_fits {l : List Lf} (h : okLf l ∧ Up l) : Fits l 0 := Fits.zero h.1 h.2
/-- the four trees -/
structure AgS (T : World → Nat → List Lf → Prop) (w : World) (ga gb gc gd : Nat) (la lb : List Lf) (W : World) : Prop where
  k : KOk W
  bel : Below w.heap.size w W
  ta : T W ga la
  tb : T W gb lb
  tc : T W gc la
  td : T W gd lb
theorem AgS.next {T : World → Nat → List Lf → Prop} (hT : TrOps T) {w W W' : World} {ga gb gc gd : Nat} {la lb : List Lf} (h : AgS T w ga gb gc gd la lb W) (hb : Below W.heap.size W W') : AgS T w ga gb gc gd la lb W' :=
  ⟨h.k.below hb h.k.lt, h.bel.trans (hb.mono h.bel.size), hT.next h.ta hb, hT.next h.tb hb, hT.next h.tc hb, hT.next h.td hb⟩
set_option maxRecDepth 100000 in
set_option maxHeartbeats 8000000 in
theorem treeAgain_law {T : World → Nat → List Lf → Prop} (hT : TrOps T) (vt vu : Value) (ds es : List (List (BitVec 8))) (x v u : List (BitVec 8)) (hx : x.length = 32) (hv : v.length = 32) (hu : u.length = 32) (w : World) (hK : KOk w) (hD : ReadsD w vt ds) (hE : ReadsD w vu es) :
    Calls Tryd.prog 8 #[vt, vu, .agg (cb x).toArray, .agg (cb v).toArray, .agg (cb u).toArray] w fun e w' => e = .returned (.bool true) ∧ Below w.heap.size w w' := by
  have HT : Hid (TrOps T) := hT
  have HX32 : Hid (x.length = 32) := hx
  have HV32 : Hid (v.length = 32) := hv
  have HU32 : Hid (u.length = 32) := hu
  have HD : Hid (ReadsD w vt ds) := hD
  have HE : Hid (ReadsD w vu es) := hE
  have HK : Hid (KOk w) := hK
  have HBW : Hid (Below w.heap.size w w) := Below.refl _ _
  obtain ⟨c, HC⟩ : ∃ c, Hid (c = decide (ds.length ≤ 60)) := ⟨_, rfl⟩
  obtain ⟨adt, cpt, hvt⟩ := hD.slice
  obtain ⟨adu, cpu, hvu⟩ := hE.slice
  obtain ⟨n, HN⟩ : ∃ n, Hid (n = ds.length) := ⟨_, rfl⟩
  obtain ⟨m, HM⟩ : ∃ n, Hid (n = es.length) := ⟨_, rfl⟩
  rw [← HN.out] at hvt
  rw [← HM.out] at hvu
  subst hvt hvu
  clear hT hx hv hu hD hE hK
  go_enter Tryd.func8, Tryd.ntmps8
  go_upto_if 18 with (first
    | (with_reducible refine wpSeq_boxD (.tmp 2) x ?_ ?_ ?_ ?_
       · rfl
       · rfl
       · rfl
       intro gx wb0 nn
       have Hgx : Hid (Blk wb0 gx (cb x) 24) := nn.blk
       replace HD : Hid (ReadsD wb0 (.slice adt n cpt) ds) := HD.out.below (nn.below.mono (Nat.le_refl _))
       replace HE : Hid (ReadsD wb0 (.slice adu m cpu) es) := HE.out.below (nn.below.mono (Nat.le_refl _))
       replace HK : Hid (KOk wb0) := HK.out.below nn.below HK.out.lt
       replace HBW : Hid (Below w.heap.size w wb0) := HBW.out.trans (nn.below.mono HBW.out.size)
       clear nn)
    | (with_reducible refine wpSeq_boxD (.tmp 3) v ?_ ?_ ?_ ?_
       · rfl
       · rfl
       · rfl
       intro gv wb1 nn
       replace Hgx : Hid (Blk wb1 gx (cb x) 24) := Hgx.out.below nn.below Hgx.out.lt
       have Hgv : Hid (Blk wb1 gv (cb v) 24) := nn.blk
       replace HD : Hid (ReadsD wb1 (.slice adt n cpt) ds) := HD.out.below (nn.below.mono (Nat.le_refl _))
       replace HE : Hid (ReadsD wb1 (.slice adu m cpu) es) := HE.out.below (nn.below.mono (Nat.le_refl _))
       replace HK : Hid (KOk wb1) := HK.out.below nn.below HK.out.lt
       replace HBW : Hid (Below w.heap.size w wb1) := HBW.out.trans (nn.below.mono HBW.out.size)
       clear nn)
    | (with_reducible refine wpSeq_boxD (.tmp 4) u ?_ ?_ ?_ ?_
       · rfl
       · rfl
       · rfl
       intro gu wb2 nn
       replace Hgx : Hid (Blk wb2 gx (cb x) 24) := Hgx.out.below nn.below Hgx.out.lt
       replace Hgv : Hid (Blk wb2 gv (cb v) 24) := Hgv.out.below nn.below Hgv.out.lt
       have Hgu : Hid (Blk wb2 gu (cb u) 24) := nn.blk
       replace HD : Hid (ReadsD wb2 (.slice adt n cpt) ds) := HD.out.below (nn.below.mono (Nat.le_refl _))
       replace HE : Hid (ReadsD wb2 (.slice adu m cpu) es) := HE.out.below (nn.below.mono (Nat.le_refl _))
       replace HK : Hid (KOk wb2) := HK.out.below nn.below HK.out.lt
       replace HBW : Hid (Below w.heap.size w wb2) := HBW.out.trans (nn.below.mono HBW.out.size)
       clear nn)
    | (go_at_call 9; refine (trfew_any _ ds _ HD.out).mono ?_; rintro e w1 ⟨rfl, hb⟩; rw [← HC.out]
       replace Hgx : Hid (Blk w1 gx (cb x) 24) := Hgx.out.below hb Hgx.out.lt
       replace Hgv : Hid (Blk w1 gv (cb v) 24) := Hgv.out.below hb Hgv.out.lt
       replace Hgu : Hid (Blk w1 gu (cb u) 24) := Hgu.out.below hb Hgu.out.lt
       replace HD : Hid (ReadsD w1 (.slice adt n cpt) ds) := HD.out.below hb
       replace HE : Hid (ReadsD w1 (.slice adu m cpu) es) := HE.out.below hb
       replace HK : Hid (KOk w1) := HK.out.below hb HK.out.lt
       replace HBW : Hid (Below w.heap.size w w1) := HBW.out.trans (hb.mono HBW.out.size)
       clear hb))
  cases c with
  | false =>
    go_wp2_with (first
      | (go_at_call 10; refine (trworks_any HT.out _ HK.out).mono ?_; rintro e wz ⟨rfl, hb⟩
         replace HBW : Hid (Below w.heap.size w wz) := HBW.out.trans (hb.mono HBW.out.size)
         clear hb))
    go_ret
    exact ⟨rfl, HBW.out⟩
  | true =>
    have h60 : ds.length ≤ 60 := of_decide_eq_true HC.out.symm
    have H60 : Hid (ds.length ≤ 60) := h60
    obtain ⟨l, HLD⟩ : ∃ l, Hid (l = ofL (ds.zip es)) := ⟨_, rfl⟩
    have HLL : Hid (l.length ≤ 60) := by show _ ≤ _; rw [HLD.out]; exact len60 h60
    clear h60
    go_upto_region 6 with (first
      | (go_at_call 11; refine (HT.out.ofs _ _ _ ds es HK.out HD.out HE.out H60.out).mono ?_; rintro e w2 ⟨g0, rfl, ht, hb⟩
         rw [← HLD.out] at ht
         have HT0 : Hid (T w2 g0 l) := ht
         replace Hgx : Hid (Blk w2 gx (cb x) 24) := Hgx.out.below hb Hgx.out.lt
         replace Hgv : Hid (Blk w2 gv (cb v) 24) := Hgv.out.below hb Hgv.out.lt
         replace Hgu : Hid (Blk w2 gu (cb u) 24) := Hgu.out.below hb Hgu.out.lt
         replace HK : Hid (KOk w2) := HK.out.below hb HK.out.lt
         replace HBW : Hid (Below w.heap.size w w2) := HBW.out.trans (hb.mono HBW.out.size)
         clear hb ht HD HE))
    have HGD : Hid (okLf l ∧ Up l) := HT.out.good HT0.out
    obtain ⟨la, HLA⟩ : ∃ z, Hid (z = putL l x v) := ⟨_, rfl⟩
    obtain ⟨lb, HLB⟩ : ∃ z, Hid (z = putL l x u) := ⟨_, rfl⟩
    have EA : Hid (putL la x v = la) := by show _ = _; rw [HLA.out]; exact putL_putL HGD.out.1 HX32.out HV32.out HGD.out.2
    have EB : Hid (putL la x u = lb) := by show _ = _; rw [HLA.out, HLB.out]; exact putL_putL HGD.out.1 HX32.out HV32.out HGD.out.2
    have HL1 : Hid (la.length ≤ 61) := by show _ ≤ _; have h1 := putL_len l x v; have h2 := HLL.out; rw [HLA.out]; omega
    have HX0 : Hid (Blk w2.drew gx (cb x) 24) := Hgx.out
    have HV0 : Hid (Blk w2.drew gv (cb v) 24) := Hgv.out
    have HU0 : Hid (Blk w2.drew gu (cb u) 24) := Hgu.out
    have HT0d : Hid (T w2.drew g0 l) := HT.out.next HT0.out (Below.refl _ _).drew
    have HKd : Hid (KOk w2.drew) := HK.out
    have HBd : Hid (Below w.heap.size w w2.drew) := HBW.out.drew
    clear HT0 HK HBW Hgx Hgv Hgu
    refine wp_region_held_drew (S := Over w2.drew) (by kernel_rfl) (Over.refl _) ?_
    intro hS
    change wpAnyH _ _ _ _ _ _ _ _ (World.drew w2)
    generalize World.drew w2 = y0 at *
    refine wpAnyH_take (i := 0) (v := .pointer (some ⟨g0, 0, none⟩)) rfl (by kernel_rfl) (by kernel_rfl) (by kernel_rfl) (fun _ _ _ h => h) (Or.inl ⟨by rfl, fun wx hx => by simp [go_sem]⟩) hS ?_
    simp only [Act.put, List.getElem_toArray, List.getElem_cons_zero, List.setIfInBounds_toArray, List.set_cons_zero, List.set_cons_succ]
    refine wpAnyH_take (i := 1) (v := .agg (cb x).toArray) rfl (by kernel_rfl) (by kernel_rfl) (by kernel_rfl) (fun _ _ _ h => h) (Or.inl ⟨by rfl, fun wx hx => by exact loadDigest _ gx x HX32.out (Over.blk hx HX0.out) rfl rfl⟩) hS ?_
    simp only [Act.put, List.getElem_toArray, List.getElem_cons_succ, List.getElem_cons_zero, List.setIfInBounds_toArray, List.set_cons_zero, List.set_cons_succ]
    refine wpAnyH_take (i := 2) (v := .agg (cb v).toArray) rfl (by kernel_rfl) (by kernel_rfl) (by kernel_rfl) (fun _ _ _ h => h) (Or.inl ⟨by rfl, fun wx hx => by exact loadDigest _ gv v HV32.out (Over.blk hx HV0.out) rfl rfl⟩) hS ?_
    simp only [Act.put, List.getElem_toArray, List.getElem_cons_succ, List.getElem_cons_zero, List.setIfInBounds_toArray, List.set_cons_zero, List.set_cons_succ]
    refine wpAnyH_take (i := 4) (v := .pointer (some ⟨g0, 0, none⟩)) rfl (by kernel_rfl) (by kernel_rfl) (by kernel_rfl) (fun _ _ _ h => h) (Or.inl ⟨by rfl, fun wx hx => by simp [go_sem]⟩) hS ?_
    simp only [Act.put, List.getElem_toArray, List.getElem_cons_succ, List.getElem_cons_zero, List.setIfInBounds_toArray, List.set_cons_zero, List.set_cons_succ]
    refine wpAnyH_take (i := 5) (v := .agg (cb x).toArray) rfl (by kernel_rfl) (by kernel_rfl) (by kernel_rfl) (fun _ _ _ h => h) (Or.inl ⟨by rfl, fun wx hx => by exact loadDigest _ gx x HX32.out (Over.blk hx HX0.out) rfl rfl⟩) hS ?_
    simp only [Act.put, List.getElem_toArray, List.getElem_cons_succ, List.getElem_cons_zero, List.setIfInBounds_toArray, List.set_cons_zero, List.set_cons_succ]
    refine wpAnyH_take (i := 6) (v := .agg (cb u).toArray) rfl (by kernel_rfl) (by kernel_rfl) (by kernel_rfl) (fun _ _ _ h => h) (Or.inl ⟨by rfl, fun wx hx => by exact loadDigest _ gu u HU32.out (Over.blk hx HU0.out) rfl rfl⟩) hS ?_
    simp only [Act.put, List.getElem_toArray, List.getElem_cons_succ, List.getElem_cons_zero, List.setIfInBounds_toArray, List.set_cons_zero, List.set_cons_succ]
    refine wpAnyH_enter 3 (by kernel_rfl) rfl (by rfl) (f := 22) (args := #[.pointer (some ⟨g0, 0, none⟩), .agg (cb x).toArray, .agg (cb v).toArray]) (by simp [go_sem]) (HT.out.put _ g0 l x v HKd.out HT0d.out (by have := HLL.out; omega) HX32.out HV32.out) ?_
    rintro e y1 ⟨ga, rfl, ht1, hb⟩
    rw [← HLA.out] at ht1
    have hS1 := hS.more hb
    have hk1 := HKd.out.below hb HKd.out.lt
    refine ⟨_, rfl, hS1, ?_⟩
    simp only [Act.put, List.getElem_toArray, List.getElem_cons_succ, List.getElem_cons_zero, List.setIfInBounds_toArray, List.set_cons_zero, List.set_cons_succ]
    refine wpAnyH_enter 7 (by kernel_rfl) rfl (by rfl) (f := 22) (args := #[.pointer (some ⟨g0, 0, none⟩), .agg (cb x).toArray, .agg (cb u).toArray]) (by simp [go_sem]) (HT.out.put _ g0 l x u hk1 (HT.out.next HT0d.out hb) (by have := HLL.out; omega) HX32.out HU32.out) ?_
    rintro e y2 ⟨gb, rfl, ht2, hb2⟩
    rw [← HLB.out] at ht2
    have hS2 := hS1.more hb2
    refine ⟨_, rfl, hS2, ?_⟩
    simp only [Act.put, List.getElem_toArray, List.getElem_cons_succ, List.getElem_cons_zero, List.setIfInBounds_toArray, List.set_cons_zero, List.set_cons_succ]
    refine wpAnyH_take (i := 8) (v := .pointer (some ⟨ga, 0, none⟩)) rfl (by kernel_rfl) (by kernel_rfl) (by kernel_rfl) (fun _ _ _ h => h) (Or.inl ⟨by rfl, fun wx hx => by simp [go_sem]⟩) hS2 ?_
    simp only [Act.put, List.getElem_toArray, List.getElem_cons_succ, List.getElem_cons_zero, List.setIfInBounds_toArray, List.set_cons_zero, List.set_cons_succ]
    refine wpAnyH_take (i := 9) (v := .pointer (some ⟨gb, 0, none⟩)) rfl (by kernel_rfl) (by kernel_rfl) (by kernel_rfl) (fun _ _ _ h => h) (Or.inl ⟨by rfl, fun wx hx => by simp [go_sem]⟩) hS2 ?_
    simp only [Act.put, List.getElem_toArray, List.getElem_cons_succ, List.getElem_cons_zero, List.setIfInBounds_toArray, List.set_cons_zero, List.set_cons_succ]
    refine wpAnyH_done (by kernel_rfl) ?_ _
    have HTA : Hid (T y2 ga la) := HT.out.next ht1 hb2
    have HTB : Hid (T y2 gb lb) := ht2
    have HK : Hid (KOk y2) := hk1.below hb2 hk1.lt
    have HBW : Hid (Below w.heap.size w y2) := hS2.after HBd.out
    have HgX : Hid (Blk y2 gx (cb x) 24) := Over.blk hS2 HX0.out
    have HgV : Hid (Blk y2 gv (cb v) 24) := Over.blk hS2 HV0.out
    have HgU : Hid (Blk y2 gu (cb u) 24) := Over.blk hS2 HU0.out
    clear ht1 ht2 hb hb2 hS hS1 hS2 hk1 HX0 HV0 HU0 HT0d HKd HBd
    obtain ⟨w3, HWQ⟩ : ∃ z, Hid (z = y2) := ⟨_, rfl⟩
    rw [← HWQ.out] at HTA HTB HK HBW HgX HgV HgU ⊢
    clear HWQ
    go_wp2_with fail
    have HX0 : Hid (Blk w3.drew gx (cb x) 24) := HgX.out
    have HV0 : Hid (Blk w3.drew gv (cb v) 24) := HgV.out
    have HU0 : Hid (Blk w3.drew gu (cb u) 24) := HgU.out
    have HTAd : Hid (T w3.drew ga la) := HT.out.next HTA.out (Below.refl _ _).drew
    have HTBd : Hid (T w3.drew gb lb) := HT.out.next HTB.out (Below.refl _ _).drew
    have HKd : Hid (KOk w3.drew) := HK.out
    have HBd : Hid (Below w.heap.size w w3.drew) := HBW.out.drew
    clear HTA HTB HK HBW HgX HgV HgU
    refine wp_region_held_drew (S := Over w3.drew) (by kernel_rfl) (Over.refl _) ?_
    intro hS
    change wpAnyH _ _ _ _ _ _ _ _ (World.drew w3)
    generalize World.drew w3 = y0 at *
    refine wpAnyH_take (i := 0) (v := .pointer (some ⟨ga, 0, none⟩)) rfl (by kernel_rfl) (by kernel_rfl) (by kernel_rfl) (fun _ _ _ h => h) (Or.inl ⟨by rfl, fun wx hx => by simp [go_sem]⟩) hS ?_
    simp only [Act.put, List.getElem_toArray, List.getElem_cons_zero, List.setIfInBounds_toArray, List.set_cons_zero, List.set_cons_succ]
    refine wpAnyH_take (i := 1) (v := .agg (cb x).toArray) rfl (by kernel_rfl) (by kernel_rfl) (by kernel_rfl) (fun _ _ _ h => h) (Or.inl ⟨by rfl, fun wx hx => by exact loadDigest _ gx x HX32.out (Over.blk hx HX0.out) rfl rfl⟩) hS ?_
    simp only [Act.put, List.getElem_toArray, List.getElem_cons_succ, List.getElem_cons_zero, List.setIfInBounds_toArray, List.set_cons_zero, List.set_cons_succ]
    refine wpAnyH_take (i := 2) (v := .agg (cb v).toArray) rfl (by kernel_rfl) (by kernel_rfl) (by kernel_rfl) (fun _ _ _ h => h) (Or.inl ⟨by rfl, fun wx hx => by exact loadDigest _ gv v HV32.out (Over.blk hx HV0.out) rfl rfl⟩) hS ?_
    simp only [Act.put, List.getElem_toArray, List.getElem_cons_succ, List.getElem_cons_zero, List.setIfInBounds_toArray, List.set_cons_zero, List.set_cons_succ]
    refine wpAnyH_take (i := 4) (v := .pointer (some ⟨ga, 0, none⟩)) rfl (by kernel_rfl) (by kernel_rfl) (by kernel_rfl) (fun _ _ _ h => h) (Or.inl ⟨by rfl, fun wx hx => by simp [go_sem]⟩) hS ?_
    simp only [Act.put, List.getElem_toArray, List.getElem_cons_succ, List.getElem_cons_zero, List.setIfInBounds_toArray, List.set_cons_zero, List.set_cons_succ]
    refine wpAnyH_take (i := 5) (v := .agg (cb x).toArray) rfl (by kernel_rfl) (by kernel_rfl) (by kernel_rfl) (fun _ _ _ h => h) (Or.inl ⟨by rfl, fun wx hx => by exact loadDigest _ gx x HX32.out (Over.blk hx HX0.out) rfl rfl⟩) hS ?_
    simp only [Act.put, List.getElem_toArray, List.getElem_cons_succ, List.getElem_cons_zero, List.setIfInBounds_toArray, List.set_cons_zero, List.set_cons_succ]
    refine wpAnyH_take (i := 6) (v := .agg (cb u).toArray) rfl (by kernel_rfl) (by kernel_rfl) (by kernel_rfl) (fun _ _ _ h => h) (Or.inl ⟨by rfl, fun wx hx => by exact loadDigest _ gu u HU32.out (Over.blk hx HU0.out) rfl rfl⟩) hS ?_
    simp only [Act.put, List.getElem_toArray, List.getElem_cons_succ, List.getElem_cons_zero, List.setIfInBounds_toArray, List.set_cons_zero, List.set_cons_succ]
    refine wpAnyH_enter 3 (by kernel_rfl) rfl (by rfl) (f := 22) (args := #[.pointer (some ⟨ga, 0, none⟩), .agg (cb x).toArray, .agg (cb v).toArray]) (by simp [go_sem]) (HT.out.put _ ga la x v HKd.out HTAd.out (by have := HL1.out; omega) HX32.out HV32.out) ?_
    rintro e y3 ⟨gc, rfl, ht1, hb⟩
    rw [EA.out] at ht1
    have hS1 := hS.more hb
    have hk1 := HKd.out.below hb HKd.out.lt
    refine ⟨_, rfl, hS1, ?_⟩
    simp only [Act.put, List.getElem_toArray, List.getElem_cons_succ, List.getElem_cons_zero, List.setIfInBounds_toArray, List.set_cons_zero, List.set_cons_succ]
    refine wpAnyH_enter 7 (by kernel_rfl) rfl (by rfl) (f := 22) (args := #[.pointer (some ⟨ga, 0, none⟩), .agg (cb x).toArray, .agg (cb u).toArray]) (by simp [go_sem]) (HT.out.put _ ga la x u hk1 (HT.out.next HTAd.out hb) (by have := HL1.out; omega) HX32.out HU32.out) ?_
    rintro e y4 ⟨gd, rfl, ht2, hb2⟩
    rw [EB.out] at ht2
    have hS2 := hS1.more hb2
    refine ⟨_, rfl, hS2, ?_⟩
    simp only [Act.put, List.getElem_toArray, List.getElem_cons_succ, List.getElem_cons_zero, List.setIfInBounds_toArray, List.set_cons_zero, List.set_cons_succ]
    refine wpAnyH_take (i := 8) (v := .pointer (some ⟨gc, 0, none⟩)) rfl (by kernel_rfl) (by kernel_rfl) (by kernel_rfl) (fun _ _ _ h => h) (Or.inl ⟨by rfl, fun wx hx => by simp [go_sem]⟩) hS2 ?_
    simp only [Act.put, List.getElem_toArray, List.getElem_cons_succ, List.getElem_cons_zero, List.setIfInBounds_toArray, List.set_cons_zero, List.set_cons_succ]
    refine wpAnyH_take (i := 9) (v := .pointer (some ⟨gd, 0, none⟩)) rfl (by kernel_rfl) (by kernel_rfl) (by kernel_rfl) (fun _ _ _ h => h) (Or.inl ⟨by rfl, fun wx hx => by simp [go_sem]⟩) hS2 ?_
    simp only [Act.put, List.getElem_toArray, List.getElem_cons_succ, List.getElem_cons_zero, List.setIfInBounds_toArray, List.set_cons_zero, List.set_cons_succ]
    refine wpAnyH_done (by kernel_rfl) ?_ _
    have HI : Hid (AgS T w ga gb gc gd la lb y4) := ⟨hk1.below hb2 hk1.lt, hS2.after HBd.out, HT.out.next (HT.out.next HTAd.out hb) hb2, HT.out.next (HT.out.next HTBd.out hb) hb2, HT.out.next ht1 hb2, ht2⟩
    clear ht1 ht2 hb hb2 hS hS1 hS2 hk1 HX0 HV0 HU0 HTAd HTBd HKd HBd
    obtain ⟨w5, HWQ⟩ : ∃ z, Hid (z = y4) := ⟨_, rfl⟩
    rw [← HWQ.out] at HI ⊢
    clear HWQ
    obtain ⟨r1, HR1⟩ : ∃ r, Hid (r = rootL la 0) := ⟨_, rfl⟩
    obtain ⟨r2, HR2⟩ : ∃ r, Hid (r = rootL lb 0) := ⟨_, rfl⟩
    have q1 : ∀ wx : World, (Op.equalIn 10000 24 (.agg (cb r1).toArray) (.agg (cb r1).toArray)).run Tryd.prog wx = .ok true wx := fun wx => eq_dig_same r1 (by rw [HR1.out]; exact rootL_len (ok_fits (HT.out.good HI.out.ta))) wx
    have q2 : ∀ wx : World, (Op.equalIn 10000 24 (.agg (cb r2).toArray) (.agg (cb r2).toArray)).run Tryd.prog wx = .ok true wx := fun wx => eq_dig_same r2 (by rw [HR2.out]; exact rootL_len (ok_fits (HT.out.good HI.out.tb))) wx
    have C1 : Hid (∀ W, AgS T w ga gb gc gd la lb W → Calls Tryd.prog 13 #[.pointer (some ⟨gc, 0, none⟩)] W fun e w' => e = .returned (.agg (cb r1).toArray) ∧ Below W.heap.size W w') := fun W h => by rw [HR1.out]; exact HT.out.root W gc la h.k h.tc
    have C2 : Hid (∀ W, AgS T w ga gb gc gd la lb W → Calls Tryd.prog 13 #[.pointer (some ⟨ga, 0, none⟩)] W fun e w' => e = .returned (.agg (cb r1).toArray) ∧ Below W.heap.size W w') := fun W h => by rw [HR1.out]; exact HT.out.root W ga la h.k h.ta
    have C3 : Hid (∀ W, AgS T w ga gb gc gd la lb W → Calls Tryd.prog 15 #[.pointer (some ⟨gc, 0, none⟩)] W fun e w' => e = .returned (.int .i64 (la.length : Int)) ∧ Below W.heap.size W w') := fun W h => HT.out.len W gc la h.tc
    have C4 : Hid (∀ W, AgS T w ga gb gc gd la lb W → Calls Tryd.prog 15 #[.pointer (some ⟨ga, 0, none⟩)] W fun e w' => e = .returned (.int .i64 (la.length : Int)) ∧ Below W.heap.size W w') := fun W h => HT.out.len W ga la h.ta
    have C5 : Hid (∀ W, AgS T w ga gb gc gd la lb W → Calls Tryd.prog 13 #[.pointer (some ⟨gd, 0, none⟩)] W fun e w' => e = .returned (.agg (cb r2).toArray) ∧ Below W.heap.size W w') := fun W h => by rw [HR2.out]; exact HT.out.root W gd lb h.k h.td
    have C6 : Hid (∀ W, AgS T w ga gb gc gd la lb W → Calls Tryd.prog 13 #[.pointer (some ⟨gb, 0, none⟩)] W fun e w' => e = .returned (.agg (cb r2).toArray) ∧ Below W.heap.size W w') := fun W h => by rw [HR2.out]; exact HT.out.root W gb lb h.k h.tb
    have C7 : Hid (∀ W, AgS T w ga gb gc gd la lb W → Calls Tryd.prog 15 #[.pointer (some ⟨gd, 0, none⟩)] W fun e w' => e = .returned (.int .i64 (lb.length : Int)) ∧ Below W.heap.size W w') := fun W h => HT.out.len W gd lb h.td
    have C8 : Hid (∀ W, AgS T w ga gb gc gd la lb W → Calls Tryd.prog 15 #[.pointer (some ⟨gb, 0, none⟩)] W fun e w' => e = .returned (.int .i64 (lb.length : Int)) ∧ Below W.heap.size W w') := fun W h => HT.out.len W gb lb h.tb
    obtain ⟨n1, HN1⟩ : ∃ z, Hid (z = la.length) := ⟨_, rfl⟩
    obtain ⟨n2, HN2⟩ : ∃ z, Hid (z = lb.length) := ⟨_, rfl⟩
    rw [← HN1.out] at C3 C4
    rw [← HN2.out] at C7 C8
    go_wp2_with (first
      | (go_at_call 13; refine (C1.out _ HI.out).mono ?_; clear C1; rintro e z0 ⟨rfl, hb⟩
         replace HI : Hid (AgS T w ga gb gc gd la lb z0) := HI.out.next HT.out hb
         clear hb)
      | (go_at_call 13; refine (C2.out _ HI.out).mono ?_; clear C2; rintro e z1 ⟨rfl, hb⟩
         replace HI : Hid (AgS T w ga gb gc gd la lb z1) := HI.out.next HT.out hb
         clear hb)
      | (go_at_call 15; refine (C3.out _ HI.out).mono ?_; clear C3; rintro e z2 ⟨rfl, hb⟩
         replace HI : Hid (AgS T w ga gb gc gd la lb z2) := HI.out.next HT.out hb
         clear hb)
      | (go_at_call 15; refine (C4.out _ HI.out).mono ?_; clear C4; rintro e z3 ⟨rfl, hb⟩
         replace HI : Hid (AgS T w ga gb gc gd la lb z3) := HI.out.next HT.out hb
         clear hb)
      | (go_at_call 13; refine (C5.out _ HI.out).mono ?_; clear C5; rintro e z4 ⟨rfl, hb⟩
         replace HI : Hid (AgS T w ga gb gc gd la lb z4) := HI.out.next HT.out hb
         clear hb)
      | (go_at_call 13; refine (C6.out _ HI.out).mono ?_; clear C6; rintro e z5 ⟨rfl, hb⟩
         replace HI : Hid (AgS T w ga gb gc gd la lb z5) := HI.out.next HT.out hb
         clear hb)
      | (go_at_call 15; refine (C7.out _ HI.out).mono ?_; clear C7; rintro e z6 ⟨rfl, hb⟩
         replace HI : Hid (AgS T w ga gb gc gd la lb z6) := HI.out.next HT.out hb
         clear hb)
      | (go_at_call 15; refine (C8.out _ HI.out).mono ?_; clear C8; rintro e z7 ⟨rfl, hb⟩
         replace HI : Hid (AgS T w ga gb gc gd la lb z7) := HI.out.next HT.out hb
         clear hb)
      | (go_at_call 10; refine (trworks_any HT.out _ HI.out.k).mono ?_; rintro e zz ⟨rfl, hb⟩
         replace HI : Hid (AgS T w ga gb gc gd la lb zz) := HI.out.next HT.out hb
         clear hb))
    go_ret
    exact ⟨rfl, HI.out.bel⟩
end Go.Proofs.YtphacinnnepdoaaDoor
/- The walk of the statement TreeProves, over any way in which trees lie in memory. -/
namespace Go.Proofs.YtphacinnnepdoaaDoor
open Go.RowKit
set_option maxRecDepth 100000
theorem wayF_len (x : List (BitVec 8)) : ∀ (f d : Nat) (l : List Lf), (wayF x f d l).1.length ≤ f
  | f, d, [] => by unfold wayF; exact Nat.zero_le _
  | f, d, [p] => by cases f <;> exact Nat.zero_le _
  | 0, d, a :: b :: r => Nat.zero_le _
  | f + 1, d, a :: b :: r => by
    rw [wayF_two x f d (by simp)]
    have := wayF_len x f (d + 1) (halfL (a :: b :: r) d (bt x d))
    simp only [List.length_cons]
    omega
theorem wayF_mem (x : List (BitVec 8)) : ∀ (f d : Nat) (l : List Lf) (p : Lf), (wayF x f d l).2 = some p → p ∈ l
  | f, d, [], p, h => by unfold wayF at h; cases h
  | f, d, [q], p, h => by
    have : (wayF x f d [q]).2 = some q := by cases f <;> rfl
    rw [this] at h
    cases h
    exact List.mem_cons_self
  | 0, d, a :: b :: r, p, h => by cases h
  | f + 1, d, a :: b :: r, p, h => by
    rw [wayF_two x f d (by simp)] at h
    exact (mem_halfL.1 (wayF_mem x f (d + 1) _ p h)).1
theorem pend_len {l : List Lf} (h : okLf l) (x : List (BitVec 8)) : (pend (wayL l x 0).2).2.1.length = 32 ∧ (pend (wayL l x 0).2).2.2.length = 32 := by
  cases hw : (wayL l x 0).2 with
  | none => exact ⟨rfl, rfl⟩
  | some p => exact h p (wayF_mem x _ _ _ p hw)
/-- where the statement stands -/
structure PrS (T : World → Nat → List Lf → Prop) (w : World) (vt : Value) (ds : List (List (BitVec 8))) (g : Nat) (l : List Lf) (gL : Nat) (xa xv : Value) (gA : Nat) (k : List (BitVec 8)) (W : World) : Prop where
  kk : KOk W
  bel : Below w.heap.size w W
  t : T W g l
  lb : Blk W gL [xa, xv] 30
  rl : ReadsLf W xa xv l
  ab : Blk W gA (cb k) 24
  rd : ReadsD W vt ds
theorem PrS.next {T : World → Nat → List Lf → Prop} (hT : TrOps T) {w W W' : World} {vt : Value} {ds : List (List (BitVec 8))} {g : Nat} {l : List Lf} {gL : Nat} {xa xv : Value} {gA : Nat} {k : List (BitVec 8)} (h : PrS T w vt ds g l gL xa xv gA k W) (hb : Below W.heap.size W W') : PrS T w vt ds g l gL xa xv gA k W' :=
  ⟨h.kk.below hb h.kk.lt, h.bel.trans (hb.mono h.bel.size), hT.next h.t hb, h.lb.below hb h.lb.lt, h.rl.below hb, h.ab.below hb h.ab.lt, h.rd.below hb⟩
/-- both ways are told, and are the same -/
theorem same_ways {w : World} {vs vs2 : Value} {l : List Lf} {x : List (BitVec 8)} (hl : okLf l) (h1 : ReadsD w vs (wayL l x 0).1) (h2 : ReadsD w vs2 (wayL l x 0).1) :
    Calls Tryd.prog 18 #[.agg (prfV vs (pend (wayL l x 0).2).1 (pend (wayL l x 0).2).2.1 (pend (wayL l x 0).2).2.2).toArray, .agg (prfV vs2 (pend (wayL l x 0).2).1 (pend (wayL l x 0).2).2.1 (pend (wayL l x 0).2).2.2).toArray] w fun e w' => e = .returned (.bool true) ∧ Below w.heap.size w w' := by
  have hp := pend_len hl x
  have h := samePrf_any _ _ (pend (wayL l x 0).2).1 (pend (wayL l x 0).2).1 _ _ _ _ vs vs2 w hp hp h1 h2 (Nat.lt_of_le_of_lt (wayF_len x _ _ _) (by decide))
  rwa [decide_eq_true (by simp)] at h
set_option maxRecDepth 100000 in
set_option maxHeartbeats 8000000 in
theorem treeProves_law {T : World → Nat → List Lf → Prop} (hT : TrOps T) (vt vu : Value) (ds es : List (List (BitVec 8))) (k : List (BitVec 8)) (hk : k.length = 32) (w : World) (hK : KOk w) (hD : ReadsD w vt ds) (hE : ReadsD w vu es) :
    Calls Tryd.prog 4 #[vt, vu, .agg (cb k).toArray] w fun e w' => e = .returned (.bool true) ∧ Below w.heap.size w w' := by
  have HT : Hid (TrOps T) := hT
  have HK32 : Hid (k.length = 32) := hk
  have HD : Hid (ReadsD w vt ds) := hD
  have HE : Hid (ReadsD w vu es) := hE
  have HK : Hid (KOk w) := hK
  have HBW : Hid (Below w.heap.size w w) := Below.refl _ _
  obtain ⟨c, HC⟩ : ∃ c, Hid (c = decide (ds.length ≤ 60)) := ⟨_, rfl⟩
  obtain ⟨adt, cpt, hvt⟩ := hD.slice
  obtain ⟨adu, cpu, hvu⟩ := hE.slice
  obtain ⟨n, HN⟩ : ∃ n, Hid (n = ds.length) := ⟨_, rfl⟩
  obtain ⟨m, HM⟩ : ∃ n, Hid (n = es.length) := ⟨_, rfl⟩
  rw [← HN.out] at hvt
  rw [← HM.out] at hvu
  subst hvt hvu
  clear hT hk hD hE hK
  go_enter Tryd.func4, Tryd.ntmps4
  go_upto_if 12 with (first
    | (with_reducible refine wpSeq_boxD (.tmp 2) k ?_ ?_ ?_ ?_
       · rfl
       · rfl
       · rfl
       intro gA wb nn
       have HA : Hid (Blk wb gA (cb k) 24) := nn.blk
       replace HD : Hid (ReadsD wb (.slice adt n cpt) ds) := HD.out.below nn.below
       replace HE : Hid (ReadsD wb (.slice adu m cpu) es) := HE.out.below nn.below
       replace HK : Hid (KOk wb) := HK.out.below nn.below HK.out.lt
       replace HBW : Hid (Below w.heap.size w wb) := HBW.out.trans (nn.below.mono HBW.out.size)
       clear nn)
    | (go_at_call 9; refine (trfew_any _ ds _ HD.out).mono ?_; rintro e w1 ⟨rfl, hb⟩; rw [← HC.out]
       replace HA : Hid (Blk w1 gA (cb k) 24) := HA.out.below hb HA.out.lt
       replace HD : Hid (ReadsD w1 (.slice adt n cpt) ds) := HD.out.below hb
       replace HE : Hid (ReadsD w1 (.slice adu m cpu) es) := HE.out.below hb
       replace HK : Hid (KOk w1) := HK.out.below hb HK.out.lt
       replace HBW : Hid (Below w.heap.size w w1) := HBW.out.trans (hb.mono HBW.out.size)
       clear hb))
  cases c with
  | false =>
    go_wp2_with (first
      | (go_at_call 10; refine (trworks_any HT.out _ HK.out).mono ?_; rintro e wz ⟨rfl, hb⟩
         replace HBW : Hid (Below w.heap.size w wz) := HBW.out.trans (hb.mono HBW.out.size)
         clear hb))
    go_ret
    exact ⟨rfl, HBW.out⟩
  | true =>
    have h60 : ds.length ≤ 60 := of_decide_eq_true HC.out.symm
    have H60 : Hid (ds.length ≤ 60) := h60
    obtain ⟨l, HLD⟩ : ∃ l, Hid (l = ofL (ds.zip es)) := ⟨_, rfl⟩
    have HLL : Hid (l.length ≤ 60) := by show _ ≤ _; rw [HLD.out]; exact len60 h60
    clear h60
    go_upto_region 5 with (first
      | (go_at_call 11; refine (HT.out.ofs _ _ _ ds es HK.out HD.out HE.out H60.out).mono ?_; rintro e w2 ⟨g, rfl, ht, hb⟩
         rw [← HLD.out] at ht
         have HT0 : Hid (T w2 g l) := ht
         replace HA : Hid (Blk w2 gA (cb k) 24) := HA.out.below hb HA.out.lt
         replace HD : Hid (ReadsD w2 (.slice adt n cpt) ds) := HD.out.below hb
         replace HE : Hid (ReadsD w2 (.slice adu m cpu) es) := HE.out.below hb
         replace HK : Hid (KOk w2) := HK.out.below hb HK.out.lt
         replace HBW : Hid (Below w.heap.size w w2) := HBW.out.trans (hb.mono HBW.out.size)
         clear hb ht)
      | (go_at_call 12; refine (lfOf_any _ _ ds es _ HD.out HE.out (by have := H60.out; omega)).mono ?_; rintro e w3 ⟨xa, xv, rfl, ho, hb⟩
         rw [← HLD.out] at ho
         have HO : Hid (OwnLf w3 w2.heap.size xa xv (l.map (·.1)) (l.map (·.2))) := ho
         replace HT0 : Hid (T w3 g l) := HT.out.next HT0.out hb
         replace HA : Hid (Blk w3 gA (cb k) 24) := HA.out.below hb HA.out.lt
         replace HD : Hid (ReadsD w3 (.slice adt n cpt) ds) := HD.out.below hb
         replace HK : Hid (KOk w3) := HK.out.below hb HK.out.lt
         replace HBW : Hid (Below w.heap.size w w3) := HBW.out.trans (hb.mono HBW.out.size)
         obtain ⟨nx, HNX⟩ : ∃ z : Nat, Hid (z = l.length) := ⟨_, rfl⟩
         obtain ⟨adx, cpx, hxa⟩ := ho.a.slice
         obtain ⟨adw, cpw, hxv⟩ := ho.v.slice
         rw [List.length_map, ← HNX.out] at hxa hxv
         subst hxa hxv
         clear hb ho HE))
    have HI : Hid (PrS T w (.slice adt n cpt) ds g l w3.heap.size (.slice adx nx cpx) (.slice adw nx cpw) gA k (w3.alloc (.cells [Value.slice adx nx cpx, .slice adw nx cpw].toArray 30))) := by
      have hb := below_alloc w3 (.cells [Value.slice adx nx cpx, .slice adw nx cpw].toArray 30)
      exact ⟨HK.out.below hb HK.out.lt, HBW.out.trans (hb.mono HBW.out.size), HT.out.next HT0.out hb, Blk.new _ _ _, HO.out.reads.below hb, HA.out.below hb HA.out.lt, HD.out.below hb⟩
    clear HT0 HA HD HK HBW HO HLD
    obtain ⟨gL, HGL⟩ : ∃ z, Hid (z = w3.heap.size) := ⟨_, rfl⟩
    have e0 : (some ⟨w3.heap.size, 0, none⟩ : Option Addr) = some ⟨gL, 0, none⟩ := by rw [HGL.out]
    simp only [e0]
    rw [← HGL.out] at HI
    clear e0 HGL
    generalize w3.alloc (.cells [Value.slice adx nx cpx, .slice adw nx cpw].toArray 30) = w4 at *
    have HOK : Hid (okLf l ∧ Up l) := HT.out.good HI.out.t
    refine wp_region_held_drew (S := Over w4.drew) (by kernel_rfl) (Over.refl _) ?_
    intro hS
    have hI := HI.out.next HT.out (Below.refl _ _).drew
    have hI0 := hI
    clear HI
    change wpAnyH _ _ _ _ _ _ _ _ (World.drew w4)
    generalize World.drew w4 = y0 at *
    refine wpAnyH_take (i := 0) (v := .pointer (some ⟨g, 0, none⟩)) rfl (by kernel_rfl) (by kernel_rfl) (by kernel_rfl) (fun _ _ _ h => h) (Or.inl ⟨by rfl, fun wx hx => by simp [go_sem]⟩) hS ?_
    simp only [Act.put, List.getElem_toArray, List.getElem_cons_zero, List.setIfInBounds_toArray, List.set_cons_zero, List.set_cons_succ]
    refine wpAnyH_take (i := 1) (v := .bool false) rfl (by kernel_rfl) (by kernel_rfl) (by kernel_rfl) (fun _ _ _ h => h) (Or.inl ⟨by rfl, fun wx hx => by simp [go_sem]⟩) hS ?_
    simp only [Act.put, List.getElem_toArray, List.getElem_cons_succ, List.getElem_cons_zero, List.setIfInBounds_toArray, List.set_cons_zero, List.set_cons_succ]
    refine wpAnyH_take (i := 2) (v := .bool false) rfl (by kernel_rfl) (by kernel_rfl) (by kernel_rfl) (fun _ _ _ h => h) (Or.inl ⟨by rfl, fun wx hx => by simp [go_sem]⟩) hS ?_
    simp only [Act.put, List.getElem_toArray, List.getElem_cons_succ, List.getElem_cons_zero, List.setIfInBounds_toArray, List.set_cons_zero, List.set_cons_succ]
    refine wpAnyH_take (i := 3) (v := .pointer (some ⟨g, 0, none⟩)) rfl (by kernel_rfl) (by kernel_rfl) (by kernel_rfl) (fun _ _ _ h => h) (Or.inl ⟨by rfl, fun wx hx => by simp [go_sem]⟩) hS ?_
    simp only [Act.put, List.getElem_toArray, List.getElem_cons_succ, List.getElem_cons_zero, List.setIfInBounds_toArray, List.set_cons_zero, List.set_cons_succ]
    refine wpAnyH_take (i := 4) (v := .agg (cb k).toArray) rfl (by kernel_rfl) (by kernel_rfl) (by kernel_rfl) (fun _ _ _ h => h) (Or.inl ⟨by rfl, fun wx hx => by exact loadDigest _ gA k HK32.out (Over.blk hx hI0.ab) rfl rfl⟩) hS ?_
    simp only [Act.put, List.getElem_toArray, List.getElem_cons_succ, List.getElem_cons_zero, List.setIfInBounds_toArray, List.set_cons_zero, List.set_cons_succ]
    refine wpAnyH_take (i := 6) (v := .agg #[.slice adx nx cpx, .slice adw nx cpw]) rfl (by kernel_rfl) (by kernel_rfl) (by kernel_rfl) (fun _ _ _ h => h) (Or.inl ⟨by rfl, fun wx hx => by (have hb := Over.blk hx hI0.lb; have c0 := hb.cell 0; have c1 := hb.cell 1; simp only [List.getElem?_cons_zero, List.getElem?_cons_succ] at c0 c1; simp [go_sem, c0, c1])⟩) hS ?_
    simp only [Act.put, List.getElem_toArray, List.getElem_cons_succ, List.getElem_cons_zero, List.setIfInBounds_toArray, List.set_cons_zero, List.set_cons_succ]
    refine wpAnyH_take (i := 7) (v := .agg (cb k).toArray) rfl (by kernel_rfl) (by kernel_rfl) (by kernel_rfl) (fun _ _ _ h => h) (Or.inl ⟨by rfl, fun wx hx => by exact loadDigest _ gA k HK32.out (Over.blk hx hI0.ab) rfl rfl⟩) hS ?_
    simp only [Act.put, List.getElem_toArray, List.getElem_cons_succ, List.getElem_cons_zero, List.setIfInBounds_toArray, List.set_cons_zero, List.set_cons_succ]
    refine wpAnyH_enter 5 (by kernel_rfl) rfl (by rfl) (f := 19) (args := #[.pointer (some ⟨g, 0, none⟩), .agg (cb k).toArray]) (by simp [go_sem]) (HT.out.prove _ g l k hI.kk hI.t HK32.out) ?_
    rintro e y1 ⟨vs, rfl, hv1, hb⟩
    replace hI := hI.next HT.out hb
    replace hS := hS.more hb
    refine ⟨_, rfl, hS, ?_⟩
    clear hb
    simp only [Act.put, List.getElem_toArray, List.getElem_cons_succ, List.getElem_cons_zero, List.setIfInBounds_toArray, List.set_cons_zero, List.set_cons_succ]
    refine wpAnyH_enter 8 (by kernel_rfl) rfl (by rfl) (f := 20) (args := #[.agg #[.slice adx nx cpx, .slice adw nx cpw], .agg (cb k).toArray]) (by simp [go_sem]) (lfProve_any _ _ l k _ hI.rl (ok_fits HOK.out) (by have := HLL.out; omega) HK32.out) ?_
    rintro e y2 ⟨vs2, rfl, hv2, hb⟩
    replace hI := hI.next HT.out hb
    replace hS := hS.more hb
    have hr1 := hv1.readsD.below hb
    have hr2 := hv2.readsD
    refine ⟨_, rfl, hS, ?_⟩
    clear hb hv1 hv2
    simp only [Act.put, List.getElem_toArray, List.getElem_cons_succ, List.getElem_cons_zero, List.setIfInBounds_toArray, List.set_cons_zero, List.set_cons_succ]
    refine wpAnyH_enter 9 (by kernel_rfl) rfl (by rfl) (f := 18) (args := #[.agg (prfV vs (pend (wayL l k 0).2).1 (pend (wayL l k 0).2).2.1 (pend (wayL l k 0).2).2.2).toArray, .agg (prfV vs2 (pend (wayL l k 0).2).1 (pend (wayL l k 0).2).2.1 (pend (wayL l k 0).2).2.2).toArray]) (by simp [go_sem]) (same_ways HOK.out.1 hr1 hr2) ?_
    rintro e y3 ⟨rfl, hb⟩
    replace hI := hI.next HT.out hb
    replace hS := hS.more hb
    refine ⟨_, rfl, hS, ?_⟩
    clear hb hr1 hr2
    simp only [Act.put, List.getElem_toArray, List.getElem_cons_succ, List.getElem_cons_zero, List.setIfInBounds_toArray, List.set_cons_zero, List.set_cons_succ]
    refine wpAnyH_take (i := 10) (v := .bool false) rfl (by kernel_rfl) (by kernel_rfl) (by kernel_rfl) (fun _ _ _ h => h) (Or.inl ⟨by rfl, fun wx hx => by simp [go_sem]⟩) hS ?_
    simp only [Act.put, List.getElem_toArray, List.getElem_cons_succ, List.getElem_cons_zero, List.setIfInBounds_toArray, List.set_cons_zero, List.set_cons_succ]
    refine wpAnyH_take (i := 11) (v := .bool false) rfl (by kernel_rfl) (by kernel_rfl) (by kernel_rfl) (fun _ _ _ h => h) (Or.inl ⟨by rfl, fun wx hx => by simp [go_sem]⟩) hS ?_
    simp only [Act.put, List.getElem_toArray, List.getElem_cons_succ, List.getElem_cons_zero, List.setIfInBounds_toArray, List.set_cons_zero, List.set_cons_succ]
    refine wpAnyH_done (by kernel_rfl) ?_ _
    have HI : Hid (PrS T w (.slice adt n cpt) ds g l gL (.slice adx nx cpx) (.slice adw nx cpw) gA k y3) := hI
    clear hI hI0 hS
    obtain ⟨w5, HWQ⟩ : ∃ z, Hid (z = y3) := ⟨_, rfl⟩
    rw [← HWQ.out] at HI ⊢
    clear HWQ
    go_wp2_with fail
    go_loopw [9] (fun j wr => ∃ q : Nat, q ≤ n ∧ j = .int .i64 (q : Int) ∧ PrS T w (.slice adt n cpt) ds g l gL (.slice adx nx cpx) (.slice adw nx cpw) gA k wr) (fun j _ => n - (intOf j).toNat)
    case atStart => exact ⟨0, by omega, rfl, HI.out⟩
    case round =>
      clear HI
      obtain ⟨q, hq, rfl, hI⟩ := hrel
      have HI : Hid (PrS T w (.slice adt n cpt) ds g l gL (.slice adx nx cpx) (.slice adw nx cpw) gA k wr) := hI
      clear hI
      by_cases hlt : q < n ∧ q < 3
      · obtain ⟨hl1, hl2⟩ := hlt
        have hlti : (q : Int) < (n : Int) := by omega
        have hlt3 : (q : Int) < 3 := by omega
        have k0 : (0 : Int) ≤ (q : Int) := by omega
        have hn6 : n < 1000000 := by have h1 := H60.out; rw [HN.out]; omega
        have f5 : IntKind.i64.wrap ((q : Int) + 1) = (q : Int) + 1 := wrap_small2 _ (by omega) (by omega)
        have HQ : Hid (q < ds.length) := by show _ < _; rw [← HN.out]; exact hl1
        obtain ⟨ba, offa, cpa', hva, hya⟩ := HI.out.rd.at (by have := HQ.out; omega)
        rw [← HN.out] at hva hya
        simp only [Value.slice.injEq, true_and] at hva
        obtain ⟨rfl, rfl⟩ := hva
        obtain ⟨da, HDA⟩ : ∃ d, Hid (d = ds.getD q []) := ⟨_, rfl⟩
        have HA32 : Hid (da.length = 32) := by show _ = _; rw [HDA.out]; exact getD_mem32 HI.out.rd.2 HQ.out
        have HRA : Hid (∀ wx, Over wr.drew wx → wx.rangeAt ba (offa + q * 32) (cb da)) := fun wx hx => by
          have h := hya q hl1
          rw [← HDA.out] at h
          exact rangeAt_below h ((Below.refl _ wr).drew.trans hx.out) (rangeAt_lt h HA32.out)
        clear hya
        go_wp2_with fail
        refine wp_region_held_drew (S := Over wr.drew) (by kernel_rfl) (Over.refl _) ?_
        intro hS
        have hI := HI.out.next HT.out (Below.refl _ _).drew
        have hI0 := hI
        clear HI
        change wpAnyH _ _ _ _ _ _ _ _ (World.drew wr)
        generalize World.drew wr = y0 at *
        refine wpAnyH_take (i := 0) (v := .pointer (some ⟨g, 0, none⟩)) rfl (by kernel_rfl) (by kernel_rfl) (by kernel_rfl) (fun _ _ _ h => h) (Or.inl ⟨by rfl, fun wx hx => by simp [go_sem]⟩) hS ?_
        simp only [Act.put, List.getElem_toArray, List.getElem_cons_zero, List.setIfInBounds_toArray, List.set_cons_zero, List.set_cons_succ]
        refine wpAnyH_take (i := 1) (v := .slice (some ⟨ba, offa, none⟩) n cpt) rfl (by kernel_rfl) (by kernel_rfl) (by kernel_rfl) (fun _ _ _ h => h) (Or.inl ⟨by rfl, fun wx hx => by simp [go_sem]⟩) hS ?_
        simp only [Act.put, List.getElem_toArray, List.getElem_cons_succ, List.getElem_cons_zero, List.setIfInBounds_toArray, List.set_cons_zero, List.set_cons_succ]
        refine wpAnyH_take (i := 2) (v := .int .i64 (q : Int)) rfl (by kernel_rfl) (by kernel_rfl) (by kernel_rfl) (fun _ _ _ h => h) (Or.inl ⟨by rfl, fun wx hx => by simp [go_sem]⟩) hS ?_
        simp only [Act.put, List.getElem_toArray, List.getElem_cons_succ, List.getElem_cons_zero, List.setIfInBounds_toArray, List.set_cons_zero, List.set_cons_succ]
        refine wpAnyH_take (i := 3) (v := .pointer (some ⟨ba, offa + q * 32, none⟩)) rfl (by kernel_rfl) (by kernel_rfl) (by kernel_rfl) (fun _ _ _ h => h) (Or.inl ⟨by rfl, fun wx hx => by (simp [go_sem, hlti, k0])⟩) hS ?_
        simp only [Act.put, List.getElem_toArray, List.getElem_cons_succ, List.getElem_cons_zero, List.setIfInBounds_toArray, List.set_cons_zero, List.set_cons_succ]
        refine wpAnyH_take (i := 4) (v := .agg (cb da).toArray) rfl (by kernel_rfl) (by kernel_rfl) (by kernel_rfl) (fun _ _ _ h => h) (Or.inl ⟨by rfl, fun wx hx => by exact load_run 24 _ rfl _ _ rfl (cb da) _ (HRA.out wx hx) Tryd.underlying24 rfl (by rw [cb_len, HA32.out]; exact info_digest)⟩) hS ?_
        simp only [Act.put, List.getElem_toArray, List.getElem_cons_succ, List.getElem_cons_zero, List.setIfInBounds_toArray, List.set_cons_zero, List.set_cons_succ]
        refine wpAnyH_take (i := 6) (v := .agg #[.slice adx nx cpx, .slice adw nx cpw]) rfl (by kernel_rfl) (by kernel_rfl) (by kernel_rfl) (fun _ _ _ h => h) (Or.inl ⟨by rfl, fun wx hx => by (have hb := Over.blk hx hI0.lb; have c0 := hb.cell 0; have c1 := hb.cell 1; simp only [List.getElem?_cons_zero, List.getElem?_cons_succ] at c0 c1; simp [go_sem, c0, c1])⟩) hS ?_
        simp only [Act.put, List.getElem_toArray, List.getElem_cons_succ, List.getElem_cons_zero, List.setIfInBounds_toArray, List.set_cons_zero, List.set_cons_succ]
        refine wpAnyH_take (i := 7) (v := .slice (some ⟨ba, offa, none⟩) n cpt) rfl (by kernel_rfl) (by kernel_rfl) (by kernel_rfl) (fun _ _ _ h => h) (Or.inl ⟨by rfl, fun wx hx => by simp [go_sem]⟩) hS ?_
        simp only [Act.put, List.getElem_toArray, List.getElem_cons_succ, List.getElem_cons_zero, List.setIfInBounds_toArray, List.set_cons_zero, List.set_cons_succ]
        refine wpAnyH_take (i := 8) (v := .int .i64 (q : Int)) rfl (by kernel_rfl) (by kernel_rfl) (by kernel_rfl) (fun _ _ _ h => h) (Or.inl ⟨by rfl, fun wx hx => by simp [go_sem]⟩) hS ?_
        simp only [Act.put, List.getElem_toArray, List.getElem_cons_succ, List.getElem_cons_zero, List.setIfInBounds_toArray, List.set_cons_zero, List.set_cons_succ]
        refine wpAnyH_take (i := 9) (v := .pointer (some ⟨ba, offa + q * 32, none⟩)) rfl (by kernel_rfl) (by kernel_rfl) (by kernel_rfl) (fun _ _ _ h => h) (Or.inl ⟨by rfl, fun wx hx => by (simp [go_sem, hlti, k0])⟩) hS ?_
        simp only [Act.put, List.getElem_toArray, List.getElem_cons_succ, List.getElem_cons_zero, List.setIfInBounds_toArray, List.set_cons_zero, List.set_cons_succ]
        refine wpAnyH_take (i := 10) (v := .agg (cb da).toArray) rfl (by kernel_rfl) (by kernel_rfl) (by kernel_rfl) (fun _ _ _ h => h) (Or.inl ⟨by rfl, fun wx hx => by exact load_run 24 _ rfl _ _ rfl (cb da) _ (HRA.out wx hx) Tryd.underlying24 rfl (by rw [cb_len, HA32.out]; exact info_digest)⟩) hS ?_
        simp only [Act.put, List.getElem_toArray, List.getElem_cons_succ, List.getElem_cons_zero, List.setIfInBounds_toArray, List.set_cons_zero, List.set_cons_succ]
        refine wpAnyH_enter 5 (by kernel_rfl) rfl (by rfl) (f := 19) (args := #[.pointer (some ⟨g, 0, none⟩), .agg (cb da).toArray]) (by simp [go_sem]) (HT.out.prove _ g l da hI.kk hI.t HA32.out) ?_
        rintro e y1 ⟨vs, rfl, hv1, hb⟩
        replace hI := hI.next HT.out hb
        replace hS := hS.more hb
        refine ⟨_, rfl, hS, ?_⟩
        clear hb
        simp only [Act.put, List.getElem_toArray, List.getElem_cons_succ, List.getElem_cons_zero, List.setIfInBounds_toArray, List.set_cons_zero, List.set_cons_succ]
        refine wpAnyH_enter 11 (by kernel_rfl) rfl (by rfl) (f := 20) (args := #[.agg #[.slice adx nx cpx, .slice adw nx cpw], .agg (cb da).toArray]) (by simp [go_sem]) (lfProve_any _ _ l da _ hI.rl (ok_fits HOK.out) (by have := HLL.out; omega) HA32.out) ?_
        rintro e y2 ⟨vs2, rfl, hv2, hb⟩
        replace hI := hI.next HT.out hb
        replace hS := hS.more hb
        have hr1 := hv1.readsD.below hb
        have hr2 := hv2.readsD
        refine ⟨_, rfl, hS, ?_⟩
        clear hb hv1 hv2
        simp only [Act.put, List.getElem_toArray, List.getElem_cons_succ, List.getElem_cons_zero, List.setIfInBounds_toArray, List.set_cons_zero, List.set_cons_succ]
        refine wpAnyH_enter 12 (by kernel_rfl) rfl (by rfl) (f := 18) (args := #[.agg (prfV vs (pend (wayL l da 0).2).1 (pend (wayL l da 0).2).2.1 (pend (wayL l da 0).2).2.2).toArray, .agg (prfV vs2 (pend (wayL l da 0).2).1 (pend (wayL l da 0).2).2.1 (pend (wayL l da 0).2).2.2).toArray]) (by simp [go_sem]) (same_ways HOK.out.1 hr1 hr2) ?_
        rintro e y3 ⟨rfl, hb⟩
        replace hI := hI.next HT.out hb
        replace hS := hS.more hb
        refine ⟨_, rfl, hS, ?_⟩
        clear hb hr1 hr2
        simp only [Act.put, List.getElem_toArray, List.getElem_cons_succ, List.getElem_cons_zero, List.setIfInBounds_toArray, List.set_cons_zero, List.set_cons_succ]
        refine wpAnyH_take (i := 13) (v := .bool false) rfl (by kernel_rfl) (by kernel_rfl) (by kernel_rfl) (fun _ _ _ h => h) (Or.inl ⟨by rfl, fun wx hx => by simp [go_sem]⟩) hS ?_
        simp only [Act.put, List.getElem_toArray, List.getElem_cons_succ, List.getElem_cons_zero, List.setIfInBounds_toArray, List.set_cons_zero, List.set_cons_succ]
        refine wpAnyH_done (by kernel_rfl) ?_ _
        have HI : Hid (PrS T w (.slice (some ⟨ba, offa, none⟩) n cpt) ds g l gL (.slice adx nx cpx) (.slice adw nx cpw) gA k y3) := hI
        clear hI hI0 hS
        obtain ⟨w6, HWQ⟩ : ∃ z, Hid (z = y3) := ⟨_, rfl⟩
        rw [← HWQ.out] at HI ⊢
        clear HWQ
        go_wp2
        go_roundw
        case rel => exact ⟨q + 1, by omega, by simp, HI.out⟩
        case measure => simp [intOf]; omega
      · by_cases h1 : q < n
        · have hd1 : decide ((q : Int) < (n : Int)) = true := decide_eq_true (by omega)
          have hd2 : decide ((q : Int) < 3) = false := decide_eq_false (by omega)
          have hlti : (q : Int) < (n : Int) := by omega
          have hlt3 : ¬ ((q : Int) < 3) := by omega
          clear hlt h1
          go_wp2_with (first
            | (go_at_call 10; refine (trworks_any HT.out _ HI.out.kk).mono ?_; rintro e zz ⟨rfl, hb⟩
               have HF : Hid (Below w.heap.size w zz) := HI.out.bel.trans (hb.mono HI.out.bel.size)
               clear hb))
          go_ret
          exact ⟨rfl, HF.out⟩
        · have hd1 : decide ((q : Int) < (n : Int)) = false := decide_eq_false (by omega)
          have hlti : ¬ ((q : Int) < (n : Int)) := by omega
          clear hlt h1
          go_wp2_with (first
            | (go_at_call 10; refine (trworks_any HT.out _ HI.out.kk).mono ?_; rintro e zz ⟨rfl, hb⟩
               have HF : Hid (Below w.heap.size w zz) := HI.out.bel.trans (hb.mono HI.out.bel.size)
               clear hb))
          go_ret
          exact ⟨rfl, HF.out⟩
end Go.Proofs.YtphacinnnepdoaaDoor
/- The walk of the statement TreeGoes. -/
namespace Go.Proofs.YtphacinnnepdoaaDoor
open Go.RowKit Go.Shelf
attribute [local go_sem] Oper.semAt_some
section
variable {F : Fence} {n : Nat} {P : Program} {ops : Array Oper} {md : Region.Mode} {C : World → Prop}
/-- a region that only reads, inside a round too: one order serves all -/
theorem wpIn_of_quietR {o : Oper} {a : Act} {K : Act → Prop} {K' : Act → World → Prop} {Q' : Exit → Act → World → Prop} {w : World} (hd : ∀ c, o.op ≠ .defer c) (hw : C w) (h : ∀ a w', C w' → K a → K' a w')
    (ha : o.askedIn F P a C) (hh : o.quietIn F n P a C K) : o.wpIn F n P a w K' Q' := by
  obtain ⟨v, h1, h2⟩ := hh
  have h3 := h1 w hw
  unfold Oper.quietAtIn at h3
  unfold Oper.wpIn
  refine ⟨ha w hw, ?_⟩
  rw [Oper.semAt_eq _ _ _ hd]
  cases hr : (execOp a.eval o).run P w with
  | ok x w' =>
    rw [hr] at h3
    cases x with
    | value u => obtain ⟨e1, e2⟩ := h3; rw [e1, e2]; exact h _ _ hw h2
    | skip => obtain ⟨e1, e2⟩ := h3; rw [e2] at h2; rw [e1]; exact h _ _ hw h2
    | enter f args => obtain ⟨e1, hdp, hc⟩ := h3; rw [e1]; exact ⟨hdp, hc.mono fun e w'' he => by obtain ⟨rfl, hw''⟩ := he; exact h _ _ hw'' h2⟩
    | _ => exact h3.elim
  | halt x w' => rw [hr] at h3; exact h3.elim
theorem wpOpIn_of_quietR {i : Nat} {a : Act} {K : Act → Prop} {K' : Act → World → Prop} {Q' : Exit → Act → World → Prop} {w : World} (hd : ∀ o, ops[i]? = some o → ∀ c, o.op ≠ .defer c) (hC : C w) (h : ∀ a w', C w' → K a → K' a w')
    (hh : qOpIn F n P ops C i K a) : wpOpIn F n P ops Q' i K' a w := by
  unfold qOpIn at hh
  unfold wpOpIn
  cases ho : ops[i]? with
  | none => rw [ho] at hh; exact h _ _ hC hh
  | some o =>
    rw [ho] at hh
    obtain ⟨ha, hh⟩ := hh
    simp only
    split
    · rename_i hw; rw [if_pos hw] at hh; exact wpIn_of_quietR (hd o ho) hC h ha hh
    · rename_i hw; rw [if_neg hw] at hh; exact ⟨ha w hC, h _ _ hC hh⟩
theorem wpAnyIn_of_quietR {Q : Act → Prop} {Q' : Exit → Act → World → Prop} (hd : ∀ (i : Nat) (o : Oper), ops[i]? = some o → ∀ c, o.op ≠ .defer c) (hQ : ∀ a w, C w → Q a → Q' .normal a w) : ∀ (fuel : Nat) (listed : Array Bool) (a : Act) (w : World), C w →
    wpAnyQIn F n P md ops C Q fuel listed a → wpAnyIn F n P md ops Q' fuel listed a w
  | 0, _, _, _, hw, h => ⟨h.1, hQ _ _ hw h.2⟩
  | fuel + 1, _, _, _, hw, h => ⟨fun h0 => hQ _ _ hw (h.1 h0), fun i hi => wpOpIn_of_quietR (hd i) hw (fun a' w' hw' => wpAnyIn_of_quietR hd hQ fuel _ a' w' hw') (h.2 i hi)⟩
def noDefer (o : Oper) : Bool := match o.op with | .defer _ => false | _ => true
theorem noDefer_all (h : ops.toList.all noDefer = true) : ∀ (i : Nat) (o : Oper), ops[i]? = some o → ∀ c, o.op ≠ .defer c := fun i o hi c e => by
  have hm : o ∈ ops.toList := by
    rw [← Array.getElem?_toList] at hi
    exact List.mem_of_getElem? hi
  have := List.all_eq_true.1 h o hm
  unfold noDefer at this
  rw [e] at this
  cases this
theorem wpIn_region_quietR {id : Nat} {Q : Exit → Act → World → Prop} {a : Act} {w : World} (hd : ops.toList.all noDefer = true) (hm : P.follows .mixedOrders = true) (hB : Region.lexB .any ops = true)
    (h : wpQuietIn F n P ops (fun w' => w' = w.drew) (fun a' => Q .normal a' w.drew) ops.toList a) : (Code.region id ops true).wpIn F n P Q a w := by
  simp only [Region.lexB, Bool.and_eq_true] at hB
  refine wpIn_region_any hm (wpAnyIn_of_quietR (C := fun w' => w' = w.drew) (Q := fun a' => Q .normal a' w.drew) (noDefer_all hd) (fun _ w' hw' h => by rw [hw']; exact h) _ _ _ _ rfl ?_)
  have := wpAnyQIn_lex (F := F) (n := n) (C := fun w' => w' = w.drew) (md := .any) hB.1 ops.toList 0 (Array.replicate ops.size false) a (by simp) (by simpa using hB.2) h
  simpa using this
theorem quiet_val {Q : Act → Prop} {a : Act} {o : Oper} {rest : List Oper} {W : World} (v : Value) (hab : ∀ w, o.about P w a.eval = none) (hw : Region.wanted o (yielded ops a.tmps) = true) (he : (execOp a.eval o).run P W = .ok (.value v) W) (h : wpQuietIn F n P ops (fun w' => w' = W) Q rest (a.put o.dst v)) : wpQuietIn F n P ops (fun w' => w' = W) Q (o :: rest) a := by
  refine ⟨(fun w _ f hf => by rw [hab w] at hf; cases hf), ?_⟩
  rw [if_pos hw]
  refine ⟨v, fun w hw' => ?_, h⟩
  unfold Oper.quietAtIn
  rw [hw', he]
  exact ⟨rfl, rfl⟩
theorem quiet_skip {Q : Act → Prop} {a : Act} {o : Oper} {rest : List Oper} (hab : ∀ w, o.about P w a.eval = none) (hw : Region.wanted o (yielded ops a.tmps) = false) (h : wpQuietIn F n P ops C Q rest (a.put o.dst undef)) : wpQuietIn F n P ops C Q (o :: rest) a := by
  refine ⟨(fun w _ f hf => by rw [hab w] at hf; cases hf), ?_⟩
  rw [if_neg (by rw [hw]; decide)]
  exact h
end
theorem wpSeqIn_allocD {F : Fence} {n : Nat} {ops : Array Oper} {Q : Exit → Act → World → Prop} {rest : List Oper} {o : Oper} {a : Act} {w : World} (ho : o.op = .alloc 24) (hw : Region.wanted o (yielded ops a.tmps) = true)
    (h : ∀ g w', NewB zb32 w g w' → wpListIn F n Tryd.prog ops Q rest (a.put o.dst (.pointer (some ⟨g, 0, none⟩))) w') : wpListIn F n Tryd.prog ops Q (o :: rest) a w :=
  wpSeqIn_val _ _ hw (by rw [ho]; intro c hc; cases hc) (by simp [Oper.about, ho]) (allocDigest _ _ ho _) (h _ _ (NewB.of zb32 w))
/-- where the loop stands: as many leaves as were counted -/
structure TgI (v0 : World) (n₀ : Nat) (l : List Lf) (gn : Nat) (pre : List Lf) (W : World) : Prop where
  bel : Below n₀ v0 W
  bn : Blk W gn [.int .i64 (pre.length : Int)] 3
  eq : pre = l.take pre.length
  le : pre.length ≤ l.length
  ge : n₀ ≤ W.heap.size
def TgX (v0 : World) (n₀ : Nat) (l : List Lf) (gn : Nat) (sp : Int) (c : Code) (pre : List Lf) (W : World) : Prop :=
  (c = .ret ∧ ∃ pr p, pre = pr ++ [p] ∧ (l.length ≤ pr.length ∨ p ≠ l.getD pr.length default)) ∨ (c = .exit 0 ∧ TgI v0 n₀ l gn pre W ∧ (pre.length : Int) = sp)
theorem TgI.own {v0 : World} {n₀ B : Nat} {l : List Lf} {gn : Nat} (hB : n₀ ≤ B) : OwnFrom B (TgI v0 n₀ l gn) := fun s A W' row hs hg hr =>
  ⟨hs.bel.grown hg hs.ge (fun k e => Nat.le_trans hB (hr k e).1), blk_own (β := Unit) gn (fun _ => [.int .i64 (s.length : Int)]) _ () A W' row hs.bn hg (fun r e => (hr r e).2), hs.eq, hs.le, Nat.le_trans hs.ge hg.size⟩
theorem TgX.own {v0 : World} {n₀ B : Nat} {l : List Lf} {gn : Nat} {sp : Int} (hB : n₀ ≤ B) (c : Code) : OwnFrom B (TgX v0 n₀ l gn sp c) := fun s A W' row hs hg hr => by
  rcases hs with h | ⟨h1, h2, h3⟩
  · exact Or.inl h
  · exact Or.inr ⟨h1, TgI.own hB s A W' row h2 hg hr, h3⟩
theorem TgX.at {v0 : World} {n₀ : Nat} {l : List Lf} {gn : Nat} {sp : Int} {c : Code} {k : Nat} {W : World} (hk : k ≤ l.length) (h : TgX v0 n₀ l gn sp c (l.take k) W) : c = .exit 0 ∧ TgI v0 n₀ l gn (l.take k) W ∧ (k : Int) = sp := by
  rcases h with ⟨_, pr, p, h1, h2⟩ | ⟨h1, h2, h3⟩
  · exfalso
    have hl := congrArg List.length h1
    rw [List.length_take, List.length_append] at hl
    simp only [List.length_cons, List.length_nil] at hl
    have hkk : k = pr.length + 1 := by omega
    have hlt : pr.length < l.length := by omega
    have hg : (l.take k)[pr.length]? = some p := by rw [h1, List.getElem?_append_right (Nat.le_refl _)]; simp
    rw [List.getElem?_take, if_pos (by omega), List.getElem?_eq_getElem hlt] at hg
    rcases h2 with h2 | h2
    · omega
    · rw [List.getD_eq_getElem?_getD, List.getElem?_eq_getElem hlt] at h2
      simp only [Option.some.injEq] at hg
      exact h2 (by rw [← hg]; rfl)
  · refine ⟨h1, h2, ?_⟩
    rw [List.length_take] at h3
    rw [← h3]; congr 1; omega
theorem notNilS (g : Nat) (w : World) : (binOp .eql 45 (.func (.func 33) #[] #[.pointer (some ⟨g, 0, none⟩)]) .nilFunc).run Tryd.prog w = .ok (.bool false) w := by kernel_rfl
set_option maxRecDepth 100000 in
set_option maxHeartbeats 8000000 in
theorem treeGoes_law (vt vu : Value) (ds es : List (List (BitVec 8))) (sp : Int) (w : World) (hK : KOk w) (hD : ReadsD w vt ds) (hE : ReadsD w vu es) :
    Calls Tryd.prog 5 #[vt, vu, .int .i64 sp] w fun e w' => e = .returned (.bool true) ∧ Below w.heap.size w w' := by
  have HD : Hid (ReadsD w vt ds) := hD
  have HE : Hid (ReadsD w vu es) := hE
  have HK : Hid (KOk w) := hK
  have HBW : Hid (Below w.heap.size w w) := Below.refl _ _
  obtain ⟨adt, cpt, hvt⟩ := hD.slice
  obtain ⟨adu, cpu, hvu⟩ := hE.slice
  obtain ⟨n, HN⟩ : ∃ n, Hid (n = ds.length) := ⟨_, rfl⟩
  obtain ⟨m, HM⟩ : ∃ n, Hid (n = es.length) := ⟨_, rfl⟩
  rw [← HN.out] at hvt
  rw [← HM.out] at hvu
  subst hvt hvu
  clear hD hE hK
  by_cases h60 : ds.length ≤ 60
  · have H60 : Hid (ds.length ≤ 60) := h60
    have HFEW : Hid (decide (ds.length ≤ 60) = true) := decide_eq_true h60
    obtain ⟨l, HLD⟩ : ∃ l, Hid (l = ofL (ds.zip es)) := ⟨_, rfl⟩
    have HLL : Hid (l.length ≤ 60) := by show _ ≤ _; rw [HLD.out]; exact len60 h60
    have hnil := notNilS
    clear h60
    refine (callsIn_wide (n := 4)).1 ?_
    refine callsIn_of_wp_marks Tryd.func5 rfl trivial ?_ rfl
    simp only [Tryd.ntmps5, List.size_toArray, List.length_cons, List.length_nil, Nat.reduceAdd, Nat.reduceSub, Array.replicate_succ, Array.replicate_zero, List.push_toArray, List.append_toArray, List.nil_append, List.cons_append]
    refine wpIn_wide.2 ?_
    go_upto_region 5 with (first
      | (with_reducible refine wpSeq_boxI (.tmp 2) sp ?_ ?_ ?_ ?_
         · rfl
         · rfl
         · rfl
         intro gs w1 n1
         have HS : Hid (Blk w1 gs [.int .i64 sp] 3) := n1.blk
         replace HD : Hid (ReadsD w1 (.slice adt n cpt) ds) := HD.out.below n1.below
         replace HE : Hid (ReadsD w1 (.slice adu m cpu) es) := HE.out.below n1.below
         replace HK : Hid (KOk w1) := HK.out.below n1.below HK.out.lt
         replace HBW : Hid (Below w.heap.size w w1) := HBW.out.trans (n1.below.mono HBW.out.size)
         clear n1)
      | (with_reducible refine wpSeq_allocT ?_ ?_ ?_
         · rfl
         · rfl
         intro gr w2 n2
         replace HS : Hid (Blk w2 gs [.int .i64 sp] 3) := HS.out.below n2.below HS.out.lt
         have HR : Hid (Blk w2 gr [.bool false] 4) := n2.blk
         have HGR : Hid (w.heap.size ≤ gr) := Nat.le_trans HBW.out.size n2.ge
         replace HD : Hid (ReadsD w2 (.slice adt n cpt) ds) := HD.out.below n2.below
         replace HE : Hid (ReadsD w2 (.slice adu m cpu) es) := HE.out.below n2.below
         replace HK : Hid (KOk w2) := HK.out.below n2.below HK.out.lt
         replace HBW : Hid (Below w.heap.size w w2) := HBW.out.trans (n2.below.mono HBW.out.size)
         clear n2)
      | (go_at_call 9; refine (trfew_any _ ds _ HD.out).mono ?_; rintro e w3 ⟨rfl, hb⟩; rw [HFEW.out]
         replace HS : Hid (Blk w3 gs [.int .i64 sp] 3) := HS.out.below hb HS.out.lt
         replace HR : Hid (Blk w3 gr [.bool false] 4) := HR.out.below hb HR.out.lt
         replace HD : Hid (ReadsD w3 (.slice adt n cpt) ds) := HD.out.below hb
         replace HE : Hid (ReadsD w3 (.slice adu m cpu) es) := HE.out.below hb
         replace HK : Hid (KOk w3) := HK.out.below hb HK.out.lt
         replace HBW : Hid (Below w.heap.size w w3) := HBW.out.trans (hb.mono HBW.out.size)
         clear hb)
      | (go_at_call 11; refine (trOf_any _ _ _ ds es HK.out HD.out HE.out (by have := H60.out; omega)).mono ?_; rintro e w4 ⟨g, rfl, ht, hb⟩
         rw [← HLD.out] at ht
         have HT0 : Hid (TT w4 g l) := ht
         replace HS : Hid (Blk w4 gs [.int .i64 sp] 3) := HS.out.below hb HS.out.lt
         replace HR : Hid (Blk w4 gr [.bool false] 4) := HR.out.below hb HR.out.lt
         replace HD : Hid (ReadsD w4 (.slice adt n cpt) ds) := HD.out.below hb
         replace HE : Hid (ReadsD w4 (.slice adu m cpu) es) := HE.out.below hb
         replace HK : Hid (KOk w4) := HK.out.below hb HK.out.lt
         replace HBW : Hid (Below w.heap.size w w4) := HBW.out.trans (hb.mono HBW.out.size)
         clear hb ht)
      | (go_at_call 12; refine (lfOf_any _ _ ds es _ HD.out HE.out (by have := H60.out; omega)).mono ?_; rintro e w5 ⟨xa, xv, rfl, ho, hb⟩
         rw [← HLD.out] at ho
         have HO : Hid (ReadsLf w5 xa xv l) := ho.reads
         replace HT0 : Hid (TT w5 g l) := HT0.out.next hb
         replace HS : Hid (Blk w5 gs [.int .i64 sp] 3) := HS.out.below hb HS.out.lt
         replace HR : Hid (Blk w5 gr [.bool false] 4) := HR.out.below hb HR.out.lt
         replace HK : Hid (KOk w5) := HK.out.below hb HK.out.lt
         replace HBW : Hid (Below w.heap.size w w5) := HBW.out.trans (hb.mono HBW.out.size)
         obtain ⟨nx, HNX⟩ : ∃ z : Nat, Hid (z = l.length) := ⟨_, rfl⟩
         obtain ⟨adx, cpx, hxa⟩ := ho.a.slice
         obtain ⟨adw, cpw, hxv⟩ := ho.v.slice
         rw [List.length_map, ← HNX.out] at hxa hxv
         subst hxa hxv
         clear hb ho HE HD))
    obtain ⟨w6, HW6⟩ : ∃ z, Hid (z = w5.alloc (.cells [Value.slice adx nx cpx, .slice adw nx cpw].toArray 30)) := ⟨_, rfl⟩
    change Code.wp _ _ _ _ (w5.alloc (.cells [Value.slice adx nx cpx, .slice adw nx cpw].toArray 30))
    rw [← HW6.out]
    obtain ⟨gL, HGL⟩ : ∃ z, Hid (z = w5.heap.size) := ⟨_, rfl⟩
    have e0 : (some ⟨w5.heap.size, 0, none⟩ : Option Addr) = some ⟨gL, 0, none⟩ := by rw [HGL.out]
    simp only [e0]
    have hb6 : Below w5.heap.size w5 w6 := by rw [HW6.out]; exact below_alloc _ _
    have HL6 : Hid (Blk w6 gL [Value.slice adx nx cpx, .slice adw nx cpw] 30) := by rw [HW6.out, HGL.out]; exact Blk.new _ _ _
    replace HO : Hid (ReadsLf w6 (.slice adx nx cpx) (.slice adw nx cpw) l) := HO.out.below hb6
    replace HT0 : Hid (TT w6 g l) := HT0.out.next hb6
    replace HS : Hid (Blk w6 gs [.int .i64 sp] 3) := HS.out.below hb6 HS.out.lt
    replace HR : Hid (Blk w6 gr [.bool false] 4) := HR.out.below hb6 HR.out.lt
    replace HK : Hid (KOk w6) := HK.out.below hb6 HK.out.lt
    replace HBW : Hid (Below w.heap.size w w6) := HBW.out.trans (hb6.mono HBW.out.size)
    clear e0 hb6 HW6 HGL
    go_upto_region 10 with (go_at_call 21; refine (trAll_any _ g).mono ?_; rintro e v0 ⟨gb, rfl, hbb, hb⟩
                            have HGB : Hid (Blk v0 gb [ptr g] 27) := hbb
                            replace HL6 : Hid (Blk v0 gL [Value.slice adx nx cpx, .slice adw nx cpw] 30) := HL6.out.below hb HL6.out.lt
                            replace HO : Hid (ReadsLf v0 (.slice adx nx cpx) (.slice adw nx cpw) l) := HO.out.below hb
                            replace HT0 : Hid (TT v0 g l) := HT0.out.next hb
                            replace HS : Hid (Blk v0 gs [.int .i64 sp] 3) := HS.out.below hb HS.out.lt
                            replace HR : Hid (Blk v0 gr [.bool false] 4) := HR.out.below hb HR.out.lt
                            replace HK : Hid (KOk v0) := HK.out.below hb HK.out.lt
                            replace HBW : Hid (Below w.heap.size w v0) := HBW.out.trans (hb.mono HBW.out.size)
                            clear hb hbb)
    clear hnil
    obtain ⟨gn, HGN⟩ : ∃ z, Hid (z = v0.heap.size) := ⟨_, rfl⟩
    obtain ⟨wA, HWA⟩ : ∃ z, Hid (z = v0.alloc (.cells [.int .i64 0].toArray 3)) := ⟨_, rfl⟩
    go_wp2_with fail
    change Code.wp _ _ _ _ (v0.alloc (.cells [.int .i64 0].toArray 3))
    rw [← HWA.out]
    have e1 : (some ⟨v0.heap.size, 0, none⟩ : Option Addr) = some ⟨gn, 0, none⟩ := by rw [HGN.out]
    simp only [e1]
    clear e1
    have HA : Hid (Below gn v0 wA) := by rw [HWA.out, HGN.out]; exact below_alloc _ _
    have HSZ : Hid (gn + 1 ≤ wA.heap.size) := by show _ ≤ _; rw [HWA.out, HGN.out]; simp
    have HI0 : Hid (TgI v0 gn l gn [] wA) := ⟨HA.out, by rw [HWA.out, HGN.out]; exact Blk.new _ _ _, rfl, Nat.zero_le _, by have := HSZ.out; omega⟩
    have HGB2 : Hid (Blk wA gb [ptr g] 27) := HGB.out.below HA.out (by rw [HGN.out]; exact HGB.out.lt)
    have HV : Hid (∀ W, Below gn v0 W → Below v0.heap.size v0 W) := fun W h => by rw [← HGN.out]; exact h
    clear HWA HGB
    refine (wpIn_wide (n := 4)).1 ?_
    refine wpIn_rangeFunc_ownH (F := Fence.wide) (α := Lf32) rfl (by omega) (gf := 33) (lb := #[.pointer (some ⟨gb, 0, none⟩)]) rfl trivial (enters_of Tryd.func33 (by kernel_rfl) rfl)
      (all_stops 3 (v0 := v0) (n₀ := gn) HGN.out.symm HT0.out.1 wA HA.out (by have := HSZ.out; omega) HGB2.out) belowK_t (fun W l o o' h1 h2 h3 h4 => belowK_b (w := wA) (by have := HSZ.out; omega) W l o o' h1 h2 h3 h4) (Below.refl _ _) (fun _ => rfl)
      (fun pre W => TgI v0 gn l gn (pre.map (·.1)) W) (fun c pre W => TgX v0 gn l gn sp c (pre.map (·.1)) W)
      (fun s A W' row hs hg hr => TgI.own (by have := HSZ.out; omega) (s.map (·.1)) A W' row hs hg hr) (fun c s A W' row hs hg hr => TgX.own (by have := HSZ.out; omega) c (s.map (·.1)) A W' row hs hg hr) HI0.out
      (fun x a' W => ∃ gx gv, a' = { tmps := #[.slice adt n cpt, .slice adu m cpu, .int .i64 sp, undef, undef, .pointer (some ⟨gs, 0, none⟩), .pointer (some ⟨gr, 0, none⟩), .pointer (some ⟨g, 0, none⟩), .pointer (some ⟨gL, 0, none⟩), .func (.func 33) #[] #[.pointer (some ⟨gb, 0, none⟩)], .pointer (some ⟨gn, 0, none⟩), .pointer (some ⟨gx, 0, none⟩), .pointer (some ⟨gv, 0, none⟩), .slice adt n cpt, .bool true, .bool false, undef, .slice adt n cpt, .slice adu m cpu, .pointer (some ⟨g, 0, none⟩), .slice adt n cpt, .slice adu m cpu, .agg #[.slice adx nx cpx, .slice adw nx cpw], .pointer (some ⟨g, 0, none⟩), .bool false, .pointer (some ⟨g, 0, none⟩), .func (.func 33) #[] #[.pointer (some ⟨gb, 0, none⟩)], .func (.func 33) #[] #[.pointer (some ⟨gb, 0, none⟩)], .bool false, .func (.func 33) #[] #[.pointer (some ⟨gb, 0, none⟩)], .agg (cb x.1.1).toArray, .agg (cb x.1.2).toArray, undef, undef, undef, undef, undef, undef, undef, undef, undef, undef, undef, undef, undef, undef, undef, undef, undef, undef, undef, undef, undef, undef, undef, undef, undef, undef, undef, undef, undef, undef, undef, undef, undef, undef, undef, undef, undef, undef, undef, undef, undef], defers := [] } ∧ Blk W gx (cb x.1.1) 24 ∧ Blk W gv (cb x.1.2) 24) ?hax ?assign ?body ?done ?stop
    case hax =>
      rintro x a' _ A W' row ⟨gx, gv, h1, h2, h3⟩ hg hr
      exact ⟨gx, gv, h1, blk_own (β := Unit) gx (fun _ => cb x.1.1) _ () A W' row h2 hg (fun r e => (hr r e).2), blk_own (β := Unit) gv (fun _ => cb x.1.2) _ () A W' row h3 hg (fun r e => (hr r e).2)⟩
    case assign =>
      intro lab pre x W K hI hK
      have HIW : Hid (TgI v0 gn l gn (pre.map (·.1)) W) := hI
      have HKK : Aside (∀ a' W', KeepsFrom wA.heap.size W W' → Below gn W W' → TgI v0 gn l gn (pre.map (·.1)) W' → (∃ gx gv, a' = { tmps := #[.slice adt n cpt, .slice adu m cpu, .int .i64 sp, undef, undef, .pointer (some ⟨gs, 0, none⟩), .pointer (some ⟨gr, 0, none⟩), .pointer (some ⟨g, 0, none⟩), .pointer (some ⟨gL, 0, none⟩), .func (.func 33) #[] #[.pointer (some ⟨gb, 0, none⟩)], .pointer (some ⟨gn, 0, none⟩), .pointer (some ⟨gx, 0, none⟩), .pointer (some ⟨gv, 0, none⟩), .slice adt n cpt, .bool true, .bool false, undef, .slice adt n cpt, .slice adu m cpu, .pointer (some ⟨g, 0, none⟩), .slice adt n cpt, .slice adu m cpu, .agg #[.slice adx nx cpx, .slice adw nx cpw], .pointer (some ⟨g, 0, none⟩), .bool false, .pointer (some ⟨g, 0, none⟩), .func (.func 33) #[] #[.pointer (some ⟨gb, 0, none⟩)], .func (.func 33) #[] #[.pointer (some ⟨gb, 0, none⟩)], .bool false, .func (.func 33) #[] #[.pointer (some ⟨gb, 0, none⟩)], .agg (cb x.1.1).toArray, .agg (cb x.1.2).toArray, undef, undef, undef, undef, undef, undef, undef, undef, undef, undef, undef, undef, undef, undef, undef, undef, undef, undef, undef, undef, undef, undef, undef, undef, undef, undef, undef, undef, undef, undef, undef, undef, undef, undef, undef, undef, undef, undef, undef, undef, undef], defers := [] } ∧ Blk W' gx (cb x.1.1) 24 ∧ Blk W' gv (cb x.1.2) 24) → K a' W') := hK
      clear hI hK
      simp only [encs32, encsL, List.zip_toArray, List.zip_cons_cons, List.zip_nil_right, List.size_toArray, List.length_cons, List.length_nil, Nat.reduceAdd, Array.foldl]
      gi_wp2_with (first
        | (with_reducible refine wpSeqIn_storeD (.tmp 11) (.tmp 30) gx zb32 x.1.1 ?_ ?_ ?_ ?_ ?_ ?_ ?_ ?_
           · rfl
           · exact x.2.1
           · exact HN1.out.blk
           · rfl
           · rfl
           · rfl
           · rfl
           intro W2 s2 _
           have HC1 : Hid (Blk W2 gx (cb x.1.1) 24) := s2.blk
           have HQ1 : Hid (Below W.heap.size W W2) := HN1.out.below.trans (s2.only.below HN1.out.ge HN1.out.below.size)
           clear s2 HN1)
        | (with_reducible refine wpSeqIn_storeD (.tmp 12) (.tmp 31) gv zb32 x.1.2 ?_ ?_ ?_ ?_ ?_ ?_ ?_ ?_
           · rfl
           · exact x.2.2
           · exact HN3.out.blk
           · rfl
           · rfl
           · rfl
           · rfl
           intro W4 s4 _
           have HC2 : Hid (Blk W4 gv (cb x.1.2) 24) := s4.blk
           have hb4 : Below W2.heap.size W2 W4 := HN3.out.below.trans (s4.only.below HN3.out.ge HN3.out.below.size)
           replace HC1 : Hid (Blk W4 gx (cb x.1.1) 24) := HC1.out.below hb4 HC1.out.lt
           replace HQ1 : Hid (Below W.heap.size W W4) := HQ1.out.trans (hb4.mono HQ1.out.size)
           clear s4 HN3 hb4)
        | (with_reducible refine wpSeqIn_allocD ?_ ?_ ?_
           · rfl
           · rfl
           intro gv W3 n3
           have HN3 : Hid (NewB zb32 W2 gv W3) := n3
           clear n3)
        | (with_reducible refine wpSeqIn_allocD ?_ ?_ ?_
           · rfl
           · rfl
           intro gx W1 n1
           have HN1 : Hid (NewB zb32 W gx W1) := n1
           clear n1))
      have hI := HIW.out
      exact HKK.out _ W4 ((keepsOthers_of_below HQ1.out).from _) (HQ1.out.mono hI.ge) ⟨hI.bel.trans (HQ1.out.mono hI.ge), hI.bn.below HQ1.out hI.bn.lt, hI.eq, hI.le, Nat.le_trans hI.ge HQ1.out.size⟩ ⟨gx, gv, rfl, HC1.out, HC2.out⟩
    case body =>
      rintro lab pre x a' W _ _ hI ⟨gx, gv, rfl, hbx, hbv⟩ hlen
      have HI : Hid (TgI v0 gn l gn (pre.map (·.1)) W) := hI
      obtain ⟨L, HLE⟩ : ∃ L : Nat, Hid (L = (pre.map (·.1)).length) := ⟨_, rfl⟩
      have HBX : Hid (Blk W.drew gx (cb x.1.1) 24) := hbx.drew
      have HBV : Hid (Blk W.drew gv (cb x.1.2) 24) := hbv.drew
      have HLW : Hid (Blk W gL [Value.slice adx nx cpx, .slice adw nx cpw] 30) := HL6.out.below hI.bel (by rw [HGN.out]; exact HL6.out.lt)
      have HRW : Hid (Blk W gr [.bool false] 4) := HR.out.below hI.bel (by rw [HGN.out]; exact HR.out.lt)
      have cn : W.drew.cell? ⟨gn, 0, none⟩ = some (.int .i64 (L : Int)) := by rw [HLE.out]; exact hI.bn.cell 0
      have ca : W.drew.cell? ⟨gL, 0, none⟩ = some (.slice adx nx cpx) := HLW.out.cell 0
      have cv : W.drew.cell? ⟨gL, 1, none⟩ = some (.slice adw nx cpw) := HLW.out.cell 1
      have cr : W.drew.cell? ⟨gr, 0, none⟩ = some (.bool false) := HRW.out.cell 0
      have fr : W.drew.frozen? ⟨gr, 0, none⟩ = false := HRW.out.frozen 0
      clear hI hbx hbv hlen
      by_cases hlt : L < nx
      · have hk1 : L < (l.map (·.1)).length := by rw [List.length_map, ← HNX.out]; exact hlt
        have hk2 : L < (l.map (·.2)).length := by rw [List.length_map, ← HNX.out]; exact hlt
        have HRO : Hid (ReadsLf W (.slice adx nx cpx) (.slice adw nx cpw) l) := HO.out.below (HV.out W HI.out.bel)
        obtain ⟨ba, offa, cpa, hva, hya⟩ := HRO.out.1.at (by omega)
        obtain ⟨bv, offv, cpv, hvv, hyv⟩ := HRO.out.2.at (by omega)
        simp only [Value.slice.injEq] at hva hvv
        obtain ⟨ea, _, ec⟩ := hva
        obtain ⟨ea2, _, ec2⟩ := hvv
        rw [ea] at ca
        rw [ea2] at cv
        obtain ⟨px, HDX⟩ : ∃ d, Hid (d = (l.map (·.1)).getD L []) := ⟨_, rfl⟩
        obtain ⟨pv, HDV⟩ : ∃ d, Hid (d = (l.map (·.2)).getD L []) := ⟨_, rfl⟩
        have HPX : Hid (px.length = 32) := by show _ = _; rw [HDX.out]; exact getD_mem32 HRO.out.1.2 hk1
        have HPV : Hid (pv.length = 32) := by show _ = _; rw [HDV.out]; exact getD_mem32 HRO.out.2.2 hk2
        have HRA : Hid (W.drew.rangeAt ba (offa + L * 32) (cb px)) := by rw [HDX.out]; exact hya L hk1
        have HRV : Hid (W.drew.rangeAt bv (offv + L * 32) (cb pv)) := by rw [HDV.out]; exact hyv L hk2
        have HPP : Hid (l.getD L default = (px, pv)) := by
          show _ = _
          rw [HDX.out, HDV.out]
          have hkl : L < l.length := by rw [← HNX.out]; exact hlt
          simp only [List.getD_eq_getElem?_getD, List.getElem?_map, List.getElem?_eq_getElem hkl, Option.map_some, Option.getD_some]
        have l0 : (0 : Int) ≤ (L : Int) := by omega
        have ll : (L : Int) < (nx : Int) := by omega
        clear hya hyv hk1 hk2 ea ea2 ec ec2
        by_cases ex : x.1.1 = px
        · have eqx : ∀ wx : World, (Op.equalIn 10000 24 (.agg (cb x.1.1).toArray) (.agg (cb px).toArray)).run Tryd.prog wx = .ok true wx := fun wx => by rw [ex]; exact eq_dig_same px HPX.out wx
          by_cases ev : x.1.2 = pv
          · have eqv : ∀ wx : World, (Op.equalIn 10000 24 (.agg (cb x.1.2).toArray) (.agg (cb pv).toArray)).run Tryd.prog wx = .ok true wx := fun wx => by rw [ev]; exact eq_dig_same pv HPV.out wx
            have HXE : Hid (x.1 = l.getD L default) := by show _ = _; rw [HPP.out]; exact Prod.ext ex ev
            clear ex ev
            gi_wp2_with fail
            refine wpIn_region_quietR (by kernel_rfl) (by kernel_rfl) (by kernel_rfl) ?_
            show wpQuietIn _ _ _ _ _ _ [_, _, _, _, _, _, _, _, _, _, _, _, _, _, _, _, _, _, _, _, _, _, _] _
            refine quiet_val (.int .i64 (L : Int)) (fun _ => rfl) (by rfl) (by simp [go_sem, cn]) ?_
            simp only [Act.put, List.setIfInBounds_toArray, List.set_cons_zero, List.set_cons_succ]
            refine quiet_val (.pointer (some ⟨gL, 0, none⟩)) (fun _ => rfl) (by rfl) (by simp [go_sem]) ?_
            simp only [Act.put, List.setIfInBounds_toArray, List.set_cons_zero, List.set_cons_succ]
            refine quiet_val (.slice (some ⟨ba, offa, none⟩) nx cpx) (fun _ => rfl) (by rfl) (by simp [go_sem, ca]) ?_
            simp only [Act.put, List.setIfInBounds_toArray, List.set_cons_zero, List.set_cons_succ]
            refine quiet_val (.int .i64 (nx : Int)) (fun _ => rfl) (by rfl) (by simp [go_sem]) ?_
            simp only [Act.put, List.setIfInBounds_toArray, List.set_cons_zero, List.set_cons_succ]
            refine quiet_val (.bool false) (fun _ => rfl) (by rfl) (by (simp [go_sem]; omega)) ?_
            simp only [Act.put, List.setIfInBounds_toArray, List.set_cons_zero, List.set_cons_succ]
            refine quiet_val (.bool false) (fun _ => rfl) (by rfl) (by simp [go_sem]) ?_
            simp only [Act.put, List.setIfInBounds_toArray, List.set_cons_zero, List.set_cons_succ]
            refine quiet_val (.agg (cb x.1.1).toArray) (fun _ => rfl) (by rfl) (by exact loadDigest _ gx x.1.1 x.2.1 HBX.out rfl rfl) ?_
            simp only [Act.put, List.setIfInBounds_toArray, List.set_cons_zero, List.set_cons_succ]
            refine quiet_val (.pointer (some ⟨gL, 0, none⟩)) (fun _ => rfl) (by rfl) (by simp [go_sem]) ?_
            simp only [Act.put, List.setIfInBounds_toArray, List.set_cons_zero, List.set_cons_succ]
            refine quiet_val (.slice (some ⟨ba, offa, none⟩) nx cpx) (fun _ => rfl) (by rfl) (by simp [go_sem, ca]) ?_
            simp only [Act.put, List.setIfInBounds_toArray, List.set_cons_zero, List.set_cons_succ]
            refine quiet_val (.int .i64 (L : Int)) (fun _ => rfl) (by rfl) (by simp [go_sem, cn]) ?_
            simp only [Act.put, List.setIfInBounds_toArray, List.set_cons_zero, List.set_cons_succ]
            refine quiet_val (.pointer (some ⟨ba, offa + L * 32, none⟩)) (fun _ => rfl) (by rfl) (by simp [go_sem, l0, ll]) ?_
            simp only [Act.put, List.setIfInBounds_toArray, List.set_cons_zero, List.set_cons_succ]
            refine quiet_val (.agg (cb px).toArray) (fun _ => rfl) (by rfl) (by exact load_run 24 _ rfl _ _ rfl (cb px) _ HRA.out Tryd.underlying24 rfl (by rw [cb_len, HPX.out]; exact info_digest)) ?_
            simp only [Act.put, List.setIfInBounds_toArray, List.set_cons_zero, List.set_cons_succ]
            refine quiet_val (.bool false) (fun _ => rfl) (by rfl) (by simp [go_sem, eqx]) ?_
            simp only [Act.put, List.setIfInBounds_toArray, List.set_cons_zero, List.set_cons_succ]
            refine quiet_val (.bool false) (fun _ => rfl) (by rfl) (by simp [go_sem]) ?_
            simp only [Act.put, List.setIfInBounds_toArray, List.set_cons_zero, List.set_cons_succ]
            refine quiet_val (.bool false) (fun _ => rfl) (by rfl) (by simp [go_sem]) ?_
            simp only [Act.put, List.setIfInBounds_toArray, List.set_cons_zero, List.set_cons_succ]
            refine quiet_val (.agg (cb x.1.2).toArray) (fun _ => rfl) (by rfl) (by exact loadDigest _ gv x.1.2 x.2.2 HBV.out rfl rfl) ?_
            simp only [Act.put, List.setIfInBounds_toArray, List.set_cons_zero, List.set_cons_succ]
            refine quiet_val (.pointer (some ⟨gL, 1, none⟩)) (fun _ => rfl) (by rfl) (by simp [go_sem]) ?_
            simp only [Act.put, List.setIfInBounds_toArray, List.set_cons_zero, List.set_cons_succ]
            refine quiet_val (.slice (some ⟨bv, offv, none⟩) nx cpw) (fun _ => rfl) (by rfl) (by simp [go_sem, cv]) ?_
            simp only [Act.put, List.setIfInBounds_toArray, List.set_cons_zero, List.set_cons_succ]
            refine quiet_val (.int .i64 (L : Int)) (fun _ => rfl) (by rfl) (by simp [go_sem, cn]) ?_
            simp only [Act.put, List.setIfInBounds_toArray, List.set_cons_zero, List.set_cons_succ]
            refine quiet_val (.pointer (some ⟨bv, offv + L * 32, none⟩)) (fun _ => rfl) (by rfl) (by simp [go_sem, l0, ll]) ?_
            simp only [Act.put, List.setIfInBounds_toArray, List.set_cons_zero, List.set_cons_succ]
            refine quiet_val (.agg (cb pv).toArray) (fun _ => rfl) (by rfl) (by exact load_run 24 _ rfl _ _ rfl (cb pv) _ HRV.out Tryd.underlying24 rfl (by rw [cb_len, HPV.out]; exact info_digest)) ?_
            simp only [Act.put, List.setIfInBounds_toArray, List.set_cons_zero, List.set_cons_succ]
            refine quiet_val (.bool false) (fun _ => rfl) (by rfl) (by simp [go_sem, eqv]) ?_
            simp only [Act.put, List.setIfInBounds_toArray, List.set_cons_zero, List.set_cons_succ]
            refine quiet_val (.bool false) (fun _ => rfl) (by rfl) (by simp [go_sem]) ?_
            simp only [Act.put, List.setIfInBounds_toArray, List.set_cons_zero, List.set_cons_succ]
            refine wpQuietIn_nil ?_
            clear eqx eqv ca cv cr fr HBX HBV HRA HRV
            have HKO : Hid (KeepsOthers W W.drew) := KeepsOthers.drew W
            have HBK : Hid (Below gn W W.drew) := (Below.refl gn W).drew
            have HB1 : Hid (Below gn v0 W.drew) := HI.out.bel.drew
            have HN1 : Hid (Blk W.drew gn [.int .i64 (L : Int)] 3) := by rw [HLE.out]; exact HI.out.bn.drew
            have HG1 : Hid (gn ≤ W.drew.heap.size) := HI.out.ge
            generalize World.drew W = W1 at *
            have f5 : IntKind.i64.wrap ((L : Int) + 1) = (L : Int) + 1 := by rw [IntKind.wrap_i64]; have h1 := HLL.out; have h2 := HNX.out; omega
            have fn : W1.frozen? ⟨gn, 0, none⟩ = false := HN1.out.frozen 0
            have HS1 : Hid (Blk W1 gs [.int .i64 sp] 3) := HS.out.below HB1.out (by rw [HGN.out]; exact HS.out.lt)
            have hgs : gs < gn := by rw [HGN.out]; exact HS.out.lt
            have cs : (W1.setCell ⟨gn, 0, none⟩ (.int .i64 ((L : Int) + 1))).cell? ⟨gs, 0, none⟩ = some (.int .i64 sp) := (HS1.out.other _ _ (show gs ≠ gn by omega)).cell 0
            have cn3 : (W1.setCell ⟨gn, 0, none⟩ (.int .i64 ((L : Int) + 1))).cell? ⟨gn, 0, none⟩ = some (.int .i64 ((L : Int) + 1)) := (HN1.out.set 0 _).cell 0
            have HEQ : Hid ((pre ++ [x]).map (·.1) = l.take (L + 1)) := by
              show _ = _
              have hkl : L < l.length := by rw [← HNX.out]; exact hlt
              have h1 := HI.out.eq
              rw [← HLE.out] at h1
              rw [List.map_append, h1, List.take_add_one, List.getElem?_eq_getElem hkl]
              congr 1
              have h2 := HXE.out
              rw [List.getD_eq_getElem?_getD, List.getElem?_eq_getElem hkl, Option.getD_some] at h2
              simp only [List.map_cons, List.map_nil, Option.toList_some]
              rw [h2]
            have HLN : Hid (((pre ++ [x]).map (·.1)).length = L + 1) := by
              show _ = _
              rw [HLE.out]
              simp
            have HGI : Hid (TgI v0 gn l gn ((pre ++ [x]).map (·.1)) (W1.setCell ⟨gn, 0, none⟩ (.int .i64 ((L : Int) + 1)))) := by
              refine ⟨HB1.out.setCell (p := ⟨gn, 0, none⟩) (Nat.le_refl _) _, ?_, by rw [HLN.out]; exact HEQ.out, by rw [HLN.out, ← HNX.out]; omega, ?_⟩
              · have h := HN1.out.set 0 (.int .i64 ((L : Int) + 1))
                rw [HLN.out]
                exact h
              · have := HG1.out
                simpa using this
            gi_wp2
            · rename_i hsp
              exact ⟨(HKO.out.trans (KeepsOthers.setCell _ _ _)).from _, Or.inr ⟨rfl, HGI.out, by rw [HLN.out]; have h2 : (L : Int) + 1 = sp := (by first | exact hsp | simpa using hsp); omega⟩⟩
            · exact ⟨(HKO.out.trans (KeepsOthers.setCell _ _ _)).from _, HBK.out.setCell (p := ⟨gn, 0, none⟩) (Nat.le_refl _) _, HGI.out⟩
          · have eqv : ∀ wx : World, (Op.equalIn 10000 24 (.agg (cb x.1.2).toArray) (.agg (cb pv).toArray)).run Tryd.prog wx = .ok false wx := fun wx => by
              have := eq_dig x.1.2 pv x.2.2 HPV.out wx
              rw [decide_eq_false ev] at this
              exact this
            have HBAD : Hid (x.1 ≠ l.getD L default) := by show _ ≠ _; rw [HPP.out]; exact fun e => ev (congrArg Prod.snd e)
            clear ex ev
            gi_wp2_with fail
            refine wpIn_region_quietR (by kernel_rfl) (by kernel_rfl) (by kernel_rfl) ?_
            show wpQuietIn _ _ _ _ _ _ [_, _, _, _, _, _, _, _, _, _, _, _, _, _, _, _, _, _, _, _, _, _, _] _
            refine quiet_val (.int .i64 (L : Int)) (fun _ => rfl) (by rfl) (by simp [go_sem, cn]) ?_
            simp only [Act.put, List.setIfInBounds_toArray, List.set_cons_zero, List.set_cons_succ]
            refine quiet_val (.pointer (some ⟨gL, 0, none⟩)) (fun _ => rfl) (by rfl) (by simp [go_sem]) ?_
            simp only [Act.put, List.setIfInBounds_toArray, List.set_cons_zero, List.set_cons_succ]
            refine quiet_val (.slice (some ⟨ba, offa, none⟩) nx cpx) (fun _ => rfl) (by rfl) (by simp [go_sem, ca]) ?_
            simp only [Act.put, List.setIfInBounds_toArray, List.set_cons_zero, List.set_cons_succ]
            refine quiet_val (.int .i64 (nx : Int)) (fun _ => rfl) (by rfl) (by simp [go_sem]) ?_
            simp only [Act.put, List.setIfInBounds_toArray, List.set_cons_zero, List.set_cons_succ]
            refine quiet_val (.bool false) (fun _ => rfl) (by rfl) (by (simp [go_sem]; omega)) ?_
            simp only [Act.put, List.setIfInBounds_toArray, List.set_cons_zero, List.set_cons_succ]
            refine quiet_val (.bool false) (fun _ => rfl) (by rfl) (by simp [go_sem]) ?_
            simp only [Act.put, List.setIfInBounds_toArray, List.set_cons_zero, List.set_cons_succ]
            refine quiet_val (.agg (cb x.1.1).toArray) (fun _ => rfl) (by rfl) (by exact loadDigest _ gx x.1.1 x.2.1 HBX.out rfl rfl) ?_
            simp only [Act.put, List.setIfInBounds_toArray, List.set_cons_zero, List.set_cons_succ]
            refine quiet_val (.pointer (some ⟨gL, 0, none⟩)) (fun _ => rfl) (by rfl) (by simp [go_sem]) ?_
            simp only [Act.put, List.setIfInBounds_toArray, List.set_cons_zero, List.set_cons_succ]
            refine quiet_val (.slice (some ⟨ba, offa, none⟩) nx cpx) (fun _ => rfl) (by rfl) (by simp [go_sem, ca]) ?_
            simp only [Act.put, List.setIfInBounds_toArray, List.set_cons_zero, List.set_cons_succ]
            refine quiet_val (.int .i64 (L : Int)) (fun _ => rfl) (by rfl) (by simp [go_sem, cn]) ?_
            simp only [Act.put, List.setIfInBounds_toArray, List.set_cons_zero, List.set_cons_succ]
            refine quiet_val (.pointer (some ⟨ba, offa + L * 32, none⟩)) (fun _ => rfl) (by rfl) (by simp [go_sem, l0, ll]) ?_
            simp only [Act.put, List.setIfInBounds_toArray, List.set_cons_zero, List.set_cons_succ]
            refine quiet_val (.agg (cb px).toArray) (fun _ => rfl) (by rfl) (by exact load_run 24 _ rfl _ _ rfl (cb px) _ HRA.out Tryd.underlying24 rfl (by rw [cb_len, HPX.out]; exact info_digest)) ?_
            simp only [Act.put, List.setIfInBounds_toArray, List.set_cons_zero, List.set_cons_succ]
            refine quiet_val (.bool false) (fun _ => rfl) (by rfl) (by simp [go_sem, eqx]) ?_
            simp only [Act.put, List.setIfInBounds_toArray, List.set_cons_zero, List.set_cons_succ]
            refine quiet_val (.bool false) (fun _ => rfl) (by rfl) (by simp [go_sem]) ?_
            simp only [Act.put, List.setIfInBounds_toArray, List.set_cons_zero, List.set_cons_succ]
            refine quiet_val (.bool false) (fun _ => rfl) (by rfl) (by simp [go_sem]) ?_
            simp only [Act.put, List.setIfInBounds_toArray, List.set_cons_zero, List.set_cons_succ]
            refine quiet_val (.agg (cb x.1.2).toArray) (fun _ => rfl) (by rfl) (by exact loadDigest _ gv x.1.2 x.2.2 HBV.out rfl rfl) ?_
            simp only [Act.put, List.setIfInBounds_toArray, List.set_cons_zero, List.set_cons_succ]
            refine quiet_val (.pointer (some ⟨gL, 1, none⟩)) (fun _ => rfl) (by rfl) (by simp [go_sem]) ?_
            simp only [Act.put, List.setIfInBounds_toArray, List.set_cons_zero, List.set_cons_succ]
            refine quiet_val (.slice (some ⟨bv, offv, none⟩) nx cpw) (fun _ => rfl) (by rfl) (by simp [go_sem, cv]) ?_
            simp only [Act.put, List.setIfInBounds_toArray, List.set_cons_zero, List.set_cons_succ]
            refine quiet_val (.int .i64 (L : Int)) (fun _ => rfl) (by rfl) (by simp [go_sem, cn]) ?_
            simp only [Act.put, List.setIfInBounds_toArray, List.set_cons_zero, List.set_cons_succ]
            refine quiet_val (.pointer (some ⟨bv, offv + L * 32, none⟩)) (fun _ => rfl) (by rfl) (by simp [go_sem, l0, ll]) ?_
            simp only [Act.put, List.setIfInBounds_toArray, List.set_cons_zero, List.set_cons_succ]
            refine quiet_val (.agg (cb pv).toArray) (fun _ => rfl) (by rfl) (by exact load_run 24 _ rfl _ _ rfl (cb pv) _ HRV.out Tryd.underlying24 rfl (by rw [cb_len, HPV.out]; exact info_digest)) ?_
            simp only [Act.put, List.setIfInBounds_toArray, List.set_cons_zero, List.set_cons_succ]
            refine quiet_val (.bool true) (fun _ => rfl) (by rfl) (by simp [go_sem, eqv]) ?_
            simp only [Act.put, List.setIfInBounds_toArray, List.set_cons_zero, List.set_cons_succ]
            refine quiet_val (.bool true) (fun _ => rfl) (by rfl) (by simp [go_sem]) ?_
            simp only [Act.put, List.setIfInBounds_toArray, List.set_cons_zero, List.set_cons_succ]
            refine wpQuietIn_nil ?_
            gi_wp2
            exact ⟨((KeepsOthers.drew W).trans (KeepsOthers.setCell _ _ _)).from _, Or.inl ⟨rfl, pre.map (·.1), x.1, by rw [List.map_append]; rfl, Or.inr (by rw [← HLE.out]; exact HBAD.out)⟩⟩
        · have eqx : ∀ wx : World, (Op.equalIn 10000 24 (.agg (cb x.1.1).toArray) (.agg (cb px).toArray)).run Tryd.prog wx = .ok false wx := fun wx => by
            have := eq_dig x.1.1 px x.2.1 HPX.out wx
            rw [decide_eq_false ex] at this
            exact this
          have HBAD : Hid (x.1 ≠ l.getD L default) := by show _ ≠ _; rw [HPP.out]; exact fun e => ex (congrArg Prod.fst e)
          clear ex
          gi_wp2_with fail
          refine wpIn_region_quietR (by kernel_rfl) (by kernel_rfl) (by kernel_rfl) ?_
          show wpQuietIn _ _ _ _ _ _ [_, _, _, _, _, _, _, _, _, _, _, _, _, _, _, _, _, _, _, _, _, _, _] _
          refine quiet_val (.int .i64 (L : Int)) (fun _ => rfl) (by rfl) (by simp [go_sem, cn]) ?_
          simp only [Act.put, List.setIfInBounds_toArray, List.set_cons_zero, List.set_cons_succ]
          refine quiet_val (.pointer (some ⟨gL, 0, none⟩)) (fun _ => rfl) (by rfl) (by simp [go_sem]) ?_
          simp only [Act.put, List.setIfInBounds_toArray, List.set_cons_zero, List.set_cons_succ]
          refine quiet_val (.slice (some ⟨ba, offa, none⟩) nx cpx) (fun _ => rfl) (by rfl) (by simp [go_sem, ca]) ?_
          simp only [Act.put, List.setIfInBounds_toArray, List.set_cons_zero, List.set_cons_succ]
          refine quiet_val (.int .i64 (nx : Int)) (fun _ => rfl) (by rfl) (by simp [go_sem]) ?_
          simp only [Act.put, List.setIfInBounds_toArray, List.set_cons_zero, List.set_cons_succ]
          refine quiet_val (.bool false) (fun _ => rfl) (by rfl) (by (simp [go_sem]; omega)) ?_
          simp only [Act.put, List.setIfInBounds_toArray, List.set_cons_zero, List.set_cons_succ]
          refine quiet_val (.bool false) (fun _ => rfl) (by rfl) (by simp [go_sem]) ?_
          simp only [Act.put, List.setIfInBounds_toArray, List.set_cons_zero, List.set_cons_succ]
          refine quiet_val (.agg (cb x.1.1).toArray) (fun _ => rfl) (by rfl) (by exact loadDigest _ gx x.1.1 x.2.1 HBX.out rfl rfl) ?_
          simp only [Act.put, List.setIfInBounds_toArray, List.set_cons_zero, List.set_cons_succ]
          refine quiet_val (.pointer (some ⟨gL, 0, none⟩)) (fun _ => rfl) (by rfl) (by simp [go_sem]) ?_
          simp only [Act.put, List.setIfInBounds_toArray, List.set_cons_zero, List.set_cons_succ]
          refine quiet_val (.slice (some ⟨ba, offa, none⟩) nx cpx) (fun _ => rfl) (by rfl) (by simp [go_sem, ca]) ?_
          simp only [Act.put, List.setIfInBounds_toArray, List.set_cons_zero, List.set_cons_succ]
          refine quiet_val (.int .i64 (L : Int)) (fun _ => rfl) (by rfl) (by simp [go_sem, cn]) ?_
          simp only [Act.put, List.setIfInBounds_toArray, List.set_cons_zero, List.set_cons_succ]
          refine quiet_val (.pointer (some ⟨ba, offa + L * 32, none⟩)) (fun _ => rfl) (by rfl) (by simp [go_sem, l0, ll]) ?_
          simp only [Act.put, List.setIfInBounds_toArray, List.set_cons_zero, List.set_cons_succ]
          refine quiet_val (.agg (cb px).toArray) (fun _ => rfl) (by rfl) (by exact load_run 24 _ rfl _ _ rfl (cb px) _ HRA.out Tryd.underlying24 rfl (by rw [cb_len, HPX.out]; exact info_digest)) ?_
          simp only [Act.put, List.setIfInBounds_toArray, List.set_cons_zero, List.set_cons_succ]
          refine quiet_val (.bool true) (fun _ => rfl) (by rfl) (by simp [go_sem, eqx]) ?_
          simp only [Act.put, List.setIfInBounds_toArray, List.set_cons_zero, List.set_cons_succ]
          refine quiet_val (.bool true) (fun _ => rfl) (by rfl) (by simp [go_sem]) ?_
          simp only [Act.put, List.setIfInBounds_toArray, List.set_cons_zero, List.set_cons_succ]
          refine quiet_val (.bool true) (fun _ => rfl) (by rfl) (by simp [go_sem]) ?_
          simp only [Act.put, List.setIfInBounds_toArray, List.set_cons_zero, List.set_cons_succ]
          refine quiet_skip (fun _ => rfl) (by rfl) ?_
          simp only [Act.put, List.setIfInBounds_toArray, List.set_cons_zero, List.set_cons_succ]
          refine quiet_skip (fun _ => rfl) (by rfl) ?_
          simp only [Act.put, List.setIfInBounds_toArray, List.set_cons_zero, List.set_cons_succ]
          refine quiet_skip (fun _ => rfl) (by rfl) ?_
          simp only [Act.put, List.setIfInBounds_toArray, List.set_cons_zero, List.set_cons_succ]
          refine quiet_skip (fun _ => rfl) (by rfl) ?_
          simp only [Act.put, List.setIfInBounds_toArray, List.set_cons_zero, List.set_cons_succ]
          refine quiet_skip (fun _ => rfl) (by rfl) ?_
          simp only [Act.put, List.setIfInBounds_toArray, List.set_cons_zero, List.set_cons_succ]
          refine quiet_skip (fun _ => rfl) (by rfl) ?_
          simp only [Act.put, List.setIfInBounds_toArray, List.set_cons_zero, List.set_cons_succ]
          refine quiet_skip (fun _ => rfl) (by rfl) ?_
          simp only [Act.put, List.setIfInBounds_toArray, List.set_cons_zero, List.set_cons_succ]
          refine quiet_val (.bool true) (fun _ => rfl) (by rfl) (by simp [go_sem]) ?_
          simp only [Act.put, List.setIfInBounds_toArray, List.set_cons_zero, List.set_cons_succ]
          refine wpQuietIn_nil ?_
          gi_wp2
          exact ⟨((KeepsOthers.drew W).trans (KeepsOthers.setCell _ _ _)).from _, Or.inl ⟨rfl, pre.map (·.1), x.1, by rw [List.map_append]; rfl, Or.inr (by rw [← HLE.out]; exact HBAD.out)⟩⟩
      · have hge : (nx : Int) ≤ (L : Int) := by omega
        gi_wp2_with fail
        refine wpIn_region_quietR (by kernel_rfl) (by kernel_rfl) (by kernel_rfl) ?_
        show wpQuietIn _ _ _ _ _ _ [_, _, _, _, _, _, _, _, _, _, _, _, _, _, _, _, _, _, _, _, _, _, _] _
        refine quiet_val (.int .i64 (L : Int)) (fun _ => rfl) (by rfl) (by simp [go_sem, cn]) ?_
        simp only [Act.put, List.setIfInBounds_toArray, List.set_cons_zero, List.set_cons_succ]
        refine quiet_val (.pointer (some ⟨gL, 0, none⟩)) (fun _ => rfl) (by rfl) (by simp [go_sem]) ?_
        simp only [Act.put, List.setIfInBounds_toArray, List.set_cons_zero, List.set_cons_succ]
        refine quiet_val (.slice adx nx cpx) (fun _ => rfl) (by rfl) (by simp [go_sem, ca]) ?_
        simp only [Act.put, List.setIfInBounds_toArray, List.set_cons_zero, List.set_cons_succ]
        refine quiet_val (.int .i64 (nx : Int)) (fun _ => rfl) (by rfl) (by simp [go_sem]) ?_
        simp only [Act.put, List.setIfInBounds_toArray, List.set_cons_zero, List.set_cons_succ]
        refine quiet_val (.bool true) (fun _ => rfl) (by rfl) (by simp [go_sem, hge]) ?_
        simp only [Act.put, List.setIfInBounds_toArray, List.set_cons_zero, List.set_cons_succ]
        refine quiet_val (.bool true) (fun _ => rfl) (by rfl) (by simp [go_sem]) ?_
        simp only [Act.put, List.setIfInBounds_toArray, List.set_cons_zero, List.set_cons_succ]
        refine quiet_skip (fun _ => rfl) (by rfl) ?_
        simp only [Act.put, List.setIfInBounds_toArray, List.set_cons_zero, List.set_cons_succ]
        refine quiet_skip (fun _ => rfl) (by rfl) ?_
        simp only [Act.put, List.setIfInBounds_toArray, List.set_cons_zero, List.set_cons_succ]
        refine quiet_skip (fun _ => rfl) (by rfl) ?_
        simp only [Act.put, List.setIfInBounds_toArray, List.set_cons_zero, List.set_cons_succ]
        refine quiet_skip (fun _ => rfl) (by rfl) ?_
        simp only [Act.put, List.setIfInBounds_toArray, List.set_cons_zero, List.set_cons_succ]
        refine quiet_skip (fun _ => rfl) (by rfl) ?_
        simp only [Act.put, List.setIfInBounds_toArray, List.set_cons_zero, List.set_cons_succ]
        refine quiet_skip (fun _ => rfl) (by rfl) ?_
        simp only [Act.put, List.setIfInBounds_toArray, List.set_cons_zero, List.set_cons_succ]
        refine quiet_skip (fun _ => rfl) (by rfl) ?_
        simp only [Act.put, List.setIfInBounds_toArray, List.set_cons_zero, List.set_cons_succ]
        refine quiet_val (.bool true) (fun _ => rfl) (by rfl) (by simp [go_sem]) ?_
        simp only [Act.put, List.setIfInBounds_toArray, List.set_cons_zero, List.set_cons_succ]
        refine quiet_val (.bool true) (fun _ => rfl) (by rfl) (by simp [go_sem]) ?_
        simp only [Act.put, List.setIfInBounds_toArray, List.set_cons_zero, List.set_cons_succ]
        refine quiet_skip (fun _ => rfl) (by rfl) ?_
        simp only [Act.put, List.setIfInBounds_toArray, List.set_cons_zero, List.set_cons_succ]
        refine quiet_skip (fun _ => rfl) (by rfl) ?_
        simp only [Act.put, List.setIfInBounds_toArray, List.set_cons_zero, List.set_cons_succ]
        refine quiet_skip (fun _ => rfl) (by rfl) ?_
        simp only [Act.put, List.setIfInBounds_toArray, List.set_cons_zero, List.set_cons_succ]
        refine quiet_skip (fun _ => rfl) (by rfl) ?_
        simp only [Act.put, List.setIfInBounds_toArray, List.set_cons_zero, List.set_cons_succ]
        refine quiet_skip (fun _ => rfl) (by rfl) ?_
        simp only [Act.put, List.setIfInBounds_toArray, List.set_cons_zero, List.set_cons_succ]
        refine quiet_skip (fun _ => rfl) (by rfl) ?_
        simp only [Act.put, List.setIfInBounds_toArray, List.set_cons_zero, List.set_cons_succ]
        refine quiet_skip (fun _ => rfl) (by rfl) ?_
        simp only [Act.put, List.setIfInBounds_toArray, List.set_cons_zero, List.set_cons_succ]
        refine quiet_val (.bool true) (fun _ => rfl) (by rfl) (by simp [go_sem]) ?_
        simp only [Act.put, List.setIfInBounds_toArray, List.set_cons_zero, List.set_cons_succ]
        refine wpQuietIn_nil ?_
        gi_wp2
        exact ⟨((KeepsOthers.drew W).trans (KeepsOthers.setCell _ _ _)).from _, Or.inl ⟨rfl, pre.map (·.1), x.1, by rw [List.map_append]; rfl, Or.inl (by rw [← HLE.out, ← HNX.out]; omega)⟩⟩
    case done =>
      rintro D ys W hD hys hI hK
      have hI' : TgI v0 gn l gn (ys.map (·.1)) W := hI
      rw [hys] at hI'
      clear hI hys
      have HD : Hid (w.heap.size ≤ D) := Nat.le_trans HBW.out.size (Nat.le_trans (by rw [← HGN.out]; have := HSZ.out; omega) hD)
      have HRW : Hid (Blk W gr [.bool false] 4) := HR.out.below hI'.bel (by rw [HGN.out]; exact HR.out.lt)
      have HB : Hid (Below w.heap.size w W) := HBW.out.trans ((HV.out W hI'.bel).mono HBW.out.size)
      have HKW : Hid (KOk W) := HK.out.below (HV.out W hI'.bel) HK.out.lt
      have ca : W.cell? ⟨gL, 0, none⟩ = some (.slice adx nx cpx) := (HL6.out.below hI'.bel (by rw [HGN.out]; exact HL6.out.lt)).cell 0
      have cs : W.cell? ⟨gs, 0, none⟩ = some (.int .i64 sp) := (HS.out.below hI'.bel (by rw [HGN.out]; exact HS.out.lt)).cell 0
      have cn : W.cell? ⟨gn, 0, none⟩ = some (.int .i64 (nx : Int)) := by have h := hI'.bn.cell 0; rw [← HNX.out] at h; exact h
      have HKD : Hid (W.heap[D]? = some (.deferred (some []))) := hK
      clear hI' hK hD
      gi_wp2
      go_wp2_with (go_at_call 10; refine (trworks_any trOps _ HKW.out).mono ?_; rintro e W2 ⟨rfl, hb2⟩; have HR2 : Hid (Blk W2 gr [.bool false] 4) := (HRW.out.below hb2 HRW.out.lt); have hr2 : W2.cell? ⟨gr, 0, none⟩ = some (.bool false) := (HR2.out.cell 0); have hrf2 : W2.frozen? ⟨gr, 0, none⟩ = false := (HR2.out.frozen 0); have HB2 : Hid (Below w.heap.size w W2) := (HB.out.trans (hb2.mono HB.out.size)); have HK2 : Hid (W2.heap[D]? = some (.deferred (some []))) := ((keepsOthers_of_below hb2).same D _ HKD.out rfl); clear hb2)
      all_goals
        have hK' := (KeepsOthers.setCell W2 ⟨gr, 0, none⟩ (.bool true)).same D _ HK2.out rfl
        refine ⟨by simp, .inl ⟨_, _, rfl, run_takeDeferred hK', ?_⟩⟩
        have hc5 := ((HR2.out.set 0 (.bool true)).put hK' rfl (o' := .deferred none)).cell 0
        refine ⟨.bool true, ?_, rfl, (HB2.out.setCell (p := ⟨gr, 0, none⟩) HGR.out _).trans (belowK_b (w := w) (Nat.le_refl _) _ D _ _ HD.out hK' rfl rfl)⟩
        simp at hc5
        simp [results, Tryd.f5, go_sem, hc5]
    case stop =>
      rintro D c pre W hD ⟨k, hk, hp⟩ hX hK
      have hX' : TgX v0 gn l gn sp c (pre.map (·.1)) W := hX
      rw [hp] at hX'
      obtain ⟨rfl, hI, hsp⟩ := hX'.at hk
      clear hX hX' hp
      by_cases hkl : k = l.length
      · rw [hkl, List.take_length] at hI
        have hI' := hI
        clear hI hsp hkl hk
        have HD : Hid (w.heap.size ≤ D) := Nat.le_trans HBW.out.size (Nat.le_trans (by rw [← HGN.out]; have := HSZ.out; omega) hD)
        have HRW : Hid (Blk W gr [.bool false] 4) := HR.out.below hI'.bel (by rw [HGN.out]; exact HR.out.lt)
        have HB : Hid (Below w.heap.size w W) := HBW.out.trans ((HV.out W hI'.bel).mono HBW.out.size)
        have HKW : Hid (KOk W) := HK.out.below (HV.out W hI'.bel) HK.out.lt
        have ca : W.cell? ⟨gL, 0, none⟩ = some (.slice adx nx cpx) := (HL6.out.below hI'.bel (by rw [HGN.out]; exact HL6.out.lt)).cell 0
        have cs : W.cell? ⟨gs, 0, none⟩ = some (.int .i64 sp) := (HS.out.below hI'.bel (by rw [HGN.out]; exact HS.out.lt)).cell 0
        have cn : W.cell? ⟨gn, 0, none⟩ = some (.int .i64 (nx : Int)) := by have h := hI'.bn.cell 0; rw [← HNX.out] at h; exact h
        have HKD : Hid (W.heap[D]? = some (.deferred (some []))) := hK
        clear hI' hK hD
        gi_wp2
        go_wp2_with (go_at_call 10; refine (trworks_any trOps _ HKW.out).mono ?_; rintro e W2 ⟨rfl, hb2⟩; have HR2 : Hid (Blk W2 gr [.bool false] 4) := (HRW.out.below hb2 HRW.out.lt); have hr2 : W2.cell? ⟨gr, 0, none⟩ = some (.bool false) := (HR2.out.cell 0); have hrf2 : W2.frozen? ⟨gr, 0, none⟩ = false := (HR2.out.frozen 0); have HB2 : Hid (Below w.heap.size w W2) := (HB.out.trans (hb2.mono HB.out.size)); have HK2 : Hid (W2.heap[D]? = some (.deferred (some []))) := ((keepsOthers_of_below hb2).same D _ HKD.out rfl); clear hb2)
        all_goals
          have hK' := (KeepsOthers.setCell W2 ⟨gr, 0, none⟩ (.bool true)).same D _ HK2.out rfl
          refine ⟨by simp, .inl ⟨_, _, rfl, run_takeDeferred hK', ?_⟩⟩
          have hc5 := ((HR2.out.set 0 (.bool true)).put hK' rfl (o' := .deferred none)).cell 0
          refine ⟨.bool true, ?_, rfl, (HB2.out.setCell (p := ⟨gr, 0, none⟩) HGR.out _).trans (belowK_b (w := w) (Nat.le_refl _) _ D _ _ HD.out hK' rfl rfl)⟩
          simp at hc5
          simp [results, Tryd.f5, go_sem, hc5]
      · subst hsp
        have hkn : ¬ ((k : Int) = (nx : Int)) := by rw [HNX.out]; omega
        have hI' := hI
        clear hI
        have HD : Hid (w.heap.size ≤ D) := Nat.le_trans HBW.out.size (Nat.le_trans (by rw [← HGN.out]; have := HSZ.out; omega) hD)
        have HRW : Hid (Blk W gr [.bool false] 4) := HR.out.below hI'.bel (by rw [HGN.out]; exact HR.out.lt)
        have HB : Hid (Below w.heap.size w W) := HBW.out.trans ((HV.out W hI'.bel).mono HBW.out.size)
        have HKW : Hid (KOk W) := HK.out.below (HV.out W hI'.bel) HK.out.lt
        have ca : W.cell? ⟨gL, 0, none⟩ = some (.slice adx nx cpx) := (HL6.out.below hI'.bel (by rw [HGN.out]; exact HL6.out.lt)).cell 0
        have cs : W.cell? ⟨gs, 0, none⟩ = some (.int .i64 (k : Int)) := (HS.out.below hI'.bel (by rw [HGN.out]; exact HS.out.lt)).cell 0
        have cn : W.cell? ⟨gn, 0, none⟩ = some (.int .i64 (k : Int)) := by have h := hI'.bn.cell 0; rw [List.length_take, Nat.min_eq_left hk] at h; exact h
        have HKD : Hid (W.heap[D]? = some (.deferred (some []))) := hK
        clear hI' hK hD
        gi_wp2
        go_wp2_with (go_at_call 10; refine (trworks_any trOps _ HKW.out).mono ?_; rintro e W2 ⟨rfl, hb2⟩; have HR2 : Hid (Blk W2 gr [.bool false] 4) := (HRW.out.below hb2 HRW.out.lt); have hr2 : W2.cell? ⟨gr, 0, none⟩ = some (.bool false) := (HR2.out.cell 0); have hrf2 : W2.frozen? ⟨gr, 0, none⟩ = false := (HR2.out.frozen 0); have HB2 : Hid (Below w.heap.size w W2) := (HB.out.trans (hb2.mono HB.out.size)); have HK2 : Hid (W2.heap[D]? = some (.deferred (some []))) := ((keepsOthers_of_below hb2).same D _ HKD.out rfl); clear hb2)
        all_goals
          have hK' := (KeepsOthers.setCell W2 ⟨gr, 0, none⟩ (.bool true)).same D _ HK2.out rfl
          refine ⟨by simp, .inl ⟨_, _, rfl, run_takeDeferred hK', ?_⟩⟩
          have hc5 := ((HR2.out.set 0 (.bool true)).put hK' rfl (o' := .deferred none)).cell 0
          refine ⟨.bool true, ?_, rfl, (HB2.out.setCell (p := ⟨gr, 0, none⟩) HGR.out _).trans (belowK_b (w := w) (Nat.le_refl _) _ D _ _ HD.out hK' rfl rfl)⟩
          simp at hc5
          simp [results, Tryd.f5, go_sem, hc5]
  · have HFEW : Hid (decide (ds.length ≤ 60) = false) := decide_eq_false h60
    clear h60
    go_enter Tryd.func5, Tryd.ntmps5
    go_wp2_with (first
      | (with_reducible refine wpSeq_boxI (.tmp 2) sp ?_ ?_ ?_ ?_
         · rfl
         · rfl
         · rfl
         intro gs w1 n1
         replace HD : Hid (ReadsD w1 (.slice adt n cpt) ds) := HD.out.below n1.below
         replace HK : Hid (KOk w1) := HK.out.below n1.below HK.out.lt
         replace HBW : Hid (Below w.heap.size w w1) := HBW.out.trans (n1.below.mono HBW.out.size)
         clear n1)
      | (with_reducible refine wpSeq_allocT ?_ ?_ ?_
         · rfl
         · rfl
         intro gr w2 n2
         have HR : Hid (Blk w2 gr [.bool false] 4) := n2.blk
         have HGR : Hid (w.heap.size ≤ gr) := Nat.le_trans HBW.out.size n2.ge
         replace HD : Hid (ReadsD w2 (.slice adt n cpt) ds) := HD.out.below n2.below
         replace HK : Hid (KOk w2) := HK.out.below n2.below HK.out.lt
         replace HBW : Hid (Below w.heap.size w w2) := HBW.out.trans (n2.below.mono HBW.out.size)
         clear n2)
      | (go_at_call 9; refine (trfew_any _ ds _ HD.out).mono ?_; rintro e w3 ⟨rfl, hb⟩; rw [HFEW.out]
         replace HR : Hid (Blk w3 gr [.bool false] 4) := HR.out.below hb HR.out.lt
         replace HK : Hid (KOk w3) := HK.out.below hb HK.out.lt
         replace HBW : Hid (Below w.heap.size w w3) := HBW.out.trans (hb.mono HBW.out.size)
         clear hb)
      | (go_at_call 10; refine (trworks_any trOps _ HK.out).mono ?_; rintro e w4 ⟨rfl, hb⟩
         replace HR : Hid (Blk w4 gr [.bool false] 4) := HR.out.below hb HR.out.lt
         replace HBW : Hid (Below w.heap.size w w4) := HBW.out.trans (hb.mono HBW.out.size)
         have cr : w4.cell? ⟨gr, 0, none⟩ = some (.bool false) := HR.out.cell 0
         have fr : w4.frozen? ⟨gr, 0, none⟩ = false := HR.out.frozen 0
         clear hb))
    have hc5 := (HR.out.set 0 (.bool true)).cell 0
    refine bodyPost_ret (v := .bool true) ?_ rfl ⟨rfl, HBW.out.setCell (p := ⟨gr, 0, none⟩) HGR.out _⟩
    simp at hc5
    simp [results, Tryd.f5, go_sem, hc5]
end Go.Proofs.YtphacinnnepdoaaDoor
/- What the listed variable gives: the rounds' words lie where the walks look for them. -/
namespace Go.Proofs.YtphacinnnepdoaaDoor
open Go.ChangeShapes Go.WideShapes Go.ChangeAt Go.WideMaps Go.WideElems Go.RowKit
set_option maxRecDepth 100000
theorem own : ownKnob Tryd.prog.godebug = none := by kernel_rfl
theorem gKw : Tryd.prog.globalNamed "blazon/sha.roundWords" = some 1 := by kernel_rfl
theorem tKw : (Tryd.prog.globals[1]?).map (·.type) = some 102 := by kernel_rfl
def laidK : List (String × DataW Unit) := [("blazon/sha.roundWords", Rows.laid_blazon_sha_roundWords)]
def kzs : List Int := kw.map fun x => (x.toNat : Int)
theorem laid_tab : (Rows.laid_blazon_sha_roundWords : DataW Unit) = Lib.tabData .u32 kzs := by kernel_rfl
theorem door_met (os : Os) (args : Array Value) : laidMetH Tryd.prog laidK ((World.doorLaid Tryd.prog 400 os).forCall (fun _ _ => 0) ⟨#[], args, []⟩).memory :=
  laidMetH_of_parts3 (fuel := 8) (laidMet_of_run' 8 (by kernel_rfl) (by kernel_rfl)) (by kernel_rfl) (by kernel_rfl)
theorem getD_toNat (l : List (BitVec 32)) (j : Nat) : (l.map fun x => (x.toNat : Int)).getD j 0 = ((l.getD j 0).toNat : Int) := by
  rw [List.getD_eq_getElem?_getD, List.getD_eq_getElem?_getD, List.getElem?_map]
  cases l[j]? <;> rfl
theorem kok_of_laid {W : World} (h : laidMetH Tryd.prog laidK W) : KOk W := by
  rw [MakeChecks.laidMetH_plain _ _ _ (by kernel_rfl)] at h
  unfold laidK at h
  rw [laid_tab] at h
  have hT := Lib.tabIs_of_head gKw tKw Tryd.underlying102 Tryd.underlying90 (by kernel_rfl) (by kernel_rfl) h
  intro j hj
  rw [hT.cell gKw j (by simpa [kzs, kw] using hj), kzs, getD_toNat]
end Go.Proofs.YtphacinnnepdoaaDoor
/- What a slice of bytes that came in gives: the bytes that it reads as; and that it reads so still behind a call that changed no old block. -/
namespace Go.Proofs.YtphacinnnepdoaaDoor
open Go.ChangeShapes Go.WideShapes Go.ChangeAt Go.WideMaps Go.WideElems Go.RowKit
set_option maxRecDepth 100000
theorem cells_byte : Tryd.prog.cellsOf 5 = 1 := by kernel_rfl
theorem laid_out : laidOutB Tryd.prog = true := by kernel_rfl
theorem readable_bytes : Tryd.prog.readableRec 68 = true := by kernel_rfl
theorem row_bytes : 68 < Tryd.prog.types.size := of_decide_eq_true (by kernel_rfl)
theorem byte_range {zs : List Int} (h : ∀ n ∈ zs, (Lit.int .u8 n).wf = true) (j : Nat) : 0 ≤ zs.getD j 0 ∧ zs.getD j 0 < 256 := by
  rw [List.getD_eq_getElem?_getD]
  cases hj : zs[j]? with
  | none => simp
  | some n =>
    have := h n (List.mem_of_getElem? hj)
    have := bounds_u8 this
    simp
    omega
theorem reads_of_trod {H : Type} {enc : TypeId × Value → H} {W : World} {base : Nat} {v : Value} {d : DataW H} {p : List MemPlace} (hval : Value.okWide Tryd.prog W .any base 68 v)
    (h : DataW.Trod enc Tryd.prog W 0 (fun _ => true) true 68 v d p) :
    ∃ bs, Reads W v bs ∧ bs.length ≤ maxLen ∧ ∀ x ∈ p, x.block < W.heap.size := by
  obtain ⟨a1, len, cap, rfl⟩ := okWide_slice Tryd.underlying68 hval
  obtain ⟨fuel, hf⟩ := h
  rcases open_ints Tryd.underlying68 Tryd.underlying5 cells_byte hf with ⟨hcs, hx⟩ | ⟨a, len', cap', zs, hcs, _, hl, hm, hz, hx, hcell, hwz⟩
  · simp [Value.cells] at hcs
    obtain ⟨rfl, rfl, rfl⟩ := hcs
    simp only [Prod.mk.injEq] at hx
    obtain ⟨rfl, rfl⟩ := hx
    exact ⟨[], ⟨none, 0, rfl, Nat.le_refl _, fun _ => rfl, fun h => by cases h⟩, Nat.zero_le _, fun _ h => by cases h⟩
  · simp [Value.cells] at hcs
    obtain ⟨rfl, rfl, rfl⟩ := hcs
    simp only [Prod.mk.injEq] at hx
    obtain ⟨rfl, rfl⟩ := hx
    simp only [if_true] at hz
    have hlen : ((zs.take len).map fun n => BitVec.ofInt 8 n).length = len := by simp; omega
    obtain ⟨ab, ao, spot⟩ := a
    refine ⟨(zs.take len).map fun n => BitVec.ofInt 8 n, ⟨some ⟨ab, ao, spot⟩, cap, by rw [hlen], by rw [hlen]; exact hl, (fun h => by cases h), fun hp => ?_⟩, by rw [hlen]; omega, fun x hx => ?_⟩
    · rw [hlen] at hp ⊢
      have hspot : spot = none := by simpa [Addr.add] using World.cell?_spot (hcell 0 (by omega))
      subst hspot
      refine ⟨ab, ao, rfl, fun j hj => ?_⟩
      have hcj := hcell j (by omega)
      rw [Addr.add_lit] at hcj
      rw [hcj]
      have hb := byte_range hwz j
      have e : ((zs.take len).map fun n => BitVec.ofInt 8 n).getD j 0 = BitVec.ofInt 8 (zs.getD j 0) := by
        rw [List.getD_eq_getElem?_getD, List.getElem?_map, List.getElem?_take_of_lt hj, List.getD_eq_getElem?_getD, List.getElem?_eq_getElem (show j < zs.length by omega)]
        rfl
      rw [e, BitVec.toNat_ofInt]
      congr 2
      omega
    · simp only [MemPlace.row, List.mem_map, List.mem_range] at hx
      obtain ⟨i, hi, rfl⟩ := hx
      have hcj := hcell i (by omega)
      have := block_lt_of_cell hcj
      simp only [Addr.add] at this
      split at this <;> exact this
end Go.Proofs.YtphacinnnepdoaaDoor
/- What a digest that came in gives: its 32 bytes. -/
namespace Go.Proofs.YtphacinnnepdoaaDoor
open Go.ChangeShapes Go.WideShapes Go.ChangeAt Go.WideMaps Go.WideElems Go.RowKit
set_option maxRecDepth 100000
theorem cells_digest : Tryd.prog.cellsOf 24 = 32 := by kernel_rfl
theorem readable_digest : Tryd.prog.readableRec 24 = true := by kernel_rfl
theorem row_digest : 24 < Tryd.prog.types.size := of_decide_eq_true (by kernel_rfl)
def numOf8 : Value → BitVec 8
  | .int _ n => BitVec.ofInt 8 n
  | _ => 0
theorem digest_of_trod {H : Type} {enc : TypeId × Value → H} {W : World} {base : Nat} {v : Value} {d : DataW H} {p : List MemPlace} (hval : Value.okWide Tryd.prog W .any base 24 v)
    (h : DataW.Trod enc Tryd.prog W 0 (fun _ => true) true 24 v d p) :
    ∃ dg, v = .agg (cb dg).toArray ∧ dg.length = 32 ∧ ∀ x ∈ p, x.block < W.heap.size := by
  simp only [Value.okWide, Tryd.underlying24] at hval
  obtain ⟨cs, rfl, hcs, _⟩ := hval
  obtain ⟨fuel, hf⟩ := h
  obtain ⟨xs, m, _, hx, hl, hn, hi⟩ := DataW.trod_array Tryd.underlying24 hf
  simp only [Value.cells] at hl hi
  rw [cells_digest] at hl
  rw [cells_byte] at hi
  have each : ∀ i, i < 32 → ∃ n, cs.toList[i]? = some (.int .u8 n) ∧ xs[i]? = some (.lit (.int .u8 n), []) ∧ (Lit.int .u8 n).wf = true := by
    intro i h32
    have h1 := hi i h32
    rw [List.getElem?_eq_getElem (by omega)] at h1
    obtain ⟨n, hc, hxx, hw⟩ := DataW.trod_int Tryd.underlying5 h1
    refine ⟨n, ?_, by rw [List.getElem?_eq_getElem (by omega), hxx], hw⟩
    rw [Nat.mul_one] at hc
    have h2 := congrArg (fun l => l[0]?) hc
    simpa using h2
  have hlen : (cs.toList.map numOf8).length = 32 := by simpa using hl
  refine ⟨cs.toList.map numOf8, ?_, hlen, ?_⟩
  · congr 1
    apply Array.ext'
    rw [List.toList_toArray]
    apply List.ext_getElem?
    intro i
    by_cases h32 : i < 32
    · obtain ⟨n, h1, _, hw⟩ := each i h32
      have hb := bounds_u8 hw
      rw [h1, cb_get _ _ (by omega), List.getD_eq_getElem?_getD, List.getElem?_map, h1]
      simp only [Option.map_some, Option.getD_some, numOf8, BitVec.toNat_ofInt]
      congr 2
      omega
    · rw [List.getElem?_eq_none (by omega), List.getElem?_eq_none (by rw [cb_len]; omega)]
  · simp only [Prod.mk.injEq] at hx
    rw [hx.2]
    intro x hmem
    obtain ⟨y, hy, hxy⟩ := List.mem_flatMap.1 hmem
    obtain ⟨i, hlt, rfl⟩ := List.getElem_of_mem hy
    obtain ⟨n, _, h2, _⟩ := each i (by omega)
    rw [List.getElem?_eq_getElem hlt] at h2
    rw [Option.some.inj h2] at hxy
    cases hxy
end Go.Proofs.YtphacinnnepdoaaDoor
/- What a slice of digests that came in gives; five arguments that came in, opened and shut (for the statements of layer 7). -/
namespace Go.Proofs.YtphacinnnepdoaaDoor
open Go.ChangeShapes Go.WideShapes Go.ChangeAt Go.WideMaps Go.WideElems Go.RowKit
set_option maxRecDepth 100000
set_option maxRecDepth 100000 in
theorem bulk_pos {H : Type} (d : DataW H) : 1 ≤ Rows.uptoBulk d := by
  cases d with
  | lit l => cases l <;> simp [Rows.uptoBulk]
  | _ => simp [Rows.uptoBulk]
set_option maxRecDepth 100000 in
theorem bulk_slice {H : Type} (e s : List (DataW H)) : Rows.uptoBulkAll e ≤ Rows.uptoBulk (DataW.slice e s) := by
  simp only [Rows.uptoBulk]; omega
set_option maxRecDepth 100000 in
theorem bulk_len {H : Type} : ∀ l : List (DataW H), l.length ≤ Rows.uptoBulkAll l
  | [] => Nat.zero_le _
  | d :: r => by
    have h1 := bulk_len r
    have h2 := bulk_pos d
    simp only [Rows.uptoBulkAll, List.length_cons]
    omega
theorem digest_of_cells {H : Type} {enc : TypeId × Value → H} {W : World} {cs : List Value} {d : DataW H} {p : List MemPlace} {fuel : Nat} (hf : DataW.trod enc Tryd.prog W 0 (fun _ => true) true fuel 24 cs = some (d, p)) :
    ∃ dg, cs = cb dg ∧ dg.length = 32 ∧ ∀ x ∈ p, x.block < W.heap.size := by
  obtain ⟨xs, m, _, hx, hl, hn, hi⟩ := DataW.trod_array Tryd.underlying24 hf
  rw [cells_digest] at hl
  rw [cells_byte] at hi
  have each : ∀ i, i < 32 → ∃ n, cs[i]? = some (.int .u8 n) ∧ xs[i]? = some (.lit (.int .u8 n), []) ∧ (Lit.int .u8 n).wf = true := by
    intro i h32
    have h1 := hi i h32
    rw [List.getElem?_eq_getElem (by omega)] at h1
    obtain ⟨n, hc, hxx, hw⟩ := DataW.trod_int Tryd.underlying5 h1
    refine ⟨n, ?_, by rw [List.getElem?_eq_getElem (by omega), hxx], hw⟩
    rw [Nat.mul_one] at hc
    have h2 := congrArg (fun l => l[0]?) hc
    simpa using h2
  have hlen : (cs.map numOf8).length = 32 := by simpa using hl
  refine ⟨cs.map numOf8, ?_, hlen, ?_⟩
  · apply List.ext_getElem?
    intro i
    by_cases h32 : i < 32
    · obtain ⟨n, h1, _, hw⟩ := each i h32
      have hb := bounds_u8 hw
      rw [h1, cb_get _ _ (by omega), List.getD_eq_getElem?_getD, List.getElem?_map, h1]
      simp only [Option.map_some, Option.getD_some, numOf8, BitVec.toNat_ofInt]
      congr 2
      omega
    · rw [List.getElem?_eq_none (by omega), List.getElem?_eq_none (by rw [cb_len]; omega)]
  · simp only [Prod.mk.injEq] at hx
    rw [hx.2]
    intro x hmem
    obtain ⟨y, hy, hxy⟩ := List.mem_flatMap.1 hmem
    obtain ⟨i, hlt, rfl⟩ := List.getElem_of_mem hy
    obtain ⟨n, _, h2, _⟩ := each i (by omega)
    rw [List.getElem?_eq_getElem hlt] at h2
    rw [Option.some.inj h2] at hxy
    cases hxy
set_option maxRecDepth 100000 in
theorem readable_digests : Tryd.prog.readableRec 22 = true := by kernel_rfl
set_option maxRecDepth 100000 in
theorem row_digests : 22 < Tryd.prog.types.size := of_decide_eq_true (by kernel_rfl)
theorem readsD_of_trod {H : Type} {enc : TypeId × Value → H} {W : World} {base : Nat} {v : Value} {d : DataW H} {p : List MemPlace} (hval : Value.okWide Tryd.prog W .any base 22 v)
    (h : DataW.Trod enc Tryd.prog W 0 (fun _ => true) true 22 v d p) :
    ∃ ds, ReadsD W v ds ∧ ds.length ≤ Rows.uptoBulk d ∧ ∀ x ∈ p, x.block < W.heap.size := by
  obtain ⟨a1, len, cap, rfl⟩ := okWide_slice Tryd.underlying22 hval
  obtain ⟨fuel, hf⟩ := h
  rcases Go.Deep.open_slice Tryd.underlying22 hf with ⟨hcs, hx⟩ | ⟨a, len', cap', m, n, D, Pl, hcs, _, hl, hm, hmm, hx, hV⟩
  · simp [Value.cells] at hcs
    obtain ⟨rfl, rfl, rfl⟩ := hcs
    simp only [Prod.mk.injEq] at hx
    obtain ⟨rfl, rfl⟩ := hx
    exact ⟨[], ⟨⟨none, 0, rfl, Nat.le_refl _, fun _ => rfl, fun h => by cases h⟩, fun _ h => by cases h⟩, Nat.zero_le _, fun _ h => by cases h⟩
  · simp [Value.cells] at hcs
    obtain ⟨rfl, rfl, rfl⟩ := hcs
    simp only [Prod.mk.injEq] at hx
    obtain ⟨rfl, rfl⟩ := hx
    simp only [if_true] at hmm
    subst hmm
    rw [cells_digest] at hV
    obtain ⟨B, hB⟩ := Go.Deep.choose_lt (α := List (BitVec 8)) (p := fun i dg => W.cells? 0 (a.add (i * 32)) 32 = some (cb dg) ∧ dg.length = 32 ∧ ∀ x ∈ Pl i, x.block < W.heap.size) (fun i hi => by
      obtain ⟨cs', h1, h2⟩ := hV i hi
      obtain ⟨dg, rfl, h3, h4⟩ := digest_of_cells h2
      exact ⟨dg, h1, h3, h4⟩)
    have hlen : ((List.range len).map B).length = len := by simp
    obtain ⟨ab, ao, spot⟩ := a
    have cell : ∀ i, i < m → ∀ j, j < 32 → W.cell? ((⟨ab, ao, spot⟩ : Addr).add (i * 32 + j)) = (cb (B i))[j]? := by
      intro i hi j hj
      obtain ⟨h1, _, _⟩ := hB i hi
      obtain ⟨_, _, h4⟩ := World.cells?_some h1
      have := h4 j hj
      rw [Go.Deep.add_add] at this
      exact this
    have hspot : 0 < m → spot = none := fun hp => by
      have h := cell 0 hp 0 (by omega)
      rw [cb_get _ 0 (by rw [(hB 0 hp).2.1]; omega)] at h
      simpa [Addr.add] using World.cell?_spot h
    refine ⟨(List.range len).map B, ⟨⟨some ⟨ab, ao, spot⟩, m, by rw [hlen], by rw [hlen]; exact hl, (fun h => by cases h), fun hp => ?_⟩, ?_⟩, by rw [hlen]; exact Nat.le_trans (by have := bulk_len ((List.range len).map D); simpa using this) (bulk_slice _ _), fun x hx => ?_⟩
    · rw [hlen] at hp ⊢
      have hs := hspot (by omega)
      subst hs
      refine ⟨ab, ao, rfl, fun j hj i v hv => ?_⟩
      have e : ((List.range len).map B).getD j [] = B j := by simp [hj]
      rw [e] at hv
      have hi : i < 32 := by have := (List.getElem?_eq_some_iff.1 hv).1; rwa [cb_len, (hB j (by omega)).2.1] at this
      have h := cell j (by omega) i hi
      rw [hv, Addr.add_lit] at h
      rw [Nat.add_assoc]; exact h
    · intro dg hd
      obtain ⟨i, hi, rfl⟩ := List.mem_map.1 hd
      exact (hB i (by have := List.mem_range.1 hi; omega)).2.1
    · rcases List.mem_append.1 hx with hx | hx
      · rw [cells_digest] at hx
        simp only [MemPlace.row, List.mem_map, List.mem_range] at hx
        obtain ⟨i, hi, rfl⟩ := hx
        have h := cell (i / 32) (by omega) (i % 32) (by omega)
        rw [cb_get _ _ (by rw [(hB (i / 32) (by omega)).2.1]; omega), show i / 32 * 32 + i % 32 = i by omega] at h
        have := block_lt_of_cell h
        simp only [Addr.add] at this
        split at this <;> exact this
      · obtain ⟨i, hi, hx⟩ := List.mem_flatMap.1 hx
        exact (hB i (List.mem_range.1 hi)).2.2 x hx
theorem trodAll_five {H : Type} {enc : TypeId × Value → H} {P : Program} {w : World} {base : Nat} {spare : Nat → Bool} {held : Bool} {t0 t1 t2 t3 t4 : TypeId} {args : Array Value} {ds : List (DataW H)} {ps : List MemPlace} (h : DataW.TrodAll enc P w base spare held [t0, t1, t2, t3, t4] args.toList ds ps) :
    ∃ v0 v1 v2 v3 v4 d0 d1 d2 d3 d4 p0 p1 p2 p3 p4, args = #[v0, v1, v2, v3, v4] ∧ ds = [d0, d1, d2, d3, d4] ∧ ps = p0 ++ p1 ++ p2 ++ p3 ++ p4 ∧ DataW.Trod enc P w base spare held t0 v0 d0 p0 ∧ DataW.Trod enc P w base spare held t1 v1 d1 p1 ∧ DataW.Trod enc P w base spare held t2 v2 d2 p2 ∧ DataW.Trod enc P w base spare held t3 v3 d3 p3 ∧ DataW.Trod enc P w base spare held t4 v4 d4 p4 := by
  obtain ⟨v0, vs0, d0, ds0, p0, q0, hargs, rfl, rfl, h0, r0⟩ := trodAll_cons h
  obtain ⟨v1, vs1, d1, ds1, p1, q1, rfl, rfl, rfl, h1, r1⟩ := trodAll_cons r0
  obtain ⟨v2, vs2, d2, ds2, p2, q2, rfl, rfl, rfl, h2, r2⟩ := trodAll_cons r1
  obtain ⟨v3, vs3, d3, ds3, p3, q3, rfl, rfl, rfl, h3, r3⟩ := trodAll_cons r2
  obtain ⟨v4, vs4, d4, ds4, p4, q4, rfl, rfl, rfl, h4, r4⟩ := trodAll_cons r3
  obtain ⟨rfl, rfl, rfl⟩ := trodAll_nil r4
  exact ⟨v0, v1, v2, v3, v4, d0, d1, d2, d3, d4, p0, p1, p2, p3, p4, by cases args; simp_all, rfl, by simp, h0, h1, h2, h3, h4⟩
theorem trodAll_mk5 {H : Type} {enc : TypeId × Value → H} {P : Program} {w : World} {base : Nat} {spare : Nat → Bool} {held : Bool} {t0 t1 t2 t3 t4 : TypeId} {v0 v1 v2 v3 v4 : Value} {d0 d1 d2 d3 d4 : DataW H} {p0 p1 p2 p3 p4 : List MemPlace} (h0 : DataW.Trod enc P w base spare held t0 v0 d0 p0) (h1 : DataW.Trod enc P w base spare held t1 v1 d1 p1) (h2 : DataW.Trod enc P w base spare held t2 v2 d2 p2) (h3 : DataW.Trod enc P w base spare held t3 v3 d3 p3) (h4 : DataW.Trod enc P w base spare held t4 v4 d4 p4) : DataW.TrodAll enc P w base spare held [t0, t1, t2, t3, t4] [v0, v1, v2, v3, v4] [d0, d1, d2, d3, d4] (p0 ++ (p1 ++ (p2 ++ (p3 ++ p4)))) :=
  ⟨p0, _, h0, trodAll_mk4 h1 h2 h3 h4, rfl⟩
end Go.Proofs.YtphacinnnepdoaaDoor

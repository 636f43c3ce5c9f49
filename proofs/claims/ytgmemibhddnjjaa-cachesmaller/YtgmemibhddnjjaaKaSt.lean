/- The walk of the laws' step: an act on both caches (layer 16). -/
import Derived.Test.YtgmemibhddnjjaaKaSm
namespace Go.Proofs.Ytgmemibhddnjjaa
open Go.RowKit
set_option maxRecDepth 100000
structure OpK where
  kind : Int
  k : ByteArray
  v : Int
def opC (o : OpK) : List Value := [.int .i64 o.kind, .string o.k, .int .i64 o.v]
def stepC (C : KaT) (o : OpK) : KaT := if o.kind = 0 then getC C o.k else if o.kind = 1 then putC C o.k o.v else if o.kind = 2 then dropC C o.k else C
/-- both caches -/
structure Both (w : World) (g : Nat) (P : Nat → Prop) (C : KaT) (vk vv : Value) : Prop where
  ca : CaIs w g P C
  rf : RfV w C vk vv
theorem RfV.mutc {w w' : World} {g : Nat} {P : Nat → Prop} {C C' : KaT} {vk vv : Value} (h : RfV w C' vk vv) (hc : CaIs w g P C) (m : Mut P w w') : RfV w' C' vk vv := ⟨h.k.mut hc m (by decide) (by decide), h.v.mut hc m (by decide) (by decide)⟩
theorem RfV.below {w w' : World} {C : KaT} {vk vv : Value} (h : RfV w C vk vv) (hb : Below w.heap.size w w') : RfV w' C vk vv := ⟨h.k.below hb, h.v.below hb⟩
theorem RfV.only {w w' : World} {C : KaT} {vk vv : Value} {g : Nat} {cs : List Value} {t : TypeId} (h : RfV w C vk vv) (hb : Blk w g cs t) (h1 : 9 ≠ t) (h2 : 3 ≠ t) (ho : Only g w w') : RfV w' C vk vv := ⟨h.k.only hb h1 ho, h.v.only hb h2 ho⟩
theorem Blk.mutc {w w' : World} {g k : Nat} {P : Nat → Prop} {C : KaT} {cs : List Value} {t : TypeId} (h : Blk w k cs t) (hc : CaIs w g P C) (m : Mut P w w') (h1 : t ≠ 56) (h2 : t ≠ 58) : Blk w' k cs t := m.blk h (hc.ne h h1 h2)
theorem CaIs.only {w w' : World} {g k : Nat} {P : Nat → Prop} {C : KaT} {cs : List Value} {t : TypeId} (h : CaIs w g P C) (hb : Blk w k cs t) (ho : Only k w w') (h1 : t ≠ 56) (h2 : t ≠ 58) : CaIs w' g P C :=
  h.same (fun j hj => ho.block j (fun e => h.ne hb h1 h2 (e ▸ hj)) (h.lt j hj))
theorem RfV.forms {w : World} {C : KaT} {vk vv : Value} (h : RfV w C vk vv) : ∃ a1 n1 c1 a2 n2 c2, vk = .slice a1 n1 c1 ∧ vv = .slice a2 n2 c2 := by
  obtain ⟨a1, c1, e1⟩ := h.k.form
  obtain ⟨a2, c2, e2⟩ := h.v.form
  exact ⟨_, _, _, _, _, _, e1, e2⟩
theorem ok_step {C : KaT} (h : okC C) (o : OpK) (hk : o.k.size ≤ maxLen) : okC (stepC C o) := by
  unfold stepC
  split
  · exact ok_get h _ hk
  · split
    · exact ok_put h _ _ hk
    · split
      · exact ok_drop h _
      · exact h
set_option maxRecDepth 100000 in
set_option maxHeartbeats 2000000 in
theorem step16_0 {w : World} {g : Nat} {P : Nat → Prop} {C : KaT} {vk vv : Value} (hB : Both w g P C vk vv) (hc : smC C) (hmo : C.most < 1000000) (hok : okC C) (s : ByteArray) (v : Int) (hs : s.size ≤ maxLen) :
    Calls Try.prog 11 #[.pointer (some ⟨g, 0, none⟩), .agg (rcC C vk vv).toArray, .agg (opC ⟨0, s, v⟩).toArray] w fun r w' => ∃ P' vk' vv', r = .returned (.tuple #[.agg (rcC (stepC C ⟨0, s, v⟩) vk' vv').toArray, .bool true]) ∧ Both w' g P' (stepC C ⟨0, s, v⟩) vk' vv' ∧ Mut P w w' ∧ Grew w P P' := by
  obtain ⟨C', HC1⟩ : ∃ X, Hid (X = getC C s) := ⟨_, rfl⟩
  have HE : Hid (stepC C ⟨0, s, v⟩ = C') := by show _ = _; rw [HC1.out]; unfold stepC; simp
  rw [HE.out]
  obtain ⟨gv, HGV⟩ : ∃ x, Hid (x = getV C s) := ⟨_, rfl⟩
  obtain ⟨hb, HHB⟩ : ∃ x, Hid (x = hasK C s) := ⟨_, rfl⟩
  have H1 : Hid (∀ y, CaIs y g P C → Calls Try.prog 15 #[.pointer (some ⟨g, 0, none⟩), .string s] y fun r w' => ∃ P', r = .returned (.tuple #[.int .i64 gv, .bool hb]) ∧ CaIs w' g P' C' ∧ Mut P y w' ∧ Grew y P P') := fun y h => by rw [HC1.out, HGV.out, HHB.out]; exact kaGet_any h hc hs
  have H2 : Hid (∀ y, RfV y C vk vv → Calls Try.prog 20 #[.agg [.int .i64 (C.most : Int), vk, vv, .int .i64 (C.hits : Int), .int .i64 (C.miss : Int)].toArray, .string s] y fun r w' => ∃ vk' vv', r = .returned (.tuple #[.agg [.int .i64 (C'.most : Int), vk', vv', .int .i64 (C'.hits : Int), .int .i64 (C'.miss : Int)].toArray, .int .i64 gv, .bool hb]) ∧ RfV w' C' vk' vv' ∧ Below y.heap.size y w') := fun y h => by rw [HC1.out, HGV.out, HHB.out]; exact kGet_any h hok hmo ⟨hc.hi, hc.mi⟩ s
  have HI : Hid (CaIs w g P C ∧ RfV w C vk vv) := ⟨hB.ca, hB.rf⟩
  unfold rcC opC
  clear hB hc hs hok hmo HC1
  go_enter Try.func11, Try.ntmps11
  have tk0 : Hid True := trivial
  have tk1 : Hid True := trivial
  have tk2 : Hid True := trivial
  have tk3 : Hid True := trivial
  have tk4 : Hid True := trivial
  have tk5 : Hid True := trivial
  have tk6 : Hid True := trivial
  have tk7 : Hid True := trivial
  have tk8 : Hid True := trivial
  have tk9 : Hid True := trivial
  go_wp2_with (first
    | (clear tk0; with_reducible refine wpSeq_boxW 27 (.tmp 1) [.int .i64 (C.most : Int), vk, vv, .int .i64 (C.hits : Int), .int .i64 (C.miss : Int)] ?_ ?_ ?_ ?_
       · rfl
       · rfl
       · rfl
       intro gc y0 nn
       have HC : Hid (Blk y0 gc [.int .i64 (C.most : Int), vk, vv, .int .i64 (C.hits : Int), .int .i64 (C.miss : Int)] 27) := nn.blk
       have HU : Hid (Mut P w y0) := mut_below nn.below P
       replace HI : Hid (CaIs y0 g P C ∧ RfV y0 C vk vv) := ⟨HI.out.1.below nn.below, HI.out.2.below nn.below⟩
       clear nn)
    | (clear tk1; with_reducible refine wpSeq_boxW 35 (.tmp 2) [.int .i64 0, .string s, .int .i64 v] ?_ ?_ ?_ ?_
       · rfl
       · rfl
       · rfl
       intro gp y1 nn
       have HP : Hid (Blk y1 gp [.int .i64 0, .string s, .int .i64 v] 35) := nn.blk
       replace HC : Hid (Blk y1 gc [.int .i64 (C.most : Int), vk, vv, .int .i64 (C.hits : Int), .int .i64 (C.miss : Int)] 27) := HC.out.below nn.below HC.out.lt
       replace HU : Hid (Mut P w y1) := HU.out.trans (fun _ _ h => h) (mut_below nn.below P)
       replace HI : Hid (CaIs y1 g P C ∧ RfV y1 C vk vv) := ⟨HI.out.1.below nn.below, HI.out.2.below nn.below⟩
       clear nn)
    | (clear tk2; with_reducible refine wpSeq_allocRc ?_ ?_ ?_
       · rfl
       · rfl
       intro gr y2 nn
       have HR : Hid (Blk y2 gr zRc 27) := nn.blk
       have HGR : Hid (w.heap.size ≤ gr) := Nat.le_trans HU.out.size nn.ge
       have HNE : Hid (gc ≠ gr) := fun e => absurd HC.out.lt (by have := nn.ge; omega)
       replace HP : Hid (Blk y2 gp [.int .i64 0, .string s, .int .i64 v] 35) := HP.out.below nn.below HP.out.lt
       replace HC : Hid (Blk y2 gc [.int .i64 (C.most : Int), vk, vv, .int .i64 (C.hits : Int), .int .i64 (C.miss : Int)] 27) := HC.out.below nn.below HC.out.lt
       replace HU : Hid (Mut P w y2) := HU.out.trans (fun _ _ h => h) (mut_below nn.below P)
       replace HI : Hid (CaIs y2 g P C ∧ RfV y2 C vk vv) := ⟨HI.out.1.below nn.below, HI.out.2.below nn.below⟩
       have p0 : y2.cell? ⟨gp, 0, none⟩ = some (.int .i64 0) := HP.out.cell 0
       have p1 : y2.cell? ⟨gp, 1, none⟩ = some (.string s) := HP.out.cell 1
       have p2 : y2.cell? ⟨gp, 2, none⟩ = some (.int .i64 v) := HP.out.cell 2
       clear nn)
    | (clear tk3; go_at_call 15; refine (H1.out y2 HI.out.1).mono ?_; rintro e3 y3 ⟨P3, rfl, ca, mu, gr3⟩
       replace HP : Hid (Blk y3 gp [.int .i64 0, .string s, .int .i64 v] 35) := HP.out.mutc HI.out.1 mu (by decide) (by decide)
       replace HC : Hid (Blk y3 gc [.int .i64 (C.most : Int), vk, vv, .int .i64 (C.hits : Int), .int .i64 (C.miss : Int)] 27) := HC.out.mutc HI.out.1 mu (by decide) (by decide)
       replace HR : Hid (Blk y3 gr zRc 27) := HR.out.mutc HI.out.1 mu (by decide) (by decide)
       have HRF : Hid (RfV y3 C vk vv) := HI.out.2.mutc HI.out.1 mu
       replace HI : Hid (CaIs y3 g P3 C') := ca
       have HG : Hid (Grew w P P3) := (Grew.refl w P).trans HU.out.size gr3
       replace HU : Hid (Mut P w y3) := HU.out.trans (fun _ _ h => h) mu
       have s1 : y3.cell? ⟨gp, 1, none⟩ = some (.string s) := HP.out.cell 1
       have s2 : y3.cell? ⟨gp, 2, none⟩ = some (.int .i64 v) := HP.out.cell 2
       clear ca mu gr3 p0 p1 p2)
    | (clear tk4; with_reducible refine load_rc (.tmp 4) gc _ _ _ _ _ HC.out ?_ ?_ ?_ ?_
       · rfl
       · rfl
       · rfl)
    | (clear tk5; go_at_call 20; refine (H2.out y3 HRF.out).mono ?_; rintro e4 y4 ⟨vk4, vv4, rfl, rf4, bl4⟩
       obtain ⟨a1, n1, c1, a2, n2, c2, hv1, hv2⟩ := rf4.forms
       subst hv1 hv2
       replace HRF : Hid (RfV y4 C' (.slice a1 n1 c1) (.slice a2 n2 c2)) := rf4
       replace HR : Hid (Blk y4 gr zRc 27) := HR.out.below bl4 HR.out.lt
       replace HI : Hid (CaIs y4 g P3 C') := HI.out.below bl4
       replace HU : Hid (Mut P w y4) := HU.out.trans (fun _ _ h => h) (mut_below bl4 P)
       clear rf4 bl4 s1 s2 HP HC)
    | (clear tk6; with_reducible refine wpSeq_allocRc ?_ ?_ ?_
       · rfl
       · rfl
       intro go y5 nn
       have HO : Hid (Blk y5 go zRc 27) := nn.blk
       have HNO : Hid (gr ≠ go) := fun e => absurd HR.out.lt (by have := nn.ge; omega)
       have HGO : Hid (w.heap.size ≤ go) := Nat.le_trans HU.out.size nn.ge
       replace HRF : Hid (RfV y5 C' (.slice a1 n1 c1) (.slice a2 n2 c2)) := HRF.out.below nn.below
       replace HR : Hid (Blk y5 gr zRc 27) := HR.out.below nn.below HR.out.lt
       replace HI : Hid (CaIs y5 g P3 C') := HI.out.below nn.below
       replace HU : Hid (Mut P w y5) := HU.out.trans (fun _ _ h => h) (mut_below nn.below P)
       clear nn)
    | (clear tk7; with_reducible refine wpSeq_storeRow 27 (.tmp 10) (.tmp 33) go zRc [.int .i64 (C'.most : Int), .slice a1 n1 c1, .slice a2 n2 c2, .int .i64 (C'.hits : Int), .int .i64 (C'.miss : Int)] HO.out rfl (info_rc _ _ _ _ _) ?_ ?_ ?_ ?_ ?_ ?_
       · exact one_rc _ _ _ ⟨rfl, rfl, rfl⟩ _ _ _ _ _ _
       · rfl
       · rfl
       · rfl
       · rfl
       intro y6 sr
       replace HRF : Hid (RfV y6 C' (.slice a1 n1 c1) (.slice a2 n2 c2)) := HRF.out.only HO.out (by decide) (by decide) sr.only
       replace HI : Hid (CaIs y6 g P3 C') := HI.out.only HO.out sr.only (by decide) (by decide)
       replace HU : Hid (Mut P w y6) := HU.out.trans (fun k hk (h : k = go) => absurd hk (by have := HGO.out; omega)) (sr.only.mut (P := fun k => k = go) rfl)
       replace HR : Hid (Blk y6 gr zRc 27) := HR.out.only sr.only HNO.out
       replace HO : Hid (Blk y6 go [.int .i64 (C'.most : Int), .slice a1 n1 c1, .slice a2 n2 c2, .int .i64 (C'.hits : Int), .int .i64 (C'.miss : Int)] 27) := sr.blk
       clear sr)
    | (clear tk8; with_reducible refine load_rc (.tmp 10) go _ _ _ _ _ HO.out ?_ ?_ ?_ ?_
       · rfl
       · rfl
       · rfl)
    | (clear tk9; with_reducible refine wpSeq_storeRow 27 (.tmp 6) (.tmp 36) gr zRc [.int .i64 (C'.most : Int), .slice a1 n1 c1, .slice a2 n2 c2, .int .i64 (C'.hits : Int), .int .i64 (C'.miss : Int)] HR.out rfl (info_rc _ _ _ _ _) ?_ ?_ ?_ ?_ ?_ ?_
       · exact one_rc _ _ _ ⟨rfl, rfl, rfl⟩ _ _ _ _ _ _
       · rfl
       · rfl
       · rfl
       · rfl
       intro y7 sr
       replace HRF : Hid (RfV y7 C' (.slice a1 n1 c1) (.slice a2 n2 c2)) := HRF.out.only HR.out (by decide) (by decide) sr.only
       replace HI : Hid (CaIs y7 g P3 C') := HI.out.only HR.out sr.only (by decide) (by decide)
       replace HU : Hid (Mut P w y7) := HU.out.trans (fun k hk (h : k = gr) => absurd hk (by have := HGR.out; omega)) (sr.only.mut (P := fun k => k = gr) rfl)
       have HF : Hid (Blk y7 gr [.int .i64 (C'.most : Int), .slice a1 n1 c1, .slice a2 n2 c2, .int .i64 (C'.hits : Int), .int .i64 (C'.miss : Int)] 27) := sr.blk
       clear sr))
  refine bodyPost_ret (results_row_tmp rfl _ _ gr _ rfl (run_loadVar_mid (P := Try.prog) _ gr 0 27 _ _ HF.out.range Try.underlying27 rfl (info_rc _ _ _ _ _))) rfl ?_
  exact ⟨P3, .slice a1 n1 c1, .slice a2 n2 c2, rfl, ⟨HI.out, HRF.out⟩, HU.out, HG.out⟩
set_option maxRecDepth 100000 in
set_option maxHeartbeats 2000000 in
theorem step16_1 {w : World} {g : Nat} {P : Nat → Prop} {C : KaT} {vk vv : Value} (hB : Both w g P C vk vv) (hc : smC C) (hmo : C.most < 1000000) (hok : okC C) (s : ByteArray) (v : Int) (hs : s.size ≤ maxLen) :
    Calls Try.prog 11 #[.pointer (some ⟨g, 0, none⟩), .agg (rcC C vk vv).toArray, .agg (opC ⟨1, s, v⟩).toArray] w fun r w' => ∃ P' vk' vv', r = .returned (.tuple #[.agg (rcC (stepC C ⟨1, s, v⟩) vk' vv').toArray, .bool true]) ∧ Both w' g P' (stepC C ⟨1, s, v⟩) vk' vv' ∧ Mut P w w' ∧ Grew w P P' := by
  obtain ⟨C', HC1⟩ : ∃ X, Hid (X = putC C s v) := ⟨_, rfl⟩
  have HE : Hid (stepC C ⟨1, s, v⟩ = C') := by show _ = _; rw [HC1.out]; unfold stepC; simp
  rw [HE.out]
  have H1 : Hid (∀ y, CaIs y g P C → Calls Try.prog 17 #[.pointer (some ⟨g, 0, none⟩), .string s, .int .i64 v] y fun r w' => ∃ P', r = .returned (.tuple #[]) ∧ CaIs w' g P' C' ∧ Mut P y w' ∧ Grew y P P') := fun y h => by rw [HC1.out]; exact kaPut_any h hc hs v
  have H2 : Hid (∀ y, RfV y C vk vv → Calls Try.prog 21 #[.agg [.int .i64 (C.most : Int), vk, vv, .int .i64 (C.hits : Int), .int .i64 (C.miss : Int)].toArray, .string s, .int .i64 v] y fun r w' => ∃ vk' vv', r = .returned (.agg [.int .i64 (C'.most : Int), vk', vv', .int .i64 (C'.hits : Int), .int .i64 (C'.miss : Int)].toArray) ∧ RfV w' C' vk' vv' ∧ Below y.heap.size y w') := fun y h => by rw [HC1.out]; exact kPut_any h hok hmo s v
  have HI : Hid (CaIs w g P C ∧ RfV w C vk vv) := ⟨hB.ca, hB.rf⟩
  unfold rcC opC
  clear hB hc hs hok hmo HC1
  go_enter Try.func11, Try.ntmps11
  have tk0 : Hid True := trivial
  have tk1 : Hid True := trivial
  have tk2 : Hid True := trivial
  have tk3 : Hid True := trivial
  have tk4 : Hid True := trivial
  have tk5 : Hid True := trivial
  have tk6 : Hid True := trivial
  go_wp2_with (first
    | (clear tk0; with_reducible refine wpSeq_boxW 27 (.tmp 1) [.int .i64 (C.most : Int), vk, vv, .int .i64 (C.hits : Int), .int .i64 (C.miss : Int)] ?_ ?_ ?_ ?_
       · rfl
       · rfl
       · rfl
       intro gc y0 nn
       have HC : Hid (Blk y0 gc [.int .i64 (C.most : Int), vk, vv, .int .i64 (C.hits : Int), .int .i64 (C.miss : Int)] 27) := nn.blk
       have HU : Hid (Mut P w y0) := mut_below nn.below P
       replace HI : Hid (CaIs y0 g P C ∧ RfV y0 C vk vv) := ⟨HI.out.1.below nn.below, HI.out.2.below nn.below⟩
       clear nn)
    | (clear tk1; with_reducible refine wpSeq_boxW 35 (.tmp 2) [.int .i64 1, .string s, .int .i64 v] ?_ ?_ ?_ ?_
       · rfl
       · rfl
       · rfl
       intro gp y1 nn
       have HP : Hid (Blk y1 gp [.int .i64 1, .string s, .int .i64 v] 35) := nn.blk
       replace HC : Hid (Blk y1 gc [.int .i64 (C.most : Int), vk, vv, .int .i64 (C.hits : Int), .int .i64 (C.miss : Int)] 27) := HC.out.below nn.below HC.out.lt
       replace HU : Hid (Mut P w y1) := HU.out.trans (fun _ _ h => h) (mut_below nn.below P)
       replace HI : Hid (CaIs y1 g P C ∧ RfV y1 C vk vv) := ⟨HI.out.1.below nn.below, HI.out.2.below nn.below⟩
       clear nn)
    | (clear tk2; with_reducible refine wpSeq_allocRc ?_ ?_ ?_
       · rfl
       · rfl
       intro gr y2 nn
       have HR : Hid (Blk y2 gr zRc 27) := nn.blk
       have HGR : Hid (w.heap.size ≤ gr) := Nat.le_trans HU.out.size nn.ge
       have HNE : Hid (gc ≠ gr) := fun e => absurd HC.out.lt (by have := nn.ge; omega)
       replace HP : Hid (Blk y2 gp [.int .i64 1, .string s, .int .i64 v] 35) := HP.out.below nn.below HP.out.lt
       replace HC : Hid (Blk y2 gc [.int .i64 (C.most : Int), vk, vv, .int .i64 (C.hits : Int), .int .i64 (C.miss : Int)] 27) := HC.out.below nn.below HC.out.lt
       replace HU : Hid (Mut P w y2) := HU.out.trans (fun _ _ h => h) (mut_below nn.below P)
       replace HI : Hid (CaIs y2 g P C ∧ RfV y2 C vk vv) := ⟨HI.out.1.below nn.below, HI.out.2.below nn.below⟩
       have p0 : y2.cell? ⟨gp, 0, none⟩ = some (.int .i64 1) := HP.out.cell 0
       have p1 : y2.cell? ⟨gp, 1, none⟩ = some (.string s) := HP.out.cell 1
       have p2 : y2.cell? ⟨gp, 2, none⟩ = some (.int .i64 v) := HP.out.cell 2
       clear nn)
    | (clear tk3; go_at_call 17; refine (H1.out y2 HI.out.1).mono ?_; rintro e3 y3 ⟨P3, rfl, ca, mu, gr3⟩
       replace HP : Hid (Blk y3 gp [.int .i64 1, .string s, .int .i64 v] 35) := HP.out.mutc HI.out.1 mu (by decide) (by decide)
       replace HC : Hid (Blk y3 gc [.int .i64 (C.most : Int), vk, vv, .int .i64 (C.hits : Int), .int .i64 (C.miss : Int)] 27) := HC.out.mutc HI.out.1 mu (by decide) (by decide)
       replace HR : Hid (Blk y3 gr zRc 27) := HR.out.mutc HI.out.1 mu (by decide) (by decide)
       have HRF : Hid (RfV y3 C vk vv) := HI.out.2.mutc HI.out.1 mu
       replace HI : Hid (CaIs y3 g P3 C') := ca
       have HG : Hid (Grew w P P3) := (Grew.refl w P).trans HU.out.size gr3
       replace HU : Hid (Mut P w y3) := HU.out.trans (fun _ _ h => h) mu
       have s1 : y3.cell? ⟨gp, 1, none⟩ = some (.string s) := HP.out.cell 1
       have s2 : y3.cell? ⟨gp, 2, none⟩ = some (.int .i64 v) := HP.out.cell 2
       clear ca mu gr3 p0 p1 p2)
    | (clear tk4; with_reducible refine load_rc (.tmp 4) gc _ _ _ _ _ HC.out ?_ ?_ ?_ ?_
       · rfl
       · rfl
       · rfl)
    | (clear tk5; go_at_call 21; refine (H2.out y3 HRF.out).mono ?_; rintro e4 y4 ⟨vk4, vv4, rfl, rf4, bl4⟩
       obtain ⟨a1, n1, c1, a2, n2, c2, hv1, hv2⟩ := rf4.forms
       subst hv1 hv2
       replace HRF : Hid (RfV y4 C' (.slice a1 n1 c1) (.slice a2 n2 c2)) := rf4
       replace HR : Hid (Blk y4 gr zRc 27) := HR.out.below bl4 HR.out.lt
       replace HI : Hid (CaIs y4 g P3 C') := HI.out.below bl4
       replace HU : Hid (Mut P w y4) := HU.out.trans (fun _ _ h => h) (mut_below bl4 P)
       clear rf4 bl4 s1 s2 HP HC)
    | (clear tk6; with_reducible refine wpSeq_storeRow 27 (.tmp 6) (.tmp 58) gr zRc [.int .i64 (C'.most : Int), .slice a1 n1 c1, .slice a2 n2 c2, .int .i64 (C'.hits : Int), .int .i64 (C'.miss : Int)] HR.out rfl (info_rc _ _ _ _ _) ?_ ?_ ?_ ?_ ?_ ?_
       · exact one_rc _ _ _ ⟨rfl, rfl, rfl⟩ _ _ _ _ _ _
       · rfl
       · rfl
       · rfl
       · rfl
       intro y7 sr
       replace HRF : Hid (RfV y7 C' (.slice a1 n1 c1) (.slice a2 n2 c2)) := HRF.out.only HR.out (by decide) (by decide) sr.only
       replace HI : Hid (CaIs y7 g P3 C') := HI.out.only HR.out sr.only (by decide) (by decide)
       replace HU : Hid (Mut P w y7) := HU.out.trans (fun k hk (h : k = gr) => absurd hk (by have := HGR.out; omega)) (sr.only.mut (P := fun k => k = gr) rfl)
       have HF : Hid (Blk y7 gr [.int .i64 (C'.most : Int), .slice a1 n1 c1, .slice a2 n2 c2, .int .i64 (C'.hits : Int), .int .i64 (C'.miss : Int)] 27) := sr.blk
       clear sr))
  refine bodyPost_ret (results_row_tmp rfl _ _ gr _ rfl (run_loadVar_mid (P := Try.prog) _ gr 0 27 _ _ HF.out.range Try.underlying27 rfl (info_rc _ _ _ _ _))) rfl ?_
  exact ⟨P3, .slice a1 n1 c1, .slice a2 n2 c2, rfl, ⟨HI.out, HRF.out⟩, HU.out, HG.out⟩
set_option maxRecDepth 100000 in
set_option maxHeartbeats 2000000 in
theorem step16_2 {w : World} {g : Nat} {P : Nat → Prop} {C : KaT} {vk vv : Value} (hB : Both w g P C vk vv) (hc : smC C) (hmo : C.most < 1000000) (hok : okC C) (s : ByteArray) (v : Int) (hs : s.size ≤ maxLen) :
    Calls Try.prog 11 #[.pointer (some ⟨g, 0, none⟩), .agg (rcC C vk vv).toArray, .agg (opC ⟨2, s, v⟩).toArray] w fun r w' => ∃ P' vk' vv', r = .returned (.tuple #[.agg (rcC (stepC C ⟨2, s, v⟩) vk' vv').toArray, .bool true]) ∧ Both w' g P' (stepC C ⟨2, s, v⟩) vk' vv' ∧ Mut P w w' ∧ Grew w P P' := by
  obtain ⟨C', HC1⟩ : ∃ X, Hid (X = dropC C s) := ⟨_, rfl⟩
  have HE : Hid (stepC C ⟨2, s, v⟩ = C') := by show _ = _; rw [HC1.out]; unfold stepC; simp
  rw [HE.out]
  obtain ⟨hb, HHB⟩ : ∃ x, Hid (x = hasK C s) := ⟨_, rfl⟩
  have H1 : Hid (∀ y, CaIs y g P C → Calls Try.prog 18 #[.pointer (some ⟨g, 0, none⟩), .string s] y fun r w' => ∃ P', r = .returned (.bool hb) ∧ CaIs w' g P' C' ∧ Mut P y w' ∧ Grew y P P') := fun y h => by rw [HC1.out, HHB.out]; exact kaDrop_any h hc hs
  have H2 : Hid (∀ y, RfV y C vk vv → Calls Try.prog 22 #[.agg [.int .i64 (C.most : Int), vk, vv, .int .i64 (C.hits : Int), .int .i64 (C.miss : Int)].toArray, .string s] y fun r w' => ∃ vk' vv', r = .returned (.tuple #[.agg [.int .i64 (C'.most : Int), vk', vv', .int .i64 (C'.hits : Int), .int .i64 (C'.miss : Int)].toArray, .bool hb]) ∧ RfV w' C' vk' vv' ∧ Below y.heap.size y w') := fun y h => by rw [HC1.out, HHB.out]; exact kDrop_any h hok hmo s
  have HI : Hid (CaIs w g P C ∧ RfV w C vk vv) := ⟨hB.ca, hB.rf⟩
  unfold rcC opC
  clear hB hc hs hok hmo HC1
  go_enter Try.func11, Try.ntmps11
  have tk0 : Hid True := trivial
  have tk1 : Hid True := trivial
  have tk2 : Hid True := trivial
  have tk3 : Hid True := trivial
  have tk4 : Hid True := trivial
  have tk5 : Hid True := trivial
  have tk6 : Hid True := trivial
  have tk7 : Hid True := trivial
  have tk8 : Hid True := trivial
  have tk9 : Hid True := trivial
  go_wp2_with (first
    | (clear tk0; with_reducible refine wpSeq_boxW 27 (.tmp 1) [.int .i64 (C.most : Int), vk, vv, .int .i64 (C.hits : Int), .int .i64 (C.miss : Int)] ?_ ?_ ?_ ?_
       · rfl
       · rfl
       · rfl
       intro gc y0 nn
       have HC : Hid (Blk y0 gc [.int .i64 (C.most : Int), vk, vv, .int .i64 (C.hits : Int), .int .i64 (C.miss : Int)] 27) := nn.blk
       have HU : Hid (Mut P w y0) := mut_below nn.below P
       replace HI : Hid (CaIs y0 g P C ∧ RfV y0 C vk vv) := ⟨HI.out.1.below nn.below, HI.out.2.below nn.below⟩
       clear nn)
    | (clear tk1; with_reducible refine wpSeq_boxW 35 (.tmp 2) [.int .i64 2, .string s, .int .i64 v] ?_ ?_ ?_ ?_
       · rfl
       · rfl
       · rfl
       intro gp y1 nn
       have HP : Hid (Blk y1 gp [.int .i64 2, .string s, .int .i64 v] 35) := nn.blk
       replace HC : Hid (Blk y1 gc [.int .i64 (C.most : Int), vk, vv, .int .i64 (C.hits : Int), .int .i64 (C.miss : Int)] 27) := HC.out.below nn.below HC.out.lt
       replace HU : Hid (Mut P w y1) := HU.out.trans (fun _ _ h => h) (mut_below nn.below P)
       replace HI : Hid (CaIs y1 g P C ∧ RfV y1 C vk vv) := ⟨HI.out.1.below nn.below, HI.out.2.below nn.below⟩
       clear nn)
    | (clear tk2; with_reducible refine wpSeq_allocRc ?_ ?_ ?_
       · rfl
       · rfl
       intro gr y2 nn
       have HR : Hid (Blk y2 gr zRc 27) := nn.blk
       have HGR : Hid (w.heap.size ≤ gr) := Nat.le_trans HU.out.size nn.ge
       have HNE : Hid (gc ≠ gr) := fun e => absurd HC.out.lt (by have := nn.ge; omega)
       replace HP : Hid (Blk y2 gp [.int .i64 2, .string s, .int .i64 v] 35) := HP.out.below nn.below HP.out.lt
       replace HC : Hid (Blk y2 gc [.int .i64 (C.most : Int), vk, vv, .int .i64 (C.hits : Int), .int .i64 (C.miss : Int)] 27) := HC.out.below nn.below HC.out.lt
       replace HU : Hid (Mut P w y2) := HU.out.trans (fun _ _ h => h) (mut_below nn.below P)
       replace HI : Hid (CaIs y2 g P C ∧ RfV y2 C vk vv) := ⟨HI.out.1.below nn.below, HI.out.2.below nn.below⟩
       have p0 : y2.cell? ⟨gp, 0, none⟩ = some (.int .i64 2) := HP.out.cell 0
       have p1 : y2.cell? ⟨gp, 1, none⟩ = some (.string s) := HP.out.cell 1
       have p2 : y2.cell? ⟨gp, 2, none⟩ = some (.int .i64 v) := HP.out.cell 2
       clear nn)
    | (clear tk3; go_at_call 18; refine (H1.out y2 HI.out.1).mono ?_; rintro e3 y3 ⟨P3, rfl, ca, mu, gr3⟩
       replace HP : Hid (Blk y3 gp [.int .i64 2, .string s, .int .i64 v] 35) := HP.out.mutc HI.out.1 mu (by decide) (by decide)
       replace HC : Hid (Blk y3 gc [.int .i64 (C.most : Int), vk, vv, .int .i64 (C.hits : Int), .int .i64 (C.miss : Int)] 27) := HC.out.mutc HI.out.1 mu (by decide) (by decide)
       replace HR : Hid (Blk y3 gr zRc 27) := HR.out.mutc HI.out.1 mu (by decide) (by decide)
       have HRF : Hid (RfV y3 C vk vv) := HI.out.2.mutc HI.out.1 mu
       replace HI : Hid (CaIs y3 g P3 C') := ca
       have HG : Hid (Grew w P P3) := (Grew.refl w P).trans HU.out.size gr3
       replace HU : Hid (Mut P w y3) := HU.out.trans (fun _ _ h => h) mu
       have s1 : y3.cell? ⟨gp, 1, none⟩ = some (.string s) := HP.out.cell 1
       have s2 : y3.cell? ⟨gp, 2, none⟩ = some (.int .i64 v) := HP.out.cell 2
       clear ca mu gr3 p0 p1 p2)
    | (clear tk4; with_reducible refine load_rc (.tmp 4) gc _ _ _ _ _ HC.out ?_ ?_ ?_ ?_
       · rfl
       · rfl
       · rfl)
    | (clear tk5; go_at_call 22; refine (H2.out y3 HRF.out).mono ?_; rintro e4 y4 ⟨vk4, vv4, rfl, rf4, bl4⟩
       obtain ⟨a1, n1, c1, a2, n2, c2, hv1, hv2⟩ := rf4.forms
       subst hv1 hv2
       replace HRF : Hid (RfV y4 C' (.slice a1 n1 c1) (.slice a2 n2 c2)) := rf4
       replace HR : Hid (Blk y4 gr zRc 27) := HR.out.below bl4 HR.out.lt
       replace HI : Hid (CaIs y4 g P3 C') := HI.out.below bl4
       replace HU : Hid (Mut P w y4) := HU.out.trans (fun _ _ h => h) (mut_below bl4 P)
       clear rf4 bl4 s1 s2 HP HC)
    | (clear tk6; with_reducible refine wpSeq_allocRc ?_ ?_ ?_
       · rfl
       · rfl
       intro go y5 nn
       have HO : Hid (Blk y5 go zRc 27) := nn.blk
       have HNO : Hid (gr ≠ go) := fun e => absurd HR.out.lt (by have := nn.ge; omega)
       have HGO : Hid (w.heap.size ≤ go) := Nat.le_trans HU.out.size nn.ge
       replace HRF : Hid (RfV y5 C' (.slice a1 n1 c1) (.slice a2 n2 c2)) := HRF.out.below nn.below
       replace HR : Hid (Blk y5 gr zRc 27) := HR.out.below nn.below HR.out.lt
       replace HI : Hid (CaIs y5 g P3 C') := HI.out.below nn.below
       replace HU : Hid (Mut P w y5) := HU.out.trans (fun _ _ h => h) (mut_below nn.below P)
       clear nn)
    | (clear tk7; with_reducible refine wpSeq_storeRow 27 (.tmp 14) (.tmp 70) go zRc [.int .i64 (C'.most : Int), .slice a1 n1 c1, .slice a2 n2 c2, .int .i64 (C'.hits : Int), .int .i64 (C'.miss : Int)] HO.out rfl (info_rc _ _ _ _ _) ?_ ?_ ?_ ?_ ?_ ?_
       · exact one_rc _ _ _ ⟨rfl, rfl, rfl⟩ _ _ _ _ _ _
       · rfl
       · rfl
       · rfl
       · rfl
       intro y6 sr
       replace HRF : Hid (RfV y6 C' (.slice a1 n1 c1) (.slice a2 n2 c2)) := HRF.out.only HO.out (by decide) (by decide) sr.only
       replace HI : Hid (CaIs y6 g P3 C') := HI.out.only HO.out sr.only (by decide) (by decide)
       replace HU : Hid (Mut P w y6) := HU.out.trans (fun k hk (h : k = go) => absurd hk (by have := HGO.out; omega)) (sr.only.mut (P := fun k => k = go) rfl)
       replace HR : Hid (Blk y6 gr zRc 27) := HR.out.only sr.only HNO.out
       replace HO : Hid (Blk y6 go [.int .i64 (C'.most : Int), .slice a1 n1 c1, .slice a2 n2 c2, .int .i64 (C'.hits : Int), .int .i64 (C'.miss : Int)] 27) := sr.blk
       clear sr)
    | (clear tk8; with_reducible refine load_rc (.tmp 14) go _ _ _ _ _ HO.out ?_ ?_ ?_ ?_
       · rfl
       · rfl
       · rfl)
    | (clear tk9; with_reducible refine wpSeq_storeRow 27 (.tmp 6) (.tmp 72) gr zRc [.int .i64 (C'.most : Int), .slice a1 n1 c1, .slice a2 n2 c2, .int .i64 (C'.hits : Int), .int .i64 (C'.miss : Int)] HR.out rfl (info_rc _ _ _ _ _) ?_ ?_ ?_ ?_ ?_ ?_
       · exact one_rc _ _ _ ⟨rfl, rfl, rfl⟩ _ _ _ _ _ _
       · rfl
       · rfl
       · rfl
       · rfl
       intro y7 sr
       replace HRF : Hid (RfV y7 C' (.slice a1 n1 c1) (.slice a2 n2 c2)) := HRF.out.only HR.out (by decide) (by decide) sr.only
       replace HI : Hid (CaIs y7 g P3 C') := HI.out.only HR.out sr.only (by decide) (by decide)
       replace HU : Hid (Mut P w y7) := HU.out.trans (fun k hk (h : k = gr) => absurd hk (by have := HGR.out; omega)) (sr.only.mut (P := fun k => k = gr) rfl)
       have HF : Hid (Blk y7 gr [.int .i64 (C'.most : Int), .slice a1 n1 c1, .slice a2 n2 c2, .int .i64 (C'.hits : Int), .int .i64 (C'.miss : Int)] 27) := sr.blk
       clear sr))
  refine bodyPost_ret (results_row_tmp rfl _ _ gr _ rfl (run_loadVar_mid (P := Try.prog) _ gr 0 27 _ _ HF.out.range Try.underlying27 rfl (info_rc _ _ _ _ _))) rfl ?_
  exact ⟨P3, .slice a1 n1 c1, .slice a2 n2 c2, rfl, ⟨HI.out, HRF.out⟩, HU.out, HG.out⟩
set_option maxRecDepth 100000 in
set_option maxHeartbeats 2000000 in
theorem step16_x {w : World} {g : Nat} {P : Nat → Prop} {C : KaT} {vk vv : Value} (hB : Both w g P C vk vv) (kd : Int) (h0 : ¬ kd = 0) (h1 : ¬ kd = 1) (h2 : ¬ kd = 2) (s : ByteArray) (v : Int) :
    Calls Try.prog 11 #[.pointer (some ⟨g, 0, none⟩), .agg (rcC C vk vv).toArray, .agg (opC ⟨kd, s, v⟩).toArray] w fun r w' => ∃ P' vk' vv', r = .returned (.tuple #[.agg (rcC (stepC C ⟨kd, s, v⟩) vk' vv').toArray, .bool true]) ∧ Both w' g P' (stepC C ⟨kd, s, v⟩) vk' vv' ∧ Mut P w w' ∧ Grew w P P' := by
  have HE : Hid (stepC C ⟨kd, s, v⟩ = C) := by show _ = _; unfold stepC; rw [if_neg h0, if_neg h1, if_neg h2]
  rw [HE.out]
  obtain ⟨a1, n1, c1, a2, n2, c2, hv1, hv2⟩ := hB.rf.forms
  subst hv1 hv2
  have HI : Hid (CaIs w g P C ∧ RfV w C (.slice a1 n1 c1) (.slice a2 n2 c2)) := ⟨hB.ca, hB.rf⟩
  unfold rcC opC
  clear hB
  go_enter Try.func11, Try.ntmps11
  have tk0 : Hid True := trivial
  have tk1 : Hid True := trivial
  have tk2 : Hid True := trivial
  have tk3 : Hid True := trivial
  have tk4 : Hid True := trivial
  go_wp2_with (first
      | (clear tk0; with_reducible refine wpSeq_boxW 27 (.tmp 1) [.int .i64 (C.most : Int), .slice a1 n1 c1, .slice a2 n2 c2, .int .i64 (C.hits : Int), .int .i64 (C.miss : Int)] ?_ ?_ ?_ ?_
         · rfl
         · rfl
         · rfl
         intro gc y0 nn
         have HC : Hid (Blk y0 gc [.int .i64 (C.most : Int), .slice a1 n1 c1, .slice a2 n2 c2, .int .i64 (C.hits : Int), .int .i64 (C.miss : Int)] 27) := nn.blk
         have HU : Hid (Mut P w y0) := mut_below nn.below P
         replace HI : Hid (CaIs y0 g P C ∧ RfV y0 C (.slice a1 n1 c1) (.slice a2 n2 c2)) := ⟨HI.out.1.below nn.below, HI.out.2.below nn.below⟩
         clear nn)
      | (clear tk1; with_reducible refine wpSeq_boxW 35 (.tmp 2) [.int .i64 kd, .string s, .int .i64 v] ?_ ?_ ?_ ?_
         · rfl
         · rfl
         · rfl
         intro gp y1 nn
         have HP : Hid (Blk y1 gp [.int .i64 kd, .string s, .int .i64 v] 35) := nn.blk
         replace HC : Hid (Blk y1 gc [.int .i64 (C.most : Int), .slice a1 n1 c1, .slice a2 n2 c2, .int .i64 (C.hits : Int), .int .i64 (C.miss : Int)] 27) := HC.out.below nn.below HC.out.lt
         replace HU : Hid (Mut P w y1) := HU.out.trans (fun _ _ h => h) (mut_below nn.below P)
         replace HI : Hid (CaIs y1 g P C ∧ RfV y1 C (.slice a1 n1 c1) (.slice a2 n2 c2)) := ⟨HI.out.1.below nn.below, HI.out.2.below nn.below⟩
         clear nn)
      | (clear tk2; with_reducible refine wpSeq_allocRc ?_ ?_ ?_
         · rfl
         · rfl
         intro gr y2 nn
         have HR : Hid (Blk y2 gr zRc 27) := nn.blk
         have HGR : Hid (w.heap.size ≤ gr) := Nat.le_trans HU.out.size nn.ge
         have HNE : Hid (gc ≠ gr) := fun e => absurd HC.out.lt (by have := nn.ge; omega)
         replace HP : Hid (Blk y2 gp [.int .i64 kd, .string s, .int .i64 v] 35) := HP.out.below nn.below HP.out.lt
         replace HC : Hid (Blk y2 gc [.int .i64 (C.most : Int), .slice a1 n1 c1, .slice a2 n2 c2, .int .i64 (C.hits : Int), .int .i64 (C.miss : Int)] 27) := HC.out.below nn.below HC.out.lt
         replace HU : Hid (Mut P w y2) := HU.out.trans (fun _ _ h => h) (mut_below nn.below P)
         replace HI : Hid (CaIs y2 g P C ∧ RfV y2 C (.slice a1 n1 c1) (.slice a2 n2 c2)) := ⟨HI.out.1.below nn.below, HI.out.2.below nn.below⟩
         have p0 : y2.cell? ⟨gp, 0, none⟩ = some (.int .i64 kd) := HP.out.cell 0
         have p1 : y2.cell? ⟨gp, 1, none⟩ = some (.string s) := HP.out.cell 1
         have p2 : y2.cell? ⟨gp, 2, none⟩ = some (.int .i64 v) := HP.out.cell 2
         clear nn)
      | (clear tk3; with_reducible refine load_rc (.tmp 4) gc _ _ _ _ _ HC.out ?_ ?_ ?_ ?_
         · rfl
         · rfl
         · rfl)
      | (clear tk4; with_reducible refine wpSeq_storeRow 27 (.tmp 6) (.tmp 18) gr zRc [.int .i64 (C.most : Int), .slice a1 n1 c1, .slice a2 n2 c2, .int .i64 (C.hits : Int), .int .i64 (C.miss : Int)] HR.out rfl (info_rc _ _ _ _ _) ?_ ?_ ?_ ?_ ?_ ?_
         · exact one_rc _ _ _ ⟨rfl, rfl, rfl⟩ _ _ _ _ _ _
         · rfl
         · rfl
         · rfl
         · rfl
         intro y7 sr
         replace HI : Hid (CaIs y7 g P C ∧ RfV y7 C (.slice a1 n1 c1) (.slice a2 n2 c2)) := ⟨HI.out.1.only HR.out sr.only (by decide) (by decide), HI.out.2.only HR.out (by decide) (by decide) sr.only⟩
         replace HU : Hid (Mut P w y7) := HU.out.trans (fun k hk (h : k = gr) => absurd hk (by have := HGR.out; omega)) (sr.only.mut (P := fun k => k = gr) rfl)
         have HF : Hid (Blk y7 gr [.int .i64 (C.most : Int), .slice a1 n1 c1, .slice a2 n2 c2, .int .i64 (C.hits : Int), .int .i64 (C.miss : Int)] 27) := sr.blk
         clear sr))
  refine bodyPost_ret (results_row_tmp rfl _ _ gr _ rfl (run_loadVar_mid (P := Try.prog) _ gr 0 27 _ _ HF.out.range Try.underlying27 rfl (info_rc _ _ _ _ _))) rfl ?_
  exact ⟨P, .slice a1 n1 c1, .slice a2 n2 c2, rfl, ⟨HI.out.1, HI.out.2⟩, HU.out, Grew.refl _ _⟩
theorem step16_any {w : World} {g : Nat} {P : Nat → Prop} {C : KaT} {vk vv : Value} (hB : Both w g P C vk vv) (hc : smC C) (hmo : C.most < 1000000) (hok : okC C) (o : OpK) (hs : o.k.size ≤ maxLen) :
    Calls Try.prog 11 #[.pointer (some ⟨g, 0, none⟩), .agg (rcC C vk vv).toArray, .agg (opC o).toArray] w fun r w' => ∃ P' vk' vv', r = .returned (.tuple #[.agg (rcC (stepC C o) vk' vv').toArray, .bool true]) ∧ Both w' g P' (stepC C o) vk' vv' ∧ Mut P w w' ∧ Grew w P P' := by
  obtain ⟨kd, s, v⟩ := o
  by_cases h0 : kd = 0
  · subst h0; exact step16_0 hB hc hmo hok s v hs
  by_cases h1 : kd = 1
  · subst h1; exact step16_1 hB hc hmo hok s v hs
  by_cases h2 : kd = 2
  · subst h2; exact step16_2 hB hc hmo hok s v hs
  exact step16_x hB kd h0 h1 h2 s v
/-- what was counted so far -/
def cntC (C : KaT) : Nat := C.hits + C.miss + C.puts
theorem cnt_get (C : KaT) (s : ByteArray) : cntC (getC C s) = cntC C + 1 ∧ (getC C s).most = C.most := by
  unfold getC cntC
  split <;> simp <;> omega
theorem cnt_step (C : KaT) (o : OpK) : cntC (stepC C o) ≤ cntC C + 1 ∧ (stepC C o).most = C.most := by
  unfold stepC
  split
  · have := cnt_get C o.k; exact ⟨Nat.le_of_eq this.1, this.2⟩
  · split
    · exact ⟨by unfold cntC putC; simp; omega, rfl⟩
    · split
      · exact ⟨Nat.le_succ _, rfl⟩
      · exact ⟨Nat.le_succ _, rfl⟩
theorem sm_of {C : KaT} (h1 : cntC C < 1000000) (h2 : C.most ≤ 1000000) : smC C := by
  unfold cntC at h1
  exact ⟨h2, by omega, by omega, by omega⟩
/-- acts, one behind the other -/
def runC (C : KaT) (l : List OpK) : KaT := l.foldl stepC C
theorem run_snoc (C : KaT) (l : List OpK) (o : OpK) : runC C (l ++ [o]) = stepC (runC C l) o := by unfold runC; rw [List.foldl_append]; rfl
theorem run_ok {C : KaT} (h : okC C) : ∀ (l : List OpK), (∀ o ∈ l, o.k.size ≤ maxLen) → okC (runC C l) := fun l hl => by
  induction l generalizing C with
  | nil => exact h
  | cons o l ih => exact ih (ok_step h o (hl o (by simp))) (fun p hp => hl p (by simp [hp]))
theorem run_cnt (C : KaT) (l : List OpK) : cntC (runC C l) ≤ cntC C + l.length ∧ (runC C l).most = C.most := by
  induction l generalizing C with
  | nil => exact ⟨Nat.le_refl _, rfl⟩
  | cons o l ih =>
    have h1 := ih (stepC C o)
    have h2 := cnt_step C o
    refine ⟨?_, h1.2.trans h2.2⟩
    show cntC (runC (stepC C o) l) ≤ _
    rw [List.length_cons]
    omega
end Go.Proofs.Ytgmemibhddnjjaa

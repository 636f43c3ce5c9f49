/- Texts that the proof leans on, one behind the other: The store's restart: the journal begun anew with all keys (layer 15). The store's record and Apply, whatever the batch (layer 15). A loop over a function: a round is told what holds of what it is handed, in the world in which it is handed (layer 15). .. -/
import Derived.Test.YtopmeedmgjdcgaaGreatDoorMxe
import Derived.RangeFuncFrom
import Derived.Test.YtopmeedmgjdcgaaGreatDoorRows
import Derived.Test.YtopmeedmgjdcgaaGreatDoorMxa
import Derived.ProofKit
import Derived.LaidMore
import Derived.OpenShut
import Derived.Stop.Joined
import Derived.Lib.LaidTab
import Derived.Carry
import Derived.ChangeSlices
/- The store's restart: the journal begun anew with all keys (layer 15). -/
namespace Go.Proofs.YtopmeedmgjdcgaaGreatDoor
open Go.RowKit
set_option maxRecDepth 100000
theorem rowA_reads {W : World} {base : Nat} {v : Value} {ps : List (ActT × Value)} (h : W.ownsRow base 62 3 v ps.length (rowP ps)) (hd : ∀ p ∈ ps, Reads W p.2 p.1.data) : ReadsA W v (ps.map (·.1)) := by
  obtain ⟨h1, h2⟩ := id h
  rcases h2 with ⟨rfl, h0⟩ | ⟨g, cap, cur, rfl, hg, hh, hc, hm, hs, ht⟩
  · have : ps = [] := List.eq_nil_of_length_eq_zero h0
    subst this
    exact ReadsA.nil W
  · refine ⟨_, cap, by rw [List.length_map], by rw [List.length_map]; exact hc, (fun e => by cases e), fun _ => ⟨g, 0, rfl, fun j hj => ?_⟩⟩
    rw [List.length_map] at hj
    obtain ⟨p, hp⟩ : ∃ p, ps[j]? = some p := ⟨ps[j], List.getElem?_eq_getElem hj⟩
    have e : (ps.map (·.1)).getD j ⟨[], false, []⟩ = p.1 := by rw [List.getD_eq_getElem?_getD, List.getElem?_map, hp]; rfl
    rw [e]
    refine ⟨p.2, fun i u hu => ?_, hd p (List.mem_of_getElem? hp)⟩
    have hr := rowP_at ps j i p u hp hu
    have hi : j * 3 + i < (rowP ps).length := (List.getElem?_eq_some_iff.1 hr).1
    rw [rowP_len] at hi
    rw [cell_of_row W g (0 + j * 3 + i) cur _ (0, 0) hh, Nat.zero_add]
    rw [← ht, List.getElem?_take_of_lt hi] at hr
    simpa using hr
theorem setP_whole (V : Bs → Value) (m : KM) : (setP V m).map (·.1) = wholeM m := by simp [setP, wholeM]
theorem build_t1 (f : Operand → Value) (o : Oper) (x : Operand) (ad : Option Addr) (n c : Nat) (hx : f x = .slice ad n c) (ho : o.op = .buildSlice 41 1 #[(0, x)]) (w : World) : (execOp f o).run Tryz.prog w = .ok (.value (.slice (some ⟨w.heap.size, 0, none⟩) 1 1)) (w.alloc (.cells #[.slice ad n c] 23)) := by
  unfold execOp
  rw [ho]
  simp only [List.map_toArray, List.map_cons, List.map_nil, hx]
  kernel_rfl
theorem wpSeq_buildT1 {ops : Array Oper} {Q : Exit → Act → World → Prop} {rest : List Oper} {o : Oper} {a : Act} {w : World} (x : Operand) (ad : Option Addr) (n c : Nat) (hx : a.eval x = .slice ad n c) (ho : o.op = .buildSlice 41 1 #[(0, x)]) (hw : Region.wanted o (yielded ops a.tmps) = true)
    (h : ∀ g w', NewR [.slice ad n c] 23 w g w' → wpList Tryz.prog ops Q rest (a.put o.dst (.slice (some ⟨g, 0, none⟩) 1 1)) w') : wpList Tryz.prog ops Q (o :: rest) a w :=
  wpSeq_val _ _ hw (build_t1 _ o x ad n c hx ho w) (h _ _ (NewR.of _ _ w))
theorem staL_one {P : Nat → Prop} {w : World} {g : Nat} {v : Value} {b : Bs} (hb : Blk w g [v] 23) (hg : ¬ P g) (hs : Sta P w (fun W => Reads W v b)) : Sta P w (fun W => ReadsL W (.slice (some ⟨g, 0, none⟩) 1 1) [b]) := fun W hW => by
  refine ⟨_, _, rfl, Nat.le_refl _, (fun h => by cases h), fun _ => ⟨g, 0, rfl, fun j hj => ?_⟩⟩
  match j, hj with
  | 0, _ => exact ⟨v, (hW.blk hb hg).cell 0, hs W hW⟩
set_option maxRecDepth 100000 in
set_option maxHeartbeats 4000000 in
theorem sRestart_none {w : World} {gs gd lg gm n : Nat} {P Q : Nat → Prop} {V : Bs → Value} {m : KM} {D : DkT} {J : JnT} (h : StM w gs gd lg gm n P Q V m D J) (hK : KOk w) (hp : StP m D J) (v : Value) (ps : List (ActT × Value)) (hst : Sta (Un P Q) w (fun W => RdP W v ps ∧ (∀ p ∈ ps, Reads W p.2 p.1.data) ∧ ReadsA W v (ps.map (·.1)))) (hsl : ∀ p ∈ ps, isSl p.2 = true ∧ p.1.key.length ≤ 1000000 ∧ p.1.data.length ≤ 1048576) (h60 : ps.length ≤ 60) (h2 : sumA (ps.map (·.1)) ≤ 20000) (hn : n + ps.length < 10000000) (h0 : doneM m (ps.map (·.1)) = []) :
    Calls Tryz.prog 80 #[.pointer (some ⟨gs, 0, none⟩), v] w fun e w' => e = .returned (.int .i64 (rstX J D (anewM (doneM m (ps.map (·.1)))))) ∧ ∃ P' Q', Mut (Un P Q) w w' ∧ Grew w (Un P Q) (Un P' Q') ∧ (rstX J D (anewM (doneM m (ps.map (·.1)))) ≠ 14 → StM w' gs gd lg gm n P' Q' V m (rstD J D (anewM (doneM m (ps.map (·.1))))) (rstJ J D (anewM (doneM m (ps.map (·.1)))))) := by
  obtain ⟨l, HL⟩ : ∃ x, Hid (x = ps.map (·.1)) := ⟨_, rfl⟩
  rw [← HL.out] at hst h2 h0 ⊢
  obtain ⟨m2, HM2⟩ : ∃ x, Hid (x = doneM m l) := ⟨_, rfl⟩
  rw [← HM2.out] at h0 ⊢
  obtain ⟨N, HN⟩ : ∃ x, Hid (x = ps.length) := ⟨_, rfl⟩
  obtain ⟨ad, cp, hv⟩ := hst.now.1.form
  rw [← HN.out] at hv
  subst hv
  have hbd := hp.done (l := l) (by rw [HL.out, List.length_map]; exact h60) h2
  rw [← HM2.out] at hbd
  have hpl : ps.length < 1000000 := by omega
  have HBD : Hid (m2.length < 1000000 ∧ (batchB (wholeM m2)).length ≤ 50000 ∧ wtM m2 ≤ 23904) := ⟨by omega, hbd.2.2, hbd.1⟩
  have HDO : Hid (∀ (W : World) (g : Nat), Below w.heap.size w W → MapM W g n V m → w.heap.size ≤ g → Calls Tryz.prog 54 #[.map (some g), .slice ad N cp] W fun e w' => e = .returned (.tuple #[]) ∧ ∃ V' n', MapM w' g n' V' m2 ∧ (∀ s t, getM m2 s = some t → Reads w' (V' s) t) ∧ Mut (fun k => k = g) W w') := fun W g hb hm hg => by
    have hmu := mut_below hb (Un P Q)
    have hmm := mut_below hb (Um P Q gm)
    have hK : ∀ s t, getM m s = some t → (Sta (fun k => k = g) W (fun X => Reads X (V s) t) ∧ t.length ≤ 1048576) := fun s t ht => ⟨(h.tx s t ht).1.go hmm (fun k hk e => absurd hk (by omega)), (h.tx s t ht).2⟩
    have hs2 := hst.go hmu (P' := fun k => k = g) (fun k hk e => absurd hk (by omega))
    refine (sDo_any (fun v t => Sta (fun k => k = g) W (fun X => Reads X v t) ∧ t.length ≤ 1048576) hm hK (.slice ad N cp) ps hs2.now.1 (fun p hp => ⟨(hsl p hp).2.1, (hsl p hp).1, fun _ => ⟨hs2.mono (fun X hX => hX.2.1 p hp), (hsl p hp).2.2⟩⟩) hn).mono (fun e w' hx => ?_)
    obtain ⟨h1, V', hI⟩ := hx
    rw [← HL.out, ← HM2.out] at hI
    exact ⟨h1, V', _, hI.mp, fun s t ht => (hI.kk s t ht).1.at hI.mu, hI.mu⟩
  have hg1 : ∀ (W : World), Below w.heap.size w W → StM W gs gd lg gm n P Q V m D J := fun W hb => h.below hb
  have HS : Hid (∀ (W : World), Below w.heap.size w W → StM W gs gd lg gm n P Q V m D J ∧ KOk W) := fun W hb => ⟨h.below hb, hK.below hb hK.lt⟩
  have HMC : Hid (Calls Tryz.prog 104 #[.map (some gm)] w fun e w' => ∃ g, e = .returned (.map (some g)) ∧ MapM w' g n V m ∧ Below w.heap.size w w' ∧ w.heap.size ≤ g) := mapsClone_any h.mp
  have c1 : w.cell? ⟨gs, 1, none⟩ = some (.map (some gm)) := h.sb.cell 1
  obtain ⟨ex, HEX⟩ : ∃ e, Hid (e = rstX J D (anewM m2)) := ⟨_, rfl⟩
  have HAN : Hid (∀ x ∈ anewM m2, x.length ≤ 100000) := fun x hx => by
    unfold anewM at hx
    by_cases e : m2 = []
    · rw [if_pos e] at hx
      cases hx
    · rw [if_neg e] at hx
      simp at hx
      rw [hx]
      have := HBD.out.2.1
      omega
  have HRE : Hid (∀ W vr, Below w.heap.size w W → Sta (Un P Q) W (fun X => ReadsL X vr (anewM m2)) → Calls Tryz.prog 105 #[.pointer (some ⟨lg, 0, none⟩), vr] W fun e w' => e = .returned (.int .i64 ex) ∧ ∃ P' Q', Mut (Un P Q) w w' ∧ Grew w (Un P Q) (Un P' Q') ∧ (ex ≠ 14 → StM w' gs gd lg gm n P' Q' V m (rstD J D (anewM m2)) (rstJ J D (anewM m2)))) := fun W vr hb hs => by
    have hS := HS.out W hb
    refine (jRestart_any vr (anewM m2) hS.2 hS.1.pk hp.okJ (by unfold anewM; split <;> simp) HAN.out hs).mono (fun e w' hx => ?_)
    obtain ⟨h3, P', Q', h4, h5, h6, h7⟩ := hx
    rw [← HEX.out] at h3 h7
    exact ⟨h3, P', Q', (mut_below hb _).trans (fun _ _ h => h) h5, fun k hk => (h6 k hk).elim Or.inl (fun h => Or.inr (Nat.le_trans hb.size h)), fun he => hS.1.moved h5 h6 (h7 he)⟩
  rw [← HEX.out]
  have ha : anewM m2 = [] := by unfold anewM; rw [if_pos h0]
  rw [ha] at HRE
  clear h hK hp hst hsl h60 h2 hn hbd hpl hg1 ha
  go_enter Tryz.func80, Tryz.ntmps80
  have tk0 : Hid True := trivial
  have tk1 : Hid True := trivial
  have tk2 : Hid True := trivial
  have tk3 : Hid True := trivial
  have tk4 : Hid True := trivial
  have tk5 : Hid True := trivial
  have tk6 : Hid True := trivial
  go_wp2_with (first
    | (clear tk0; go_at_call 104; refine (HMC.out).mono ?_; rintro e0 y0 ⟨g0, rfl, hm0, bl0, hg0⟩
       have HM0 : Hid (MapM y0 g0 n V m) := hm0
       have HB0 : Hid (Below w.heap.size w y0 ∧ w.heap.size ≤ g0) := ⟨bl0, hg0⟩
       clear hm0 bl0 hg0)
    | (clear tk1; go_at_call 54; refine (HDO.out y0 g0 HB0.out.1 HM0.out HB0.out.2).mono ?_; rintro e1 y1 ⟨rfl, V', n', hm1, hr1, mu1⟩
       have HM1 : Hid (MapM y1 g0 n' V' m2) := hm1
       have HR1 : Hid (∀ s t, getM m2 s = some t → Reads y1 (V' s) t) := hr1
       have HB1 : Hid (Below w.heap.size w y1) := HB0.out.1.trans (mu1.below HB0.out.1.size (fun k e => by rw [e]; exact HB0.out.2))
       have c2 : y1.cell? ⟨gs, 0, none⟩ = some (.pointer (some ⟨lg, 0, none⟩)) := (HS.out y1 HB1.out).1.sb.cell 0
       have hk := fun ty => HM1.out.len ty
       rw [h0] at hk
       have fl : ((([] : KM).length : Nat) : Int) = 0 := rfl
       simp only [fl] at hk
       clear hm1 hr1 mu1)
    | (clear tk2; go_at_call 105; refine (HRE.out y1 (.slice none 0 0) HB1.out (fun X _ => readsL_nil X)).mono ?_; rintro e2 y2 ⟨rfl, P', Q', mu, gr, hs2⟩
       have HF : Hid (Mut (Un P Q) w y2 ∧ Grew w (Un P Q) (Un P' Q') ∧ (ex ≠ 14 → StM y2 gs gd lg gm n P' Q' V m (rstD J D (anewM m2)) (rstJ J D (anewM m2)))) := ⟨mu, gr, by rw [show anewM m2 = [] by unfold anewM; rw [if_pos h0]]; exact hs2⟩
       clear mu gr hs2))
  go_ret
  exact ⟨rfl, P', Q', HF.out⟩
set_option maxRecDepth 100000 in
set_option maxHeartbeats 4000000 in
theorem sRestart_full {w : World} {gs gd lg gm n : Nat} {P Q : Nat → Prop} {V : Bs → Value} {m : KM} {D : DkT} {J : JnT} (h : StM w gs gd lg gm n P Q V m D J) (hK : KOk w) (hp : StP m D J) (v : Value) (ps : List (ActT × Value)) (hst : Sta (Un P Q) w (fun W => RdP W v ps ∧ (∀ p ∈ ps, Reads W p.2 p.1.data) ∧ ReadsA W v (ps.map (·.1)))) (hsl : ∀ p ∈ ps, isSl p.2 = true ∧ p.1.key.length ≤ 1000000 ∧ p.1.data.length ≤ 1048576) (h60 : ps.length ≤ 60) (h2 : sumA (ps.map (·.1)) ≤ 20000) (hn : n + ps.length < 10000000) (h0 : doneM m (ps.map (·.1)) ≠ []) (hc : chkL (wholeM (doneM m (ps.map (·.1)))) = 0) :
    Calls Tryz.prog 80 #[.pointer (some ⟨gs, 0, none⟩), v] w fun e w' => e = .returned (.int .i64 (rstX J D (anewM (doneM m (ps.map (·.1)))))) ∧ ∃ P' Q', Mut (Un P Q) w w' ∧ Grew w (Un P Q) (Un P' Q') ∧ (rstX J D (anewM (doneM m (ps.map (·.1)))) ≠ 14 → StM w' gs gd lg gm n P' Q' V m (rstD J D (anewM (doneM m (ps.map (·.1))))) (rstJ J D (anewM (doneM m (ps.map (·.1)))))) := by
  obtain ⟨l, HL⟩ : ∃ x, Hid (x = ps.map (·.1)) := ⟨_, rfl⟩
  rw [← HL.out] at hst h2 h0 hc ⊢
  obtain ⟨m2, HM2⟩ : ∃ x, Hid (x = doneM m l) := ⟨_, rfl⟩
  rw [← HM2.out] at h0 hc ⊢
  obtain ⟨N, HN⟩ : ∃ x, Hid (x = ps.length) := ⟨_, rfl⟩
  obtain ⟨ad, cp, hv⟩ := hst.now.1.form
  rw [← HN.out] at hv
  subst hv
  have hbd := hp.done (l := l) (by rw [HL.out, List.length_map]; exact h60) h2
  rw [← HM2.out] at hbd
  have hpl : ps.length < 1000000 := by omega
  have HBD : Hid (m2.length < 1000000 ∧ (batchB (wholeM m2)).length ≤ 50000 ∧ wtM m2 ≤ 23904) := ⟨by omega, hbd.2.2, hbd.1⟩
  have HDO : Hid (∀ (W : World) (g : Nat), Below w.heap.size w W → MapM W g n V m → w.heap.size ≤ g → Calls Tryz.prog 54 #[.map (some g), .slice ad N cp] W fun e w' => e = .returned (.tuple #[]) ∧ ∃ V' n', MapM w' g n' V' m2 ∧ (∀ s t, getM m2 s = some t → Reads w' (V' s) t) ∧ Mut (fun k => k = g) W w') := fun W g hb hm hg => by
    have hmu := mut_below hb (Un P Q)
    have hmm := mut_below hb (Um P Q gm)
    have hK : ∀ s t, getM m s = some t → (Sta (fun k => k = g) W (fun X => Reads X (V s) t) ∧ t.length ≤ 1048576) := fun s t ht => ⟨(h.tx s t ht).1.go hmm (fun k hk e => absurd hk (by omega)), (h.tx s t ht).2⟩
    have hs2 := hst.go hmu (P' := fun k => k = g) (fun k hk e => absurd hk (by omega))
    refine (sDo_any (fun v t => Sta (fun k => k = g) W (fun X => Reads X v t) ∧ t.length ≤ 1048576) hm hK (.slice ad N cp) ps hs2.now.1 (fun p hp => ⟨(hsl p hp).2.1, (hsl p hp).1, fun _ => ⟨hs2.mono (fun X hX => hX.2.1 p hp), (hsl p hp).2.2⟩⟩) hn).mono (fun e w' hx => ?_)
    obtain ⟨h1, V', hI⟩ := hx
    rw [← HL.out, ← HM2.out] at hI
    exact ⟨h1, V', _, hI.mp, fun s t ht => (hI.kk s t ht).1.at hI.mu, hI.mu⟩
  have hg1 : ∀ (W : World), Below w.heap.size w W → StM W gs gd lg gm n P Q V m D J := fun W hb => h.below hb
  have HS : Hid (∀ (W : World), Below w.heap.size w W → StM W gs gd lg gm n P Q V m D J ∧ KOk W) := fun W hb => ⟨h.below hb, hK.below hb hK.lt⟩
  have HMC : Hid (Calls Tryz.prog 104 #[.map (some gm)] w fun e w' => ∃ g, e = .returned (.map (some g)) ∧ MapM w' g n V m ∧ Below w.heap.size w w' ∧ w.heap.size ≤ g) := mapsClone_any h.mp
  have c1 : w.cell? ⟨gs, 1, none⟩ = some (.map (some gm)) := h.sb.cell 1
  obtain ⟨ex, HEX⟩ : ∃ e, Hid (e = rstX J D (anewM m2)) := ⟨_, rfl⟩
  have HAN : Hid (∀ x ∈ anewM m2, x.length ≤ 100000) := fun x hx => by
    unfold anewM at hx
    by_cases e : m2 = []
    · rw [if_pos e] at hx
      cases hx
    · rw [if_neg e] at hx
      simp at hx
      rw [hx]
      have := HBD.out.2.1
      omega
  have HRE : Hid (∀ W vr, Below w.heap.size w W → Sta (Un P Q) W (fun X => ReadsL X vr (anewM m2)) → Calls Tryz.prog 105 #[.pointer (some ⟨lg, 0, none⟩), vr] W fun e w' => e = .returned (.int .i64 ex) ∧ ∃ P' Q', Mut (Un P Q) w w' ∧ Grew w (Un P Q) (Un P' Q') ∧ (ex ≠ 14 → StM w' gs gd lg gm n P' Q' V m (rstD J D (anewM m2)) (rstJ J D (anewM m2)))) := fun W vr hb hs => by
    have hS := HS.out W hb
    refine (jRestart_any vr (anewM m2) hS.2 hS.1.pk hp.okJ (by unfold anewM; split <;> simp) HAN.out hs).mono (fun e w' hx => ?_)
    obtain ⟨h3, P', Q', h4, h5, h6, h7⟩ := hx
    rw [← HEX.out] at h3 h7
    exact ⟨h3, P', Q', (mut_below hb _).trans (fun _ _ h => h) h5, fun k hk => (h6 k hk).elim Or.inl (fun h => Or.inr (Nat.le_trans hb.size h)), fun he => hS.1.moved h5 h6 (h7 he)⟩
  rw [← HEX.out]
  have hze : okZ (wholeM m2) := ⟨by rw [show (wholeM m2).length = m2.length by simp [wholeM]]; have := HBD.out.1; omega, by have := HBD.out.2.1; omega, fun a ha => by
    obtain ⟨p, hp, e⟩ := List.mem_map.1 ha
    have h3 := wtM_mem m2 p hp
    have h4 := HBD.out.2.2
    unfold wt1 at h3
    rw [← e]
    show p.2.length ≤ _
    omega⟩
  have HWI : Hid (∀ W v, ReadsA W v (wholeM m2) → Calls Tryz.prog 46 #[v, .int .i64 1048576] W fun e w' => ∃ vb, e = .returned (.tuple #[vb, .bool true]) ∧ OwnB w' W.heap.size vb (batchB (wholeM m2)) ∧ Below W.heap.size W w') := fun W v hr => by
    refine (sWithin_any v (wholeM m2) 1048576 W hr hze).mono (fun e w' hx => ?_)
    obtain ⟨vb, e1, e2, e3⟩ := hx
    have hle : ((batchB (wholeM m2)).length : Int) ≤ 1048576 := by have := HBD.out.2.1; omega
    rw [decide_eq_true hle] at e1
    exact ⟨vb, e1, e2 hle, e3⟩
  have HCK : Hid (∀ W v, ReadsA W v (wholeM m2) → Calls Tryz.prog 11 #[v] W fun e w' => e = .returned (.int .i64 0) ∧ Below W.heap.size W w') := fun W v hr => by
    have hx := sCheck_any v (wholeM m2) W hr (by have := hze.n; omega)
    rw [hc] at hx
    exact hx
  have fl : ¬ ((m2.length : Int) = 0) := by
    have h3 : 0 < m2.length := List.length_pos_iff.2 h0
    omega
  have ha : anewM m2 = [batchB (wholeM m2)] := by unfold anewM; rw [if_neg h0]
  rw [ha] at HRE
  clear h hK hp hst hsl h60 h2 hn hbd hpl hg1 hze
  go_enter Tryz.func80, Tryz.ntmps80
  have tk0 : Hid True := trivial
  have tk1 : Hid True := trivial
  have tk2 : Hid True := trivial
  have tk3 : Hid True := trivial
  have tk4 : Hid True := trivial
  have tk5 : Hid True := trivial
  have tk6 : Hid True := trivial
  go_wp2_with (first
    | (clear tk0; go_at_call 104; refine (HMC.out).mono ?_; rintro e0 y0 ⟨g0, rfl, hm0, bl0, hg0⟩
       have HM0 : Hid (MapM y0 g0 n V m) := hm0
       have HB0 : Hid (Below w.heap.size w y0 ∧ w.heap.size ≤ g0) := ⟨bl0, hg0⟩
       clear hm0 bl0 hg0)
    | (clear tk1; go_at_call 54; refine (HDO.out y0 g0 HB0.out.1 HM0.out HB0.out.2).mono ?_; rintro e1 y1 ⟨rfl, V', n', hm1, hr1, mu1⟩
       have HM1 : Hid (MapM y1 g0 n' V' m2) := hm1
       have HR1 : Hid (∀ s t, getM m2 s = some t → Reads y1 (V' s) t) := hr1
       have HB1 : Hid (Below w.heap.size w y1) := HB0.out.1.trans (mu1.below HB0.out.1.size (fun k e => by rw [e]; exact HB0.out.2))
       have c2 : y1.cell? ⟨gs, 0, none⟩ = some (.pointer (some ⟨lg, 0, none⟩)) := (HS.out y1 HB1.out).1.sb.cell 0
       have hk := fun ty => HM1.out.len ty
       skip
       clear hm1 hr1 mu1)
    | (clear tk2; go_at_call 65; refine (sSetting_any HM1.out HBD.out.1).mono ?_; rintro e2 y2 ⟨v2, rfl, ow2, bl2⟩
       have hrd : ReadsA y2 v2 (wholeM m2) := by
         have h3 := rowA_reads (ps := setP V' m2) (by rw [setP_len]; exact ow2) (fun p hp => by
           obtain ⟨q, hq, e⟩ := List.mem_map.1 hp
           rw [← e]
           exact (HR1.out q.1 q.2 ((getM_mem HM1.out.up _ _).2 hq)).below bl2)
         rwa [setP_whole] at h3
       have HA2 : Hid (ReadsA y2 v2 (wholeM m2)) := hrd
       have HB2 : Hid (Below w.heap.size w y2) := HB1.out.trans (bl2.mono HB1.out.size)
       clear ow2 bl2 hrd)
    | (clear tk3; go_at_call 46; refine (HWI.out y2 v2 HA2.out).mono ?_; rintro e3 y3 ⟨vb, rfl, ow3, bl3⟩
       obtain ⟨ab, nb, cb, hvb⟩ := isSl_form ow3.isSl
       subst hvb
       have HO3 : Hid (OwnB y3 y2.heap.size (.slice ab nb cb) (batchB (wholeM m2))) := ow3
       have HA3 : Hid (ReadsA y3 v2 (wholeM m2)) := HA2.out.below bl3
       have HB3 : Hid (Below w.heap.size w y3) := HB2.out.trans (bl3.mono HB2.out.size)
       clear ow3 bl3)
    | (clear tk4; go_at_call 11; refine (HCK.out y3 v2 HA3.out).mono ?_; rintro e4 y4 ⟨rfl, bl4⟩
       have HO4 : Hid (OwnB y4 y2.heap.size (.slice ab nb cb) (batchB (wholeM m2))) := HO3.out.below bl4 (Nat.le_refl _)
       have HB4 : Hid (Below w.heap.size w y4) := HB3.out.trans (bl4.mono HB3.out.size)
       have c3 : y4.cell? ⟨gs, 0, none⟩ = some (.pointer (some ⟨lg, 0, none⟩)) := (HS.out y4 HB4.out).1.sb.cell 0
       clear bl4)
    | (clear tk5; with_reducible refine wpSeq_buildT1 (.tmp 43) ab nb cb ?_ ?_ ?_ ?_
       · rfl
       · rfl
       · rfl
       intro g5 y5 nn
       have HB5 : Hid (Below w.heap.size w y5) := HB4.out.trans (nn.below.mono HB4.out.size)
       have HL5 : Hid (Sta (Un P Q) y5 (fun W => ReadsL W (.slice (some ⟨g5, 0, none⟩) 1 1) [batchB (wholeM m2)])) := by
         have hlt : ∀ k, Un P Q k → k < y2.heap.size := fun k hk => (HS.out y2 HB2.out).1.lt k hk
         refine staL_one nn.blk (fun hk => ?_) ((HO4.out.st hlt).below nn.below)
         have h3 := hlt g5 hk
         have h4 := nn.ge
         have h5 := (HS.out y4 HB4.out).1.lt g5 hk
         omega
       clear nn)
    | (clear tk6; go_at_call 105; refine (HRE.out y5 _ HB5.out HL5.out).mono ?_; rintro e6 y6 ⟨rfl, P', Q', mu, gr, hs2⟩
       have HF : Hid (Mut (Un P Q) w y6 ∧ Grew w (Un P Q) (Un P' Q') ∧ (ex ≠ 14 → StM y6 gs gd lg gm n P' Q' V m (rstD J D (anewM m2)) (rstJ J D (anewM m2)))) := ⟨mu, gr, by rw [show anewM m2 = [batchB (wholeM m2)] by unfold anewM; rw [if_neg h0]]; exact hs2⟩
       clear mu gr hs2))
  go_ret
  exact ⟨rfl, P', Q', HF.out⟩
set_option maxRecDepth 100000 in
set_option maxHeartbeats 4000000 in
theorem sRestart_bad {w : World} {gs gd lg gm n : Nat} {P Q : Nat → Prop} {V : Bs → Value} {m : KM} {D : DkT} {J : JnT} (h : StM w gs gd lg gm n P Q V m D J) (hK : KOk w) (hp : StP m D J) (v : Value) (ps : List (ActT × Value)) (hst : Sta (Un P Q) w (fun W => RdP W v ps ∧ (∀ p ∈ ps, Reads W p.2 p.1.data) ∧ ReadsA W v (ps.map (·.1)))) (hsl : ∀ p ∈ ps, isSl p.2 = true ∧ p.1.key.length ≤ 1000000 ∧ p.1.data.length ≤ 1048576) (h60 : ps.length ≤ 60) (h2 : sumA (ps.map (·.1)) ≤ 20000) (hn : n + ps.length < 10000000) (h0 : doneM m (ps.map (·.1)) ≠ []) (hc : chkL (wholeM (doneM m (ps.map (·.1)))) = 1) :
    Calls Tryz.prog 80 #[.pointer (some ⟨gs, 0, none⟩), v] w fun e w' => e = .returned (.int .i64 13) ∧ Below w.heap.size w w' := by
  obtain ⟨l, HL⟩ : ∃ x, Hid (x = ps.map (·.1)) := ⟨_, rfl⟩
  rw [← HL.out] at hst h2 h0 hc
  obtain ⟨m2, HM2⟩ : ∃ x, Hid (x = doneM m l) := ⟨_, rfl⟩
  rw [← HM2.out] at h0 hc
  obtain ⟨N, HN⟩ : ∃ x, Hid (x = ps.length) := ⟨_, rfl⟩
  obtain ⟨ad, cp, hv⟩ := hst.now.1.form
  rw [← HN.out] at hv
  subst hv
  have hbd := hp.done (l := l) (by rw [HL.out, List.length_map]; exact h60) h2
  rw [← HM2.out] at hbd
  have hpl : ps.length < 1000000 := by omega
  have HBD : Hid (m2.length < 1000000 ∧ (batchB (wholeM m2)).length ≤ 50000 ∧ wtM m2 ≤ 23904) := ⟨by omega, hbd.2.2, hbd.1⟩
  have HDO : Hid (∀ (W : World) (g : Nat), Below w.heap.size w W → MapM W g n V m → w.heap.size ≤ g → Calls Tryz.prog 54 #[.map (some g), .slice ad N cp] W fun e w' => e = .returned (.tuple #[]) ∧ ∃ V' n', MapM w' g n' V' m2 ∧ (∀ s t, getM m2 s = some t → Reads w' (V' s) t) ∧ Mut (fun k => k = g) W w') := fun W g hb hm hg => by
    have hmu := mut_below hb (Un P Q)
    have hmm := mut_below hb (Um P Q gm)
    have hK : ∀ s t, getM m s = some t → (Sta (fun k => k = g) W (fun X => Reads X (V s) t) ∧ t.length ≤ 1048576) := fun s t ht => ⟨(h.tx s t ht).1.go hmm (fun k hk e => absurd hk (by omega)), (h.tx s t ht).2⟩
    have hs2 := hst.go hmu (P' := fun k => k = g) (fun k hk e => absurd hk (by omega))
    refine (sDo_any (fun v t => Sta (fun k => k = g) W (fun X => Reads X v t) ∧ t.length ≤ 1048576) hm hK (.slice ad N cp) ps hs2.now.1 (fun p hp => ⟨(hsl p hp).2.1, (hsl p hp).1, fun _ => ⟨hs2.mono (fun X hX => hX.2.1 p hp), (hsl p hp).2.2⟩⟩) hn).mono (fun e w' hx => ?_)
    obtain ⟨h1, V', hI⟩ := hx
    rw [← HL.out, ← HM2.out] at hI
    exact ⟨h1, V', _, hI.mp, fun s t ht => (hI.kk s t ht).1.at hI.mu, hI.mu⟩
  have hg1 : ∀ (W : World), Below w.heap.size w W → StM W gs gd lg gm n P Q V m D J := fun W hb => h.below hb
  have HS : Hid (∀ (W : World), Below w.heap.size w W → StM W gs gd lg gm n P Q V m D J ∧ KOk W) := fun W hb => ⟨h.below hb, hK.below hb hK.lt⟩
  have HMC : Hid (Calls Tryz.prog 104 #[.map (some gm)] w fun e w' => ∃ g, e = .returned (.map (some g)) ∧ MapM w' g n V m ∧ Below w.heap.size w w' ∧ w.heap.size ≤ g) := mapsClone_any h.mp
  have c1 : w.cell? ⟨gs, 1, none⟩ = some (.map (some gm)) := h.sb.cell 1
  have hze : okZ (wholeM m2) := ⟨by rw [show (wholeM m2).length = m2.length by simp [wholeM]]; have := HBD.out.1; omega, by have := HBD.out.2.1; omega, fun a ha => by
    obtain ⟨p, hp, e⟩ := List.mem_map.1 ha
    have h3 := wtM_mem m2 p hp
    have h4 := HBD.out.2.2
    unfold wt1 at h3
    rw [← e]
    show p.2.length ≤ _
    omega⟩
  have HWI : Hid (∀ W v, ReadsA W v (wholeM m2) → Calls Tryz.prog 46 #[v, .int .i64 1048576] W fun e w' => ∃ vb, e = .returned (.tuple #[vb, .bool true]) ∧ OwnB w' W.heap.size vb (batchB (wholeM m2)) ∧ Below W.heap.size W w') := fun W v hr => by
    refine (sWithin_any v (wholeM m2) 1048576 W hr hze).mono (fun e w' hx => ?_)
    obtain ⟨vb, e1, e2, e3⟩ := hx
    have hle : ((batchB (wholeM m2)).length : Int) ≤ 1048576 := by have := HBD.out.2.1; omega
    rw [decide_eq_true hle] at e1
    exact ⟨vb, e1, e2 hle, e3⟩
  have HCK : Hid (∀ W v, ReadsA W v (wholeM m2) → Calls Tryz.prog 11 #[v] W fun e w' => e = .returned (.int .i64 1) ∧ Below W.heap.size W w') := fun W v hr => by
    have hx := sCheck_any v (wholeM m2) W hr (by have := hze.n; omega)
    rw [hc] at hx
    exact hx
  have fl : ¬ ((m2.length : Int) = 0) := by
    have h3 : 0 < m2.length := List.length_pos_iff.2 h0
    omega
  clear h hK hp hst hsl h60 h2 hn hbd hpl hg1 hze
  go_enter Tryz.func80, Tryz.ntmps80
  have tk0 : Hid True := trivial
  have tk1 : Hid True := trivial
  have tk2 : Hid True := trivial
  have tk3 : Hid True := trivial
  have tk4 : Hid True := trivial
  have tk5 : Hid True := trivial
  have tk6 : Hid True := trivial
  go_wp2_with (first
    | (clear tk0; go_at_call 104; refine (HMC.out).mono ?_; rintro e0 y0 ⟨g0, rfl, hm0, bl0, hg0⟩
       have HM0 : Hid (MapM y0 g0 n V m) := hm0
       have HB0 : Hid (Below w.heap.size w y0 ∧ w.heap.size ≤ g0) := ⟨bl0, hg0⟩
       clear hm0 bl0 hg0)
    | (clear tk1; go_at_call 54; refine (HDO.out y0 g0 HB0.out.1 HM0.out HB0.out.2).mono ?_; rintro e1 y1 ⟨rfl, V', n', hm1, hr1, mu1⟩
       have HM1 : Hid (MapM y1 g0 n' V' m2) := hm1
       have HR1 : Hid (∀ s t, getM m2 s = some t → Reads y1 (V' s) t) := hr1
       have HB1 : Hid (Below w.heap.size w y1) := HB0.out.1.trans (mu1.below HB0.out.1.size (fun k e => by rw [e]; exact HB0.out.2))
       have c2 : y1.cell? ⟨gs, 0, none⟩ = some (.pointer (some ⟨lg, 0, none⟩)) := (HS.out y1 HB1.out).1.sb.cell 0
       have hk := fun ty => HM1.out.len ty
       skip
       clear hm1 hr1 mu1)
    | (clear tk2; go_at_call 65; refine (sSetting_any HM1.out HBD.out.1).mono ?_; rintro e2 y2 ⟨v2, rfl, ow2, bl2⟩
       have hrd : ReadsA y2 v2 (wholeM m2) := by
         have h3 := rowA_reads (ps := setP V' m2) (by rw [setP_len]; exact ow2) (fun p hp => by
           obtain ⟨q, hq, e⟩ := List.mem_map.1 hp
           rw [← e]
           exact (HR1.out q.1 q.2 ((getM_mem HM1.out.up _ _).2 hq)).below bl2)
         rwa [setP_whole] at h3
       have HA2 : Hid (ReadsA y2 v2 (wholeM m2)) := hrd
       have HB2 : Hid (Below w.heap.size w y2) := HB1.out.trans (bl2.mono HB1.out.size)
       clear ow2 bl2 hrd)
    | (clear tk3; go_at_call 46; refine (HWI.out y2 v2 HA2.out).mono ?_; rintro e3 y3 ⟨vb, rfl, ow3, bl3⟩
       obtain ⟨ab, nb, cb, hvb⟩ := isSl_form ow3.isSl
       subst hvb
       have HO3 : Hid (OwnB y3 y2.heap.size (.slice ab nb cb) (batchB (wholeM m2))) := ow3
       have HA3 : Hid (ReadsA y3 v2 (wholeM m2)) := HA2.out.below bl3
       have HB3 : Hid (Below w.heap.size w y3) := HB2.out.trans (bl3.mono HB2.out.size)
       clear ow3 bl3)
    | (clear tk4; go_at_call 11; refine (HCK.out y3 v2 HA3.out).mono ?_; rintro e4 y4 ⟨rfl, bl4⟩
       have HO4 : Hid (OwnB y4 y2.heap.size (.slice ab nb cb) (batchB (wholeM m2))) := HO3.out.below bl4 (Nat.le_refl _)
       have HB4 : Hid (Below w.heap.size w y4) := HB3.out.trans (bl4.mono HB3.out.size)
       have c3 : y4.cell? ⟨gs, 0, none⟩ = some (.pointer (some ⟨lg, 0, none⟩)) := (HS.out y4 HB4.out).1.sb.cell 0
       clear bl4))
  go_ret
  exact ⟨rfl, HB4.out⟩
end Go.Proofs.YtopmeedmgjdcgaaGreatDoor
/- The store's record and Apply, whatever the batch (layer 15). -/
namespace Go.Proofs.YtopmeedmgjdcgaaGreatDoor
open Go.RowKit
set_option maxRecDepth 100000
theorem DoS.weak {w wr : World} {gm n : Nat} {K K' : Value → Bs → Prop} {m : KM} {V : Bs → Value} (h : DoS w gm n K m V wr) (hk : ∀ v t, K v t → K' v t) : DoS w gm n K' m V wr := ⟨h.mp, fun s t ht => hk _ _ (h.kk s t ht), h.mu⟩
set_option maxRecDepth 100000 in
set_option maxHeartbeats 2000000 in
theorem sApply_of {X : Value → Prop} {w : World} {gs gd lg gm n : Nat} {P Q : Nat → Prop} {V : Bs → Value} {m : KM} {D D' : DkT} {J J' : JnT} (h : StM w gs gd lg gm n P Q V m D J) (v : Value) (ps : List (ActT × Value)) (hst : Sta (Un P Q) w (fun W => RdP W v ps ∧ (∀ p ∈ ps, Reads W p.2 p.1.data) ∧ ReadsA W v (ps.map (·.1)))) (hsl : ∀ p ∈ ps, isSl p.2 = true ∧ p.1.key.length ≤ 1000000 ∧ p.1.data.length ≤ 1048576) (hz : okZ (ps.map (·.1))) (hck : chkL (ps.map (·.1)) = 0) (h0 : ps ≠ []) (hn : n + ps.length < 10000000) (hpl : ps.length < 1000000) (hX : ∀ s t, getM m s = some t → X (V s)) (hXn : ∀ (W : World) (base : Nat) (v : Value) (t : Bs), OwnB W base v t → w.heap.size ≤ base → X v)
    (hrc : ∀ W, Below w.heap.size w W → Calls Tryz.prog 53 #[.pointer (some ⟨gs, 0, none⟩), v] W fun e w' => e = .returned (.int .i64 0) ∧ ∃ P' Q', Mut (Un P Q) W w' ∧ Grew W (Un P Q) (Un P' Q') ∧ StM w' gs gd lg gm n P' Q' V m D' J') :
    Calls Tryz.prog 23 #[.pointer (some ⟨gs, 0, none⟩), v] w fun e w' => e = .returned (.int .i64 0) ∧ ∃ P' Q' V', StM w' gs gd lg gm (n + ps.length) P' Q' V' (doneM m (ps.map (·.1))) D' J' ∧ Mut (Um P Q gm) w w' ∧ Grew w (Un P Q) (Un P' Q') ∧ ∀ s t, getM (doneM m (ps.map (·.1))) s = some t → X (V' s) := by
  obtain ⟨l, HL⟩ : ∃ x, Hid (x = ps.map (·.1)) := ⟨_, rfl⟩
  rw [← HL.out] at hst hz hck ⊢
  have HRC : Hid (∀ W, Below w.heap.size w W → Calls Tryz.prog 53 #[.pointer (some ⟨gs, 0, none⟩), v] W fun e w' => e = .returned (.int .i64 0) ∧ ∃ P' Q', Mut (Un P Q) W w' ∧ Grew W (Un P Q) (Un P' Q') ∧ StM w' gs gd lg gm n P' Q' V m D' J') := hrc
  have hcc := sCheck_any v l w hst.now.2.2 (by have := hz.n; omega)
  rw [hck] at hcc
  have HCK : Hid (Calls Tryz.prog 11 #[v] w fun e w' => e = .returned (.int .i64 0) ∧ Below w.heap.size w w') := hcc
  obtain ⟨N, HN⟩ : ∃ x, Hid (x = ps.length) := ⟨_, rfl⟩
  obtain ⟨ad, cp, hv⟩ := hst.now.1.form
  rw [← HN.out] at hv
  subst hv
  have fz : ¬ ((N : Int) = 0) := by
    have h1 : 0 < ps.length := List.length_pos_iff.2 h0
    have h2 := HN.out
    omega
  have HCP : Hid (∀ W, RdP W (.slice ad N cp) ps → (∀ p ∈ ps, Reads W p.2 p.1.data) → Calls Tryz.prog 55 #[.slice ad N cp] W fun e w' => ∃ v' qs, e = .returned v' ∧ OwnA w' W.heap.size v' qs ∧ qs.map (·.1) = l ∧ Below W.heap.size W w') := fun W h1 h2 => by
    rw [HL.out]
    exact sCopies_any _ ps h1 (fun p hp => (hsl p hp).1) h2 (fun p hp => Nat.le_trans (hsl p hp).2.2 (by decide)) hpl
  have HQS : Hid (∀ qs : List (ActT × Value), qs.map (·.1) = l → qs.length = N ∧ ∀ q ∈ qs, q.1.key.length ≤ 1000000 ∧ q.1.data.length ≤ 1048576) := fun qs hq => by
    rw [HL.out] at hq
    have hle : (qs.map (·.1)).length = (ps.map (·.1)).length := by rw [hq]
    rw [List.length_map, List.length_map] at hle
    refine ⟨by rw [HN.out, hle], fun q hqm => ?_⟩
    have h1 : q.1 ∈ ps.map (·.1) := by rw [← hq]; exact List.mem_map_of_mem hqm
    obtain ⟨p, hp, e⟩ := List.mem_map.1 h1
    rw [← e]
    exact (hsl p hp).2
  have HST : Hid (Sta (Un P Q) w (fun W => RdP W (.slice ad N cp) ps ∧ (∀ p ∈ ps, Reads W p.2 p.1.data) ∧ ReadsA W (.slice ad N cp) l)) := hst
  have HNN : Hid (n + N < 10000000) := by show _ < _; rw [HN.out]; exact hn
  have HXX : Hid ((∀ s t, getM m s = some t → X (V s)) ∧ ∀ (W : World) (base : Nat) (v : Value) (t : Bs), OwnB W base v t → w.heap.size ≤ base → X v) := ⟨hX, hXn⟩
  have HNM : Hid (¬ gs = gm) := fun e => h.mp.ne h.sb e.symm
  rw [← HN.out]
  clear h hst hsl hz hck h0 hn hpl hcc hrc hX hXn
  go_enter Tryz.func23, Tryz.ntmps23
  have tk0 : Hid True := trivial
  have tk1 : Hid True := trivial
  go_upto_region 7 with (first
    | (clear tk0; go_at_call 11; refine (HCK.out).mono ?_; rintro e0 y0 ⟨rfl, bl0⟩
       have HB0 : Hid (Below w.heap.size w y0) := bl0
       clear bl0)
    | (clear tk1; go_at_call 53; refine (HRC.out y0 HB0.out).mono ?_; rintro e1 y1 ⟨rfl, P', Q', mu1, gr1, hs1⟩
       have HS : Hid (StM y1 gs gd lg gm n P' Q' V m D' J') := hs1
       have HMU : Hid (Mut (Un P Q) w y1 ∧ Grew w (Un P Q) (Un P' Q')) := ⟨(mut_below HB0.out _).trans (fun _ _ h => h) mu1, fun k hk => (gr1 k hk).elim Or.inl (fun h => Or.inr (Nat.le_trans HB0.out.size h))⟩
       clear mu1 gr1 hs1))
  have HS1 : Hid (StM y1.drew gs gd lg gm n P' Q' V m D' J') := HS.out.below (Below.refl _ _).drew
  have HX1 : Hid (RdP y1.drew (.slice ad N cp) ps ∧ ∀ p ∈ ps, Reads y1.drew p.2 p.1.data) := ⟨(HST.out.at HMU.out.1.drew).1, (HST.out.at HMU.out.1.drew).2.1⟩
  refine wp_region_held_drew (S := fun wx => Blk wx gs [.pointer (some ⟨lg, 0, none⟩), .map (some gm)] 99) (by kernel_rfl) HS.out.sb.drew ?_
  intro hS
  refine wpAnyH_take (i := 0) (v := .pointer (some ⟨gs, 0, none⟩)) rfl (by kernel_rfl) (by kernel_rfl) (by kernel_rfl) (fun _ _ _ h => h) (Or.inl ⟨by rfl, fun wx hx => by simp [go_sem]⟩) hS ?_
  simp only [Act.put, List.getElem_toArray, List.getElem_cons_zero, List.setIfInBounds_toArray, List.set_cons_zero, List.set_cons_succ]
  refine wpAnyH_take (i := 1) (v := .pointer (some ⟨gs, 0, none⟩)) rfl (by kernel_rfl) (by kernel_rfl) (by kernel_rfl) (fun _ _ _ h => h) (Or.inl ⟨by rfl, fun wx hx => by simp [go_sem]⟩) hS ?_
  simp only [Act.put, List.getElem_toArray, List.getElem_cons_succ, List.getElem_cons_zero, List.setIfInBounds_toArray, List.set_cons_zero, List.set_cons_succ]
  refine wpAnyH_take (i := 2) (v := .pointer (some ⟨gs, 1, none⟩)) rfl (by kernel_rfl) (by kernel_rfl) (by kernel_rfl) (fun _ _ _ h => h) (Or.inl ⟨by rfl, fun wx hx => by simp [go_sem]⟩) hS ?_
  simp only [Act.put, List.getElem_toArray, List.getElem_cons_succ, List.getElem_cons_zero, List.setIfInBounds_toArray, List.set_cons_zero, List.set_cons_succ]
  refine wpAnyH_take (i := 3) (v := .map (some gm)) rfl (by kernel_rfl) (by kernel_rfl) (by kernel_rfl) (fun _ _ _ h => h) (Or.inl ⟨by rfl, fun wx hx => by (have c0 : wx.cell? ⟨gs, 1, none⟩ = some (.map (some gm)) := hx.cell 1; simp [go_sem, c0])⟩) hS ?_
  simp only [Act.put, List.getElem_toArray, List.getElem_cons_succ, List.getElem_cons_zero, List.setIfInBounds_toArray, List.set_cons_zero, List.set_cons_succ]
  refine wpAnyH_take (i := 4) (v := .slice ad N cp) rfl (by kernel_rfl) (by kernel_rfl) (by kernel_rfl) (fun _ _ _ h => h) (Or.inl ⟨by rfl, fun wx hx => by simp [go_sem]⟩) hS ?_
  simp only [Act.put, List.getElem_toArray, List.getElem_cons_succ, List.getElem_cons_zero, List.setIfInBounds_toArray, List.set_cons_zero, List.set_cons_succ]
  refine wpAnyH_enter 5 (by kernel_rfl) rfl (by rfl) (f := 55) (args := #[.slice ad N cp]) (by simp [go_sem]) (HCP.out _ HX1.out.1 HX1.out.2) ?_
  rintro e2 y2 ⟨v2, qs, rfl, ow2, hq2, bl2⟩
  have hS2 := HS1.out.below bl2
  refine ⟨_, rfl, hS2.sb, ?_⟩
  simp only [Act.put, List.getElem_toArray, List.getElem_cons_succ, List.getElem_cons_zero, List.setIfInBounds_toArray, List.set_cons_zero, List.set_cons_succ]
  obtain ⟨hqn, hqz⟩ := HQS.out qs hq2
  have hdo := sDo_any (fun v t => (Sta (Um P' Q' gm) y2 (fun W => Reads W v t) ∧ t.length ≤ 1048576) ∧ X v) hS2.mp (fun s t ht => ⟨hS2.tx s t ht, HXX.out.1 s t ht⟩) v2 qs ow2.rdp (fun q hq => ⟨(hqz q hq).1, (ow2.dat q hq).isSl, fun _ => ⟨⟨(ow2.dat q hq).st (fun k hk => HS1.out.ltM k hk), (hqz q hq).2⟩, HXX.out.2 _ _ _ _ (ow2.dat q hq) HMU.out.1.size⟩⟩) (by rw [hqn]; exact HNN.out)
  refine wpAnyH_enter 6 (by kernel_rfl) rfl (by rfl) (f := 54) (args := #[.map (some gm), v2]) (by simp [go_sem]) hdo ?_
  rintro e3 y3 ⟨rfl, V', hI⟩
  rw [hq2, hqn] at hI
  have hS3 := hS2.done (DoS.weak hI (fun _ _ h => h.1))
  refine ⟨_, rfl, hS3.sb, ?_⟩
  simp only [Act.put, List.getElem_toArray, List.getElem_cons_succ, List.getElem_cons_zero, List.setIfInBounds_toArray, List.set_cons_zero, List.set_cons_succ]
  have HF : Hid (StM y3 gs gd lg gm (n + N) P' Q' V' (doneM m l) D' J' ∧ Mut (Um P Q gm) w y3 ∧ Grew w (Un P Q) (Un P' Q') ∧ ∀ s t, getM (doneM m l) s = some t → X (V' s)) := by
    refine ⟨hS3, ?_, HMU.out.2, fun s t ht => (hI.kk s t ht).2⟩
    have m1 : Mut (Um P Q gm) w y1.drew := ⟨HMU.out.1.os, HMU.out.1.tape, HMU.out.1.output, HMU.out.1.size, fun k hk hn => HMU.out.1.block k hk (fun hx => hn (Or.inl hx))⟩
    exact (m1.trans (fun _ _ h => h) (mut_below bl2 _)).trans (fun _ _ h => Or.inr h) hI.mu
  clear hS hS2 hS3 hI hdo ow2 hq2 bl2 hqn hqz
  refine wpAnyH_done (by kernel_rfl) ?_ _
  go_wp2
  go_ret
  exact ⟨rfl, P', Q', V', HF.out⟩
/-- what a restart may come to -/
def RsR (w : World) (gs gd lg gm n : Nat) (P Q : Nat → Prop) (V : Bs → Value) (m m2 : KM) (D : DkT) (J : JnT) (e : Ending) (w' : World) : Prop :=
  ∃ P' Q', Mut (Un P Q) w w' ∧ Grew w (Un P Q) (Un P' Q') ∧ (((chkL (wholeM m2) = 0 ∧ rsX (anewM m2) (sizeD D) = 0) ∧ e = .returned (.int .i64 0) ∧ StM w' gs gd lg gm n P' Q' V m (rstD J D (anewM m2)) (rstJ J D (anewM m2))) ∨ (¬ (chkL (wholeM m2) = 0 ∧ rsX (anewM m2) (sizeD D) = 0) ∧ e = .returned (.int .i64 13) ∧ StM w' gs gd lg gm n P' Q' V m D J))
theorem sRestart_any {w : World} {gs gd lg gm n : Nat} {P Q : Nat → Prop} {V : Bs → Value} {m : KM} {D : DkT} {J : JnT} (h : StM w gs gd lg gm n P Q V m D J) (hK : KOk w) (hp : StP m D J) (hg : J.gen + 1 < 1000000) (v : Value) (ps : List (ActT × Value)) (hst : Sta (Un P Q) w (fun W => RdP W v ps ∧ (∀ p ∈ ps, Reads W p.2 p.1.data) ∧ ReadsA W v (ps.map (·.1)))) (hsl : ∀ p ∈ ps, isSl p.2 = true ∧ p.1.key.length ≤ 1000000 ∧ p.1.data.length ≤ 1048576) (h60 : ps.length ≤ 60) (h2 : sumA (ps.map (·.1)) ≤ 20000) (hn : n + ps.length < 10000000) :
    Calls Tryz.prog 80 #[.pointer (some ⟨gs, 0, none⟩), v] w fun e w' => RsR w gs gd lg gm n P Q V m (doneM m (ps.map (·.1))) D J e w' := by
  have hbd := hp.done (l := ps.map (·.1)) (by rw [List.length_map]; exact h60) h2
  have hup : Rise (doneM m (ps.map (·.1))) := hp.up.done _
  have fin : ∀ e w', chkL (wholeM (doneM m (ps.map (·.1)))) = 0 → (e = .returned (.int .i64 (rstX J D (anewM (doneM m (ps.map (·.1)))))) ∧ ∃ P' Q', Mut (Un P Q) w w' ∧ Grew w (Un P Q) (Un P' Q') ∧ (rstX J D (anewM (doneM m (ps.map (·.1)))) ≠ 14 → StM w' gs gd lg gm n P' Q' V m (rstD J D (anewM (doneM m (ps.map (·.1))))) (rstJ J D (anewM (doneM m (ps.map (·.1))))))) → RsR w gs gd lg gm n P Q V m (doneM m (ps.map (·.1))) D J e w' := fun e w' hc hx => by
    obtain ⟨h3, P', Q', h4, h5, h6⟩ := hx
    refine ⟨P', Q', h4, h5, ?_⟩
    by_cases hr : rsX (anewM (doneM m (ps.map (·.1)))) (sizeD D) = 0
    · have h7 := (hp.anew hup hg hr).1
      rw [h7] at h3 h6
      exact Or.inl ⟨⟨hc, hr⟩, h3, h6 (by decide)⟩
    · obtain ⟨h7, h8, h9⟩ := hp.full hbd.2.2 hr
      rw [h7, h8, h9] at h6
      rw [h7] at h3
      exact Or.inr ⟨fun h => hr h.2, h3, h6 (by decide)⟩
  by_cases h0 : doneM m (ps.map (·.1)) = []
  · refine (sRestart_none h hK hp v ps hst hsl h60 h2 hn h0).mono (fun e w' hx => fin e w' ?_ hx)
    rw [h0]
    rfl
  · rcases chkL_or (wholeM (doneM m (ps.map (·.1)))) with hc | hc
    · exact (sRestart_full h hK hp v ps hst hsl h60 h2 hn h0 hc).mono (fun e w' hx => fin e w' hc hx)
    · refine (sRestart_bad h hK hp v ps hst hsl h60 h2 hn h0 hc).mono (fun e w' hx => ?_)
      exact ⟨P, Q, mut_below hx.2 _, Grew.refl _ _, Or.inr ⟨(fun hh => by rw [hc] at hh; cases hh.1), hx.1, h.below hx.2⟩⟩
set_option maxRecDepth 100000 in
set_option maxHeartbeats 2000000 in
theorem sRecord_not {w : World} {gs gd lg gm n : Nat} {P Q : Nat → Prop} {V : Bs → Value} {m : KM} {D : DkT} {J : JnT} (h : StM w gs gd lg gm n P Q V m D J) (hK : KOk w) (hp : StP m D J) (hg : J.gen + 1 < 1000000) (v : Value) (ps : List (ActT × Value)) (hst : Sta (Un P Q) w (fun W => RdP W v ps ∧ (∀ p ∈ ps, Reads W p.2 p.1.data) ∧ ReadsA W v (ps.map (·.1)))) (hsl : ∀ p ∈ ps, isSl p.2 = true ∧ p.1.key.length ≤ 1000000 ∧ p.1.data.length ≤ 1048576) (h60 : ps.length ≤ 60) (h2 : sumA (ps.map (·.1)) ≤ 20000) (hn : n + ps.length < 10000000) (hf : ¬ (batchB (ps.map (·.1))).length ≤ roomZ J.l (sizeD D)) :
    Calls Tryz.prog 53 #[.pointer (some ⟨gs, 0, none⟩), v] w fun e w' => RsR w gs gd lg gm n P Q V m (doneM m (ps.map (·.1))) D J e w' := by
  obtain ⟨nr, HNR⟩ : ∃ x, Hid (x = roomZ J.l (sizeD D)) := ⟨_, rfl⟩
  rw [← HNR.out] at hf
  have h4 : Calls Tryz.prog 78 #[.pointer (some ⟨lg, 0, none⟩)] w fun e w' => e = .returned (.int .i64 (nr : Int)) ∧ Below w.heap.size w w' := by
    obtain ⟨vr, us, hm, hQ⟩ := id h.pk.lg
    have h1 := hp.okJ.fit
    have h2 := hp.okJ.hi
    have h3 := sizeL_eq J.l
    unfold hsD at h1
    have h4 := jRoom_any hm.lb (by omega) (by omega)
    rw [show min 1048576 (64 * (sizeD D / 2 - (1 + secL J.l)) - 57) = nr from by rw [HNR.out, roomZ]; omega] at h4
    exact h4
  have HRM : Hid (Calls Tryz.prog 78 #[.pointer (some ⟨lg, 0, none⟩)] w fun e w' => e = .returned (.int .i64 (nr : Int)) ∧ Below w.heap.size w w') := h4
  have hz : okZ (ps.map (·.1)) := okZ_light (by rw [List.length_map]; exact h60) h2
  have HWI : Hid (∀ W, ReadsA W v (ps.map (·.1)) → Calls Tryz.prog 46 #[v, .int .i64 (nr : Int)] W fun e w' => ∃ vb, e = .returned (.tuple #[vb, .bool false]) ∧ Below W.heap.size W w') := fun W hr => by
    refine (sWithin_any v _ (nr : Int) W hr hz).mono (fun e w' h => ?_)
    obtain ⟨vb, e1, e2, e3⟩ := h
    have hle : ¬ ((batchB (ps.map (·.1))).length : Int) ≤ (nr : Int) := by omega
    rw [decide_eq_false hle] at e1
    exact ⟨vb, e1, e3⟩
  obtain ⟨m2, HM2⟩ : ∃ x, Hid (x = doneM m (ps.map (·.1))) := ⟨_, rfl⟩
  have HRS : Hid (∀ W, Below w.heap.size w W → Calls Tryz.prog 80 #[.pointer (some ⟨gs, 0, none⟩), v] W fun e w' => RsR w gs gd lg gm n P Q V m m2 D J e w') := fun W hb => by
    refine (sRestart_any (h.below hb) (hK.below hb hK.lt) hp hg v ps (hst.below hb) hsl h60 h2 hn).mono (fun e w' hx => ?_)
    rw [← HM2.out] at hx
    obtain ⟨P', Q', h5, h6, h7⟩ := hx
    exact ⟨P', Q', (mut_below hb _).trans (fun _ _ h => h) h5, fun k hk => (h6 k hk).elim Or.inl (fun h => Or.inr (Nat.le_trans hb.size h)), h7⟩
  rw [← HM2.out]
  have HR : Hid (∀ W, Below w.heap.size w W → ReadsA W v (ps.map (·.1)) ∧ StM W gs gd lg gm n P Q V m D J) := fun W hb => ⟨hst.now.2.2.below hb, h.below hb⟩
  have c0 : w.cell? ⟨gs, 0, none⟩ = some (.pointer (some ⟨lg, 0, none⟩)) := h.sb.cell 0
  obtain ⟨ad, nn, cp, hv⟩ : ∃ a n c, v = .slice a n c := by obtain ⟨a, c, h⟩ := hst.now.1.form; exact ⟨a, _, c, h⟩
  subst hv
  clear h hK hp hg hst hsl h60 h2 hn hf h4 hz
  go_enter Tryz.func53, Tryz.ntmps53
  have tk0 : Hid True := trivial
  have tk1 : Hid True := trivial
  have tk2 : Hid True := trivial
  go_wp2_with (first
    | (clear tk0; go_at_call 78; refine (HRM.out).mono ?_; rintro e0 y0 ⟨rfl, bl0⟩
       have HB0 : Hid (Below w.heap.size w y0) := bl0
       clear bl0)
    | (clear tk1; go_at_call 46; refine (HWI.out y0 (HR.out y0 HB0.out).1).mono ?_; rintro e1 y1 ⟨vb, rfl, bl1⟩
       have HB1 : Hid (Below w.heap.size w y1) := HB0.out.trans (bl1.mono HB0.out.size)
       clear bl1)
    | (clear tk2; go_at_call 80; refine (HRS.out y1 HB1.out).mono ?_; rintro e2 y2 hx
       obtain ⟨x, hxe⟩ : ∃ x : Int, e2 = .returned (.int .i64 x) := by
         obtain ⟨_, _, _, _, ⟨_, h, _⟩ | ⟨_, h, _⟩⟩ := hx
         · exact ⟨_, h⟩
         · exact ⟨_, h⟩
       subst hxe
       have HF : Hid (RsR w gs gd lg gm n P Q V m m2 D J (.returned (.int .i64 x)) y2) := hx
       clear hx))
  go_ret
  exact HF.out
set_option maxRecDepth 100000 in
set_option maxHeartbeats 2000000 in
theorem sApply_no {w : World} {gs : Nat} (v : Value) (l : List ActT) (hr : ReadsA w v l) (hl : l.length ≤ 1000000) (hc : chkL l ≠ 0 ∨ l = []) : Calls Tryz.prog 23 #[.pointer (some ⟨gs, 0, none⟩), v] w fun e w' => e = .returned (.int .i64 (chkL l)) ∧ Below w.heap.size w w' := by
  obtain ⟨N, HN⟩ : ∃ x, Hid (x = l.length) := ⟨_, rfl⟩
  obtain ⟨ad, cp, hv⟩ := hr.form
  rw [← HN.out] at hv
  subst hv
  obtain ⟨cx, HC⟩ : ∃ x, Hid (x = chkL l) := ⟨_, rfl⟩
  have hk := sCheck_any _ l w hr (by omega)
  rw [← HC.out] at hk ⊢
  have HK : Hid (Calls Tryz.prog 11 #[.slice ad N cp] w fun e w' => e = .returned (.int .i64 cx) ∧ Below w.heap.size w w') := hk
  by_cases h0 : cx = 0
  · subst h0
    have hz : N = 0 := by
      have h1 := HC.out
      rcases hc with h | h
      · exact absurd h1.symm h
      · rw [HN.out, h]; rfl
    subst hz
    clear hr hl hc hk
    go_enter Tryz.func23, Tryz.ntmps23
    go_wp2_with (first
      | (go_at_call 11; refine (HK.out).mono ?_; rintro e0 y0 ⟨rfl, bl0⟩
         have HB0 : Hid (Below w.heap.size w y0) := bl0
         clear bl0))
    go_ret
    exact ⟨rfl, HB0.out⟩
  · have q1 : (cx != 0) = true := by rw [bne_iff_ne]; exact h0
    clear hr hl hc hk
    go_enter Tryz.func23, Tryz.ntmps23
    go_wp2_with (first
      | (go_at_call 11; refine (HK.out).mono ?_; rintro e0 y0 ⟨rfl, bl0⟩
         have HB0 : Hid (Below w.heap.size w y0) := bl0
         clear bl0))
    go_ret
    exact ⟨rfl, HB0.out⟩
set_option maxRecDepth 100000 in
set_option maxHeartbeats 2000000 in
theorem sApply_full {w : World} {gs : Nat} {K : World → Prop} (v : Value) (l : List ActT) (hr : ReadsA w v l) (hl : l.length ≤ 1000000) (hc : chkL l = 0) (h0 : l ≠ []) (hrc : ∀ W, Below w.heap.size w W → Calls Tryz.prog 53 #[.pointer (some ⟨gs, 0, none⟩), v] W fun e w' => e = .returned (.int .i64 13) ∧ K w') : Calls Tryz.prog 23 #[.pointer (some ⟨gs, 0, none⟩), v] w fun e w' => e = .returned (.int .i64 13) ∧ K w' := by
  obtain ⟨N, HN⟩ : ∃ x, Hid (x = l.length) := ⟨_, rfl⟩
  obtain ⟨ad, cp, hv⟩ := hr.form
  rw [← HN.out] at hv
  subst hv
  have hk := sCheck_any _ l w hr (by omega)
  rw [hc] at hk
  have HK : Hid (Calls Tryz.prog 11 #[.slice ad N cp] w fun e w' => e = .returned (.int .i64 0) ∧ Below w.heap.size w w') := hk
  have HRC : Hid (∀ W, Below w.heap.size w W → Calls Tryz.prog 53 #[.pointer (some ⟨gs, 0, none⟩), .slice ad N cp] W fun e w' => e = .returned (.int .i64 13) ∧ K w') := hrc
  have fz : ¬ ((N : Int) = 0) := by
    have h1 : 0 < l.length := List.length_pos_iff.2 h0
    have h2 := HN.out
    omega
  clear hr hl hc h0 hrc hk
  go_enter Tryz.func23, Tryz.ntmps23
  have tk0 : Hid True := trivial
  have tk1 : Hid True := trivial
  go_wp2_with (first
    | (clear tk0; go_at_call 11; refine (HK.out).mono ?_; rintro e0 y0 ⟨rfl, bl0⟩
       have HB0 : Hid (Below w.heap.size w y0) := bl0
       clear bl0)
    | (clear tk1; go_at_call 53; refine (HRC.out y0 HB0.out).mono ?_; rintro e1 y1 ⟨rfl, hk1⟩
       have HF : Hid (K y1) := hk1
       clear hk1))
  go_ret
  exact ⟨rfl, HF.out⟩
/-- a store behind a batch: what the reference says -/
structure ApR (X : Value → Prop) (w : World) (gs gd lg gm n : Nat) (P Q : Nat → Prop) (m : KM) (D : DkT) (J : JnT) (l : List ActT) (n' : Nat) (P' Q' : Nat → Prop) (V' : Bs → Value) (D' : DkT) (J' : JnT) (w' : World) : Prop where
  st : StM w' gs gd lg gm n' P' Q' V' (apyM m J.l l (sizeD D)) D' J'
  sp : StP (apyM m J.l l (sizeD D)) D' J'
  rs : J'.l = apyL m J.l l (sizeD D)
  sz : sizeD D' = sizeD D
  ge : J'.gen ≤ J.gen + 1
  nn : n' ≤ n + l.length
  mu : Mut (Um P Q gm) w w'
  gr : Grew w (Un P Q) (Un P' Q')
  xx : ∀ s t, getM (apyM m J.l l (sizeD D)) s = some t → X (V' s)
theorem wide_un {P Q : Nat → Prop} {gm : Nat} {w w' : World} (h : Mut (Un P Q) w w') : Mut (Um P Q gm) w w' := ⟨h.os, h.tape, h.output, h.size, fun k hk hn => h.block k hk (fun hx => hn (Or.inl hx))⟩
theorem sApply_any (X : Value → Prop) {w : World} {gs gd lg gm n : Nat} {P Q : Nat → Prop} {V : Bs → Value} {m : KM} {D : DkT} {J : JnT} (h : StM w gs gd lg gm n P Q V m D J) (hK : KOk w) (hp : StP m D J) (hg : J.gen + 1 < 1000000) (v : Value) (ps : List (ActT × Value)) (hst : Sta (Un P Q) w (fun W => RdP W v ps ∧ (∀ p ∈ ps, Reads W p.2 p.1.data) ∧ ReadsA W v (ps.map (·.1)))) (hsl : ∀ p ∈ ps, isSl p.2 = true) (h60 : ps.length ≤ 60) (h2 : sumA (ps.map (·.1)) ≤ 20000) (hn : n + ps.length < 10000000) (hX : ∀ s t, getM m s = some t → X (V s)) (hXn : ∀ (W : World) (base : Nat) (v : Value) (t : Bs), OwnB W base v t → w.heap.size ≤ base → X v) :
    Calls Tryz.prog 23 #[.pointer (some ⟨gs, 0, none⟩), v] w fun e w' => e = .returned (.int .i64 (apyX m J.l (ps.map (·.1)) (sizeD D))) ∧ ∃ n' P' Q' V' D' J', ApR X w gs gd lg gm n P Q m D J (ps.map (·.1)) n' P' Q' V' D' J' w' := by
  obtain ⟨l, HL⟩ : ∃ x, Hid (x = ps.map (·.1)) := ⟨_, rfl⟩
  have hll : l.length = ps.length := by rw [HL.out, List.length_map]
  have h2l := h2
  rw [← HL.out] at h2l
  have hw : ∀ a ∈ l, wtA a ≤ 20000 := fun a ha => Nat.le_trans (wt_sum l a ha) h2l
  have hs2 : ∀ p ∈ ps, isSl p.2 = true ∧ p.1.key.length ≤ 1000000 ∧ p.1.data.length ≤ 1048576 := fun p hp => by
    have h3 := hw p.1 (by rw [HL.out]; exact List.mem_map_of_mem hp)
    unfold wtA at h3
    exact ⟨hsl p hp, by omega, by omega⟩
  have hz : okZ l := okZ_light (by rw [hll]; exact h60) h2l
  rw [← HL.out]
  by_cases hc : chkL l = 0 ∧ l ≠ []
  case neg =>
    have hx : apyX m J.l l (sizeD D) = chkL l := if_neg hc
    have hm : apyM m J.l l (sizeD D) = m := by
      unfold apyM
      rw [hx]
      by_cases h0 : chkL l = 0
      · have hl0 : l = [] := by
          by_cases e : l = []
          · exact e
          · exact absurd ⟨h0, e⟩ hc
        rw [if_pos h0, hl0]
        rfl
      · rw [if_neg h0]
    have hl' : apyL m J.l l (sizeD D) = J.l := if_neg hc
    refine (sApply_no v l (by rw [HL.out]; exact hst.now.2.2) (by omega) (by
      by_cases e : l = []
      · exact Or.inr e
      · exact Or.inl (fun h0 => hc ⟨h0, e⟩))).mono (fun e w' hx2 => ?_)
    rw [hx]
    refine ⟨hx2.1, n, P, Q, V, D, J, ?_⟩
    exact ⟨by rw [hm]; exact h.below hx2.2, by rw [hm]; exact hp, hl'.symm, rfl, by omega, by omega, mut_below hx2.2 _, Grew.refl _ _, by rw [hm]; exact hX⟩
  case pos =>
    obtain ⟨hc0, hl0⟩ := hc
    have hp0 : ps ≠ [] := fun e => hl0 (by rw [HL.out, e]; rfl)
    by_cases hf : (batchB l).length ≤ roomZ J.l (sizeD D)
    · have ha := (room_batch J.l l (sizeD D)).1 hf
      obtain ⟨f1, f2, f3, f4, f5⟩ := hp.fit (l := l) ha
      have hx : apyX m J.l l (sizeD D) = 0 := by unfold apyX; rw [if_pos ⟨hc0, hl0⟩, if_pos ha]
      have hm : apyM m J.l l (sizeD D) = doneM m l := if_pos hx
      have hl' : apyL m J.l l (sizeD D) = J.l ++ [batchB l] := by unfold apyL; rw [if_pos ⟨hc0, hl0⟩, if_pos ha]
      refine (sApply_of (D' := appD J D (batchB l)) (J' := appJ J D (batchB l)) h v ps hst hs2 (by rw [← HL.out]; exact hz) (by rw [← HL.out]; exact hc0) hp0 hn (by omega) hX hXn (fun W hb => ?_)).mono (fun e w' hx2 => ?_)
      · refine (sRecord_fit (h.below hb) (hK.below hb hK.lt) hp.okJ v l (by rw [HL.out]; exact hst.now.2.2.below hb) hz hf).mono (fun e w' h3 => ?_)
        obtain ⟨h4, P', Q', h5, h6, h7⟩ := h3
        rw [f1] at h4 h7
        exact ⟨h4, P', Q', h5, h6, h7 (by decide)⟩
      · obtain ⟨h4, P', Q', V', h5, h6, h7, h8⟩ := hx2
        rw [← HL.out] at h5 h8
        rw [hx]
        exact ⟨h4, _, P', Q', V', _, _, by rw [hm]; exact h5, by rw [hm]; exact f2, by rw [hl']; exact f3, f4, by omega, by rw [hll]; exact Nat.le_refl _, h6, h7, by rw [hm]; exact h8⟩
    · have ha : apX J.l (batchB l) (sizeD D) ≠ 0 := fun e => hf ((room_batch J.l l (sizeD D)).2 e)
      have hrec : ∀ W, Below w.heap.size w W → Calls Tryz.prog 53 #[.pointer (some ⟨gs, 0, none⟩), v] W fun e w' => RsR W gs gd lg gm n P Q V m (doneM m l) D J e w' := fun W hb => by
        have h3 := sRecord_not (h.below hb) (hK.below hb hK.lt) hp hg v ps (hst.below hb) hs2 h60 h2 hn (by rw [← HL.out]; exact hf)
        rw [← HL.out] at h3
        exact h3
      by_cases hr : chkL (wholeM (doneM m l)) = 0 ∧ rsX (anewM (doneM m l)) (sizeD D) = 0
      · have hx : apyX m J.l l (sizeD D) = 0 := by unfold apyX; rw [if_pos ⟨hc0, hl0⟩, if_neg ha, if_pos hr]
        have hm : apyM m J.l l (sizeD D) = doneM m l := if_pos hx
        have hl' : apyL m J.l l (sizeD D) = anewM (doneM m l) := by unfold apyL; rw [if_pos ⟨hc0, hl0⟩, if_neg ha, if_pos hr]
        obtain ⟨f1, f2, f3, f4, f5⟩ := hp.anew (hp.up.done l) hg hr.2
        refine (sApply_of (D' := rstD J D (anewM (doneM m l))) (J' := rstJ J D (anewM (doneM m l))) h v ps hst hs2 (by rw [← HL.out]; exact hz) (by rw [← HL.out]; exact hc0) hp0 hn (by omega) hX hXn (fun W hb => ?_)).mono (fun e w' hx2 => ?_)
        · refine (hrec W hb).mono (fun e w' h3 => ?_)
          obtain ⟨P', Q', h5, h6, ⟨_, h7, h8⟩ | ⟨h7, _⟩⟩ := h3
          · exact ⟨h7, P', Q', h5, h6, h8⟩
          · exact absurd hr h7
        · obtain ⟨h4, P', Q', V', h5, h6, h7, h8⟩ := hx2
          rw [← HL.out] at h5 h8
          rw [hx]
          exact ⟨h4, _, P', Q', V', _, _, by rw [hm]; exact h5, by rw [hm]; exact f2, by rw [hl']; exact f3, f4, by omega, by rw [hll]; exact Nat.le_refl _, h6, h7, by rw [hm]; exact h8⟩
      · have hx : apyX m J.l l (sizeD D) = 13 := by unfold apyX; rw [if_pos ⟨hc0, hl0⟩, if_neg ha, if_neg hr]
        have hm : apyM m J.l l (sizeD D) = m := by unfold apyM; rw [hx, if_neg (by decide)]
        have hl' : apyL m J.l l (sizeD D) = J.l := by unfold apyL; rw [if_pos ⟨hc0, hl0⟩, if_neg ha, if_neg hr]
        refine (sApply_full (K := fun w' => ∃ P' Q', Mut (Un P Q) w w' ∧ Grew w (Un P Q) (Un P' Q') ∧ StM w' gs gd lg gm n P' Q' V m D J) v l (by rw [HL.out]; exact hst.now.2.2) (by omega) hc0 hl0 (fun W hb => ?_)).mono (fun e w' hx2 => ?_)
        · refine (hrec W hb).mono (fun e w' h3 => ?_)
          obtain ⟨P', Q', h5, h6, ⟨h7, _⟩ | ⟨_, h7, h8⟩⟩ := h3
          · exact absurd h7 hr
          · exact ⟨h7, P', Q', (mut_below hb _).trans (fun _ _ h => h) h5, fun k hk => (h6 k hk).elim Or.inl (fun h => Or.inr (Nat.le_trans hb.size h)), h8⟩
        · obtain ⟨h4, P', Q', h5, h6, h7⟩ := hx2
          rw [hx]
          exact ⟨h4, n, P', Q', V, D, J, by rw [hm]; exact h7, by rw [hm]; exact hp, hl'.symm, rfl, by omega, by omega, wide_un h5, h6, by rw [hm]; exact hX⟩
end Go.Proofs.YtopmeedmgjdcgaaGreatDoor
/- A loop over a function: a round is told what holds of what it is handed, in the world in which it is handed (layer 15). -/
namespace Go.Proofs.YtopmeedmgjdcgaaGreatDoor
open Go.RowKit
set_option maxRecDepth 100000
/-- the function gf hands out elements one by one; G holds of each in the world in which it is handed out; it lays new blocks alone -/
def SeqG {α : Type} (n gf : Nat) (lb : Array Value) (encs : α → Array Value) (G : α → World → Prop) (Kp : World → World → Prop) (S Sp : List α → Prop) (w : World) : Prop :=
  ∀ (l : Nat) (J Jx : List α → World → Prop) (W : World), Below w.heap.size w W → (∀ s X Y, J s X → Below X.heap.size X Y → J s Y) → (∀ s X Y, Jx s X → Below X.heap.size X Y → Jx s Y) →
    (∀ pre x X, J pre X → Sp (pre ++ [x]) → G x X → YieldAt Fence.wide (n - 1) Tryz.prog l (encs x) X fun e Y => (e = .returned (.bool true) ∧ J (pre ++ [x]) Y ∧ Kp X Y) ∨ (e = .returned (.bool false) ∧ Jx (pre ++ [x]) Y)) →
    J [] W → CallsIn Fence.wide n Tryz.prog gf (#[.func (.yield l) #[] #[]] ++ lb) W fun e Y => (∃ v, e = .returned v) ∧ ((∃ xs, S xs ∧ J xs Y) ∨ ∃ pre, Sp pre ∧ Jx pre Y)
theorem own_grows {β : Type} {B : Nat} {I : β → World → Prop} (h : OwnFrom B I) {s : β} {X Y : World} (hs : I s X) (hb : Below X.heap.size X Y) : I s Y :=
  h s X Y none hs ⟨hb.os, hb.tape, hb.output, hb.size, fun k hk _ => hb.block k hk⟩ (fun r e => by cases e)
/-- a loop's record and its block for deferred calls, as they lie between two rounds -/
structure LpAt (L : LoopState → Option Code → Loop) (n : Nat) (s : LoopState) (p : Option Code) (X : World) : Prop where
  lp : X.heap[n + 1]? = some (.loop (L s p))
  df : X.heap[n]? = some (.deferred (some []))
theorem LpAt.grows {L : LoopState → Option Code → Loop} {n : Nat} {s : LoopState} {p : Option Code} {X Y : World} (h : LpAt L n s p X) (hb : Below X.heap.size X Y) : LpAt L n s p Y :=
  ⟨(hb.block _ (Array.getElem?_eq_some_iff.1 h.lp).1).trans h.lp, (hb.block _ (Array.getElem?_eq_some_iff.1 h.df).1).trans h.df⟩
theorem LpAt.put {L : LoopState → Option Code → Loop} {n : Nat} {s : LoopState} {p : Option Code} {X : World} (h : LpAt L n s p X) (s' : LoopState) (p' : Option Code) : LpAt L n s' p' (X.putObj (n + 1) (.loop (L s' p'))) :=
  ⟨World.putObj_heap_same (Array.getElem?_eq_some_iff.1 h.lp).1, (World.putObj_heap_other (by omega)).trans h.df⟩
theorem LpAt.others {L : LoopState → Option Code → Loop} {n : Nat} {s : LoopState} {p : Option Code} {X Y : World} (h : LpAt L n s p X) (hk : KeepsOthers X Y) : LpAt L n s p Y := ⟨hk.same _ _ h.lp rfl, hk.same _ _ h.df rfl⟩
theorem range_good {α : Type} {n : Nat} {g : Operand} {ps : Array Tmp} {assign body : Code} {Q : Exit → Act → World → Prop} {a : Act} {w : World} (h1 : 1 ≤ n) {gf : Nat} {lb : Array Value} (hg : a.eval g = .func (.func gf) #[] lb) (eg : ∀ args w, (callFunc gf args).run Tryz.prog w = .ok (.enter gf args) w)
    {encs : α → Array Value} {G : α → World → Prop} {Kp : World → World → Prop} {S Sp : List α → Prop} {w0 : World} (hseq : SeqG (n - 1) gf lb encs G Kp S Sp w0) (hKt : ∀ {A B C : World}, Kp A B → Kp B C → Kp A C) (hKb : ∀ (W : World) (l : Nat) (o o' : Obj), w.heap.size ≤ l → W.heap[l]? = some o → o.isCells = false → o.isWalk = false → Kp W (W.putObj l o')) (hb0 : Below w0.heap.size w0 w) (hps : ∀ x, (encs x).size = ps.size)
    (I : List α → World → Prop) (Ix : Code → List α → World → Prop) (hI : OwnFrom w.heap.size I) (hIx : ∀ c, OwnFrom w.heap.size (Ix c)) (hG : OwnFrom w.heap.size G) (h0 : I [] w) (a₁ : α → Act)
    (hassign : ∀ (l : Nat) (x : α) (W : World) (K : Act → World → Prop), K (a₁ x) W → assign.wpIn (Fence.wide.inRound l) (n - 1 - 1) Tryz.prog (Exit.then K (fun _ _ _ => False)) { tmps := (ps.zip (encs x)).foldl (fun t (p, v) => t.setIfInBounds p v) a.tmps, defers := [] } W)
    (hbody : ∀ (l : Nat) (pre : List α) (x : α) (W : World), I pre W → Sp (pre ++ [x]) → G x W → body.wpIn (Fence.wide.inRound l) (n - 1 - 1) Tryz.prog (ownPostK Kp I Ix (pre ++ [x]) W) (a₁ x) W)
    (hdone : ∀ (D : Nat) (xs : List α) (W : World), w.heap.size ≤ D → S xs → I xs W → W.heap[D]? = some (.deferred (some [])) → Q .normal { a with defers := { target := .collected D, args := #[] } :: a.defers } W)
    (hstop : ∀ (D : Nat) (c : Code) (pre : List α) (W : World), w.heap.size ≤ D → Sp pre → Ix c pre W → W.heap[D]? = some (.deferred (some [])) → c.wpIn Fence.wide n Tryz.prog Q { a with defers := { target := .collected D, args := #[] } :: a.defers } W) :
    (Code.rangeFunc g ps assign body).wpIn Fence.wide n Tryz.prog Q a w := by
  refine wpIn_rangeFunc fun fn hfn => ?_
  obtain ⟨L, hL⟩ : ∃ L : LoopState → Option Code → Loop, ∀ s p, L s p = { state := s, pending := p, fn := fn, tmps := a.tmps, params := ps, assign := assign, body := body, defers := w.heap.size } := ⟨fun s p => { state := s, pending := p, fn := fn, tmps := a.tmps, params := ps, assign := assign, body := body, defers := w.heap.size }, fun _ _ => rfl⟩
  obtain ⟨V, hV⟩ : ∃ V, V = (w.alloc (.deferred (some []))).alloc (.loop (L .ready none)) := ⟨_, rfl⟩
  have hbw : Below w.heap.size w V := by
    rw [hV]
    exact ((Below.refl _ w).alloc (Nat.le_refl _) _).alloc (by simp) _
  have hat : LpAt L w.heap.size .ready none V := by
    rw [hV]
    refine ⟨?_, (Below.heap_alloc _ _ _ (by simp)).trans (World.alloc_heap_new w _)⟩
    have := World.alloc_heap_new (w.alloc (.deferred (some []))) (.loop (L .ready none))
    rwa [World.size_alloc] at this
  refine ⟨w.heap.size + 1, [{ target := .collected w.heap.size, args := #[] }], V, { target := .fn (.func gf) lb, args := #[.func (.yield (w.heap.size + 1)) #[] #[]] }, V, gf, #[.func (.yield (w.heap.size + 1)) #[] #[]] ++ lb, V, ?_, ?_, fun _ _ => trivial, ?_, fun _ => h1, ?_⟩
  · rw [hV, hL]
    exact run_enterLoop_outer _ _ _ _ _
  · simp only [resolve, hg]
    simp [go_sem]
  · simp [invoke, go_sem, eg]
  have hput : ∀ {β : Type} {K : β → World → Prop}, OwnFrom w.heap.size K → ∀ {b : β} {X : World} {s : LoopState} {p : Option Code}, K b X → LpAt L w.heap.size s p X → ∀ s' p', K b (X.putObj (w.heap.size + 1) (.loop (L s' p'))) := fun hK b X s p hb hl s' p' => hK.putObj _ hb (by omega) hl.lp rfl
  have hkp : ∀ {X : World} {s : LoopState} {p : Option Code}, LpAt L w.heap.size s p X → ∀ s' p', Kp X (X.putObj (w.heap.size + 1) (.loop (L s' p'))) := fun hl s' p' => hKb _ _ _ _ (by omega) hl.lp rfl rfl
  refine (hseq (w.heap.size + 1) (fun pre X => I pre X ∧ LpAt L w.heap.size .ready none X) (fun pre X => ∃ c, Ix c pre X ∧ LpAt L w.heap.size .done (some c) X) V (hb0.trans (hbw.mono hb0.size)) (fun s X Y h hb => ⟨own_grows hI h.1 hb, h.2.grows hb⟩) (fun s X Y h hb => by obtain ⟨c, h2, h3⟩ := h; exact ⟨c, own_grows (hIx c) h2 hb, h3.grows hb⟩) ?_ ⟨own_grows hI h0 hbw, hat⟩).mono ?_
  · rintro pre x X ⟨hi, hl⟩ hsp hgx
    have hy := run_yield (P := Tryz.prog) (args := encs x) hl.lp (by rw [hL]; exact hps x)
    rw [hL] at hy
    have hbg := run_beginRound (P := Tryz.prog) hl.lp (by rw [hL])
    have hbz : ({ L .ready none with state := .busy } : Loop) = L .busy none := by rw [hL, hL]
    rw [hbz] at hbg
    refine ⟨fn, _, assign, body, hy, roundIn_of_wpIn hfn (hassign _ x X _ ⟨_, hbg, ?_⟩)⟩
    have hl2 := hl.put .busy none
    refine wpIn_mono (hbody _ pre x _ (hput hI hi hl .busy none) hsp (hput hG hgx hl .busy none)) ?_
    have hend : ∀ (j : Option Code) (Z : World), KeepsOthers (X.putObj (w.heap.size + 1) (.loop (L .busy none))) Z → LpAt L w.heap.size .busy none Z ∧ (Instr.endRound (w.heap.size + 1) j).run Tryz.prog Z = .ok (.bool j.isNone) (Z.putObj (w.heap.size + 1) (.loop (L (if j.isNone then .ready else .done) j))) := fun j Z hk => by
      have hz := hl2.others hk
      have he := run_endRound (P := Tryz.prog) j hz.lp
      have e2 : ({ L .busy none with state := if j.isNone then .ready else .done, pending := j } : Loop) = L (if j.isNone then .ready else .done) j := by rw [hL, hL]
      rw [e2] at he
      exact ⟨hz, he⟩
    have hjump : ∀ (c : Code) (Z : World), KeepsOthers (X.putObj (w.heap.size + 1) (.loop (L .busy none))) Z → Ix c (pre ++ [x]) Z → ∃ c2, Ix c2 (pre ++ [x]) (Z.putObj (w.heap.size + 1) (.loop (L .done (some c)))) ∧ LpAt L w.heap.size .done (some c2) (Z.putObj (w.heap.size + 1) (.loop (L .done (some c)))) := fun c Z hk hz => ⟨c, hput (hIx c) hz (hend (some c) Z hk).1 _ _, (hend (some c) Z hk).1.put _ _⟩
    intro e b Z hp
    cases e with
    | normal =>
      obtain ⟨hk, hkz, hiz⟩ := hp
      obtain ⟨hz, he⟩ := hend none Z hk
      exact ⟨_, _, he, Or.inl ⟨rfl, ⟨hput hI hiz hz .ready none, hz.put .ready none⟩, hKt (hKt (hkp hl .busy none) hkz) (hkp hz .ready none)⟩⟩
    | ret => exact ⟨_, _, (hend (some .ret) Z hp.1).2, Or.inr ⟨rfl, hjump .ret Z hp.1 hp.2⟩⟩
    | exit id => exact ⟨_, _, (hend (some (.exit id)) Z hp.1).2, Or.inr ⟨rfl, hjump (.exit id) Z hp.1 hp.2⟩⟩
    | goto t => exact ⟨_, _, (hend (some (.goto t)) Z hp.1).2, Or.inr ⟨rfl, hjump (.goto t) Z hp.1 hp.2⟩⟩
    | panic ch => exact hp.elim
    | outgrown => exact hp.elim
  · rintro e Y ⟨⟨v, rfl⟩, ⟨xs, hS, hi, hl⟩ | ⟨pre, hSp, c, hi, hl⟩⟩
    · have he := run_endLoop (P := Tryz.prog) hl.lp (by rw [hL]; simp)
      have e2 : ({ L .ready none with state := .exhausted } : Loop) = L .exhausted none := by rw [hL, hL]
      rw [e2, show (L .ready none).pending = none by rw [hL]] at he
      exact ⟨none, _, he, hdone _ xs _ (Nat.le_refl _) hS (hput hI hi hl .exhausted none) (hl.put .exhausted none).df⟩
    · have he := run_endLoop (P := Tryz.prog) hl.lp (by rw [hL]; simp)
      have e2 : ({ L .done (some c) with state := .exhausted } : Loop) = L .exhausted (some c) := by rw [hL, hL]
      rw [e2, show (L .done (some c)).pending = some c by rw [hL]] at he
      exact ⟨some c, _, he, hstop _ c pre _ (Nat.le_refl _) hSp (hput (hIx c) hi hl .exhausted (some c)) (hl.put .exhausted (some c)).df⟩
end Go.Proofs.YtopmeedmgjdcgaaGreatDoor
/- The store's All, and the function that it hands out: all keys, rising, each with a copy of its text (layer 15). -/
namespace Go.Proofs.YtopmeedmgjdcgaaGreatDoor
open Go.RowKit Go.Shelf
set_option maxRecDepth 100000
attribute [local go_sem] Oper.semAt_some
theorem roundIn_wide15 {m k : Nat} {P : Program} {l : Nat} {f : FuncId} {tmps : Array Value} {assign body : Code} {w : World} {R : Ending → World → Prop} (h : RoundIn Fence.wide m P l f tmps assign body w R) : RoundIn Fence.wide k P l f tmps assign body w R := ⟨h.1, fun c cs _ => h.2 c cs (room_wide _)⟩
section
variable {n : Nat} {P : Program} {ops : Array Oper} {Q : Exit → Act → World → Prop}
theorem wpOpIn_val {i : Nat} {o : Oper} {v : Value} {a : Act} {w w' : World} {K : Act → World → Prop} (hi : ops[i]? = some o) (hw : Region.wanted o (yielded ops a.tmps) = true) (he : (execOp a.eval o).run P w = .ok (.value v) w') (h : K (a.put o.dst v) w') : wpOpIn Fence.wide n P ops Q i K a w := by
  unfold wpOpIn
  simp only [hi, hw, if_true]
  refine ⟨fun _ _ => trivial, ?_⟩
  show Oper.uponIn _ _ _ _ _ _ _ ((execOp a.eval o).run P w)
  rw [he]
  exact h
theorem wpOpIn_enter {i : Nat} {o : Oper} {f : Nat} {args : Array Value} {a : Act} {w : World} {K : Act → World → Prop} {R : Ending → World → Prop} (hi : ops[i]? = some o) (hw : Region.wanted o (yielded ops a.tmps) = true) (he : (execOp a.eval o).run P w = .ok (.enter f args) w) (hR : Calls P f args w R) (h : ∀ e w', R e w' → ∃ v, e = .returned v ∧ K (a.put o.dst v) w') : wpOpIn Fence.wide n P ops Q i K a w := by
  unfold wpOpIn
  simp only [hi, hw, if_true]
  refine ⟨fun _ _ => trivial, ?_⟩
  show Oper.uponIn _ _ _ _ _ _ _ ((execOp a.eval o).run P w)
  rw [he]
  refine ⟨fun h => (nomatch h), callsIn_wide.2 (hR.mono fun e w' hr => ?_)⟩
  obtain ⟨v, rfl, hk⟩ := h e w' hr
  exact hk
theorem wpOpIn_round {i : Nat} {o : Oper} {l : Nat} {fn : FuncId} {tmps : Array Value} {assign body : Code} {a : Act} {w : World} {K : Act → World → Prop} {R : Ending → World → Prop} {m : Nat} (hi : ops[i]? = some o) (hw : Region.wanted o (yielded ops a.tmps) = true) (he : (execOp a.eval o).run P w = .ok (.round l fn tmps assign body) w) (hR : RoundIn Fence.wide m P l fn tmps assign body w R) (h : ∀ e w', R e w' → ∃ v, e = .returned v ∧ K (a.put o.dst v) w') : wpOpIn Fence.wide n P ops Q i K a w := by
  unfold wpOpIn
  simp only [hi, hw, if_true]
  refine ⟨fun _ _ => trivial, ?_⟩
  show Oper.uponIn _ _ _ _ _ _ _ ((execOp a.eval o).run P w)
  rw [he, Oper.uponIn_round]
  refine ⟨fun h => (by cases h), (roundIn_wide15 hR).mono fun e w' hr => ?_⟩
  obtain ⟨v, rfl, hk⟩ := h e w' hr
  exact hk
theorem wpAnyIn_pairs {md : Region.Mode} {fuel : Nat} {listed : Array Bool} {a : Act} {w : World} (i j : Nat) (hr : Region.ready md ops listed = [i, j]) (h1 : wpOpIn Fence.wide n P ops Q i (wpAnyIn Fence.wide n P md ops Q fuel (listed.setIfInBounds i true)) a w) (h2 : wpOpIn Fence.wide n P ops Q j (wpAnyIn Fence.wide n P md ops Q fuel (listed.setIfInBounds j true)) a w) : wpAnyIn Fence.wide n P md ops Q (fuel + 1) listed a w := by
  refine wpAnyIn_all hr (by simp) fun k hk => ?_
  simp only [List.mem_cons, List.not_mem_nil, or_false] at hk
  rcases hk with rfl | rfl
  · exact h1
  · exact h2
theorem wpAnyIn_lone {md : Region.Mode} {fuel : Nat} {listed : Array Bool} {a : Act} {w : World} (i : Nat) (hr : Region.ready md ops listed = [i]) (h1 : wpOpIn Fence.wide n P ops Q i (wpAnyIn Fence.wide n P md ops Q fuel (listed.setIfInBounds i true)) a w) : wpAnyIn Fence.wide n P md ops Q (fuel + 1) listed a w := by
  refine wpAnyIn_all hr (by simp) fun k hk => ?_
  simp only [List.mem_singleton] at hk
  rw [hk]; exact h1
end
set_option maxRecDepth 100000 in
set_option maxHeartbeats 2000000 in
theorem sAll_any {w : World} {gs gm n : Nat} {lv : Value} {V : Bs → Value} {m : KM} (hsb : Blk w gs [lv, .map (some gm)] 99) (hm : MapM w gm n V m) (hml : m.length < 1000000) :
    Calls Tryz.prog 34 #[.pointer (some ⟨gs, 0, none⟩)] w fun e w' => ∃ gl v, e = .returned (.func (.func 66) #[] #[.pointer (some ⟨gl, 0, none⟩)]) ∧ Blk w' gl [v] 22 ∧ w'.ownsRow w.heap.size 62 3 v m.length (rowP (setP V m)) ∧ Below w.heap.size w w' ∧ w.heap.size ≤ gl := by
  have c1 : w.cell? ⟨gs, 1, none⟩ = some (.map (some gm)) := hsb.cell 1
  have HSE : Hid (Calls Tryz.prog 65 #[.map (some gm)] w fun e w' => ∃ v, e = .returned v ∧ w'.ownsRow w.heap.size 62 3 v m.length (rowP (setP V m)) ∧ Below w.heap.size w w') := sSetting_any hm hml
  clear hsb hm hml
  go_enter Tryz.func34, Tryz.ntmps34
  go_wp2_with (first
    | (go_at_call 65; refine (HSE.out).mono ?_; rintro e0 y0 ⟨v0, rfl, ow0, bl0⟩
       obtain ⟨a0, n0, k0, hv0⟩ : ∃ a n c, v0 = .slice a n c := by
         obtain ⟨_, ⟨h, _⟩ | ⟨g, cap, cur, h, _⟩⟩ := ow0
         · exact ⟨_, _, _, h⟩
         · exact ⟨_, _, _, h⟩
       subst hv0
       have HO : Hid (y0.ownsRow w.heap.size 62 3 (.slice a0 n0 k0) m.length (rowP (setP V m)) ∧ Below w.heap.size w y0) := ⟨ow0, bl0⟩
       clear ow0 bl0))
  go_ret
  have hbl := below_alloc y0 (.cells #[.slice a0 n0 k0] 22)
  refine ⟨y0.heap.size, .slice a0 n0 k0, rfl, Blk.new y0 [.slice a0 n0 k0] 22, ?_, HO.out.2.trans (hbl.mono HO.out.2.size), HO.out.2.size⟩
  exact HO.out.1.kept (row := none) ⟨hbl.os, hbl.tape, hbl.output, hbl.size, fun k hk _ => hbl.block k hk⟩ (by cases (Value.slice a0 n0 k0).ownBlock <;> simp)
/-- a key, its text, and the slice that this is handed out as -/
abbrev KvT := (Bs × Bs) × (Option Addr × Nat × Nat)
abbrev encsK (x : KvT) : Array Value := #[.string (strB x.1.1), mkS x.2]
theorem ownB_low {w : World} {base B : Nat} {v : Value} {l : Bs} (h : OwnB w base v l) (hB : B ≤ base) : OwnB w B v l := by
  obtain ⟨h1, ⟨h2, h3⟩ | ⟨g, cap, cur, h2, h3, h4⟩⟩ := h
  · exact ⟨h1, Or.inl ⟨h2, h3⟩⟩
  · exact ⟨h1, Or.inr ⟨g, cap, cur, h2, Nat.le_trans hB h3, h4⟩⟩
def SK (m : KM) : List KvT → Prop := fun xs => xs.map (·.1) = m
def SpK (m : KM) : List KvT → Prop := fun xs => ∃ k, k ≤ m.length ∧ xs.map (·.1) = m.take k
set_option maxRecDepth 100000 in
set_option maxHeartbeats 8000000 in
theorem all_stops (n : Nat) {n₀ : Nat} {R : Nat → Prop} {gl : Nat} {v : Value} {V : Bs → Value} {m : KM} (w : World) (hn : n₀ ≤ w.heap.size) (hB : Blk w gl [v] 22) (hgl : gl < n₀ ∧ ¬ R gl) (hst : ∀ W, KpJ n₀ R w W → RdP W v (setP V m) ∧ ∀ p ∈ setP V m, Reads W p.2 p.1.data) (hsl : ∀ p ∈ setP V m, isSl p.2 = true ∧ p.1.data.length ≤ 1048576) (hml : m.length < 1000000) :
    SeqG n 66 #[.pointer (some ⟨gl, 0, none⟩)] encsK (fun x X => OwnB X n₀ (mkS x.2) x.1.2) (KpJ n₀ R) (SK m) (SpK m) w := fun lab J Jx W hW hJ hJx hY h0 => by
  obtain ⟨N, HN⟩ : ∃ x, Hid (x = m.length) := ⟨_, rfl⟩
  obtain ⟨ad, cp, hv⟩ := (hst w (KpJ.refl _ _ _)).1.form
  rw [setP_len, ← HN.out] at hv
  subst hv
  have HST : Hid (∀ W, KpJ n₀ R w W → RdP W (.slice ad N cp) (setP V m) ∧ ∀ p ∈ setP V m, Reads W p.2 p.1.data) := hst
  have HSL : Hid (∀ p ∈ setP V m, isSl p.2 = true ∧ p.1.data.length ≤ 1048576) := hsl
  have HKW : Hid (KpJ n₀ R w W) := KpJ.below hW hn
  have HNW : Hid (n₀ ≤ w.heap.size) := hn
  have HBS : Hid (∀ W, KpJ n₀ R w W → Blk W gl [.slice ad N cp] 22) := fun W h => h.blk hB hgl.1 hgl.2
  have HML : Hid (N < 1000000) := by rw [HN.out]; exact hml
  have HY : Aside (∀ pre x X, J pre X → SpK m (pre ++ [x]) → OwnB X n₀ (mkS x.2) x.1.2 → YieldAt Fence.wide (n - 1) Tryz.prog lab (encsK x) X fun e Y => (e = .returned (.bool true) ∧ J (pre ++ [x]) Y ∧ KpJ n₀ R X Y) ∨ (e = .returned (.bool false) ∧ Jx (pre ++ [x]) Y)) := hY
  have HJB : Hid (∀ s X Y, J s X → Below X.heap.size X Y → J s Y) := hJ
  have HJ0 : Hid (J [] W) := h0
  have c0 : W.cell? ⟨gl, 0, none⟩ = some (.slice ad N cp) := (HBS.out W HKW.out).cell 0
  clear hB hW hY h0 hJ hJx hst hsl hn hml
  refine callsIn_wide.2 ?_
  simp only [List.append_toArray, List.cons_append, List.nil_append]
  go_enter Tryz.func66, Tryz.ntmps66
  go_wp2
  clear c0
  go_loopw [7] (fun i wr => ∃ k : Nat, k ≤ N ∧ i = .int .i64 (k : Int) ∧ Hid (∃ pre, pre.map (·.1) = m.take k ∧ J pre wr) ∧ Hid (KpJ n₀ R w wr)) (fun i _ => N - (intOf i).toNat)
  case atStart => exact ⟨0, Nat.zero_le _, rfl, ⟨[], rfl, HJ0.out⟩, HKW⟩
  case round =>
    clear HJ0 HKW
    obtain ⟨k, hkn, rfl, HJK, HKP⟩ := hrel
    by_cases hlt : k < N
    case neg =>
      obtain rfl : k = N := by omega
      have hlk : ¬ ((k : Int) < (k : Int)) := by omega
      go_wp2
      go_end0
      obtain ⟨pre, hpre, hj⟩ := HJK.out
      refine ⟨⟨_, rfl⟩, Or.inl ⟨pre, ?_, hj⟩⟩
      show pre.map (·.1) = m
      rw [hpre, List.take_of_length_le (by rw [← HN.out]; exact Nat.le_refl _)]
    case pos =>
      obtain ⟨q, hq⟩ : ∃ q, m[k]? = some q := ⟨_, List.getElem?_eq_getElem (by rw [← HN.out]; exact hlt)⟩
      obtain ⟨ky, da⟩ := q
      have hp : (setP V m)[k]? = some (⟨ky, true, da⟩, V ky) := by rw [setP, List.getElem?_map, hq]; rfl
      obtain ⟨hk2, hk4⟩ := HSL.out _ (List.mem_of_getElem? hp)
      obtain ⟨hrd, hdt⟩ := HST.out wr HKP.out
      have hda := hdt _ (List.mem_of_getElem? hp)
      obtain ⟨b, off, e1, hrw⟩ := hrd.at hp
      subst e1
      simp only at hk2 hk4 hda hrw
      obtain ⟨av, nv, cv, hvd⟩ := isSl_form hk2
      rw [hvd] at hda hrw
      obtain ⟨sk, HSK⟩ : ∃ x, Hid (x = strB ky) := ⟨_, rfl⟩
      have HRW : Hid (wr.rangeAt b (off + k * 3) [.string sk, .bool true, .slice av nv cv]) := by
        show wr.rangeAt _ _ _
        rw [HSK.out]
        exact hrw
      have HDA : Hid (Reads wr (.slice av nv cv) da ∧ da.length ≤ 1048576) := ⟨hda, hk4⟩
      have HTK : Hid (m.take (k + 1) = m.take k ++ [(ky, da)]) := by show _ = _; rw [List.take_add_one, hq]; rfl
      have HBW : Hid (Below wr.heap.size wr wr) := Below.refl _ _
      have k0 : (0 : Int) ≤ (k : Int) := by omega
      have k3 : (k : Int) < (N : Int) := by omega
      have f5 : IntKind.i64.wrap ((k : Int) + 1) = (k : Int) + 1 := by have := HML.out; rw [IntKind.wrap_i64]; omega
      clear hp hk2 hk4 hrd hdt hda hrw hvd hq
      have tk0 : Hid True := trivial
      have tk1 : Hid True := trivial
      have tk2 : Hid True := trivial
      have tk3 : Hid True := trivial
      go_upto_region 3 with (first
          | (clear tk3; with_reducible refine wpSeq_idxA (.tmp 5) (.tmp 7) b off N cp k hlt ?_ ?_ ?_ ?_ ?_
             · rfl
             · rfl
             · rfl
             · rfl)
          | (clear tk0; with_reducible refine wpSeq_loadW 62 (.tmp 9) b (off + k * 3) [.string sk, .bool true, .slice av nv cv] _ HRW.out Tryz.underlying62 rfl (info_act15 _ _ _) ?_ ?_ ?_ ?_
             · rfl
             · rfl
             · rfl)
          | (clear tk1; with_reducible refine wpSeq_allocA ?_ ?_ ?_
             · rfl
             · rfl
             intro g5 y1 nn
             have H5 : Hid (Blk y1 g5 zA 62) := nn.blk
             have HG5 : Hid (wr.heap.size ≤ g5) := nn.ge
             have HB1 : Hid (Below wr.heap.size wr y1) := nn.below
             clear nn)
          | (clear tk2; with_reducible refine wpSeq_storeRow 62 (.tmp 4) (.tmp 10) g5 zA [.string sk, .bool true, .slice av nv cv] H5.out rfl (info_act15 _ _ _) (one_act _ _ _ _ _) ?_ ?_ ?_ ?_ ?_
             · rfl
             · rfl
             · rfl
             · rfl
             intro y2 sr
             have HB2 : Hid (Below wr.heap.size wr y2.drew) := (HB1.out.trans (sr.only.below HG5.out HB1.out.size)).drew
             have H52 : Hid (Blk y2.drew g5 [.string sk, .bool true, .slice av nv cv] 62) := sr.blk.drew
             clear sr))
      have HCL : Hid (Calls Tryz.prog 64 #[.slice av nv cv] y2.drew fun e w' => ∃ v', e = .returned v' ∧ OwnB w' y2.drew.heap.size v' da ∧ Below y2.drew.heap.size y2.drew w') := bclone_any _ da _ (HDA.out.1.below HB2.out) (Nat.le_trans HDA.out.2 (by decide))
      have HYD : Hid (∀ y3 ab nb cb, OwnB y3 y2.drew.heap.size (.slice ab nb cb) da → Below y2.drew.heap.size y2.drew y3 → ∃ pre, (pre ++ [((ky, da), (ab, nb, cb))]).map (·.1) = m.take (k + 1) ∧ YieldAt Fence.wide (n - 1) Tryz.prog lab #[.string sk, .slice ab nb cb] y3 fun e Y => (e = .returned (.bool true) ∧ J (pre ++ [((ky, da), (ab, nb, cb))]) Y ∧ KpJ n₀ R w Y) ∨ (e = .returned (.bool false) ∧ Jx (pre ++ [((ky, da), (ab, nb, cb))]) Y)) := fun y3 ab nb cb ho hb => by
        obtain ⟨pre, hpre, hj⟩ := HJK.out
        have hwy : Below wr.heap.size wr y3 := HB2.out.trans (hb.mono HB2.out.size)
        have hnw : n₀ ≤ wr.heap.size := Nat.le_trans HNW.out HKP.out.size
        have hk3 : KpJ n₀ R w y3 := HKP.out.trans (KpJ.below hwy hnw)
        have hmp : (pre ++ [((ky, da), (ab, nb, cb))]).map (·.1) = m.take (k + 1) := by rw [List.map_append, hpre, HTK.out]; rfl
        have hy := HY.out pre ((ky, da), (ab, nb, cb)) y3 (HJB.out _ _ _ hj hwy) ⟨k + 1, by rw [← HN.out]; exact hlt, hmp⟩ (ownB_low ho (Nat.le_trans hnw HB2.out.size))
        refine ⟨pre, hmp, ?_⟩
        obtain ⟨fn, tmps, assign, body, hyr, hR⟩ := hy
        dsimp only [encsK] at hyr
        rw [← HSK.out] at hyr
        exact ⟨fn, tmps, assign, body, hyr, hR.mono fun e Y h => h.imp (fun h => ⟨h.1, h.2.1, hk3.trans h.2.2⟩) id⟩
      have cK : ∀ wx, Blk wx g5 [.string sk, .bool true, .slice av nv cv] 62 → wx.cell? ⟨g5, 0, none⟩ = some (.string sk) := fun wx h => h.cell 0
      have cD : ∀ wx, Blk wx g5 [.string sk, .bool true, .slice av nv cv] 62 → wx.cell? ⟨g5, 2, none⟩ = some (.slice av nv cv) := fun wx h => h.cell 2
      have HCK : Hid (∀ wx, Blk wx g5 [.string sk, .bool true, .slice av nv cv] 62 → wx.cell? ⟨g5, 0, none⟩ = some (.string sk)) := cK
      have HCD : Hid (∀ wx, Blk wx g5 [.string sk, .bool true, .slice av nv cv] 62 → wx.cell? ⟨g5, 2, none⟩ = some (.slice av nv cv)) := cD
      have HNN : Hid (n = n) := rfl
      clear cK cD HJK HDA HRW HB1 H5 HBW
      refine (wpIn_wide (n := n)).1 ?_
      refine wpIn_region_any (by kernel_rfl) ?_
      change wpAnyIn _ _ _ _ _ _ _ _ _ (World.drew y2)
      refine wpAnyIn_take (i := 0) (v := .func (.yield lab) #[] #[]) rfl rfl (by kernel_rfl) (by kernel_rfl) (by kernel_rfl) (fun _ _ _ h => h) ⟨Or.inl ⟨by rfl, fun wx => by simp [go_sem]⟩, fun _ => rfl⟩ ?_
      simp only [Act.put, List.getElem_toArray, List.getElem_cons_zero, List.setIfInBounds_toArray, List.set_cons_zero, List.set_cons_succ]
      refine wpAnyIn_take (i := 1) (v := .pointer (some ⟨g5, 0, none⟩)) rfl rfl (by kernel_rfl) (by kernel_rfl) (by kernel_rfl) (fun _ _ _ h => h) ⟨Or.inl ⟨by rfl, fun wx => by simp [go_sem]⟩, fun _ => rfl⟩ ?_
      simp only [Act.put, List.getElem_toArray, List.getElem_cons_succ, List.getElem_cons_zero, List.setIfInBounds_toArray, List.set_cons_zero, List.set_cons_succ]
      refine wpAnyIn_take (i := 3) (v := .pointer (some ⟨g5, 2, none⟩)) rfl rfl (by kernel_rfl) (by kernel_rfl) (by kernel_rfl) (fun _ _ _ h => h) ⟨Or.inl ⟨by rfl, fun wx => by simp [go_sem]⟩, fun _ => rfl⟩ ?_
      simp only [Act.put, List.getElem_toArray, List.getElem_cons_succ, List.getElem_cons_zero, List.setIfInBounds_toArray, List.set_cons_zero, List.set_cons_succ]
      refine wpAnyIn_pairs 2 4 (by kernel_rfl) ?_ ?_
      · skip
        have cx := HCK.out _ H52.out
        refine wpOpIn_val (v := .string sk) (w' := y2.drew) rfl (by rfl) (by simp [go_sem, cx]) ?_
        clear cx
        simp only [Act.put, List.getElem_toArray, List.getElem_cons_succ, List.getElem_cons_zero, List.setIfInBounds_toArray, List.set_cons_zero, List.set_cons_succ]
        refine wpAnyIn_lone 4 (by kernel_rfl) ?_
        have cx := HCD.out _ H52.out
        refine wpOpIn_val (v := .slice av nv cv) (w' := y2.drew) rfl (by rfl) (by simp [go_sem, cx]) ?_
        clear cx
        simp only [Act.put, List.getElem_toArray, List.getElem_cons_succ, List.getElem_cons_zero, List.setIfInBounds_toArray, List.set_cons_zero, List.set_cons_succ]
        refine wpAnyIn_lone 5 (by kernel_rfl) ?_
        refine wpOpIn_enter (f := 64) (args := #[.slice av nv cv]) rfl (by rfl) (by simp [go_sem]) HCL.out ?_
        rintro e3 y3 ⟨v3, rfl, ow3, bl3⟩
        obtain ⟨ab, nb, cb, hv3⟩ := isSl_form ow3.isSl
        subst hv3
        have H53 : Hid (Blk y3 g5 [.string sk, .bool true, .slice av nv cv] 62) := H52.out.below bl3 H52.out.lt
        have HOW : Hid (OwnB y3 y2.drew.heap.size (.slice ab nb cb) da ∧ Below y2.drew.heap.size y2.drew y3) := ⟨ow3, bl3⟩
        clear ow3 bl3
        refine ⟨_, rfl, ?_⟩
        simp only [Act.put, List.getElem_toArray, List.getElem_cons_succ, List.getElem_cons_zero, List.setIfInBounds_toArray, List.set_cons_zero, List.set_cons_succ]
        refine wpAnyIn_lone 6 (by kernel_rfl) ?_
        obtain ⟨pre, hmp, fn, tmps, assign, body, hyr, hR⟩ := HYD.out y3 ab nb cb HOW.out.1 HOW.out.2
        refine wpOpIn_round rfl (by rfl) (by simp [go_sem, hyr]) hR ?_
        rintro e4 y4 (⟨rfl, hj, hkp⟩ | ⟨rfl, hj⟩)
        · refine ⟨_, rfl, ?_⟩
          simp only [Act.put, List.getElem_toArray, List.getElem_cons_succ, List.getElem_cons_zero, List.setIfInBounds_toArray, List.set_cons_zero, List.set_cons_succ]
          refine wpAnyIn_lone 7 (by kernel_rfl) ?_
          refine wpOpIn_val (v := .bool false) (w' := y4) rfl (by rfl) (by simp [go_sem]) ?_
          simp only [Act.put, List.getElem_toArray, List.getElem_cons_succ, List.getElem_cons_zero, List.setIfInBounds_toArray, List.set_cons_zero, List.set_cons_succ]
          refine wpAnyIn_done (by kernel_rfl) ?_ _
          have HJ4 : Hid (∃ pre, pre.map (·.1) = m.take (k + 1) ∧ J pre y4) := ⟨_, hmp, hj⟩
          have HK4 : Hid (KpJ n₀ R w y4) := hkp
          clear hj hkp hyr hR hmp
          gi_wp2
          go_wp2
          go_roundw
          case rel => exact ⟨k + 1, hlt, rfl, HJ4, HK4⟩
          case measure => simp [intOf]; omega
        · refine ⟨_, rfl, ?_⟩
          simp only [Act.put, List.getElem_toArray, List.getElem_cons_succ, List.getElem_cons_zero, List.setIfInBounds_toArray, List.set_cons_zero, List.set_cons_succ]
          refine wpAnyIn_lone 7 (by kernel_rfl) ?_
          refine wpOpIn_val (v := .bool true) (w' := y4) rfl (by rfl) (by simp [go_sem]) ?_
          simp only [Act.put, List.getElem_toArray, List.getElem_cons_succ, List.getElem_cons_zero, List.setIfInBounds_toArray, List.set_cons_zero, List.set_cons_succ]
          refine wpAnyIn_done (by kernel_rfl) ?_ _
          have HJ4 : Hid (∃ pre, SpK m pre ∧ Jx pre y4) := ⟨_, ⟨k + 1, by rw [← HN.out]; exact hlt, hmp⟩, hj⟩
          clear hj hyr hR hmp
          gi_wp2
          go_wp2
          refine bodyPost_ret (results_none rfl _ _ _) rfl ?_
          exact ⟨⟨_, rfl⟩, Or.inr HJ4.out⟩
      · skip
        have cx := HCD.out _ H52.out
        refine wpOpIn_val (v := .slice av nv cv) (w' := y2.drew) rfl (by rfl) (by simp [go_sem, cx]) ?_
        clear cx
        simp only [Act.put, List.getElem_toArray, List.getElem_cons_succ, List.getElem_cons_zero, List.setIfInBounds_toArray, List.set_cons_zero, List.set_cons_succ]
        refine wpAnyIn_pairs 2 5 (by kernel_rfl) ?_ ?_
        · skip
          have cx := HCK.out _ H52.out
          refine wpOpIn_val (v := .string sk) (w' := y2.drew) rfl (by rfl) (by simp [go_sem, cx]) ?_
          clear cx
          simp only [Act.put, List.getElem_toArray, List.getElem_cons_succ, List.getElem_cons_zero, List.setIfInBounds_toArray, List.set_cons_zero, List.set_cons_succ]
          refine wpAnyIn_lone 5 (by kernel_rfl) ?_
          refine wpOpIn_enter (f := 64) (args := #[.slice av nv cv]) rfl (by rfl) (by simp [go_sem]) HCL.out ?_
          rintro e3 y3 ⟨v3, rfl, ow3, bl3⟩
          obtain ⟨ab, nb, cb, hv3⟩ := isSl_form ow3.isSl
          subst hv3
          have H53 : Hid (Blk y3 g5 [.string sk, .bool true, .slice av nv cv] 62) := H52.out.below bl3 H52.out.lt
          have HOW : Hid (OwnB y3 y2.drew.heap.size (.slice ab nb cb) da ∧ Below y2.drew.heap.size y2.drew y3) := ⟨ow3, bl3⟩
          clear ow3 bl3
          refine ⟨_, rfl, ?_⟩
          simp only [Act.put, List.getElem_toArray, List.getElem_cons_succ, List.getElem_cons_zero, List.setIfInBounds_toArray, List.set_cons_zero, List.set_cons_succ]
          refine wpAnyIn_lone 6 (by kernel_rfl) ?_
          obtain ⟨pre, hmp, fn, tmps, assign, body, hyr, hR⟩ := HYD.out y3 ab nb cb HOW.out.1 HOW.out.2
          refine wpOpIn_round rfl (by rfl) (by simp [go_sem, hyr]) hR ?_
          rintro e4 y4 (⟨rfl, hj, hkp⟩ | ⟨rfl, hj⟩)
          · refine ⟨_, rfl, ?_⟩
            simp only [Act.put, List.getElem_toArray, List.getElem_cons_succ, List.getElem_cons_zero, List.setIfInBounds_toArray, List.set_cons_zero, List.set_cons_succ]
            refine wpAnyIn_lone 7 (by kernel_rfl) ?_
            refine wpOpIn_val (v := .bool false) (w' := y4) rfl (by rfl) (by simp [go_sem]) ?_
            simp only [Act.put, List.getElem_toArray, List.getElem_cons_succ, List.getElem_cons_zero, List.setIfInBounds_toArray, List.set_cons_zero, List.set_cons_succ]
            refine wpAnyIn_done (by kernel_rfl) ?_ _
            have HJ4 : Hid (∃ pre, pre.map (·.1) = m.take (k + 1) ∧ J pre y4) := ⟨_, hmp, hj⟩
            have HK4 : Hid (KpJ n₀ R w y4) := hkp
            clear hj hkp hyr hR hmp
            gi_wp2
            go_wp2
            go_roundw
            case rel => exact ⟨k + 1, hlt, rfl, HJ4, HK4⟩
            case measure => simp [intOf]; omega
          · refine ⟨_, rfl, ?_⟩
            simp only [Act.put, List.getElem_toArray, List.getElem_cons_succ, List.getElem_cons_zero, List.setIfInBounds_toArray, List.set_cons_zero, List.set_cons_succ]
            refine wpAnyIn_lone 7 (by kernel_rfl) ?_
            refine wpOpIn_val (v := .bool true) (w' := y4) rfl (by rfl) (by simp [go_sem]) ?_
            simp only [Act.put, List.getElem_toArray, List.getElem_cons_succ, List.getElem_cons_zero, List.setIfInBounds_toArray, List.set_cons_zero, List.set_cons_succ]
            refine wpAnyIn_done (by kernel_rfl) ?_ _
            have HJ4 : Hid (∃ pre, SpK m pre ∧ Jx pre y4) := ⟨_, ⟨k + 1, by rw [← HN.out]; exact hlt, hmp⟩, hj⟩
            clear hj hyr hR hmp
            gi_wp2
            go_wp2
            refine bodyPost_ret (results_none rfl _ _ _) rfl ?_
            exact ⟨⟨_, rfl⟩, Or.inr HJ4.out⟩
        · skip
          refine wpOpIn_enter (f := 64) (args := #[.slice av nv cv]) rfl (by rfl) (by simp [go_sem]) HCL.out ?_
          rintro e3 y3 ⟨v3, rfl, ow3, bl3⟩
          obtain ⟨ab, nb, cb, hv3⟩ := isSl_form ow3.isSl
          subst hv3
          have H53 : Hid (Blk y3 g5 [.string sk, .bool true, .slice av nv cv] 62) := H52.out.below bl3 H52.out.lt
          have HOW : Hid (OwnB y3 y2.drew.heap.size (.slice ab nb cb) da ∧ Below y2.drew.heap.size y2.drew y3) := ⟨ow3, bl3⟩
          clear ow3 bl3
          refine ⟨_, rfl, ?_⟩
          simp only [Act.put, List.getElem_toArray, List.getElem_cons_succ, List.getElem_cons_zero, List.setIfInBounds_toArray, List.set_cons_zero, List.set_cons_succ]
          refine wpAnyIn_lone 2 (by kernel_rfl) ?_
          have cx := HCK.out _ H53.out
          refine wpOpIn_val (v := .string sk) (w' := y3) rfl (by rfl) (by simp [go_sem, cx]) ?_
          clear cx
          simp only [Act.put, List.getElem_toArray, List.getElem_cons_succ, List.getElem_cons_zero, List.setIfInBounds_toArray, List.set_cons_zero, List.set_cons_succ]
          refine wpAnyIn_lone 6 (by kernel_rfl) ?_
          obtain ⟨pre, hmp, fn, tmps, assign, body, hyr, hR⟩ := HYD.out y3 ab nb cb HOW.out.1 HOW.out.2
          refine wpOpIn_round rfl (by rfl) (by simp [go_sem, hyr]) hR ?_
          rintro e4 y4 (⟨rfl, hj, hkp⟩ | ⟨rfl, hj⟩)
          · refine ⟨_, rfl, ?_⟩
            simp only [Act.put, List.getElem_toArray, List.getElem_cons_succ, List.getElem_cons_zero, List.setIfInBounds_toArray, List.set_cons_zero, List.set_cons_succ]
            refine wpAnyIn_lone 7 (by kernel_rfl) ?_
            refine wpOpIn_val (v := .bool false) (w' := y4) rfl (by rfl) (by simp [go_sem]) ?_
            simp only [Act.put, List.getElem_toArray, List.getElem_cons_succ, List.getElem_cons_zero, List.setIfInBounds_toArray, List.set_cons_zero, List.set_cons_succ]
            refine wpAnyIn_done (by kernel_rfl) ?_ _
            have HJ4 : Hid (∃ pre, pre.map (·.1) = m.take (k + 1) ∧ J pre y4) := ⟨_, hmp, hj⟩
            have HK4 : Hid (KpJ n₀ R w y4) := hkp
            clear hj hkp hyr hR hmp
            gi_wp2
            go_wp2
            go_roundw
            case rel => exact ⟨k + 1, hlt, rfl, HJ4, HK4⟩
            case measure => simp [intOf]; omega
          · refine ⟨_, rfl, ?_⟩
            simp only [Act.put, List.getElem_toArray, List.getElem_cons_succ, List.getElem_cons_zero, List.setIfInBounds_toArray, List.set_cons_zero, List.set_cons_succ]
            refine wpAnyIn_lone 7 (by kernel_rfl) ?_
            refine wpOpIn_val (v := .bool true) (w' := y4) rfl (by rfl) (by simp [go_sem]) ?_
            simp only [Act.put, List.getElem_toArray, List.getElem_cons_succ, List.getElem_cons_zero, List.setIfInBounds_toArray, List.set_cons_zero, List.set_cons_succ]
            refine wpAnyIn_done (by kernel_rfl) ?_ _
            have HJ4 : Hid (∃ pre, SpK m pre ∧ Jx pre y4) := ⟨_, ⟨k + 1, by rw [← HN.out]; exact hlt, hmp⟩, hj⟩
            clear hj hyr hR hmp
            gi_wp2
            go_wp2
            refine bodyPost_ret (results_none rfl _ _ _) rfl ?_
            exact ⟨⟨_, rfl⟩, Or.inr HJ4.out⟩
end Go.Proofs.YtopmeedmgjdcgaaGreatDoor
/- Rows of strings and of texts that grow (layer 15). -/
namespace Go.Proofs.YtopmeedmgjdcgaaGreatDoor
open Go.RowKit
set_option maxRecDepth 100000
/-- the slice v reads as the cells cs, in a block of type t -/
def RdV (t : TypeId) (w : World) (v : Value) (cs : List Value) : Prop := ∃ ad cap, v = .slice ad cs.length cap ∧ cs.length ≤ cap ∧ (0 < cs.length → ∃ b off ar, ad = some ⟨b, off, none⟩ ∧ w.heap[b]? = some (.cells ar t (0, 0)) ∧ ∀ (j : Nat) u, cs[j]? = some u → ar[off + j]? = some u)
def OwnR (t : TypeId) (w : World) (base : Nat) (v : Value) (cs : List Value) : Prop := w.ownsRow base t 1 v cs.length cs
theorem heap_lt {w : World} {b : Nat} {o : Obj} (h : w.heap[b]? = some o) : b < w.heap.size := (Array.getElem?_eq_some_iff.1 h).1
theorem RdV.same {t : TypeId} {w w' : World} {v : Value} {cs : List Value} (h : RdV t w v cs) (hs : ∀ (b : Nat) (ar : Array Value), w.heap[b]? = some (Obj.cells ar t (0, 0)) → w'.heap[b]? = w.heap[b]?) : RdV t w' v cs := by
  obtain ⟨ad, cap, h1, h2, h3⟩ := h
  refine ⟨ad, cap, h1, h2, fun hp => ?_⟩
  obtain ⟨b, off, ar, h4, h5, h6⟩ := h3 hp
  exact ⟨b, off, ar, h4, by rw [hs b ar h5]; exact h5, h6⟩
theorem RdV.below {t : TypeId} {w w' : World} {v : Value} {cs : List Value} (h : RdV t w v cs) (hb : Below w.heap.size w w') : RdV t w' v cs := h.same (fun b _ hh => hb.block b (heap_lt hh))
theorem RdV.drew {t : TypeId} {w : World} {v : Value} {cs : List Value} (h : RdV t w v cs) : RdV t w.drew v cs := h.same (fun _ _ _ => rfl)
theorem RdV.nil (t : TypeId) (w : World) : RdV t w (.slice none 0 0) [] := ⟨none, 0, rfl, Nat.le_refl _, fun h => by simp at h⟩
theorem RdV.form {t : TypeId} {w : World} {v : Value} {cs : List Value} (h : RdV t w v cs) : ∃ ad c, v = .slice ad cs.length c := by
  obtain ⟨ad, cap, h1, _⟩ := h
  exact ⟨ad, cap, h1⟩
theorem RdV.at {t : TypeId} {w : World} {ad : Option Addr} {n c : Nat} {cs : List Value} (h : RdV t w (.slice ad n c) cs) {j : Nat} {u : Value} (hj : cs[j]? = some u) : ∃ b off, ad = some ⟨b, off, none⟩ ∧ w.cell? ⟨b, off + j, none⟩ = some u := by
  obtain ⟨ad', cap, h1, h2, h3⟩ := h
  simp only [Value.slice.injEq] at h1
  obtain ⟨rfl, _, _⟩ := h1
  have hl := (List.getElem?_eq_some_iff.1 hj).1
  obtain ⟨b, off, ar, h4, h5, h6⟩ := h3 (by omega)
  refine ⟨b, off, h4, ?_⟩
  rw [cell_of_row w b (off + j) ar t (0, 0) h5]
  exact h6 j u hj
theorem OwnR.nil (t : TypeId) (w : World) (base : Nat) : OwnR t w base (.slice none 0 0) [] := World.ownsRow_nil _ _ _ _
theorem OwnR.rd {t : TypeId} {w : World} {base : Nat} {v : Value} {cs : List Value} (h : OwnR t w base v cs) : RdV t w v cs := by
  obtain ⟨h1, ⟨rfl, h2⟩ | ⟨g, cap, cur, rfl, hg, hh, hc, hm, hs, ht⟩⟩ := h
  · have : cs = [] := List.eq_nil_of_length_eq_zero h2
    subst this
    exact RdV.nil _ _
  · refine ⟨_, cap, rfl, hc, fun _ => ⟨g, 0, cur, rfl, hh, fun j u hj => ?_⟩⟩
    have hl := (List.getElem?_eq_some_iff.1 hj).1
    rw [Nat.mul_one] at ht
    rw [← ht, List.getElem?_take_of_lt hl] at hj
    simpa using hj
theorem OwnR.form {t : TypeId} {w : World} {base : Nat} {v : Value} {cs : List Value} (h : OwnR t w base v cs) : ∃ ad c, v = .slice ad cs.length c := h.rd.form
theorem OwnR.lt {t : TypeId} {w : World} {base : Nat} {v : Value} {cs : List Value} (h : OwnR t w base v cs) : ∀ k, v.ownBlock = some k → base ≤ k ∧ k < w.heap.size := fun k hk => World.ownsRow.lt h k hk
theorem OwnR.same {t : TypeId} {w w' : World} {base : Nat} {v : Value} {cs : List Value} (h : OwnR t w base v cs) (hs : ∀ (k : Nat) (ar : Array Value), w.heap[k]? = some (Obj.cells ar t (0, 0)) → v.ownBlock = some k → w'.heap[k]? = w.heap[k]?) : OwnR t w' base v cs := by
  obtain ⟨h1, ⟨rfl, h2⟩ | ⟨g, cap, cur, rfl, hg, hh, r⟩⟩ := h
  · exact ⟨h1, Or.inl ⟨rfl, h2⟩⟩
  · exact ⟨h1, Or.inr ⟨g, cap, cur, rfl, hg, by rw [hs g cur hh rfl]; exact hh, r⟩⟩
theorem OwnR.below {t : TypeId} {w w' : World} {base : Nat} {v : Value} {cs : List Value} (h : OwnR t w base v cs) (hb : Below w.heap.size w w') : OwnR t w' base v cs := h.same (fun k _ hh _ => hb.block k (heap_lt hh))
theorem OwnR.mono {t : TypeId} {w : World} {base base' : Nat} {v : Value} {cs : List Value} (h : OwnR t w base v cs) (hb : base' ≤ base) : OwnR t w base' v cs := by
  obtain ⟨h1, h2 | ⟨g, cap, cur, hv, hg, r⟩⟩ := h
  · exact ⟨h1, Or.inl h2⟩
  · exact ⟨h1, Or.inr ⟨g, cap, cur, hv, Nat.le_trans hb hg, r⟩⟩
theorem Tryz.infoStr : (Tryz.prog.info? 9).map (fun i => (i.zero, i.size, i.bytes)) = some (some (.string ⟨#[]⟩), 1, 16) := by kernel_rfl
theorem app_row (ts te : TypeId) (ht : Tryz.prog.underlying ts = some (.slice te)) (z : Value) (by_ : Nat) (hinf : (Tryz.prog.info? te).map (fun i => (i.zero, i.size, i.bytes)) = some (some z, 1, by_)) (hz : z.cells.size = 1) (hby : by_ ≤ 48) {o : Oper} {a : Act} {w : World} {K : Act → World → Prop} {Q : Exit → Act → World → Prop} (s x : Operand) (base : Nat) (v u : Value) (cs : List Value) (g : Nat)
    (hown : OwnR te w base v cs) (hb : Blk w g [u] te) (h1 : u.oneCell' = true) (hlen : cs.length < 1000000) (hbase : base ≤ w.heap.size)
    (ho : o.op = .call { callee := .builtin .append, args := #[s, x], argTypes := #[ts, ts] }) (hs : a.eval s = v) (hx : a.eval x = .slice (some ⟨g, 0, none⟩) 1 1)
    (h : ∀ v' w', OwnR te w' base v' (cs ++ [u]) → w.grownBy w' v.ownBlock → Below base w w' → K (a.put o.dst v') w') : o.wp Tryz.prog a w K Q := by
  obtain ⟨i0, hi, hz0, hz1, hz2⟩ := info_parts hinf
  obtain ⟨v', w', hr, h2, h3, h4, h5⟩ := run_append_own_at (P := Tryz.prog) w base ts o.type te i0 z 1 by_ ht hi hz0 hz1 hz2 hz (by decide) v cs.length cs hown ⟨g, 0, none⟩ 1 1 [u] rfl (fun j q hj => by rw [Addr.add_mid, Nat.zero_add, hb.cell]; exact hj) (fun q hq => by rw [List.mem_singleton.1 hq]; exact h1) (by unfold maxLen; omega) (by have := Nat.mul_le_mul (show cs.length + 1 ≤ 1000000 by omega) hby; omega) hbase
  unfold Oper.wp execOp
  simp only [ho, resolve, invoke, builtin, Sem.run_bind, Sem.run_pure, Result.andThen_ok, List.map_toArray, List.map_cons, List.map_nil, hs, hx, hr]
  refine h v' w' ?_ h3 ((Below.refl _ _).grown h3 hbase (fun k hk => (hown.lt k hk).1))
  unfold OwnR
  rw [List.length_append]
  exact h2
/-- a string behind the own slice v -/
theorem wp_appK {o : Oper} {a : Act} {w : World} {K : Act → World → Prop} {Q : Exit → Act → World → Prop} (s x : Operand) (base : Nat) (v : Value) (u : ByteArray) (cs : List Value) (g : Nat)
    (hown : OwnR 9 w base v cs) (hb : Blk w g [.string u] 9) (hlen : cs.length < 1000000) (hbase : base ≤ w.heap.size)
    (ho : o.op = .call { callee := .builtin .append, args := #[s, x], argTypes := #[40, 40] }) (hs : a.eval s = v) (hx : a.eval x = .slice (some ⟨g, 0, none⟩) 1 1)
    (h : ∀ v' w', OwnR 9 w' base v' (cs ++ [.string u]) → w.grownBy w' v.ownBlock → Below base w w' → K (a.put o.dst v') w') : o.wp Tryz.prog a w K Q :=
  app_row 40 9 Tryz.underlying40 _ _ Tryz.infoStr rfl (by decide) s x base v _ cs g hown hb rfl hlen hbase ho hs hx h
theorem wpList_appK {ops : Array Oper} {rest : List Oper} {o : Oper} {a : Act} {w : World} {Q : Exit → Act → World → Prop} (s x : Operand) (base : Nat) (v : Value) (u : ByteArray) (cs : List Value) (g : Nat)
    (hown : OwnR 9 w base v cs) (hb : Blk w g [.string u] 9) (hlen : cs.length < 1000000) (hbase : base ≤ w.heap.size) (hgd : o.guard = none)
    (ho : o.op = .call { callee := .builtin .append, args := #[s, x], argTypes := #[40, 40] }) (hs : a.eval s = v) (hx : a.eval x = .slice (some ⟨g, 0, none⟩) 1 1)
    (h : ∀ v' w', OwnR 9 w' base v' (cs ++ [.string u]) → w.grownBy w' v.ownBlock → Below base w w' → wpList Tryz.prog ops Q rest (a.put o.dst v') w') : wpList Tryz.prog ops Q (o :: rest) a w :=
  wpList_plain hgd fun _ hK => wp_appK s x base v u cs g hown hb hlen hbase ho hs hx fun v' w' h2 h3 h4 => hK _ _ (h v' w' h2 h3 h4)
theorem wp_appT15 {o : Oper} {a : Act} {w : World} {K : Act → World → Prop} {Q : Exit → Act → World → Prop} (s x : Operand) (base : Nat) (v : Value) (u : Option Addr × Nat × Nat) (cs : List Value) (g : Nat)
    (hown : OwnR 23 w base v cs) (hb : Blk w g [mkS u] 23) (hlen : cs.length < 1000000) (hbase : base ≤ w.heap.size)
    (ho : o.op = .call { callee := .builtin .append, args := #[s, x], argTypes := #[41, 41] }) (hs : a.eval s = v) (hx : a.eval x = .slice (some ⟨g, 0, none⟩) 1 1)
    (h : ∀ v' w', OwnR 23 w' base v' (cs ++ [mkS u]) → w.grownBy w' v.ownBlock → Below base w w' → K (a.put o.dst v') w') : o.wp Tryz.prog a w K Q :=
  app_row 41 23 Tryz.underlying41 _ _ Tryz.infobsJ rfl (by decide) s x base v _ cs g hown hb rfl hlen hbase ho hs hx h
theorem wpList_appT15 {ops : Array Oper} {rest : List Oper} {o : Oper} {a : Act} {w : World} {Q : Exit → Act → World → Prop} (s x : Operand) (base : Nat) (v : Value) (u : Option Addr × Nat × Nat) (cs : List Value) (g : Nat)
    (hown : OwnR 23 w base v cs) (hb : Blk w g [mkS u] 23) (hlen : cs.length < 1000000) (hbase : base ≤ w.heap.size) (hgd : o.guard = none)
    (ho : o.op = .call { callee := .builtin .append, args := #[s, x], argTypes := #[41, 41] }) (hs : a.eval s = v) (hx : a.eval x = .slice (some ⟨g, 0, none⟩) 1 1)
    (h : ∀ v' w', OwnR 23 w' base v' (cs ++ [mkS u]) → w.grownBy w' v.ownBlock → Below base w w' → wpList Tryz.prog ops Q rest (a.put o.dst v') w') : wpList Tryz.prog ops Q (o :: rest) a w :=
  wpList_plain hgd fun _ hK => wp_appT15 s x base v u cs g hown hb hlen hbase ho hs hx fun v' w' h2 h3 h4 => hK _ _ (h v' w' h2 h3 h4)
theorem OwnB.toR {w : World} {base : Nat} {v : Value} {l : Bs} (h : OwnB w base v l) : OwnR 5 w base v (cb l) := by unfold OwnR; rw [cb_len]; exact h
theorem OwnR.toB {w : World} {base : Nat} {v : Value} {l : Bs} (h : OwnR 5 w base v (cb l)) : OwnB w base v l := by unfold OwnR at h; rw [cb_len] at h; exact h
end Go.Proofs.YtopmeedmgjdcgaaGreatDoor
/- The law's all: a store's keys, gone over, with texts of the asker's own (layer 15). -/
namespace Go.Proofs.YtopmeedmgjdcgaaGreatDoor
open Go.RowKit Go.Shelf
set_option maxRecDepth 100000
attribute [local go_sem] Oper.semAt_some
def kyV (x : KvT) : Value := .string (strB x.1.1)
def txV (x : KvT) : Value := mkS x.2
/-- keys and texts that were gone over, in rows from block base on -/
structure KvR (W : World) (base : Nat) (vK vV : Value) (xs : List KvT) : Prop where
  rk : OwnR 9 W base vK (xs.map kyV)
  rv : OwnR 23 W base vV (xs.map txV)
  ow : ∀ x ∈ xs, OwnB W base (mkS x.2) x.1.2
theorem KvR.same {W Y : World} {base : Nat} {vK vV : Value} {xs : List KvT} (h : KvR W base vK vV xs) (hs : ∀ k (ar : Array Value) (t : TypeId), W.heap[k]? = some (Obj.cells ar t (0, 0)) → (t = 9 ∨ t = 23 ∨ t = 5) → base ≤ k → Y.heap[k]? = W.heap[k]?) : KvR Y base vK vV xs :=
  ⟨h.rk.same (fun k ar hh e => hs k ar _ hh (Or.inl rfl) (h.rk.lt k e).1), h.rv.same (fun k ar hh e => hs k ar _ hh (Or.inr (Or.inl rfl)) (h.rv.lt k e).1), fun x hx => (((h.ow x hx).toR).same (fun k ar hh e => hs k ar _ hh (Or.inr (Or.inr rfl)) ((h.ow x hx).toR.lt k e).1)).toB⟩
theorem KvR.readsS {W : World} {base : Nat} {vK vV : Value} {xs : List KvT} (h : KvR W base vK vV xs) : ReadsS W vK ((xs.map (·.1)).map (·.1)) := by
  obtain ⟨ad, cap, h1, h2, h3⟩ := h.rk.rd
  have hl : (xs.map kyV).length = ((xs.map (·.1)).map (·.1)).length := by simp
  have hz : ad = none → cap = 0 := by
    obtain ⟨_, ⟨e, _⟩ | ⟨g, c2, cur, e, _⟩⟩ := h.rk
    · rw [e] at h1; simp only [Value.slice.injEq] at h1; exact fun _ => h1.2.2.symm
    · rw [e] at h1; simp only [Value.slice.injEq] at h1; intro h; rw [h] at h1; cases h1.1
  refine ⟨ad, cap, by rw [← hl]; exact h1, by rw [← hl]; exact h2, hz, fun hp => ?_⟩
  obtain ⟨b, off, ar, e1, e2, e3⟩ := h3 (by rw [hl]; exact hp)
  refine ⟨b, off, e1, fun j hj => ?_⟩
  rw [cell_of_row W b (off + j) ar _ (0, 0) e2]
  refine e3 j _ ?_
  have hj2 : j < xs.length := by simpa using hj
  rw [List.getElem?_map, List.getElem?_eq_getElem hj2, List.getD_eq_getElem?_getD, List.getElem?_map, List.getElem?_map, List.getElem?_eq_getElem hj2]
  rfl
theorem KvR.readsL {W : World} {base : Nat} {vK vV : Value} {xs : List KvT} (h : KvR W base vK vV xs) : ReadsL W vV ((xs.map (·.1)).map (·.2)) := by
  obtain ⟨ad, cap, h1, h2, h3⟩ := h.rv.rd
  have hl : (xs.map txV).length = ((xs.map (·.1)).map (·.2)).length := by simp
  have hz : ad = none → cap = 0 := by
    obtain ⟨_, ⟨e, _⟩ | ⟨g, c2, cur, e, _⟩⟩ := h.rv
    · rw [e] at h1; simp only [Value.slice.injEq] at h1; exact fun _ => h1.2.2.symm
    · rw [e] at h1; simp only [Value.slice.injEq] at h1; intro h; rw [h] at h1; cases h1.1
  refine ⟨ad, cap, by rw [← hl]; exact h1, by rw [← hl]; exact h2, hz, fun hp => ?_⟩
  obtain ⟨b, off, ar, e1, e2, e3⟩ := h3 (by rw [hl]; exact hp)
  refine ⟨b, off, e1, fun j hj => ?_⟩
  have hj2 : j < xs.length := by simpa using hj
  refine ⟨mkS xs[j].2, ?_, ?_⟩
  · rw [cell_of_row W b (off + j) ar _ (0, 0) e2]
    refine e3 j _ ?_
    rw [List.getElem?_map, List.getElem?_eq_getElem hj2]
    rfl
  · rw [List.getD_eq_getElem?_getD, List.getElem?_map, List.getElem?_map, List.getElem?_eq_getElem hj2]
    exact (h.ow xs[j] (List.getElem_mem _)).reads
theorem build_s1 (f : Operand → Value) (o : Oper) (x : Operand) (s : ByteArray) (hx : f x = .string s) (ho : o.op = .buildSlice 40 1 #[(0, x)]) (w : World) : (execOp f o).run Tryz.prog w = .ok (.value (.slice (some ⟨w.heap.size, 0, none⟩) 1 1)) (w.alloc (.cells [.string s].toArray 9)) := by
  unfold execOp
  rw [ho]
  simp only [List.map_toArray, List.map_cons, List.map_nil, hx]
  kernel_rfl
/-- the loop's memory: its own blocks, the cells c1 and c2 of the struct that is made, and the rows of keys and of texts -/
structure AlG (v1 : World) (gs g1 g2 g3 g4 : Nat) (ks ts : List Value) (os : List KvT) (c1 c2 vK vV : Value) (W : World) : Prop where
  b1 : Blk W g1 [.pointer (some ⟨gs, 0, none⟩)] 36
  b2 : Blk W g2 [.slice none 0 0, .slice none 0 0] 43
  b3 : Blk W g3 [.bool false] 4
  b4 : Blk W g4 [c1, c2] 43
  rk : OwnR 9 W v1.heap.size vK ks
  rv : OwnR 23 W v1.heap.size vV ts
  ow : ∀ x ∈ os, OwnB W v1.heap.size (mkS x.2) x.1.2
  mv : Mut (fun k => k = g4) v1 W
  n1 : g1 ≠ g4
  n2 : g2 ≠ g4
  n3 : g3 ≠ g4
abbrev AlI (v1 : World) (gs g1 g2 g3 g4 : Nat) (xs : List KvT) (vK vV : Value) (W : World) : Prop := AlG v1 gs g1 g2 g3 g4 (xs.map kyV) (xs.map txV) xs vK vV vK vV W
def AlJ (v1 : World) (gs g1 g2 g3 g4 : Nat) (xs : List KvT) (W : World) : Prop := ∃ vK vV, AlI v1 gs g1 g2 g3 g4 xs vK vV W
theorem OwnR.neH {t e : TypeId} {w : World} {base g : Nat} {v : Value} {cs : List Value} {ar : Array Value} (h : OwnR t w base v cs) (hb : w.heap[g]? = some (Obj.cells ar e (0, 0))) (he : e ≠ t) : v.ownBlock ≠ some g := fun e1 => by
  obtain ⟨_, ⟨rfl, _⟩ | ⟨g2, cap, cur, rfl, _, hh, _⟩⟩ := h
  · cases e1
  · simp [Value.ownBlock] at e1
    rw [e1, hb] at hh
    simp only [Option.some.injEq, Obj.cells.injEq] at hh
    exact he hh.2.1
section
variable {v1 : World} {gs g1 g2 g3 g4 : Nat} {ks ts : List Value} {os : List KvT} {c1 c2 vK vV : Value} {X Y : World}
theorem AlG.move (h : AlG v1 gs g1 g2 g3 g4 ks ts os c1 c2 vK vV X) (hc : ∀ (k : Nat) (ar : Array Value) (t : TypeId), X.heap[k]? = some (Obj.cells ar t (0, 0)) → Y.heap[k]? = X.heap[k]?) (hm : Mut (fun k => k = g4) v1 Y) : AlG v1 gs g1 g2 g3 g4 ks ts os c1 c2 vK vV Y :=
  ⟨blk_same h.b1 (hc _ _ _ h.b1), blk_same h.b2 (hc _ _ _ h.b2), blk_same h.b3 (hc _ _ _ h.b3), blk_same h.b4 (hc _ _ _ h.b4), h.rk.same (fun k ar hh _ => hc k ar _ hh), h.rv.same (fun k ar hh _ => hc k ar _ hh), fun x hx => ((h.ow x hx).toR.same (fun k ar hh _ => hc k ar _ hh)).toB, hm, h.n1, h.n2, h.n3⟩
theorem AlG.own {row : Option Nat} (h : AlG v1 gs g1 g2 g3 g4 ks ts os c1 c2 vK vV X) (hg : X.grownBy Y row) (hr : ∀ x, row = some x → v1.heap.size ≤ x ∧ ∃ o : Obj, X.heap[x]? = some o ∧ o.isCells = false) : AlG v1 gs g1 g2 g3 g4 ks ts os c1 c2 vK vV Y :=
  h.move (fun k ar t hh => hg.block k (Array.getElem?_eq_some_iff.1 hh).1 (fun e => by
    obtain ⟨_, o, ho, hn⟩ := hr k e.symm
    rw [hh] at ho
    cases ho
    cases hn)) ⟨hg.os.trans h.mv.os, hg.tape.trans h.mv.tape, hg.output.trans h.mv.output, Nat.le_trans h.mv.size hg.size, fun k hk hn => (hg.block k (Nat.lt_of_lt_of_le hk h.mv.size) (fun e => by have := (hr k e.symm).1; omega)).trans (h.mv.block k hk hn)⟩
theorem AlG.new (h : AlG v1 gs g1 g2 g3 g4 ks ts os c1 c2 vK vV X) (hb : Below X.heap.size X Y) : AlG v1 gs g1 g2 g3 g4 ks ts os c1 c2 vK vV Y :=
  h.own (row := none) ⟨hb.os, hb.tape, hb.output, hb.size, fun k hk _ => hb.block k hk⟩ (fun x e => by cases e)
theorem AlG.appK {vK' : Value} {ks' : List Value} (h : AlG v1 gs g1 g2 g3 g4 ks ts os c1 c2 vK vV X) (hr : OwnR 9 Y v1.heap.size vK' ks') (hg : X.grownBy Y vK.ownBlock) : AlG v1 gs g1 g2 g3 g4 ks' ts os c1 c2 vK' vV Y := by
  have hc : ∀ (k : Nat) (ar : Array Value) (t : TypeId), X.heap[k]? = some (Obj.cells ar t (0, 0)) → t ≠ 9 → Y.heap[k]? = X.heap[k]? := fun k ar t hh ht => hg.block k (Array.getElem?_eq_some_iff.1 hh).1 (fun e => h.rk.neH hh ht e.symm)
  exact ⟨blk_same h.b1 (hc _ _ _ h.b1 (by decide)), blk_same h.b2 (hc _ _ _ h.b2 (by decide)), blk_same h.b3 (hc _ _ _ h.b3 (by decide)), blk_same h.b4 (hc _ _ _ h.b4 (by decide)), hr, h.rv.same (fun k ar hh _ => hc k ar _ hh (by decide)), fun x hx => ((h.ow x hx).toR.same (fun k ar hh _ => hc k ar _ hh (by decide))).toB, ⟨hg.os.trans h.mv.os, hg.tape.trans h.mv.tape, hg.output.trans h.mv.output, Nat.le_trans h.mv.size hg.size, fun k hk hn => (hg.block k (Nat.lt_of_lt_of_le hk h.mv.size) (fun e => by have := (h.rk.lt k e.symm).1; omega)).trans (h.mv.block k hk hn)⟩, h.n1, h.n2, h.n3⟩
theorem AlG.appV {vV' : Value} {ts' : List Value} (h : AlG v1 gs g1 g2 g3 g4 ks ts os c1 c2 vK vV X) (hr : OwnR 23 Y v1.heap.size vV' ts') (hg : X.grownBy Y vV.ownBlock) : AlG v1 gs g1 g2 g3 g4 ks ts' os c1 c2 vK vV' Y := by
  have hc : ∀ (k : Nat) (ar : Array Value) (t : TypeId), X.heap[k]? = some (Obj.cells ar t (0, 0)) → t ≠ 23 → Y.heap[k]? = X.heap[k]? := fun k ar t hh ht => hg.block k (Array.getElem?_eq_some_iff.1 hh).1 (fun e => h.rv.neH hh ht e.symm)
  exact ⟨blk_same h.b1 (hc _ _ _ h.b1 (by decide)), blk_same h.b2 (hc _ _ _ h.b2 (by decide)), blk_same h.b3 (hc _ _ _ h.b3 (by decide)), blk_same h.b4 (hc _ _ _ h.b4 (by decide)), h.rk.same (fun k ar hh _ => hc k ar _ hh (by decide)), hr, fun x hx => ((h.ow x hx).toR.same (fun k ar hh _ => hc k ar _ hh (by decide))).toB, ⟨hg.os.trans h.mv.os, hg.tape.trans h.mv.tape, hg.output.trans h.mv.output, Nat.le_trans h.mv.size hg.size, fun k hk hn => (hg.block k (Nat.lt_of_lt_of_le hk h.mv.size) (fun e => by have := (h.rv.lt k e.symm).1; omega)).trans (h.mv.block k hk hn)⟩, h.n1, h.n2, h.n3⟩
theorem AlG.set {d1 d2 : Value} (h : AlG v1 gs g1 g2 g3 g4 ks ts os c1 c2 vK vV X) (hb : Blk Y g4 [d1, d2] 43) (ho : Only g4 X Y) : AlG v1 gs g1 g2 g3 g4 ks ts os d1 d2 vK vV Y := by
  have hc : ∀ (k : Nat) (ar : Array Value) (t : TypeId), X.heap[k]? = some (Obj.cells ar t (0, 0)) → t ≠ 43 → Y.heap[k]? = X.heap[k]? := fun k ar t hh ht => ho.block k (fun e => by
    have h4 := h.b4
    unfold Blk at h4
    rw [e, h4] at hh
    simp only [Option.some.injEq, Obj.cells.injEq] at hh
    exact ht hh.2.1.symm) (Array.getElem?_eq_some_iff.1 hh).1
  exact ⟨h.b1.only ho h.n1, h.b2.only ho h.n2, h.b3.only ho h.n3, hb, h.rk.same (fun k ar hh _ => hc k ar _ hh (by decide)), h.rv.same (fun k ar hh _ => hc k ar _ hh (by decide)), fun x hx => ((h.ow x hx).toR.same (fun k ar hh _ => hc k ar _ hh (by decide))).toB, h.mv.trans (fun _ _ e => e) (ho.mut (P := fun k => k = g4) rfl), h.n1, h.n2, h.n3⟩
/-- what a round may do to the world -/
def Rl (v1 : World) (g4 : Nat) (X Y : World) : Prop := KeepsOthers X Y ∧ KpJ v1.heap.size (fun k => k = g4) X Y
theorem Rl.trans {Z : World} (h : Rl v1 g4 X Y) (k : Rl v1 g4 Y Z) : Rl v1 g4 X Z := ⟨h.1.trans k.1, h.2.trans k.2⟩
theorem AlG.rlNew (h : AlG v1 gs g1 g2 g3 g4 ks ts os c1 c2 vK vV X) (hb : Below X.heap.size X Y) : Rl v1 g4 X Y := ⟨⟨hb.size, fun k _ hk _ => (hb.block k (Array.getElem?_eq_some_iff.1 hk).1).trans hk⟩, KpJ.below hb h.mv.size⟩
theorem rl_row {t : TypeId} {v : Value} {cs : List Value} (h : OwnR t X v1.heap.size v cs) (hg : X.grownBy Y v.ownBlock) (hs : v1.heap.size ≤ X.heap.size) : Rl v1 g4 X Y :=
  ⟨⟨hg.size, fun k o hk hn => (hg.block k (Array.getElem?_eq_some_iff.1 hk).1 (fun e => by
    obtain ⟨_, ⟨rfl, _⟩ | ⟨g2, cap, cur, rfl, _, hh, _⟩⟩ := h
    · cases e
    · simp [Value.ownBlock] at e
      rw [e, hh] at hk
      cases hk
      cases hn)).trans hk⟩, ⟨hg.os, hg.tape, hg.output, hg.size, fun k hk _ => hg.block k (Nat.lt_of_lt_of_le hk hs) (fun e => by have := (h.lt k e.symm).1; omega)⟩⟩
theorem AlG.rlSet (h : AlG v1 gs g1 g2 g3 g4 ks ts os c1 c2 vK vV X) (ho : Only g4 X Y) : Rl v1 g4 X Y :=
  ⟨⟨ho.size, fun k o hk hn => (ho.block k (fun e => by
    have h4 := h.b4
    unfold Blk at h4
    rw [e, h4] at hk
    cases hk
    cases hn) (Array.getElem?_eq_some_iff.1 hk).1).trans hk⟩, ⟨ho.os, ho.tape, ho.output, ho.size, fun k hk hn => ho.block k hn (Nat.lt_of_lt_of_le hk h.mv.size)⟩⟩
end
theorem wpSeq_buildS1 {ops : Array Oper} {Q : Exit → Act → World → Prop} {rest : List Oper} {o : Oper} {a : Act} {w : World} (x : Operand) (s : ByteArray) (hx : a.eval x = .string s) (ho : o.op = .buildSlice 40 1 #[(0, x)]) (hw : Region.wanted o (yielded ops a.tmps) = true)
    (h : ∀ g w', NewR [.string s] 9 w g w' → wpList Tryz.prog ops Q rest (a.put o.dst (.slice (some ⟨g, 0, none⟩) 1 1)) w') : wpList Tryz.prog ops Q (o :: rest) a w :=
  wpSeq_val _ _ hw (build_s1 _ o x s hx ho w) (h _ _ (NewR.of _ _ w))
theorem build_tt1 (f : Operand → Value) (o : Oper) (x : Operand) (u : Option Addr × Nat × Nat) (hx : f x = mkS u) (ho : o.op = .buildSlice 41 1 #[(0, x)]) (w : World) : (execOp f o).run Tryz.prog w = .ok (.value (.slice (some ⟨w.heap.size, 0, none⟩) 1 1)) (w.alloc (.cells [mkS u].toArray 23)) := by
  unfold execOp
  rw [ho]
  simp only [List.map_toArray, List.map_cons, List.map_nil, hx]
  kernel_rfl
theorem wpSeq_buildTT {ops : Array Oper} {Q : Exit → Act → World → Prop} {rest : List Oper} {o : Oper} {a : Act} {w : World} (x : Operand) (u : Option Addr × Nat × Nat) (hx : a.eval x = mkS u) (ho : o.op = .buildSlice 41 1 #[(0, x)]) (hw : Region.wanted o (yielded ops a.tmps) = true)
    (h : ∀ g w', NewR [mkS u] 23 w g w' → wpList Tryz.prog ops Q rest (a.put o.dst (.slice (some ⟨g, 0, none⟩) 1 1)) w') : wpList Tryz.prog ops Q (o :: rest) a w :=
  wpSeq_val _ _ hw (build_tt1 _ o x u hx ho w) (h _ _ (NewR.of _ _ w))
theorem ownB_own {n₀ : Nat} : OwnFrom n₀ (fun (x : KvT) X => OwnB X n₀ (mkS x.2) x.1.2) := fun x X Y row h hg hr =>
  (h.toR.same (fun k ar hh _ => hg.block k (Array.getElem?_eq_some_iff.1 hh).1 (fun e => by
    obtain ⟨_, o, ho, hn⟩ := hr k e.symm
    rw [hh] at ho
    cases ho
    cases hn))).toB
theorem wpSeq_allocK {ops : Array Oper} {Q : Exit → Act → World → Prop} {rest : List Oper} {o : Oper} {a : Act} {w : World} (ho : o.op = .alloc 43) (hw : Region.wanted o (yielded ops a.tmps) = true)
    (h : ∀ g w', NewR [.slice none 0 0, .slice none 0 0] 43 w g w' → wpList Tryz.prog ops Q rest (a.put o.dst (.pointer (some ⟨g, 0, none⟩))) w') : wpList Tryz.prog ops Q (o :: rest) a w :=
  wpSeq_val _ _ hw (by unfold execOp; rw [ho]; kernel_rfl) (h _ _ (NewR.of _ _ w))
theorem wpSeq_allocBo {ops : Array Oper} {Q : Exit → Act → World → Prop} {rest : List Oper} {o : Oper} {a : Act} {w : World} (ho : o.op = .alloc 4) (hw : Region.wanted o (yielded ops a.tmps) = true)
    (h : ∀ g w', NewR [.bool false] 4 w g w' → wpList Tryz.prog ops Q rest (a.put o.dst (.pointer (some ⟨g, 0, none⟩))) w') : wpList Tryz.prog ops Q (o :: rest) a w :=
  wpSeq_val _ _ hw (by unfold execOp; rw [ho]; kernel_rfl) (h _ _ (NewR.of _ _ w))
theorem one_keys (a b : Option Addr) (n c m d : Nat) : ∀ v ∈ [Value.slice a n c, .slice b m d], v.oneCell' = true := by
  intro v hv
  simp at hv
  rcases hv with rfl | rfl <;> rfl
theorem build_k0 (f : Operand → Value) (o : Oper) (ho : o.op = .build 43 #[]) (w : World) : (execOp f o).run Tryz.prog w = .ok (.value (.agg [.slice none 0 0, .slice none 0 0].toArray)) w := by
  unfold execOp
  rw [ho]
  kernel_rfl
theorem wpSeq_buildK0 {ops : Array Oper} {Q : Exit → Act → World → Prop} {rest : List Oper} {o : Oper} {a : Act} {w : World} (ho : o.op = .build 43 #[]) (hw : Region.wanted o (yielded ops a.tmps) = true)
    (h : wpList Tryz.prog ops Q rest (a.put o.dst (.agg [.slice none 0 0, .slice none 0 0].toArray)) w) : wpList Tryz.prog ops Q (o :: rest) a w :=
  wpSeq_val _ _ hw (build_k0 _ o ho w) h
theorem var_keys {w : World} {g : Nat} {x y : Value} (hb : Blk w g [x, y] 43) : (loadVar 43 ⟨g, 0, none⟩).run Tryz.prog w = .ok (.agg [x, y].toArray) w :=
  run_loadVar_row (P := Tryz.prog) w g 43 43 [x, y].toArray (0, 0) _ hb Tryz.underlying43 rfl (by rw [List.size_toArray]; exact info_keys _ _)
theorem results_row_bool {fn : Func} {p u : Tmp} (h : fn.results = #[.cell p 43, .cell u 4]) (tmps : Array Value) (w : World) (g g3 : Nat) (v : Value) (b : Bool) (hp : tmps.getD p undef = .pointer (some ⟨g, 0, none⟩)) (hu : tmps.getD u undef = .pointer (some ⟨g3, 0, none⟩)) (e1 : (loadVar 43 ⟨g, 0, none⟩).run Tryz.prog w = .ok v w) (e2 : w.cell? ⟨g3, 0, none⟩ = some (.bool b)) :
    (results fn tmps).run Tryz.prog w = .ok (.tuple #[v, .bool b]) w := by
  have hp' : tmps[p]?.getD undef = .pointer (some ⟨g, 0, none⟩) := by simpa using hp
  have hu' : tmps[u]?.getD undef = .pointer (some ⟨g3, 0, none⟩) := by simpa using hu
  have e3 : (loadVar 4 ⟨g3, 0, none⟩).run Tryz.prog w = .ok (.bool b) w := by simp [go_sem, e2]
  simp [results, h, hp', hu', asAddr, e1, e3]
theorem notNil15 (g : Nat) (w : World) : (binOp .eql 70 (.func (.func 66) #[] #[.pointer (some ⟨g, 0, none⟩)]) .nilFunc).run Tryz.prog w = .ok (.bool false) w := by kernel_rfl
theorem rowP_rdp {W : World} {base : Nat} {v : Value} {ps : List (ActT × Value)} (h : W.ownsRow base 62 3 v ps.length (rowP ps)) : RdP W v ps := by
  obtain ⟨h1, h2⟩ := h
  rcases h2 with ⟨rfl, h0⟩ | ⟨g, cap, cur, rfl, hg, hh, hc, hm, hs, ht⟩
  · exact ⟨none, 0, by rw [h0], fun h => absurd h (by omega)⟩
  · refine ⟨_, cap, rfl, fun _ => ⟨g, 0, rfl, fun j p hp i u hu => ?_⟩⟩
    have hr := rowP_at ps j i p u hp hu
    have hi : j * 3 + i < (rowP ps).length := (List.getElem?_eq_some_iff.1 hr).1
    rw [rowP_len] at hi
    rw [cell_of_row W g (0 + j * 3 + i) cur _ (0, 0) hh, Nat.zero_add]
    rw [← ht, List.getElem?_take_of_lt hi] at hr
    simpa using hr
set_option maxRecDepth 100000 in
set_option maxHeartbeats 8000000 in
theorem all15_any {w : World} {gs gm n : Nat} {lv : Value} {V : Bs → Value} {m : KM} (hsb : Blk w gs [lv, .map (some gm)] 99) (hm : MapM w gm n V m) (htx : ∀ s t, getM m s = some t → Reads w (V s) t ∧ t.length ≤ 1048576) (hml : m.length < 1000000) :
    Calls Tryz.prog 31 #[.pointer (some ⟨gs, 0, none⟩)] w fun e w' => ∃ vK vV xs, e = .returned (.tuple #[.agg [vK, vV].toArray, .bool true]) ∧ xs.map (·.1) = m ∧ KvR w' w.heap.size vK vV xs ∧ Below w.heap.size w w' := by
  have HSB : Hid (Blk w gs [lv, .map (some gm)] 99) := hsb
  have HM : Hid (MapM w gm n V m) := hm
  have HTX : Hid (∀ s t, getM m s = some t → Reads w (V s) t ∧ t.length ≤ 1048576) := htx
  have HML : Hid (m.length < 1000000) := hml
  clear hsb hm htx hml
  refine (callsIn_wide (n := 4)).1 ?_
  refine callsIn_of_wp_marks Tryz.func31 rfl trivial ?_ rfl
  simp only [Tryz.ntmps31, List.size_toArray, List.length_cons, List.length_nil, Nat.reduceAdd, Nat.reduceSub, Array.replicate_succ, Array.replicate_zero, List.push_toArray, List.append_toArray, List.nil_append, List.cons_append]
  refine wpIn_wide.2 ?_
  have tk0 : Hid True := trivial
  have tk1 : Hid True := trivial
  have tk2 : Hid True := trivial
  have tk3 : Hid True := trivial
  have tk4 : Hid True := trivial
  have tk5 : Hid True := trivial
  have tk6 : Hid True := trivial
  go_wp2_with (first
    | (clear tk0; with_reducible refine wpSeq_box1 36 (.tmp 0) (.pointer (some ⟨gs, 0, none⟩)) rfl ?_ ?_ ?_ ?_
       · rfl
       · rfl
       · rfl
       intro g1 y1 nn
       have HB1 : Hid (Blk y1 g1 [.pointer (some ⟨gs, 0, none⟩)] 36) := nn.blk
       have HW1 : Hid (Below w.heap.size w y1 ∧ w.heap.size ≤ g1) := ⟨nn.below, nn.ge⟩
       clear nn)
    | (clear tk1; with_reducible refine wpSeq_allocK ?_ ?_ ?_
       · rfl
       · rfl
       intro g2 y2 nn
       have HB2 : Hid (Blk y2 g2 [.slice none 0 0, .slice none 0 0] 43) := nn.blk
       replace HB1 : Hid (Blk y2 g1 [.pointer (some ⟨gs, 0, none⟩)] 36) := HB1.out.below nn.below HB1.out.lt
       have HW2 : Hid (Below w.heap.size w y2 ∧ w.heap.size ≤ g2) := ⟨HW1.out.1.trans (nn.below.mono HW1.out.1.size), Nat.le_trans HW1.out.1.size nn.ge⟩
       clear nn)
    | (clear tk2; with_reducible refine wpSeq_allocBo ?_ ?_ ?_
       · rfl
       · rfl
       intro g3 y3 nn
       have HB3 : Hid (Blk y3 g3 [.bool false] 4) := nn.blk
       replace HB1 : Hid (Blk y3 g1 [.pointer (some ⟨gs, 0, none⟩)] 36) := HB1.out.below nn.below HB1.out.lt
       replace HB2 : Hid (Blk y3 g2 [.slice none 0 0, .slice none 0 0] 43) := HB2.out.below nn.below HB2.out.lt
       have HW3 : Hid (Below w.heap.size w y3 ∧ w.heap.size ≤ g3) := ⟨HW2.out.1.trans (nn.below.mono HW2.out.1.size), Nat.le_trans HW2.out.1.size nn.ge⟩
       clear nn)
    | (clear tk3; with_reducible refine wpSeq_buildK0 ?_ ?_ ?_
       · rfl
       · rfl)
    | (clear tk4; with_reducible refine wpSeq_allocK ?_ ?_ ?_
       · rfl
       · rfl
       intro g4 y4 nn
       have HB4 : Hid (Blk y4 g4 [.slice none 0 0, .slice none 0 0] 43) := nn.blk
       have HNE : Hid (g2 < g4) := by show _ < _; have h1 := HB2.out.lt; have h2 := nn.ge; omega
       replace HB1 : Hid (Blk y4 g1 [.pointer (some ⟨gs, 0, none⟩)] 36) := HB1.out.below nn.below HB1.out.lt
       replace HB2 : Hid (Blk y4 g2 [.slice none 0 0, .slice none 0 0] 43) := HB2.out.below nn.below HB2.out.lt
       replace HB3 : Hid (Blk y4 g3 [.bool false] 4) := HB3.out.below nn.below HB3.out.lt
       have HW4b : Hid (Below w.heap.size w y4 ∧ w.heap.size ≤ g4) := ⟨HW3.out.1.trans (nn.below.mono HW3.out.1.size), Nat.le_trans HW3.out.1.size nn.ge⟩
       clear nn)
    | (clear tk5; with_reducible refine wpSeq_storeRow 43 (.tmp 4) (.tmp 8) g4 [.slice none 0 0, .slice none 0 0] [.slice none 0 0, .slice none 0 0] HB4.out rfl (info_keys _ _) (one_keys _ _ _ _ _ _) ?_ ?_ ?_ ?_ ?_
       · rfl
       · rfl
       · rfl
       · rfl
       intro y5 sr
       have n1 : g1 ≠ g4 := HB1.out.neT HB4.out (by decide)
       have n3 : g3 ≠ g4 := HB3.out.neT HB4.out (by decide)
       have n2 : g2 ≠ g4 := by have := HNE.out; omega
       replace HB1 : Hid (Blk y5 g1 [.pointer (some ⟨gs, 0, none⟩)] 36) := HB1.out.only sr.only n1
       replace HB2 : Hid (Blk y5 g2 [.slice none 0 0, .slice none 0 0] 43) := HB2.out.only sr.only n2
       replace HB3 : Hid (Blk y5 g3 [.bool false] 4) := HB3.out.only sr.only n3
       replace HB4 : Hid (Blk y5 g4 [.slice none 0 0, .slice none 0 0] 43) := sr.blk
       have HW5 : Hid (Below w.heap.size w y5) := HW4b.out.1.trans (sr.only.below HW4b.out.2 HW4b.out.1.size)
       have c1 : y5.cell? ⟨g1, 0, none⟩ = some (.pointer (some ⟨gs, 0, none⟩)) := HB1.out.cell 0
       clear sr n1 n2 n3)
    | (clear tk6; go_at_call 34; refine (sAll_any (HSB.out.below HW5.out HSB.out.lt) (HM.out.same (HW5.out.block gm HM.out.lt)) HML.out).mono ?_; rintro e6 v1 ⟨gl, vr, rfl, hbl, how, hb6, hg6⟩
       replace HB1 : Hid (Blk v1 g1 [.pointer (some ⟨gs, 0, none⟩)] 36) := HB1.out.below hb6 HB1.out.lt
       replace HB2 : Hid (Blk v1 g2 [.slice none 0 0, .slice none 0 0] 43) := HB2.out.below hb6 HB2.out.lt
       replace HB3 : Hid (Blk v1 g3 [.bool false] 4) := HB3.out.below hb6 HB3.out.lt
       have HN4 : Hid (g4 < y5.heap.size) := HB4.out.lt
       replace HB4 : Hid (Blk v1 g4 [.slice none 0 0, .slice none 0 0] 43) := HB4.out.below hb6 HB4.out.lt
       have HBL : Hid (Blk v1 gl [vr] 22 ∧ v1.ownsRow y5.heap.size 62 3 vr m.length (rowP (setP V m)) ∧ y5.heap.size ≤ gl) := ⟨hbl, how, hg6⟩
       replace HW5 : Hid (Below w.heap.size w v1) := HW5.out.trans (hb6.mono HW5.out.size)
       have hnn := fun W => notNil15 gl W
       clear hbl how hb6 hg6 c1))
  have HV0 : Hid (AlI v1 gs g1 g2 g3 g4 [] (.slice none 0 0) (.slice none 0 0) v1) := ⟨HB1.out, HB2.out, HB3.out, HB4.out, OwnR.nil _ _ _, OwnR.nil _ _ _, (fun x hx => by cases hx), Mut.refl _ _, HB1.out.neT HB4.out (by decide), (by have := HNE.out; omega), HB3.out.neT HB4.out (by decide)⟩
  have HGS : Hid (∀ W, Mut (fun k => k = g4) v1 W → Blk W gs [lv, .map (some gm)] 99 ∧ MapM W gm n V m) := fun W h => by
    have h1 := HSB.out.lt
    have h2 := HM.out.lt
    have h3 := HW4b.out.2
    have h4 := HW5.out.size
    exact ⟨h.blk (HSB.out.below HW5.out h1) (fun e => by omega), (HM.out.same (HW5.out.block gm h2)).same (h.block gm (by omega) (fun e => by omega))⟩
  have HST : Hid (∀ W, KpJ v1.heap.size (fun k => k = g4) v1 W → RdP W vr (setP V m) ∧ ∀ p ∈ setP V m, Reads W p.2 p.1.data) := fun W h => by
    have hmu : Mut (fun k => k = g4) v1 W := h.mut
    refine ⟨?_, fun p hp => ?_⟩
    · have hr : RdP v1 vr (setP V m) := rowP_rdp (by rw [setP_len]; exact HBL.out.2.1)
      obtain ⟨ad, cap, e1, e2⟩ := id hr
      refine ⟨ad, cap, e1, fun hp => ?_⟩
      obtain ⟨b, off, e3, e4⟩ := e2 hp
      refine ⟨b, off, e3, fun j p hj => range_mut (e4 j p hj) hmu (fun e => ?_)⟩
      have hc := e4 j p hj 0 _ rfl
      rw [e, World.cell?, HB4.out] at hc
      have hlt : ∀ k, vr.ownBlock = some k → y5.heap.size ≤ k := fun k hk => (World.ownsRow.lt HBL.out.2.1 k hk).1
      have := hlt b (by rw [e1, e3]; rfl)
      have h4 := HN4.out
      omega
    · obtain ⟨q, hq, e⟩ := List.mem_map.1 hp
      have h1 := (HTX.out q.1 q.2 ((getM_mem HM.out.up _ _).2 hq)).1
      rw [← e]
      show Reads W (V q.1) q.2
      exact h1.below (HW5.out.trans (hmu.below HW5.out.size (fun k e => by rw [e]; exact HW4b.out.2)))
  have HSL : Hid (∀ p ∈ setP V m, isSl p.2 = true ∧ p.1.data.length ≤ 1048576) := fun p hp => by
    obtain ⟨q, hq, e⟩ := List.mem_map.1 hp
    have h1 := (getM_mem HM.out.up _ _).2 hq
    rw [← e]
    exact ⟨HM.out.sl q.1 (by rw [h1]; rfl), (HTX.out q.1 q.2 h1).2⟩
  have HLT : Hid (gl < v1.heap.size ∧ ¬ (gl = g4)) := ⟨HBL.out.1.lt, fun e => by have h1 := HBL.out.2.2; have h2 := HN4.out; omega⟩
  refine (wpIn_wide (n := 4)).1 ?_
  refine range_good (α := KvT) (by omega) (gf := 66) (lb := #[.pointer (some ⟨gl, 0, none⟩)]) rfl (enters_of Tryz.func66 (by kernel_rfl) rfl)
    (all_stops 3 (n₀ := v1.heap.size) (R := fun k => k = g4) v1 (Nat.le_refl _) HBL.out.1 HLT.out HST.out HSL.out HML.out)
    KpJ.trans (fun W l o o' h1 h2 h3 h4 => KpJ.put (w := v1) (Nat.le_refl _) W l o o' h1 h2 h3 h4) (Below.refl _ _) (fun _ => rfl)
    (AlJ v1 gs g1 g2 g3 g4) (fun _ _ _ => False)
    (fun s X Y row hs hg hr => by
      obtain ⟨vK, vV, h1⟩ := hs
      exact ⟨vK, vV, h1.own hg hr⟩)
    (fun c s X Y row hs hg hr => hs)
    ownB_own
    ⟨_, _, HV0.out⟩
    (fun x => { tmps := #[.pointer (some ⟨gs, 0, none⟩), .pointer (some ⟨g1, 0, none⟩), .pointer (some ⟨g2, 0, none⟩), .pointer (some ⟨g3, 0, none⟩), .pointer (some ⟨g4, 0, none⟩), .func (.func 66) #[] #[.pointer (some ⟨gl, 0, none⟩)], .string (strB x.1.1), mkS x.2, .agg #[.slice none 0 0, .slice none 0 0], .pointer (some ⟨gs, 0, none⟩), .func (.func 66) #[] #[.pointer (some ⟨gl, 0, none⟩)], .func (.func 66) #[] #[.pointer (some ⟨gl, 0, none⟩)], .bool false, undef, .func (.func 66) #[] #[.pointer (some ⟨gl, 0, none⟩)], .string (strB x.1.1), mkS x.2, undef, undef, undef, undef, undef, undef, undef, undef, undef, undef, undef, undef, undef, undef, undef, undef, undef, undef, undef, undef], defers := [] }) ?assign ?body ?done ?stop
  case assign =>
    intro l z W K hK
    gi_wp2
    exact hK
  case body =>
    rintro lab pre x W ⟨vK, vV, hi⟩ ⟨kk, hkk, hmk⟩ hgx
    obtain ⟨aK, cK, hvK⟩ := hi.rk.form
    obtain ⟨aV, cV, hvV⟩ := hi.rv.form
    obtain ⟨N, HN⟩ : ∃ z, Hid (z = pre.length) := ⟨_, rfl⟩
    rw [List.length_map, ← HN.out] at hvK hvV
    subst hvK
    subst hvV
    have hN : N < m.length := by
      have h1 := congrArg List.length hmk
      rw [List.length_map, List.length_append, List.length_take] at h1
      have h2 := HN.out
      simp at h1
      omega
    have HI : Hid (AlI v1 gs g1 g2 g3 g4 pre (.slice aK N cK) (.slice aV N cV) W) := hi
    have HGX : Hid (OwnB W v1.heap.size (mkS x.2) x.1.2) := hgx
    obtain ⟨MM, HMM⟩ : ∃ z, Hid (z = m.length) := ⟨_, rfl⟩
    have HLN : Hid (Calls Tryz.prog 36 #[.pointer (some ⟨gs, 0, none⟩)] W.drew fun e w' => e = .returned (.int .i64 (MM : Int)) ∧ w' = W.drew) := by
      rw [HMM.out]
      obtain ⟨h1, h2⟩ := HGS.out W.drew hi.mv.drew
      exact sLen_any h1 h2
    have HQ1 : Hid (N ≤ MM) := by show _ ≤ _; have := HMM.out; omega
    have HNN : Hid (N < 1000000) := by show _ < _; have := HML.out; omega
    clear hi hgx hmk hkk hN
    gi_wp2_with fail
    refine wpIn_round_held (S := fun wx => Blk wx g4 [.slice aK N cK, .slice aV N cV] 43 ∧ Blk wx g1 [.pointer (some ⟨gs, 0, none⟩)] 36) (by kernel_rfl) (by kernel_rfl) (by rintro ⟨_, _, h⟩; exact h) ⟨HI.out.b4.drew, HI.out.b1.drew⟩ ?_
    intro hS
    refine wpAnyH_take (i := 0) (v := .pointer (some ⟨g4, 0, none⟩)) rfl (by kernel_rfl) (by kernel_rfl) (by kernel_rfl) (fun _ _ _ h => h) (Or.inl ⟨by rfl, fun wx hx => by simp [go_sem]⟩) hS ?_
    simp only [Act.put, List.getElem_toArray, List.getElem_cons_zero, List.setIfInBounds_toArray, List.set_cons_zero, List.set_cons_succ]
    refine wpAnyH_take (i := 1) (v := .slice aK N cK) rfl (by kernel_rfl) (by kernel_rfl) (by kernel_rfl) (fun _ _ _ h => h) (Or.inl ⟨by rfl, fun wx hx => by (have cx : wx.cell? ⟨g4, 0, none⟩ = some (.slice aK N cK) := hx.1.cell 0; simp [go_sem, cx])⟩) hS ?_
    simp only [Act.put, List.getElem_toArray, List.getElem_cons_succ, List.getElem_cons_zero, List.setIfInBounds_toArray, List.set_cons_zero, List.set_cons_succ]
    refine wpAnyH_take (i := 2) (v := .int .i64 (N : Int)) rfl (by kernel_rfl) (by kernel_rfl) (by kernel_rfl) (fun _ _ _ h => h) (Or.inl ⟨by rfl, fun wx hx => by simp [go_sem]⟩) hS ?_
    simp only [Act.put, List.getElem_toArray, List.getElem_cons_succ, List.getElem_cons_zero, List.setIfInBounds_toArray, List.set_cons_zero, List.set_cons_succ]
    refine wpAnyH_take (i := 3) (v := .pointer (some ⟨gs, 0, none⟩)) rfl (by kernel_rfl) (by kernel_rfl) (by kernel_rfl) (fun _ _ _ h => h) (Or.inl ⟨by rfl, fun wx hx => by (have cx : wx.cell? ⟨g1, 0, none⟩ = some (.pointer (some ⟨gs, 0, none⟩)) := hx.2.cell 0; simp [go_sem, cx])⟩) hS ?_
    simp only [Act.put, List.getElem_toArray, List.getElem_cons_succ, List.getElem_cons_zero, List.setIfInBounds_toArray, List.set_cons_zero, List.set_cons_succ]
    refine wpAnyH_enter 4 (by kernel_rfl) rfl (by rfl) (f := 36) (args := #[.pointer (some ⟨gs, 0, none⟩)]) (by simp [go_sem]) HLN.out ?_
    rintro e0 W2 ⟨rfl, rfl⟩
    refine ⟨_, rfl, hS, ?_⟩
    simp only [Act.put, List.getElem_toArray, List.getElem_cons_succ, List.getElem_cons_zero, List.setIfInBounds_toArray, List.set_cons_zero, List.set_cons_succ]
    refine wpAnyH_take (i := 5) (v := .bool false) rfl (by kernel_rfl) (by kernel_rfl) (by kernel_rfl) (fun _ _ _ h => h) (Or.inl ⟨by rfl, fun wx hx => by simp [go_sem]; exact HQ1.out⟩) hS ?_
    simp only [Act.put, List.getElem_toArray, List.getElem_cons_succ, List.getElem_cons_zero, List.setIfInBounds_toArray, List.set_cons_zero, List.set_cons_succ]
    refine wpAnyH_done (by kernel_rfl) ?_ _
    replace HI : Hid (AlI v1 gs g1 g2 g3 g4 pre (.slice aK N cK) (.slice aV N cV) W.drew) := HI.out.own (row := none) ⟨rfl, rfl, rfl, Nat.le_refl _, fun _ _ _ => rfl⟩ (fun x e => by cases e)
    have HGX1 : Hid (OwnB W.drew v1.heap.size (mkS x.2) x.1.2) := HGX.out
    have HRL : Hid (Rl v1 g4 W W.drew) := ⟨⟨Nat.le_refl _, fun _ _ h _ => h⟩, ⟨rfl, rfl, rfl, Nat.le_refl _, fun _ _ _ => rfl⟩⟩
    clear hS HLN HGX
    generalize W.drew = X at *
    obtain ⟨sk, HSK⟩ : ∃ z, Hid (z = strB x.1.1) := ⟨_, rfl⟩
    have c4 : X.cell? ⟨g4, 0, none⟩ = some (.slice aK N cK) := HI.out.b4.cell 0
    repeat (first | refine wpIn_round_list (by kernel_rfl) (by rintro ⟨_, _, h⟩; exact h) ?_ | gi_step)
    have ta0 : Hid True := trivial
    have ta1 : Hid True := trivial
    go_wp2_with (first
      | (clear ta0; with_reducible refine wpSeq_buildS1 (.tmp 26) (strB x.1.1) ?_ ?_ ?_ ?_
         · rfl
         · rfl
         · rfl
         intro g5 X1 nn
         have HB5 : Hid (Blk X1 g5 [.string (strB x.1.1)] 9) := nn.blk
         have HI1 : Hid (AlI v1 gs g1 g2 g3 g4 pre (.slice aK N cK) (.slice aV N cV) X1) := HI.out.new nn.below
         have HRL1 : Hid (Rl v1 g4 W X1 ∧ OwnB X1 v1.heap.size (mkS x.2) x.1.2) := ⟨HRL.out.trans (HI.out.rlNew nn.below), HGX1.out.below nn.below (Nat.le_refl _)⟩
         clear nn c4)
      | (clear ta1; with_reducible refine wpList_appK (.tmp 25) (.tmp 27) v1.heap.size (.slice aK N cK) (strB x.1.1) (pre.map kyV) g5 HI1.out.rk HB5.out (by rw [List.length_map, ← HN.out]; exact HNN.out) HI1.out.mv.size ?_ ?_ ?_ ?_ ?_
         · rfl
         · rfl
         · rfl
         · rfl
         intro vK2 X2 hr2 hg2 hb2
         obtain ⟨aK2, cK2, hv2⟩ := hr2.form
         have hl2 : (pre.map kyV ++ [Value.string (strB x.1.1)]).length = N + 1 := by rw [List.length_append, List.length_map, ← HN.out]; rfl
         rw [hl2] at hv2
         subst hv2
         have HI2 : Hid (AlG v1 gs g1 g2 g3 g4 ((pre ++ [x]).map kyV) (pre.map txV) pre (.slice aK N cK) (.slice aV N cV) (.slice aK2 (N + 1) cK2) (.slice aV N cV) X2) := by
           refine HI1.out.appK ?_ hg2
           rw [List.map_append]
           exact hr2
         have HRL2 : Hid (Rl v1 g4 W X2 ∧ OwnB X2 v1.heap.size (mkS x.2) x.1.2) := ⟨HRL1.out.1.trans (rl_row HI1.out.rk hg2 HI1.out.mv.size), (HRL1.out.2.toR.same (fun k ar hh _ => hg2.block k (Array.getElem?_eq_some_iff.1 hh).1 (fun e => HI1.out.rk.neH hh (by decide) e.symm))).toB⟩
         have c5 : X2.cell? ⟨g4, 0, none⟩ = some (.slice aK N cK) := HI2.out.b4.cell 0
         have d5 : X2.frozen? ⟨g4, 0, none⟩ = false := HI2.out.b4.frozen 0
         clear hr2 hg2 hb2 hl2))
    clear c5 d5
    obtain ⟨X3, HX3⟩ : ∃ y, Hid (y = X2.setCell ⟨g4, 0, none⟩ (.slice aK2 (N + 1) cK2)) := ⟨_, rfl⟩
    rw [← HX3.out]
    have ho3 : Only g4 X2 X3 := by rw [HX3.out]; exact Only.setCell (Only.refl _ _) _ _
    have HI3 : Hid (AlG v1 gs g1 g2 g3 g4 ((pre ++ [x]).map kyV) (pre.map txV) pre (.slice aK2 (N + 1) cK2) (.slice aV N cV) (.slice aK2 (N + 1) cK2) (.slice aV N cV) X3) := HI2.out.set (by rw [HX3.out]; exact HI2.out.b4.set 0 _) ho3
    have HRL3 : Hid (Rl v1 g4 W X3 ∧ OwnB X3 v1.heap.size (mkS x.2) x.1.2) := ⟨HRL2.out.1.trans (HI2.out.rlSet ho3), (HRL2.out.2.toR.same (fun k ar hh _ => ho3.block k (fun e => by
      have h4 := HI2.out.b4
      unfold Blk at h4
      rw [e, h4] at hh
      simp only [Option.some.injEq, Obj.cells.injEq] at hh
      exact absurd hh.2.1 (by decide)) (Array.getElem?_eq_some_iff.1 hh).1)).toB⟩
    clear ho3 HX3
    have c4 : X3.cell? ⟨g4, 1, none⟩ = some (.slice aV N cV) := HI3.out.b4.cell 1
    repeat (first | refine wpIn_round_list (by kernel_rfl) (by rintro ⟨_, _, h⟩; exact h) ?_ | gi_step)
    have tb0 : Hid True := trivial
    have tb1 : Hid True := trivial
    go_wp2_with (first
      | (clear tb0; with_reducible refine wpSeq_buildTT (.tmp 32) x.2 ?_ ?_ ?_ ?_
         · rfl
         · rfl
         · rfl
         intro g6 X4 nn
         have HB6 : Hid (Blk X4 g6 [mkS x.2] 23) := nn.blk
         have HI4 : Hid (AlG v1 gs g1 g2 g3 g4 ((pre ++ [x]).map kyV) (pre.map txV) pre (.slice aK2 (N + 1) cK2) (.slice aV N cV) (.slice aK2 (N + 1) cK2) (.slice aV N cV) X4) := HI3.out.new nn.below
         have HRL4 : Hid (Rl v1 g4 W X4 ∧ OwnB X4 v1.heap.size (mkS x.2) x.1.2) := ⟨HRL3.out.1.trans (HI3.out.rlNew nn.below), HRL3.out.2.below nn.below (Nat.le_refl _)⟩
         clear nn c4)
      | (clear tb1; with_reducible refine wpList_appT15 (.tmp 31) (.tmp 33) v1.heap.size (.slice aV N cV) x.2 (pre.map txV) g6 HI4.out.rv HB6.out (by rw [List.length_map, ← HN.out]; exact HNN.out) HI4.out.mv.size ?_ ?_ ?_ ?_ ?_
         · rfl
         · rfl
         · rfl
         · rfl
         intro vV2 X5 hr2 hg2 hb2
         obtain ⟨aV2, cV2, hv2⟩ := hr2.form
         have hl2 : (pre.map txV ++ [mkS x.2]).length = N + 1 := by rw [List.length_append, List.length_map, ← HN.out]; rfl
         rw [hl2] at hv2
         subst hv2
         have HO5 : Hid (OwnB X5 v1.heap.size (mkS x.2) x.1.2) := (HRL4.out.2.toR.same (fun k ar hh _ => hg2.block k (Array.getElem?_eq_some_iff.1 hh).1 (fun e => HI4.out.rv.neH hh (by decide) e.symm))).toB
         have HI5 : Hid (AlG v1 gs g1 g2 g3 g4 ((pre ++ [x]).map kyV) ((pre ++ [x]).map txV) (pre ++ [x]) (.slice aK2 (N + 1) cK2) (.slice aV N cV) (.slice aK2 (N + 1) cK2) (.slice aV2 (N + 1) cV2) X5) := by
           have h := HI4.out.appV (ts' := (pre ++ [x]).map txV) (by rw [List.map_append]; exact hr2) hg2
           exact ⟨h.b1, h.b2, h.b3, h.b4, h.rk, h.rv, fun y hy => (List.mem_append.1 hy).elim (h.ow y) (fun hy => by rw [List.mem_singleton.1 hy]; exact HO5.out), h.mv, h.n1, h.n2, h.n3⟩
         have HRL5 : Hid (Rl v1 g4 W X5) := HRL4.out.1.trans (rl_row HI4.out.rv hg2 HI4.out.mv.size)
         have c5 : X5.cell? ⟨g4, 1, none⟩ = some (.slice aV N cV) := HI5.out.b4.cell 1
         have d5 : X5.frozen? ⟨g4, 1, none⟩ = false := HI5.out.b4.frozen 1
         clear hr2 hg2 hb2 hl2))
    clear c5 d5
    repeat gi_step
    obtain ⟨X6, HX6⟩ : ∃ y, Hid (y = X5.setCell ⟨g4, 1, none⟩ (.slice aV2 (N + 1) cV2)) := ⟨_, rfl⟩
    rw [← HX6.out]
    have ho6 : Only g4 X5 X6 := by rw [HX6.out]; exact Only.setCell (Only.refl _ _) _ _
    have hI6 := HI5.out.set (Y := X6) (d1 := .slice aK2 (N + 1) cK2) (d2 := .slice aV2 (N + 1) cV2) (by rw [HX6.out]; exact HI5.out.b4.set 1 _) ho6
    have hR6 := HRL5.out.trans (HI5.out.rlSet ho6)
    exact ⟨hR6.1, hR6.2, _, _, hI6⟩
  case done =>
    rintro Dd xs W hD hxs ⟨vK, vV, hi⟩ hK
    obtain ⟨aK, cK, hvK⟩ := hi.rk.form
    obtain ⟨aV, cV, hvV⟩ := hi.rv.form
    obtain ⟨N, HN⟩ : ∃ z, Hid (z = xs.length) := ⟨_, rfl⟩
    rw [List.length_map, ← HN.out] at hvK hvV
    subst hvK
    subst hvV
    have HI : Hid (AlI v1 gs g1 g2 g3 g4 xs (.slice aK N cK) (.slice aV N cV) W) := hi
    have HKD : Hid (W.heap[Dd]? = some (.deferred (some []))) := hK
    have HKG : Hid (v1.heap.size ≤ Dd) := hD
    have HXS : Hid (xs.map (·.1) = m) := hxs
    have H23 : Hid (g2 ≠ g3 ∧ g3 ≠ g2) := ⟨hi.b2.neT hi.b3 (by decide), hi.b3.neT hi.b2 (by decide)⟩
    clear hi hK hD hxs hnn
    gi_wp2_with fail
    have tc0 : Hid True := trivial
    have tc1 : Hid True := trivial
    go_wp2_with (first
      | (clear tc0; with_reducible refine wpSeq_loadW 43 (.tmp 4) g4 0 [.slice aK N cK, .slice aV N cV] _ (Blk.range HI.out.b4) Tryz.underlying43 rfl (info_keys _ _) ?_ ?_ ?_ ?_
         · rfl
         · rfl
         · rfl)
      | (clear tc1; with_reducible refine wpSeq_storeRow 43 (.tmp 2) (.tmp 36) g2 [.slice none 0 0, .slice none 0 0] [.slice aK N cK, .slice aV N cV] HI.out.b2 rfl (info_keys _ _) (one_keys _ _ _ _ _ _) ?_ ?_ ?_ ?_ ?_
         · rfl
         · rfl
         · rfl
         · rfl
         intro W2 sr
         have HB2 : Hid (Blk W2 g2 [.slice aK N cK, .slice aV N cV] 43 ∧ Only g2 W W2) := ⟨sr.blk, sr.only⟩
         have HB3b : Hid (Blk W2 g3 [.bool false] 4) := HI.out.b3.only sr.only H23.out.2
         have c3 : W2.cell? ⟨g3, 0, none⟩ = some (.bool false) := HB3b.out.cell 0
         have d3 : W2.frozen? ⟨g3, 0, none⟩ = false := HB3b.out.frozen 0
         clear sr))
    clear c3 d3
    obtain ⟨W4, HW4⟩ : ∃ y, Hid (y = W2.setCell ⟨g3, 0, none⟩ (.bool true)) := ⟨_, rfl⟩
    rw [← HW4.out]
    have ho4 : Only g3 W2 W4 := by rw [HW4.out]; exact Only.setCell (Only.refl _ _) _ _
    have hb3 : Blk W4 g3 [.bool true] 4 := by rw [HW4.out]; exact HB3b.out.set 0 _
    have hb2 : Blk W4 g2 [.slice aK N cK, .slice aV N cV] 43 := HB2.out.1.only ho4 H23.out.1
    have hlt : Dd < W.heap.size := (Array.getElem?_eq_some_iff.1 HKD.out).1
    have hk2 : W2.heap[Dd]? = some (.deferred (some [])) := by
      rw [HB2.out.2.block Dd (fun e => by have h := HI.out.b2; unfold Blk at h; rw [← e, HKD.out] at h; cases h) hlt]
      exact HKD.out
    have hk4 : W4.heap[Dd]? = some (.deferred (some [])) := by
      rw [ho4.block Dd (fun e => by have h := HB3b.out; unfold Blk at h; rw [← e, hk2] at h; cases h) (Array.getElem?_eq_some_iff.1 hk2).1]
      exact hk2
    refine ⟨by simp, .inl ⟨_, _, rfl, run_takeDeferred hk4, ?_⟩⟩
    have hgp := grownBy_putObj' W4 Dd (.deferred none)
    have hc3 := (hb3.put hk4 rfl (o' := .deferred none)).cell 0
    have hv2 := var_keys (hb2.put hk4 rfl (o' := .deferred none))
    have hbw : Below w.heap.size w (W4.putObj Dd (.deferred none)) := by
      have h1 := HW2.out
      have h3 := HW3.out
      have h4 := HW4b.out
      have h5 := HW5.out
      have hs := Nat.le_trans h5.size HI.out.mv.size
      have e1 : Below w.heap.size w W := h5.trans (HI.out.mv.below h5.size (fun k e => by rw [e]; exact h4.2))
      have e2 : Below w.heap.size w W2 := e1.trans (HB2.out.2.below h1.2 hs)
      have e3 : Below w.heap.size w W4 := e2.trans (ho4.below h3.2 e2.size)
      exact ⟨hgp.os.trans e3.os, hgp.tape.trans e3.tape, hgp.output.trans e3.output, Nat.le_trans e3.size hgp.size, fun k hk => (hgp.block k (Nat.lt_of_lt_of_le hk e3.size) (fun e => by cases e; have := HKG.out; have := h5.size; omega)).trans (e3.block k hk)⟩
    have hkv : KvR (W4.putObj Dd (.deferred none)) w.heap.size (.slice aK N cK) (.slice aV N cV) xs := by
      have hi := HI.out
      have h0 : KvR W w.heap.size (.slice aK N cK) (.slice aV N cV) xs := ⟨hi.rk.mono HW5.out.size, hi.rv.mono HW5.out.size, fun x hx => ownB_low (hi.ow x hx) HW5.out.size⟩
      refine h0.same (fun k ar t hh ht _ => ?_)
      have hkl := (Array.getElem?_eq_some_iff.1 hh).1
      have n2 : k ≠ g2 := fun e => by
        have h := HI.out.b2
        unfold Blk at h
        rw [← e, hh] at h
        simp only [Option.some.injEq, Obj.cells.injEq] at h
        rcases ht with ht | ht | ht <;> rw [ht] at h <;> exact absurd h.2.1 (by decide)
      have n3 : k ≠ g3 := fun e => by
        have h := HI.out.b3
        unfold Blk at h
        rw [← e, hh] at h
        simp only [Option.some.injEq, Obj.cells.injEq] at h
        rcases ht with ht | ht | ht <;> rw [ht] at h <;> exact absurd h.2.1 (by decide)
      have e2 := HB2.out.2.block k n2 hkl
      have l2 : k < W2.heap.size := Nat.lt_of_lt_of_le hkl HB2.out.2.size
      have e4 := ho4.block k n3 l2
      have l4 : k < W4.heap.size := Nat.lt_of_lt_of_le l2 ho4.size
      have e5 := hgp.block k l4 (fun e => by cases e; rw [HKD.out] at hh; cases hh)
      exact e5.trans (e4.trans e2)
    refine ⟨.tuple #[.agg [.slice aK N cK, .slice aV N cV].toArray, .bool true], ?_, _, _, xs, rfl, HXS.out, hkv, hbw⟩
    exact results_row_bool rfl _ _ g2 g3 _ true rfl rfl hv2 hc3
  case stop =>
    rintro Dd cc pre W hD hsp hf hK
    exact hf.elim
end Go.Proofs.YtopmeedmgjdcgaaGreatDoor
/- The store's Get of any key; what stays where another store is changed (layer 15). -/
namespace Go.Proofs.YtopmeedmgjdcgaaGreatDoor
open Go.RowKit
set_option maxRecDepth 100000
theorem keyB2 {s : Bs} (h : s.length ≤ 9223372036854775807) : keyOf Tryz.prog 9 (.string (strB s)) = some (litB s) := WideMaps.keyOf_string_mk Tryz.underlying9 (by rw [strB_size]; unfold maxLen; omega)
theorem MapM.look2 {w : World} {gm n : Nat} {V : Bs → Value} {m : KM} (h : MapM w gm n V m) {s : Bs} (hs : s.length ≤ 9223372036854775807) : (Instr.lookup 97 (.map (some gm)) (.string (strB s)) true).run Tryz.prog w = .ok (.tuple #[if (getM m s).isSome then V s else .slice none 0 0, .bool (getM m s).isSome]) w := by
  obtain ⟨D, h1, h2, h3⟩ := h.ex
  obtain ⟨v, ps, hr, hv⟩ := h1.look_ok kSt Tryz.underlying97 (z := .slice none 0 0) (by kernel_rfl) (slE_mk rfl) (keyB2 hs)
  obtain ⟨h4, h5⟩ := h3 s
  rw [h4] at hr
  by_cases c : (getM m s).isSome = true
  · rw [h5 c] at hv
    rw [slE_inv (h.sl s c) hv] at hr
    rw [if_pos c]
    exact hr
  · have hf : Maps.has D (litB s) = false := by rw [h4]; simpa using c
    rw [Maps.atKey_of_not_has hf] at hv
    rw [slE_inv rfl hv] at hr
    rw [if_neg c]
    exact hr
set_option maxRecDepth 100000 in
set_option maxHeartbeats 2000000 in
theorem sGet2_any {w : World} {gs gm n : Nat} {lv : Value} {V : Bs → Value} {m : KM} (hsb : Blk w gs [lv, .map (some gm)] 99) (hm : MapM w gm n V m) (htx : ∀ s t, getM m s = some t → Reads w (V s) t ∧ t.length ≤ 1048576) (s : Bs) (hs : s.length ≤ 9223372036854775807) :
    Calls Tryz.prog 32 #[.pointer (some ⟨gs, 0, none⟩), .string (strB s)] w fun e w' => ∃ v', e = .returned (.tuple #[v', .bool (getM m s).isSome]) ∧ OwnB w' w.heap.size v' ((getM m s).getD []) ∧ Below w.heap.size w w' := by
  have c1 : w.cell? ⟨gs, 1, none⟩ = some (.map (some gm)) := hsb.cell 1
  have hk := hm.look2 hs
  obtain ⟨sk, HSK⟩ : ∃ x, Hid (x = strB s) := ⟨_, rfl⟩
  rw [← HSK.out] at hk ⊢
  cases e : getM m s with
  | none =>
    rw [e] at hk
    simp only [Option.isSome_none, Bool.false_eq_true, if_false] at hk
    have HBC : Hid (Calls Tryz.prog 64 #[.slice none 0 0] w fun e w' => ∃ v', e = .returned v' ∧ OwnB w' w.heap.size v' [] ∧ Below w.heap.size w w') := bclone_any _ [] w (reads_nil13 w) (by decide)
    clear hsb hm htx e hs
    go_enter Tryz.func32, Tryz.ntmps32
    go_wp2_with (first
      | (go_at_call 64; refine (HBC.out).mono ?_; rintro e4 y4 ⟨v4, rfl, ow4, bl4⟩
         have HO : Hid (OwnB y4 w.heap.size v4 [] ∧ Below w.heap.size w y4) := ⟨ow4, bl4⟩
         clear ow4 bl4))
    refine bodyPost_ret (results_tmp2 rfl _ _ _) rfl ?_
    exact ⟨v4, rfl, HO.out.1, HO.out.2⟩
  | some t =>
    rw [e] at hk
    simp only [Option.isSome_some, if_true] at hk
    obtain ⟨hrd, hle⟩ := htx s t e
    obtain ⟨av, nv, cv, hvs⟩ := isSl_form (hm.sl s (by rw [e]; rfl))
    have HBC : Hid (Calls Tryz.prog 64 #[.slice av nv cv] w fun e w' => ∃ v', e = .returned v' ∧ OwnB w' w.heap.size v' t ∧ Below w.heap.size w w') := by rw [← hvs]; exact bclone_any _ t w hrd (Nat.le_trans hle (by decide))
    rw [hvs] at hk
    clear hsb hm htx e hs hrd hle hvs
    go_enter Tryz.func32, Tryz.ntmps32
    go_wp2_with (first
      | (go_at_call 64; refine (HBC.out).mono ?_; rintro e4 y4 ⟨v4, rfl, ow4, bl4⟩
         have HO : Hid (OwnB y4 w.heap.size v4 t ∧ Below w.heap.size w y4) := ⟨ow4, bl4⟩
         clear ow4 bl4))
    refine bodyPost_ret (results_tmp2 rfl _ _ _) rfl ?_
    exact ⟨v4, rfl, HO.out.1, HO.out.2⟩
theorem reads_keep {w w' : World} {R : Nat → Prop} {v : Value} {t : Bs} (h : Reads w v t) (hm : Mut R w w') (hb : ∀ b, v.ownBlock = some b → b < w.heap.size → ¬ R b) : Reads w' v t := by
  obtain ⟨ad, cap, h1, h2, h3, h4⟩ := h
  refine ⟨ad, cap, h1, h2, h3, fun hp => ?_⟩
  obtain ⟨b, off, h5, h6⟩ := h4 hp
  refine ⟨b, off, h5, fun j hj => ?_⟩
  have hc := h6 j hj
  have hl := block_lt_of_cell hc
  have hn := hb b (by rw [h1, h5]; rfl) hl
  rw [World.cell?_of_block (w := w) (hm.block b hl hn)]
  exact hc
/-- a store without keys stays where another one is changed -/
theorem StM.keep0 {w w' : World} {gs gd lg gm n : Nat} {P Q R : Nat → Prop} {V : Bs → Value} {D : DkT} {J : JnT} (h : StM w gs gd lg gm n P Q V [] D J) (hm : Mut R w w') (hR : ∀ k, k < w.heap.size → R k → ¬ Um P Q gm k ∧ k ≠ gs) : StM w' gs gd lg gm n P Q V [] D J :=
  ⟨hm.blk h.sb (fun hr => (hR gs h.sb.lt hr).2 rfl), ⟨h.pk.dk.same14 (fun k hk => hm.block k (h.pk.dk.ltS k hk) (fun hr => (hR k (h.pk.dk.ltS k hk) hr).1 (Or.inl (Or.inl hk)))), h.pk.lg.sameS hm.size (fun k hk => hm.block k (h.pk.lg.ltS k hk) (fun hr => (hR k (h.pk.lg.ltS k hk) hr).1 (Or.inl (Or.inr hk)))), h.pk.ap⟩, h.mp.same (hm.block gm h.mp.lt (fun hr => (hR gm h.mp.lt hr).1 (Or.inr rfl))), fun s t ht => (by cases ht), h.ns, h.nm⟩
/-- what a store's keys are read from -/
structure StR (w : World) (gs gm n : Nat) (lv : Value) (V : Bs → Value) (m : KM) : Prop where
  sb : Blk w gs [lv, .map (some gm)] 99
  mp : MapM w gm n V m
  tx : ∀ s t, getM m s = some t → Reads w (V s) t ∧ t.length ≤ 1048576
theorem StM.rd {w : World} {gs gd lg gm n : Nat} {P Q : Nat → Prop} {V : Bs → Value} {m : KM} {D : DkT} {J : JnT} (h : StM w gs gd lg gm n P Q V m D J) : StR w gs gm n (.pointer (some ⟨lg, 0, none⟩)) V m := ⟨h.sb, h.mp, fun s t ht => ⟨(h.tx s t ht).1.now, (h.tx s t ht).2⟩⟩
theorem StR.below {w w' : World} {gs gm n : Nat} {lv : Value} {V : Bs → Value} {m : KM} (h : StR w gs gm n lv V m) (hb : Below w.heap.size w w') : StR w' gs gm n lv V m := ⟨h.sb.below hb h.sb.lt, h.mp.same (hb.block gm h.mp.lt), fun s t ht => ⟨(h.tx s t ht).1.below hb, (h.tx s t ht).2⟩⟩
theorem StR.keep {w w' : World} {R : Nat → Prop} {gs gm n : Nat} {lv : Value} {V : Bs → Value} {m : KM} (h : StR w gs gm n lv V m) (hm : Mut R w w') (h1 : ¬ R gs) (h2 : ¬ R gm) (h3 : ∀ s t, getM m s = some t → ∀ b, (V s).ownBlock = some b → b < w.heap.size → ¬ R b) : StR w' gs gm n lv V m :=
  ⟨hm.blk h.sb h1, h.mp.same (hm.block gm h.mp.lt h2), fun s t ht => ⟨reads_keep (h.tx s t ht).1 hm (h3 s t ht), (h.tx s t ht).2⟩⟩
theorem acts_rdp {w : World} {v : Value} {l : List ActT} (h : ReadsA w v l) : ∃ ps : List (ActT × Value), RdP w v ps ∧ ps.map (·.1) = l ∧ (∀ p ∈ ps, Reads w p.2 p.1.data) ∧ ∀ p ∈ ps, isSl p.2 = true := by
  obtain ⟨ad, cap, h1, h2, h3, h4⟩ := h
  by_cases h0 : 0 < l.length
  case neg =>
    have : l = [] := List.eq_nil_of_length_eq_zero (by omega)
    subst this
    exact ⟨[], ⟨ad, cap, h1, fun h => by simp at h⟩, rfl, (fun p hp => by cases hp), fun p hp => by cases hp⟩
  case pos =>
    obtain ⟨b, off, h5, h6⟩ := h4 h0
    have ex : ∃ f : Nat → Value, ∀ j, j < l.length → w.rangeAt b (off + j * 3) (actC (l.getD j ⟨[], false, []⟩) (f j)) ∧ Reads w (f j) (l.getD j ⟨[], false, []⟩).data :=
      ⟨fun j => if hj : j < l.length then Classical.choose (h6 j hj) else .slice none 0 0, fun j hj => by
        simp only [dif_pos hj]
        exact Classical.choose_spec (h6 j hj)⟩
    obtain ⟨f, hf⟩ := ex
    have hat : ∀ j p, (l.mapIdx fun i a => (a, f i))[j]? = some p → j < l.length ∧ p = (l.getD j ⟨[], false, []⟩, f j) := fun j p hp => by
      rw [List.getElem?_mapIdx] at hp
      by_cases hj : j < l.length
      · rw [List.getElem?_eq_getElem hj] at hp
        simp at hp
        exact ⟨hj, by rw [← hp, List.getD_eq_getElem?_getD, List.getElem?_eq_getElem hj]; rfl⟩
      · rw [List.getElem?_eq_none (by omega)] at hp
        cases hp
    have hmem : ∀ p ∈ (l.mapIdx fun i a => (a, f i)), Reads w p.2 p.1.data := fun p hp => by
      obtain ⟨j, hj⟩ := List.getElem?_of_mem hp
      obtain ⟨h7, rfl⟩ := hat j p hj
      exact (hf j h7).2
    refine ⟨l.mapIdx fun i a => (a, f i), ⟨ad, cap, by rw [List.length_mapIdx]; exact h1, fun _ => ⟨b, off, h5, fun j p hp => ?_⟩⟩, ?_, hmem, fun p hp => ?_⟩
    · obtain ⟨h7, rfl⟩ := hat j p hp
      exact (hf j h7).1
    · apply List.ext_getElem?
      intro j
      rw [List.getElem?_map, List.getElem?_mapIdx]
      cases l[j]? <;> rfl
    · obtain ⟨a, n, c, e⟩ := (hmem p hp).form
      rw [e]
      rfl
end Go.Proofs.YtopmeedmgjdcgaaGreatDoor
/- The reference's Whole and Same (layer 15). -/
namespace Go.Proofs.YtopmeedmgjdcgaaGreatDoor
open Go.RowKit
set_option maxRecDepth 100000
theorem idxT15 (b off n c k : Nat) (hk : k < n) (f : Operand → Value) (o : Oper) (x y : Operand) (ho : o.op = .indexAddr 41 x y) (hx : f x = .slice (some ⟨b, off, none⟩) n c) (hy : f y = .int .i64 (k : Int)) (w : World) :
    (execOp f o).run Tryz.prog w = .ok (.value (.pointer (some ⟨b, off + k, none⟩))) w := by
  have k0 : (0 : Int) ≤ (k : Int) := by omega
  have k1 : (k : Int) < (n : Int) := by omega
  have hs : (sizeOf 23).run Tryz.prog w = .ok 1 w := by kernel_rfl
  unfold execOp
  rw [ho]
  simp [go_sem, hx, hy, k0, k1, Addr.add_mid, hs]
theorem build_act3 (f : Operand → Value) (o : Oper) (x y : Operand) (s : ByteArray) (ad : Option Addr) (n c : Nat) (hc : f (.const (.bool true)) = .bool true) (ho : o.op = .build 62 #[(0, x), (1, .const (.bool true)), (2, y)]) (hx : f x = .string s) (hy : f y = .slice ad n c) (w : World) : (execOp f o).run Tryz.prog w = .ok (.value (.agg [.string s, .bool true, .slice ad n c].toArray)) w := by
  unfold execOp
  rw [ho]
  simp only [List.map_toArray, List.map_cons, List.map_nil, hx, hy, hc]
  kernel_rfl
theorem ReadsS.at15 {w : World} {ad : Option Addr} {n c k : Nat} {ks : List Bs} (h : ReadsS w (.slice ad n c) ks) (hk : k < ks.length) : ∃ b off, ad = some ⟨b, off, none⟩ ∧ w.cell? ⟨b, off + k, none⟩ = some (.string (strB (ks.getD k []))) := by
  obtain ⟨ad', cap, h1, _, _, h2⟩ := h
  simp only [Value.slice.injEq] at h1
  obtain ⟨b, off, h3, h4⟩ := h2 (by omega)
  exact ⟨b, off, by rw [h1.1]; exact h3, h4 k hk⟩
/-- an act behind a row of acts, in a region that draws -/
theorem wp_appendR {o : Oper} {a : Act} {w : World} {K : Act → World → Prop} {Q : Exit → Act → World → Prop} (s x : Operand) (base : Nat) (v : Value) (ps : List (ActT × Value)) (p : ActT × Value) (g : Nat) (av : Option Addr) (nv cv : Nat) (hpv : p.2 = .slice av nv cv)
    (hown : w.ownsRow base 62 3 v ps.length (rowP ps)) (hb : Blk w g (actC p.1 p.2) 62) (hlen : ps.length < 1000000) (hbase : base ≤ w.heap.size)
    (ho : o.op = .call { callee := .builtin .append, args := #[s, x], argTypes := #[22, 22] }) (hs : a.eval s = v) (hx : a.eval x = .slice (some ⟨g, 0, none⟩) 1 1)
    (h : ∀ v' w', w'.ownsRow base 62 3 v' (ps ++ [p]).length (rowP (ps ++ [p])) → w.grownBy w' v.ownBlock → K (a.put o.dst v') w') : o.wp Tryz.prog a w K Q := by
  obtain ⟨i0, hi, hz0, hz1, hz2⟩ := info_parts Tryz.infoact
  obtain ⟨v', w', hr, h2, h3, h4, h5⟩ := run_append_own_at (P := Tryz.prog) w base 22 o.type 62 i0 (.agg zA.toArray) 3 48 Tryz.underlying22 hi hz0 hz1 hz2 rfl (by decide) v ps.length (rowP ps) hown ⟨g, 0, none⟩ 1 1 (actC p.1 p.2) rfl (fun j u hj => by rw [Addr.add_mid, Nat.zero_add, hb.cell]; exact hj) (by rw [actC, hpv]; exact one_act _ _ _ _ _) (by unfold maxLen; omega) (by omega) hbase
  unfold Oper.wp execOp
  simp only [ho, resolve, invoke, builtin, Sem.run_bind, Sem.run_pure, Result.andThen_ok, List.map_toArray, List.map_cons, List.map_nil, hs, hx, hr]
  exact h v' w' (by rw [List.length_append, rowP_snoc]; exact h2) h3
/-- keys and texts, as Whole goes over them -/
structure WhI (w : World) (m : KM) (k : Nat) (v : Value) (wr : World) (ps : List (ActT × Value)) : Prop where
  row : wr.ownsRow w.heap.size 62 3 v ps.length (rowP ps)
  ac : ps.map (·.1) = wholeM (m.take k)
  dat : ∀ p ∈ ps, Reads w p.2 p.1.data
  bel : Below w.heap.size w wr
theorem WhI.len {w wr : World} {m : KM} {k : Nat} {v : Value} {ps : List (ActT × Value)} (h : WhI w m k v wr ps) (hk : k ≤ m.length) : ps.length = k := by
  have := congrArg List.length h.ac
  rw [List.length_map] at this
  simp [wholeM] at this
  omega
set_option maxRecDepth 100000 in
set_option maxHeartbeats 8000000 in
theorem oWhole_any (vK vV : Value) (m : KM) (w : World) (hr : ReadsS w vK (m.map (·.1))) (hv : ReadsL w vV (m.map (·.2))) (hl : m.length < 1000000) : Calls Tryz.prog 51 #[.agg [vK, vV].toArray] w fun e w' => ∃ v, e = .returned v ∧ ReadsA w' v (wholeM m) ∧ Below w.heap.size w w' := by
  have HR : Hid (ReadsS w vK (m.map (·.1))) := hr
  have HV : Hid (ReadsL w vV (m.map (·.2))) := hv
  obtain ⟨n, HN⟩ : ∃ n, Hid (n = m.length) := ⟨_, rfl⟩
  obtain ⟨ad, c, hvk⟩ := hr.form
  rw [List.length_map, ← HN.out] at hvk
  subst hvk
  obtain ⟨ad2, c2, hvv, _⟩ := hv
  rw [List.length_map, ← HN.out] at hvv
  subst hvv
  have HL : Hid (n < 1000000) := by rw [HN.out]; exact hl
  clear hr hl
  go_enter Tryz.func51, Tryz.ntmps51
  have ta0 : Hid True := trivial
  go_wp2_with (first
    | (clear ta0; with_reducible refine wpSeq_boxW 43 (.tmp 0) [.slice ad n c, .slice ad2 n c2] ?_ ?_ ?_ ?_
       · rfl
       · rfl
       · rfl
       intro g1 y1 nn
       have HM : Hid (Blk y1 g1 [.slice ad n c, .slice ad2 n c2] 43) := nn.blk
       have HB1 : Hid (Below w.heap.size w y1) := nn.below
       have HG1 : Hid (w.heap.size ≤ g1) := nn.ge
       clear nn))
  have HI0 : Hid (WhI w m 0 (.slice none 0 0) y1 []) := ⟨World.ownsRow_nil _ _ _ _, rfl, fun p hp => (by cases hp), HB1.out⟩
  go_loopw [3, 4] (fun v i wr => ∃ (a0 : Option Addr) (k c0 : Nat), k ≤ n ∧ v = .slice a0 k c0 ∧ i = .int .i64 (k : Int) ∧ Hid (∃ ps, WhI w m k (.slice a0 k c0) wr ps) ∧ Hid (Blk wr g1 [.slice ad n c, .slice ad2 n c2] 43)) (fun _ i _ => n - (intOf i).toNat)
  case atStart => exact ⟨none, 0, 0, Nat.zero_le _, rfl, rfl, ⟨[], HI0.out⟩, HM⟩
  case round =>
    clear HI0 HM HB1
    obtain ⟨a0, k, cc, hkn, rfl, rfl, HW, HM⟩ := hrel
    have c0 : wr.cell? ⟨g1, 0, none⟩ = some (.slice ad n c) := HM.out.cell 0
    by_cases hlt : k < n
    case neg =>
      obtain rfl : k = n := by omega
      have hlk : ¬ ((k : Int) < (k : Int)) := by omega
      go_wp2
      go_ret
      obtain ⟨ps, hI⟩ := HW.out
      refine ⟨_, rfl, ?_, hI.bel⟩
      have h3 := rowA_reads hI.row (fun p hp => (hI.dat p hp).below hI.bel)
      rw [hI.ac, List.take_of_length_le (by rw [← HN.out]; exact Nat.le_refl _)] at h3
      exact h3
    case pos =>
      obtain ⟨q, hq⟩ : ∃ q, m[k]? = some q := ⟨_, List.getElem?_eq_getElem (by rw [← HN.out]; exact hlt)⟩
      obtain ⟨ky, da⟩ := q
      obtain ⟨ps, hI⟩ := HW.out
      have hpl : ps.length = k := hI.len (by rw [← HN.out]; exact hkn)
      obtain ⟨bK, oK, eK, cK⟩ : ∃ b off, ad = some ⟨b, off, none⟩ ∧ w.cell? ⟨b, off + k, none⟩ = some (.string (strB ky)) := by
        obtain ⟨b, off, h1, h2⟩ := HR.out.at15 (k := k) (by rw [List.length_map, ← HN.out]; exact hlt)
        refine ⟨b, off, h1, ?_⟩
        rw [h2, List.getD_eq_getElem?_getD, List.getElem?_map, hq]
        rfl
      obtain ⟨bV, oV, vj, eV, cV, rV⟩ : ∃ b off vj, ad2 = some ⟨b, off, none⟩ ∧ w.cell? ⟨b, off + k, none⟩ = some vj ∧ Reads w vj da := by
        obtain ⟨ad3, c3, h1, _, _, h2⟩ := HV.out
        simp only [Value.slice.injEq] at h1
        obtain ⟨b, off, h3, h4⟩ := h2 (by rw [List.length_map, ← HN.out]; omega)
        obtain ⟨vj, h5, h6⟩ := h4 k (by rw [List.length_map, ← HN.out]; exact hlt)
        rw [List.getD_eq_getElem?_getD, List.getElem?_map, hq] at h6
        exact ⟨b, off, vj, by rw [h1.1]; exact h3, h5, h6⟩
      subst eK
      subst eV
      obtain ⟨av, nv, cv, hvj⟩ := rV.form
      subst hvj
      obtain ⟨sk, HSK⟩ : ∃ x, Hid (x = strB ky) := ⟨_, rfl⟩
      rw [← HSK.out] at cK
      have HCK : Hid (∀ wx, Below w.heap.size w wx → wx.cell? ⟨bK, oK + k, none⟩ = some (.string sk) ∧ wx.cell? ⟨bV, oV + k, none⟩ = some (.slice av nv cv)) := fun wx hb => ⟨(World.cell?_of_block (hb.block bK (block_lt_of_cell cK))).trans cK, (World.cell?_of_block (hb.block bV (block_lt_of_cell cV))).trans cV⟩
      have HI : Hid (WhI w m k (.slice a0 k cc) wr.drew ps ∧ ps.length = k) := ⟨⟨hI.row.kept (row := none) ⟨rfl, rfl, rfl, Nat.le_refl _, fun _ _ _ => rfl⟩ (by cases (Value.slice a0 k cc).ownBlock <;> simp), hI.ac, hI.dat, hI.bel.drew⟩, hpl⟩
      have HRV : Hid (Reads w (.slice av nv cv) da) := rV
      have HAC : Hid (wholeM (m.take (k + 1)) = wholeM (m.take k) ++ [⟨ky, true, da⟩]) := by show _ = _; rw [List.take_add_one, hq, wholeM, List.map_append]; rfl
      have k3 : (k : Int) < (n : Int) := by omega
      have f5 : IntKind.i64.wrap ((k : Int) + 1) = (k : Int) + 1 := by have := HL.out; rw [IntKind.wrap_i64]; omega
      have HLT : Hid (k < n) := hlt
      clear hq hI HW cK cV rV hpl
      go_upto_region 5 with fail
      clear c0
      refine wp_region_held_drew (S := fun wx => Blk wx g1 [.slice (some ⟨bK, oK, none⟩) n c, .slice (some ⟨bV, oV, none⟩) n c2] 43 ∧ Below w.heap.size w wx) (by kernel_rfl) ⟨HM.out.drew, HI.out.1.bel⟩ ?_
      intro hS
      refine wpAnyH_take (i := 0) (v := .slice a0 k cc) rfl (by kernel_rfl) (by kernel_rfl) (by kernel_rfl) (fun _ _ _ h => h) (Or.inl ⟨by rfl, fun wx hx => by simp [go_sem]⟩) hS ?_
      simp only [Act.put, List.getElem_toArray, List.getElem_cons_zero, List.setIfInBounds_toArray, List.set_cons_zero, List.set_cons_succ]
      refine wpAnyH_take (i := 1) (v := .pointer (some ⟨g1, 0, none⟩)) rfl (by kernel_rfl) (by kernel_rfl) (by kernel_rfl) (fun _ _ _ h => h) (Or.inl ⟨by rfl, fun wx hx => by simp [go_sem]⟩) hS ?_
      simp only [Act.put, List.getElem_toArray, List.getElem_cons_succ, List.getElem_cons_zero, List.setIfInBounds_toArray, List.set_cons_zero, List.set_cons_succ]
      refine wpAnyH_take (i := 2) (v := .slice (some ⟨bK, oK, none⟩) n c) rfl (by kernel_rfl) (by kernel_rfl) (by kernel_rfl) (fun _ _ _ h => h) (Or.inl ⟨by rfl, fun wx hx => by (have cx : wx.cell? ⟨g1, 0, none⟩ = some (.slice (some ⟨bK, oK, none⟩) n c) := hx.1.cell 0; simp [go_sem, cx])⟩) hS ?_
      simp only [Act.put, List.getElem_toArray, List.getElem_cons_succ, List.getElem_cons_zero, List.setIfInBounds_toArray, List.set_cons_zero, List.set_cons_succ]
      refine wpAnyH_take (i := 3) (v := .int .i64 (k : Int)) rfl (by kernel_rfl) (by kernel_rfl) (by kernel_rfl) (fun _ _ _ h => h) (Or.inl ⟨by rfl, fun wx hx => by simp [go_sem]⟩) hS ?_
      simp only [Act.put, List.getElem_toArray, List.getElem_cons_succ, List.getElem_cons_zero, List.setIfInBounds_toArray, List.set_cons_zero, List.set_cons_succ]
      refine wpAnyH_take (i := 4) (v := .pointer (some ⟨bK, oK + k, none⟩)) rfl (by kernel_rfl) (by kernel_rfl) (by kernel_rfl) (fun _ _ _ h => h) (Or.inl ⟨by rfl, fun wx hx => by exact idxS bK oK n c k HLT.out _ _ (.tmp 14) (.tmp 15) rfl rfl rfl _⟩) hS ?_
      simp only [Act.put, List.getElem_toArray, List.getElem_cons_succ, List.getElem_cons_zero, List.setIfInBounds_toArray, List.set_cons_zero, List.set_cons_succ]
      refine wpAnyH_take (i := 5) (v := .string sk) rfl (by kernel_rfl) (by kernel_rfl) (by kernel_rfl) (fun _ _ _ h => h) (Or.inl ⟨by rfl, fun wx hx => by (have cx := (HCK.out wx hx.2).1; simp [go_sem, cx])⟩) hS ?_
      simp only [Act.put, List.getElem_toArray, List.getElem_cons_succ, List.getElem_cons_zero, List.setIfInBounds_toArray, List.set_cons_zero, List.set_cons_succ]
      refine wpAnyH_take (i := 6) (v := .pointer (some ⟨g1, 1, none⟩)) rfl (by kernel_rfl) (by kernel_rfl) (by kernel_rfl) (fun _ _ _ h => h) (Or.inl ⟨by rfl, fun wx hx => by simp [go_sem]⟩) hS ?_
      simp only [Act.put, List.getElem_toArray, List.getElem_cons_succ, List.getElem_cons_zero, List.setIfInBounds_toArray, List.set_cons_zero, List.set_cons_succ]
      refine wpAnyH_take (i := 7) (v := .slice (some ⟨bV, oV, none⟩) n c2) rfl (by kernel_rfl) (by kernel_rfl) (by kernel_rfl) (fun _ _ _ h => h) (Or.inl ⟨by rfl, fun wx hx => by (have cx : wx.cell? ⟨g1, 1, none⟩ = some (.slice (some ⟨bV, oV, none⟩) n c2) := hx.1.cell 1; simp [go_sem, cx])⟩) hS ?_
      simp only [Act.put, List.getElem_toArray, List.getElem_cons_succ, List.getElem_cons_zero, List.setIfInBounds_toArray, List.set_cons_zero, List.set_cons_succ]
      refine wpAnyH_take (i := 8) (v := .int .i64 (k : Int)) rfl (by kernel_rfl) (by kernel_rfl) (by kernel_rfl) (fun _ _ _ h => h) (Or.inl ⟨by rfl, fun wx hx => by simp [go_sem]⟩) hS ?_
      simp only [Act.put, List.getElem_toArray, List.getElem_cons_succ, List.getElem_cons_zero, List.setIfInBounds_toArray, List.set_cons_zero, List.set_cons_succ]
      refine wpAnyH_take (i := 9) (v := .pointer (some ⟨bV, oV + k, none⟩)) rfl (by kernel_rfl) (by kernel_rfl) (by kernel_rfl) (fun _ _ _ h => h) (Or.inl ⟨by rfl, fun wx hx => by exact idxT15 bV oV n c2 k HLT.out _ _ (.tmp 19) (.tmp 20) rfl rfl rfl _⟩) hS ?_
      simp only [Act.put, List.getElem_toArray, List.getElem_cons_succ, List.getElem_cons_zero, List.setIfInBounds_toArray, List.set_cons_zero, List.set_cons_succ]
      refine wpAnyH_take (i := 10) (v := .slice av nv cv) rfl (by kernel_rfl) (by kernel_rfl) (by kernel_rfl) (fun _ _ _ h => h) (Or.inl ⟨by rfl, fun wx hx => by (have cx := (HCK.out wx hx.2).2; simp [go_sem, cx])⟩) hS ?_
      simp only [Act.put, List.getElem_toArray, List.getElem_cons_succ, List.getElem_cons_zero, List.setIfInBounds_toArray, List.set_cons_zero, List.set_cons_succ]
      refine wpAnyH_take (i := 11) (v := .agg [.string sk, .bool true, .slice av nv cv].toArray) rfl (by kernel_rfl) (by kernel_rfl) (by kernel_rfl) (fun _ _ _ h => h) (Or.inl ⟨by rfl, fun wx hx => by exact build_act3 _ _ (.tmp 17) (.tmp 22) sk av nv cv rfl rfl rfl rfl _⟩) hS ?_
      simp only [Act.put, List.getElem_toArray, List.getElem_cons_succ, List.getElem_cons_zero, List.setIfInBounds_toArray, List.set_cons_zero, List.set_cons_succ]
      have HS0 : Hid (Blk wr.drew g1 [.slice (some ⟨bK, oK, none⟩) n c, .slice (some ⟨bV, oV, none⟩) n c2] 43) := hS.1
      obtain ⟨g5, z3, e3, e3w, n3⟩ : ∃ g y, g = wr.drew.heap.size ∧ y = wr.drew.alloc (.cells [.string sk, .bool true, .slice av nv cv].toArray 62) ∧ NewR [.string sk, .bool true, .slice av nv cv] 62 wr.drew g y := ⟨_, _, rfl, rfl, NewR.of _ _ _⟩
      have hS3 : Blk z3 g1 [.slice (some ⟨bK, oK, none⟩) n c, .slice (some ⟨bV, oV, none⟩) n c2] 43 ∧ Below w.heap.size w z3 := ⟨HS0.out.below n3.below HS0.out.lt, HI.out.1.bel.trans (n3.below.mono HI.out.1.bel.size)⟩
      refine wpAnyH_step 12 _ z3 (by kernel_rfl) rfl (by rfl) (by rw [e3w]; exact build_a1 _ _ (.tmp 23) sk true av nv cv rfl rfl _) hS3 ?_
      rw [← e3]
      clear e3 e3w
      have HR3 : Hid (z3.ownsRow w.heap.size 62 3 (.slice a0 k cc) ps.length (rowP ps)) := HI.out.1.row.kept (row := none) ⟨n3.below.os, n3.below.tape, n3.below.output, n3.below.size, fun j hj _ => n3.below.block j hj⟩ (by cases (Value.slice a0 k cc).ownBlock <;> simp)
      have HB3 : Hid (Blk z3 g5 (actC ⟨ky, true, da⟩ (.slice av nv cv)) 62) := by show Blk _ _ _ _; rw [actC, ← HSK.out]; exact n3.blk
      have HM3 : Hid (Blk z3 g1 [.slice (some ⟨bK, oK, none⟩) n c, .slice (some ⟨bV, oV, none⟩) n c2] 43 ∧ Below w.heap.size w z3) := hS3
      clear n3 hS hS3
      simp only [Act.put, List.getElem_toArray, List.getElem_cons_succ, List.getElem_cons_zero, List.setIfInBounds_toArray, List.set_cons_zero, List.set_cons_succ]
      refine wpAnyH_law 13 (by kernel_rfl) rfl (by rfl) (wp_appendR (.tmp 12) (.tmp 24) w.heap.size (.slice a0 k cc) ps (⟨ky, true, da⟩, .slice av nv cv) g5 av nv cv rfl HR3.out HB3.out (by rw [HI.out.2]; have h1 := HL.out; have h2 := HLT.out; omega) HM3.out.2.size rfl rfl rfl ?_)
      intro v4 z4 ho4 hg4
      have hlt4 : ∀ j, (Value.slice a0 k cc).ownBlock = some j → w.heap.size ≤ j ∧ j < z3.heap.size := World.ownsRow.lt HR3.out
      have hb4 : Below w.heap.size w z4 := ⟨hg4.os.trans HM3.out.2.os, hg4.tape.trans HM3.out.2.tape, hg4.output.trans HM3.out.2.output, Nat.le_trans HM3.out.2.size hg4.size, fun j hj => (hg4.block j (Nat.lt_of_lt_of_le hj HM3.out.2.size) (fun e => by have := (hlt4 j e.symm).1; omega)).trans (HM3.out.2.block j hj)⟩
      have hm4 : Blk z4 g1 [.slice (some ⟨bK, oK, none⟩) n c, .slice (some ⟨bV, oV, none⟩) n c2] 43 := blk_same HM3.out.1 (hg4.block g1 HM3.out.1.lt (fun e => by
        obtain ⟨_, ⟨e2, _⟩ | ⟨g2, cap2, cur2, e2, _, hh2, _⟩⟩ := id HR3.out
        · rw [e2] at e; cases e
        · rw [e2] at e
          simp [Value.ownBlock] at e
          rw [← e, HM3.out.1] at hh2
          simp only [Option.some.injEq, Obj.cells.injEq] at hh2
          exact absurd hh2.2.1 (by decide)))
      refine ⟨⟨hm4, hb4⟩, ?_⟩
      obtain ⟨a4, c4, hv4⟩ : ∃ a c, v4 = .slice a (k + 1) c := by
        have hl4 : (ps ++ [((⟨ky, true, da⟩ : ActT), Value.slice av nv cv)]).length = k + 1 := by rw [List.length_append, HI.out.2]; rfl
        rw [hl4] at ho4
        obtain ⟨_, ⟨h, h0⟩ | ⟨g, cap, cur, h, _⟩⟩ := ho4
        · omega
        · exact ⟨_, _, h⟩
      subst hv4
      have HI4 : Hid (∃ ps, WhI w m (k + 1) (.slice a4 (k + 1) c4) z4 ps) := ⟨_, ho4, by rw [List.map_append, HI.out.1.ac, HAC.out]; rfl, fun p hp => by
        rcases List.mem_append.1 hp with hp | hp
        · exact HI.out.1.dat p hp
        · rw [List.mem_singleton.1 hp]; exact HRV.out, hb4⟩
      have HM4 : Hid (Blk z4 g1 [.slice (some ⟨bK, oK, none⟩) n c, .slice (some ⟨bV, oV, none⟩) n c2] 43) := hm4
      clear ho4 hg4 hlt4
      simp only [Act.put, List.getElem_toArray, List.getElem_cons_succ, List.getElem_cons_zero, List.setIfInBounds_toArray, List.set_cons_zero, List.set_cons_succ]
      refine wpAnyH_take (i := 14) (v := .slice a4 (k + 1) c4) rfl (by kernel_rfl) (by kernel_rfl) (by kernel_rfl) (fun _ _ _ h => h) (Or.inl ⟨by rfl, fun wx hx => by simp [go_sem]⟩) ⟨hm4, hb4⟩ ?_
      simp only [Act.put, List.getElem_toArray, List.getElem_cons_succ, List.getElem_cons_zero, List.setIfInBounds_toArray, List.set_cons_zero, List.set_cons_succ]
      refine wpAnyH_done (by kernel_rfl) ?_ _
      clear hm4 hb4
      go_wp2
      go_roundw
      case rel => exact ⟨a4, k + 1, c4, HLT.out, rfl, rfl, HI4, HM4⟩
      case measure => simp [intOf]; have := HLT.out; omega
set_option maxRecDepth 100000 in
set_option maxHeartbeats 4000000 in
theorem oSame_any (vK vV uK uV : Value) (m m2 : KM) (w : World) (hr : ReadsS w vK (m.map (·.1))) (hv : ReadsL w vV (m.map (·.2))) (hr2 : ReadsS w uK (m2.map (·.1))) (hv2 : ReadsL w uV (m2.map (·.2))) (hl : m.length < 1000000) (hl2 : m2.length < 1000000) : Calls Tryz.prog 33 #[.agg [vK, vV].toArray, .agg [uK, uV].toArray] w fun e w' => e = .returned (.bool (decide (m = m2))) ∧ Below w.heap.size w w' := by
  have HA : Hid (ReadsS w vK (m.map (·.1)) ∧ ReadsL w vV (m.map (·.2)) ∧ m.length < 1000000) := ⟨hr, hv, hl⟩
  have HB : Hid (ReadsS w uK (m2.map (·.1)) ∧ ReadsL w uV (m2.map (·.2)) ∧ m2.length < 1000000) := ⟨hr2, hv2, hl2⟩
  have HD : Hid (decide (wholeM m = wholeM m2) = decide (m = m2)) := by
    show _ = _
    by_cases e : m = m2
    · rw [e]; simp
    · rw [decide_eq_false e, decide_eq_false (fun h => e (wholeM_inj h))]
  obtain ⟨r, HRR⟩ : ∃ x, Hid (x = decide (m = m2)) := ⟨_, rfl⟩
  rw [← HRR.out]
  obtain ⟨ka, na, ca, h1⟩ : ∃ a n c, vK = .slice a n c := by obtain ⟨a, c, h⟩ := hr.form; exact ⟨a, _, c, h⟩
  obtain ⟨kb, nb, cb, h2⟩ : ∃ a n c, uK = .slice a n c := by obtain ⟨a, c, h⟩ := hr2.form; exact ⟨a, _, c, h⟩
  obtain ⟨va, ma, da, h3⟩ : ∃ a n c, vV = .slice a n c := by obtain ⟨a, c, h, _⟩ := hv; exact ⟨a, _, c, h⟩
  obtain ⟨vb, mb, db, h4⟩ : ∃ a n c, uV = .slice a n c := by obtain ⟨a, c, h, _⟩ := hv2; exact ⟨a, _, c, h⟩
  subst h1 h2 h3 h4
  clear hr hv hl hr2 hv2 hl2
  go_enter Tryz.func33, Tryz.ntmps33
  have ta0 : Hid True := trivial
  have ta1 : Hid True := trivial
  go_upto_region 1 with (first
    | (clear ta0; with_reducible refine wpSeq_boxW 43 (.tmp 0) [.slice ka na ca, .slice va ma da] ?_ ?_ ?_ ?_
       · rfl
       · rfl
       · rfl
       intro g1 y1 nn
       have H1 : Hid (Blk y1 g1 [.slice ka na ca, .slice va ma da] 43) := nn.blk
       have HB1 : Hid (Below w.heap.size w y1) := nn.below
       clear nn)
    | (clear ta1; with_reducible refine wpSeq_boxW 43 (.tmp 1) [.slice kb nb cb, .slice vb mb db] ?_ ?_ ?_ ?_
       · rfl
       · rfl
       · rfl
       intro g2 y2 nn
       have H2 : Hid (Blk y2 g2 [.slice kb nb cb, .slice vb mb db] 43) := nn.blk
       have HB2 : Hid (Below w.heap.size w y2.drew) := (HB1.out.trans (nn.below.mono HB1.out.size)).drew
       replace H1 : Hid (Blk y2 g1 [.slice ka na ca, .slice va ma da] 43) := H1.out.below nn.below H1.out.lt
       clear nn))
  refine wp_region_held_drew (S := fun wx => Blk wx g1 [.slice ka na ca, .slice va ma da] 43 ∧ Blk wx g2 [.slice kb nb cb, .slice vb mb db] 43) (by kernel_rfl) ⟨H1.out.drew, H2.out.drew⟩ ?_
  intro hS
  refine wpAnyH_take (i := 0) (v := .agg [.slice ka na ca, .slice va ma da].toArray) rfl (by kernel_rfl) (by kernel_rfl) (by kernel_rfl) (fun _ _ _ h => h) (Or.inl ⟨by rfl, fun wx hx => by exact load_run 43 _ rfl _ _ rfl [.slice ka na ca, .slice va ma da] _ (Blk.range hx.1) Tryz.underlying43 rfl (info_keys _ _)⟩) hS ?_
  simp only [Act.put, List.getElem_toArray, List.getElem_cons_zero, List.setIfInBounds_toArray, List.set_cons_zero, List.set_cons_succ]
  refine wpAnyH_take (i := 2) (v := .agg [.slice kb nb cb, .slice vb mb db].toArray) rfl (by kernel_rfl) (by kernel_rfl) (by kernel_rfl) (fun _ _ _ h => h) (Or.inl ⟨by rfl, fun wx hx => by exact load_run 43 _ rfl _ _ rfl [.slice kb nb cb, .slice vb mb db] _ (Blk.range hx.2) Tryz.underlying43 rfl (info_keys _ _)⟩) hS ?_
  simp only [Act.put, List.getElem_toArray, List.getElem_cons_succ, List.getElem_cons_zero, List.setIfInBounds_toArray, List.set_cons_zero, List.set_cons_succ]
  refine wpAnyH_enter 1 (by kernel_rfl) rfl (by rfl) (f := 51) (args := #[.agg [.slice ka na ca, .slice va ma da].toArray]) (by simp [go_sem]) (oWhole_any _ _ m _ (HA.out.1.below HB2.out) (HA.out.2.1.below HB2.out) HA.out.2.2) ?_
  rintro e3 y3 ⟨v3, rfl, hr3, bl3⟩
  obtain ⟨a3, n3, c3, hv3⟩ : ∃ a n c, v3 = .slice a n c := by obtain ⟨a, c, h⟩ := hr3.form; exact ⟨a, _, c, h⟩
  subst hv3
  replace hS : Blk y3 g1 [.slice ka na ca, .slice va ma da] 43 ∧ Blk y3 g2 [.slice kb nb cb, .slice vb mb db] 43 := ⟨hS.1.below bl3 hS.1.lt, hS.2.below bl3 hS.2.lt⟩
  have HB3 : Hid (Below w.heap.size w y3) := HB2.out.trans (bl3.mono HB2.out.size)
  have HR3 : Hid (ReadsA y3 (.slice a3 n3 c3) (wholeM m)) := hr3
  refine ⟨_, rfl, hS, ?_⟩
  simp only [Act.put, List.getElem_toArray, List.getElem_cons_succ, List.getElem_cons_zero, List.setIfInBounds_toArray, List.set_cons_zero, List.set_cons_succ]
  refine wpAnyH_enter 3 (by kernel_rfl) rfl (by rfl) (f := 51) (args := #[.agg [.slice kb nb cb, .slice vb mb db].toArray]) (by simp [go_sem]) (oWhole_any _ _ m2 _ (HB.out.1.below HB3.out) (HB.out.2.1.below HB3.out) HB.out.2.2) ?_
  rintro e4 y4 ⟨v4, rfl, hr4, bl4⟩
  obtain ⟨a4, n4, c4, hv4⟩ : ∃ a n c, v4 = .slice a n c := by obtain ⟨a, c, h⟩ := hr4.form; exact ⟨a, _, c, h⟩
  subst hv4
  replace hS : Blk y4 g1 [.slice ka na ca, .slice va ma da] 43 ∧ Blk y4 g2 [.slice kb nb cb, .slice vb mb db] 43 := ⟨hS.1.below bl4 hS.1.lt, hS.2.below bl4 hS.2.lt⟩
  have HB4 : Hid (Below w.heap.size w y4) := HB3.out.trans (bl4.mono HB3.out.size)
  refine ⟨_, rfl, hS, ?_⟩
  simp only [Act.put, List.getElem_toArray, List.getElem_cons_succ, List.getElem_cons_zero, List.setIfInBounds_toArray, List.set_cons_zero, List.set_cons_succ]
  refine wpAnyH_enter 4 (by kernel_rfl) rfl (by rfl) (f := 15) (args := #[.slice a3 n3 c3, .slice a4 n4 c4]) (by simp [go_sem]) (oSameActs_any _ _ (wholeM m) (wholeM m2) _ (HR3.out.below bl4) hr4 (by rw [show (wholeM m).length = m.length by simp [wholeM]]; have := HA.out.2.2; omega)) ?_
  rintro e5 y5 ⟨rfl, bl5⟩
  replace hS : Blk y5 g1 [.slice ka na ca, .slice va ma da] 43 ∧ Blk y5 g2 [.slice kb nb cb, .slice vb mb db] 43 := ⟨hS.1.below bl5 hS.1.lt, hS.2.below bl5 hS.2.lt⟩
  have HB5 : Hid (Below w.heap.size w y5) := HB4.out.trans (bl5.mono HB4.out.size)
  refine ⟨_, rfl, hS, ?_⟩
  rw [HD.out, ← HRR.out]
  simp only [Act.put, List.getElem_toArray, List.getElem_cons_succ, List.getElem_cons_zero, List.setIfInBounds_toArray, List.set_cons_zero, List.set_cons_succ]
  refine wpAnyH_take (i := 5) (v := .bool r) rfl (by kernel_rfl) (by kernel_rfl) (by kernel_rfl) (fun _ _ _ h => h) (Or.inl ⟨by rfl, fun wx hx => by simp [go_sem]⟩) hS ?_
  simp only [Act.put, List.getElem_toArray, List.getElem_cons_succ, List.getElem_cons_zero, List.setIfInBounds_toArray, List.set_cons_zero, List.set_cons_succ]
  refine wpAnyH_done (by kernel_rfl) ?_ _
  clear hS hr3 hr4 bl3 bl4 bl5
  go_wp2
  go_ret
  exact ⟨rfl, HB5.out⟩
end Go.Proofs.YtopmeedmgjdcgaaGreatDoor
/- The law's fresh: a new disk and its store (layer 15). -/
namespace Go.Proofs.YtopmeedmgjdcgaaGreatDoor
open Go.RowKit
set_option maxRecDepth 100000
set_option maxRecDepth 100000 in
set_option maxHeartbeats 8000000 in
theorem fresh15_any (n : Int) (w : World) (hK : KOk w) : Calls Tryz.prog 19 #[.int .i64 n] w fun e w' => ∃ gd gs lg gm P Q, e = .returned (.tuple #[.pointer (some ⟨gd, 0, none⟩), .pointer (some ⟨gs, 0, none⟩)]) ∧ StM w' gs gd lg gm 0 P Q nilV [] (openD (zeroD (nSec n))) jn0 ∧ Below w.heap.size w w' ∧ (∀ k, Um P Q gm k → w.heap.size ≤ k) ∧ w.heap.size ≤ gs := by
  obtain ⟨u, HU⟩ : ∃ u : Nat, Hid (u = (n % 18446744073709551616).toNat) := ⟨_, rfl⟩
  obtain ⟨r, HR⟩ : ∃ r : Nat, Hid (r = u % 40) := ⟨_, rfl⟩
  obtain ⟨m, HM⟩ : ∃ m : Nat, Hid (m = nSec n) := ⟨_, rfl⟩
  have hu := HU.out
  have hr := HR.out
  have hm : m = 8 + r := by rw [HM.out, nSec, ← hu, ← hr]
  have f1 : IntKind.u64.wrap n = (u : Int) := by rw [IntKind.wrap_u64]; omega
  have f2 : (u : Int) % 40 = (r : Int) := by omega
  have f3 : IntKind.i64.wrap (r : Int) = (r : Int) := by rw [IntKind.wrap_i64]; omega
  have f4 : IntKind.i64.wrap (8 + (r : Int)) = (m : Int) := by rw [IntKind.wrap_i64, hm]; omega
  have hml := nSec_le n
  rw [← HM.out] at hml ⊢
  have HNW : Hid (Calls Tryz.prog 35 #[.int .i64 (m : Int)] w fun r w' => ∃ g gs, r = .returned (.tuple #[.pointer (some ⟨g, 0, none⟩), .int .i64 0]) ∧ DkM w' g gs (.slice none 0 0) false 0 (zeroD m) ∧ Below w.heap.size w w' ∧ w.heap.size ≤ g ∧ w.heap.size ≤ gs) := dkNew_m w m (by omega) (by omega)
  have HOP : Hid (∀ (W : World) (gd : Nat) (P : Nat → Prop), KOk W → DkIs W gd P (zeroD m) → Calls Tryz.prog 28 #[.pointer (some ⟨gd, 0, none⟩)] W fun e w' => ∃ gs lg gm P' Q, e = .returned (.tuple #[.pointer (some ⟨gs, 0, none⟩), .int .i64 0]) ∧ StM w' gs gd lg gm 0 P' Q nilV [] (openD (zeroD m)) jn0 ∧ Mut P W w' ∧ Grew W P P' ∧ (∀ k, Q k → W.heap.size ≤ k) ∧ W.heap.size ≤ gs ∧ W.heap.size ≤ gm) := fun W gd P hk hd => sOpen_zero m hk hd hml.1 (Nat.le_trans hml.2 (by decide))
  have HK0 : Hid (KOk w) := hK
  clear hu hr hm hml hK
  go_enter Tryz.func19, Tryz.ntmps19
  have tk0 : Hid True := trivial
  have tk1 : Hid True := trivial
  go_wp2_with (first
    | (clear tk0; go_at_call 35; refine (HNW.out).mono ?_; rintro e0 y1 ⟨gd, gs0, rfl, hm, hb, hg1, hg2⟩
       have HDK : Hid (DkIs y1 gd (dkP gd gs0 (.slice none 0 0)) (zeroD m)) := ⟨gs0, _, _, _, hm, rfl⟩
       have HPW : Hid (∀ k, dkP gd gs0 (.slice none 0 0) k → w.heap.size ≤ k) := fun k hk => by
         rcases hk with rfl | rfl | hk
         · exact hg1
         · exact hg2
         · cases hk
       have HBW : Hid (Below w.heap.size w y1) := hb
       clear hm hb hg1 hg2 HNW)
    | (clear tk1; go_at_call 28; refine (HOP.out _ _ _ (HK0.out.below HBW.out HK0.out.lt) HDK.out).mono ?_; rintro e0 y2 ⟨gs, lg, gm, P2, Q2, rfl, hs2, hm2, hg2, hq2, hgs, hgm⟩
       have HS : Hid (StM y2 gs gd lg gm 0 P2 Q2 nilV [] (openD (zeroD m)) jn0) := hs2
       have HUN : Hid ((∀ k, Um P2 Q2 gm k → w.heap.size ≤ k) ∧ w.heap.size ≤ gs) := ⟨fun k hk => by
         rcases hk with (h | h) | rfl
         · exact (hg2 k h).elim (HPW.out k) (fun h => Nat.le_trans HBW.out.size h)
         · exact Nat.le_trans HBW.out.size (hq2 k h)
         · exact Nat.le_trans HBW.out.size hgm, Nat.le_trans HBW.out.size hgs⟩
       replace HBW : Hid (Below w.heap.size w y2) := HBW.out.trans (hm2.below HBW.out.size HPW.out)
       clear hs2 hm2 hg2 hq2 hgs hgm HOP HDK HPW))
  refine bodyPost_ret (results_tmp2 rfl _ _ _) rfl ?_
  exact ⟨gd, gs, lg, gm, P2, Q2, rfl, HS.out, HBW.out, HUN.out.1, HUN.out.2⟩
end Go.Proofs.YtopmeedmgjdcgaaGreatDoor
/- The law StoreOrders (layer 15). -/
namespace Go.Proofs.YtopmeedmgjdcgaaGreatDoor
open Go.RowKit
set_option maxRecDepth 100000
def D47 : DkT := openD (zeroD 47)
theorem sp47 : StP [] D47 jn0 ∧ sizeD D47 = 47 := by
  obtain ⟨_, _, h3, h4⟩ := open_zero (m := 47) (by decide) (by decide)
  exact ⟨⟨h3, by rw [D47, h4]; decide, by rw [D47, h4]; decide, by decide, List.Pairwise.nil, Nat.le_refl _⟩, h4⟩
theorem nSec39 : nSec 39 = 47 := by decide
theorem apy_or {m : KM} {rs : List Bs} {l : List ActT} {n : Nat} (h : chkL l = 0) : apyX m rs l n = 0 ∨ apyX m rs l n = 13 := by
  unfold apyX
  split
  · split
    · exact Or.inl rfl
    · split
      · exact Or.inl rfl
      · exact Or.inr rfl
  · exact Or.inl h
/-- whatever lies beyond B -/
def Xb (B : Nat) (v : Value) : Prop := ∀ b, v.ownBlock = some b → B ≤ b
theorem xb_new {B : Nat} {w : World} (hB : B ≤ w.heap.size) : ∀ (W : World) (base : Nat) (v : Value) (t : Bs), OwnB W base v t → w.heap.size ≤ base → Xb B v := fun _ _ _ _ h hb b hk => Nat.le_trans hB (Nat.le_trans hb (h.own b hk))
theorem um_ge {w : World} {P Q P' Q' : Nat → Prop} {gm B : Nat} (h : ∀ k, Um P Q gm k → B ≤ k) (hg : Grew w (Un P Q) (Un P' Q')) (hB : B ≤ w.heap.size) : ∀ k, Um P' Q' gm k → B ≤ k := fun k hk => hk.elim (fun hk => (hg k hk).elim (fun hk => h k (Or.inl hk)) (fun hk => Nat.le_trans hB hk)) (fun e => h k (Or.inr e))
/-- Apply of a batch that came in, to a store in blocks beyond what was there -/
theorem apply_at {w W : World} {l : List ActT} {v : Value} {ps : List (ActT × Value)} (hp : RdP w v ps ∧ ps.map (·.1) = l ∧ (∀ p ∈ ps, Reads w p.2 p.1.data) ∧ (∀ p ∈ ps, isSl p.2 = true) ∧ ReadsA w v l) (hj : LightJ l true) (hK : KOk W) (hb : Below w.heap.size w W) {gs gd lg gm n : Nat} {P Q : Nat → Prop} {V : Bs → Value} {m : KM} {D : DkT} {J : JnT} (hS : StM W gs gd lg gm n P Q V m D J) (hU : ∀ k, Um P Q gm k → w.heap.size ≤ k) (hP : StP m D J) (hg : J.gen + 1 < 1000000) (hn : n + 60 < 10000000) {B : Nat} (hB : B ≤ W.heap.size) (hX : ∀ s t, getM m s = some t → Xb B (V s)) :
    Calls Tryz.prog 23 #[.pointer (some ⟨gs, 0, none⟩), v] W fun e w' => e = .returned (.int .i64 (apyX m J.l l (sizeD D))) ∧ ∃ n' P' Q' V' D' J', ApR (Xb B) W gs gd lg gm n P Q m D J l n' P' Q' V' D' J' w' ∧ Below w.heap.size w w' ∧ (∀ k, Um P' Q' gm k → w.heap.size ≤ k) ∧ l.length ≤ 60 := by
  obtain ⟨h1, h2, h3, h4, h5⟩ := hp
  obtain ⟨h6, h7⟩ := hj rfl
  have hpl : ps.length = l.length := by rw [← h2, List.length_map]
  have hst : Sta (Un P Q) W (fun W => RdP W v ps ∧ (∀ p ∈ ps, Reads W p.2 p.1.data) ∧ ReadsA W v (ps.map (·.1))) := fun X hm => by
    have hbx : Below w.heap.size w X := hb.trans (hm.below hb.size (fun k hk => hU k (Or.inl hk)))
    exact ⟨h1.below hbx, fun p hp => (h3 p hp).below hbx, by rw [h2]; exact h5.below hbx⟩
  have hc := sApply_any (Xb B) hS hK hP hg v ps hst h4 (by omega) (by rw [h2]; exact h7) (by omega) hX (xb_new hB)
  rw [h2] at hc
  refine hc.mono (fun e w' hx => ?_)
  obtain ⟨e1, n', P', Q', V', D', J', ap⟩ := hx
  exact ⟨e1, n', P', Q', V', D', J', ap, hb.trans (ap.mu.below hb.size hU), um_ge hU ap.gr hb.size, h6⟩
/-- a store of 47 sectors behind a batch -/
structure ApS (B : Nat) (w W : World) (gs gd lg gm : Nat) (P Q : Nat → Prop) (m : KM) (L : List Bs) (g nb n' : Nat) (P' Q' : Nat → Prop) (V' : Bs → Value) (D' : DkT) (J' : JnT) (w' : World) : Prop where
  st : StM w' gs gd lg gm n' P' Q' V' m D' J'
  sp : StP m D' J'
  rs : J'.l = L
  sz : sizeD D' = 47
  ge : J'.gen ≤ g + 1
  nn : n' ≤ nb + 60
  mu : Mut (Um P Q gm) W w'
  gr : Grew W (Un P Q) (Un P' Q')
  bw : Below w.heap.size w w'
  um : ∀ k, Um P' Q' gm k → w.heap.size ≤ k
  xx : ∀ s t, getM m s = some t → Xb B (V' s)
theorem apply_is {w W : World} {l : List ActT} {v : Value} {ps : List (ActT × Value)} (hp : RdP w v ps ∧ ps.map (·.1) = l ∧ (∀ p ∈ ps, Reads w p.2 p.1.data) ∧ (∀ p ∈ ps, isSl p.2 = true) ∧ ReadsA w v l) (hj : LightJ l true) (hK : KOk W) (hb : Below w.heap.size w W) {gs gd lg gm n : Nat} {P Q : Nat → Prop} {V : Bs → Value} {m : KM} {D : DkT} {J : JnT} (hS : StM W gs gd lg gm n P Q V m D J) (hU : ∀ k, Um P Q gm k → w.heap.size ≤ k) (hP : StP m D J) {L : List Bs} (hL : J.l = L) (hsz : sizeD D = 47) (g nb : Nat) (hg : J.gen ≤ g) (hg2 : g < 1000) (hn : n ≤ nb) (hn2 : nb < 1000) (B : Nat) (hB : B ≤ W.heap.size) (hX : ∀ s t, getM m s = some t → Xb B (V s)) {x : Int} {m' : KM} {L' : List Bs} (hx : x = apyX m L l 47) (hm : m' = apyM m L l 47) (hl : L' = apyL m L l 47) :
    Calls Tryz.prog 23 #[.pointer (some ⟨gs, 0, none⟩), v] W fun e w' => e = .returned (.int .i64 x) ∧ ∃ n' P' Q' V' D' J', ApS B w W gs gd lg gm P Q m' L' g nb n' P' Q' V' D' J' w' := by
  refine (apply_at hp hj hK hb hS hU hP (by omega) (by omega) hB hX).mono (fun e w' h => ?_)
  obtain ⟨e1, n', P', Q', V', D', J', ap, hb2, hu, hl2⟩ := h
  have a1 := ap.st
  have a2 := ap.sp
  have a3 := ap.rs
  have a4 := ap.xx
  have a5 := ap.sz
  rw [hL, hsz] at e1 a1 a2 a3 a4
  rw [← hm] at a1 a2 a4
  rw [← hx] at e1
  rw [← hl] at a3
  exact ⟨e1, n', P', Q', V', D', J', a1, a2, a3, a5.trans hsz, by have := ap.ge; omega, by have := ap.nn; omega, ap.mu, ap.gr, hb2, hu, a4⟩
set_option maxRecDepth 100000 in
set_option maxHeartbeats 16000000 in
theorem storeOrders_law (v0 v1 : Value) (key : Bs) (l k : List ActT) (w : World) (hK : KOk w) (hr0 : ReadsA w v0 l) (hs0 : ∀ a ∈ l, szA a) (hr1 : ReadsA w v1 k) (hs1 : ∀ a ∈ k, szA a) (hky : key.length ≤ 9223372036854775807) : Calls Tryz.prog 7 #[v0, v1, .string (strB key)] w fun e w' => e = .returned (.bool true) ∧ Below w.heap.size w w' := by
  obtain ⟨N0, HN0⟩ : ∃ x, Hid (x = l.length) := ⟨_, rfl⟩
  obtain ⟨N1, HN1⟩ : ∃ x, Hid (x = k.length) := ⟨_, rfl⟩
  obtain ⟨ad0, cp0, hv0⟩ := hr0.form
  rw [← HN0.out] at hv0
  subst hv0
  obtain ⟨ad1, cp1, hv1⟩ := hr1.form
  rw [← HN1.out] at hv1
  subst hv1
  obtain ⟨ck0, HC0⟩ : ∃ x, Hid (x = chkL l) := ⟨_, rfl⟩
  obtain ⟨ck1, HC1⟩ : ∃ x, Hid (x = chkL k) := ⟨_, rfl⟩
  obtain ⟨sk, HSK⟩ : ∃ x, Hid (x = strB key) := ⟨_, rfl⟩
  rw [← HSK.out]
  have HKY : Hid (key.length ≤ 9223372036854775807) := hky
  have HK0 : Hid (∀ W, Below w.heap.size w W → KOk W) := fun W hb => hK.below hb hK.lt
  have HR0 : Hid (ReadsA w (.slice ad0 N0 cp0) l) := hr0
  have HR1 : Hid (ReadsA w (.slice ad1 N1 cp1) k) := hr1
  have HFR : Hid (∀ W, KOk W → Calls Tryz.prog 19 #[.int .i64 39] W fun e w' => ∃ gd gs lg gm P Q, e = .returned (.tuple #[.pointer (some ⟨gd, 0, none⟩), .pointer (some ⟨gs, 0, none⟩)]) ∧ StM w' gs gd lg gm 0 P Q nilV [] D47 jn0 ∧ Below W.heap.size W w' ∧ (∀ k, Um P Q gm k → W.heap.size ≤ k) ∧ W.heap.size ≤ gs) := fun W h => by
    have h1 := fresh15_any 39 W h
    rw [nSec39] at h1
    exact h1
  have HL0 : Hid (∀ W, Below w.heap.size w W → Calls Tryz.prog 9 #[.slice ad0 N0 cp0] W fun e w' => LightR l e ∧ Below W.heap.size W w') := fun W hb => light15_any _ l W (hr0.below hb) hs0
  have HL1 : Hid (∀ W, Below w.heap.size w W → Calls Tryz.prog 9 #[.slice ad1 N1 cp1] W fun e w' => LightR k e ∧ Below W.heap.size W w') := fun W hb => light15_any _ k W (hr1.below hb) hs1
  have HK1 : Hid (∀ W, Below w.heap.size w W → LightJ l true → Calls Tryz.prog 11 #[.slice ad0 N0 cp0] W fun e w' => e = .returned (.int .i64 ck0) ∧ Below W.heap.size W w') := fun W hb hj => by
    rw [HC0.out]
    exact sCheck_any _ l W (hr0.below hb) (by have := (hj rfl).1; omega)
  have HK2 : Hid (∀ W, Below w.heap.size w W → LightJ k true → Calls Tryz.prog 11 #[.slice ad1 N1 cp1] W fun e w' => e = .returned (.int .i64 ck1) ∧ Below W.heap.size W w') := fun W hb hj => by
    rw [HC1.out]
    exact sCheck_any _ k W (hr1.below hb) (by have := (hj rfl).1; omega)
  have HWK : Hid (∀ W, Below w.heap.size w W → Calls Tryz.prog 10 #[] W fun e w' => e = .returned (.bool true) ∧ Below W.heap.size W w') := fun W hb => works15_any W (hK.below hb hK.lt)
  have hcs : (ck0 = 0 ∧ ck1 = 0) ∨ (ck0 = 1 ∧ ck1 = 0) ∨ (ck0 = 0 ∧ ck1 = 1) ∨ (ck0 = 1 ∧ ck1 = 1) := by
    have h1 := chkL_or l
    have h2 := chkL_or k
    rw [← HC0.out] at h1
    rw [← HC1.out] at h2
    omega
  obtain ⟨ps0, hq0, hm0, hd0, hi0⟩ := acts_rdp hr0
  obtain ⟨ps1, hq1, hm1, hd1, hi1⟩ := acts_rdp hr1
  have HP0 : Hid (RdP w (.slice ad0 N0 cp0) ps0 ∧ ps0.map (·.1) = l ∧ (∀ p ∈ ps0, Reads w p.2 p.1.data) ∧ (∀ p ∈ ps0, isSl p.2 = true) ∧ ReadsA w (.slice ad0 N0 cp0) l) := ⟨hq0, hm0, hd0, hi0, hr0⟩
  have HP1 : Hid (RdP w (.slice ad1 N1 cp1) ps1 ∧ ps1.map (·.1) = k ∧ (∀ p ∈ ps1, Reads w p.2 p.1.data) ∧ (∀ p ∈ ps1, isSl p.2 = true) ∧ ReadsA w (.slice ad1 N1 cp1) k) := ⟨hq1, hm1, hd1, hi1, hr1⟩
  have HA0 : Hid (∀ j, j < N0 → ∃ b off, ad0 = some ⟨b, off, none⟩ ∧ w.cell? ⟨b, off + j * 3, none⟩ = some (.string (strB (l.getD j ⟨[], false, []⟩).key))) := fun j hj => by
    obtain ⟨ad, cap, e1, _, _, e2⟩ := hr0
    simp only [Value.slice.injEq] at e1
    obtain ⟨b, off, e3, e4⟩ := e2 (by have := HN0.out; omega)
    obtain ⟨vd, e5, _⟩ := e4 j (by rw [← HN0.out]; exact hj)
    exact ⟨b, off, by rw [e1.1]; exact e3, e5 0 _ rfl⟩
  have HA1 : Hid (∀ j, j < N1 → ∃ b off, ad1 = some ⟨b, off, none⟩ ∧ w.cell? ⟨b, off + j * 3, none⟩ = some (.string (strB (k.getD j ⟨[], false, []⟩).key))) := fun j hj => by
    obtain ⟨ad, cap, e1, _, _, e2⟩ := hr1
    simp only [Value.slice.injEq] at e1
    obtain ⟨b, off, e3, e4⟩ := e2 (by have := HN1.out; omega)
    obtain ⟨vd, e5, _⟩ := e4 j (by rw [← HN1.out]; exact hj)
    exact ⟨b, off, by rw [e1.1]; exact e3, e5 0 _ rfl⟩
  clear hK hr0 hs0 hr1 hs1 hky hq0 hm0 hd0 hi0 hq1 hm1 hd1 hi1
  rcases hcs with ⟨rfl, rfl⟩ | hcs
  case inr =>
    rcases hcs with ⟨rfl, rfl⟩ | ⟨rfl, rfl⟩ | ⟨rfl, rfl⟩
    all_goals
      go_enter Tryz.func7, Tryz.ntmps7
      have tk0 : Hid True := trivial
      have tk1 : Hid True := trivial
      have tk2 : Hid True := trivial
      have tk3 : Hid True := trivial
      have tk4 : Hid True := trivial
      have tk5 : Hid True := trivial
      have tk6 : Hid True := trivial
      go_wp2_with (first
        | (clear tk0; go_at_call 19; refine (HFR.out _ (HK0.out _ (Below.refl _ _))).mono ?_; rintro e0 y0 ⟨gd1, gs1, lg1, gm1, P1, Q1, rfl, hs1, bl1, hu1, hg1⟩
           have HS1 : Hid (StM y0 gs1 gd1 lg1 gm1 0 P1 Q1 nilV [] D47 jn0) := hs1
           have HU1 : Hid ((∀ k, Um P1 Q1 gm1 k → w.heap.size ≤ k) ∧ w.heap.size ≤ gs1) := ⟨hu1, hg1⟩
           have HBW : Hid (Below w.heap.size w y0) := bl1
           clear hs1 hu1 hg1 bl1)
        | (clear tk1; go_at_call 19; refine (HFR.out _ (HK0.out _ HBW.out)).mono ?_; rintro e1 y1 ⟨gd2, gs2, lg2, gm2, P2, Q2, rfl, hs2, bl2, hu2, hg2⟩
           have HS2 : Hid (StM y1 gs2 gd2 lg2 gm2 0 P2 Q2 nilV [] D47 jn0) := hs2
           have HU2 : Hid ((∀ k, Um P2 Q2 gm2 k → y0.heap.size ≤ k) ∧ y0.heap.size ≤ gs2 ∧ w.heap.size ≤ y0.heap.size ∧ (∀ k, Um P1 Q1 gm1 k → k < y0.heap.size) ∧ gs1 < y0.heap.size ∧ gm1 < y0.heap.size) := ⟨hu2, hg2, HBW.out.size, HS1.out.ltM, HS1.out.sb.lt, HS1.out.mp.lt⟩
           replace HS1 : Hid (StM y1 gs1 gd1 lg1 gm1 0 P1 Q1 nilV [] D47 jn0) := HS1.out.below bl2
           replace HBW : Hid (Below w.heap.size w y1) := HBW.out.trans (bl2.mono HBW.out.size)
           have HYY : Hid (Below y1.heap.size y1 y1) := Below.refl _ _
           clear hs2 hu2 hg2 bl2)
        | (clear tk2; go_at_call 9; refine (HL0.out _ HBW.out).mono ?_; rintro e2 y2 ⟨⟨ok0, rfl, hj⟩, bl⟩
           have HJ0 : Hid (LightJ l ok0) := hj
           replace HYY : Hid (Below y1.heap.size y1 y2) := HYY.out.trans (bl.mono HYY.out.size)
           replace HBW : Hid (Below w.heap.size w y2) := HBW.out.trans (bl.mono HBW.out.size)
           clear hj bl
           cases ok0)
        | (clear tk3; go_at_call 9; refine (HL1.out _ HBW.out).mono ?_; rintro e3 y3 ⟨⟨ok1, rfl, hj⟩, bl⟩
           have HJ1 : Hid (LightJ k ok1) := hj
           replace HYY : Hid (Below y1.heap.size y1 y3) := HYY.out.trans (bl.mono HYY.out.size)
           replace HBW : Hid (Below w.heap.size w y3) := HBW.out.trans (bl.mono HBW.out.size)
           clear hj bl
           cases ok1)
        | (clear tk4; go_at_call 11; refine (HK1.out _ HBW.out HJ0.out).mono ?_; rintro e4 y4 ⟨rfl, bl⟩
           replace HYY : Hid (Below y1.heap.size y1 y4) := HYY.out.trans (bl.mono HYY.out.size)
           replace HBW : Hid (Below w.heap.size w y4) := HBW.out.trans (bl.mono HBW.out.size)
           clear bl)
        | (clear tk5; go_at_call 11; refine (HK2.out _ HBW.out HJ1.out).mono ?_; rintro e5 y5 ⟨rfl, bl⟩
           replace HYY : Hid (Below y1.heap.size y1 y5) := HYY.out.trans (bl.mono HYY.out.size)
           replace HBW : Hid (Below w.heap.size w y5) := HBW.out.trans (bl.mono HBW.out.size)
           clear bl)
        | (clear tk6; go_at_call 10; refine (HWK.out _ HBW.out).mono ?_; rintro e6 y6 ⟨rfl, bl⟩
           replace HBW : Hid (Below w.heap.size w y6) := HBW.out.trans (bl.mono HBW.out.size)
           clear bl))

      all_goals
        go_ret
        exact ⟨rfl, HBW.out⟩
  case inl =>
    go_enter Tryz.func7, Tryz.ntmps7
    have tk0 : Hid True := trivial
    have tk1 : Hid True := trivial
    have tk2 : Hid True := trivial
    have tk3 : Hid True := trivial
    have tk4 : Hid True := trivial
    have tk5 : Hid True := trivial
    have tk6 : Hid True := trivial
    go_wp2_with (first
      | (clear tk0; go_at_call 19; refine (HFR.out _ (HK0.out _ (Below.refl _ _))).mono ?_; rintro e0 y0 ⟨gd1, gs1, lg1, gm1, P1, Q1, rfl, hs1, bl1, hu1, hg1⟩
         have HS1 : Hid (StM y0 gs1 gd1 lg1 gm1 0 P1 Q1 nilV [] D47 jn0) := hs1
         have HU1 : Hid ((∀ k, Um P1 Q1 gm1 k → w.heap.size ≤ k) ∧ w.heap.size ≤ gs1) := ⟨hu1, hg1⟩
         have HBW : Hid (Below w.heap.size w y0) := bl1
         clear hs1 hu1 hg1 bl1)
      | (clear tk1; go_at_call 19; refine (HFR.out _ (HK0.out _ HBW.out)).mono ?_; rintro e1 y1 ⟨gd2, gs2, lg2, gm2, P2, Q2, rfl, hs2, bl2, hu2, hg2⟩
         have HS2 : Hid (StM y1 gs2 gd2 lg2 gm2 0 P2 Q2 nilV [] D47 jn0) := hs2
         have HU2 : Hid ((∀ k, Um P2 Q2 gm2 k → y0.heap.size ≤ k) ∧ y0.heap.size ≤ gs2 ∧ w.heap.size ≤ y0.heap.size ∧ (∀ k, Um P1 Q1 gm1 k → k < y0.heap.size) ∧ gs1 < y0.heap.size ∧ gm1 < y0.heap.size) := ⟨hu2, hg2, HBW.out.size, HS1.out.ltM, HS1.out.sb.lt, HS1.out.mp.lt⟩
         replace HS1 : Hid (StM y1 gs1 gd1 lg1 gm1 0 P1 Q1 nilV [] D47 jn0) := HS1.out.below bl2
         replace HBW : Hid (Below w.heap.size w y1) := HBW.out.trans (bl2.mono HBW.out.size)
         have HYY : Hid (Below y1.heap.size y1 y1) := Below.refl _ _
         clear hs2 hu2 hg2 bl2)
      | (clear tk2; go_at_call 9; refine (HL0.out _ HBW.out).mono ?_; rintro e2 y2 ⟨⟨ok0, rfl, hj⟩, bl⟩
         have HJ0 : Hid (LightJ l ok0) := hj
         replace HYY : Hid (Below y1.heap.size y1 y2) := HYY.out.trans (bl.mono HYY.out.size)
         replace HBW : Hid (Below w.heap.size w y2) := HBW.out.trans (bl.mono HBW.out.size)
         clear hj bl
         cases ok0)
      | (clear tk3; go_at_call 9; refine (HL1.out _ HBW.out).mono ?_; rintro e3 y3 ⟨⟨ok1, rfl, hj⟩, bl⟩
         have HJ1 : Hid (LightJ k ok1) := hj
         replace HYY : Hid (Below y1.heap.size y1 y3) := HYY.out.trans (bl.mono HYY.out.size)
         replace HBW : Hid (Below w.heap.size w y3) := HBW.out.trans (bl.mono HBW.out.size)
         clear hj bl
         cases ok1)
      | (clear tk4; go_at_call 11; refine (HK1.out _ HBW.out HJ0.out).mono ?_; rintro e4 y4 ⟨rfl, bl⟩
         replace HYY : Hid (Below y1.heap.size y1 y4) := HYY.out.trans (bl.mono HYY.out.size)
         replace HBW : Hid (Below w.heap.size w y4) := HBW.out.trans (bl.mono HBW.out.size)
         clear bl)
      | (clear tk5; go_at_call 11; refine (HK2.out _ HBW.out HJ1.out).mono ?_; rintro e5 y5 ⟨rfl, bl⟩
         replace HYY : Hid (Below y1.heap.size y1 y5) := HYY.out.trans (bl.mono HYY.out.size)
         replace HBW : Hid (Below w.heap.size w y5) := HBW.out.trans (bl.mono HBW.out.size)
         clear bl)
      | (clear tk6; go_at_call 10; refine (HWK.out _ HBW.out).mono ?_; rintro e6 y6 ⟨rfl, bl⟩
         replace HBW : Hid (Below w.heap.size w y6) := HBW.out.trans (bl.mono HBW.out.size)
         clear bl))
    any_goals (first | (go_ret; exact ⟨rfl, HBW.out⟩) | skip)
    clear HFR HL0 HL1 HK1 HK2
    have HLN : Hid (N0 ≤ 60 ∧ N1 ≤ 60) := ⟨by rw [HN0.out]; exact (HJ0.out rfl).1, by rw [HN1.out]; exact (HJ1.out rfl).1⟩
    go_loopw [11] (fun i wr => ∃ n : Nat, n ≤ N0 ∧ i = .int .i64 (n : Int) ∧ Hid (∀ a ∈ l.take n, ∀ b ∈ k, a.key ≠ b.key) ∧ Hid (Below y5.heap.size y5 wr)) (fun i _ => N0 - (intOf i).toNat)
    case atStart => exact ⟨0, Nat.zero_le _, rfl, (fun a ha => by simp at ha), Below.refl _ _⟩
    case round =>
      obtain ⟨n, hn, rfl, HKN, HBL⟩ := hrel
      by_cases hlt : n < N0
      case pos =>
        have k3 : (n : Int) < (N0 : Int) := by omega
        have f5 : IntKind.i64.wrap ((n : Int) + 1) = (n : Int) + 1 := by have := HLN.out; rw [IntKind.wrap_i64]; omega
        obtain ⟨b0, o0, ea0, cc0⟩ := HA0.out n hlt
        subst ea0
        obtain ⟨ka, HKA⟩ : ∃ x, Hid (x = (l.getD n ⟨[], false, []⟩).key) := ⟨_, rfl⟩
        rw [← HKA.out] at cc0
        have HCC0 : Hid (w.cell? ⟨b0, o0 + n * 3, none⟩ = some (.string (strB ka))) := cc0
        have HTK : Hid (l.take (n + 1) = l.take n ++ [l.getD n ⟨[], false, []⟩]) := take_act (by rw [← HN0.out]; exact hlt)
        clear cc0
        go_wp2
        go_loopw [12] (fun j wr2 => ∃ q : Nat, q ≤ N1 ∧ j = .int .i64 (q : Int) ∧ Hid (∀ b ∈ k.take q, ka ≠ b.key) ∧ Hid (Below y5.heap.size y5 wr2)) (fun j _ => N1 - (intOf j).toNat)
        case atStart => exact ⟨0, Nat.zero_le _, rfl, (fun b hb => by simp at hb), HBL⟩
        case round =>
          clear HBL
          obtain ⟨q, hq, rfl, HKQ, HBL⟩ := hrel
          by_cases hlq : q < N1
          case neg =>
            obtain rfl : q = N1 := by omega
            have hkq : ¬ ((q : Int) < (q : Int)) := by omega
            go_wp2
            go_roundw
            case rel =>
              refine ⟨n + 1, hlt, rfl, fun a ha b hb => ?_, HBL⟩
              rw [HTK.out] at ha
              rcases List.mem_append.1 ha with ha | ha
              · exact HKN.out a ha b hb
              · rw [List.mem_singleton.1 ha, ← HKA.out]
                exact HKQ.out b (by rw [List.take_of_length_le (by rw [← HN1.out]; exact Nat.le_refl _)]; exact hb)
            case measure => simp [intOf]; omega
          case pos =>
            have k4 : (q : Int) < (N1 : Int) := by omega
            have f6 : IntKind.i64.wrap ((q : Int) + 1) = (q : Int) + 1 := by have := HLN.out; rw [IntKind.wrap_i64]; omega
            obtain ⟨b1, o1, ea1, cc1⟩ := HA1.out q hlq
            subst ea1
            obtain ⟨kb, HKB⟩ : ∃ x, Hid (x = (k.getD q ⟨[], false, []⟩).key) := ⟨_, rfl⟩
            rw [← HKB.out] at cc1
            have HCC1 : Hid (w.cell? ⟨b1, o1 + q * 3, none⟩ = some (.string (strB kb))) := cc1
            have HTQ : Hid (k.take (q + 1) = k.take q ++ [k.getD q ⟨[], false, []⟩]) := take_act (by rw [← HN1.out]; exact hlq)
            have HCX : Hid (∀ wx, Below w.heap.size w wx → wx.cell? ⟨b0, o0 + n * 3, none⟩ = some (.string (strB ka)) ∧ wx.cell? ⟨b1, o1 + q * 3, none⟩ = some (.string (strB kb))) := fun wx hb => ⟨(World.cell?_of_block (hb.block b0 (block_lt_of_cell HCC0.out))).trans HCC0.out, (World.cell?_of_block (hb.block b1 (block_lt_of_cell HCC1.out))).trans HCC1.out⟩
            have HLT : Hid (n < N0 ∧ q < N1) := ⟨hlt, hlq⟩
            have HBR : Hid (Below w.heap.size w wr.drew) := (HBW.out.trans (HBL.out.mono HBW.out.size)).drew
            obtain ⟨r, HRQ⟩ : ∃ r, Hid (r = decide (ka = kb)) := ⟨_, rfl⟩
            have HSE : Hid (((strB ka).toList == (strB kb).toList) = r) := by show _ = _; rw [strB_inj, HRQ.out]
            clear cc1
            go_upto_region 13 with fail
            refine wp_region_held_drew (S := fun wx => Below w.heap.size w wx) (by kernel_rfl) HBR.out ?_
            intro hS
            refine wpAnyH_take (i := 0) (v := .slice (some ⟨b0, o0, none⟩) N0 cp0) rfl (by kernel_rfl) (by kernel_rfl) (by kernel_rfl) (fun _ _ _ h => h) (Or.inl ⟨by rfl, fun wx hx => by simp [go_sem]⟩) hS ?_
            simp only [Act.put, List.getElem_toArray, List.getElem_cons_zero, List.setIfInBounds_toArray, List.set_cons_zero, List.set_cons_succ]
            refine wpAnyH_take (i := 1) (v := .int .i64 (n : Int)) rfl (by kernel_rfl) (by kernel_rfl) (by kernel_rfl) (fun _ _ _ h => h) (Or.inl ⟨by rfl, fun wx hx => by simp [go_sem]⟩) hS ?_
            simp only [Act.put, List.getElem_toArray, List.getElem_cons_succ, List.getElem_cons_zero, List.setIfInBounds_toArray, List.set_cons_zero, List.set_cons_succ]
            refine wpAnyH_take (i := 2) (v := .pointer (some ⟨b0, o0 + n * 3, none⟩)) rfl (by kernel_rfl) (by kernel_rfl) (by kernel_rfl) (fun _ _ _ h => h) (Or.inl ⟨by rfl, fun wx hx => by exact idxA b0 o0 N0 cp0 n HLT.out.1 _ _ (.tmp 78) (.tmp 79) rfl rfl rfl _⟩) hS ?_
            simp only [Act.put, List.getElem_toArray, List.getElem_cons_succ, List.getElem_cons_zero, List.setIfInBounds_toArray, List.set_cons_zero, List.set_cons_succ]
            refine wpAnyH_take (i := 3) (v := .pointer (some ⟨b0, o0 + n * 3, none⟩)) rfl (by kernel_rfl) (by kernel_rfl) (by kernel_rfl) (fun _ _ _ h => h) (Or.inl ⟨by rfl, fun wx hx => by simp [go_sem]⟩) hS ?_
            simp only [Act.put, List.getElem_toArray, List.getElem_cons_succ, List.getElem_cons_zero, List.setIfInBounds_toArray, List.set_cons_zero, List.set_cons_succ]
            refine wpAnyH_take (i := 4) (v := .string (strB ka)) rfl (by kernel_rfl) (by kernel_rfl) (by kernel_rfl) (fun _ _ _ h => h) (Or.inl ⟨by rfl, fun wx hx => by (have cx := (HCX.out wx hx).1; simp [go_sem, cx])⟩) hS ?_
            simp only [Act.put, List.getElem_toArray, List.getElem_cons_succ, List.getElem_cons_zero, List.setIfInBounds_toArray, List.set_cons_zero, List.set_cons_succ]
            refine wpAnyH_take (i := 5) (v := .slice (some ⟨b1, o1, none⟩) N1 cp1) rfl (by kernel_rfl) (by kernel_rfl) (by kernel_rfl) (fun _ _ _ h => h) (Or.inl ⟨by rfl, fun wx hx => by simp [go_sem]⟩) hS ?_
            simp only [Act.put, List.getElem_toArray, List.getElem_cons_succ, List.getElem_cons_zero, List.setIfInBounds_toArray, List.set_cons_zero, List.set_cons_succ]
            refine wpAnyH_take (i := 6) (v := .int .i64 (q : Int)) rfl (by kernel_rfl) (by kernel_rfl) (by kernel_rfl) (fun _ _ _ h => h) (Or.inl ⟨by rfl, fun wx hx => by simp [go_sem]⟩) hS ?_
            simp only [Act.put, List.getElem_toArray, List.getElem_cons_succ, List.getElem_cons_zero, List.setIfInBounds_toArray, List.set_cons_zero, List.set_cons_succ]
            refine wpAnyH_take (i := 7) (v := .pointer (some ⟨b1, o1 + q * 3, none⟩)) rfl (by kernel_rfl) (by kernel_rfl) (by kernel_rfl) (fun _ _ _ h => h) (Or.inl ⟨by rfl, fun wx hx => by exact idxA b1 o1 N1 cp1 q HLT.out.2 _ _ (.tmp 83) (.tmp 84) rfl rfl rfl _⟩) hS ?_
            simp only [Act.put, List.getElem_toArray, List.getElem_cons_succ, List.getElem_cons_zero, List.setIfInBounds_toArray, List.set_cons_zero, List.set_cons_succ]
            refine wpAnyH_take (i := 8) (v := .pointer (some ⟨b1, o1 + q * 3, none⟩)) rfl (by kernel_rfl) (by kernel_rfl) (by kernel_rfl) (fun _ _ _ h => h) (Or.inl ⟨by rfl, fun wx hx => by simp [go_sem]⟩) hS ?_
            simp only [Act.put, List.getElem_toArray, List.getElem_cons_succ, List.getElem_cons_zero, List.setIfInBounds_toArray, List.set_cons_zero, List.set_cons_succ]
            refine wpAnyH_take (i := 9) (v := .string (strB kb)) rfl (by kernel_rfl) (by kernel_rfl) (by kernel_rfl) (fun _ _ _ h => h) (Or.inl ⟨by rfl, fun wx hx => by (have cx := (HCX.out wx hx).2; simp [go_sem, cx])⟩) hS ?_
            simp only [Act.put, List.getElem_toArray, List.getElem_cons_succ, List.getElem_cons_zero, List.setIfInBounds_toArray, List.set_cons_zero, List.set_cons_succ]
            refine wpAnyH_take (i := 10) (v := .bool r) rfl (by kernel_rfl) (by kernel_rfl) (by kernel_rfl) (fun _ _ _ h => h) (Or.inl ⟨by rfl, fun wx hx => by exact run_strOp .eql (strB ka) (strB kb) r HSE.out (Or.inr (Or.inr (Or.inl rfl))) _ _ (.tmp 82) (.tmp 87) rfl rfl rfl _⟩) hS ?_
            simp only [Act.put, List.getElem_toArray, List.getElem_cons_succ, List.getElem_cons_zero, List.setIfInBounds_toArray, List.set_cons_zero, List.set_cons_succ]
            refine wpAnyH_done (by kernel_rfl) ?_ _
            clear hS
            replace HBL : Hid (Below y5.heap.size y5 wr.drew) := HBL.out.drew
            cases r
            · go_wp2
              go_roundw
              case rel =>
                refine ⟨q + 1, hlq, rfl, fun b hb => ?_, HBL⟩
                rw [HTQ.out] at hb
                rcases List.mem_append.1 hb with hb | hb
                · exact HKQ.out b hb
                · rw [List.mem_singleton.1 hb, ← HKB.out]
                  exact of_decide_eq_false HRQ.out.symm
              case measure => simp [intOf]; omega
            · go_wp2_with (go_at_call 10; refine (HWK.out _ HBR.out).mono ?_; rintro e6 y6 ⟨rfl, bl⟩)
              go_ret
              exact ⟨rfl, HBR.out.trans (bl.mono HBR.out.size)⟩
      case neg =>
        obtain rfl : n = N0 := by omega
        have hln : ¬ ((n : Int) < (n : Int)) := by omega
        have HLK : Hid (∀ a ∈ l, ∀ b ∈ k, a.key ≠ b.key) := fun a ha => HKN.out a (by rw [List.take_of_length_le (by rw [← HN0.out]; exact Nat.le_refl _)]; exact ha)
        have HYW : Hid (Below y1.heap.size y1 wr) := HYY.out.trans (HBL.out.mono HYY.out.size)
        replace HBW : Hid (Below w.heap.size w wr) := HBW.out.trans (HBL.out.mono HBW.out.size)
        replace HS1 : Hid (StM wr gs1 gd1 lg1 gm1 0 P1 Q1 nilV [] D47 jn0) := HS1.out.below HYW.out
        replace HS2 : Hid (StM wr gs2 gd2 lg2 gm2 0 P2 Q2 nilV [] D47 jn0) := HS2.out.below HYW.out
        have HL2 : Hid ((∀ k, Um P2 Q2 gm2 k → k < wr.heap.size) ∧ gs2 < wr.heap.size) := ⟨HS2.out.ltM, HS2.out.sb.lt⟩
        clear HKN HBL HYY HA0 HA1 HLN
        obtain ⟨hsp, hsz⟩ := sp47
        have HSZ : Hid (StP [] D47 jn0 ∧ sizeD D47 = 47) := ⟨hsp, hsz⟩
        clear hsp hsz
        obtain ⟨x1, HX1⟩ : ∃ x, Hid (x = apyX [] [] l 47) := ⟨_, rfl⟩
        obtain ⟨m1, HM1⟩ : ∃ x, Hid (x = apyM [] [] l 47) := ⟨_, rfl⟩
        obtain ⟨L1, HLL1⟩ : ∃ x, Hid (x = apyL [] [] l 47) := ⟨_, rfl⟩
        obtain ⟨x2, HX2⟩ : ∃ x, Hid (x = apyX m1 L1 k 47) := ⟨_, rfl⟩
        obtain ⟨m12, HM12⟩ : ∃ x, Hid (x = apyM m1 L1 k 47) := ⟨_, rfl⟩
        obtain ⟨x3, HX3⟩ : ∃ x, Hid (x = apyX [] [] k 47) := ⟨_, rfl⟩
        obtain ⟨m2, HM2⟩ : ∃ x, Hid (x = apyM [] [] k 47) := ⟨_, rfl⟩
        obtain ⟨L2, HLL2⟩ : ∃ x, Hid (x = apyL [] [] k 47) := ⟨_, rfl⟩
        obtain ⟨x4, HX4⟩ : ∃ x, Hid (x = apyX m2 L2 l 47) := ⟨_, rfl⟩
        obtain ⟨m21, HM21⟩ : ∃ x, Hid (x = apyM m2 L2 l 47) := ⟨_, rfl⟩
        have hx1 : x1 = 0 ∨ x1 = 13 := by rw [HX1.out]; exact apy_or HC0.out.symm
        have hx2 : x2 = 0 ∨ x2 = 13 := by rw [HX2.out]; exact apy_or HC1.out.symm
        have hx3 : x3 = 0 ∨ x3 = 13 := by rw [HX3.out]; exact apy_or HC1.out.symm
        have hx4 : x4 = 0 ∨ x4 = 13 := by rw [HX4.out]; exact apy_or HC0.out.symm
        obtain ⟨L3, HLL3⟩ : ∃ x, Hid (x = apyL m1 L1 k 47) := ⟨_, rfl⟩
        obtain ⟨L4, HLL4⟩ : ∃ x, Hid (x = apyL m2 L2 l 47) := ⟨_, rfl⟩
        have HG1 : Hid (gs1 < wr.heap.size ∧ gm1 < wr.heap.size) := ⟨HS1.out.sb.lt, HS1.out.mp.lt⟩
        have tm0 : Hid True := trivial
        have tm1 : Hid True := trivial
        have tm2 : Hid True := trivial
        have tm3 : Hid True := trivial
        go_upto_region 17 with (first
          | (clear tm0; go_at_call 23; refine (apply_is HP0.out HJ0.out (HK0.out _ HBW.out) HBW.out HS1.out HU1.out.1 HSZ.out.1 rfl HSZ.out.2 1 0 (Nat.le_refl _) (by decide) (Nat.le_refl _) (by decide) wr.heap.size (Nat.le_refl _) (fun s t h => by cases h) HX1.out HM1.out HLL1.out).mono ?_; rintro e6 y6 ⟨rfl, n6, P6, Q6, V6, D6, J6, ap6⟩
             have HA6 : Hid (ApS wr.heap.size w wr gs1 gd1 lg1 gm1 P1 Q1 m1 L1 1 0 n6 P6 Q6 V6 D6 J6 y6) := ap6
             have HT6 : Hid (StM y6 gs2 gd2 lg2 gm2 0 P2 Q2 nilV [] D47 jn0) := HS2.out.keep0 ap6.mu (fun j _ hr => by
               have h1 := HU2.out.2.2.2.1 j hr
               exact ⟨fun h => by have := HU2.out.1 j h; omega, fun e => by have := HU2.out.2.1; omega⟩)
             clear ap6)
          | (clear tm1; go_at_call 23; refine (apply_is HP1.out HJ1.out (HK0.out _ HA6.out.bw) HA6.out.bw HA6.out.st HA6.out.um HA6.out.sp HA6.out.rs HA6.out.sz 2 60 HA6.out.ge (by decide) HA6.out.nn (by decide) wr.heap.size HA6.out.mu.size HA6.out.xx HX2.out HM12.out HLL3.out).mono ?_; rintro e7 y7 ⟨rfl, n7, P7, Q7, V7, D7, J7, ap7⟩
             have HA7 : Hid (ApS wr.heap.size w y6 gs1 gd1 lg1 gm1 P6 Q6 m12 L3 2 60 n7 P7 Q7 V7 D7 J7 y7) := ap7
             have HT7 : Hid (StM y7 gs2 gd2 lg2 gm2 0 P2 Q2 nilV [] D47 jn0) := HT6.out.keep0 ap7.mu (fun j _ hr => by
               have h2 := HU2.out
               have h3 := HL2.out
               rcases hr with hr | hr
               · rcases HA6.out.gr j hr with h4 | h4
                 · have h1 := h2.2.2.2.1 j (Or.inl h4)
                   exact ⟨fun h => by have := h2.1 j h; omega, fun e => by have := h2.2.1; omega⟩
                 · exact ⟨fun h => by have := h3.1 j h; omega, fun e => by have := h3.2; omega⟩
               · have h1 := h2.2.2.2.2.2
                 exact ⟨fun h => by have := h2.1 j h; omega, fun e => by have := h2.2.1; omega⟩)
             clear ap7)
          | (clear tm2; go_at_call 23; refine (apply_is HP1.out HJ1.out (HK0.out _ HA7.out.bw) HA7.out.bw HT7.out (fun j hj => Nat.le_trans HU2.out.2.2.1 (HU2.out.1 j hj)) HSZ.out.1 rfl HSZ.out.2 1 0 (Nat.le_refl _) (by decide) (Nat.le_refl _) (by decide) 0 (Nat.zero_le _) (fun s t h => by cases h) HX3.out HM2.out HLL2.out).mono ?_; rintro e8 y8 ⟨rfl, n8, P8, Q8, V8, D8, J8, ap8⟩
             have HA8 : Hid (ApS 0 w y7 gs2 gd2 lg2 gm2 P2 Q2 m2 L2 1 0 n8 P8 Q8 V8 D8 J8 y8) := ap8
             clear ap8)
          | (clear tm3; go_at_call 23; refine (apply_is HP0.out HJ0.out (HK0.out _ HA8.out.bw) HA8.out.bw HA8.out.st HA8.out.um HA8.out.sp HA8.out.rs HA8.out.sz 2 60 HA8.out.ge (by decide) HA8.out.nn (by decide) 0 (Nat.zero_le _) HA8.out.xx HX4.out HM21.out HLL4.out).mono ?_; rintro e9 y9 ⟨rfl, n9, P9, Q9, V9, D9, J9, ap9⟩
             have HA9 : Hid (ApS 0 w y8 gs2 gd2 lg2 gm2 P8 Q8 m21 L4 2 60 n9 P9 Q9 V9 D9 J9 y9) := ap9
             clear ap9))
        have HZ : Hid (Below w.heap.size w y9) := HA9.out.bw
        by_cases hz : x1 = 0 ∧ x2 = 0 ∧ x3 = 0 ∧ x4 = 0
        case neg =>
          clear HX1 HX2 HX3 HX4
          rcases hx1 with rfl | rfl <;> rcases hx2 with rfl | rfl <;> rcases hx3 with rfl | rfl <;> rcases hx4 with rfl | rfl
          case inl.inl.inl.inl => exact absurd ⟨rfl, rfl, rfl, rfl⟩ hz
          all_goals
            clear hz
            go_wp2
            go_ret
            exact ⟨rfl, HZ.out⟩
        case pos =>
          obtain ⟨rfl, rfl, rfl, rfl⟩ := hz
          have HMM : Hid (m21 = m12) := by
            have e1 : m1 = doneM [] l := by rw [HM1.out, apyM, if_pos HX1.out.symm]
            have e2 : m12 = doneM m1 k := by rw [HM12.out, apyM, if_pos HX2.out.symm]
            have e3 : m2 = doneM [] k := by rw [HM2.out, apyM, if_pos HX3.out.symm]
            have e4 : m21 = doneM m2 l := by rw [HM21.out, apyM, if_pos HX4.out.symm]
            show _ = _
            rw [e4, e3, e2, e1]
            exact (done_swap List.Pairwise.nil l k HLK.out).symm
          have HQ1 : Hid (StR y9 gs1 gm1 n7 (.pointer (some ⟨lg1, 0, none⟩)) V7 m12) := by
            have hm : Mut (Um P2 Q2 gm2) y7 y9 := HA8.out.mu.trans (fun j hj hr => by
              rcases hr with hr | hr
              · exact (HA8.out.gr j hr).elim (fun h => Or.inl h) (fun h => absurd h (by omega))
              · exact Or.inr hr) HA9.out.mu
            have h2 := HU2.out
            refine HA7.out.st.rd.keep hm (fun h => ?_) (fun h => ?_) (fun s t ht b hb _ h => ?_)
            · have := h2.1 _ h; have := h2.2.2.2.2.1; omega
            · have := h2.1 _ h; have := h2.2.2.2.2.2; omega
            · have h3 := HA7.out.xx s t ht b hb; have := HL2.out.1 b h; omega
          have HQ2 : Hid (StR y9 gs2 gm2 n9 (.pointer (some ⟨lg2, 0, none⟩)) V9 m12) := by rw [← HMM.out]; exact HA9.out.st.rd
          have HML : Hid (m12.length < 1000000) := by
            have h1 := HA7.out.sp.small
            have h2 := wtM_len m12
            show _ < _
            omega
          have HSM : Hid (∀ W va vb (t : Bs), Reads W va t → Reads W vb t → Calls Tryz.prog 16 #[va, vb] W fun e w' => e = .returned (.bool true) ∧ w' = W) := fun W va vb t h1 h2 => by
            have h3 := same_any va vb t t W h1 h2
            rw [decide_eq_true rfl] at h3
            exact h3
          obtain ⟨bb, HBB⟩ : ∃ x, Hid (x = (getM m12 key).isSome) := ⟨_, rfl⟩
          obtain ⟨tt, HTT⟩ : ∃ x, Hid (x = (getM m12 key).getD []) := ⟨_, rfl⟩
          have HGE : Hid (∀ W gs gm n lv V, StR W gs gm n lv V m12 → Calls Tryz.prog 32 #[.pointer (some ⟨gs, 0, none⟩), .string sk] W fun e w' => ∃ v', e = .returned (.tuple #[v', .bool bb]) ∧ OwnB w' W.heap.size v' tt ∧ Below W.heap.size W w') := fun W gs gm n lv V h => by
            rw [HSK.out, HBB.out, HTT.out]
            exact sGet2_any h.sb h.mp h.tx key HKY.out
          have HAL : Hid (∀ W gs gm n lv V, StR W gs gm n lv V m12 → Calls Tryz.prog 31 #[.pointer (some ⟨gs, 0, none⟩)] W fun e w' => ∃ a1 c1 a2 c2 N, e = .returned (.tuple #[.agg [.slice a1 N c1, .slice a2 N c2].toArray, .bool true]) ∧ ReadsS w' (.slice a1 N c1) (m12.map (·.1)) ∧ ReadsL w' (.slice a2 N c2) (m12.map (·.2)) ∧ Below W.heap.size W w') := fun W gs gm n lv V h => by
            refine (all15_any h.sb h.mp h.tx HML.out).mono (fun e w' hx => ?_)
            obtain ⟨vK, vV, xs, e1, e2, e3, e4⟩ := hx
            obtain ⟨a1, c1, f1⟩ := e3.rk.form
            obtain ⟨a2, c2, f2⟩ := e3.rv.form
            rw [List.length_map] at f1 f2
            have r1 := e3.readsS
            have r2 := e3.readsL
            rw [e2] at r1 r2
            rw [f1] at r1
            rw [f2] at r2
            rw [f1, f2] at e1
            exact ⟨a1, c1, a2, c2, _, e1, r1, r2, e4⟩
          have HSA : Hid (∀ W a b c d, (ReadsS W a (m12.map (·.1)) ∧ ReadsL W b (m12.map (·.2))) → (ReadsS W c (m12.map (·.1)) ∧ ReadsL W d (m12.map (·.2))) → Calls Tryz.prog 33 #[.agg [a, b].toArray, .agg [c, d].toArray] W fun e w' => e = .returned (.bool true) ∧ Below W.heap.size W w') := fun W a b c d h1 h2 => by
            have h3 := oSame_any a b c d m12 m12 W h1.1 h1.2 h2.1 h2.2 HML.out HML.out
            rw [decide_eq_true rfl] at h3
            exact h3
          clear HX1 HX2 HX3 HX4 hx1 hx2 hx3 hx4 HMM HA6 HA7 HA8 HA9 HT6 HT7 HS1 HS2
          have tn0 : Hid True := trivial
          have tn1 : Hid True := trivial
          have tn2 : Hid True := trivial
          have tn3 : Hid True := trivial
          have tn4 : Hid True := trivial
          have tn5 : Hid True := trivial
          have tn6 : Hid True := trivial
          have tn7 : Hid True := trivial
          have tn8 : Hid True := trivial
          have tn9 : Hid True := trivial
          have tn10 : Hid True := trivial
          have tn11 : Hid True := trivial
          have tn12 : Hid True := trivial
          go_wp2_with (first
            | (clear tn0; go_at_call 31; refine (HAL.out _ _ _ _ _ _ HQ1.out).mono ?_; rintro e10 y10 ⟨a1, c1, a2, c2, NK, rfl, rs1, rl1, bl⟩
               have HK1 : Hid (ReadsS y10 (.slice a1 NK c1) (m12.map (·.1)) ∧ ReadsL y10 (.slice a2 NK c2) (m12.map (·.2))) := ⟨rs1, rl1⟩
               replace HQ1 : Hid (StR y10 gs1 gm1 n7 (.pointer (some ⟨lg1, 0, none⟩)) V7 m12) := HQ1.out.below bl
               replace HQ2 : Hid (StR y10 gs2 gm2 n9 (.pointer (some ⟨lg2, 0, none⟩)) V9 m12) := HQ2.out.below bl
               replace HZ : Hid (Below w.heap.size w y10) := HZ.out.trans (bl.mono HZ.out.size)
               clear rs1 rl1 bl)
            | (clear tn1; with_reducible refine wpSeq_allocK ?_ ?_ ?_
               · rfl
               · rfl
               intro g17 y11 nn
               have HB17 : Hid (Blk y11 g17 [.slice none 0 0, .slice none 0 0] 43 ∧ y10.heap.size ≤ g17 ∧ Below y10.heap.size y10 y11) := ⟨nn.blk, nn.ge, nn.below⟩
               clear nn)
            | (clear tn2; with_reducible refine wpSeq_storeRow 43 (.tmp 17) (.tmp 133) g17 [.slice none 0 0, .slice none 0 0] [.slice a1 NK c1, .slice a2 NK c2] HB17.out.1 rfl (info_keys _ _) (one_keys _ _ _ _ _ _) ?_ ?_ ?_ ?_ ?_
               · rfl
               · rfl
               · rfl
               · rfl
               intro y12 sr
               have bl : Below y10.heap.size y10 y12 := HB17.out.2.2.trans (sr.only.below HB17.out.2.1 HB17.out.2.2.size)
               have HF17 : Hid (Blk y12 g17 [.slice a1 NK c1, .slice a2 NK c2] 43) := sr.blk
               replace HK1 : Hid (ReadsS y12 (.slice a1 NK c1) (m12.map (·.1)) ∧ ReadsL y12 (.slice a2 NK c2) (m12.map (·.2))) := ⟨HK1.out.1.below bl, HK1.out.2.below bl⟩
               replace HQ1 : Hid (StR y12 gs1 gm1 n7 (.pointer (some ⟨lg1, 0, none⟩)) V7 m12) := HQ1.out.below bl
               replace HQ2 : Hid (StR y12 gs2 gm2 n9 (.pointer (some ⟨lg2, 0, none⟩)) V9 m12) := HQ2.out.below bl
               replace HZ : Hid (Below w.heap.size w y12) := HZ.out.trans (bl.mono HZ.out.size)
               clear sr bl HB17)
            | (clear tn3; go_at_call 31; refine (HAL.out _ _ _ _ _ _ HQ2.out).mono ?_; rintro e13 y13 ⟨a3, c3, a4, c4, NL, rfl, rs2, rl2, bl⟩
               have HK2 : Hid (ReadsS y13 (.slice a3 NL c3) (m12.map (·.1)) ∧ ReadsL y13 (.slice a4 NL c4) (m12.map (·.2))) := ⟨rs2, rl2⟩
               replace HK1 : Hid (ReadsS y13 (.slice a1 NK c1) (m12.map (·.1)) ∧ ReadsL y13 (.slice a2 NK c2) (m12.map (·.2))) := ⟨HK1.out.1.below bl, HK1.out.2.below bl⟩
               replace HF17 : Hid (Blk y13 g17 [.slice a1 NK c1, .slice a2 NK c2] 43) := HF17.out.below bl HF17.out.lt
               replace HQ1 : Hid (StR y13 gs1 gm1 n7 (.pointer (some ⟨lg1, 0, none⟩)) V7 m12) := HQ1.out.below bl
               replace HQ2 : Hid (StR y13 gs2 gm2 n9 (.pointer (some ⟨lg2, 0, none⟩)) V9 m12) := HQ2.out.below bl
               replace HZ : Hid (Below w.heap.size w y13) := HZ.out.trans (bl.mono HZ.out.size)
               clear rs2 rl2 bl)
            | (clear tn4; with_reducible refine wpSeq_allocK ?_ ?_ ?_
               · rfl
               · rfl
               intro g19 y14 nn
               have HB19 : Hid (Blk y14 g19 [.slice none 0 0, .slice none 0 0] 43 ∧ y13.heap.size ≤ g19 ∧ Below y13.heap.size y13 y14) := ⟨nn.blk, nn.ge, nn.below⟩
               clear nn)
            | (clear tn5; with_reducible refine wpSeq_storeRow 43 (.tmp 19) (.tmp 138) g19 [.slice none 0 0, .slice none 0 0] [.slice a3 NL c3, .slice a4 NL c4] HB19.out.1 rfl (info_keys _ _) (one_keys _ _ _ _ _ _) ?_ ?_ ?_ ?_ ?_
               · rfl
               · rfl
               · rfl
               · rfl
               intro y15 sr
               have bl : Below y13.heap.size y13 y15 := HB19.out.2.2.trans (sr.only.below HB19.out.2.1 HB19.out.2.2.size)
               have HF19 : Hid (Blk y15 g19 [.slice a3 NL c3, .slice a4 NL c4] 43) := sr.blk
               replace HF17 : Hid (Blk y15 g17 [.slice a1 NK c1, .slice a2 NK c2] 43) := HF17.out.below bl HF17.out.lt
               replace HK1 : Hid (ReadsS y15 (.slice a1 NK c1) (m12.map (·.1)) ∧ ReadsL y15 (.slice a2 NK c2) (m12.map (·.2))) := ⟨HK1.out.1.below bl, HK1.out.2.below bl⟩
               replace HK2 : Hid (ReadsS y15 (.slice a3 NL c3) (m12.map (·.1)) ∧ ReadsL y15 (.slice a4 NL c4) (m12.map (·.2))) := ⟨HK2.out.1.below bl, HK2.out.2.below bl⟩
               replace HQ1 : Hid (StR y15 gs1 gm1 n7 (.pointer (some ⟨lg1, 0, none⟩)) V7 m12) := HQ1.out.below bl
               replace HQ2 : Hid (StR y15 gs2 gm2 n9 (.pointer (some ⟨lg2, 0, none⟩)) V9 m12) := HQ2.out.below bl
               replace HZ : Hid (Below w.heap.size w y15) := HZ.out.trans (bl.mono HZ.out.size)
               clear sr bl HB19)
            | (clear tn6; go_at_call 32; refine (HGE.out _ _ _ _ _ _ HQ1.out).mono ?_; rintro e16 y16 ⟨v16, rfl, ow, bl⟩
               have HO1 : Hid (Reads y16 v16 tt) := ow.reads
               replace HF17 : Hid (Blk y16 g17 [.slice a1 NK c1, .slice a2 NK c2] 43) := HF17.out.below bl HF17.out.lt
               replace HF19 : Hid (Blk y16 g19 [.slice a3 NL c3, .slice a4 NL c4] 43) := HF19.out.below bl HF19.out.lt
               replace HK1 : Hid (ReadsS y16 (.slice a1 NK c1) (m12.map (·.1)) ∧ ReadsL y16 (.slice a2 NK c2) (m12.map (·.2))) := ⟨HK1.out.1.below bl, HK1.out.2.below bl⟩
               replace HK2 : Hid (ReadsS y16 (.slice a3 NL c3) (m12.map (·.1)) ∧ ReadsL y16 (.slice a4 NL c4) (m12.map (·.2))) := ⟨HK2.out.1.below bl, HK2.out.2.below bl⟩
               replace HQ2 : Hid (StR y16 gs2 gm2 n9 (.pointer (some ⟨lg2, 0, none⟩)) V9 m12) := HQ2.out.below bl
               replace HZ : Hid (Below w.heap.size w y16) := HZ.out.trans (bl.mono HZ.out.size)
               clear ow bl)
            | (clear tn7; go_at_call 32; refine (HGE.out _ _ _ _ _ _ HQ2.out).mono ?_; rintro e17 y17 ⟨v17, rfl, ow, bl⟩
               have HO2 : Hid (Reads y17 v17 tt) := ow.reads
               replace HO1 : Hid (Reads y17 v16 tt) := HO1.out.below bl
               replace HF17 : Hid (Blk y17 g17 [.slice a1 NK c1, .slice a2 NK c2] 43) := HF17.out.below bl HF17.out.lt
               replace HF19 : Hid (Blk y17 g19 [.slice a3 NL c3, .slice a4 NL c4] 43) := HF19.out.below bl HF19.out.lt
               replace HK1 : Hid (ReadsS y17 (.slice a1 NK c1) (m12.map (·.1)) ∧ ReadsL y17 (.slice a2 NK c2) (m12.map (·.2))) := ⟨HK1.out.1.below bl, HK1.out.2.below bl⟩
               replace HK2 : Hid (ReadsS y17 (.slice a3 NL c3) (m12.map (·.1)) ∧ ReadsL y17 (.slice a4 NL c4) (m12.map (·.2))) := ⟨HK2.out.1.below bl, HK2.out.2.below bl⟩
               replace HZ : Hid (Below w.heap.size w y17) := HZ.out.trans (bl.mono HZ.out.size)
               clear ow bl)
            | (clear tn8; with_reducible refine wpSeq_loadW 43 (.tmp 17) g17 0 [.slice a1 NK c1, .slice a2 NK c2] _ (Blk.range HF17.out) Tryz.underlying43 rfl (info_keys _ _) ?_ ?_ ?_ ?_
               · rfl
               · rfl
               · rfl)
            | (clear tn9; with_reducible refine wpSeq_loadW 43 (.tmp 19) g19 0 [.slice a3 NL c3, .slice a4 NL c4] _ (Blk.range HF19.out) Tryz.underlying43 rfl (info_keys _ _) ?_ ?_ ?_ ?_
               · rfl
               · rfl
               · rfl)
            | (clear tn10; go_at_call 33; refine (HSA.out _ _ _ _ _ HK1.out HK2.out).mono ?_; rintro e18 y18 ⟨rfl, bl⟩
               replace HO1 : Hid (Reads y18 v16 tt) := HO1.out.below bl
               replace HO2 : Hid (Reads y18 v17 tt) := HO2.out.below bl
               replace HZ : Hid (Below w.heap.size w y18) := HZ.out.trans (bl.mono HZ.out.size)
               clear bl)
            | (clear tn11; go_at_call 16; refine (HSM.out _ _ _ _ HO1.out HO2.out).mono ?_; rintro e19 y19 ⟨rfl, hz⟩
               subst hz)
            | (clear tn12; go_at_call 10; refine (HWK.out _ HZ.out).mono ?_; rintro e20 y20 ⟨rfl, bl⟩
               replace HZ : Hid (Below w.heap.size w y20) := HZ.out.trans (bl.mono HZ.out.size)
               clear bl))
          go_ret
          exact ⟨rfl, HZ.out⟩
end Go.Proofs.YtopmeedmgjdcgaaGreatDoor
/- What the listed variable gives: the rounds' words lie where the walks look for them. -/
namespace Go.Proofs.YtopmeedmgjdcgaaGreatDoor
open Go.ChangeShapes Go.WideShapes Go.ChangeAt Go.WideMaps Go.WideElems Go.RowKit
set_option maxRecDepth 100000
theorem own : ownKnob Tryz.prog.godebug = none := by kernel_rfl
theorem gKw : Tryz.prog.globalNamed "blazon/sha.roundWords" = some 1 := by kernel_rfl
theorem tKw : (Tryz.prog.globals[1]?).map (·.type) = some 196 := by kernel_rfl
def laidK : List (String × DataW Unit) := [("blazon/sha.roundWords", Rows.laid_blazon_sha_roundWords)]
def kzs : List Int := kw.map fun x => (x.toNat : Int)
theorem laid_tab : (Rows.laid_blazon_sha_roundWords : DataW Unit) = Lib.tabData .u32 kzs := by kernel_rfl
theorem door_met (os : Os) (args : Array Value) : laidMetH Tryz.prog laidK ((World.doorLaid Tryz.prog 400 os).forCall (fun _ _ => 0) ⟨#[], args, []⟩).memory :=
  laidMetH_of_parts3 (fuel := 8) (laidMet_of_run' 8 (by kernel_rfl) (by kernel_rfl)) (by kernel_rfl) (by kernel_rfl)
theorem getD_toNat (l : List (BitVec 32)) (j : Nat) : (l.map fun x => (x.toNat : Int)).getD j 0 = ((l.getD j 0).toNat : Int) := by
  rw [List.getD_eq_getElem?_getD, List.getD_eq_getElem?_getD, List.getElem?_map]
  cases l[j]? <;> rfl
theorem kok_of_laid {W : World} (h : laidMetH Tryz.prog laidK W) : KOk W := by
  rw [MakeChecks.laidMetH_plain _ _ _ (by kernel_rfl)] at h
  unfold laidK at h
  rw [laid_tab] at h
  have hT := Lib.tabIs_of_head gKw tKw Tryz.underlying196 Tryz.underlying181 (by kernel_rfl) (by kernel_rfl) h
  intro j hj
  rw [hT.cell gKw j (by simpa [kzs, kw] using hj), kzs, getD_toNat]
end Go.Proofs.YtopmeedmgjdcgaaGreatDoor
/- What a slice of bytes that came in gives: the bytes that it reads as; and that it reads so still behind a call that changed no old block. -/
namespace Go.Proofs.YtopmeedmgjdcgaaGreatDoor
open Go.ChangeShapes Go.WideShapes Go.ChangeAt Go.WideMaps Go.WideElems Go.RowKit
set_option maxRecDepth 100000
theorem cells_byte : Tryz.prog.cellsOf 5 = 1 := by kernel_rfl
theorem laid_out : laidOutB Tryz.prog = true := by kernel_rfl
theorem byte_range {zs : List Int} (h : ∀ n ∈ zs, (Lit.int .u8 n).wf = true) (j : Nat) : 0 ≤ zs.getD j 0 ∧ zs.getD j 0 < 256 := by
  rw [List.getD_eq_getElem?_getD]
  cases hj : zs[j]? with
  | none => simp
  | some n =>
    have := h n (List.mem_of_getElem? hj)
    have := bounds_u8 this
    simp
    omega
end Go.Proofs.YtopmeedmgjdcgaaGreatDoor
/- What a digest that came in gives: its 32 bytes. -/
namespace Go.Proofs.YtopmeedmgjdcgaaGreatDoor
open Go.ChangeShapes Go.WideShapes Go.ChangeAt Go.WideMaps Go.WideElems Go.RowKit
set_option maxRecDepth 100000
end Go.Proofs.YtopmeedmgjdcgaaGreatDoor

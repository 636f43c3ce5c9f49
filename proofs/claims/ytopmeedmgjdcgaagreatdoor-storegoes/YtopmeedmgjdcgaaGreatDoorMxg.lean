import Derived.Test.YtopmeedmgjdcgaaGreatDoorMxf
import Derived.Test.YtopmeedmgjdcgaaGreatDoorMxQ
namespace Go.Proofs.YtopmeedmgjdcgaaGreatDoor
open Go.RowKit
set_option maxRecDepth 100000
structure OnG (w : World) (g2 g3 g4 g7 : Nat) (vK vV : Value) (ac ks ts : List Value) (c1 c2 vk vv : Value) (W : World) : Prop where
 b2 : Blk W g2 [vK, vV] 43
 b3 : Blk W g3 ac 62
 b4 : Blk W g4 [.slice none 0 0, .slice none 0 0] 43
 b7 : Blk W g7 [c1, c2] 43
 rk : OwnR 9 W w.heap.size vk ks
 rv : OwnR 23 W w.heap.size vv ts
 bel : Below w.heap.size w W
 n2 : g2 ≠ g7
 n4 : g4 ≠ g7
 ge : w.heap.size ≤ g7
section
variable {w : World} {g2 g3 g4 g7 : Nat} {vK vV : Value} {ac ks ts : List Value} {c1 c2 vk vv : Value} {X Y : World}
theorem OnG.new (h : OnG w g2 g3 g4 g7 vK vV ac ks ts c1 c2 vk vv X) (hb : Below X.heap.size X Y) : OnG w g2 g3 g4 g7 vK vV ac ks ts c1 c2 vk vv Y :=
 ⟨h.b2.below hb h.b2.lt, h.b3.below hb h.b3.lt, h.b4.below hb h.b4.lt, h.b7.below hb h.b7.lt, h.rk.below hb, h.rv.below hb, h.bel.trans (hb.mono h.bel.size), h.n2, h.n4, h.ge⟩
theorem OnG.drew (h : OnG w g2 g3 g4 g7 vK vV ac ks ts c1 c2 vk vv X) : OnG w g2 g3 g4 g7 vK vV ac ks ts c1 c2 vk vv X.drew := h.new (Below.refl _ _).drew
theorem OnG.appK {vk' : Value} {ks' : List Value} (h : OnG w g2 g3 g4 g7 vK vV ac ks ts c1 c2 vk vv X) (hr : OwnR 9 Y w.heap.size vk' ks') (hg : X.grownBy Y vk.ownBlock) : OnG w g2 g3 g4 g7 vK vV ac ks' ts c1 c2 vk' vv Y := by
 have hc : ∀ (k : Nat) (ar : Array Value) (t : TypeId), X.heap[k]? = some (Obj.cells ar t (0, 0)) → t ≠ 9 → Y.heap[k]? = X.heap[k]? := fun k ar t hh ht => hg.block k (Array.getElem?_eq_some_iff.1 hh).1 (fun e => h.rk.neH hh ht e.symm)
 exact ⟨blk_same h.b2 (hc _ _ _ h.b2 (by decide)), blk_same h.b3 (hc _ _ _ h.b3 (by decide)), blk_same h.b4 (hc _ _ _ h.b4 (by decide)), blk_same h.b7 (hc _ _ _ h.b7 (by decide)), hr, h.rv.same (fun k ar hh _ => hc k ar _ hh (by decide)), ⟨hg.os.trans h.bel.os, hg.tape.trans h.bel.tape, hg.output.trans h.bel.output, Nat.le_trans h.bel.size hg.size, fun k hk => (hg.block k (Nat.lt_of_lt_of_le hk h.bel.size) (fun e => by have := (h.rk.lt k e.symm).1; omega)).trans (h.bel.block k hk)⟩, h.n2, h.n4, h.ge⟩
theorem OnG.appV {vv' : Value} {ts' : List Value} (h : OnG w g2 g3 g4 g7 vK vV ac ks ts c1 c2 vk vv X) (hr : OwnR 23 Y w.heap.size vv' ts') (hg : X.grownBy Y vv.ownBlock) : OnG w g2 g3 g4 g7 vK vV ac ks ts' c1 c2 vk vv' Y := by
 have hc : ∀ (k : Nat) (ar : Array Value) (t : TypeId), X.heap[k]? = some (Obj.cells ar t (0, 0)) → t ≠ 23 → Y.heap[k]? = X.heap[k]? := fun k ar t hh ht => hg.block k (Array.getElem?_eq_some_iff.1 hh).1 (fun e => h.rv.neH hh ht e.symm)
 exact ⟨blk_same h.b2 (hc _ _ _ h.b2 (by decide)), blk_same h.b3 (hc _ _ _ h.b3 (by decide)), blk_same h.b4 (hc _ _ _ h.b4 (by decide)), blk_same h.b7 (hc _ _ _ h.b7 (by decide)), h.rk.same (fun k ar hh _ => hc k ar _ hh (by decide)), hr, ⟨hg.os.trans h.bel.os, hg.tape.trans h.bel.tape, hg.output.trans h.bel.output, Nat.le_trans h.bel.size hg.size, fun k hk => (hg.block k (Nat.lt_of_lt_of_le hk h.bel.size) (fun e => by have := (h.rv.lt k e.symm).1; omega)).trans (h.bel.block k hk)⟩, h.n2, h.n4, h.ge⟩
theorem OnG.set {d1 d2 : Value} (h : OnG w g2 g3 g4 g7 vK vV ac ks ts c1 c2 vk vv X) (hb : Blk Y g7 [d1, d2] 43) (ho : Only g7 X Y) : OnG w g2 g3 g4 g7 vK vV ac ks ts d1 d2 vk vv Y := by
 have hc : ∀ (k : Nat) (ar : Array Value) (t : TypeId), X.heap[k]? = some (Obj.cells ar t (0, 0)) → t ≠ 43 → Y.heap[k]? = X.heap[k]? := fun k ar t hh ht => ho.block k (fun e => by
  have h4 := h.b7
  unfold Blk at h4
  rw [e, h4] at hh
  simp only [Option.some.injEq, Obj.cells.injEq] at hh
  exact ht hh.2.1.symm) (Array.getElem?_eq_some_iff.1 hh).1
 exact ⟨h.b2.only ho h.n2, blk_same h.b3 (hc _ _ _ h.b3 (by decide)), h.b4.only ho h.n4, hb, h.rk.same (fun k ar hh _ => hc k ar _ hh (by decide)), h.rv.same (fun k ar hh _ => hc k ar _ hh (by decide)), h.bel.trans (ho.below h.ge h.bel.size), h.n2, h.n4, h.ge⟩
end
theorem sz_str : ∀ w, (sizeOf 9).run Tryz.prog w = .ok 1 w := fun w => by kernel_rfl
theorem sz_byt : ∀ w, (sizeOf 23).run Tryz.prog w = .ok 1 w := fun w => by kernel_rfl
theorem el_strs : Tryz.prog.elem 40 = 9 := by kernel_rfl
theorem el_byts : Tryz.prog.elem 41 = 23 := by kernel_rfl
theorem str_one (m : KM) : ∀ u ∈ (m.map fun p => strV p.1), u.oneCell' = true := fun u hu => by
 obtain ⟨p, _, rfl⟩ := List.mem_map.1 hu
 rfl
theorem pl_le (ks : List Bs) (key : Bs) : plI ks key ≤ ks.length := by
 unfold plI
 exact (List.takeWhile_sublist _).length_le
def AlS (R : Nat → Prop) (w : World) (us : List Value) (m : KM) : Prop := us.length = m.length ∧ ∀ (j : Nat) u p, us[j]? = some u → m[j]? = some p → Sta R w (fun W => Reads W u p.2)
theorem AlS.take {R : Nat → Prop} {w : World} {us : List Value} {m : KM} (h : AlS R w us m) (i : Nat) : AlS R w (us.take i) (m.take i) := by
 refine ⟨by rw [List.length_take, List.length_take, h.1], fun j u p h1 h2 => ?_⟩
 have hj : j < i := by have := (List.getElem?_eq_some_iff.1 h1).1; rw [List.length_take] at this; omega
 rw [List.getElem?_take_of_lt hj] at h1 h2
 exact h.2 j u p h1 h2
theorem AlS.drop {R : Nat → Prop} {w : World} {us : List Value} {m : KM} (h : AlS R w us m) (i : Nat) : AlS R w (us.drop i) (m.drop i) := by
 refine ⟨by rw [List.length_drop, List.length_drop, h.1], fun j u p h1 h2 => ?_⟩
 rw [List.getElem?_drop] at h1 h2
 exact h.2 _ u p h1 h2
theorem AlS.app {R : Nat → Prop} {w : World} {us vs : List Value} {m k : KM} (h : AlS R w us m) (h2 : AlS R w vs k) : AlS R w (us ++ vs) (m ++ k) := by
 refine ⟨by rw [List.length_append, List.length_append, h.1, h2.1], fun j u p e1 e2 => ?_⟩
 by_cases hj : j < us.length
 · rw [List.getElem?_append_left hj] at e1
   rw [List.getElem?_append_left (by rw [← h.1]; exact hj)] at e2
   exact h.2 j u p e1 e2
 · rw [List.getElem?_append_right (by omega)] at e1
   rw [List.getElem?_append_right (by rw [← h.1]; omega), ← h.1] at e2
   exact h2.2 _ u p e1 e2
theorem AlS.one {R : Nat → Prop} {w : World} {u : Value} {p : Bs × Bs} (h : Sta R w (fun W => Reads W u p.2)) : AlS R w [u] [p] := ⟨rfl, fun j v q e1 e2 => by
 cases j with
 | zero => simp at e1 e2; rw [← e1, ← e2]; exact h
 | succ j => simp at e1⟩
theorem AlS.nil (R : Nat → Prop) (w : World) : AlS R w [] [] := ⟨rfl, fun j u p h => by cases h⟩
theorem one_fin {R : Nat → Prop} {w W : World} {vk vv : Value} {ks ts : List Value} {m2 : KM} (hR : ∀ k, R k → k < w.heap.size) (hb : Below w.heap.size w W) (hk : OwnR 9 W w.heap.size vk ks) (hv : OwnR 23 W w.heap.size vv ts) (e1 : ks = m2.map fun p => strV p.1) (hal : AlS R w ts m2) : KyS R W vk vv m2 :=
 KyS.of hR (by rw [← e1]; exact hk) hv hal.1 (fun j u p h1 h2 => (hal.2 j u p h1 h2).below hb)
theorem var_keysr {w : World} {g : Nat} {x y : Value} (hb : Blk w g [x, y] 43) {fn : Func} {p : Tmp} (h : fn.results = #[.cell p 43]) (tmps : Array Value) (hp : tmps.getD p undef = .pointer (some ⟨g, 0, none⟩)) : (results fn tmps).run Tryz.prog w = .ok (.agg [x, y].toArray) w := by
 have hp' : tmps[p]?.getD undef = .pointer (some ⟨g, 0, none⟩) := by simpa using hp
 simp [results, h, hp', asAddr, var_keys hb]
set_option linter.unusedSimpArgs false in
theorem oOne_any (R : Nat → Prop) (vK vV : Value) (m : KM) (a : ActT) (vd : Value) (w : World) (hR : ∀ k, R k → k < w.heap.size) (hm : KyS R w vK vV m) (hup : Rise m) (hd : Sta R w (fun W => Reads W vd a.data)) (hl : m.length < 100000) : Calls Tryz.prog 75 #[.agg [vK, vV].toArray, .agg (actC a vd).toArray] w fun e w' => ∃ uK uV, e = .returned (.agg [uK, uV].toArray) ∧ KyS R w' uK uV (oneM m a) ∧ Below w.heap.size w w' := by
 obtain ⟨us, hul, hcK, hcV, hone, hsta⟩ := hm.rows
 obtain ⟨N, HN⟩ := sqn (m.length)
 obtain ⟨adK, cK, hvK, hk1, hk2, _⟩ := hm.k
 obtain ⟨adV, cV, hvV, hv1, hv2, _⟩ := hm.v
 rw [List.length_map, ← HN.out] at hvK hvV hk1 hv1
 subst hvK
 subst hvV
 obtain ⟨ax, nx, cx, hvd⟩ := hd.now.form
 subst hvd
 obtain ⟨i, HPI⟩ := sqn (plI (m.map (·.1)) a.key)
 obtain ⟨pb, HPB⟩ := sqn (plB (m.map (·.1)) a.key)
 have HPL : Hid (∀ W, Below w.heap.size w W → Calls Tryz.prog 85 #[.agg [.slice adK N cK, .slice adV N cV].toArray, .string (strB a.key)] W fun e w' => e = .returned (.tuple #[.int .i64 (i : Int), .bool pb]) ∧ Below W.heap.size W w') := fun W hb => by
  rw [HPI.out, HPB.out]
  exact oPlace_any _ _ _ a.key W ((hm.k.now).below hb) (by rw [List.length_map]; omega)
 have HCUT : Hid (oneM m a = m.take i ++ ((if a.set then [(a.key, a.data)] else []) ++ m.drop (if pb = true then i + 1 else i))) := by
  show _ = _
  rw [HPI.out, HPB.out]
  exact oneM_cut hup a
 have hile : i ≤ N := by rw [HPI.out, HN.out]; have := pl_le (m.map (·.1)) a.key; rw [List.length_map] at this; exact this
 have hile2 : pb = true → i + 1 ≤ N := fun h => by
  rw [HPB.out] at h
  have := plB_lt h
  rw [List.length_map] at this
  rw [HPI.out, HN.out]
  omega
 have hax : KyS R w (.slice adK N cK) (.slice adV N cV) m := hm
 obtain ⟨sk, HSK⟩ := sqn (strB a.key)
 obtain ⟨st, HST⟩ := sqn (a.set)
 rw [show actC a (.slice ax nx cx) = [.string (strB a.key), .bool a.set, .slice ax nx cx] from rfl]
 rw [← HSK.out] at HPL ⊢
 rw [← HST.out] at HCUT ⊢
 obtain ⟨i2, HI2⟩ := sqn (if pb = true then i + 1 else i)
 rw [← HI2.out] at HCUT
 have hi2 : i2 ≤ N := by rw [HI2.out]; split; exact hile2 (by assumption); exact hile
 have HRX : Hid (∀ W, Below w.heap.size w W → CellsV W (.slice adK N cK) (m.map fun p => strV p.1) ∧ CellsV W (.slice adV N cV) us) := fun W hb => ⟨hcK.below hb, hcV.below hb⟩
 have HRW : Hid ((∀ u ∈ us, u.oneCell' = true) ∧ (∀ (j : Nat) u p, us[j]? = some u → m[j]? = some p → Sta R w (fun W => Reads W u p.2)) ∧ Sta R w (fun W => Reads W (.slice ax nx cx) a.data) ∧ ∀ k, R k → k < w.heap.size) := ⟨hone, hsta, hd, hR⟩
 have HCP : Hid (N ≤ cK ∧ N ≤ cV) := ⟨hk1, hv1⟩
 have HLN : Hid (m.length < 100000 ∧ us.length = m.length) := ⟨hl, hul⟩
 have HIL : Hid (i ≤ N ∧ i2 ≤ N) := ⟨hile, hi2⟩
 have HIU : Hid ((i ≤ (m.map fun p => strV p.1).length ∧ i ≤ us.length) ∧ i2 ≤ (m.map fun p => strV p.1).length ∧ i2 ≤ us.length) := by rw [List.length_map, hul, ← HN.out]; exact ⟨⟨hile, hile⟩, hi2, hi2⟩
 have HFA : Hid (pb = true → IntKind.i64.wrap ((i : Int) + 1) = (i2 : Int)) := fun h => by
  have h1 := HI2.out
  rw [if_pos h] at h1
  have h2 := HLN.out.1
  have h3 := HN.out
  have h4 := HIL.out.2
  rw [h1, IntKind.wrap_i64]
  omega
 have HFB : Hid (pb = false → i = i2) := fun h => by have h1 := HI2.out; rw [h] at h1; exact (by simpa using h1.symm)
 clear hm hup hd hl hR hul hcK hcV hone hsta hk1 hk2 hv1 hv2 hile hile2 hi2
 go_enter Tryz.func75, Tryz.ntmps75
 obtain ⟨tk0, tk1, tk2, tk3, tk4, tk5, tk6, tk7⟩ := sqk8
 go_upto_region 3 with (first
  | (clear tk0; with_reducible refine wpSeq_boxW 43 (.tmp 0) [.slice adK N cK, .slice adV N cV] ?_ ?_ ?_ ?_
     · rfl
     · rfl
     · rfl
     intro g2 x1 nn; have H2 : Hid (Blk x1 g2 [.slice adK N cK, .slice adV N cV] 43) := nn.blk; have HB : Hid (Below w.heap.size w x1) := nn.below; clear nn)
  | (clear tk1; with_reducible refine wpSeq_boxW 62 (.tmp 1) [.string sk, .bool st, .slice ax nx cx] ?_ ?_ ?_ ?_
     · rfl
     · rfl
     · rfl
     intro g3 x2 nn; have H3 : Hid (Blk x2 g3 [.string sk, .bool st, .slice ax nx cx] 62) := nn.blk; replace H2 : Hid (Blk x2 g2 [.slice adK N cK, .slice adV N cV] 43) := H2.out.below nn.below H2.out.lt; replace HB : Hid (Below w.heap.size w x2) := HB.out.trans (nn.below.mono HB.out.size); clear nn)
  | (clear tk2; with_reducible refine wpSeq_allocK ?_ ?_ ?_
     · rfl
     · rfl
     intro g4 x3 nn; have H4 : Hid (Blk x3 g4 [.slice none 0 0, .slice none 0 0] 43) := nn.blk; have H4G : Hid (w.heap.size ≤ g4) := Nat.le_trans HB.out.size nn.ge; replace H2 : Hid (Blk x3 g2 [.slice adK N cK, .slice adV N cV] 43) := H2.out.below nn.below H2.out.lt; replace H3 : Hid (Blk x3 g3 [.string sk, .bool st, .slice ax nx cx] 62) := H3.out.below nn.below H3.out.lt; replace HB : Hid (Below w.heap.size w x3) := HB.out.trans (nn.below.mono HB.out.size); have c3 : x3.cell? ⟨g3, 0, none⟩ = some (.string sk) := H3.out.cell 0; clear nn)
  | (clear tk3; with_reducible refine wpSeq_loadW 43 (.tmp 2) g2 0 [.slice adK N cK, .slice adV N cV] _ (Blk.range H2.out) Tryz.underlying43 rfl (info_keys _ _) ?_ ?_ ?_ ?_
     · rfl
     · rfl
     · rfl)
  | (clear tk4; go_at_call 85; refine (HPL.out _ HB.out).mono ?_; rintro e4 x4 ⟨rfl, bl⟩
     replace H2 : Hid (Blk x4 g2 [.slice adK N cK, .slice adV N cV] 43) := H2.out.below bl H2.out.lt; replace H3 : Hid (Blk x4 g3 [.string sk, .bool st, .slice ax nx cx] 62) := H3.out.below bl H3.out.lt; replace H4 : Hid (Blk x4 g4 [.slice none 0 0, .slice none 0 0] 43) := H4.out.below bl H4.out.lt; replace HB := sqt HB bl; clear bl c3)
  | (clear tk5; with_reducible refine wpSeq_buildK0 ?_ ?_ ?_
     · rfl
     · rfl)
  | (clear tk6; with_reducible refine wpSeq_allocK ?_ ?_ ?_
     · rfl
     · rfl
     intro g7 x5 nn; have H7 : Hid (Blk x5 g7 [.slice none 0 0, .slice none 0 0] 43 ∧ Below x4.heap.size x4 x5 ∧ x4.heap.size ≤ g7) := ⟨nn.blk, nn.below, nn.ge⟩; clear nn)
  | (clear tk7; with_reducible refine wpSeq_storeRow 43 (.tmp 7) (.tmp 15) g7 [.slice none 0 0, .slice none 0 0] [.slice none 0 0, .slice none 0 0] H7.out.1 rfl (info_keys _ _) (one_keys _ _ _ _ _ _) ?_ ?_ ?_ ?_ ?_
     · rfl
     · rfl
     · rfl
     · rfl
     intro y0 sr; have hb7 : Below x4.heap.size x4 y0 := H7.out.2.1.trans (sr.only.below H7.out.2.2 H7.out.2.1.size); have HI : Hid (OnG w g2 g3 g4 g7 (.slice adK N cK) (.slice adV N cV) [.string sk, .bool st, .slice ax nx cx] [] [] (.slice none 0 0) (.slice none 0 0) (.slice none 0 0) (.slice none 0 0) y0) := ⟨H2.out.below hb7 H2.out.lt, H3.out.below hb7 H3.out.lt, H4.out.below hb7 H4.out.lt, sr.blk, OwnR.nil _ _ _, OwnR.nil _ _ _, HB.out.trans (hb7.mono HB.out.size), (by have h1 := H2.out.lt; have h2 := H7.out.2.2; omega), (by have h1 := H4.out.lt; have h2 := H7.out.2.2; omega), Nat.le_trans HB.out.size H7.out.2.2⟩
     have HG4 : Hid (w.heap.size ≤ g4) := H4G.out; clear sr hb7))
 clear H2 H3 H4 H7 HB HPL H4G
 refine wp_region_held_drew (S := fun wx => Blk wx g2 [.slice adK N cK, .slice adV N cV] 43) (by kernel_rfl) HI.out.b2.drew ?_
 intro hS
 refine tkc 0 (.pointer (some ⟨g7, 0, none⟩)) rfl hS ?_
 simp only [Act.put, sq]
 refine tkc 2 (.pointer (some ⟨g2, 0, none⟩)) rfl hS ?_
 simp only [Act.put, sq]
 refine tka 3 (.slice adK N cK) rfl (fun wx hx => by (have cx : wx.cell? ⟨g2, 0, none⟩ = some (.slice adK N cK) := hx.cell 0; simp [go_sem, cx])) hS ?_
 simp only [Act.put, sq]
 refine tkc 4 (.int .i64 (i : Int)) rfl hS ?_
 simp only [Act.put, sq]
 refine tka 5 (.slice adK i cK) rfl (fun wx hx => by exact cut_hi 40 9 Tryz.underlying40 el_strs sz_str adK N cK i HIL.out.1 HCP.out.1 _ _ (.tmp 19) (.tmp 20) rfl rfl rfl _) hS ?_
 simp only [Act.put, sq]
 have cq : y0.drew.cell? ⟨g7, 0, none⟩ = some (.slice none 0 0) := HI.out.drew.b7.cell 0
 refine wpAnyH_step 1 (.slice none 0 0) y0.drew (by kernel_rfl) rfl (by rfl) (by simp [go_sem, cq]) hS ?_
 clear cq
 simp only [Act.put, sq]
 refine wpAnyH_law 6 (by kernel_rfl) rfl (by rfl) (app_any 40 9 Tryz.underlying40 _ _ Tryz.infoStr rfl (by decide) (.tmp 17) (.tmp 21) w.heap.size (.slice none 0 0) (.slice adK i cK) (([] : List Value)) ((m.map fun p => strV p.1).take i) HI.out.drew.rk (CellsV.hi (HRX.out _ HI.out.drew.bel).1 HIU.out.1.1) (fun u hu => str_one m u (List.mem_of_mem_take hu)) (by have h1 := HLN.out; simp [List.length_take]; omega) HI.out.bel.size rfl rfl rfl ?_)
 intro v3 z3 hr3 hg3 _
 obtain ⟨a3, c3, hv3⟩ := hr3.form
 obtain ⟨n3, hw3⟩ : ∃ n, v3 = .slice a3 n c3 := ⟨_, hv3⟩
 clear hv3
 subst hw3
 have hI3 := HI.out.drew.appK hr3 hg3
 refine ⟨hI3.b2, ?_⟩
 simp only [Act.put, sq]
 refine tkc 7 (.pointer (some ⟨g7, 0, none⟩)) rfl hI3.b2 ?_
 simp only [Act.put, sq]
 have cz : z3.cell? ⟨g7, 0, none⟩ = some (.slice none 0 0) := hI3.b7.cell 0
 have dz : z3.frozen? ⟨g7, 0, none⟩ = false := hI3.b7.frozen 0
 obtain ⟨y3, HX3⟩ : ∃ y, Hid (y = z3.setCell ⟨g7, 0, none⟩ (.slice a3 n3 c3)) := ⟨_, rfl⟩
 have ho3 : Only g7 z3 y3 := by rw [HX3.out]; exact Only.setCell (Only.refl _ _) _ _
 have hJ3 := hI3.set (Y := y3) (d1 := .slice a3 n3 c3) (d2 := .slice none 0 0) (by rw [HX3.out]; exact hI3.b7.set 0 _) ho3
 refine wpAnyH_skip 8 y3 (by kernel_rfl) rfl (by rfl) (by rw [HX3.out]; simp [go_sem, cz, dz]) hJ3.b2 ?_
 simp only [Act.put, sq]
 refine wpAnyH_done (by kernel_rfl) ?_ _
 clear hS cz dz hr3 hg3 ho3 HX3 hI3
 replace HI := Hid.mk' hJ3
 clear hJ3
 go_upto_region 4 with fail
 refine wp_region_held_drew (S := fun wx => Blk wx g2 [.slice adK N cK, .slice adV N cV] 43) (by kernel_rfl) HI.out.b2.drew ?_
 intro hS
 refine tkc 0 (.pointer (some ⟨g7, 1, none⟩)) rfl hS ?_
 simp only [Act.put, sq]
 refine tkc 2 (.pointer (some ⟨g2, 1, none⟩)) rfl hS ?_
 simp only [Act.put, sq]
 refine tka 3 (.slice adV N cV) rfl (fun wx hx => by (have cx : wx.cell? ⟨g2, 1, none⟩ = some (.slice adV N cV) := hx.cell 1; simp [go_sem, cx])) hS ?_
 simp only [Act.put, sq]
 refine tkc 4 (.int .i64 (i : Int)) rfl hS ?_
 simp only [Act.put, sq]
 refine tka 5 (.slice adV i cV) rfl (fun wx hx => by exact cut_hi 41 23 Tryz.underlying41 el_byts sz_byt adV N cV i HIL.out.1 HCP.out.2 _ _ (.tmp 27) (.tmp 28) rfl rfl rfl _) hS ?_
 simp only [Act.put, sq]
 have cq : y3.drew.cell? ⟨g7, 1, none⟩ = some (.slice none 0 0) := HI.out.drew.b7.cell 1
 refine wpAnyH_step 1 (.slice none 0 0) y3.drew (by kernel_rfl) rfl (by rfl) (by simp [go_sem, cq]) hS ?_
 clear cq
 simp only [Act.put, sq]
 refine wpAnyH_law 6 (by kernel_rfl) rfl (by rfl) (app_any 41 23 Tryz.underlying41 _ _ Tryz.infobsJ rfl (by decide) (.tmp 25) (.tmp 29) w.heap.size (.slice none 0 0) (.slice adV i cV) (([] : List Value)) (us.take i) HI.out.drew.rv (CellsV.hi (HRX.out _ HI.out.drew.bel).2 HIU.out.1.2) (fun u hu => HRW.out.1 u (List.mem_of_mem_take hu)) (by have h1 := HLN.out; simp [List.length_take]; omega) HI.out.bel.size rfl rfl rfl ?_)
 intro v4 z4 hr4 hg4 _
 obtain ⟨a4, c4, hv4⟩ := hr4.form
 obtain ⟨n4, hw4⟩ : ∃ n, v4 = .slice a4 n c4 := ⟨_, hv4⟩
 clear hv4
 subst hw4
 have hI4 := HI.out.drew.appV hr4 hg4
 refine ⟨hI4.b2, ?_⟩
 simp only [Act.put, sq]
 refine tkc 7 (.pointer (some ⟨g7, 1, none⟩)) rfl hI4.b2 ?_
 simp only [Act.put, sq]
 have cz : z4.cell? ⟨g7, 1, none⟩ = some (.slice none 0 0) := hI4.b7.cell 1
 have dz : z4.frozen? ⟨g7, 1, none⟩ = false := hI4.b7.frozen 1
 obtain ⟨y4, HX4⟩ : ∃ y, Hid (y = z4.setCell ⟨g7, 1, none⟩ (.slice a4 n4 c4)) := ⟨_, rfl⟩
 have ho4 : Only g7 z4 y4 := by rw [HX4.out]; exact Only.setCell (Only.refl _ _) _ _
 have hJ4 := hI4.set (Y := y4) (d1 := .slice a3 n3 c3) (d2 := .slice a4 n4 c4) (by rw [HX4.out]; exact hI4.b7.set 1 _) ho4
 refine wpAnyH_skip 8 y4 (by kernel_rfl) rfl (by rfl) (by rw [HX4.out]; simp [go_sem, cz, dz]) hJ4.b2 ?_
 simp only [Act.put, sq]
 refine wpAnyH_done (by kernel_rfl) ?_ _
 clear hS cz dz hr4 hg4 ho4 HX4 hI4
 replace HI := Hid.mk' hJ4
 clear hJ4
 have HAL : Hid (AlS R w us m) := ⟨HLN.out.2, HRW.out.2.1⟩
 cases st
 · skip
   have c5 : y4.cell? ⟨g3, 1, none⟩ = some (.bool false) := HI.out.b3.cell 1
   go_upto_region 8 with fail
   clear c5
   cases pb
   · skip
     obtain rfl := HFB.out rfl
     go_upto_region 10 with fail
     refine wp_region_held_drew (S := fun wx => Blk wx g2 [.slice adK N cK, .slice adV N cV] 43) (by kernel_rfl) HI.out.b2.drew ?_
     intro hS; refine tkc 0 (.pointer (some ⟨g7, 0, none⟩)) rfl hS ?_; simp only [Act.put, sq]; refine tkc 2 (.pointer (some ⟨g2, 0, none⟩)) rfl hS ?_; simp only [Act.put, sq]; refine tka 3 (.slice adK N cK) rfl (fun wx hx => by (have cx : wx.cell? ⟨g2, 0, none⟩ = some (.slice adK N cK) := hx.cell 0; simp [go_sem, cx])) hS ?_
     simp only [Act.put, sq]; refine tkc 4 (.int .i64 (i : Int)) rfl hS ?_; simp only [Act.put, sq]; refine tka 5 (loV adK N cK i) rfl (fun wx hx => by exact cut_lo 40 9 Tryz.underlying40 el_strs sz_str adK N cK i HIL.out.2 HCP.out.1 _ _ (.tmp 54) (.tmp 55) rfl rfl rfl _) hS ?_
     simp only [Act.put, sq]; have cq : y4.drew.cell? ⟨g7, 0, none⟩ = some (.slice a3 n3 c3) := HI.out.drew.b7.cell 0; refine wpAnyH_step 1 (.slice a3 n3 c3) y4.drew (by kernel_rfl) rfl (by rfl) (by simp [go_sem, cq]) hS ?_
     clear cq; simp only [Act.put, sq]; refine wpAnyH_law 6 (by kernel_rfl) rfl (by rfl) (app_any 40 9 Tryz.underlying40 _ _ Tryz.infoStr rfl (by decide) (.tmp 52) (.tmp 56) w.heap.size (.slice a3 n3 c3) (loV adK N cK i) ((([] : List Value) ++ ((m.map fun p => strV p.1).take i))) ((m.map fun p => strV p.1).drop i) HI.out.drew.rk (CellsV.lo (HRX.out _ HI.out.drew.bel).1 HIU.out.2.1) (fun u hu => str_one m u (List.mem_of_mem_drop hu)) (by have h1 := HLN.out; simp [List.length_take, List.length_drop]; omega) HI.out.bel.size rfl rfl rfl ?_)
     intro v10 z10 hr10 hg10 _; obtain ⟨a10, c10, hv10⟩ := hr10.form; obtain ⟨n10, hw10⟩ : ∃ n, v10 = .slice a10 n c10 := ⟨_, hv10⟩; clear hv10; subst hw10; have hI10 := HI.out.drew.appK hr10 hg10; refine ⟨hI10.b2, ?_⟩; simp only [Act.put, sq]; refine tkc 7 (.pointer (some ⟨g7, 0, none⟩)) rfl hI10.b2 ?_; simp only [Act.put, sq]; have cz : z10.cell? ⟨g7, 0, none⟩ = some (.slice a3 n3 c3) := hI10.b7.cell 0; have dz : z10.frozen? ⟨g7, 0, none⟩ = false := hI10.b7.frozen 0; obtain ⟨y10, HX10⟩ : ∃ y, Hid (y = z10.setCell ⟨g7, 0, none⟩ (.slice a10 n10 c10)) := ⟨_, rfl⟩; have ho10 : Only g7 z10 y10 := by rw [HX10.out]; exact Only.setCell (Only.refl _ _) _ _
     have hJ10 := hI10.set (Y := y10) (d1 := .slice a10 n10 c10) (d2 := .slice a4 n4 c4) (by rw [HX10.out]; exact hI10.b7.set 0 _) ho10
     refine wpAnyH_skip 8 y10 (by kernel_rfl) rfl (by rfl) (by rw [HX10.out]; simp [go_sem, cz, dz]) hJ10.b2 ?_
     simp only [Act.put, sq]; refine wpAnyH_done (by kernel_rfl) ?_ _
     clear hS cz dz hr10 hg10 ho10 HX10 hI10; replace HI := Hid.mk' hJ10; clear hJ10
     go_upto_region 11 with fail
     refine wp_region_held_drew (S := fun wx => Blk wx g2 [.slice adK N cK, .slice adV N cV] 43) (by kernel_rfl) HI.out.b2.drew ?_
     intro hS; refine tkc 0 (.pointer (some ⟨g7, 1, none⟩)) rfl hS ?_; simp only [Act.put, sq]; refine tkc 2 (.pointer (some ⟨g2, 1, none⟩)) rfl hS ?_; simp only [Act.put, sq]; refine tka 3 (.slice adV N cV) rfl (fun wx hx => by (have cx : wx.cell? ⟨g2, 1, none⟩ = some (.slice adV N cV) := hx.cell 1; simp [go_sem, cx])) hS ?_
     simp only [Act.put, sq]; refine tkc 4 (.int .i64 (i : Int)) rfl hS ?_; simp only [Act.put, sq]; refine tka 5 (loV adV N cV i) rfl (fun wx hx => by exact cut_lo 41 23 Tryz.underlying41 el_byts sz_byt adV N cV i HIL.out.2 HCP.out.2 _ _ (.tmp 62) (.tmp 63) rfl rfl rfl _) hS ?_
     simp only [Act.put, sq]; have cq : y10.drew.cell? ⟨g7, 1, none⟩ = some (.slice a4 n4 c4) := HI.out.drew.b7.cell 1; refine wpAnyH_step 1 (.slice a4 n4 c4) y10.drew (by kernel_rfl) rfl (by rfl) (by simp [go_sem, cq]) hS ?_
     clear cq; simp only [Act.put, sq]; refine wpAnyH_law 6 (by kernel_rfl) rfl (by rfl) (app_any 41 23 Tryz.underlying41 _ _ Tryz.infobsJ rfl (by decide) (.tmp 60) (.tmp 64) w.heap.size (.slice a4 n4 c4) (loV adV N cV i) ((([] : List Value) ++ (us.take i))) (us.drop i) HI.out.drew.rv (CellsV.lo (HRX.out _ HI.out.drew.bel).2 HIU.out.2.2) (fun u hu => HRW.out.1 u (List.mem_of_mem_drop hu)) (by have h1 := HLN.out; simp [List.length_take, List.length_drop]; omega) HI.out.bel.size rfl rfl rfl ?_)
     intro v11 z11 hr11 hg11 _; obtain ⟨a11, c11, hv11⟩ := hr11.form; obtain ⟨n11, hw11⟩ : ∃ n, v11 = .slice a11 n c11 := ⟨_, hv11⟩; clear hv11; subst hw11; have hI11 := HI.out.drew.appV hr11 hg11; refine ⟨hI11.b2, ?_⟩; simp only [Act.put, sq]; refine tkc 7 (.pointer (some ⟨g7, 1, none⟩)) rfl hI11.b2 ?_; simp only [Act.put, sq]; have cz : z11.cell? ⟨g7, 1, none⟩ = some (.slice a4 n4 c4) := hI11.b7.cell 1; have dz : z11.frozen? ⟨g7, 1, none⟩ = false := hI11.b7.frozen 1; obtain ⟨y11, HX11⟩ : ∃ y, Hid (y = z11.setCell ⟨g7, 1, none⟩ (.slice a11 n11 c11)) := ⟨_, rfl⟩; have ho11 : Only g7 z11 y11 := by rw [HX11.out]; exact Only.setCell (Only.refl _ _) _ _
     have hJ11 := hI11.set (Y := y11) (d1 := .slice a10 n10 c10) (d2 := .slice a11 n11 c11) (by rw [HX11.out]; exact hI11.b7.set 1 _) ho11
     refine wpAnyH_skip 8 y11 (by kernel_rfl) rfl (by rfl) (by rw [HX11.out]; simp [go_sem, cz, dz]) hJ11.b2 ?_
     simp only [Act.put, sq]; refine wpAnyH_done (by kernel_rfl) ?_ _
     clear hS cz dz hr11 hg11 ho11 HX11 hI11; replace HI := Hid.mk' hJ11; clear hJ11; obtain ⟨tc0, tc1⟩ := sqk2
     go_wp2_with (first
      | (clear tc0; with_reducible refine wpSeq_loadW 43 (.tmp 7) g7 0 [.slice a10 n10 c10, .slice a11 n11 c11] _ (Blk.range HI.out.b7) Tryz.underlying43 rfl (info_keys _ _) ?_ ?_ ?_ ?_
         · rfl
         · rfl
         · rfl)
      | (clear tc1; with_reducible refine wpSeq_storeRow 43 (.tmp 4) (.tmp 67) g4 [.slice none 0 0, .slice none 0 0] [.slice a10 n10 c10, .slice a11 n11 c11] HI.out.b4 rfl (info_keys _ _) (one_keys _ _ _ _ _ _) ?_ ?_ ?_ ?_ ?_
         · rfl
         · rfl
         · rfl
         · rfl
         intro y12 sr; have HF : Hid (Blk y12 g4 [.slice a10 n10 c10, .slice a11 n11 c11] 43 ∧ Only g4 y11 y12) := ⟨sr.blk, sr.only⟩; clear sr))
     refine bodyPost_ret (var_keysr HF.out.1 rfl _ rfl) rfl ?_
     have hc : ∀ (k : Nat) (ar : Array Value) (t : TypeId), y11.heap[k]? = some (Obj.cells ar t (0, 0)) → t ≠ 43 → y12.heap[k]? = y11.heap[k]? := fun k ar t hh ht => HF.out.2.block k (fun e => by
      have h4 := HI.out.b4; unfold Blk at h4; rw [e, h4] at hh; simp only [Option.some.injEq, Obj.cells.injEq] at hh; exact ht hh.2.1.symm) (Array.getElem?_eq_some_iff.1 hh).1
     have hbw : Below w.heap.size w y12 := HI.out.bel.trans (HF.out.2.below HG4.out HI.out.bel.size); refine ⟨_, _, rfl, ?_, hbw⟩; rw [HCUT.out]; exact one_fin HRW.out.2.2.2 hbw (HI.out.rk.same (fun k ar hh _ => hc k ar _ hh (by decide))) (HI.out.rv.same (fun k ar hh _ => hc k ar _ hh (by decide))) (by simp [List.map_append, List.map_take, List.map_drop, strV]) (by simpa using (AlS.app (AlS.app (AlS.nil _ _) (HAL.out.take i)) (HAL.out.drop i)))
   · skip
     have f9 := HFA.out rfl
     go_upto_region 10 with fail
     clear f9; refine wp_region_held_drew (S := fun wx => Blk wx g2 [.slice adK N cK, .slice adV N cV] 43) (by kernel_rfl) HI.out.b2.drew ?_
     intro hS; refine tkc 0 (.pointer (some ⟨g7, 0, none⟩)) rfl hS ?_; simp only [Act.put, sq]; refine tkc 2 (.pointer (some ⟨g2, 0, none⟩)) rfl hS ?_; simp only [Act.put, sq]; refine tka 3 (.slice adK N cK) rfl (fun wx hx => by (have cx : wx.cell? ⟨g2, 0, none⟩ = some (.slice adK N cK) := hx.cell 0; simp [go_sem, cx])) hS ?_
     simp only [Act.put, sq]; refine tkc 4 (.int .i64 (i2 : Int)) rfl hS ?_; simp only [Act.put, sq]; refine tka 5 (loV adK N cK i2) rfl (fun wx hx => by exact cut_lo 40 9 Tryz.underlying40 el_strs sz_str adK N cK i2 HIL.out.2 HCP.out.1 _ _ (.tmp 54) (.tmp 55) rfl rfl rfl _) hS ?_
     simp only [Act.put, sq]; have cq : y4.drew.cell? ⟨g7, 0, none⟩ = some (.slice a3 n3 c3) := HI.out.drew.b7.cell 0; refine wpAnyH_step 1 (.slice a3 n3 c3) y4.drew (by kernel_rfl) rfl (by rfl) (by simp [go_sem, cq]) hS ?_
     clear cq; simp only [Act.put, sq]; refine wpAnyH_law 6 (by kernel_rfl) rfl (by rfl) (app_any 40 9 Tryz.underlying40 _ _ Tryz.infoStr rfl (by decide) (.tmp 52) (.tmp 56) w.heap.size (.slice a3 n3 c3) (loV adK N cK i2) ((([] : List Value) ++ ((m.map fun p => strV p.1).take i))) ((m.map fun p => strV p.1).drop i2) HI.out.drew.rk (CellsV.lo (HRX.out _ HI.out.drew.bel).1 HIU.out.2.1) (fun u hu => str_one m u (List.mem_of_mem_drop hu)) (by have h1 := HLN.out; simp [List.length_take, List.length_drop]; omega) HI.out.bel.size rfl rfl rfl ?_)
     intro v10 z10 hr10 hg10 _; obtain ⟨a10, c10, hv10⟩ := hr10.form; obtain ⟨n10, hw10⟩ : ∃ n, v10 = .slice a10 n c10 := ⟨_, hv10⟩; clear hv10; subst hw10; have hI10 := HI.out.drew.appK hr10 hg10; refine ⟨hI10.b2, ?_⟩; simp only [Act.put, sq]; refine tkc 7 (.pointer (some ⟨g7, 0, none⟩)) rfl hI10.b2 ?_; simp only [Act.put, sq]; have cz : z10.cell? ⟨g7, 0, none⟩ = some (.slice a3 n3 c3) := hI10.b7.cell 0; have dz : z10.frozen? ⟨g7, 0, none⟩ = false := hI10.b7.frozen 0; obtain ⟨y10, HX10⟩ : ∃ y, Hid (y = z10.setCell ⟨g7, 0, none⟩ (.slice a10 n10 c10)) := ⟨_, rfl⟩; have ho10 : Only g7 z10 y10 := by rw [HX10.out]; exact Only.setCell (Only.refl _ _) _ _
     have hJ10 := hI10.set (Y := y10) (d1 := .slice a10 n10 c10) (d2 := .slice a4 n4 c4) (by rw [HX10.out]; exact hI10.b7.set 0 _) ho10
     refine wpAnyH_skip 8 y10 (by kernel_rfl) rfl (by rfl) (by rw [HX10.out]; simp [go_sem, cz, dz]) hJ10.b2 ?_
     simp only [Act.put, sq]; refine wpAnyH_done (by kernel_rfl) ?_ _
     clear hS cz dz hr10 hg10 ho10 HX10 hI10; replace HI := Hid.mk' hJ10; clear hJ10
     go_upto_region 11 with fail
     refine wp_region_held_drew (S := fun wx => Blk wx g2 [.slice adK N cK, .slice adV N cV] 43) (by kernel_rfl) HI.out.b2.drew ?_
     intro hS; refine tkc 0 (.pointer (some ⟨g7, 1, none⟩)) rfl hS ?_; simp only [Act.put, sq]; refine tkc 2 (.pointer (some ⟨g2, 1, none⟩)) rfl hS ?_; simp only [Act.put, sq]; refine tka 3 (.slice adV N cV) rfl (fun wx hx => by (have cx : wx.cell? ⟨g2, 1, none⟩ = some (.slice adV N cV) := hx.cell 1; simp [go_sem, cx])) hS ?_
     simp only [Act.put, sq]; refine tkc 4 (.int .i64 (i2 : Int)) rfl hS ?_; simp only [Act.put, sq]; refine tka 5 (loV adV N cV i2) rfl (fun wx hx => by exact cut_lo 41 23 Tryz.underlying41 el_byts sz_byt adV N cV i2 HIL.out.2 HCP.out.2 _ _ (.tmp 62) (.tmp 63) rfl rfl rfl _) hS ?_
     simp only [Act.put, sq]; have cq : y10.drew.cell? ⟨g7, 1, none⟩ = some (.slice a4 n4 c4) := HI.out.drew.b7.cell 1; refine wpAnyH_step 1 (.slice a4 n4 c4) y10.drew (by kernel_rfl) rfl (by rfl) (by simp [go_sem, cq]) hS ?_
     clear cq; simp only [Act.put, sq]; refine wpAnyH_law 6 (by kernel_rfl) rfl (by rfl) (app_any 41 23 Tryz.underlying41 _ _ Tryz.infobsJ rfl (by decide) (.tmp 60) (.tmp 64) w.heap.size (.slice a4 n4 c4) (loV adV N cV i2) ((([] : List Value) ++ (us.take i))) (us.drop i2) HI.out.drew.rv (CellsV.lo (HRX.out _ HI.out.drew.bel).2 HIU.out.2.2) (fun u hu => HRW.out.1 u (List.mem_of_mem_drop hu)) (by have h1 := HLN.out; simp [List.length_take, List.length_drop]; omega) HI.out.bel.size rfl rfl rfl ?_)
     intro v11 z11 hr11 hg11 _; obtain ⟨a11, c11, hv11⟩ := hr11.form; obtain ⟨n11, hw11⟩ : ∃ n, v11 = .slice a11 n c11 := ⟨_, hv11⟩; clear hv11; subst hw11; have hI11 := HI.out.drew.appV hr11 hg11; refine ⟨hI11.b2, ?_⟩; simp only [Act.put, sq]; refine tkc 7 (.pointer (some ⟨g7, 1, none⟩)) rfl hI11.b2 ?_; simp only [Act.put, sq]; have cz : z11.cell? ⟨g7, 1, none⟩ = some (.slice a4 n4 c4) := hI11.b7.cell 1; have dz : z11.frozen? ⟨g7, 1, none⟩ = false := hI11.b7.frozen 1; obtain ⟨y11, HX11⟩ : ∃ y, Hid (y = z11.setCell ⟨g7, 1, none⟩ (.slice a11 n11 c11)) := ⟨_, rfl⟩; have ho11 : Only g7 z11 y11 := by rw [HX11.out]; exact Only.setCell (Only.refl _ _) _ _
     have hJ11 := hI11.set (Y := y11) (d1 := .slice a10 n10 c10) (d2 := .slice a11 n11 c11) (by rw [HX11.out]; exact hI11.b7.set 1 _) ho11
     refine wpAnyH_skip 8 y11 (by kernel_rfl) rfl (by rfl) (by rw [HX11.out]; simp [go_sem, cz, dz]) hJ11.b2 ?_
     simp only [Act.put, sq]; refine wpAnyH_done (by kernel_rfl) ?_ _
     clear hS cz dz hr11 hg11 ho11 HX11 hI11; replace HI := Hid.mk' hJ11; clear hJ11; obtain ⟨tc0, tc1⟩ := sqk2
     go_wp2_with (first
      | (clear tc0; with_reducible refine wpSeq_loadW 43 (.tmp 7) g7 0 [.slice a10 n10 c10, .slice a11 n11 c11] _ (Blk.range HI.out.b7) Tryz.underlying43 rfl (info_keys _ _) ?_ ?_ ?_ ?_
         · rfl
         · rfl
         · rfl)
      | (clear tc1; with_reducible refine wpSeq_storeRow 43 (.tmp 4) (.tmp 67) g4 [.slice none 0 0, .slice none 0 0] [.slice a10 n10 c10, .slice a11 n11 c11] HI.out.b4 rfl (info_keys _ _) (one_keys _ _ _ _ _ _) ?_ ?_ ?_ ?_ ?_
         · rfl
         · rfl
         · rfl
         · rfl
         intro y12 sr; have HF : Hid (Blk y12 g4 [.slice a10 n10 c10, .slice a11 n11 c11] 43 ∧ Only g4 y11 y12) := ⟨sr.blk, sr.only⟩; clear sr))
     refine bodyPost_ret (var_keysr HF.out.1 rfl _ rfl) rfl ?_
     have hc : ∀ (k : Nat) (ar : Array Value) (t : TypeId), y11.heap[k]? = some (Obj.cells ar t (0, 0)) → t ≠ 43 → y12.heap[k]? = y11.heap[k]? := fun k ar t hh ht => HF.out.2.block k (fun e => by
      have h4 := HI.out.b4; unfold Blk at h4; rw [e, h4] at hh; simp only [Option.some.injEq, Obj.cells.injEq] at hh; exact ht hh.2.1.symm) (Array.getElem?_eq_some_iff.1 hh).1
     have hbw : Below w.heap.size w y12 := HI.out.bel.trans (HF.out.2.below HG4.out HI.out.bel.size); refine ⟨_, _, rfl, ?_, hbw⟩; rw [HCUT.out]; exact one_fin HRW.out.2.2.2 hbw (HI.out.rk.same (fun k ar hh _ => hc k ar _ hh (by decide))) (HI.out.rv.same (fun k ar hh _ => hc k ar _ hh (by decide))) (by simp [List.map_append, List.map_take, List.map_drop, strV]) (by simpa using (AlS.app (AlS.app (AlS.nil _ _) (HAL.out.take i)) (HAL.out.drop i2)))
 · skip
   have c5 : y4.cell? ⟨g3, 1, none⟩ = some (.bool true) := HI.out.b3.cell 1
   go_upto_region 6 with fail
   clear c5; have c6 : y4.cell? ⟨g7, 0, none⟩ = some (.slice a3 n3 c3) := HI.out.b7.cell 0; have c7 : y4.cell? ⟨g3, 0, none⟩ = some (.string sk) := HI.out.b3.cell 0; obtain ⟨ta0, ta1⟩ := sqk2
   go_upto_region 7 with (first
    | (clear ta0; with_reducible refine wpSeq_buildS1 (.tmp 37) sk ?_ ?_ ?_ ?_
       · rfl
       · rfl
       · rfl
       intro g8 x6 nn; have HB8 : Hid (Blk x6 g8 [.string sk] 9) := nn.blk; replace HI := Hid.mk' (HI.out.new nn.below); clear nn c6 c7)
    | (clear ta1; at_builtin; refine wpList_appK (.tmp 35) (.tmp 38) w.heap.size (.slice a3 n3 c3) sk (([] : List Value) ++ ((m.map fun p => strV p.1).take i)) g8 HI.out.rk HB8.out (by have h1 := HLN.out; simp [List.length_take]; omega) HI.out.bel.size ?_ ?_ ?_ ?_ ?_
       · rfl
       · rfl
       · rfl
       · rfl
       intro v6 z6 hr6 hg6 hb6; obtain ⟨a6, c6, hv6⟩ := hr6.form; obtain ⟨n6, hw6⟩ : ∃ n, v6 = .slice a6 n c6 := ⟨_, hv6⟩; clear hv6; subst hw6; replace HI := Hid.mk' (HI.out.appK hr6 hg6); have e5 : z6.cell? ⟨g7, 0, none⟩ = some (.slice a3 n3 c3) := HI.out.b7.cell 0; have d5 : z6.frozen? ⟨g7, 0, none⟩ = false := HI.out.b7.frozen 0; clear hr6 hg6 hb6))
   clear e5 d5; obtain ⟨y6, HY6⟩ : ∃ y, Hid (y = z6.setCell ⟨g7, 0, none⟩ (.slice a6 n6 c6)) := ⟨_, rfl⟩; rw [← HY6.out]; replace HI := Hid.mk' (HI.out.set (Y := y6) (d1 := .slice a6 n6 c6) (d2 := .slice a4 n4 c4) (by rw [HY6.out]; exact HI.out.b7.set 0 _) (by rw [HY6.out]; exact Only.setCell (Only.refl _ _) _ _))
   clear HY6; have e6 : y6.cell? ⟨g7, 1, none⟩ = some (.slice a4 n4 c4) := HI.out.b7.cell 1; have e7 : y6.cell? ⟨g3, 2, none⟩ = some (.slice ax nx cx) := HI.out.b3.cell 2; obtain ⟨tb0, tb1⟩ := sqk2
   go_upto_region 8 with (first
    | (clear tb0; with_reducible refine wpSeq_buildTT (.tmp 44) (ax, nx, cx) ?_ ?_ ?_ ?_
       · rfl
       · rfl
       · rfl
       intro g9 x7 nn; have HB9 : Hid (Blk x7 g9 [mkS (ax, nx, cx)] 23) := nn.blk; replace HI := Hid.mk' (HI.out.new nn.below); clear nn e6 e7)
    | (clear tb1; at_builtin; refine wpList_appT15 (.tmp 42) (.tmp 45) w.heap.size (.slice a4 n4 c4) (ax, nx, cx) (([] : List Value) ++ (us.take i)) g9 HI.out.rv HB9.out (by have h1 := HLN.out; simp [List.length_take]; omega) HI.out.bel.size ?_ ?_ ?_ ?_ ?_
       · rfl
       · rfl
       · rfl
       · rfl
       intro v7 z7 hr7 hg7 hb7; obtain ⟨a7, c7, hv7⟩ := hr7.form; obtain ⟨n7, hw7⟩ : ∃ n, v7 = .slice a7 n c7 := ⟨_, hv7⟩; clear hv7; subst hw7; replace HI := Hid.mk' (HI.out.appV hr7 hg7); have e5 : z7.cell? ⟨g7, 1, none⟩ = some (.slice a4 n4 c4) := HI.out.b7.cell 1; have d5 : z7.frozen? ⟨g7, 1, none⟩ = false := HI.out.b7.frozen 1; clear hr7 hg7 hb7))
   clear e5 d5; obtain ⟨y7, HY7⟩ : ∃ y, Hid (y = z7.setCell ⟨g7, 1, none⟩ (.slice a7 n7 c7)) := ⟨_, rfl⟩; rw [← HY7.out]; replace HI := Hid.mk' (HI.out.set (Y := y7) (d1 := .slice a6 n6 c6) (d2 := .slice a7 n7 c7) (by rw [HY7.out]; exact HI.out.b7.set 1 _) (by rw [HY7.out]; exact Only.setCell (Only.refl _ _) _ _))
   clear HY7
   cases pb
   · skip
     obtain rfl := HFB.out rfl
     go_upto_region 10 with fail
     refine wp_region_held_drew (S := fun wx => Blk wx g2 [.slice adK N cK, .slice adV N cV] 43) (by kernel_rfl) HI.out.b2.drew ?_
     intro hS; refine tkc 0 (.pointer (some ⟨g7, 0, none⟩)) rfl hS ?_; simp only [Act.put, sq]; refine tkc 2 (.pointer (some ⟨g2, 0, none⟩)) rfl hS ?_; simp only [Act.put, sq]; refine tka 3 (.slice adK N cK) rfl (fun wx hx => by (have cx : wx.cell? ⟨g2, 0, none⟩ = some (.slice adK N cK) := hx.cell 0; simp [go_sem, cx])) hS ?_
     simp only [Act.put, sq]; refine tkc 4 (.int .i64 (i : Int)) rfl hS ?_; simp only [Act.put, sq]; refine tka 5 (loV adK N cK i) rfl (fun wx hx => by exact cut_lo 40 9 Tryz.underlying40 el_strs sz_str adK N cK i HIL.out.2 HCP.out.1 _ _ (.tmp 54) (.tmp 55) rfl rfl rfl _) hS ?_
     simp only [Act.put, sq]; have cq : y7.drew.cell? ⟨g7, 0, none⟩ = some (.slice a6 n6 c6) := HI.out.drew.b7.cell 0; refine wpAnyH_step 1 (.slice a6 n6 c6) y7.drew (by kernel_rfl) rfl (by rfl) (by simp [go_sem, cq]) hS ?_
     clear cq; simp only [Act.put, sq]; refine wpAnyH_law 6 (by kernel_rfl) rfl (by rfl) (app_any 40 9 Tryz.underlying40 _ _ Tryz.infoStr rfl (by decide) (.tmp 52) (.tmp 56) w.heap.size (.slice a6 n6 c6) (loV adK N cK i) (((([] : List Value) ++ ((m.map fun p => strV p.1).take i)) ++ [.string sk])) ((m.map fun p => strV p.1).drop i) HI.out.drew.rk (CellsV.lo (HRX.out _ HI.out.drew.bel).1 HIU.out.2.1) (fun u hu => str_one m u (List.mem_of_mem_drop hu)) (by have h1 := HLN.out; simp [List.length_take, List.length_drop]; omega) HI.out.bel.size rfl rfl rfl ?_)
     intro v10 z10 hr10 hg10 _; obtain ⟨a10, c10, hv10⟩ := hr10.form; obtain ⟨n10, hw10⟩ : ∃ n, v10 = .slice a10 n c10 := ⟨_, hv10⟩; clear hv10; subst hw10; have hI10 := HI.out.drew.appK hr10 hg10; refine ⟨hI10.b2, ?_⟩; simp only [Act.put, sq]; refine tkc 7 (.pointer (some ⟨g7, 0, none⟩)) rfl hI10.b2 ?_; simp only [Act.put, sq]; have cz : z10.cell? ⟨g7, 0, none⟩ = some (.slice a6 n6 c6) := hI10.b7.cell 0; have dz : z10.frozen? ⟨g7, 0, none⟩ = false := hI10.b7.frozen 0; obtain ⟨y10, HX10⟩ : ∃ y, Hid (y = z10.setCell ⟨g7, 0, none⟩ (.slice a10 n10 c10)) := ⟨_, rfl⟩; have ho10 : Only g7 z10 y10 := by rw [HX10.out]; exact Only.setCell (Only.refl _ _) _ _
     have hJ10 := hI10.set (Y := y10) (d1 := .slice a10 n10 c10) (d2 := .slice a7 n7 c7) (by rw [HX10.out]; exact hI10.b7.set 0 _) ho10
     refine wpAnyH_skip 8 y10 (by kernel_rfl) rfl (by rfl) (by rw [HX10.out]; simp [go_sem, cz, dz]) hJ10.b2 ?_
     simp only [Act.put, sq]; refine wpAnyH_done (by kernel_rfl) ?_ _
     clear hS cz dz hr10 hg10 ho10 HX10 hI10; replace HI := Hid.mk' hJ10; clear hJ10
     go_upto_region 11 with fail
     refine wp_region_held_drew (S := fun wx => Blk wx g2 [.slice adK N cK, .slice adV N cV] 43) (by kernel_rfl) HI.out.b2.drew ?_
     intro hS; refine tkc 0 (.pointer (some ⟨g7, 1, none⟩)) rfl hS ?_; simp only [Act.put, sq]; refine tkc 2 (.pointer (some ⟨g2, 1, none⟩)) rfl hS ?_; simp only [Act.put, sq]; refine tka 3 (.slice adV N cV) rfl (fun wx hx => by (have cx : wx.cell? ⟨g2, 1, none⟩ = some (.slice adV N cV) := hx.cell 1; simp [go_sem, cx])) hS ?_
     simp only [Act.put, sq]; refine tkc 4 (.int .i64 (i : Int)) rfl hS ?_; simp only [Act.put, sq]; refine tka 5 (loV adV N cV i) rfl (fun wx hx => by exact cut_lo 41 23 Tryz.underlying41 el_byts sz_byt adV N cV i HIL.out.2 HCP.out.2 _ _ (.tmp 62) (.tmp 63) rfl rfl rfl _) hS ?_
     simp only [Act.put, sq]; have cq : y10.drew.cell? ⟨g7, 1, none⟩ = some (.slice a7 n7 c7) := HI.out.drew.b7.cell 1; refine wpAnyH_step 1 (.slice a7 n7 c7) y10.drew (by kernel_rfl) rfl (by rfl) (by simp [go_sem, cq]) hS ?_
     clear cq; simp only [Act.put, sq]; refine wpAnyH_law 6 (by kernel_rfl) rfl (by rfl) (app_any 41 23 Tryz.underlying41 _ _ Tryz.infobsJ rfl (by decide) (.tmp 60) (.tmp 64) w.heap.size (.slice a7 n7 c7) (loV adV N cV i) (((([] : List Value) ++ (us.take i)) ++ [mkS (ax, nx, cx)])) (us.drop i) HI.out.drew.rv (CellsV.lo (HRX.out _ HI.out.drew.bel).2 HIU.out.2.2) (fun u hu => HRW.out.1 u (List.mem_of_mem_drop hu)) (by have h1 := HLN.out; simp [List.length_take, List.length_drop]; omega) HI.out.bel.size rfl rfl rfl ?_)
     intro v11 z11 hr11 hg11 _; obtain ⟨a11, c11, hv11⟩ := hr11.form; obtain ⟨n11, hw11⟩ : ∃ n, v11 = .slice a11 n c11 := ⟨_, hv11⟩; clear hv11; subst hw11; have hI11 := HI.out.drew.appV hr11 hg11; refine ⟨hI11.b2, ?_⟩; simp only [Act.put, sq]; refine tkc 7 (.pointer (some ⟨g7, 1, none⟩)) rfl hI11.b2 ?_; simp only [Act.put, sq]; have cz : z11.cell? ⟨g7, 1, none⟩ = some (.slice a7 n7 c7) := hI11.b7.cell 1; have dz : z11.frozen? ⟨g7, 1, none⟩ = false := hI11.b7.frozen 1; obtain ⟨y11, HX11⟩ : ∃ y, Hid (y = z11.setCell ⟨g7, 1, none⟩ (.slice a11 n11 c11)) := ⟨_, rfl⟩; have ho11 : Only g7 z11 y11 := by rw [HX11.out]; exact Only.setCell (Only.refl _ _) _ _
     have hJ11 := hI11.set (Y := y11) (d1 := .slice a10 n10 c10) (d2 := .slice a11 n11 c11) (by rw [HX11.out]; exact hI11.b7.set 1 _) ho11
     refine wpAnyH_skip 8 y11 (by kernel_rfl) rfl (by rfl) (by rw [HX11.out]; simp [go_sem, cz, dz]) hJ11.b2 ?_
     simp only [Act.put, sq]; refine wpAnyH_done (by kernel_rfl) ?_ _
     clear hS cz dz hr11 hg11 ho11 HX11 hI11; replace HI := Hid.mk' hJ11; clear hJ11; obtain ⟨tc0, tc1⟩ := sqk2
     go_wp2_with (first
      | (clear tc0; with_reducible refine wpSeq_loadW 43 (.tmp 7) g7 0 [.slice a10 n10 c10, .slice a11 n11 c11] _ (Blk.range HI.out.b7) Tryz.underlying43 rfl (info_keys _ _) ?_ ?_ ?_ ?_
         · rfl
         · rfl
         · rfl)
      | (clear tc1; with_reducible refine wpSeq_storeRow 43 (.tmp 4) (.tmp 67) g4 [.slice none 0 0, .slice none 0 0] [.slice a10 n10 c10, .slice a11 n11 c11] HI.out.b4 rfl (info_keys _ _) (one_keys _ _ _ _ _ _) ?_ ?_ ?_ ?_ ?_
         · rfl
         · rfl
         · rfl
         · rfl
         intro y12 sr; have HF : Hid (Blk y12 g4 [.slice a10 n10 c10, .slice a11 n11 c11] 43 ∧ Only g4 y11 y12) := ⟨sr.blk, sr.only⟩; clear sr))
     refine bodyPost_ret (var_keysr HF.out.1 rfl _ rfl) rfl ?_
     have hc : ∀ (k : Nat) (ar : Array Value) (t : TypeId), y11.heap[k]? = some (Obj.cells ar t (0, 0)) → t ≠ 43 → y12.heap[k]? = y11.heap[k]? := fun k ar t hh ht => HF.out.2.block k (fun e => by
      have h4 := HI.out.b4; unfold Blk at h4; rw [e, h4] at hh; simp only [Option.some.injEq, Obj.cells.injEq] at hh; exact ht hh.2.1.symm) (Array.getElem?_eq_some_iff.1 hh).1
     have hbw : Below w.heap.size w y12 := HI.out.bel.trans (HF.out.2.below HG4.out HI.out.bel.size); refine ⟨_, _, rfl, ?_, hbw⟩; rw [HCUT.out]; exact one_fin HRW.out.2.2.2 hbw (HI.out.rk.same (fun k ar hh _ => hc k ar _ hh (by decide))) (HI.out.rv.same (fun k ar hh _ => hc k ar _ hh (by decide))) (by simp [List.map_append, List.map_take, List.map_drop, strV, HSK.out]) (by simpa using (AlS.app (AlS.app (AlS.app (AlS.nil _ _) (HAL.out.take i)) (AlS.one (p := (a.key, a.data)) HRW.out.2.2.1)) (HAL.out.drop i)))
   · skip
     have f9 := HFA.out rfl
     go_upto_region 10 with fail
     clear f9; refine wp_region_held_drew (S := fun wx => Blk wx g2 [.slice adK N cK, .slice adV N cV] 43) (by kernel_rfl) HI.out.b2.drew ?_
     intro hS; refine tkc 0 (.pointer (some ⟨g7, 0, none⟩)) rfl hS ?_; simp only [Act.put, sq]; refine tkc 2 (.pointer (some ⟨g2, 0, none⟩)) rfl hS ?_; simp only [Act.put, sq]; refine tka 3 (.slice adK N cK) rfl (fun wx hx => by (have cx : wx.cell? ⟨g2, 0, none⟩ = some (.slice adK N cK) := hx.cell 0; simp [go_sem, cx])) hS ?_
     simp only [Act.put, sq]; refine tkc 4 (.int .i64 (i2 : Int)) rfl hS ?_; simp only [Act.put, sq]; refine tka 5 (loV adK N cK i2) rfl (fun wx hx => by exact cut_lo 40 9 Tryz.underlying40 el_strs sz_str adK N cK i2 HIL.out.2 HCP.out.1 _ _ (.tmp 54) (.tmp 55) rfl rfl rfl _) hS ?_
     simp only [Act.put, sq]; have cq : y7.drew.cell? ⟨g7, 0, none⟩ = some (.slice a6 n6 c6) := HI.out.drew.b7.cell 0; refine wpAnyH_step 1 (.slice a6 n6 c6) y7.drew (by kernel_rfl) rfl (by rfl) (by simp [go_sem, cq]) hS ?_
     clear cq; simp only [Act.put, sq]; refine wpAnyH_law 6 (by kernel_rfl) rfl (by rfl) (app_any 40 9 Tryz.underlying40 _ _ Tryz.infoStr rfl (by decide) (.tmp 52) (.tmp 56) w.heap.size (.slice a6 n6 c6) (loV adK N cK i2) (((([] : List Value) ++ ((m.map fun p => strV p.1).take i)) ++ [.string sk])) ((m.map fun p => strV p.1).drop i2) HI.out.drew.rk (CellsV.lo (HRX.out _ HI.out.drew.bel).1 HIU.out.2.1) (fun u hu => str_one m u (List.mem_of_mem_drop hu)) (by have h1 := HLN.out; simp [List.length_take, List.length_drop]; omega) HI.out.bel.size rfl rfl rfl ?_)
     intro v10 z10 hr10 hg10 _; obtain ⟨a10, c10, hv10⟩ := hr10.form; obtain ⟨n10, hw10⟩ : ∃ n, v10 = .slice a10 n c10 := ⟨_, hv10⟩; clear hv10; subst hw10; have hI10 := HI.out.drew.appK hr10 hg10; refine ⟨hI10.b2, ?_⟩; simp only [Act.put, sq]; refine tkc 7 (.pointer (some ⟨g7, 0, none⟩)) rfl hI10.b2 ?_; simp only [Act.put, sq]; have cz : z10.cell? ⟨g7, 0, none⟩ = some (.slice a6 n6 c6) := hI10.b7.cell 0; have dz : z10.frozen? ⟨g7, 0, none⟩ = false := hI10.b7.frozen 0; obtain ⟨y10, HX10⟩ : ∃ y, Hid (y = z10.setCell ⟨g7, 0, none⟩ (.slice a10 n10 c10)) := ⟨_, rfl⟩; have ho10 : Only g7 z10 y10 := by rw [HX10.out]; exact Only.setCell (Only.refl _ _) _ _
     have hJ10 := hI10.set (Y := y10) (d1 := .slice a10 n10 c10) (d2 := .slice a7 n7 c7) (by rw [HX10.out]; exact hI10.b7.set 0 _) ho10
     refine wpAnyH_skip 8 y10 (by kernel_rfl) rfl (by rfl) (by rw [HX10.out]; simp [go_sem, cz, dz]) hJ10.b2 ?_
     simp only [Act.put, sq]; refine wpAnyH_done (by kernel_rfl) ?_ _
     clear hS cz dz hr10 hg10 ho10 HX10 hI10; replace HI := Hid.mk' hJ10; clear hJ10
     go_upto_region 11 with fail
     refine wp_region_held_drew (S := fun wx => Blk wx g2 [.slice adK N cK, .slice adV N cV] 43) (by kernel_rfl) HI.out.b2.drew ?_
     intro hS; refine tkc 0 (.pointer (some ⟨g7, 1, none⟩)) rfl hS ?_; simp only [Act.put, sq]; refine tkc 2 (.pointer (some ⟨g2, 1, none⟩)) rfl hS ?_; simp only [Act.put, sq]; refine tka 3 (.slice adV N cV) rfl (fun wx hx => by (have cx : wx.cell? ⟨g2, 1, none⟩ = some (.slice adV N cV) := hx.cell 1; simp [go_sem, cx])) hS ?_
     simp only [Act.put, sq]; refine tkc 4 (.int .i64 (i2 : Int)) rfl hS ?_; simp only [Act.put, sq]; refine tka 5 (loV adV N cV i2) rfl (fun wx hx => by exact cut_lo 41 23 Tryz.underlying41 el_byts sz_byt adV N cV i2 HIL.out.2 HCP.out.2 _ _ (.tmp 62) (.tmp 63) rfl rfl rfl _) hS ?_
     simp only [Act.put, sq]; have cq : y10.drew.cell? ⟨g7, 1, none⟩ = some (.slice a7 n7 c7) := HI.out.drew.b7.cell 1; refine wpAnyH_step 1 (.slice a7 n7 c7) y10.drew (by kernel_rfl) rfl (by rfl) (by simp [go_sem, cq]) hS ?_
     clear cq; simp only [Act.put, sq]; refine wpAnyH_law 6 (by kernel_rfl) rfl (by rfl) (app_any 41 23 Tryz.underlying41 _ _ Tryz.infobsJ rfl (by decide) (.tmp 60) (.tmp 64) w.heap.size (.slice a7 n7 c7) (loV adV N cV i2) (((([] : List Value) ++ (us.take i)) ++ [mkS (ax, nx, cx)])) (us.drop i2) HI.out.drew.rv (CellsV.lo (HRX.out _ HI.out.drew.bel).2 HIU.out.2.2) (fun u hu => HRW.out.1 u (List.mem_of_mem_drop hu)) (by have h1 := HLN.out; simp [List.length_take, List.length_drop]; omega) HI.out.bel.size rfl rfl rfl ?_)
     intro v11 z11 hr11 hg11 _; obtain ⟨a11, c11, hv11⟩ := hr11.form; obtain ⟨n11, hw11⟩ : ∃ n, v11 = .slice a11 n c11 := ⟨_, hv11⟩; clear hv11; subst hw11; have hI11 := HI.out.drew.appV hr11 hg11; refine ⟨hI11.b2, ?_⟩; simp only [Act.put, sq]; refine tkc 7 (.pointer (some ⟨g7, 1, none⟩)) rfl hI11.b2 ?_; simp only [Act.put, sq]; have cz : z11.cell? ⟨g7, 1, none⟩ = some (.slice a7 n7 c7) := hI11.b7.cell 1; have dz : z11.frozen? ⟨g7, 1, none⟩ = false := hI11.b7.frozen 1; obtain ⟨y11, HX11⟩ : ∃ y, Hid (y = z11.setCell ⟨g7, 1, none⟩ (.slice a11 n11 c11)) := ⟨_, rfl⟩; have ho11 : Only g7 z11 y11 := by rw [HX11.out]; exact Only.setCell (Only.refl _ _) _ _
     have hJ11 := hI11.set (Y := y11) (d1 := .slice a10 n10 c10) (d2 := .slice a11 n11 c11) (by rw [HX11.out]; exact hI11.b7.set 1 _) ho11
     refine wpAnyH_skip 8 y11 (by kernel_rfl) rfl (by rfl) (by rw [HX11.out]; simp [go_sem, cz, dz]) hJ11.b2 ?_
     simp only [Act.put, sq]; refine wpAnyH_done (by kernel_rfl) ?_ _
     clear hS cz dz hr11 hg11 ho11 HX11 hI11; replace HI := Hid.mk' hJ11; clear hJ11; obtain ⟨tc0, tc1⟩ := sqk2
     go_wp2_with (first
      | (clear tc0; with_reducible refine wpSeq_loadW 43 (.tmp 7) g7 0 [.slice a10 n10 c10, .slice a11 n11 c11] _ (Blk.range HI.out.b7) Tryz.underlying43 rfl (info_keys _ _) ?_ ?_ ?_ ?_
         · rfl
         · rfl
         · rfl)
      | (clear tc1; with_reducible refine wpSeq_storeRow 43 (.tmp 4) (.tmp 67) g4 [.slice none 0 0, .slice none 0 0] [.slice a10 n10 c10, .slice a11 n11 c11] HI.out.b4 rfl (info_keys _ _) (one_keys _ _ _ _ _ _) ?_ ?_ ?_ ?_ ?_
         · rfl
         · rfl
         · rfl
         · rfl
         intro y12 sr; have HF : Hid (Blk y12 g4 [.slice a10 n10 c10, .slice a11 n11 c11] 43 ∧ Only g4 y11 y12) := ⟨sr.blk, sr.only⟩; clear sr))
     refine bodyPost_ret (var_keysr HF.out.1 rfl _ rfl) rfl ?_
     have hc : ∀ (k : Nat) (ar : Array Value) (t : TypeId), y11.heap[k]? = some (Obj.cells ar t (0, 0)) → t ≠ 43 → y12.heap[k]? = y11.heap[k]? := fun k ar t hh ht => HF.out.2.block k (fun e => by
      have h4 := HI.out.b4; unfold Blk at h4; rw [e, h4] at hh; simp only [Option.some.injEq, Obj.cells.injEq] at hh; exact ht hh.2.1.symm) (Array.getElem?_eq_some_iff.1 hh).1
     have hbw : Below w.heap.size w y12 := HI.out.bel.trans (HF.out.2.below HG4.out HI.out.bel.size); refine ⟨_, _, rfl, ?_, hbw⟩; rw [HCUT.out]; exact one_fin HRW.out.2.2.2 hbw (HI.out.rk.same (fun k ar hh _ => hc k ar _ hh (by decide))) (HI.out.rv.same (fun k ar hh _ => hc k ar _ hh (by decide))) (by simp [List.map_append, List.map_take, List.map_drop, strV, HSK.out]) (by simpa using (AlS.app (AlS.app (AlS.app (AlS.nil _ _) (HAL.out.take i)) (AlS.one (p := (a.key, a.data)) HRW.out.2.2.1)) (HAL.out.drop i2)))
end Go.Proofs.YtopmeedmgjdcgaaGreatDoor
namespace Go.Proofs.YtopmeedmgjdcgaaGreatDoor
open Go.RowKit
set_option maxRecDepth 100000
def R2 (R : Nat → Prop) (a b : Nat) : Nat → Prop := fun k => R k ∨ k = a ∨ k = b
theorem sta_wide {R : Nat → Prop} {a b : Nat} {w W : World} {X : World → Prop} (h : Sta R w X) (hb : Below w.heap.size w W) (ha : w.heap.size ≤ a) (hb2 : w.heap.size ≤ b) : Sta (R2 R a b) W X := h.go (mut_below hb R) (fun k hk hr => hr.elim id (fun e => absurd hk (by omega)))
theorem oDone_any (R : Nat → Prop) (vK vV v : Value) (m : KM) (ps : List (ActT × Value)) (w : World) (hR : ∀ k, R k → k < w.heap.size) (hm : KyS R w vK vV m) (hup : Rise m) (hr : RdP w v ps) (hd : ∀ p ∈ ps, Sta R w (fun W => Reads W p.2 p.1.data)) (hl : m.length + ps.length < 100000) : Calls Tryz.prog 49 #[.agg [vK, vV].toArray, v] w fun e w' => ∃ uK uV, e = .returned (.agg [uK, uV].toArray) ∧ KyS R w' uK uV (doneM m (ps.map (·.1))) ∧ Below w.heap.size w w' := by
 obtain ⟨N, HN⟩ := sqn (ps.length)
 obtain ⟨ad, cp, hv⟩ := hr.form
 rw [← HN.out] at hv
 subst hv
 obtain ⟨a1, n1, c1, e1⟩ : ∃ a n c, vK = .slice a n c := by obtain ⟨a, c, h, _⟩ := hm.k; exact ⟨a, _, c, h⟩
 obtain ⟨a2, n2, c2, e2⟩ : ∃ a n c, vV = .slice a n c := by obtain ⟨a, c, h, _⟩ := hm.v; exact ⟨a, _, c, h⟩
 subst e1
 subst e2
 have HR : Hid (RdP w (.slice ad N cp) ps) := hr
 have HD : Hid ((∀ p ∈ ps, Sta R w (fun W => Reads W p.2 p.1.data)) ∧ (∀ k, R k → k < w.heap.size) ∧ m.length + ps.length < 100000 ∧ Rise m) := ⟨hd, hR, hl, hup⟩
 have HM : Hid (KyS R w (.slice a1 n1 c1) (.slice a2 n2 c2) m) := hm
 clear hR hm hup hr hd hl
 go_enter Tryz.func49, Tryz.ntmps49
 obtain ⟨ta0, ta1⟩ := sqk2
 go_wp2_with (first
  | (clear ta0; with_reducible refine wpSeq_boxW 43 (.tmp 0) [.slice a1 n1 c1, .slice a2 n2 c2] ?_ ?_ ?_ ?_
     · rfl
     · rfl
     · rfl
     intro g2 x1 nn; have H2 : Hid (Blk x1 g2 [.slice a1 n1 c1, .slice a2 n2 c2] 43) := nn.blk; have HB : Hid (Below w.heap.size w x1 ∧ w.heap.size ≤ g2) := ⟨nn.below, nn.ge⟩; clear nn)
  | (clear ta1; with_reducible refine wpSeq_allocK ?_ ?_ ?_
     · rfl
     · rfl
     intro g4 x2 nn; have H4 : Hid (Blk x2 g4 [.slice none 0 0, .slice none 0 0] 43) := nn.blk; have HNE : Hid (g2 ≠ g4 ∧ g4 ≠ g2) := by have h1 := H2.out.lt; have h2 := nn.ge; exact ⟨by omega, by omega⟩
     replace H2 : Hid (Blk x2 g2 [.slice a1 n1 c1, .slice a2 n2 c2] 43) := H2.out.below nn.below H2.out.lt; have HG : Hid (w.heap.size ≤ g2 ∧ w.heap.size ≤ g4) := ⟨HB.out.2, Nat.le_trans HB.out.1.size nn.ge⟩; have HBW : Hid (Below w.heap.size w x2) := HB.out.1.trans (nn.below.mono HB.out.1.size); clear nn HB))
 have HK0 : Hid (KyS (R2 R g2 g4) x2 (.slice a1 n1 c1) (.slice a2 n2 c2) m) := HM.out.go (mut_below HBW.out R) (fun k hk hr => hr.elim id (fun e => absurd hk (by have := HG.out; omega)))
 go_loopw [5] (fun i wr => ∃ k : Nat, k ≤ N ∧ i = .int .i64 (k : Int) ∧ Hid (∃ b1 k1 d1 b2 k2 d2, Blk wr g2 [.slice b1 k1 d1, .slice b2 k2 d2] 43 ∧ KyS (R2 R g2 g4) wr (.slice b1 k1 d1) (.slice b2 k2 d2) (doneM m ((ps.take k).map (·.1)))) ∧ Hid (Blk wr g4 [.slice none 0 0, .slice none 0 0] 43) ∧ Hid (Below w.heap.size w wr)) (fun i _ => N - (intOf i).toNat)
 case atStart => exact ⟨0, Nat.zero_le _, rfl, ⟨_, _, _, _, _, _, H2.out, HK0.out⟩, H4, HBW⟩
 case round =>
  clear HK0 H2 H4 HBW
  obtain ⟨k, hk, rfl, HE, H4, HBW⟩ := hrel
  obtain ⟨b1, k1, d1, b2, k2, d2, hb2, hky⟩ := HE.out
  have H2 : Hid (Blk wr g2 [.slice b1 k1 d1, .slice b2 k2 d2] 43) := hb2
  have HKY : Hid (KyS (R2 R g2 g4) wr (.slice b1 k1 d1) (.slice b2 k2 d2) (doneM m ((ps.take k).map (·.1)))) := hky
  clear hb2 hky HE
  by_cases hlt : k < N
  case neg =>
   obtain rfl : k = N := by omega
   have hlk : ¬ ((k : Int) < (k : Int)) := by omega
   obtain ⟨tb0, tb1⟩ := sqk2
   go_wp2_with (first
    | (clear tb0; with_reducible refine wpSeq_loadW 43 (.tmp 2) g2 0 [.slice b1 k1 d1, .slice b2 k2 d2] _ (Blk.range H2.out) Tryz.underlying43 rfl (info_keys _ _) ?_ ?_ ?_ ?_
       · rfl
       · rfl
       · rfl)
    | (clear tb1; with_reducible refine wpSeq_storeRow 43 (.tmp 4) (.tmp 18) g4 [.slice none 0 0, .slice none 0 0] [.slice b1 k1 d1, .slice b2 k2 d2] H4.out rfl (info_keys _ _) (one_keys _ _ _ _ _ _) ?_ ?_ ?_ ?_ ?_
       · rfl
       · rfl
       · rfl
       · rfl
       intro y9 sr; have HF : Hid (Blk y9 g4 [.slice b1 k1 d1, .slice b2 k2 d2] 43 ∧ Only g4 wr y9) := ⟨sr.blk, sr.only⟩; clear sr))
   refine bodyPost_ret (var_keysr HF.out.1 rfl _ rfl) rfl ?_; refine ⟨_, _, rfl, ?_, HBW.out.trans (HF.out.2.below HG.out.2 HBW.out.size)⟩; have h1 := HKY.out; rw [List.take_of_length_le (by rw [← HN.out]; exact Nat.le_refl _)] at h1
   exact h1.go (HF.out.2.mut (P := R2 R g2 g4) (Or.inr (Or.inr rfl))) (fun j _ h => Or.inl h)
  case pos =>
   obtain ⟨p, hp⟩ : ∃ p, ps[k]? = some p := ⟨_, List.getElem?_eq_getElem (by rw [← HN.out]; exact hlt)⟩
   have hpm := List.mem_of_getElem? hp; obtain ⟨b, off, e1, hrg⟩ := HR.out.at hp; subst e1
   have HTK : Hid (doneM m ((ps.take (k + 1)).map (·.1)) = oneM (doneM m ((ps.take k).map (·.1))) p.1) := by
    show _ = _; rw [List.take_add_one, hp, List.map_append]; exact doneM_snoc _ _ _
   have HLE : Hid ((doneM m ((ps.take k).map (·.1))).length < 100000 ∧ Rise (doneM m ((ps.take k).map (·.1)))) := by
    have h1 := len_doneM ((ps.take k).map (·.1)) HD.out.2.2.2; rw [List.length_map, List.length_take] at h1; have h2 := HD.out.2.2.1; exact ⟨by omega, HD.out.2.2.2.done _⟩
   have HRG : Hid (∀ wx, Below w.heap.size w wx → wx.rangeAt b (off + k * 3) (actC p.1 p.2)) := fun wx hb => range_below hrg hb (block_lt_of_cell (hrg 0 _ rfl))
   have HDP : Hid (Sta R w (fun W => Reads W p.2 p.1.data)) := HD.out.1 p hpm
   have HLT : Hid (k < N) := hlt; have k3 : (k : Int) < (N : Int) := by omega
   have f5 : IntKind.i64.wrap ((k : Int) + 1) = (k : Int) + 1 := by have := HD.out.2.2.1; have := HN.out; rw [IntKind.wrap_i64]; omega
   obtain ⟨ap, np, cpp, hvp⟩ := HDP.out.now.form; clear hrg hp hpm
   go_upto_region 4 with fail
   refine wp_region_held_drew (S := fun wx => Below w.heap.size w wx) (by kernel_rfl) HBW.out.drew ?_
   intro hS; refine tkc 1 (.slice (some ⟨b, off, none⟩) N cp) rfl hS ?_; simp only [Act.put, sq]; refine tkc 2 (.int .i64 (k : Int)) rfl hS ?_; simp only [Act.put, sq]; refine tka 3 (.pointer (some ⟨b, off + k * 3, none⟩)) rfl (fun wx hx => by exact idxA b off N cp k HLT.out _ _ (.tmp 13) (.tmp 14) rfl rfl rfl _) hS ?_
   simp only [Act.put, sq]; refine tka 4 (.agg (actC p.1 p.2).toArray) rfl (fun wx hx => by exact load_run 62 _ rfl _ _ rfl (actC p.1 p.2) _ (HRG.out wx hx) Tryz.underlying62 rfl (info_act15 _ _ _)) hS ?_
   simp only [Act.put, sq]; refine wpAnyH_step 0 (.agg [.slice b1 k1 d1, .slice b2 k2 d2].toArray) wr.drew (by kernel_rfl) rfl (by rfl) (load_run 43 _ rfl _ _ rfl [.slice b1 k1 d1, .slice b2 k2 d2] _ (Blk.range H2.out.drew) Tryz.underlying43 rfl (info_keys _ _)) hS ?_
   simp only [Act.put, sq]
   refine wpAnyH_enter 5 (by kernel_rfl) rfl (by rfl) (f := 75) (args := #[.agg [.slice b1 k1 d1, .slice b2 k2 d2].toArray, .agg (actC p.1 p.2).toArray]) (by simp [go_sem]) (oOne_any (R2 R g2 g4) _ _ _ p.1 p.2 wr.drew (fun j hj => by
    rcases hj with hj | hj | hj
    · exact Nat.lt_of_lt_of_le (HD.out.2.1 j hj) HBW.out.size
    · rw [hj]; exact H2.out.lt
    · rw [hj]; exact H4.out.lt) (HKY.out.below (Below.refl _ _).drew) HLE.out.2 (sta_wide HDP.out HBW.out.drew HG.out.1 HG.out.2) HLE.out.1) ?_
   rintro e5 y5 ⟨uK, uV, rfl, hk5, bl5⟩; obtain ⟨q1, q2, q3, f1⟩ : ∃ a n c, uK = .slice a n c := by obtain ⟨a, c, h, _⟩ := hk5.k; exact ⟨a, _, c, h⟩
   obtain ⟨q4, q5, q6, f2⟩ : ∃ a n c, uV = .slice a n c := by obtain ⟨a, c, h, _⟩ := hk5.v; exact ⟨a, _, c, h⟩
   subst f1; subst f2; have hb5 : Below w.heap.size w y5 := HBW.out.drew.trans (bl5.mono HBW.out.drew.size); have h25 : Blk y5 g2 [.slice b1 k1 d1, .slice b2 k2 d2] 43 := H2.out.drew.below bl5 H2.out.drew.lt; have h45 : Blk y5 g4 [.slice none 0 0, .slice none 0 0] 43 := H4.out.drew.below bl5 H4.out.drew.lt; refine ⟨_, rfl, hb5, ?_⟩; simp only [Act.put, sq]; refine wpAnyH_storeRow 6 43 (.tmp 2) (.tmp 17) g2 [.slice b1 k1 d1, .slice b2 k2 d2] [.slice q1 q2 q3, .slice q4 q5 q6] h25 rfl (info_keys _ _) (one_keys _ _ _ _ _ _) (by kernel_rfl) rfl (by rfl) rfl rfl rfl ?_
   intro y6 sr; have hb6 : Below w.heap.size w y6 := hb5.trans (sr.only.below HG.out.1 hb5.size); have H26 : Hid (Blk y6 g2 [.slice q1 q2 q3, .slice q4 q5 q6] 43) := sr.blk; have H46 : Hid (Blk y6 g4 [.slice none 0 0, .slice none 0 0] 43) := h45.only sr.only HNE.out.2
   have HK6 : Hid (KyS (R2 R g2 g4) y6 (.slice q1 q2 q3) (.slice q4 q5 q6) (doneM m ((ps.take (k + 1)).map (·.1)))) := by
    rw [HTK.out]; exact hk5.go (sr.only.mut (P := R2 R g2 g4) (Or.inr (Or.inl rfl))) (fun _ _ h => h)
   have HB6 : Hid (Below w.heap.size w y6) := hb6; refine ⟨hb6, ?_⟩; clear sr hk5 hb5 hb6 h25 h45 bl5 hS; simp only [Act.put, sq]; refine wpAnyH_done (by kernel_rfl) ?_ _
   go_wp2; go_roundw
   case rel => exact ⟨k + 1, HLT.out, rfl, ⟨_, _, _, _, _, _, H26.out, HK6.out⟩, H46, HB6⟩
   case measure => simp [intOf]; have := HLT.out; omega
end Go.Proofs.YtopmeedmgjdcgaaGreatDoor
namespace Go.Proofs.YtopmeedmgjdcgaaGreatDoor
open Go.RowKit
set_option maxRecDepth 100000
theorem idxT15 (b off n c k : Nat) (hk : k < n) (f : Operand → Value) (o : Oper) (x y : Operand) (ho : o.op = .indexAddr 41 x y) (hx : f x = .slice (some ⟨b, off, none⟩) n c) (hy : f y = .int .i64 (k : Int)) (w : World) :
 (execOp f o).run Tryz.prog w = .ok (.value (.pointer (some ⟨b, off + k, none⟩))) w := by
 have k0 : (0 : Int) ≤ (k : Int) := by omega
 have k1 : (k : Int) < (n : Int) := by omega
 have hs : (sizeOf 23).run Tryz.prog w = .ok 1 w := by kernel_rfl
 unfold execOp
 rw [ho]
 simp [go_sem, hx, hy, k0, k1, Addr.add_mid, hs]
theorem build_act3 (f : Operand → Value) (o : Oper) (x y : Operand) (s : ByteArray) (ad : Option Addr) (n c : Nat) (hc : f (.const (.bool true)) = .bool true) (ho : o.op = .build 62 #[(0, x), (1, .const (.bool true)), (2, y)]) (hx : f x = .string s) (hy : f y = .slice ad n c) (w : World) : (execOp f o).run Tryz.prog w = .ok (.value (.agg [.string s, .bool true, .slice ad n c].toArray)) w := by
 unfold execOp
 rw [ho]
 simp only [List.map_toArray, List.map_cons, List.map_nil, hx, hy, hc]
 kernel_rfl
theorem ReadsS.at15 {w : World} {ad : Option Addr} {n c k : Nat} {ks : List Bs} (h : ReadsS w (.slice ad n c) ks) (hk : k < ks.length) : ∃ b off, ad = some ⟨b, off, none⟩ ∧ w.cell? ⟨b, off + k, none⟩ = some (.string (strB (ks.getD k []))) := by
 obtain ⟨ad', cap, h1, _, _, h2⟩ := h
 simp only [Value.slice.injEq] at h1
 obtain ⟨b, off, h3, h4⟩ := h2 (by omega)
 exact ⟨b, off, by rw [h1.1]; exact h3, h4 k hk⟩
theorem wp_appendR {o : Oper} {a : Act} {w : World} {K : Act → World → Prop} {Q : Exit → Act → World → Prop} (s x : Operand) (base : Nat) (v : Value) (ps : List (ActT × Value)) (p : ActT × Value) (g : Nat) (av : Option Addr) (nv cv : Nat) (hpv : p.2 = .slice av nv cv)
 (hown : w.ownsRow base 62 3 v ps.length (rowP ps)) (hb : Blk w g (actC p.1 p.2) 62) (hlen : ps.length < 1000000) (hbase : base ≤ w.heap.size)
 (ho : o.op = .call { callee := .builtin .append, args := #[s, x], argTypes := #[22, 22] }) (hs : a.eval s = v) (hx : a.eval x = .slice (some ⟨g, 0, none⟩) 1 1)
 (h : ∀ v' w', w'.ownsRow base 62 3 v' (ps ++ [p]).length (rowP (ps ++ [p])) → w.grownBy w' v.ownBlock → K (a.put o.dst v') w') : o.wp Tryz.prog a w K Q := by
 obtain ⟨i0, hi, hz0, hz1, hz2⟩ := info_parts Tryz.infoact
 obtain ⟨v', w', hr, h2, h3, h4, h5⟩ := run_append_own_at (P := Tryz.prog) w base 22 o.type 62 i0 (.agg zA.toArray) 3 48 Tryz.underlying22 hi hz0 hz1 hz2 rfl (by decide) v ps.length (rowP ps) hown ⟨g, 0, none⟩ 1 1 (actC p.1 p.2) rfl (fun j u hj => by rw [Addr.add_mid, Nat.zero_add, hb.cell]; exact hj) (by rw [actC, hpv]; exact one_act _ _ _ _ _) (by unfold maxLen; omega) (by omega) hbase
 unfold Oper.wp execOp
 simp only [ho, resolve, invoke, builtin, Sem.run_bind, Sem.run_pure, Result.andThen_ok, List.map_toArray, List.map_cons, List.map_nil, hs, hx, hr]
 exact h v' w' (by rw [List.length_append, rowP_snoc]; exact h2) h3
structure WhI (w : World) (m : KM) (k : Nat) (v : Value) (wr : World) (ps : List (ActT × Value)) : Prop where
 row : wr.ownsRow w.heap.size 62 3 v ps.length (rowP ps)
 ac : ps.map (·.1) = wholeM (m.take k)
 dat : ∀ p ∈ ps, Reads w p.2 p.1.data
 bel : Below w.heap.size w wr
theorem WhI.len {w wr : World} {m : KM} {k : Nat} {v : Value} {ps : List (ActT × Value)} (h : WhI w m k v wr ps) (hk : k ≤ m.length) : ps.length = k := by
 have := congrArg List.length h.ac
 rw [List.length_map] at this
 simp [wholeM] at this
 omega
theorem oWhole_any (vK vV : Value) (m : KM) (w : World) (hr : ReadsS w vK (m.map (·.1))) (hv : ReadsL w vV (m.map (·.2))) (hl : m.length < 1000000) : Calls Tryz.prog 51 #[.agg [vK, vV].toArray] w fun e w' => ∃ v, e = .returned v ∧ ReadsA w' v (wholeM m) ∧ Below w.heap.size w w' := by
 have HR : Hid (ReadsS w vK (m.map (·.1))) := hr
 have HV : Hid (ReadsL w vV (m.map (·.2))) := hv
 obtain ⟨n, HN⟩ := sqn (m.length)
 obtain ⟨ad, c, hvk⟩ := hr.form
 rw [List.length_map, ← HN.out] at hvk
 subst hvk
 obtain ⟨ad2, c2, hvv, _⟩ := hv
 rw [List.length_map, ← HN.out] at hvv
 subst hvv
 have HL : Hid (n < 1000000) := by rw [HN.out]; exact hl
 clear hr hl
 go_enter Tryz.func51, Tryz.ntmps51
 have ta0 : Hid True := trivial
 go_wp2_with (first
  | (clear ta0; with_reducible refine wpSeq_boxW 43 (.tmp 0) [.slice ad n c, .slice ad2 n c2] ?_ ?_ ?_ ?_
     · rfl
     · rfl
     · rfl
     intro g1 y1 nn; have HM : Hid (Blk y1 g1 [.slice ad n c, .slice ad2 n c2] 43) := nn.blk; have HB1 : Hid (Below w.heap.size w y1) := nn.below; have HG1 : Hid (w.heap.size ≤ g1) := nn.ge; clear nn))
 have HI0 : Hid (WhI w m 0 (.slice none 0 0) y1 []) := ⟨World.ownsRow_nil _ _ _ _, rfl, fun p hp => (by cases hp), HB1.out⟩
 go_loopw [3, 4] (fun v i wr => ∃ (a0 : Option Addr) (k c0 : Nat), k ≤ n ∧ v = .slice a0 k c0 ∧ i = .int .i64 (k : Int) ∧ Hid (∃ ps, WhI w m k (.slice a0 k c0) wr ps) ∧ Hid (Blk wr g1 [.slice ad n c, .slice ad2 n c2] 43)) (fun _ i _ => n - (intOf i).toNat)
 case atStart => exact ⟨none, 0, 0, Nat.zero_le _, rfl, rfl, ⟨[], HI0.out⟩, HM⟩
 case round =>
  clear HI0 HM HB1
  obtain ⟨a0, k, cc, hkn, rfl, rfl, HW, HM⟩ := hrel
  have c0 : wr.cell? ⟨g1, 0, none⟩ = some (.slice ad n c) := HM.out.cell 0
  by_cases hlt : k < n
  case neg =>
   obtain rfl : k = n := by omega
   have hlk : ¬ ((k : Int) < (k : Int)) := by omega
   go_wp2; go_ret; obtain ⟨ps, hI⟩ := HW.out; refine ⟨_, rfl, ?_, hI.bel⟩; have h3 := rowA_reads hI.row (fun p hp => (hI.dat p hp).below hI.bel)
   rw [hI.ac, List.take_of_length_le (by rw [← HN.out]; exact Nat.le_refl _)] at h3
   exact h3
  case pos =>
   obtain ⟨q, hq⟩ : ∃ q, m[k]? = some q := ⟨_, List.getElem?_eq_getElem (by rw [← HN.out]; exact hlt)⟩
   obtain ⟨ky, da⟩ := q; obtain ⟨ps, hI⟩ := HW.out; have hpl : ps.length = k := hI.len (by rw [← HN.out]; exact hkn)
   obtain ⟨bK, oK, eK, cK⟩ : ∃ b off, ad = some ⟨b, off, none⟩ ∧ w.cell? ⟨b, off + k, none⟩ = some (.string (strB ky)) := by
    obtain ⟨b, off, h1, h2⟩ := HR.out.at15 (k := k) (by rw [List.length_map, ← HN.out]; exact hlt)
    refine ⟨b, off, h1, ?_⟩; rw [h2, List.getD_eq_getElem?_getD, List.getElem?_map, hq]
    rfl
   obtain ⟨bV, oV, vj, eV, cV, rV⟩ : ∃ b off vj, ad2 = some ⟨b, off, none⟩ ∧ w.cell? ⟨b, off + k, none⟩ = some vj ∧ Reads w vj da := by
    obtain ⟨ad3, c3, h1, _, _, h2⟩ := HV.out; simp only [Value.slice.injEq] at h1; obtain ⟨b, off, h3, h4⟩ := h2 (by rw [List.length_map, ← HN.out]; omega)
    obtain ⟨vj, h5, h6⟩ := h4 k (by rw [List.length_map, ← HN.out]; exact hlt)
    rw [List.getD_eq_getElem?_getD, List.getElem?_map, hq] at h6; exact ⟨b, off, vj, by rw [h1.1]; exact h3, h5, h6⟩
   subst eK; subst eV; obtain ⟨av, nv, cv, hvj⟩ := rV.form; subst hvj; obtain ⟨sk, HSK⟩ := sqn (strB ky); rw [← HSK.out] at cK; have HCK : Hid (∀ wx, Below w.heap.size w wx → wx.cell? ⟨bK, oK + k, none⟩ = some (.string sk) ∧ wx.cell? ⟨bV, oV + k, none⟩ = some (.slice av nv cv)) := fun wx hb => ⟨(World.cell?_of_block (hb.block bK (block_lt_of_cell cK))).trans cK, (World.cell?_of_block (hb.block bV (block_lt_of_cell cV))).trans cV⟩
   have HI : Hid (WhI w m k (.slice a0 k cc) wr.drew ps ∧ ps.length = k) := ⟨⟨hI.row.kept (row := none) ⟨rfl, rfl, rfl, Nat.le_refl _, fun _ _ _ => rfl⟩ (by cases (Value.slice a0 k cc).ownBlock <;> simp), hI.ac, hI.dat, hI.bel.drew⟩, hpl⟩
   have HRV : Hid (Reads w (.slice av nv cv) da) := rV; have HAC : Hid (wholeM (m.take (k + 1)) = wholeM (m.take k) ++ [⟨ky, true, da⟩]) := by show _ = _; rw [List.take_add_one, hq, wholeM, List.map_append]; rfl
   have k3 : (k : Int) < (n : Int) := by omega
   have f5 : IntKind.i64.wrap ((k : Int) + 1) = (k : Int) + 1 := by have := HL.out; rw [IntKind.wrap_i64]; omega
   have HLT : Hid (k < n) := hlt; clear hq hI HW cK cV rV hpl
   go_upto_region 5 with fail
   clear c0; refine wp_region_held_drew (S := fun wx => Blk wx g1 [.slice (some ⟨bK, oK, none⟩) n c, .slice (some ⟨bV, oV, none⟩) n c2] 43 ∧ Below w.heap.size w wx) (by kernel_rfl) ⟨HM.out.drew, HI.out.1.bel⟩ ?_
   intro hS; refine tkc 0 (.slice a0 k cc) rfl hS ?_; simp only [Act.put, sq]; refine tkc 1 (.pointer (some ⟨g1, 0, none⟩)) rfl hS ?_; simp only [Act.put, sq]; refine tka 2 (.slice (some ⟨bK, oK, none⟩) n c) rfl (fun wx hx => by (have cx : wx.cell? ⟨g1, 0, none⟩ = some (.slice (some ⟨bK, oK, none⟩) n c) := hx.1.cell 0; simp [go_sem, cx])) hS ?_
   simp only [Act.put, sq]; refine tkc 3 (.int .i64 (k : Int)) rfl hS ?_; simp only [Act.put, sq]; refine tka 4 (.pointer (some ⟨bK, oK + k, none⟩)) rfl (fun wx hx => by exact idxS bK oK n c k HLT.out _ _ (.tmp 14) (.tmp 15) rfl rfl rfl _) hS ?_
   simp only [Act.put, sq]; refine tka 5 (.string sk) rfl (fun wx hx => by (have cx := (HCK.out wx hx.2).1; simp [go_sem, cx])) hS ?_
   simp only [Act.put, sq]; refine tkc 6 (.pointer (some ⟨g1, 1, none⟩)) rfl hS ?_; simp only [Act.put, sq]; refine tka 7 (.slice (some ⟨bV, oV, none⟩) n c2) rfl (fun wx hx => by (have cx : wx.cell? ⟨g1, 1, none⟩ = some (.slice (some ⟨bV, oV, none⟩) n c2) := hx.1.cell 1; simp [go_sem, cx])) hS ?_
   simp only [Act.put, sq]; refine tkc 8 (.int .i64 (k : Int)) rfl hS ?_; simp only [Act.put, sq]; refine tka 9 (.pointer (some ⟨bV, oV + k, none⟩)) rfl (fun wx hx => by exact idxT15 bV oV n c2 k HLT.out _ _ (.tmp 19) (.tmp 20) rfl rfl rfl _) hS ?_
   simp only [Act.put, sq]; refine tka 10 (.slice av nv cv) rfl (fun wx hx => by (have cx := (HCK.out wx hx.2).2; simp [go_sem, cx])) hS ?_
   simp only [Act.put, sq]; refine tka 11 (.agg [.string sk, .bool true, .slice av nv cv].toArray) rfl (fun wx hx => by exact build_act3 _ _ (.tmp 17) (.tmp 22) sk av nv cv rfl rfl rfl rfl _) hS ?_
   simp only [Act.put, sq]; have HS0 : Hid (Blk wr.drew g1 [.slice (some ⟨bK, oK, none⟩) n c, .slice (some ⟨bV, oV, none⟩) n c2] 43) := hS.1; obtain ⟨g5, z3, e3, e3w, n3⟩ : ∃ g y, g = wr.drew.heap.size ∧ y = wr.drew.alloc (.cells [.string sk, .bool true, .slice av nv cv].toArray 62) ∧ NewR [.string sk, .bool true, .slice av nv cv] 62 wr.drew g y := ⟨_, _, rfl, rfl, NewR.of _ _ _⟩; have hS3 : Blk z3 g1 [.slice (some ⟨bK, oK, none⟩) n c, .slice (some ⟨bV, oV, none⟩) n c2] 43 ∧ Below w.heap.size w z3 := ⟨HS0.out.below n3.below HS0.out.lt, HI.out.1.bel.trans (n3.below.mono HI.out.1.bel.size)⟩; refine wpAnyH_step 12 _ z3 (by kernel_rfl) rfl (by rfl) (by rw [e3w]; exact build_a1 _ _ (.tmp 23) sk true av nv cv rfl rfl _) hS3 ?_
   rw [← e3]; clear e3 e3w; have HR3 : Hid (z3.ownsRow w.heap.size 62 3 (.slice a0 k cc) ps.length (rowP ps)) := HI.out.1.row.kept (row := none) ⟨n3.below.os, n3.below.tape, n3.below.output, n3.below.size, fun j hj _ => n3.below.block j hj⟩ (by cases (Value.slice a0 k cc).ownBlock <;> simp)
   have HB3 : Hid (Blk z3 g5 (actC ⟨ky, true, da⟩ (.slice av nv cv)) 62) := by show Blk _ _ _ _; rw [actC, ← HSK.out]; exact n3.blk
   have HM3 : Hid (Blk z3 g1 [.slice (some ⟨bK, oK, none⟩) n c, .slice (some ⟨bV, oV, none⟩) n c2] 43 ∧ Below w.heap.size w z3) := hS3; clear n3 hS hS3; simp only [Act.put, sq]; refine wpAnyH_law 13 (by kernel_rfl) rfl (by rfl) (wp_appendR (.tmp 12) (.tmp 24) w.heap.size (.slice a0 k cc) ps (⟨ky, true, da⟩, .slice av nv cv) g5 av nv cv rfl HR3.out HB3.out (by rw [HI.out.2]; have h1 := HL.out; have h2 := HLT.out; omega) HM3.out.2.size rfl rfl rfl ?_)
   intro v4 z4 ho4 hg4; have hlt4 : ∀ j, (Value.slice a0 k cc).ownBlock = some j → w.heap.size ≤ j ∧ j < z3.heap.size := World.ownsRow.lt HR3.out; have hb4 : Below w.heap.size w z4 := ⟨hg4.os.trans HM3.out.2.os, hg4.tape.trans HM3.out.2.tape, hg4.output.trans HM3.out.2.output, Nat.le_trans HM3.out.2.size hg4.size, fun j hj => (hg4.block j (Nat.lt_of_lt_of_le hj HM3.out.2.size) (fun e => by have := (hlt4 j e.symm).1; omega)).trans (HM3.out.2.block j hj)⟩
   have hm4 : Blk z4 g1 [.slice (some ⟨bK, oK, none⟩) n c, .slice (some ⟨bV, oV, none⟩) n c2] 43 := blk_same HM3.out.1 (hg4.block g1 HM3.out.1.lt (fun e => by
    obtain ⟨_, ⟨e2, _⟩ | ⟨g2, cap2, cur2, e2, _, hh2, _⟩⟩ := id HR3.out
    · rw [e2] at e; cases e
    · rw [e2] at e
      simp [Value.ownBlock] at e
      rw [← e, HM3.out.1] at hh2; simp only [Option.some.injEq, Obj.cells.injEq] at hh2; exact absurd hh2.2.1 (by decide)))
   refine ⟨⟨hm4, hb4⟩, ?_⟩
   obtain ⟨a4, c4, hv4⟩ : ∃ a c, v4 = .slice a (k + 1) c := by
    have hl4 : (ps ++ [((⟨ky, true, da⟩ : ActT), Value.slice av nv cv)]).length = k + 1 := by rw [List.length_append, HI.out.2]; rfl
    rw [hl4] at ho4; obtain ⟨_, ⟨h, h0⟩ | ⟨g, cap, cur, h, _⟩⟩ := ho4
    · omega
    · exact ⟨_, _, h⟩
   subst hv4
   have HI4 : Hid (∃ ps, WhI w m (k + 1) (.slice a4 (k + 1) c4) z4 ps) := ⟨_, ho4, by rw [List.map_append, HI.out.1.ac, HAC.out]; rfl, fun p hp => by
    rcases List.mem_append.1 hp with hp | hp
    · exact HI.out.1.dat p hp
    · rw [List.mem_singleton.1 hp]; exact HRV.out, hb4⟩
   have HM4 : Hid (Blk z4 g1 [.slice (some ⟨bK, oK, none⟩) n c, .slice (some ⟨bV, oV, none⟩) n c2] 43) := hm4; clear ho4 hg4 hlt4; simp only [Act.put, sq]; refine wpAnyH_take (i := 14) (v := .slice a4 (k + 1) c4) rfl (by kernel_rfl) (by kernel_rfl) (by kernel_rfl) (fun _ _ _ h => h) (Or.inl ⟨by rfl, fun wx hx => by simp [go_sem]⟩) ⟨hm4, hb4⟩ ?_
   simp only [Act.put, sq]; refine wpAnyH_done (by kernel_rfl) ?_ _
   clear hm4 hb4; go_wp2; go_roundw
   case rel => exact ⟨a4, k + 1, c4, HLT.out, rfl, rfl, HI4, HM4⟩
   case measure => simp [intOf]; have := HLT.out; omega
end Go.Proofs.YtopmeedmgjdcgaaGreatDoor
namespace Go.Proofs.YtopmeedmgjdcgaaGreatDoor
open Go.RowKit
set_option maxRecDepth 100000
theorem staL_row {P : Nat → Prop} {w : World} {base : Nat} {v u : Value} {b : Bs} (hR : ∀ k, P k → k < base) (h : OwnR 23 w base v [u]) (hs : Sta P w (fun W => Reads W u b)) : StaL P w v [b] := by
 have hrd := h.rd
 obtain ⟨_, ⟨rfl, h0⟩ | ⟨g, cap, cur, rfl, hg, hh, hc, hm, hz, ht⟩⟩ := h
 · simp at h0
 · refine ⟨_, cap, rfl, hc, (fun e => by cases e), fun _ => ⟨g, 0, rfl, fun hr => by have := hR g hr; omega, fun j hj => ?_⟩⟩
   match j, hj with
   | 0, _ =>
    obtain ⟨b2, off, e1, e2⟩ := hrd.at (j := 0) (u := u) rfl
    cases e1
    exact ⟨u, e2, hs⟩
def AeR (R : Nat → Prop) (w : World) (m : KM) (rs : List Bs) (l : List ActT) (n : Nat) (e : Ending) (w' : World) : Prop := ∃ uK uV ur, e = .returned (.tuple #[.agg [uK, uV].toArray, ur, .int .i64 (apyX m rs l n)]) ∧ KyS R w' uK uV (apyM m rs l n) ∧ StaL R w' ur (apyL m rs l n) ∧ Below w.heap.size w w'
structure AeI (R : Nat → Prop) (w : World) (g4 g8 : Nat) (c1 c2 vr : Value) (m : KM) (rs : List Bs) (W : World) : Prop where
 b4 : Blk W g4 [c1, c2] 43
 b8 : Blk W g8 [.slice none 0 0, .slice none 0 0] 43
 ky : KyS (R2 R g8 g8) W c1 c2 m
 re : StaL (R2 R g8 g8) W vr rs
 bel : Below w.heap.size w W
 g8 : w.heap.size ≤ g8
theorem AeI.below {R : Nat → Prop} {w : World} {g4 g8 : Nat} {c1 c2 vr : Value} {m : KM} {rs : List Bs} {W Y : World} (h : AeI R w g4 g8 c1 c2 vr m rs W) (hb : Below W.heap.size W Y) : AeI R w g4 g8 c1 c2 vr m rs Y := ⟨h.b4.below hb h.b4.lt, h.b8.below hb h.b8.lt, h.ky.below hb, h.re.below hb, h.bel.trans (hb.mono h.bel.size), h.g8⟩
theorem ae_ret {R : Nat → Prop} {W Y : World} {g8 : Nat} {uK uV ur : Value} {m : KM} {rs : List Bs} (hk : KyS (R2 R g8 g8) W uK uV m) (hr : StaL (R2 R g8 g8) W ur rs) (ho : Only g8 W Y) : KyS R Y uK uV m ∧ StaL R Y ur rs :=
 ⟨hk.go (ho.mut (P := R2 R g8 g8) (Or.inr (Or.inl rfl))) (fun _ _ h => Or.inl h), hr.go (ho.mut (P := R2 R g8 g8) (Or.inr (Or.inl rfl))) (fun _ _ h => Or.inl h)⟩
theorem oApply_no (R : Nat → Prop) (vK vV vr v : Value) (m : KM) (rs : List Bs) (ps : List (ActT × Value)) (n : Nat) (w : World) (hR : ∀ k, R k → k < w.heap.size) (hm : KyS R w vK vV m) (hup : Rise m) (hrs : StaL R w vr rs) (hr : RdP w v ps) (hra : ReadsA w v (ps.map (·.1))) (hd : ∀ p ∈ ps, Sta R w (fun W => Reads W p.2 p.1.data)) (hl : m.length + ps.length < 100000) (hz : okZ (ps.map (·.1))) (hn : n < 1000000) (hrl : rs.length < 1000000) (hsz : sizeL (rs ++ [batchB (ps.map (·.1))]) < 1000000000) (hzw : okZ (wholeM (doneM m (ps.map (·.1)))) ∧ (batchB (wholeM (doneM m (ps.map (·.1))))).length < 1000000) (hc : ¬ (chkL (ps.map (·.1)) = 0 ∧ ps.map (·.1) ≠ [])) : Calls Tryz.prog 21 #[.agg [vK, vV].toArray, vr, v, .int .i64 (n : Int)] w fun e w' => AeR R w m rs (ps.map (·.1)) n e w' := by
 obtain ⟨l, HL⟩ := sqn (ps.map (·.1))
 rw [← HL.out] at hra hz hsz hzw hc ⊢
 obtain ⟨N, HN⟩ := sqn (ps.length)
 obtain ⟨ad, cp, hv⟩ := hr.form
 rw [← HN.out] at hv
 subst hv
 obtain ⟨a1, n1, c1, e1⟩ : ∃ a n c, vK = .slice a n c := by obtain ⟨a, c, h, _⟩ := hm.k; exact ⟨a, _, c, h⟩
 obtain ⟨a2, n2, c2, e2⟩ : ∃ a n c, vV = .slice a n c := by obtain ⟨a, c, h, _⟩ := hm.v; exact ⟨a, _, c, h⟩
 obtain ⟨a3, n3, c3, e3⟩ : ∃ a n c, vr = .slice a n c := by obtain ⟨a, c, h, _⟩ := hrs; exact ⟨a, _, c, h⟩
 subst e1
 subst e2
 subst e3
 have HLL : Hid (l.length = N) := by show _ = _; rw [HL.out, List.length_map, HN.out]
 have HA : Hid (ReadsA w (.slice ad N cp) l ∧ okZ l ∧ n < 1000000 ∧ rs.length < 1000000 ∧ sizeL (rs ++ [batchB l]) < 1000000000 ∧ ∀ k, R k → k < w.heap.size) := ⟨hra, hz, hn, hrl, hsz, hR⟩
 have HZW : Hid (okZ (wholeM (doneM m l)) ∧ (batchB (wholeM (doneM m l))).length < 1000000 ∧ (doneM m l).length < 1000000) := ⟨hzw.1, hzw.2, by have h1 := len_doneM l hup; rw [HLL.out] at h1; have := HN.out; omega⟩
 have HI0 : Hid (∀ g8 W, w.heap.size ≤ g8 → Below w.heap.size w W → KyS (R2 R g8 g8) W (.slice a1 n1 c1) (.slice a2 n2 c2) m ∧ StaL (R2 R g8 g8) W (.slice a3 n3 c3) rs) := fun g8 W hg hb => ⟨hm.go (mut_below hb R) (fun k hk h => h.elim id (fun e => absurd hk (by omega))), hrs.go (mut_below hb R) (fun k hk h => h.elim id (fun e => absurd hk (by omega)))⟩
 have HDN : Hid (∀ g8 W, w.heap.size ≤ g8 → g8 < W.heap.size → Below w.heap.size w W → Calls Tryz.prog 49 #[.agg [.slice a1 n1 c1, .slice a2 n2 c2].toArray, .slice ad N cp] W fun e w' => ∃ q1 q2 q3 q4 q5 q6, e = .returned (.agg [.slice q1 q2 q3, .slice q4 q5 q6].toArray) ∧ KyS (R2 R g8 g8) w' (.slice q1 q2 q3) (.slice q4 q5 q6) (doneM m l) ∧ Below W.heap.size W w') := fun g8 W hg hlt hb => by
  refine (oDone_any (R2 R g8 g8) _ _ _ m ps W (fun k hk => by
   rcases hk with hk | hk | hk
   · exact Nat.lt_of_lt_of_le (hR k hk) hb.size
   · rw [hk]; exact hlt
   · rw [hk]; exact hlt) (HI0.out g8 W hg hb).1 hup (hr.below hb) (fun p hp => sta_wide (hd p hp) hb hg hg) hl).mono (fun e w' hx => ?_)
  obtain ⟨uK, uV, h1, h2, h3⟩ := hx
  rw [← HL.out] at h2
  obtain ⟨q1, q3, f1⟩ : ∃ a c, uK = .slice a ((doneM m l).map (·.1)).length c := by obtain ⟨a, c, h, _⟩ := h2.k; exact ⟨a, c, h⟩
  obtain ⟨q4, q6, f2⟩ : ∃ a c, uV = .slice a ((doneM m l).map (·.2)).length c := by obtain ⟨a, c, h, _⟩ := h2.v; exact ⟨a, c, h⟩
  subst f1
  subst f2
  exact ⟨q1, _, q3, q4, _, q6, h1, h2, h3⟩
 clear hR hm hup hrs hr hra hd hl hz hn hrl hsz hzw
 have HXE : Hid (apyX m rs l n = chkL l ∧ apyM m rs l n = m ∧ apyL m rs l n = rs) := by
  have hx : apyX m rs l n = chkL l := if_neg hc
  refine ⟨hx, ?_, if_neg hc⟩
  unfold apyM
  rw [hx]
  by_cases h0 : chkL l = 0
  · have hl0 : l = [] := by
     by_cases e : l = []
     · exact e
     · exact absurd ⟨h0, e⟩ hc
    rw [if_pos h0, hl0]
    rfl
  · rw [if_neg h0]
 obtain ⟨ck, HCK2⟩ := sqn (chkL l)
 have HCK : Hid (chkL l = ck) := HCK2.out.symm
 by_cases h0 : ck = 0
 · subst h0
   have hz : N = 0 := by
    have h1 := HCK.out
    have h2 : l = [] := by
     by_cases e : l = []
     · exact e
     · exact absurd ⟨h1, e⟩ hc
    rw [← HLL.out, h2]
    rfl
   subst hz; clear hc HDN
   go_enter Tryz.func21, Tryz.ntmps21
   obtain ⟨tk0, tk1, tk2, tk3, tk4⟩ := sqk5
   go_wp2_with (first
    | (clear tk0; with_reducible refine wpSeq_boxW 43 (.tmp 0) [.slice a1 n1 c1, .slice a2 n2 c2] ?_ ?_ ?_ ?_
       · rfl
       · rfl
       · rfl
       intro g4 x1 nn; have H4 : Hid (Blk x1 g4 [.slice a1 n1 c1, .slice a2 n2 c2] 43) := nn.blk; have HB : Hid (Below w.heap.size w x1) := nn.below; clear nn)
    | (clear tk1; with_reducible refine wpSeq_allocK ?_ ?_ ?_
       · rfl
       · rfl
       intro g8 x2 nn
       have HI : Hid (AeI R w g4 g8 (.slice a1 n1 c1) (.slice a2 n2 c2) (.slice a3 n3 c3) m rs x2) := by
        have hb := HB.out.trans (nn.below.mono HB.out.size); have hg := Nat.le_trans HB.out.size nn.ge; obtain ⟨h1, h2⟩ := HI0.out g8 x2 hg hb; exact ⟨H4.out.below nn.below H4.out.lt, nn.blk, h1, h2, hb, hg⟩
       clear nn HB H4)
    | (clear tk2; go_at_call 14; refine (oCheck_any _ l _ (HA.out.1.below HI.out.bel)).mono ?_; rintro e3 x3 ⟨rfl, bl⟩
       rw [HCK.out]; replace HI : Hid (AeI R w g4 g8 (.slice a1 n1 c1) (.slice a2 n2 c2) (.slice a3 n3 c3) m rs x3) := HI.out.below bl; clear bl)
    | (clear tk3; with_reducible refine wpSeq_loadW 43 (.tmp 4) g4 0 [.slice a1 n1 c1, .slice a2 n2 c2] _ (Blk.range HI.out.b4) Tryz.underlying43 rfl (info_keys _ _) ?_ ?_ ?_ ?_
       · rfl
       · rfl
       · rfl)
    | (clear tk4; with_reducible refine wpSeq_storeRow 43 (.tmp 8) (.tmp 26) g8 [.slice none 0 0, .slice none 0 0] [.slice a1 n1 c1, .slice a2 n2 c2] HI.out.b8 rfl (info_keys _ _) (one_keys _ _ _ _ _ _) ?_ ?_ ?_ ?_ ?_
       · rfl
       · rfl
       · rfl
       · rfl
       intro y9 sr; have HF : Hid (Blk y9 g8 [.slice a1 n1 c1, .slice a2 n2 c2] 43 ∧ Only g8 x3 y9) := ⟨sr.blk, sr.only⟩; clear sr))
   have hb9 : Below w.heap.size w y9 := HI.out.bel.trans (HF.out.2.below HI.out.g8 HI.out.bel.size); obtain ⟨k9, r9⟩ := ae_ret HI.out.ky HI.out.re HF.out.2; refine bodyPost_ret (results_row_tmp2 rfl _ _ g8 _ rfl (var_keys HF.out.1)) rfl ?_; refine ⟨_, _, (.slice a3 n3 c3), by rw [HXE.out.1, HCK.out]; rfl, by rw [HXE.out.2.1]; exact k9, by rw [HXE.out.2.2]; exact r9, hb9⟩
 · have q1 : (ck != 0) = true := by rw [bne_iff_ne]; exact h0
   clear hc HDN
   go_enter Tryz.func21, Tryz.ntmps21
   obtain ⟨tk0, tk1, tk2, tk3, tk4⟩ := sqk5
   go_wp2_with (first
    | (clear tk0; with_reducible refine wpSeq_boxW 43 (.tmp 0) [.slice a1 n1 c1, .slice a2 n2 c2] ?_ ?_ ?_ ?_
       · rfl
       · rfl
       · rfl
       intro g4 x1 nn; have H4 : Hid (Blk x1 g4 [.slice a1 n1 c1, .slice a2 n2 c2] 43) := nn.blk; have HB : Hid (Below w.heap.size w x1) := nn.below; clear nn)
    | (clear tk1; with_reducible refine wpSeq_allocK ?_ ?_ ?_
       · rfl
       · rfl
       intro g8 x2 nn
       have HI : Hid (AeI R w g4 g8 (.slice a1 n1 c1) (.slice a2 n2 c2) (.slice a3 n3 c3) m rs x2) := by
        have hb := HB.out.trans (nn.below.mono HB.out.size); have hg := Nat.le_trans HB.out.size nn.ge; obtain ⟨h1, h2⟩ := HI0.out g8 x2 hg hb; exact ⟨H4.out.below nn.below H4.out.lt, nn.blk, h1, h2, hb, hg⟩
       clear nn HB H4)
    | (clear tk2; go_at_call 14; refine (oCheck_any _ l _ (HA.out.1.below HI.out.bel)).mono ?_; rintro e3 x3 ⟨rfl, bl⟩
       rw [HCK.out]; replace HI : Hid (AeI R w g4 g8 (.slice a1 n1 c1) (.slice a2 n2 c2) (.slice a3 n3 c3) m rs x3) := HI.out.below bl; clear bl)
    | (clear tk3; with_reducible refine wpSeq_loadW 43 (.tmp 4) g4 0 [.slice a1 n1 c1, .slice a2 n2 c2] _ (Blk.range HI.out.b4) Tryz.underlying43 rfl (info_keys _ _) ?_ ?_ ?_ ?_
       · rfl
       · rfl
       · rfl)
    | (clear tk4; with_reducible refine wpSeq_storeRow 43 (.tmp 8) (.tmp 26) g8 [.slice none 0 0, .slice none 0 0] [.slice a1 n1 c1, .slice a2 n2 c2] HI.out.b8 rfl (info_keys _ _) (one_keys _ _ _ _ _ _) ?_ ?_ ?_ ?_ ?_
       · rfl
       · rfl
       · rfl
       · rfl
       intro y9 sr; have HF : Hid (Blk y9 g8 [.slice a1 n1 c1, .slice a2 n2 c2] 43 ∧ Only g8 x3 y9) := ⟨sr.blk, sr.only⟩; clear sr))
   have hb9 : Below w.heap.size w y9 := HI.out.bel.trans (HF.out.2.below HI.out.g8 HI.out.bel.size); obtain ⟨k9, r9⟩ := ae_ret HI.out.ky HI.out.re HF.out.2; refine bodyPost_ret (results_row_tmp2 rfl _ _ g8 _ rfl (var_keys HF.out.1)) rfl ?_; refine ⟨_, _, (.slice a3 n3 c3), by rw [HXE.out.1, HCK.out]; rfl, by rw [HXE.out.2.1]; exact k9, by rw [HXE.out.2.2]; exact r9, hb9⟩
theorem oApply_fit (R : Nat → Prop) (vK vV vr v : Value) (m : KM) (rs : List Bs) (ps : List (ActT × Value)) (n : Nat) (w : World) (hR : ∀ k, R k → k < w.heap.size) (hm : KyS R w vK vV m) (hup : Rise m) (hrs : StaL R w vr rs) (hr : RdP w v ps) (hra : ReadsA w v (ps.map (·.1))) (hd : ∀ p ∈ ps, Sta R w (fun W => Reads W p.2 p.1.data)) (hl : m.length + ps.length < 100000) (hz : okZ (ps.map (·.1))) (hn : n < 1000000) (hrl : rs.length < 1000000) (hsz : sizeL (rs ++ [batchB (ps.map (·.1))]) < 1000000000) (hzw : okZ (wholeM (doneM m (ps.map (·.1)))) ∧ (batchB (wholeM (doneM m (ps.map (·.1))))).length < 1000000) (hc : chkL (ps.map (·.1)) = 0 ∧ ps.map (·.1) ≠ []) (ha : apX rs (batchB (ps.map (·.1))) n = 0) : Calls Tryz.prog 21 #[.agg [vK, vV].toArray, vr, v, .int .i64 (n : Int)] w fun e w' => AeR R w m rs (ps.map (·.1)) n e w' := by
 obtain ⟨l, HL⟩ := sqn (ps.map (·.1))
 rw [← HL.out] at hra hz hsz hzw hc ha ⊢
 obtain ⟨N, HN⟩ := sqn (ps.length)
 obtain ⟨ad, cp, hv⟩ := hr.form
 rw [← HN.out] at hv
 subst hv
 obtain ⟨a1, n1, c1, e1⟩ : ∃ a n c, vK = .slice a n c := by obtain ⟨a, c, h, _⟩ := hm.k; exact ⟨a, _, c, h⟩
 obtain ⟨a2, n2, c2, e2⟩ : ∃ a n c, vV = .slice a n c := by obtain ⟨a, c, h, _⟩ := hm.v; exact ⟨a, _, c, h⟩
 obtain ⟨a3, n3, c3, e3⟩ : ∃ a n c, vr = .slice a n c := by obtain ⟨a, c, h, _⟩ := hrs; exact ⟨a, _, c, h⟩
 subst e1
 subst e2
 subst e3
 have HLL : Hid (l.length = N) := by show _ = _; rw [HL.out, List.length_map, HN.out]
 have HA : Hid (ReadsA w (.slice ad N cp) l ∧ okZ l ∧ n < 1000000 ∧ rs.length < 1000000 ∧ sizeL (rs ++ [batchB l]) < 1000000000 ∧ ∀ k, R k → k < w.heap.size) := ⟨hra, hz, hn, hrl, hsz, hR⟩
 have HZW : Hid (okZ (wholeM (doneM m l)) ∧ (batchB (wholeM (doneM m l))).length < 1000000 ∧ (doneM m l).length < 1000000) := ⟨hzw.1, hzw.2, by have h1 := len_doneM l hup; rw [HLL.out] at h1; have := HN.out; omega⟩
 have HI0 : Hid (∀ g8 W, w.heap.size ≤ g8 → Below w.heap.size w W → KyS (R2 R g8 g8) W (.slice a1 n1 c1) (.slice a2 n2 c2) m ∧ StaL (R2 R g8 g8) W (.slice a3 n3 c3) rs) := fun g8 W hg hb => ⟨hm.go (mut_below hb R) (fun k hk h => h.elim id (fun e => absurd hk (by omega))), hrs.go (mut_below hb R) (fun k hk h => h.elim id (fun e => absurd hk (by omega)))⟩
 have HDN : Hid (∀ g8 W, w.heap.size ≤ g8 → g8 < W.heap.size → Below w.heap.size w W → Calls Tryz.prog 49 #[.agg [.slice a1 n1 c1, .slice a2 n2 c2].toArray, .slice ad N cp] W fun e w' => ∃ q1 q2 q3 q4 q5 q6, e = .returned (.agg [.slice q1 q2 q3, .slice q4 q5 q6].toArray) ∧ KyS (R2 R g8 g8) w' (.slice q1 q2 q3) (.slice q4 q5 q6) (doneM m l) ∧ Below W.heap.size W w') := fun g8 W hg hlt hb => by
  refine (oDone_any (R2 R g8 g8) _ _ _ m ps W (fun k hk => by
   rcases hk with hk | hk | hk
   · exact Nat.lt_of_lt_of_le (hR k hk) hb.size
   · rw [hk]; exact hlt
   · rw [hk]; exact hlt) (HI0.out g8 W hg hb).1 hup (hr.below hb) (fun p hp => sta_wide (hd p hp) hb hg hg) hl).mono (fun e w' hx => ?_)
  obtain ⟨uK, uV, h1, h2, h3⟩ := hx
  rw [← HL.out] at h2
  obtain ⟨q1, q3, f1⟩ : ∃ a c, uK = .slice a ((doneM m l).map (·.1)).length c := by obtain ⟨a, c, h, _⟩ := h2.k; exact ⟨a, c, h⟩
  obtain ⟨q4, q6, f2⟩ : ∃ a c, uV = .slice a ((doneM m l).map (·.2)).length c := by obtain ⟨a, c, h, _⟩ := h2.v; exact ⟨a, c, h⟩
  subst f1
  subst f2
  exact ⟨q1, _, q3, q4, _, q6, h1, h2, h3⟩
 clear hR hm hup hrs hr hra hd hl hz hn hrl hsz hzw
 have HCK : Hid (chkL l = 0) := hc.1
 have fz : ¬ ((N : Int) = 0) := by
  have h1 : 0 < l.length := List.length_pos_iff.2 hc.2
  have h2 := HLL.out
  omega
 have HXA : Hid (apX rs (batchB l) n = 0) := ha
 have HXE : Hid (apyX m rs l n = 0 ∧ apyM m rs l n = doneM m l ∧ apyL m rs l n = apL rs (batchB l) n) := by
  have hx : apyX m rs l n = 0 := by unfold apyX; rw [if_pos hc, if_pos ha]
  refine ⟨hx, if_pos hx, ?_⟩
  unfold apyL apL
  rw [if_pos hc, if_pos ha, if_pos ha]
 clear hc ha
 go_enter Tryz.func21, Tryz.ntmps21
 obtain ⟨tk0, tk1, tk2, tk3, tk4, tk5, tk6, tk7, tk8, tk9, tk10⟩ := sqk11
 go_wp2_with (first
  | (clear tk0; with_reducible refine wpSeq_boxW 43 (.tmp 0) [.slice a1 n1 c1, .slice a2 n2 c2] ?_ ?_ ?_ ?_
     · rfl
     · rfl
     · rfl
     intro g4 x1 nn; have H4 : Hid (Blk x1 g4 [.slice a1 n1 c1, .slice a2 n2 c2] 43) := nn.blk; have HB : Hid (Below w.heap.size w x1) := nn.below; clear nn)
  | (clear tk1; with_reducible refine wpSeq_allocK ?_ ?_ ?_
     · rfl
     · rfl
     intro g8 x2 nn
     have HI : Hid (AeI R w g4 g8 (.slice a1 n1 c1) (.slice a2 n2 c2) (.slice a3 n3 c3) m rs x2) := by
      have hb := HB.out.trans (nn.below.mono HB.out.size); have hg := Nat.le_trans HB.out.size nn.ge; obtain ⟨h1, h2⟩ := HI0.out g8 x2 hg hb; exact ⟨H4.out.below nn.below H4.out.lt, nn.blk, h1, h2, hb, hg⟩
     clear nn HB H4)
  | (clear tk2; go_at_call 14; refine (oCheck_any _ l _ (HA.out.1.below HI.out.bel)).mono ?_; rintro e3 x3 ⟨rfl, bl⟩
     rw [HCK.out]; replace HI : Hid (AeI R w g4 g8 (.slice a1 n1 c1) (.slice a2 n2 c2) (.slice a3 n3 c3) m rs x3) := HI.out.below bl; clear bl)
  | (clear tk3; with_reducible refine wpSeq_loadW 43 (.tmp 4) g4 0 [.slice a1 n1 c1, .slice a2 n2 c2] _ (Blk.range HI.out.b4) Tryz.underlying43 rfl (info_keys _ _) ?_ ?_ ?_ ?_
     · rfl
     · rfl
     · rfl)
  | (clear tk4; go_at_call 49; refine (HDN.out g8 _ HI.out.g8 HI.out.b8.lt HI.out.bel).mono ?_; rintro e4 x4 ⟨q1, q2, q3, q4, q5, q6, rfl, hq4, bl⟩
     have HQ : Hid (KyS (R2 R g8 g8) x4 (.slice q1 q2 q3) (.slice q4 q5 q6) (doneM m l)) := hq4; replace HI : Hid (AeI R w g4 g8 (.slice a1 n1 c1) (.slice a2 n2 c2) (.slice a3 n3 c3) m rs x4) := HI.out.below bl; clear hq4 bl)
  | (clear tk5; with_reducible refine wpSeq_allocK ?_ ?_ ?_
     · rfl
     · rfl
     intro g12 x5 nn; have HB12 : Hid (Blk x5 g12 [.slice none 0 0, .slice none 0 0] 43 ∧ x4.heap.size ≤ g12 ∧ Below x4.heap.size x4 x5) := ⟨nn.blk, nn.ge, nn.below⟩; clear nn)
  | (clear tk6; with_reducible refine wpSeq_storeRow 43 (.tmp 12) (.tmp 31) g12 [.slice none 0 0, .slice none 0 0] [.slice q1 q2 q3, .slice q4 q5 q6] HB12.out.1 rfl (info_keys _ _) (one_keys _ _ _ _ _ _) ?_ ?_ ?_ ?_ ?_
     · rfl
     · rfl
     · rfl
     · rfl
     intro x6 sr; have bl : Below x4.heap.size x4 x6 := HB12.out.2.2.trans (sr.only.below HB12.out.2.1 HB12.out.2.2.size); have H12 : Hid (Blk x6 g12 [.slice q1 q2 q3, .slice q4 q5 q6] 43) := sr.blk; replace HQ : Hid (KyS (R2 R g8 g8) x6 (.slice q1 q2 q3) (.slice q4 q5 q6) (doneM m l)) := HQ.out.below bl; replace HI : Hid (AeI R w g4 g8 (.slice a1 n1 c1) (.slice a2 n2 c2) (.slice a3 n3 c3) m rs x6) := HI.out.below bl; clear sr bl HB12)
  | (clear tk7; go_at_call 18; refine (oBatch_any _ l _ (HA.out.1.below HI.out.bel) HA.out.2.1).mono ?_; rintro e7 x7 ⟨vb, rfl, ow7, bl⟩
     obtain ⟨b1, b2, b3, hvb⟩ := isSl_form ow7.isSl; subst hvb
     have HBT : Hid (Sta (R2 R g8 g8) x7 (fun W => Reads W (.slice b1 b2 b3) (batchB l))) := ow7.st (fun j hj => by
      have h8 := HI.out.b8.lt; have hs := HI.out.bel.size
      rcases hj with hj | hj | hj
      · have := HA.out.2.2.2.2.2 j hj; omega
      · omega
      · omega)
     replace H12 : Hid (Blk x7 g12 [.slice q1 q2 q3, .slice q4 q5 q6] 43) := H12.out.below bl H12.out.lt; replace HQ : Hid (KyS (R2 R g8 g8) x7 (.slice q1 q2 q3) (.slice q4 q5 q6) (doneM m l)) := HQ.out.below bl; replace HI : Hid (AeI R w g4 g8 (.slice a1 n1 c1) (.slice a2 n2 c2) (.slice a3 n3 c3) m rs x7) := HI.out.below bl; clear ow7 bl)
  | (clear tk8; go_at_call 50; refine (nAppend_st (R2 R g8 g8) _ _ rs (batchB l) n HA.out.2.2.2.1 HA.out.2.2.2.2.1 HA.out.2.2.1 _ (fun j hj => by
      have h8 := HI.out.b8.lt; have hs := HI.out.bel.size
      rcases hj with hj | hj | hj
      · have := HA.out.2.2.2.2.2 j hj; omega
      · omega
      · omega) HI.out.re HBT.out).mono ?_; rintro e8 x8 ⟨lv, rfl, hs8, bl⟩
     rw [HXA.out]; obtain ⟨s1, s2, s3, hlv⟩ : ∃ a n c, lv = .slice a n c := by obtain ⟨a, c, h, _⟩ := hs8; exact ⟨a, _, c, h⟩
     subst hlv; have HS8 : Hid (StaL (R2 R g8 g8) x8 (.slice s1 s2 s3) (apL rs (batchB l) n)) := hs8; replace H12 : Hid (Blk x8 g12 [.slice q1 q2 q3, .slice q4 q5 q6] 43) := H12.out.below bl H12.out.lt; replace HQ : Hid (KyS (R2 R g8 g8) x8 (.slice q1 q2 q3) (.slice q4 q5 q6) (doneM m l)) := HQ.out.below bl; replace HI : Hid (AeI R w g4 g8 (.slice a1 n1 c1) (.slice a2 n2 c2) (.slice a3 n3 c3) m rs x8) := HI.out.below bl; clear hs8 bl HBT)
  | (clear tk9; with_reducible refine wpSeq_loadW 43 (.tmp 12) g12 0 [.slice q1 q2 q3, .slice q4 q5 q6] _ (Blk.range H12.out) Tryz.underlying43 rfl (info_keys _ _) ?_ ?_ ?_ ?_
     · rfl
     · rfl
     · rfl)
  | (clear tk10; with_reducible refine wpSeq_storeRow 43 (.tmp 8) (.tmp 42) g8 [.slice none 0 0, .slice none 0 0] [.slice q1 q2 q3, .slice q4 q5 q6] HI.out.b8 rfl (info_keys _ _) (one_keys _ _ _ _ _ _) ?_ ?_ ?_ ?_ ?_
     · rfl
     · rfl
     · rfl
     · rfl
     intro y9 sr; have HF : Hid (Blk y9 g8 [.slice q1 q2 q3, .slice q4 q5 q6] 43 ∧ Only g8 x8 y9) := ⟨sr.blk, sr.only⟩; clear sr))
 have hb9 : Below w.heap.size w y9 := HI.out.bel.trans (HF.out.2.below HI.out.g8 HI.out.bel.size)
 obtain ⟨k9, r9⟩ := ae_ret HQ.out HS8.out HF.out.2
 refine bodyPost_ret (results_row_tmp2 rfl _ _ g8 _ rfl (var_keys HF.out.1)) rfl ?_
 refine ⟨_, _, (.slice s1 s2 s3), by rw [HXE.out.1]; rfl, by rw [HXE.out.2.1]; exact k9, by rw [HXE.out.2.2]; exact r9, hb9⟩
theorem oApply_bad (R : Nat → Prop) (vK vV vr v : Value) (m : KM) (rs : List Bs) (ps : List (ActT × Value)) (n : Nat) (w : World) (hR : ∀ k, R k → k < w.heap.size) (hm : KyS R w vK vV m) (hup : Rise m) (hrs : StaL R w vr rs) (hr : RdP w v ps) (hra : ReadsA w v (ps.map (·.1))) (hd : ∀ p ∈ ps, Sta R w (fun W => Reads W p.2 p.1.data)) (hl : m.length + ps.length < 100000) (hz : okZ (ps.map (·.1))) (hn : n < 1000000) (hrl : rs.length < 1000000) (hsz : sizeL (rs ++ [batchB (ps.map (·.1))]) < 1000000000) (hzw : okZ (wholeM (doneM m (ps.map (·.1)))) ∧ (batchB (wholeM (doneM m (ps.map (·.1))))).length < 1000000) (hc : chkL (ps.map (·.1)) = 0 ∧ ps.map (·.1) ≠ []) (ha : apX rs (batchB (ps.map (·.1))) n ≠ 0) (h0 : doneM m (ps.map (·.1)) ≠ []) (hw : chkL (wholeM (doneM m (ps.map (·.1)))) = 1) : Calls Tryz.prog 21 #[.agg [vK, vV].toArray, vr, v, .int .i64 (n : Int)] w fun e w' => AeR R w m rs (ps.map (·.1)) n e w' := by
 obtain ⟨l, HL⟩ := sqn (ps.map (·.1))
 rw [← HL.out] at hra hz hsz hzw hc ha h0 hw ⊢
 obtain ⟨N, HN⟩ := sqn (ps.length)
 obtain ⟨ad, cp, hv⟩ := hr.form
 rw [← HN.out] at hv
 subst hv
 obtain ⟨a1, n1, c1, e1⟩ : ∃ a n c, vK = .slice a n c := by obtain ⟨a, c, h, _⟩ := hm.k; exact ⟨a, _, c, h⟩
 obtain ⟨a2, n2, c2, e2⟩ : ∃ a n c, vV = .slice a n c := by obtain ⟨a, c, h, _⟩ := hm.v; exact ⟨a, _, c, h⟩
 obtain ⟨a3, n3, c3, e3⟩ : ∃ a n c, vr = .slice a n c := by obtain ⟨a, c, h, _⟩ := hrs; exact ⟨a, _, c, h⟩
 subst e1
 subst e2
 subst e3
 have HLL : Hid (l.length = N) := by show _ = _; rw [HL.out, List.length_map, HN.out]
 have HA : Hid (ReadsA w (.slice ad N cp) l ∧ okZ l ∧ n < 1000000 ∧ rs.length < 1000000 ∧ sizeL (rs ++ [batchB l]) < 1000000000 ∧ ∀ k, R k → k < w.heap.size) := ⟨hra, hz, hn, hrl, hsz, hR⟩
 have HZW : Hid (okZ (wholeM (doneM m l)) ∧ (batchB (wholeM (doneM m l))).length < 1000000 ∧ (doneM m l).length < 1000000) := ⟨hzw.1, hzw.2, by have h1 := len_doneM l hup; rw [HLL.out] at h1; have := HN.out; omega⟩
 have HI0 : Hid (∀ g8 W, w.heap.size ≤ g8 → Below w.heap.size w W → KyS (R2 R g8 g8) W (.slice a1 n1 c1) (.slice a2 n2 c2) m ∧ StaL (R2 R g8 g8) W (.slice a3 n3 c3) rs) := fun g8 W hg hb => ⟨hm.go (mut_below hb R) (fun k hk h => h.elim id (fun e => absurd hk (by omega))), hrs.go (mut_below hb R) (fun k hk h => h.elim id (fun e => absurd hk (by omega)))⟩
 have HDN : Hid (∀ g8 W, w.heap.size ≤ g8 → g8 < W.heap.size → Below w.heap.size w W → Calls Tryz.prog 49 #[.agg [.slice a1 n1 c1, .slice a2 n2 c2].toArray, .slice ad N cp] W fun e w' => ∃ q1 q2 q3 q4 q5 q6, e = .returned (.agg [.slice q1 q2 q3, .slice q4 q5 q6].toArray) ∧ KyS (R2 R g8 g8) w' (.slice q1 q2 q3) (.slice q4 q5 q6) (doneM m l) ∧ Below W.heap.size W w') := fun g8 W hg hlt hb => by
  refine (oDone_any (R2 R g8 g8) _ _ _ m ps W (fun k hk => by
   rcases hk with hk | hk | hk
   · exact Nat.lt_of_lt_of_le (hR k hk) hb.size
   · rw [hk]; exact hlt
   · rw [hk]; exact hlt) (HI0.out g8 W hg hb).1 hup (hr.below hb) (fun p hp => sta_wide (hd p hp) hb hg hg) hl).mono (fun e w' hx => ?_)
  obtain ⟨uK, uV, h1, h2, h3⟩ := hx
  rw [← HL.out] at h2
  obtain ⟨q1, q3, f1⟩ : ∃ a c, uK = .slice a ((doneM m l).map (·.1)).length c := by obtain ⟨a, c, h, _⟩ := h2.k; exact ⟨a, c, h⟩
  obtain ⟨q4, q6, f2⟩ : ∃ a c, uV = .slice a ((doneM m l).map (·.2)).length c := by obtain ⟨a, c, h, _⟩ := h2.v; exact ⟨a, c, h⟩
  subst f1
  subst f2
  exact ⟨q1, _, q3, q4, _, q6, h1, h2, h3⟩
 clear hR hm hup hrs hr hra hd hl hz hn hrl hsz hzw
 have HCK : Hid (chkL l = 0) := hc.1
 have fz : ¬ ((N : Int) = 0) := by
  have h1 : 0 < l.length := List.length_pos_iff.2 hc.2
  have h2 := HLL.out
  omega
 obtain ⟨xa, HXA2⟩ := sqn (apX rs (batchB l) n)
 have HXA : Hid (apX rs (batchB l) n = xa) := HXA2.out.symm
 have hq1 : ¬ xa = 0 := by rw [HXA2.out]; exact ha
 have hq2 : (xa == 0) = false := by simpa using hq1
 have HCW : Hid (chkL (wholeM (doneM m l)) = 1) := hw
 have HXE : Hid (apyX m rs l n = 13 ∧ apyM m rs l n = m ∧ apyL m rs l n = rs) := by
  have hy : apyX m rs l n = 13 := by unfold apyX; rw [if_pos hc, if_neg ha, if_neg (fun h => by rw [hw] at h; cases h.1)]
  refine ⟨hy, by unfold apyM; rw [hy, if_neg (by decide)], ?_⟩
  unfold apyL
  rw [if_pos hc, if_neg ha, if_neg (fun h => by rw [hw] at h; cases h.1)]
 have HM2 : Hid (0 < (doneM m l).length ∧ anewM (doneM m l) = [batchB (wholeM (doneM m l))]) := ⟨List.length_pos_iff.2 h0, by unfold anewM; rw [if_neg h0]⟩
 clear hc ha h0 hw
 go_enter Tryz.func21, Tryz.ntmps21
 obtain ⟨tk0, tk1, tk2, tk3, tk4, tk5, tk6, tk7, tk8, tk9, tk10, tk11, tk12, tk13, tk14, tk15⟩ := sqk16
 have tk16 : Hid True := trivial
 go_wp2_with (first
  | (clear tk0; with_reducible refine wpSeq_boxW 43 (.tmp 0) [.slice a1 n1 c1, .slice a2 n2 c2] ?_ ?_ ?_ ?_
     · rfl
     · rfl
     · rfl
     intro g4 x1 nn; have H4 : Hid (Blk x1 g4 [.slice a1 n1 c1, .slice a2 n2 c2] 43) := nn.blk; have HB : Hid (Below w.heap.size w x1) := nn.below; clear nn)
  | (clear tk1; with_reducible refine wpSeq_allocK ?_ ?_ ?_
     · rfl
     · rfl
     intro g8 x2 nn
     have HI : Hid (AeI R w g4 g8 (.slice a1 n1 c1) (.slice a2 n2 c2) (.slice a3 n3 c3) m rs x2) := by
      have hb := HB.out.trans (nn.below.mono HB.out.size); have hg := Nat.le_trans HB.out.size nn.ge; obtain ⟨h1, h2⟩ := HI0.out g8 x2 hg hb; exact ⟨H4.out.below nn.below H4.out.lt, nn.blk, h1, h2, hb, hg⟩
     clear nn HB H4)
  | (clear tk2; go_at_call 14; refine (oCheck_any _ l _ (HA.out.1.below HI.out.bel)).mono ?_; rintro e3 x3 ⟨rfl, bl⟩
     rw [HCK.out]; replace HI : Hid (AeI R w g4 g8 (.slice a1 n1 c1) (.slice a2 n2 c2) (.slice a3 n3 c3) m rs x3) := HI.out.below bl; clear bl)
  | (clear tk3; with_reducible refine wpSeq_loadW 43 (.tmp 4) g4 0 [.slice a1 n1 c1, .slice a2 n2 c2] _ (Blk.range HI.out.b4) Tryz.underlying43 rfl (info_keys _ _) ?_ ?_ ?_ ?_
     · rfl
     · rfl
     · rfl)
  | (clear tk4; go_at_call 49; refine (HDN.out g8 _ HI.out.g8 HI.out.b8.lt HI.out.bel).mono ?_; rintro e4 x4 ⟨q1, q2, q3, q4, q5, q6, rfl, hq4, bl⟩
     have HQ : Hid (KyS (R2 R g8 g8) x4 (.slice q1 q2 q3) (.slice q4 q5 q6) (doneM m l)) := hq4; replace HI : Hid (AeI R w g4 g8 (.slice a1 n1 c1) (.slice a2 n2 c2) (.slice a3 n3 c3) m rs x4) := HI.out.below bl; clear hq4 bl)
  | (clear tk5; with_reducible refine wpSeq_allocK ?_ ?_ ?_
     · rfl
     · rfl
     intro g12 x5 nn; have HB12 : Hid (Blk x5 g12 [.slice none 0 0, .slice none 0 0] 43 ∧ x4.heap.size ≤ g12 ∧ Below x4.heap.size x4 x5) := ⟨nn.blk, nn.ge, nn.below⟩; clear nn)
  | (clear tk6; with_reducible refine wpSeq_storeRow 43 (.tmp 12) (.tmp 31) g12 [.slice none 0 0, .slice none 0 0] [.slice q1 q2 q3, .slice q4 q5 q6] HB12.out.1 rfl (info_keys _ _) (one_keys _ _ _ _ _ _) ?_ ?_ ?_ ?_ ?_
     · rfl
     · rfl
     · rfl
     · rfl
     intro x6 sr; have bl : Below x4.heap.size x4 x6 := HB12.out.2.2.trans (sr.only.below HB12.out.2.1 HB12.out.2.2.size); have H12 : Hid (Blk x6 g12 [.slice q1 q2 q3, .slice q4 q5 q6] 43) := sr.blk; replace HQ : Hid (KyS (R2 R g8 g8) x6 (.slice q1 q2 q3) (.slice q4 q5 q6) (doneM m l)) := HQ.out.below bl; replace HI : Hid (AeI R w g4 g8 (.slice a1 n1 c1) (.slice a2 n2 c2) (.slice a3 n3 c3) m rs x6) := HI.out.below bl; clear sr bl HB12)
  | (clear tk7; go_at_call 18; refine (oBatch_any _ l _ (HA.out.1.below HI.out.bel) HA.out.2.1).mono ?_; rintro e7 x7 ⟨vb, rfl, ow7, bl⟩
     obtain ⟨b1, b2, b3, hvb⟩ := isSl_form ow7.isSl; subst hvb
     have HBT : Hid (Sta (R2 R g8 g8) x7 (fun W => Reads W (.slice b1 b2 b3) (batchB l))) := ow7.st (fun j hj => by
      have h8 := HI.out.b8.lt; have hs := HI.out.bel.size
      rcases hj with hj | hj | hj
      · have := HA.out.2.2.2.2.2 j hj; omega
      · omega
      · omega)
     replace H12 : Hid (Blk x7 g12 [.slice q1 q2 q3, .slice q4 q5 q6] 43) := H12.out.below bl H12.out.lt; replace HQ : Hid (KyS (R2 R g8 g8) x7 (.slice q1 q2 q3) (.slice q4 q5 q6) (doneM m l)) := HQ.out.below bl; replace HI : Hid (AeI R w g4 g8 (.slice a1 n1 c1) (.slice a2 n2 c2) (.slice a3 n3 c3) m rs x7) := HI.out.below bl; clear ow7 bl)
  | (clear tk8; go_at_call 50; refine (nAppend_st (R2 R g8 g8) _ _ rs (batchB l) n HA.out.2.2.2.1 HA.out.2.2.2.2.1 HA.out.2.2.1 _ (fun j hj => by
      have h8 := HI.out.b8.lt; have hs := HI.out.bel.size
      rcases hj with hj | hj | hj
      · have := HA.out.2.2.2.2.2 j hj; omega
      · omega
      · omega) HI.out.re HBT.out).mono ?_; rintro e8 x8 ⟨lv, rfl, hs8, bl⟩
     rw [HXA.out]; obtain ⟨s1, s2, s3, hlv⟩ : ∃ a n c, lv = .slice a n c := by obtain ⟨a, c, h, _⟩ := hs8; exact ⟨a, _, c, h⟩
     subst hlv; have HS8 : Hid (StaL (R2 R g8 g8) x8 (.slice s1 s2 s3) (apL rs (batchB l) n)) := hs8; replace H12 : Hid (Blk x8 g12 [.slice q1 q2 q3, .slice q4 q5 q6] 43) := H12.out.below bl H12.out.lt; replace HQ : Hid (KyS (R2 R g8 g8) x8 (.slice q1 q2 q3) (.slice q4 q5 q6) (doneM m l)) := HQ.out.below bl; replace HI : Hid (AeI R w g4 g8 (.slice a1 n1 c1) (.slice a2 n2 c2) (.slice a3 n3 c3) m rs x8) := HI.out.below bl; clear hs8 bl HBT)
  | (clear tk9; with_reducible refine wpSeq_loadW 43 (.tmp 12) g12 0 [.slice q1 q2 q3, .slice q4 q5 q6] _ (Blk.range H12.out) Tryz.underlying43 rfl (info_keys _ _) ?_ ?_ ?_ ?_
     · rfl
     · rfl
     · rfl)
  | (clear tk10; go_at_call 51; refine (oWhole_any _ _ (doneM m l) _ HQ.out.k.now HQ.out.v.now HZW.out.2.2).mono ?_; rintro e9 x9 ⟨va, rfl, hr9, bl⟩
     obtain ⟨w1, w3, hva⟩ := hr9.form; obtain ⟨w2, HW2⟩ := sqn ((wholeM (doneM m l)).length); rw [← HW2.out] at hva; subst hva; have HRA : Hid (ReadsA x9 (.slice w1 w2 w3) (wholeM (doneM m l))) := hr9; have hw2 : w2 = (doneM m l).length := by rw [HW2.out]; simp [wholeM]
     have hq5 : (0 : Int) < (w2 : Int) := by have := HM2.out.1; omega
     replace H12 : Hid (Blk x9 g12 [.slice q1 q2 q3, .slice q4 q5 q6] 43) := H12.out.below bl H12.out.lt; replace HQ : Hid (KyS (R2 R g8 g8) x9 (.slice q1 q2 q3) (.slice q4 q5 q6) (doneM m l)) := HQ.out.below bl; replace HI : Hid (AeI R w g4 g8 (.slice a1 n1 c1) (.slice a2 n2 c2) (.slice a3 n3 c3) m rs x9) := HI.out.below bl; clear hr9 bl hw2)
  | (clear tk11; go_at_call 18; refine (oBatch_any _ _ _ HRA.out HZW.out.1).mono ?_; rintro e10 x10 ⟨vw, rfl, ow10, bl⟩
     obtain ⟨o1, o2, o3, hvw⟩ := isSl_form ow10.isSl; subst hvw
     have HBW2 : Hid (Sta (R2 R g8 g8) x10 (fun W => Reads W (mkS (o1, o2, o3)) (batchB (wholeM (doneM m l))))) := ow10.st (fun j hj => by
      have h8 := HI.out.b8.lt; have hs := HI.out.bel.size
      rcases hj with hj | hj | hj
      · have := HA.out.2.2.2.2.2 j hj; omega
      · omega
      · omega)
     replace HRA : Hid (ReadsA x10 (.slice w1 w2 w3) (wholeM (doneM m l))) := HRA.out.below bl; replace H12 : Hid (Blk x10 g12 [.slice q1 q2 q3, .slice q4 q5 q6] 43) := H12.out.below bl H12.out.lt; replace HQ : Hid (KyS (R2 R g8 g8) x10 (.slice q1 q2 q3) (.slice q4 q5 q6) (doneM m l)) := HQ.out.below bl; replace HI : Hid (AeI R w g4 g8 (.slice a1 n1 c1) (.slice a2 n2 c2) (.slice a3 n3 c3) m rs x10) := HI.out.below bl; clear ow10 bl)
  | (clear tk12; with_reducible refine wpSeq_buildTT (.tmp 51) (o1, o2, o3) ?_ ?_ ?_ ?_
     · rfl
     · rfl
     · rfl
     intro g13 x11 nn; have bl := nn.below; have HB13 : Hid (Blk x11 g13 [mkS (o1, o2, o3)] 23) := nn.blk; replace HBW2 : Hid (Sta (R2 R g8 g8) x11 (fun W => Reads W (mkS (o1, o2, o3)) (batchB (wholeM (doneM m l))))) := HBW2.out.below bl
     replace HRA : Hid (ReadsA x11 (.slice w1 w2 w3) (wholeM (doneM m l))) := HRA.out.below bl; replace H12 : Hid (Blk x11 g12 [.slice q1 q2 q3, .slice q4 q5 q6] 43) := H12.out.below bl H12.out.lt; replace HQ : Hid (KyS (R2 R g8 g8) x11 (.slice q1 q2 q3) (.slice q4 q5 q6) (doneM m l)) := HQ.out.below bl; replace HI : Hid (AeI R w g4 g8 (.slice a1 n1 c1) (.slice a2 n2 c2) (.slice a3 n3 c3) m rs x11) := HI.out.below bl; clear nn bl)
  | (clear tk13; at_builtin; refine wpList_appT15 (.tmp 49) (.tmp 52) x11.heap.size (.slice none 0 0) (o1, o2, o3) [] g13 (OwnR.nil _ _ _) HB13.out (by decide) (Nat.le_refl _) ?_ ?_ ?_ ?_ ?_
     · rfl
     · rfl
     · rfl
     · rfl
     intro v12 x12 hr12 hg12 bl; obtain ⟨r1, r3, hv12⟩ := hr12.form; obtain ⟨r2, hw12⟩ : ∃ n, v12 = .slice r1 n r3 := ⟨_, hv12⟩; clear hv12; subst hw12
     have HAN : Hid (StaL (R2 R g8 g8) x12 (.slice r1 r2 r3) (anewM (doneM m l))) := by
      rw [HM2.out.2]
      exact staL_row (fun j hj => by
       have h8 := HI.out.b8.lt; have hs := HI.out.bel.size
       rcases hj with hj | hj | hj
       · have := HA.out.2.2.2.2.2 j hj; omega
       · omega
       · omega) hr12 (HBW2.out.below bl)
     replace HRA : Hid (ReadsA x12 (.slice w1 w2 w3) (wholeM (doneM m l))) := HRA.out.below bl; replace H12 : Hid (Blk x12 g12 [.slice q1 q2 q3, .slice q4 q5 q6] 43) := H12.out.below bl H12.out.lt; replace HQ : Hid (KyS (R2 R g8 g8) x12 (.slice q1 q2 q3) (.slice q4 q5 q6) (doneM m l)) := HQ.out.below bl; replace HI : Hid (AeI R w g4 g8 (.slice a1 n1 c1) (.slice a2 n2 c2) (.slice a3 n3 c3) m rs x12) := HI.out.below bl; clear hr12 hg12 bl HBW2 HB13)
  | (clear tk14; go_at_call 14; refine (oCheck_any _ _ _ HRA.out).mono ?_; rintro e13 x13 ⟨rfl, bl⟩
     rw [HCW.out]; replace HAN : Hid (StaL (R2 R g8 g8) x13 (.slice r1 r2 r3) (anewM (doneM m l))) := HAN.out.below bl; replace H12 : Hid (Blk x13 g12 [.slice q1 q2 q3, .slice q4 q5 q6] 43) := H12.out.below bl H12.out.lt; replace HQ : Hid (KyS (R2 R g8 g8) x13 (.slice q1 q2 q3) (.slice q4 q5 q6) (doneM m l)) := HQ.out.below bl; replace HI : Hid (AeI R w g4 g8 (.slice a1 n1 c1) (.slice a2 n2 c2) (.slice a3 n3 c3) m rs x13) := HI.out.below bl; clear bl)
  | (clear tk15; with_reducible refine wpSeq_loadW 43 (.tmp 4) g4 0 [.slice a1 n1 c1, .slice a2 n2 c2] _ (Blk.range HI.out.b4) Tryz.underlying43 rfl (info_keys _ _) ?_ ?_ ?_ ?_
     · rfl
     · rfl
     · rfl)
  | (clear tk16; with_reducible refine wpSeq_storeRow 43 (.tmp 8) (.tmp 57) g8 [.slice none 0 0, .slice none 0 0] [.slice a1 n1 c1, .slice a2 n2 c2] HI.out.b8 rfl (info_keys _ _) (one_keys _ _ _ _ _ _) ?_ ?_ ?_ ?_ ?_
     · rfl
     · rfl
     · rfl
     · rfl
     intro y9 sr; have HF : Hid (Blk y9 g8 [.slice a1 n1 c1, .slice a2 n2 c2] 43 ∧ Only g8 x13 y9) := ⟨sr.blk, sr.only⟩; clear sr))
 have hb9 : Below w.heap.size w y9 := HI.out.bel.trans (HF.out.2.below HI.out.g8 HI.out.bel.size)
 obtain ⟨k9, r9⟩ := ae_ret HI.out.ky HI.out.re HF.out.2
 refine bodyPost_ret (results_row_tmp2 rfl _ _ g8 _ rfl (var_keys HF.out.1)) rfl ?_
 refine ⟨_, _, (.slice a3 n3 c3), by rw [HXE.out.1]; rfl, by rw [HXE.out.2.1]; exact k9, by rw [HXE.out.2.2]; exact r9, hb9⟩
theorem oApply_anew (R : Nat → Prop) (vK vV vr v : Value) (m : KM) (rs : List Bs) (ps : List (ActT × Value)) (n : Nat) (w : World) (hR : ∀ k, R k → k < w.heap.size) (hm : KyS R w vK vV m) (hup : Rise m) (hrs : StaL R w vr rs) (hr : RdP w v ps) (hra : ReadsA w v (ps.map (·.1))) (hd : ∀ p ∈ ps, Sta R w (fun W => Reads W p.2 p.1.data)) (hl : m.length + ps.length < 100000) (hz : okZ (ps.map (·.1))) (hn : n < 1000000) (hrl : rs.length < 1000000) (hsz : sizeL (rs ++ [batchB (ps.map (·.1))]) < 1000000000) (hzw : okZ (wholeM (doneM m (ps.map (·.1)))) ∧ (batchB (wholeM (doneM m (ps.map (·.1))))).length < 1000000) (hc : chkL (ps.map (·.1)) = 0 ∧ ps.map (·.1) ≠ []) (ha : apX rs (batchB (ps.map (·.1))) n ≠ 0) (h0 : doneM m (ps.map (·.1)) ≠ []) (hw : chkL (wholeM (doneM m (ps.map (·.1)))) = 0) (hx : rsX (anewM (doneM m (ps.map (·.1)))) n = 0) : Calls Tryz.prog 21 #[.agg [vK, vV].toArray, vr, v, .int .i64 (n : Int)] w fun e w' => AeR R w m rs (ps.map (·.1)) n e w' := by
 obtain ⟨l, HL⟩ := sqn (ps.map (·.1))
 rw [← HL.out] at hra hz hsz hzw hc ha h0 hw hx ⊢
 obtain ⟨N, HN⟩ := sqn (ps.length)
 obtain ⟨ad, cp, hv⟩ := hr.form
 rw [← HN.out] at hv
 subst hv
 obtain ⟨a1, n1, c1, e1⟩ : ∃ a n c, vK = .slice a n c := by obtain ⟨a, c, h, _⟩ := hm.k; exact ⟨a, _, c, h⟩
 obtain ⟨a2, n2, c2, e2⟩ : ∃ a n c, vV = .slice a n c := by obtain ⟨a, c, h, _⟩ := hm.v; exact ⟨a, _, c, h⟩
 obtain ⟨a3, n3, c3, e3⟩ : ∃ a n c, vr = .slice a n c := by obtain ⟨a, c, h, _⟩ := hrs; exact ⟨a, _, c, h⟩
 subst e1
 subst e2
 subst e3
 have HLL : Hid (l.length = N) := by show _ = _; rw [HL.out, List.length_map, HN.out]
 have HA : Hid (ReadsA w (.slice ad N cp) l ∧ okZ l ∧ n < 1000000 ∧ rs.length < 1000000 ∧ sizeL (rs ++ [batchB l]) < 1000000000 ∧ ∀ k, R k → k < w.heap.size) := ⟨hra, hz, hn, hrl, hsz, hR⟩
 have HZW : Hid (okZ (wholeM (doneM m l)) ∧ (batchB (wholeM (doneM m l))).length < 1000000 ∧ (doneM m l).length < 1000000) := ⟨hzw.1, hzw.2, by have h1 := len_doneM l hup; rw [HLL.out] at h1; have := HN.out; omega⟩
 have HI0 : Hid (∀ g8 W, w.heap.size ≤ g8 → Below w.heap.size w W → KyS (R2 R g8 g8) W (.slice a1 n1 c1) (.slice a2 n2 c2) m ∧ StaL (R2 R g8 g8) W (.slice a3 n3 c3) rs) := fun g8 W hg hb => ⟨hm.go (mut_below hb R) (fun k hk h => h.elim id (fun e => absurd hk (by omega))), hrs.go (mut_below hb R) (fun k hk h => h.elim id (fun e => absurd hk (by omega)))⟩
 have HDN : Hid (∀ g8 W, w.heap.size ≤ g8 → g8 < W.heap.size → Below w.heap.size w W → Calls Tryz.prog 49 #[.agg [.slice a1 n1 c1, .slice a2 n2 c2].toArray, .slice ad N cp] W fun e w' => ∃ q1 q2 q3 q4 q5 q6, e = .returned (.agg [.slice q1 q2 q3, .slice q4 q5 q6].toArray) ∧ KyS (R2 R g8 g8) w' (.slice q1 q2 q3) (.slice q4 q5 q6) (doneM m l) ∧ Below W.heap.size W w') := fun g8 W hg hlt hb => by
  refine (oDone_any (R2 R g8 g8) _ _ _ m ps W (fun k hk => by
   rcases hk with hk | hk | hk
   · exact Nat.lt_of_lt_of_le (hR k hk) hb.size
   · rw [hk]; exact hlt
   · rw [hk]; exact hlt) (HI0.out g8 W hg hb).1 hup (hr.below hb) (fun p hp => sta_wide (hd p hp) hb hg hg) hl).mono (fun e w' hx => ?_)
  obtain ⟨uK, uV, h1, h2, h3⟩ := hx
  rw [← HL.out] at h2
  obtain ⟨q1, q3, f1⟩ : ∃ a c, uK = .slice a ((doneM m l).map (·.1)).length c := by obtain ⟨a, c, h, _⟩ := h2.k; exact ⟨a, c, h⟩
  obtain ⟨q4, q6, f2⟩ : ∃ a c, uV = .slice a ((doneM m l).map (·.2)).length c := by obtain ⟨a, c, h, _⟩ := h2.v; exact ⟨a, c, h⟩
  subst f1
  subst f2
  exact ⟨q1, _, q3, q4, _, q6, h1, h2, h3⟩
 clear hR hm hup hrs hr hra hd hl hz hn hrl hsz hzw
 have HCK : Hid (chkL l = 0) := hc.1
 have fz : ¬ ((N : Int) = 0) := by
  have h1 : 0 < l.length := List.length_pos_iff.2 hc.2
  have h2 := HLL.out
  omega
 obtain ⟨xa, HXA2⟩ := sqn (apX rs (batchB l) n)
 have HXA : Hid (apX rs (batchB l) n = xa) := HXA2.out.symm
 have hq1 : ¬ xa = 0 := by rw [HXA2.out]; exact ha
 have hq2 : (xa == 0) = false := by simpa using hq1
 have HCW : Hid (chkL (wholeM (doneM m l)) = 0) := hw
 obtain ⟨xr, HXR2⟩ := sqn (rsX (anewM (doneM m l)) n)
 have HXR : Hid (rsX (anewM (doneM m l)) n = xr) := HXR2.out.symm
 have hq3 : xr = 0 := by rw [HXR2.out]; exact hx
 subst hq3
 have HXE : Hid (apyX m rs l n = 0 ∧ apyM m rs l n = doneM m l ∧ apyL m rs l n = rsL [] (anewM (doneM m l)) n) := by
  have hy : apyX m rs l n = 0 := by unfold apyX; rw [if_pos hc, if_neg ha, if_pos ⟨hw, hx⟩]
  refine ⟨hy, if_pos hy, ?_⟩
  unfold apyL rsL
  rw [if_pos hc, if_neg ha, if_pos ⟨hw, hx⟩, if_pos hx]
 have HM2 : Hid (0 < (doneM m l).length ∧ anewM (doneM m l) = [batchB (wholeM (doneM m l))]) := ⟨List.length_pos_iff.2 h0, by unfold anewM; rw [if_neg h0]⟩
 clear hc ha h0 hw hx
 go_enter Tryz.func21, Tryz.ntmps21
 obtain ⟨tk0, tk1, tk2, tk3, tk4, tk5, tk6, tk7, tk8, tk9, tk10, tk11, tk12, tk13, tk14, tk15⟩ := sqk16
 obtain ⟨tk16, tk17⟩ := sqk2
 go_wp2_with (first
  | (clear tk0; with_reducible refine wpSeq_boxW 43 (.tmp 0) [.slice a1 n1 c1, .slice a2 n2 c2] ?_ ?_ ?_ ?_
     · rfl
     · rfl
     · rfl
     intro g4 x1 nn; have H4 : Hid (Blk x1 g4 [.slice a1 n1 c1, .slice a2 n2 c2] 43) := nn.blk; have HB : Hid (Below w.heap.size w x1) := nn.below; clear nn)
  | (clear tk1; with_reducible refine wpSeq_allocK ?_ ?_ ?_
     · rfl
     · rfl
     intro g8 x2 nn
     have HI : Hid (AeI R w g4 g8 (.slice a1 n1 c1) (.slice a2 n2 c2) (.slice a3 n3 c3) m rs x2) := by
      have hb := HB.out.trans (nn.below.mono HB.out.size); have hg := Nat.le_trans HB.out.size nn.ge; obtain ⟨h1, h2⟩ := HI0.out g8 x2 hg hb; exact ⟨H4.out.below nn.below H4.out.lt, nn.blk, h1, h2, hb, hg⟩
     clear nn HB H4)
  | (clear tk2; go_at_call 14; refine (oCheck_any _ l _ (HA.out.1.below HI.out.bel)).mono ?_; rintro e3 x3 ⟨rfl, bl⟩
     rw [HCK.out]; replace HI : Hid (AeI R w g4 g8 (.slice a1 n1 c1) (.slice a2 n2 c2) (.slice a3 n3 c3) m rs x3) := HI.out.below bl; clear bl)
  | (clear tk3; with_reducible refine wpSeq_loadW 43 (.tmp 4) g4 0 [.slice a1 n1 c1, .slice a2 n2 c2] _ (Blk.range HI.out.b4) Tryz.underlying43 rfl (info_keys _ _) ?_ ?_ ?_ ?_
     · rfl
     · rfl
     · rfl)
  | (clear tk4; go_at_call 49; refine (HDN.out g8 _ HI.out.g8 HI.out.b8.lt HI.out.bel).mono ?_; rintro e4 x4 ⟨q1, q2, q3, q4, q5, q6, rfl, hq4, bl⟩
     have HQ : Hid (KyS (R2 R g8 g8) x4 (.slice q1 q2 q3) (.slice q4 q5 q6) (doneM m l)) := hq4; replace HI : Hid (AeI R w g4 g8 (.slice a1 n1 c1) (.slice a2 n2 c2) (.slice a3 n3 c3) m rs x4) := HI.out.below bl; clear hq4 bl)
  | (clear tk5; with_reducible refine wpSeq_allocK ?_ ?_ ?_
     · rfl
     · rfl
     intro g12 x5 nn; have HB12 : Hid (Blk x5 g12 [.slice none 0 0, .slice none 0 0] 43 ∧ x4.heap.size ≤ g12 ∧ Below x4.heap.size x4 x5) := ⟨nn.blk, nn.ge, nn.below⟩; clear nn)
  | (clear tk6; with_reducible refine wpSeq_storeRow 43 (.tmp 12) (.tmp 31) g12 [.slice none 0 0, .slice none 0 0] [.slice q1 q2 q3, .slice q4 q5 q6] HB12.out.1 rfl (info_keys _ _) (one_keys _ _ _ _ _ _) ?_ ?_ ?_ ?_ ?_
     · rfl
     · rfl
     · rfl
     · rfl
     intro x6 sr; have bl : Below x4.heap.size x4 x6 := HB12.out.2.2.trans (sr.only.below HB12.out.2.1 HB12.out.2.2.size); have H12 : Hid (Blk x6 g12 [.slice q1 q2 q3, .slice q4 q5 q6] 43) := sr.blk; replace HQ : Hid (KyS (R2 R g8 g8) x6 (.slice q1 q2 q3) (.slice q4 q5 q6) (doneM m l)) := HQ.out.below bl; replace HI : Hid (AeI R w g4 g8 (.slice a1 n1 c1) (.slice a2 n2 c2) (.slice a3 n3 c3) m rs x6) := HI.out.below bl; clear sr bl HB12)
  | (clear tk7; go_at_call 18; refine (oBatch_any _ l _ (HA.out.1.below HI.out.bel) HA.out.2.1).mono ?_; rintro e7 x7 ⟨vb, rfl, ow7, bl⟩
     obtain ⟨b1, b2, b3, hvb⟩ := isSl_form ow7.isSl; subst hvb
     have HBT : Hid (Sta (R2 R g8 g8) x7 (fun W => Reads W (.slice b1 b2 b3) (batchB l))) := ow7.st (fun j hj => by
      have h8 := HI.out.b8.lt; have hs := HI.out.bel.size
      rcases hj with hj | hj | hj
      · have := HA.out.2.2.2.2.2 j hj; omega
      · omega
      · omega)
     replace H12 : Hid (Blk x7 g12 [.slice q1 q2 q3, .slice q4 q5 q6] 43) := H12.out.below bl H12.out.lt; replace HQ : Hid (KyS (R2 R g8 g8) x7 (.slice q1 q2 q3) (.slice q4 q5 q6) (doneM m l)) := HQ.out.below bl; replace HI : Hid (AeI R w g4 g8 (.slice a1 n1 c1) (.slice a2 n2 c2) (.slice a3 n3 c3) m rs x7) := HI.out.below bl; clear ow7 bl)
  | (clear tk8; go_at_call 50; refine (nAppend_st (R2 R g8 g8) _ _ rs (batchB l) n HA.out.2.2.2.1 HA.out.2.2.2.2.1 HA.out.2.2.1 _ (fun j hj => by
      have h8 := HI.out.b8.lt; have hs := HI.out.bel.size
      rcases hj with hj | hj | hj
      · have := HA.out.2.2.2.2.2 j hj; omega
      · omega
      · omega) HI.out.re HBT.out).mono ?_; rintro e8 x8 ⟨lv, rfl, hs8, bl⟩
     rw [HXA.out]; obtain ⟨s1, s2, s3, hlv⟩ : ∃ a n c, lv = .slice a n c := by obtain ⟨a, c, h, _⟩ := hs8; exact ⟨a, _, c, h⟩
     subst hlv; have HS8 : Hid (StaL (R2 R g8 g8) x8 (.slice s1 s2 s3) (apL rs (batchB l) n)) := hs8; replace H12 : Hid (Blk x8 g12 [.slice q1 q2 q3, .slice q4 q5 q6] 43) := H12.out.below bl H12.out.lt; replace HQ : Hid (KyS (R2 R g8 g8) x8 (.slice q1 q2 q3) (.slice q4 q5 q6) (doneM m l)) := HQ.out.below bl; replace HI : Hid (AeI R w g4 g8 (.slice a1 n1 c1) (.slice a2 n2 c2) (.slice a3 n3 c3) m rs x8) := HI.out.below bl; clear hs8 bl HBT)
  | (clear tk9; with_reducible refine wpSeq_loadW 43 (.tmp 12) g12 0 [.slice q1 q2 q3, .slice q4 q5 q6] _ (Blk.range H12.out) Tryz.underlying43 rfl (info_keys _ _) ?_ ?_ ?_ ?_
     · rfl
     · rfl
     · rfl)
  | (clear tk10; go_at_call 51; refine (oWhole_any _ _ (doneM m l) _ HQ.out.k.now HQ.out.v.now HZW.out.2.2).mono ?_; rintro e9 x9 ⟨va, rfl, hr9, bl⟩
     obtain ⟨w1, w3, hva⟩ := hr9.form; obtain ⟨w2, HW2⟩ := sqn ((wholeM (doneM m l)).length); rw [← HW2.out] at hva; subst hva; have HRA : Hid (ReadsA x9 (.slice w1 w2 w3) (wholeM (doneM m l))) := hr9; have hw2 : w2 = (doneM m l).length := by rw [HW2.out]; simp [wholeM]
     have hq5 : (0 : Int) < (w2 : Int) := by have := HM2.out.1; omega
     replace H12 : Hid (Blk x9 g12 [.slice q1 q2 q3, .slice q4 q5 q6] 43) := H12.out.below bl H12.out.lt; replace HQ : Hid (KyS (R2 R g8 g8) x9 (.slice q1 q2 q3) (.slice q4 q5 q6) (doneM m l)) := HQ.out.below bl; replace HI : Hid (AeI R w g4 g8 (.slice a1 n1 c1) (.slice a2 n2 c2) (.slice a3 n3 c3) m rs x9) := HI.out.below bl; clear hr9 bl hw2)
  | (clear tk11; go_at_call 18; refine (oBatch_any _ _ _ HRA.out HZW.out.1).mono ?_; rintro e10 x10 ⟨vw, rfl, ow10, bl⟩
     obtain ⟨o1, o2, o3, hvw⟩ := isSl_form ow10.isSl; subst hvw
     have HBW2 : Hid (Sta (R2 R g8 g8) x10 (fun W => Reads W (mkS (o1, o2, o3)) (batchB (wholeM (doneM m l))))) := ow10.st (fun j hj => by
      have h8 := HI.out.b8.lt; have hs := HI.out.bel.size
      rcases hj with hj | hj | hj
      · have := HA.out.2.2.2.2.2 j hj; omega
      · omega
      · omega)
     replace HRA : Hid (ReadsA x10 (.slice w1 w2 w3) (wholeM (doneM m l))) := HRA.out.below bl; replace H12 : Hid (Blk x10 g12 [.slice q1 q2 q3, .slice q4 q5 q6] 43) := H12.out.below bl H12.out.lt; replace HQ : Hid (KyS (R2 R g8 g8) x10 (.slice q1 q2 q3) (.slice q4 q5 q6) (doneM m l)) := HQ.out.below bl; replace HI : Hid (AeI R w g4 g8 (.slice a1 n1 c1) (.slice a2 n2 c2) (.slice a3 n3 c3) m rs x10) := HI.out.below bl; clear ow10 bl)
  | (clear tk12; with_reducible refine wpSeq_buildTT (.tmp 51) (o1, o2, o3) ?_ ?_ ?_ ?_
     · rfl
     · rfl
     · rfl
     intro g13 x11 nn; have bl := nn.below; have HB13 : Hid (Blk x11 g13 [mkS (o1, o2, o3)] 23) := nn.blk; replace HBW2 : Hid (Sta (R2 R g8 g8) x11 (fun W => Reads W (mkS (o1, o2, o3)) (batchB (wholeM (doneM m l))))) := HBW2.out.below bl
     replace HRA : Hid (ReadsA x11 (.slice w1 w2 w3) (wholeM (doneM m l))) := HRA.out.below bl; replace H12 : Hid (Blk x11 g12 [.slice q1 q2 q3, .slice q4 q5 q6] 43) := H12.out.below bl H12.out.lt; replace HQ : Hid (KyS (R2 R g8 g8) x11 (.slice q1 q2 q3) (.slice q4 q5 q6) (doneM m l)) := HQ.out.below bl; replace HI : Hid (AeI R w g4 g8 (.slice a1 n1 c1) (.slice a2 n2 c2) (.slice a3 n3 c3) m rs x11) := HI.out.below bl; clear nn bl)
  | (clear tk13; at_builtin; refine wpList_appT15 (.tmp 49) (.tmp 52) x11.heap.size (.slice none 0 0) (o1, o2, o3) [] g13 (OwnR.nil _ _ _) HB13.out (by decide) (Nat.le_refl _) ?_ ?_ ?_ ?_ ?_
     · rfl
     · rfl
     · rfl
     · rfl
     intro v12 x12 hr12 hg12 bl; obtain ⟨r1, r3, hv12⟩ := hr12.form; obtain ⟨r2, hw12⟩ : ∃ n, v12 = .slice r1 n r3 := ⟨_, hv12⟩; clear hv12; subst hw12
     have HAN : Hid (StaL (R2 R g8 g8) x12 (.slice r1 r2 r3) (anewM (doneM m l))) := by
      rw [HM2.out.2]
      exact staL_row (fun j hj => by
       have h8 := HI.out.b8.lt; have hs := HI.out.bel.size
       rcases hj with hj | hj | hj
       · have := HA.out.2.2.2.2.2 j hj; omega
       · omega
       · omega) hr12 (HBW2.out.below bl)
     replace HRA : Hid (ReadsA x12 (.slice w1 w2 w3) (wholeM (doneM m l))) := HRA.out.below bl; replace H12 : Hid (Blk x12 g12 [.slice q1 q2 q3, .slice q4 q5 q6] 43) := H12.out.below bl H12.out.lt; replace HQ : Hid (KyS (R2 R g8 g8) x12 (.slice q1 q2 q3) (.slice q4 q5 q6) (doneM m l)) := HQ.out.below bl; replace HI : Hid (AeI R w g4 g8 (.slice a1 n1 c1) (.slice a2 n2 c2) (.slice a3 n3 c3) m rs x12) := HI.out.below bl; clear hr12 hg12 bl HBW2 HB13)
  | (clear tk14; go_at_call 14; refine (oCheck_any _ _ _ HRA.out).mono ?_; rintro e13 x13 ⟨rfl, bl⟩
     rw [HCW.out]; replace HAN : Hid (StaL (R2 R g8 g8) x13 (.slice r1 r2 r3) (anewM (doneM m l))) := HAN.out.below bl; replace H12 : Hid (Blk x13 g12 [.slice q1 q2 q3, .slice q4 q5 q6] 43) := H12.out.below bl H12.out.lt; replace HQ : Hid (KyS (R2 R g8 g8) x13 (.slice q1 q2 q3) (.slice q4 q5 q6) (doneM m l)) := HQ.out.below bl; replace HI : Hid (AeI R w g4 g8 (.slice a1 n1 c1) (.slice a2 n2 c2) (.slice a3 n3 c3) m rs x13) := HI.out.below bl; clear bl)
  | (clear tk15; go_at_call 52; refine (nRestart_st (R2 R g8 g8) (.slice none 0 0) (.slice r1 r2 r3) [] (anewM (doneM m l)) n (by unfold anewM; split <;> simp) (fun _ => by rw [HM2.out.2]; have h1 := HZW.out.2.1; simp [sizeL, secR]; omega) HA.out.2.2.1 _ (StaL.nil _ _) HAN.out).mono ?_; rintro e14 x14 ⟨lv2, rfl, hs14, hz14⟩
     subst hz14; rw [HXR.out]; obtain ⟨t1, t2, t3, hlv2⟩ : ∃ a n c, lv2 = .slice a n c := by obtain ⟨a, c, h, _⟩ := hs14; exact ⟨a, _, c, h⟩
     subst hlv2; have HS14 : Hid (StaL (R2 R g8 g8) x14 (.slice t1 t2 t3) (rsL [] (anewM (doneM m l)) n)) := hs14; clear hs14)
  | (clear tk16; with_reducible refine wpSeq_loadW 43 (.tmp 12) g12 0 [.slice q1 q2 q3, .slice q4 q5 q6] _ (Blk.range H12.out) Tryz.underlying43 rfl (info_keys _ _) ?_ ?_ ?_ ?_
     · rfl
     · rfl
     · rfl)
  | (clear tk17; with_reducible refine wpSeq_storeRow 43 (.tmp 8) (.tmp 69) g8 [.slice none 0 0, .slice none 0 0] [.slice q1 q2 q3, .slice q4 q5 q6] HI.out.b8 rfl (info_keys _ _) (one_keys _ _ _ _ _ _) ?_ ?_ ?_ ?_ ?_
     · rfl
     · rfl
     · rfl
     · rfl
     intro y9 sr; have HF : Hid (Blk y9 g8 [.slice q1 q2 q3, .slice q4 q5 q6] 43 ∧ Only g8 x14 y9) := ⟨sr.blk, sr.only⟩; clear sr))
 have hb9 : Below w.heap.size w y9 := HI.out.bel.trans (HF.out.2.below HI.out.g8 HI.out.bel.size)
 obtain ⟨k9, r9⟩ := ae_ret HQ.out HS14.out HF.out.2
 refine bodyPost_ret (results_row_tmp2 rfl _ _ g8 _ rfl (var_keys HF.out.1)) rfl ?_
 refine ⟨_, _, (.slice t1 t2 t3), by rw [HXE.out.1]; rfl, by rw [HXE.out.2.1]; exact k9, by rw [HXE.out.2.2]; exact r9, hb9⟩
theorem oApply_full (R : Nat → Prop) (vK vV vr v : Value) (m : KM) (rs : List Bs) (ps : List (ActT × Value)) (n : Nat) (w : World) (hR : ∀ k, R k → k < w.heap.size) (hm : KyS R w vK vV m) (hup : Rise m) (hrs : StaL R w vr rs) (hr : RdP w v ps) (hra : ReadsA w v (ps.map (·.1))) (hd : ∀ p ∈ ps, Sta R w (fun W => Reads W p.2 p.1.data)) (hl : m.length + ps.length < 100000) (hz : okZ (ps.map (·.1))) (hn : n < 1000000) (hrl : rs.length < 1000000) (hsz : sizeL (rs ++ [batchB (ps.map (·.1))]) < 1000000000) (hzw : okZ (wholeM (doneM m (ps.map (·.1)))) ∧ (batchB (wholeM (doneM m (ps.map (·.1))))).length < 1000000) (hc : chkL (ps.map (·.1)) = 0 ∧ ps.map (·.1) ≠ []) (ha : apX rs (batchB (ps.map (·.1))) n ≠ 0) (h0 : doneM m (ps.map (·.1)) ≠ []) (hw : chkL (wholeM (doneM m (ps.map (·.1)))) = 0) (hx : rsX (anewM (doneM m (ps.map (·.1)))) n ≠ 0) : Calls Tryz.prog 21 #[.agg [vK, vV].toArray, vr, v, .int .i64 (n : Int)] w fun e w' => AeR R w m rs (ps.map (·.1)) n e w' := by
 obtain ⟨l, HL⟩ := sqn (ps.map (·.1))
 rw [← HL.out] at hra hz hsz hzw hc ha h0 hw hx ⊢
 obtain ⟨N, HN⟩ := sqn (ps.length)
 obtain ⟨ad, cp, hv⟩ := hr.form
 rw [← HN.out] at hv
 subst hv
 obtain ⟨a1, n1, c1, e1⟩ : ∃ a n c, vK = .slice a n c := by obtain ⟨a, c, h, _⟩ := hm.k; exact ⟨a, _, c, h⟩
 obtain ⟨a2, n2, c2, e2⟩ : ∃ a n c, vV = .slice a n c := by obtain ⟨a, c, h, _⟩ := hm.v; exact ⟨a, _, c, h⟩
 obtain ⟨a3, n3, c3, e3⟩ : ∃ a n c, vr = .slice a n c := by obtain ⟨a, c, h, _⟩ := hrs; exact ⟨a, _, c, h⟩
 subst e1
 subst e2
 subst e3
 have HLL : Hid (l.length = N) := by show _ = _; rw [HL.out, List.length_map, HN.out]
 have HA : Hid (ReadsA w (.slice ad N cp) l ∧ okZ l ∧ n < 1000000 ∧ rs.length < 1000000 ∧ sizeL (rs ++ [batchB l]) < 1000000000 ∧ ∀ k, R k → k < w.heap.size) := ⟨hra, hz, hn, hrl, hsz, hR⟩
 have HZW : Hid (okZ (wholeM (doneM m l)) ∧ (batchB (wholeM (doneM m l))).length < 1000000 ∧ (doneM m l).length < 1000000) := ⟨hzw.1, hzw.2, by have h1 := len_doneM l hup; rw [HLL.out] at h1; have := HN.out; omega⟩
 have HI0 : Hid (∀ g8 W, w.heap.size ≤ g8 → Below w.heap.size w W → KyS (R2 R g8 g8) W (.slice a1 n1 c1) (.slice a2 n2 c2) m ∧ StaL (R2 R g8 g8) W (.slice a3 n3 c3) rs) := fun g8 W hg hb => ⟨hm.go (mut_below hb R) (fun k hk h => h.elim id (fun e => absurd hk (by omega))), hrs.go (mut_below hb R) (fun k hk h => h.elim id (fun e => absurd hk (by omega)))⟩
 have HDN : Hid (∀ g8 W, w.heap.size ≤ g8 → g8 < W.heap.size → Below w.heap.size w W → Calls Tryz.prog 49 #[.agg [.slice a1 n1 c1, .slice a2 n2 c2].toArray, .slice ad N cp] W fun e w' => ∃ q1 q2 q3 q4 q5 q6, e = .returned (.agg [.slice q1 q2 q3, .slice q4 q5 q6].toArray) ∧ KyS (R2 R g8 g8) w' (.slice q1 q2 q3) (.slice q4 q5 q6) (doneM m l) ∧ Below W.heap.size W w') := fun g8 W hg hlt hb => by
  refine (oDone_any (R2 R g8 g8) _ _ _ m ps W (fun k hk => by
   rcases hk with hk | hk | hk
   · exact Nat.lt_of_lt_of_le (hR k hk) hb.size
   · rw [hk]; exact hlt
   · rw [hk]; exact hlt) (HI0.out g8 W hg hb).1 hup (hr.below hb) (fun p hp => sta_wide (hd p hp) hb hg hg) hl).mono (fun e w' hx => ?_)
  obtain ⟨uK, uV, h1, h2, h3⟩ := hx
  rw [← HL.out] at h2
  obtain ⟨q1, q3, f1⟩ : ∃ a c, uK = .slice a ((doneM m l).map (·.1)).length c := by obtain ⟨a, c, h, _⟩ := h2.k; exact ⟨a, c, h⟩
  obtain ⟨q4, q6, f2⟩ : ∃ a c, uV = .slice a ((doneM m l).map (·.2)).length c := by obtain ⟨a, c, h, _⟩ := h2.v; exact ⟨a, c, h⟩
  subst f1
  subst f2
  exact ⟨q1, _, q3, q4, _, q6, h1, h2, h3⟩
 clear hR hm hup hrs hr hra hd hl hz hn hrl hsz hzw
 have HCK : Hid (chkL l = 0) := hc.1
 have fz : ¬ ((N : Int) = 0) := by
  have h1 : 0 < l.length := List.length_pos_iff.2 hc.2
  have h2 := HLL.out
  omega
 obtain ⟨xa, HXA2⟩ := sqn (apX rs (batchB l) n)
 have HXA : Hid (apX rs (batchB l) n = xa) := HXA2.out.symm
 have hq1 : ¬ xa = 0 := by rw [HXA2.out]; exact ha
 have hq2 : (xa == 0) = false := by simpa using hq1
 have HCW : Hid (chkL (wholeM (doneM m l)) = 0) := hw
 obtain ⟨xr, HXR2⟩ := sqn (rsX (anewM (doneM m l)) n)
 have HXR : Hid (rsX (anewM (doneM m l)) n = xr) := HXR2.out.symm
 have hq3 : ¬ xr = 0 := by rw [HXR2.out]; exact hx
 have hq4 : (xr != 0) = true := by rw [bne_iff_ne]; exact hq3
 have HXE : Hid (apyX m rs l n = 13 ∧ apyM m rs l n = m ∧ apyL m rs l n = rs) := by
  have hy : apyX m rs l n = 13 := by unfold apyX; rw [if_pos hc, if_neg ha, if_neg (fun h => hx h.2)]
  refine ⟨hy, by unfold apyM; rw [hy, if_neg (by decide)], ?_⟩
  unfold apyL
  rw [if_pos hc, if_neg ha, if_neg (fun h => hx h.2)]
 have HM2 : Hid (0 < (doneM m l).length ∧ anewM (doneM m l) = [batchB (wholeM (doneM m l))]) := ⟨List.length_pos_iff.2 h0, by unfold anewM; rw [if_neg h0]⟩
 clear hc ha h0 hw hx
 go_enter Tryz.func21, Tryz.ntmps21
 obtain ⟨tk0, tk1, tk2, tk3, tk4, tk5, tk6, tk7, tk8, tk9, tk10, tk11, tk12, tk13, tk14, tk15⟩ := sqk16
 obtain ⟨tk16, tk17⟩ := sqk2
 go_wp2_with (first
  | (clear tk0; with_reducible refine wpSeq_boxW 43 (.tmp 0) [.slice a1 n1 c1, .slice a2 n2 c2] ?_ ?_ ?_ ?_
     · rfl
     · rfl
     · rfl
     intro g4 x1 nn; have H4 : Hid (Blk x1 g4 [.slice a1 n1 c1, .slice a2 n2 c2] 43) := nn.blk; have HB : Hid (Below w.heap.size w x1) := nn.below; clear nn)
  | (clear tk1; with_reducible refine wpSeq_allocK ?_ ?_ ?_
     · rfl
     · rfl
     intro g8 x2 nn
     have HI : Hid (AeI R w g4 g8 (.slice a1 n1 c1) (.slice a2 n2 c2) (.slice a3 n3 c3) m rs x2) := by
      have hb := HB.out.trans (nn.below.mono HB.out.size); have hg := Nat.le_trans HB.out.size nn.ge; obtain ⟨h1, h2⟩ := HI0.out g8 x2 hg hb; exact ⟨H4.out.below nn.below H4.out.lt, nn.blk, h1, h2, hb, hg⟩
     clear nn HB H4)
  | (clear tk2; go_at_call 14; refine (oCheck_any _ l _ (HA.out.1.below HI.out.bel)).mono ?_; rintro e3 x3 ⟨rfl, bl⟩
     rw [HCK.out]; replace HI : Hid (AeI R w g4 g8 (.slice a1 n1 c1) (.slice a2 n2 c2) (.slice a3 n3 c3) m rs x3) := HI.out.below bl; clear bl)
  | (clear tk3; with_reducible refine wpSeq_loadW 43 (.tmp 4) g4 0 [.slice a1 n1 c1, .slice a2 n2 c2] _ (Blk.range HI.out.b4) Tryz.underlying43 rfl (info_keys _ _) ?_ ?_ ?_ ?_
     · rfl
     · rfl
     · rfl)
  | (clear tk4; go_at_call 49; refine (HDN.out g8 _ HI.out.g8 HI.out.b8.lt HI.out.bel).mono ?_; rintro e4 x4 ⟨q1, q2, q3, q4, q5, q6, rfl, hq4, bl⟩
     have HQ : Hid (KyS (R2 R g8 g8) x4 (.slice q1 q2 q3) (.slice q4 q5 q6) (doneM m l)) := hq4; replace HI : Hid (AeI R w g4 g8 (.slice a1 n1 c1) (.slice a2 n2 c2) (.slice a3 n3 c3) m rs x4) := HI.out.below bl; clear hq4 bl)
  | (clear tk5; with_reducible refine wpSeq_allocK ?_ ?_ ?_
     · rfl
     · rfl
     intro g12 x5 nn; have HB12 : Hid (Blk x5 g12 [.slice none 0 0, .slice none 0 0] 43 ∧ x4.heap.size ≤ g12 ∧ Below x4.heap.size x4 x5) := ⟨nn.blk, nn.ge, nn.below⟩; clear nn)
  | (clear tk6; with_reducible refine wpSeq_storeRow 43 (.tmp 12) (.tmp 31) g12 [.slice none 0 0, .slice none 0 0] [.slice q1 q2 q3, .slice q4 q5 q6] HB12.out.1 rfl (info_keys _ _) (one_keys _ _ _ _ _ _) ?_ ?_ ?_ ?_ ?_
     · rfl
     · rfl
     · rfl
     · rfl
     intro x6 sr; have bl : Below x4.heap.size x4 x6 := HB12.out.2.2.trans (sr.only.below HB12.out.2.1 HB12.out.2.2.size); have H12 : Hid (Blk x6 g12 [.slice q1 q2 q3, .slice q4 q5 q6] 43) := sr.blk; replace HQ : Hid (KyS (R2 R g8 g8) x6 (.slice q1 q2 q3) (.slice q4 q5 q6) (doneM m l)) := HQ.out.below bl; replace HI : Hid (AeI R w g4 g8 (.slice a1 n1 c1) (.slice a2 n2 c2) (.slice a3 n3 c3) m rs x6) := HI.out.below bl; clear sr bl HB12)
  | (clear tk7; go_at_call 18; refine (oBatch_any _ l _ (HA.out.1.below HI.out.bel) HA.out.2.1).mono ?_; rintro e7 x7 ⟨vb, rfl, ow7, bl⟩
     obtain ⟨b1, b2, b3, hvb⟩ := isSl_form ow7.isSl; subst hvb
     have HBT : Hid (Sta (R2 R g8 g8) x7 (fun W => Reads W (.slice b1 b2 b3) (batchB l))) := ow7.st (fun j hj => by
      have h8 := HI.out.b8.lt; have hs := HI.out.bel.size
      rcases hj with hj | hj | hj
      · have := HA.out.2.2.2.2.2 j hj; omega
      · omega
      · omega)
     replace H12 : Hid (Blk x7 g12 [.slice q1 q2 q3, .slice q4 q5 q6] 43) := H12.out.below bl H12.out.lt; replace HQ : Hid (KyS (R2 R g8 g8) x7 (.slice q1 q2 q3) (.slice q4 q5 q6) (doneM m l)) := HQ.out.below bl; replace HI : Hid (AeI R w g4 g8 (.slice a1 n1 c1) (.slice a2 n2 c2) (.slice a3 n3 c3) m rs x7) := HI.out.below bl; clear ow7 bl)
  | (clear tk8; go_at_call 50; refine (nAppend_st (R2 R g8 g8) _ _ rs (batchB l) n HA.out.2.2.2.1 HA.out.2.2.2.2.1 HA.out.2.2.1 _ (fun j hj => by
      have h8 := HI.out.b8.lt; have hs := HI.out.bel.size
      rcases hj with hj | hj | hj
      · have := HA.out.2.2.2.2.2 j hj; omega
      · omega
      · omega) HI.out.re HBT.out).mono ?_; rintro e8 x8 ⟨lv, rfl, hs8, bl⟩
     rw [HXA.out]; obtain ⟨s1, s2, s3, hlv⟩ : ∃ a n c, lv = .slice a n c := by obtain ⟨a, c, h, _⟩ := hs8; exact ⟨a, _, c, h⟩
     subst hlv; have HS8 : Hid (StaL (R2 R g8 g8) x8 (.slice s1 s2 s3) (apL rs (batchB l) n)) := hs8; replace H12 : Hid (Blk x8 g12 [.slice q1 q2 q3, .slice q4 q5 q6] 43) := H12.out.below bl H12.out.lt; replace HQ : Hid (KyS (R2 R g8 g8) x8 (.slice q1 q2 q3) (.slice q4 q5 q6) (doneM m l)) := HQ.out.below bl; replace HI : Hid (AeI R w g4 g8 (.slice a1 n1 c1) (.slice a2 n2 c2) (.slice a3 n3 c3) m rs x8) := HI.out.below bl; clear hs8 bl HBT)
  | (clear tk9; with_reducible refine wpSeq_loadW 43 (.tmp 12) g12 0 [.slice q1 q2 q3, .slice q4 q5 q6] _ (Blk.range H12.out) Tryz.underlying43 rfl (info_keys _ _) ?_ ?_ ?_ ?_
     · rfl
     · rfl
     · rfl)
  | (clear tk10; go_at_call 51; refine (oWhole_any _ _ (doneM m l) _ HQ.out.k.now HQ.out.v.now HZW.out.2.2).mono ?_; rintro e9 x9 ⟨va, rfl, hr9, bl⟩
     obtain ⟨w1, w3, hva⟩ := hr9.form; obtain ⟨w2, HW2⟩ := sqn ((wholeM (doneM m l)).length); rw [← HW2.out] at hva; subst hva; have HRA : Hid (ReadsA x9 (.slice w1 w2 w3) (wholeM (doneM m l))) := hr9; have hw2 : w2 = (doneM m l).length := by rw [HW2.out]; simp [wholeM]
     have hq5 : (0 : Int) < (w2 : Int) := by have := HM2.out.1; omega
     replace H12 : Hid (Blk x9 g12 [.slice q1 q2 q3, .slice q4 q5 q6] 43) := H12.out.below bl H12.out.lt; replace HQ : Hid (KyS (R2 R g8 g8) x9 (.slice q1 q2 q3) (.slice q4 q5 q6) (doneM m l)) := HQ.out.below bl; replace HI : Hid (AeI R w g4 g8 (.slice a1 n1 c1) (.slice a2 n2 c2) (.slice a3 n3 c3) m rs x9) := HI.out.below bl; clear hr9 bl hw2)
  | (clear tk11; go_at_call 18; refine (oBatch_any _ _ _ HRA.out HZW.out.1).mono ?_; rintro e10 x10 ⟨vw, rfl, ow10, bl⟩
     obtain ⟨o1, o2, o3, hvw⟩ := isSl_form ow10.isSl; subst hvw
     have HBW2 : Hid (Sta (R2 R g8 g8) x10 (fun W => Reads W (mkS (o1, o2, o3)) (batchB (wholeM (doneM m l))))) := ow10.st (fun j hj => by
      have h8 := HI.out.b8.lt; have hs := HI.out.bel.size
      rcases hj with hj | hj | hj
      · have := HA.out.2.2.2.2.2 j hj; omega
      · omega
      · omega)
     replace HRA : Hid (ReadsA x10 (.slice w1 w2 w3) (wholeM (doneM m l))) := HRA.out.below bl; replace H12 : Hid (Blk x10 g12 [.slice q1 q2 q3, .slice q4 q5 q6] 43) := H12.out.below bl H12.out.lt; replace HQ : Hid (KyS (R2 R g8 g8) x10 (.slice q1 q2 q3) (.slice q4 q5 q6) (doneM m l)) := HQ.out.below bl; replace HI : Hid (AeI R w g4 g8 (.slice a1 n1 c1) (.slice a2 n2 c2) (.slice a3 n3 c3) m rs x10) := HI.out.below bl; clear ow10 bl)
  | (clear tk12; with_reducible refine wpSeq_buildTT (.tmp 51) (o1, o2, o3) ?_ ?_ ?_ ?_
     · rfl
     · rfl
     · rfl
     intro g13 x11 nn; have bl := nn.below; have HB13 : Hid (Blk x11 g13 [mkS (o1, o2, o3)] 23) := nn.blk; replace HBW2 : Hid (Sta (R2 R g8 g8) x11 (fun W => Reads W (mkS (o1, o2, o3)) (batchB (wholeM (doneM m l))))) := HBW2.out.below bl
     replace HRA : Hid (ReadsA x11 (.slice w1 w2 w3) (wholeM (doneM m l))) := HRA.out.below bl; replace H12 : Hid (Blk x11 g12 [.slice q1 q2 q3, .slice q4 q5 q6] 43) := H12.out.below bl H12.out.lt; replace HQ : Hid (KyS (R2 R g8 g8) x11 (.slice q1 q2 q3) (.slice q4 q5 q6) (doneM m l)) := HQ.out.below bl; replace HI : Hid (AeI R w g4 g8 (.slice a1 n1 c1) (.slice a2 n2 c2) (.slice a3 n3 c3) m rs x11) := HI.out.below bl; clear nn bl)
  | (clear tk13; at_builtin; refine wpList_appT15 (.tmp 49) (.tmp 52) x11.heap.size (.slice none 0 0) (o1, o2, o3) [] g13 (OwnR.nil _ _ _) HB13.out (by decide) (Nat.le_refl _) ?_ ?_ ?_ ?_ ?_
     · rfl
     · rfl
     · rfl
     · rfl
     intro v12 x12 hr12 hg12 bl; obtain ⟨r1, r3, hv12⟩ := hr12.form; obtain ⟨r2, hw12⟩ : ∃ n, v12 = .slice r1 n r3 := ⟨_, hv12⟩; clear hv12; subst hw12
     have HAN : Hid (StaL (R2 R g8 g8) x12 (.slice r1 r2 r3) (anewM (doneM m l))) := by
      rw [HM2.out.2]
      exact staL_row (fun j hj => by
       have h8 := HI.out.b8.lt; have hs := HI.out.bel.size
       rcases hj with hj | hj | hj
       · have := HA.out.2.2.2.2.2 j hj; omega
       · omega
       · omega) hr12 (HBW2.out.below bl)
     replace HRA : Hid (ReadsA x12 (.slice w1 w2 w3) (wholeM (doneM m l))) := HRA.out.below bl; replace H12 : Hid (Blk x12 g12 [.slice q1 q2 q3, .slice q4 q5 q6] 43) := H12.out.below bl H12.out.lt; replace HQ : Hid (KyS (R2 R g8 g8) x12 (.slice q1 q2 q3) (.slice q4 q5 q6) (doneM m l)) := HQ.out.below bl; replace HI : Hid (AeI R w g4 g8 (.slice a1 n1 c1) (.slice a2 n2 c2) (.slice a3 n3 c3) m rs x12) := HI.out.below bl; clear hr12 hg12 bl HBW2 HB13)
  | (clear tk14; go_at_call 14; refine (oCheck_any _ _ _ HRA.out).mono ?_; rintro e13 x13 ⟨rfl, bl⟩
     rw [HCW.out]; replace HAN : Hid (StaL (R2 R g8 g8) x13 (.slice r1 r2 r3) (anewM (doneM m l))) := HAN.out.below bl; replace H12 : Hid (Blk x13 g12 [.slice q1 q2 q3, .slice q4 q5 q6] 43) := H12.out.below bl H12.out.lt; replace HQ : Hid (KyS (R2 R g8 g8) x13 (.slice q1 q2 q3) (.slice q4 q5 q6) (doneM m l)) := HQ.out.below bl; replace HI : Hid (AeI R w g4 g8 (.slice a1 n1 c1) (.slice a2 n2 c2) (.slice a3 n3 c3) m rs x13) := HI.out.below bl; clear bl)
  | (clear tk15; go_at_call 52; refine (nRestart_st (R2 R g8 g8) (.slice none 0 0) (.slice r1 r2 r3) [] (anewM (doneM m l)) n (by unfold anewM; split <;> simp) (fun _ => by rw [HM2.out.2]; have h1 := HZW.out.2.1; simp [sizeL, secR]; omega) HA.out.2.2.1 _ (StaL.nil _ _) HAN.out).mono ?_; rintro e14 x14 ⟨lv2, rfl, hs14, hz14⟩
     subst hz14; rw [HXR.out]; obtain ⟨t1, t2, t3, hlv2⟩ : ∃ a n c, lv2 = .slice a n c := by obtain ⟨a, c, h, _⟩ := hs14; exact ⟨a, _, c, h⟩
     subst hlv2; have HS14 : Hid (StaL (R2 R g8 g8) x14 (.slice t1 t2 t3) (rsL [] (anewM (doneM m l)) n)) := hs14; clear hs14)
  | (clear tk16; with_reducible refine wpSeq_loadW 43 (.tmp 4) g4 0 [.slice a1 n1 c1, .slice a2 n2 c2] _ (Blk.range HI.out.b4) Tryz.underlying43 rfl (info_keys _ _) ?_ ?_ ?_ ?_
     · rfl
     · rfl
     · rfl)
  | (clear tk17; with_reducible refine wpSeq_storeRow 43 (.tmp 8) (.tmp 67) g8 [.slice none 0 0, .slice none 0 0] [.slice a1 n1 c1, .slice a2 n2 c2] HI.out.b8 rfl (info_keys _ _) (one_keys _ _ _ _ _ _) ?_ ?_ ?_ ?_ ?_
     · rfl
     · rfl
     · rfl
     · rfl
     intro y9 sr; have HF : Hid (Blk y9 g8 [.slice a1 n1 c1, .slice a2 n2 c2] 43 ∧ Only g8 x14 y9) := ⟨sr.blk, sr.only⟩; clear sr))
 have hb9 : Below w.heap.size w y9 := HI.out.bel.trans (HF.out.2.below HI.out.g8 HI.out.bel.size)
 obtain ⟨k9, r9⟩ := ae_ret HI.out.ky HI.out.re HF.out.2
 refine bodyPost_ret (results_row_tmp2 rfl _ _ g8 _ rfl (var_keys HF.out.1)) rfl ?_
 refine ⟨_, _, (.slice a3 n3 c3), by rw [HXE.out.1]; rfl, by rw [HXE.out.2.1]; exact k9, by rw [HXE.out.2.2]; exact r9, hb9⟩
theorem oApply_none (R : Nat → Prop) (vK vV vr v : Value) (m : KM) (rs : List Bs) (ps : List (ActT × Value)) (n : Nat) (w : World) (hR : ∀ k, R k → k < w.heap.size) (hm : KyS R w vK vV m) (hup : Rise m) (hrs : StaL R w vr rs) (hr : RdP w v ps) (hra : ReadsA w v (ps.map (·.1))) (hd : ∀ p ∈ ps, Sta R w (fun W => Reads W p.2 p.1.data)) (hl : m.length + ps.length < 100000) (hz : okZ (ps.map (·.1))) (hn : n < 1000000) (hrl : rs.length < 1000000) (hsz : sizeL (rs ++ [batchB (ps.map (·.1))]) < 1000000000) (hzw : okZ (wholeM (doneM m (ps.map (·.1)))) ∧ (batchB (wholeM (doneM m (ps.map (·.1))))).length < 1000000) (hc : chkL (ps.map (·.1)) = 0 ∧ ps.map (·.1) ≠ []) (ha : apX rs (batchB (ps.map (·.1))) n ≠ 0) (h0 : doneM m (ps.map (·.1)) = []) (hx : rsX (anewM (doneM m (ps.map (·.1)))) n = 0) : Calls Tryz.prog 21 #[.agg [vK, vV].toArray, vr, v, .int .i64 (n : Int)] w fun e w' => AeR R w m rs (ps.map (·.1)) n e w' := by
 obtain ⟨l, HL⟩ := sqn (ps.map (·.1))
 rw [← HL.out] at hra hz hsz hzw hc ha h0 hx ⊢
 obtain ⟨N, HN⟩ := sqn (ps.length)
 obtain ⟨ad, cp, hv⟩ := hr.form
 rw [← HN.out] at hv
 subst hv
 obtain ⟨a1, n1, c1, e1⟩ : ∃ a n c, vK = .slice a n c := by obtain ⟨a, c, h, _⟩ := hm.k; exact ⟨a, _, c, h⟩
 obtain ⟨a2, n2, c2, e2⟩ : ∃ a n c, vV = .slice a n c := by obtain ⟨a, c, h, _⟩ := hm.v; exact ⟨a, _, c, h⟩
 obtain ⟨a3, n3, c3, e3⟩ : ∃ a n c, vr = .slice a n c := by obtain ⟨a, c, h, _⟩ := hrs; exact ⟨a, _, c, h⟩
 subst e1
 subst e2
 subst e3
 have HLL : Hid (l.length = N) := by show _ = _; rw [HL.out, List.length_map, HN.out]
 have HA : Hid (ReadsA w (.slice ad N cp) l ∧ okZ l ∧ n < 1000000 ∧ rs.length < 1000000 ∧ sizeL (rs ++ [batchB l]) < 1000000000 ∧ ∀ k, R k → k < w.heap.size) := ⟨hra, hz, hn, hrl, hsz, hR⟩
 have HZW : Hid (okZ (wholeM (doneM m l)) ∧ (batchB (wholeM (doneM m l))).length < 1000000 ∧ (doneM m l).length < 1000000) := ⟨hzw.1, hzw.2, by have h1 := len_doneM l hup; rw [HLL.out] at h1; have := HN.out; omega⟩
 have HI0 : Hid (∀ g8 W, w.heap.size ≤ g8 → Below w.heap.size w W → KyS (R2 R g8 g8) W (.slice a1 n1 c1) (.slice a2 n2 c2) m ∧ StaL (R2 R g8 g8) W (.slice a3 n3 c3) rs) := fun g8 W hg hb => ⟨hm.go (mut_below hb R) (fun k hk h => h.elim id (fun e => absurd hk (by omega))), hrs.go (mut_below hb R) (fun k hk h => h.elim id (fun e => absurd hk (by omega)))⟩
 have HDN : Hid (∀ g8 W, w.heap.size ≤ g8 → g8 < W.heap.size → Below w.heap.size w W → Calls Tryz.prog 49 #[.agg [.slice a1 n1 c1, .slice a2 n2 c2].toArray, .slice ad N cp] W fun e w' => ∃ q1 q2 q3 q4 q5 q6, e = .returned (.agg [.slice q1 q2 q3, .slice q4 q5 q6].toArray) ∧ KyS (R2 R g8 g8) w' (.slice q1 q2 q3) (.slice q4 q5 q6) (doneM m l) ∧ Below W.heap.size W w') := fun g8 W hg hlt hb => by
  refine (oDone_any (R2 R g8 g8) _ _ _ m ps W (fun k hk => by
   rcases hk with hk | hk | hk
   · exact Nat.lt_of_lt_of_le (hR k hk) hb.size
   · rw [hk]; exact hlt
   · rw [hk]; exact hlt) (HI0.out g8 W hg hb).1 hup (hr.below hb) (fun p hp => sta_wide (hd p hp) hb hg hg) hl).mono (fun e w' hx => ?_)
  obtain ⟨uK, uV, h1, h2, h3⟩ := hx
  rw [← HL.out] at h2
  obtain ⟨q1, q3, f1⟩ : ∃ a c, uK = .slice a ((doneM m l).map (·.1)).length c := by obtain ⟨a, c, h, _⟩ := h2.k; exact ⟨a, c, h⟩
  obtain ⟨q4, q6, f2⟩ : ∃ a c, uV = .slice a ((doneM m l).map (·.2)).length c := by obtain ⟨a, c, h, _⟩ := h2.v; exact ⟨a, c, h⟩
  subst f1
  subst f2
  exact ⟨q1, _, q3, q4, _, q6, h1, h2, h3⟩
 clear hR hm hup hrs hr hra hd hl hz hn hrl hsz hzw
 have HCK : Hid (chkL l = 0) := hc.1
 have fz : ¬ ((N : Int) = 0) := by
  have h1 : 0 < l.length := List.length_pos_iff.2 hc.2
  have h2 := HLL.out
  omega
 obtain ⟨xa, HXA2⟩ := sqn (apX rs (batchB l) n)
 have HXA : Hid (apX rs (batchB l) n = xa) := HXA2.out.symm
 have hq1 : ¬ xa = 0 := by rw [HXA2.out]; exact ha
 have hq2 : (xa == 0) = false := by simpa using hq1
 have hw : chkL (wholeM (doneM m l)) = 0 := by rw [h0]; rfl
 have HCW : Hid (chkL (wholeM (doneM m l)) = 0) := hw
 obtain ⟨xr, HXR2⟩ := sqn (rsX (anewM (doneM m l)) n)
 have HXR : Hid (rsX (anewM (doneM m l)) n = xr) := HXR2.out.symm
 have hq3 : xr = 0 := by rw [HXR2.out]; exact hx
 subst hq3
 have HXE : Hid (apyX m rs l n = 0 ∧ apyM m rs l n = doneM m l ∧ apyL m rs l n = rsL [] (anewM (doneM m l)) n) := by
  have hy : apyX m rs l n = 0 := by unfold apyX; rw [if_pos hc, if_neg ha, if_pos ⟨hw, hx⟩]
  refine ⟨hy, if_pos hy, ?_⟩
  unfold apyL rsL
  rw [if_pos hc, if_neg ha, if_pos ⟨hw, hx⟩, if_pos hx]
 have HM2 : Hid ((doneM m l).length = 0 ∧ anewM (doneM m l) = []) := ⟨by rw [h0]; rfl, by unfold anewM; rw [if_pos h0]⟩
 clear hc ha h0 hx hw
 go_enter Tryz.func21, Tryz.ntmps21
 obtain ⟨tk0, tk1, tk2, tk3, tk4, tk5, tk6, tk7, tk8, tk9, tk10, tk11, tk12, tk13, tk14⟩ := sqk15
 go_wp2_with (first
  | (clear tk0; with_reducible refine wpSeq_boxW 43 (.tmp 0) [.slice a1 n1 c1, .slice a2 n2 c2] ?_ ?_ ?_ ?_
     · rfl
     · rfl
     · rfl
     intro g4 x1 nn; have H4 : Hid (Blk x1 g4 [.slice a1 n1 c1, .slice a2 n2 c2] 43) := nn.blk; have HB : Hid (Below w.heap.size w x1) := nn.below; clear nn)
  | (clear tk1; with_reducible refine wpSeq_allocK ?_ ?_ ?_
     · rfl
     · rfl
     intro g8 x2 nn
     have HI : Hid (AeI R w g4 g8 (.slice a1 n1 c1) (.slice a2 n2 c2) (.slice a3 n3 c3) m rs x2) := by
      have hb := HB.out.trans (nn.below.mono HB.out.size); have hg := Nat.le_trans HB.out.size nn.ge; obtain ⟨h1, h2⟩ := HI0.out g8 x2 hg hb; exact ⟨H4.out.below nn.below H4.out.lt, nn.blk, h1, h2, hb, hg⟩
     clear nn HB H4)
  | (clear tk2; go_at_call 14; refine (oCheck_any _ l _ (HA.out.1.below HI.out.bel)).mono ?_; rintro e3 x3 ⟨rfl, bl⟩
     rw [HCK.out]; replace HI : Hid (AeI R w g4 g8 (.slice a1 n1 c1) (.slice a2 n2 c2) (.slice a3 n3 c3) m rs x3) := HI.out.below bl; clear bl)
  | (clear tk3; with_reducible refine wpSeq_loadW 43 (.tmp 4) g4 0 [.slice a1 n1 c1, .slice a2 n2 c2] _ (Blk.range HI.out.b4) Tryz.underlying43 rfl (info_keys _ _) ?_ ?_ ?_ ?_
     · rfl
     · rfl
     · rfl)
  | (clear tk4; go_at_call 49; refine (HDN.out g8 _ HI.out.g8 HI.out.b8.lt HI.out.bel).mono ?_; rintro e4 x4 ⟨q1, q2, q3, q4, q5, q6, rfl, hq4, bl⟩
     have HQ : Hid (KyS (R2 R g8 g8) x4 (.slice q1 q2 q3) (.slice q4 q5 q6) (doneM m l)) := hq4; replace HI : Hid (AeI R w g4 g8 (.slice a1 n1 c1) (.slice a2 n2 c2) (.slice a3 n3 c3) m rs x4) := HI.out.below bl; clear hq4 bl)
  | (clear tk5; with_reducible refine wpSeq_allocK ?_ ?_ ?_
     · rfl
     · rfl
     intro g12 x5 nn; have HB12 : Hid (Blk x5 g12 [.slice none 0 0, .slice none 0 0] 43 ∧ x4.heap.size ≤ g12 ∧ Below x4.heap.size x4 x5) := ⟨nn.blk, nn.ge, nn.below⟩; clear nn)
  | (clear tk6; with_reducible refine wpSeq_storeRow 43 (.tmp 12) (.tmp 31) g12 [.slice none 0 0, .slice none 0 0] [.slice q1 q2 q3, .slice q4 q5 q6] HB12.out.1 rfl (info_keys _ _) (one_keys _ _ _ _ _ _) ?_ ?_ ?_ ?_ ?_
     · rfl
     · rfl
     · rfl
     · rfl
     intro x6 sr; have bl : Below x4.heap.size x4 x6 := HB12.out.2.2.trans (sr.only.below HB12.out.2.1 HB12.out.2.2.size); have H12 : Hid (Blk x6 g12 [.slice q1 q2 q3, .slice q4 q5 q6] 43) := sr.blk; replace HQ : Hid (KyS (R2 R g8 g8) x6 (.slice q1 q2 q3) (.slice q4 q5 q6) (doneM m l)) := HQ.out.below bl; replace HI : Hid (AeI R w g4 g8 (.slice a1 n1 c1) (.slice a2 n2 c2) (.slice a3 n3 c3) m rs x6) := HI.out.below bl; clear sr bl HB12)
  | (clear tk7; go_at_call 18; refine (oBatch_any _ l _ (HA.out.1.below HI.out.bel) HA.out.2.1).mono ?_; rintro e7 x7 ⟨vb, rfl, ow7, bl⟩
     obtain ⟨b1, b2, b3, hvb⟩ := isSl_form ow7.isSl; subst hvb
     have HBT : Hid (Sta (R2 R g8 g8) x7 (fun W => Reads W (.slice b1 b2 b3) (batchB l))) := ow7.st (fun j hj => by
      have h8 := HI.out.b8.lt; have hs := HI.out.bel.size
      rcases hj with hj | hj | hj
      · have := HA.out.2.2.2.2.2 j hj; omega
      · omega
      · omega)
     replace H12 : Hid (Blk x7 g12 [.slice q1 q2 q3, .slice q4 q5 q6] 43) := H12.out.below bl H12.out.lt; replace HQ : Hid (KyS (R2 R g8 g8) x7 (.slice q1 q2 q3) (.slice q4 q5 q6) (doneM m l)) := HQ.out.below bl; replace HI : Hid (AeI R w g4 g8 (.slice a1 n1 c1) (.slice a2 n2 c2) (.slice a3 n3 c3) m rs x7) := HI.out.below bl; clear ow7 bl)
  | (clear tk8; go_at_call 50; refine (nAppend_st (R2 R g8 g8) _ _ rs (batchB l) n HA.out.2.2.2.1 HA.out.2.2.2.2.1 HA.out.2.2.1 _ (fun j hj => by
      have h8 := HI.out.b8.lt; have hs := HI.out.bel.size
      rcases hj with hj | hj | hj
      · have := HA.out.2.2.2.2.2 j hj; omega
      · omega
      · omega) HI.out.re HBT.out).mono ?_; rintro e8 x8 ⟨lv, rfl, hs8, bl⟩
     rw [HXA.out]; obtain ⟨s1, s2, s3, hlv⟩ : ∃ a n c, lv = .slice a n c := by obtain ⟨a, c, h, _⟩ := hs8; exact ⟨a, _, c, h⟩
     subst hlv; have HS8 : Hid (StaL (R2 R g8 g8) x8 (.slice s1 s2 s3) (apL rs (batchB l) n)) := hs8; replace H12 : Hid (Blk x8 g12 [.slice q1 q2 q3, .slice q4 q5 q6] 43) := H12.out.below bl H12.out.lt; replace HQ : Hid (KyS (R2 R g8 g8) x8 (.slice q1 q2 q3) (.slice q4 q5 q6) (doneM m l)) := HQ.out.below bl; replace HI : Hid (AeI R w g4 g8 (.slice a1 n1 c1) (.slice a2 n2 c2) (.slice a3 n3 c3) m rs x8) := HI.out.below bl; clear hs8 bl HBT)
  | (clear tk9; with_reducible refine wpSeq_loadW 43 (.tmp 12) g12 0 [.slice q1 q2 q3, .slice q4 q5 q6] _ (Blk.range H12.out) Tryz.underlying43 rfl (info_keys _ _) ?_ ?_ ?_ ?_
     · rfl
     · rfl
     · rfl)
  | (clear tk10; go_at_call 51; refine (oWhole_any _ _ (doneM m l) _ HQ.out.k.now HQ.out.v.now HZW.out.2.2).mono ?_; rintro e9 x9 ⟨va, rfl, hr9, bl⟩
     obtain ⟨w1, w3, hva⟩ := hr9.form; obtain ⟨w2, HW2⟩ := sqn ((wholeM (doneM m l)).length); rw [← HW2.out] at hva; subst hva; have HRA : Hid (ReadsA x9 (.slice w1 w2 w3) (wholeM (doneM m l))) := hr9; have hw2 : w2 = (doneM m l).length := by rw [HW2.out]; simp [wholeM]
     have hq5 : ¬ ((0 : Int) < (w2 : Int)) := by have := HM2.out.1; omega
     replace H12 : Hid (Blk x9 g12 [.slice q1 q2 q3, .slice q4 q5 q6] 43) := H12.out.below bl H12.out.lt; replace HQ : Hid (KyS (R2 R g8 g8) x9 (.slice q1 q2 q3) (.slice q4 q5 q6) (doneM m l)) := HQ.out.below bl; replace HI : Hid (AeI R w g4 g8 (.slice a1 n1 c1) (.slice a2 n2 c2) (.slice a3 n3 c3) m rs x9) := HI.out.below bl; clear hr9 bl hw2)
  | (clear tk11; go_at_call 14; refine (oCheck_any _ _ _ HRA.out).mono ?_; rintro e13 x13 ⟨rfl, bl⟩
     rw [HCW.out]
     skip
     replace H12 : Hid (Blk x13 g12 [.slice q1 q2 q3, .slice q4 q5 q6] 43) := H12.out.below bl H12.out.lt; replace HQ : Hid (KyS (R2 R g8 g8) x13 (.slice q1 q2 q3) (.slice q4 q5 q6) (doneM m l)) := HQ.out.below bl; replace HI : Hid (AeI R w g4 g8 (.slice a1 n1 c1) (.slice a2 n2 c2) (.slice a3 n3 c3) m rs x13) := HI.out.below bl; clear bl)
  | (clear tk12; go_at_call 52; refine (nRestart_st (R2 R g8 g8) (.slice none 0 0) (.slice none 0 0) [] (anewM (doneM m l)) n (by unfold anewM; split <;> simp) (fun _ => by rw [HM2.out.2]; decide) HA.out.2.2.1 _ (StaL.nil _ _) (by rw [HM2.out.2]; exact StaL.nil _ _)).mono ?_; rintro e14 x14 ⟨lv2, rfl, hs14, hz14⟩
     subst hz14; rw [HXR.out]; obtain ⟨t1, t2, t3, hlv2⟩ : ∃ a n c, lv2 = .slice a n c := by obtain ⟨a, c, h, _⟩ := hs14; exact ⟨a, _, c, h⟩
     subst hlv2; have HS14 : Hid (StaL (R2 R g8 g8) x14 (.slice t1 t2 t3) (rsL [] (anewM (doneM m l)) n)) := hs14; clear hs14)
  | (clear tk13; with_reducible refine wpSeq_loadW 43 (.tmp 12) g12 0 [.slice q1 q2 q3, .slice q4 q5 q6] _ (Blk.range H12.out) Tryz.underlying43 rfl (info_keys _ _) ?_ ?_ ?_ ?_
     · rfl
     · rfl
     · rfl)
  | (clear tk14; with_reducible refine wpSeq_storeRow 43 (.tmp 8) (.tmp 69) g8 [.slice none 0 0, .slice none 0 0] [.slice q1 q2 q3, .slice q4 q5 q6] HI.out.b8 rfl (info_keys _ _) (one_keys _ _ _ _ _ _) ?_ ?_ ?_ ?_ ?_
     · rfl
     · rfl
     · rfl
     · rfl
     intro y9 sr; have HF : Hid (Blk y9 g8 [.slice q1 q2 q3, .slice q4 q5 q6] 43 ∧ Only g8 x14 y9) := ⟨sr.blk, sr.only⟩; clear sr))
 have hb9 : Below w.heap.size w y9 := HI.out.bel.trans (HF.out.2.below HI.out.g8 HI.out.bel.size)
 obtain ⟨k9, r9⟩ := ae_ret HQ.out HS14.out HF.out.2
 refine bodyPost_ret (results_row_tmp2 rfl _ _ g8 _ rfl (var_keys HF.out.1)) rfl ?_
 refine ⟨_, _, (.slice t1 t2 t3), by rw [HXE.out.1]; rfl, by rw [HXE.out.2.1]; exact k9, by rw [HXE.out.2.2]; exact r9, hb9⟩
theorem oApply_nofull (R : Nat → Prop) (vK vV vr v : Value) (m : KM) (rs : List Bs) (ps : List (ActT × Value)) (n : Nat) (w : World) (hR : ∀ k, R k → k < w.heap.size) (hm : KyS R w vK vV m) (hup : Rise m) (hrs : StaL R w vr rs) (hr : RdP w v ps) (hra : ReadsA w v (ps.map (·.1))) (hd : ∀ p ∈ ps, Sta R w (fun W => Reads W p.2 p.1.data)) (hl : m.length + ps.length < 100000) (hz : okZ (ps.map (·.1))) (hn : n < 1000000) (hrl : rs.length < 1000000) (hsz : sizeL (rs ++ [batchB (ps.map (·.1))]) < 1000000000) (hzw : okZ (wholeM (doneM m (ps.map (·.1)))) ∧ (batchB (wholeM (doneM m (ps.map (·.1))))).length < 1000000) (hc : chkL (ps.map (·.1)) = 0 ∧ ps.map (·.1) ≠ []) (ha : apX rs (batchB (ps.map (·.1))) n ≠ 0) (h0 : doneM m (ps.map (·.1)) = []) (hx : rsX (anewM (doneM m (ps.map (·.1)))) n ≠ 0) : Calls Tryz.prog 21 #[.agg [vK, vV].toArray, vr, v, .int .i64 (n : Int)] w fun e w' => AeR R w m rs (ps.map (·.1)) n e w' := by
 obtain ⟨l, HL⟩ := sqn (ps.map (·.1))
 rw [← HL.out] at hra hz hsz hzw hc ha h0 hx ⊢
 obtain ⟨N, HN⟩ := sqn (ps.length)
 obtain ⟨ad, cp, hv⟩ := hr.form
 rw [← HN.out] at hv
 subst hv
 obtain ⟨a1, n1, c1, e1⟩ : ∃ a n c, vK = .slice a n c := by obtain ⟨a, c, h, _⟩ := hm.k; exact ⟨a, _, c, h⟩
 obtain ⟨a2, n2, c2, e2⟩ : ∃ a n c, vV = .slice a n c := by obtain ⟨a, c, h, _⟩ := hm.v; exact ⟨a, _, c, h⟩
 obtain ⟨a3, n3, c3, e3⟩ : ∃ a n c, vr = .slice a n c := by obtain ⟨a, c, h, _⟩ := hrs; exact ⟨a, _, c, h⟩
 subst e1
 subst e2
 subst e3
 have HLL : Hid (l.length = N) := by show _ = _; rw [HL.out, List.length_map, HN.out]
 have HA : Hid (ReadsA w (.slice ad N cp) l ∧ okZ l ∧ n < 1000000 ∧ rs.length < 1000000 ∧ sizeL (rs ++ [batchB l]) < 1000000000 ∧ ∀ k, R k → k < w.heap.size) := ⟨hra, hz, hn, hrl, hsz, hR⟩
 have HZW : Hid (okZ (wholeM (doneM m l)) ∧ (batchB (wholeM (doneM m l))).length < 1000000 ∧ (doneM m l).length < 1000000) := ⟨hzw.1, hzw.2, by have h1 := len_doneM l hup; rw [HLL.out] at h1; have := HN.out; omega⟩
 have HI0 : Hid (∀ g8 W, w.heap.size ≤ g8 → Below w.heap.size w W → KyS (R2 R g8 g8) W (.slice a1 n1 c1) (.slice a2 n2 c2) m ∧ StaL (R2 R g8 g8) W (.slice a3 n3 c3) rs) := fun g8 W hg hb => ⟨hm.go (mut_below hb R) (fun k hk h => h.elim id (fun e => absurd hk (by omega))), hrs.go (mut_below hb R) (fun k hk h => h.elim id (fun e => absurd hk (by omega)))⟩
 have HDN : Hid (∀ g8 W, w.heap.size ≤ g8 → g8 < W.heap.size → Below w.heap.size w W → Calls Tryz.prog 49 #[.agg [.slice a1 n1 c1, .slice a2 n2 c2].toArray, .slice ad N cp] W fun e w' => ∃ q1 q2 q3 q4 q5 q6, e = .returned (.agg [.slice q1 q2 q3, .slice q4 q5 q6].toArray) ∧ KyS (R2 R g8 g8) w' (.slice q1 q2 q3) (.slice q4 q5 q6) (doneM m l) ∧ Below W.heap.size W w') := fun g8 W hg hlt hb => by
  refine (oDone_any (R2 R g8 g8) _ _ _ m ps W (fun k hk => by
   rcases hk with hk | hk | hk
   · exact Nat.lt_of_lt_of_le (hR k hk) hb.size
   · rw [hk]; exact hlt
   · rw [hk]; exact hlt) (HI0.out g8 W hg hb).1 hup (hr.below hb) (fun p hp => sta_wide (hd p hp) hb hg hg) hl).mono (fun e w' hx => ?_)
  obtain ⟨uK, uV, h1, h2, h3⟩ := hx
  rw [← HL.out] at h2
  obtain ⟨q1, q3, f1⟩ : ∃ a c, uK = .slice a ((doneM m l).map (·.1)).length c := by obtain ⟨a, c, h, _⟩ := h2.k; exact ⟨a, c, h⟩
  obtain ⟨q4, q6, f2⟩ : ∃ a c, uV = .slice a ((doneM m l).map (·.2)).length c := by obtain ⟨a, c, h, _⟩ := h2.v; exact ⟨a, c, h⟩
  subst f1
  subst f2
  exact ⟨q1, _, q3, q4, _, q6, h1, h2, h3⟩
 clear hR hm hup hrs hr hra hd hl hz hn hrl hsz hzw
 have HCK : Hid (chkL l = 0) := hc.1
 have fz : ¬ ((N : Int) = 0) := by
  have h1 : 0 < l.length := List.length_pos_iff.2 hc.2
  have h2 := HLL.out
  omega
 obtain ⟨xa, HXA2⟩ := sqn (apX rs (batchB l) n)
 have HXA : Hid (apX rs (batchB l) n = xa) := HXA2.out.symm
 have hq1 : ¬ xa = 0 := by rw [HXA2.out]; exact ha
 have hq2 : (xa == 0) = false := by simpa using hq1
 have hw : chkL (wholeM (doneM m l)) = 0 := by rw [h0]; rfl
 have HCW : Hid (chkL (wholeM (doneM m l)) = 0) := hw
 obtain ⟨xr, HXR2⟩ := sqn (rsX (anewM (doneM m l)) n)
 have HXR : Hid (rsX (anewM (doneM m l)) n = xr) := HXR2.out.symm
 have hq3 : ¬ xr = 0 := by rw [HXR2.out]; exact hx
 have hq4 : (xr != 0) = true := by rw [bne_iff_ne]; exact hq3
 have HXE : Hid (apyX m rs l n = 13 ∧ apyM m rs l n = m ∧ apyL m rs l n = rs) := by
  have hy : apyX m rs l n = 13 := by unfold apyX; rw [if_pos hc, if_neg ha, if_neg (fun h => hx h.2)]
  refine ⟨hy, by unfold apyM; rw [hy, if_neg (by decide)], ?_⟩
  unfold apyL
  rw [if_pos hc, if_neg ha, if_neg (fun h => hx h.2)]
 have HM2 : Hid ((doneM m l).length = 0 ∧ anewM (doneM m l) = []) := ⟨by rw [h0]; rfl, by unfold anewM; rw [if_pos h0]⟩
 clear hc ha h0 hx hw
 go_enter Tryz.func21, Tryz.ntmps21
 obtain ⟨tk0, tk1, tk2, tk3, tk4, tk5, tk6, tk7, tk8, tk9, tk10, tk11, tk12, tk13, tk14⟩ := sqk15
 go_wp2_with (first
  | (clear tk0; with_reducible refine wpSeq_boxW 43 (.tmp 0) [.slice a1 n1 c1, .slice a2 n2 c2] ?_ ?_ ?_ ?_
     · rfl
     · rfl
     · rfl
     intro g4 x1 nn; have H4 : Hid (Blk x1 g4 [.slice a1 n1 c1, .slice a2 n2 c2] 43) := nn.blk; have HB : Hid (Below w.heap.size w x1) := nn.below; clear nn)
  | (clear tk1; with_reducible refine wpSeq_allocK ?_ ?_ ?_
     · rfl
     · rfl
     intro g8 x2 nn
     have HI : Hid (AeI R w g4 g8 (.slice a1 n1 c1) (.slice a2 n2 c2) (.slice a3 n3 c3) m rs x2) := by
      have hb := HB.out.trans (nn.below.mono HB.out.size); have hg := Nat.le_trans HB.out.size nn.ge; obtain ⟨h1, h2⟩ := HI0.out g8 x2 hg hb; exact ⟨H4.out.below nn.below H4.out.lt, nn.blk, h1, h2, hb, hg⟩
     clear nn HB H4)
  | (clear tk2; go_at_call 14; refine (oCheck_any _ l _ (HA.out.1.below HI.out.bel)).mono ?_; rintro e3 x3 ⟨rfl, bl⟩
     rw [HCK.out]; replace HI : Hid (AeI R w g4 g8 (.slice a1 n1 c1) (.slice a2 n2 c2) (.slice a3 n3 c3) m rs x3) := HI.out.below bl; clear bl)
  | (clear tk3; with_reducible refine wpSeq_loadW 43 (.tmp 4) g4 0 [.slice a1 n1 c1, .slice a2 n2 c2] _ (Blk.range HI.out.b4) Tryz.underlying43 rfl (info_keys _ _) ?_ ?_ ?_ ?_
     · rfl
     · rfl
     · rfl)
  | (clear tk4; go_at_call 49; refine (HDN.out g8 _ HI.out.g8 HI.out.b8.lt HI.out.bel).mono ?_; rintro e4 x4 ⟨q1, q2, q3, q4, q5, q6, rfl, hq4, bl⟩
     have HQ : Hid (KyS (R2 R g8 g8) x4 (.slice q1 q2 q3) (.slice q4 q5 q6) (doneM m l)) := hq4; replace HI : Hid (AeI R w g4 g8 (.slice a1 n1 c1) (.slice a2 n2 c2) (.slice a3 n3 c3) m rs x4) := HI.out.below bl; clear hq4 bl)
  | (clear tk5; with_reducible refine wpSeq_allocK ?_ ?_ ?_
     · rfl
     · rfl
     intro g12 x5 nn; have HB12 : Hid (Blk x5 g12 [.slice none 0 0, .slice none 0 0] 43 ∧ x4.heap.size ≤ g12 ∧ Below x4.heap.size x4 x5) := ⟨nn.blk, nn.ge, nn.below⟩; clear nn)
  | (clear tk6; with_reducible refine wpSeq_storeRow 43 (.tmp 12) (.tmp 31) g12 [.slice none 0 0, .slice none 0 0] [.slice q1 q2 q3, .slice q4 q5 q6] HB12.out.1 rfl (info_keys _ _) (one_keys _ _ _ _ _ _) ?_ ?_ ?_ ?_ ?_
     · rfl
     · rfl
     · rfl
     · rfl
     intro x6 sr; have bl : Below x4.heap.size x4 x6 := HB12.out.2.2.trans (sr.only.below HB12.out.2.1 HB12.out.2.2.size); have H12 : Hid (Blk x6 g12 [.slice q1 q2 q3, .slice q4 q5 q6] 43) := sr.blk; replace HQ : Hid (KyS (R2 R g8 g8) x6 (.slice q1 q2 q3) (.slice q4 q5 q6) (doneM m l)) := HQ.out.below bl; replace HI : Hid (AeI R w g4 g8 (.slice a1 n1 c1) (.slice a2 n2 c2) (.slice a3 n3 c3) m rs x6) := HI.out.below bl; clear sr bl HB12)
  | (clear tk7; go_at_call 18; refine (oBatch_any _ l _ (HA.out.1.below HI.out.bel) HA.out.2.1).mono ?_; rintro e7 x7 ⟨vb, rfl, ow7, bl⟩
     obtain ⟨b1, b2, b3, hvb⟩ := isSl_form ow7.isSl; subst hvb
     have HBT : Hid (Sta (R2 R g8 g8) x7 (fun W => Reads W (.slice b1 b2 b3) (batchB l))) := ow7.st (fun j hj => by
      have h8 := HI.out.b8.lt; have hs := HI.out.bel.size
      rcases hj with hj | hj | hj
      · have := HA.out.2.2.2.2.2 j hj; omega
      · omega
      · omega)
     replace H12 : Hid (Blk x7 g12 [.slice q1 q2 q3, .slice q4 q5 q6] 43) := H12.out.below bl H12.out.lt; replace HQ : Hid (KyS (R2 R g8 g8) x7 (.slice q1 q2 q3) (.slice q4 q5 q6) (doneM m l)) := HQ.out.below bl; replace HI : Hid (AeI R w g4 g8 (.slice a1 n1 c1) (.slice a2 n2 c2) (.slice a3 n3 c3) m rs x7) := HI.out.below bl; clear ow7 bl)
  | (clear tk8; go_at_call 50; refine (nAppend_st (R2 R g8 g8) _ _ rs (batchB l) n HA.out.2.2.2.1 HA.out.2.2.2.2.1 HA.out.2.2.1 _ (fun j hj => by
      have h8 := HI.out.b8.lt; have hs := HI.out.bel.size
      rcases hj with hj | hj | hj
      · have := HA.out.2.2.2.2.2 j hj; omega
      · omega
      · omega) HI.out.re HBT.out).mono ?_; rintro e8 x8 ⟨lv, rfl, hs8, bl⟩
     rw [HXA.out]; obtain ⟨s1, s2, s3, hlv⟩ : ∃ a n c, lv = .slice a n c := by obtain ⟨a, c, h, _⟩ := hs8; exact ⟨a, _, c, h⟩
     subst hlv; have HS8 : Hid (StaL (R2 R g8 g8) x8 (.slice s1 s2 s3) (apL rs (batchB l) n)) := hs8; replace H12 : Hid (Blk x8 g12 [.slice q1 q2 q3, .slice q4 q5 q6] 43) := H12.out.below bl H12.out.lt; replace HQ : Hid (KyS (R2 R g8 g8) x8 (.slice q1 q2 q3) (.slice q4 q5 q6) (doneM m l)) := HQ.out.below bl; replace HI : Hid (AeI R w g4 g8 (.slice a1 n1 c1) (.slice a2 n2 c2) (.slice a3 n3 c3) m rs x8) := HI.out.below bl; clear hs8 bl HBT)
  | (clear tk9; with_reducible refine wpSeq_loadW 43 (.tmp 12) g12 0 [.slice q1 q2 q3, .slice q4 q5 q6] _ (Blk.range H12.out) Tryz.underlying43 rfl (info_keys _ _) ?_ ?_ ?_ ?_
     · rfl
     · rfl
     · rfl)
  | (clear tk10; go_at_call 51; refine (oWhole_any _ _ (doneM m l) _ HQ.out.k.now HQ.out.v.now HZW.out.2.2).mono ?_; rintro e9 x9 ⟨va, rfl, hr9, bl⟩
     obtain ⟨w1, w3, hva⟩ := hr9.form; obtain ⟨w2, HW2⟩ := sqn ((wholeM (doneM m l)).length); rw [← HW2.out] at hva; subst hva; have HRA : Hid (ReadsA x9 (.slice w1 w2 w3) (wholeM (doneM m l))) := hr9; have hw2 : w2 = (doneM m l).length := by rw [HW2.out]; simp [wholeM]
     have hq5 : ¬ ((0 : Int) < (w2 : Int)) := by have := HM2.out.1; omega
     replace H12 : Hid (Blk x9 g12 [.slice q1 q2 q3, .slice q4 q5 q6] 43) := H12.out.below bl H12.out.lt; replace HQ : Hid (KyS (R2 R g8 g8) x9 (.slice q1 q2 q3) (.slice q4 q5 q6) (doneM m l)) := HQ.out.below bl; replace HI : Hid (AeI R w g4 g8 (.slice a1 n1 c1) (.slice a2 n2 c2) (.slice a3 n3 c3) m rs x9) := HI.out.below bl; clear hr9 bl hw2)
  | (clear tk11; go_at_call 14; refine (oCheck_any _ _ _ HRA.out).mono ?_; rintro e13 x13 ⟨rfl, bl⟩
     rw [HCW.out]
     skip
     replace H12 : Hid (Blk x13 g12 [.slice q1 q2 q3, .slice q4 q5 q6] 43) := H12.out.below bl H12.out.lt; replace HQ : Hid (KyS (R2 R g8 g8) x13 (.slice q1 q2 q3) (.slice q4 q5 q6) (doneM m l)) := HQ.out.below bl; replace HI : Hid (AeI R w g4 g8 (.slice a1 n1 c1) (.slice a2 n2 c2) (.slice a3 n3 c3) m rs x13) := HI.out.below bl; clear bl)
  | (clear tk12; go_at_call 52; refine (nRestart_st (R2 R g8 g8) (.slice none 0 0) (.slice none 0 0) [] (anewM (doneM m l)) n (by unfold anewM; split <;> simp) (fun _ => by rw [HM2.out.2]; decide) HA.out.2.2.1 _ (StaL.nil _ _) (by rw [HM2.out.2]; exact StaL.nil _ _)).mono ?_; rintro e14 x14 ⟨lv2, rfl, hs14, hz14⟩
     subst hz14; rw [HXR.out]; obtain ⟨t1, t2, t3, hlv2⟩ : ∃ a n c, lv2 = .slice a n c := by obtain ⟨a, c, h, _⟩ := hs14; exact ⟨a, _, c, h⟩
     subst hlv2; have HS14 : Hid (StaL (R2 R g8 g8) x14 (.slice t1 t2 t3) (rsL [] (anewM (doneM m l)) n)) := hs14; clear hs14)
  | (clear tk13; with_reducible refine wpSeq_loadW 43 (.tmp 4) g4 0 [.slice a1 n1 c1, .slice a2 n2 c2] _ (Blk.range HI.out.b4) Tryz.underlying43 rfl (info_keys _ _) ?_ ?_ ?_ ?_
     · rfl
     · rfl
     · rfl)
  | (clear tk14; with_reducible refine wpSeq_storeRow 43 (.tmp 8) (.tmp 67) g8 [.slice none 0 0, .slice none 0 0] [.slice a1 n1 c1, .slice a2 n2 c2] HI.out.b8 rfl (info_keys _ _) (one_keys _ _ _ _ _ _) ?_ ?_ ?_ ?_ ?_
     · rfl
     · rfl
     · rfl
     · rfl
     intro y9 sr; have HF : Hid (Blk y9 g8 [.slice a1 n1 c1, .slice a2 n2 c2] 43 ∧ Only g8 x14 y9) := ⟨sr.blk, sr.only⟩; clear sr))
 have hb9 : Below w.heap.size w y9 := HI.out.bel.trans (HF.out.2.below HI.out.g8 HI.out.bel.size)
 obtain ⟨k9, r9⟩ := ae_ret HI.out.ky HI.out.re HF.out.2
 refine bodyPost_ret (results_row_tmp2 rfl _ _ g8 _ rfl (var_keys HF.out.1)) rfl ?_
 refine ⟨_, _, (.slice a3 n3 c3), by rw [HXE.out.1]; rfl, by rw [HXE.out.2.1]; exact k9, by rw [HXE.out.2.2]; exact r9, hb9⟩
theorem oApply_any (R : Nat → Prop) (vK vV vr v : Value) (m : KM) (rs : List Bs) (ps : List (ActT × Value)) (n : Nat) (w : World) (hR : ∀ k, R k → k < w.heap.size) (hm : KyS R w vK vV m) (hup : Rise m) (hrs : StaL R w vr rs) (hr : RdP w v ps) (hra : ReadsA w v (ps.map (·.1))) (hd : ∀ p ∈ ps, Sta R w (fun W => Reads W p.2 p.1.data)) (hl : m.length + ps.length < 100000) (hz : okZ (ps.map (·.1))) (hn : n < 1000000) (hrl : rs.length < 1000000) (hsz : sizeL (rs ++ [batchB (ps.map (·.1))]) < 1000000000) (hzw : okZ (wholeM (doneM m (ps.map (·.1)))) ∧ (batchB (wholeM (doneM m (ps.map (·.1))))).length < 1000000) : Calls Tryz.prog 21 #[.agg [vK, vV].toArray, vr, v, .int .i64 (n : Int)] w fun e w' => AeR R w m rs (ps.map (·.1)) n e w' := by
 by_cases hc : chkL (ps.map (·.1)) = 0 ∧ ps.map (·.1) ≠ []
 case neg => exact oApply_no R vK vV vr v m rs ps n w hR hm hup hrs hr hra hd hl hz hn hrl hsz hzw hc
 by_cases ha : apX rs (batchB (ps.map (·.1))) n = 0
 · exact oApply_fit R vK vV vr v m rs ps n w hR hm hup hrs hr hra hd hl hz hn hrl hsz hzw hc ha
 by_cases h0 : doneM m (ps.map (·.1)) = []
 · by_cases hx : rsX (anewM (doneM m (ps.map (·.1)))) n = 0
   · exact oApply_none R vK vV vr v m rs ps n w hR hm hup hrs hr hra hd hl hz hn hrl hsz hzw hc ha h0 hx
   · exact oApply_nofull R vK vV vr v m rs ps n w hR hm hup hrs hr hra hd hl hz hn hrl hsz hzw hc ha h0 hx
 rcases chkL_or (wholeM (doneM m (ps.map (·.1)))) with hw | hw
 · by_cases hx : rsX (anewM (doneM m (ps.map (·.1)))) n = 0
   · exact oApply_anew R vK vV vr v m rs ps n w hR hm hup hrs hr hra hd hl hz hn hrl hsz hzw hc ha h0 hw hx
   · exact oApply_full R vK vV vr v m rs ps n w hR hm hup hrs hr hra hd hl hz hn hrl hsz hzw hc ha h0 hw hx
 · exact oApply_bad R vK vV vr v m rs ps n w hR hm hup hrs hr hra hd hl hz hn hrl hsz hzw hc ha h0 hw
end Go.Proofs.YtopmeedmgjdcgaaGreatDoor
namespace Go.Proofs.YtopmeedmgjdcgaaGreatDoor
open Go.RowKit
set_option maxRecDepth 100000
end Go.Proofs.YtopmeedmgjdcgaaGreatDoor
namespace Go.Proofs.YtopmeedmgjdcgaaGreatDoor
open Go.RowKit
set_option maxRecDepth 100000
theorem StP.bounds {m : KM} {D : DkT} {J : JnT} (h : StP m D J) {l : List ActT} (h1 : l.length ≤ 60) (h2 : sumA l ≤ 20000) : okZ l ∧ m.length + l.length < 100000 ∧ J.l.length < 1000000 ∧ sizeL (J.l ++ [batchB l]) < 1000000000 ∧ okZ (wholeM (doneM m l)) ∧ (batchB (wholeM (doneM m l))).length < 1000000 := by
 have h3 := h.small
 have h4 := wtM_len m
 have h5 := h.done h1 h2
 have h6 := h.lg.len (by have := h.hi; omega)
 have hz := okZ_light h1 h2
 have hw : ∀ a ∈ l, wtA a ≤ 20000 := fun a ha => Nat.le_trans (wt_sum l a ha) h2
 have h7 := encAll_light l (fun a ha => by have h3 := hw a ha; unfold wtA at h3; omega)
 have h8 : (batchB l).length ≤ 30000 := by
  have := enc_len10 l.length (by omega)
  unfold batchB encList
  rw [List.length_append]
  omega
 have h9 : sizeL (J.l ++ [batchB l]) < 1000000000 := by
  have e1 := sizeL_eq (J.l ++ [batchB l])
  have e2 := sizeL_eq J.l
  rw [secL_snoc, secR] at e1
  omega
 refine ⟨hz, by omega, by omega, h9, ⟨by rw [show (wholeM (doneM m l)).length = (doneM m l).length by simp [wholeM]]; omega, by omega, fun a ha => ?_⟩, by omega⟩
 obtain ⟨p, hp, e⟩ := List.mem_map.1 ha
 have h3 := wtM_mem (doneM m l) p hp
 unfold wt1 at h3
 rw [← e]
 show p.2.length ≤ _
 omega
theorem sta_only {R : Nat → Prop} {Y Z : World} {g : Nat} {v : Value} {t : Bs} (h : Sta R Y (fun W => Reads W v t)) (ho : Only g Y Z) (hg : g < Y.heap.size) (hv : v.ownBlock ≠ some g) : Sta R Z (fun W => Reads W v t) := fun X hX => by
 obtain ⟨o, hoY⟩ : ∃ o, Y.heap[g]? = some o := ⟨_, Array.getElem?_eq_getElem hg⟩
 have hgX : g < X.heap.size := Nat.lt_of_lt_of_le hg (Nat.le_trans ho.size hX.size)
 have hm : Mut R Y (X.putObj g o) := ⟨hX.os.trans ho.os, hX.tape.trans ho.tape, hX.output.trans ho.output, by rw [World.putObj_size]; exact Nat.le_trans ho.size hX.size, fun k hk hn => by
  by_cases e : k = g
  · rw [e, World.putObj_heap_same hgX, hoY]
  · rw [World.putObj_heap_other e, hX.block k (Nat.lt_of_lt_of_le hk ho.size) hn, ho.block k e hk]⟩
 obtain ⟨ad, cap, e1, e2, e3, e4⟩ := h _ hm
 refine ⟨ad, cap, e1, e2, e3, fun hp => ?_⟩
 obtain ⟨b, off, e5, e6⟩ := e4 hp
 refine ⟨b, off, e5, fun j hj => ?_⟩
 have e7 := e6 j hj
 rw [e1, e5] at hv
 have hb : b ≠ g := fun e => hv (by rw [← e]; rfl)
 rw [World.cell?_of_block (w := X) (World.putObj_heap_other hb)] at e7
 exact e7
structure GoI (w : World) (gs gd lg gm gk nb gb N : Nat) (vK vV vr : Value) (mr : KM) (rs : List Bs) (n : Nat) (P Q : Nat → Prop) (V : Bs → Value) (m : KM) (D : DkT) (J : JnT) (W : World) : Prop where
 st : StM W gs gd lg gm n P Q V m D J
 sp : StP m D J
 sz : sizeD D = N
 ge : J.gen ≤ gb
 nn : n ≤ nb
 um : ∀ k, Um P Q gm k → w.heap.size ≤ k
 gu : ¬ Um P Q gm gk
 bel : Below w.heap.size w W
 bk : Blk W gk [vK, vV] 43
 kg : w.heap.size ≤ gk
 ky : KyS (R2 (Um P Q gm) gk gk) W vK vV mr
 re : StaL (R2 (Um P Q gm) gk gk) W vr rs
 xx : ∀ s t, getM m s = some t → (V s).ownBlock ≠ some gk
theorem GoI.below {w W Y : World} {gs gd lg gm gk nb gb N n : Nat} {vK vV vr : Value} {mr m : KM} {rs : List Bs} {P Q : Nat → Prop} {V : Bs → Value} {D : DkT} {J : JnT} (h : GoI w gs gd lg gm gk nb gb N vK vV vr mr rs n P Q V m D J W) (hb : Below W.heap.size W Y) : GoI w gs gd lg gm gk nb gb N vK vV vr mr rs n P Q V m D J Y :=
 ⟨h.st.below hb, h.sp, h.sz, h.ge, h.nn, h.um, h.gu, h.bel.trans (hb.mono h.bel.size), h.bk.below hb h.bk.lt, h.kg, h.ky.below hb, h.re.go (mut_below hb _) (fun _ _ h => h), h.xx⟩
theorem GoI.put {w W Y Z : World} {gs gd lg gm gk nb gb N n : Nat} {vK vV vr uK uV ur : Value} {mr mr' m : KM} {rs rs' : List Bs} {P Q : Nat → Prop} {V : Bs → Value} {D : DkT} {J : JnT} (h : GoI w gs gd lg gm gk nb gb N vK vV vr mr rs n P Q V m D J W) (hb : Below W.heap.size W Y) (ho : Only gk Y Z) (hbk : Blk Z gk [uK, uV] 43) (hk : KyS (R2 (Um P Q gm) gk gk) Y uK uV mr') (hr : StaL (R2 (Um P Q gm) gk gk) Y ur rs') : GoI w gs gd lg gm gk nb gb N uK uV ur mr' rs' n P Q V m D J Z := by
 have h1 := h.below hb
 have hm : Mut (R2 (Um P Q gm) gk gk) Y Z := ho.mut (Or.inr (Or.inl rfl))
 have hs : StM Z gs gd lg gm n P Q V m D J := by
  have h2 := h1.st
  have e : ∀ k, Um P Q gm k → Z.heap[k]? = Y.heap[k]? := fun k hk => ho.block k (fun e => h.gu (e ▸ hk)) (h2.ltM k hk)
  refine ⟨h2.sb.only ho (fun e => ?_), ⟨h2.pk.dk.same14 (fun k hk => e k (Or.inl (Or.inl hk))), h2.pk.lg.sameS ho.size (fun k hk => e k (Or.inl (Or.inr hk))), h2.pk.ap⟩, h2.mp.same (e gm (Or.inr rfl)), fun s t ht => ⟨sta_only (h2.tx s t ht).1 ho h1.bk.lt (h.xx s t ht), (h2.tx s t ht).2⟩, h2.ns, h2.nm⟩
  have h3 := h2.sb
  have h4 := h1.bk
  unfold Blk at h3 h4
  rw [e, h4] at h3
  simp only [Option.some.injEq, Obj.cells.injEq] at h3
  exact absurd h3.2.1 (by decide)
 exact ⟨hs, h1.sp, h1.sz, h1.ge, h1.nn, h1.um, h1.gu, h1.bel.trans (ho.below h1.kg h1.bel.size), hbk, h1.kg, hk.go hm (fun _ _ h => h), hr.go hm (fun _ _ h => h), h.xx⟩
def BaI (w : World) (v : Value) (l : List ActT) (ps : List (ActT × Value)) : Prop := RdP w v ps ∧ ps.map (·.1) = l ∧ (∀ p ∈ ps, Reads w p.2 p.1.data) ∧ (∀ p ∈ ps, isSl p.2 = true) ∧ ReadsA w v l
theorem go_store {w W : World} {gs gd lg gm gk nb gb N n : Nat} {vK vV vr : Value} {mr m : KM} {rs : List Bs} {P Q : Nat → Prop} {V : Bs → Value} {D : DkT} {J : JnT} (h : GoI w gs gd lg gm gk nb gb N vK vV vr mr rs n P Q V m D J W) (hK : KOk w) (hg : gb + 1 < 1000000) (hn : nb + 60 < 10000000) {v : Value} {l : List ActT} {ps : List (ActT × Value)} (hp : BaI w v l ps) (h60 : l.length ≤ 60) (h2 : sumA l ≤ 20000) :
 Calls Tryz.prog 23 #[.pointer (some ⟨gs, 0, none⟩), v] W fun e w' => e = .returned (.int .i64 (apyX m J.l l N)) ∧ ∃ n' P' Q' V' D' J', GoI w gs gd lg gm gk (nb + 60) (gb + 1) N vK vV vr mr rs n' P' Q' V' (apyM m J.l l N) D' J' w' ∧ J'.l = apyL m J.l l N := by
 obtain ⟨h1, hl, h3, h4, h5⟩ := hp
 have hpl : ps.length = l.length := by rw [← hl, List.length_map]
 have hst : Sta (Un P Q) W (fun W => RdP W v ps ∧ (∀ p ∈ ps, Reads W p.2 p.1.data) ∧ ReadsA W v (ps.map (·.1))) := fun X hm => by
  have hbx : Below w.heap.size w X := h.bel.trans (hm.below h.bel.size (fun k hk => h.um k (Or.inl hk)))
  exact ⟨h1.below hbx, fun p hp => (h3 p hp).below hbx, by rw [hl]; exact h5.below hbx⟩
 have hgk := h.bk.lt
 have hc := sApply_any (fun u => u.ownBlock ≠ some gk) h.st (hK.below h.bel hK.lt) h.sp (by have := h.ge; omega) v ps hst h4 (by omega) (by rw [hl]; exact h2) (by have := h.nn; omega) h.xx (fun _ _ _ _ ho hb e => by have := ho.own gk e; omega)
 rw [hl, h.sz] at hc
 refine hc.mono (fun e w' hx => ?_)
 obtain ⟨e1, n', P', Q', V', D', J', ap⟩ := hx
 have a1 := ap.st
 have a2 := ap.sp
 have a3 := ap.rs
 have a4 := ap.xx
 rw [h.sz] at a1 a2 a3 a4
 have hu : ∀ k, k < W.heap.size → Um P' Q' gm k → Um P Q gm k := fun k hk hx => hx.elim (fun hx => (ap.gr k hx).elim Or.inl (fun h => absurd h (by omega))) Or.inr
 have hm : Mut (R2 (Um P Q gm) gk gk) W w' := ⟨ap.mu.os, ap.mu.tape, ap.mu.output, ap.mu.size, fun k hk hn => ap.mu.block k hk (fun hx => hn (Or.inl hx))⟩
 have hR : ∀ k, k < W.heap.size → R2 (Um P' Q' gm) gk gk k → R2 (Um P Q gm) gk gk k := fun k hk hx => hx.elim (fun hx => Or.inl (hu k hk hx)) Or.inr
 refine ⟨e1, n', P', Q', V', D', J', ⟨a1, a2, ap.sz.trans h.sz, by have := ap.ge; have := h.ge; omega, by have := ap.nn; have := h.nn; omega, fun k hk => ?_, fun hx => h.gu (hu gk hgk hx), h.bel.trans (ap.mu.below h.bel.size h.um), ap.mu.blk h.bk h.gu, h.kg, h.ky.go hm hR, h.re.go hm hR, a4⟩, a3⟩
 by_cases hk2 : k < W.heap.size
 · exact h.um k (hu k hk2 hk)
 · have := h.bel.size
   omega
theorem go_ref {w W : World} {gs gd lg gm gk nb gb N n : Nat} {vK vV vr : Value} {mr m : KM} {P Q : Nat → Prop} {V : Bs → Value} {D D0 : DkT} {J J0 : JnT} (h : GoI w gs gd lg gm gk nb gb N vK vV vr mr J0.l n P Q V m D J W) (h0 : StP mr D0 J0) {v : Value} {l : List ActT} {ps : List (ActT × Value)} (hp : BaI w v l ps) (h60 : l.length ≤ 60) (h2 : sumA l ≤ 20000) :
 Calls Tryz.prog 21 #[.agg [vK, vV].toArray, vr, v, .int .i64 (N : Int)] W fun e w' => AeR (R2 (Um P Q gm) gk gk) W mr J0.l l N e w' := by
 obtain ⟨h1, hl, h3, h4, h5⟩ := hp
 have hpl : ps.length = l.length := by rw [← hl, List.length_map]
 obtain ⟨b1, b2, b3, b4, b5, b6⟩ := h0.bounds h60 h2
 have hlt := h.bk.lt
 have hc := oApply_any (R2 (Um P Q gm) gk gk) vK vV vr v mr J0.l ps N W (fun k hk => by
  rcases hk with hk | hk | hk
  · exact h.st.ltM k hk
  · rw [hk]; exact hlt
  · rw [hk]; exact hlt) h.ky h0.up h.re (h1.below h.bel) (by rw [hl]; exact h5.below h.bel) (fun p hp X hm => by
    have hbx : Below w.heap.size w X := h.bel.trans (hm.below h.bel.size (fun k hk => by
     have := h.kg
     rcases hk with hk | hk | hk
     · exact h.um k hk
     · omega
     · omega))
    exact (h3 p hp).below hbx) (by omega) (by rw [hl]; exact b1) (by have := h.sz; have := h.sp.hi; omega) b3 (by rw [hl]; exact b4) (by rw [hl]; exact ⟨b5, b6⟩)
 rw [hl] at hc
 exact hc
end Go.Proofs.YtopmeedmgjdcgaaGreatDoor
namespace Go.Proofs.YtopmeedmgjdcgaaGreatDoor
open Go.RowKit
set_option maxRecDepth 100000
theorem fresh15_any (n : Int) (w : World) (hK : KOk w) : Calls Tryz.prog 19 #[.int .i64 n] w fun e w' => ∃ gd gs lg gm P Q, e = .returned (.tuple #[.pointer (some ⟨gd, 0, none⟩), .pointer (some ⟨gs, 0, none⟩)]) ∧ StM w' gs gd lg gm 0 P Q nilV [] (openD (zeroD (nSec n))) jn0 ∧ Below w.heap.size w w' ∧ (∀ k, Um P Q gm k → w.heap.size ≤ k) ∧ w.heap.size ≤ gs := by
 obtain ⟨u, HU⟩ := sqn ((n % 18446744073709551616).toNat : Nat)
 obtain ⟨r, HR⟩ := sqn (u % 40 : Nat)
 obtain ⟨m, HM⟩ := sqn (nSec n : Nat)
 have hu := HU.out
 have hr := HR.out
 have hm : m = 8 + r := by rw [HM.out, nSec, ← hu, ← hr]
 have f1 : IntKind.u64.wrap n = (u : Int) := by rw [IntKind.wrap_u64]; omega
 have f2 : (u : Int) % 40 = (r : Int) := by omega
 have f3 : IntKind.i64.wrap (r : Int) = (r : Int) := by rw [IntKind.wrap_i64]; omega
 have f4 : IntKind.i64.wrap (8 + (r : Int)) = (m : Int) := by rw [IntKind.wrap_i64, hm]; omega
 have hml := nSec_le n
 rw [← HM.out] at hml ⊢
 have HNW : Hid (Calls Tryz.prog 35 #[.int .i64 (m : Int)] w fun r w' => ∃ g gs, r = .returned (.tuple #[.pointer (some ⟨g, 0, none⟩), .int .i64 0]) ∧ DkM w' g gs (.slice none 0 0) false 0 (zeroD m) ∧ Below w.heap.size w w' ∧ w.heap.size ≤ g ∧ w.heap.size ≤ gs) := dkNew_m w m (by omega) (by omega)
 have HOP : Hid (∀ (W : World) (gd : Nat) (P : Nat → Prop), KOk W → DkIs W gd P (zeroD m) → Calls Tryz.prog 28 #[.pointer (some ⟨gd, 0, none⟩)] W fun e w' => ∃ gs lg gm P' Q, e = .returned (.tuple #[.pointer (some ⟨gs, 0, none⟩), .int .i64 0]) ∧ StM w' gs gd lg gm 0 P' Q nilV [] (openD (zeroD m)) jn0 ∧ Mut P W w' ∧ Grew W P P' ∧ (∀ k, Q k → W.heap.size ≤ k) ∧ W.heap.size ≤ gs ∧ W.heap.size ≤ gm) := fun W gd P hk hd => sOpen_zero m hk hd hml.1 (Nat.le_trans hml.2 (by decide))
 have HK0 : Hid (KOk w) := hK
 clear hu hr hm hml hK
 go_enter Tryz.func19, Tryz.ntmps19
 obtain ⟨tk0, tk1⟩ := sqk2
 go_wp2_with (first
  | (clear tk0; go_at_call 35; refine (HNW.out).mono ?_; rintro e0 y1 ⟨gd, gs0, rfl, hm, hb, hg1, hg2⟩
     have HDK : Hid (DkIs y1 gd (dkP gd gs0 (.slice none 0 0)) (zeroD m)) := ⟨gs0, _, _, _, hm, rfl⟩
     have HPW : Hid (∀ k, dkP gd gs0 (.slice none 0 0) k → w.heap.size ≤ k) := fun k hk => by
      rcases hk with rfl | rfl | hk
      · exact hg1
      · exact hg2
      · cases hk
     have HBW : Hid (Below w.heap.size w y1) := hb; clear hm hb hg1 hg2 HNW)
  | (clear tk1; go_at_call 28; refine (HOP.out _ _ _ (HK0.out.below HBW.out HK0.out.lt) HDK.out).mono ?_; rintro e0 y2 ⟨gs, lg, gm, P2, Q2, rfl, hs2, hm2, hg2, hq2, hgs, hgm⟩
     have HS : Hid (StM y2 gs gd lg gm 0 P2 Q2 nilV [] (openD (zeroD m)) jn0) := hs2
     have HUN : Hid ((∀ k, Um P2 Q2 gm k → w.heap.size ≤ k) ∧ w.heap.size ≤ gs) := ⟨fun k hk => by
      rcases hk with (h | h) | rfl
      · exact (hg2 k h).elim (HPW.out k) (fun h => Nat.le_trans HBW.out.size h)
      · exact Nat.le_trans HBW.out.size (hq2 k h)
      · exact Nat.le_trans HBW.out.size hgm, Nat.le_trans HBW.out.size hgs⟩
     replace HBW : Hid (Below w.heap.size w y2) := HBW.out.trans (hm2.below HBW.out.size HPW.out); clear hs2 hm2 hg2 hq2 hgs hgm HOP HDK HPW))
 refine bodyPost_ret (results_tmp2 rfl _ _ _) rfl ?_
 exact ⟨gd, gs, lg, gm, P2, Q2, rfl, HS.out, HBW.out, HUN.out.1, HUN.out.2⟩
end Go.Proofs.YtopmeedmgjdcgaaGreatDoor

/- Texts that the proof leans on, one behind the other: The reference's one: an act done to Keys (layer 15). The reference's Done: a batch done to Keys (layer 15). The reference's Whole and Same (layer 15). .. -/
import Derived.Test.YtopmeedmgjdcgaaGreatDoorMyf
import Derived.Test.YtopmeedmgjdcgaaGreatDoorMyb
import Derived.Test.YtopmeedmgjdcgaaGreatDoorMyd
import Derived.Test.YtopmeedmgjdcgaaGreatDoorRows
import Derived.Test.YtopmeedmgjdcgaaGreatDoorMya
import Derived.ProofKit
import Derived.LaidMore
import Derived.OpenShut
import Derived.Stop.Joined
import Derived.Lib.LaidTab
import Derived.Carry
import Derived.ChangeSlices
import Derived.Deep.Slices
import Derived.Deep.Strs
import Derived.Lib.SmallJoins
set_option maxRecDepth 100000
set_option maxHeartbeats 16000000
namespace Go.Proofs.YtopmeedmgjdcgaaGreatDoor
open Go.RowKit
structure OnG (w : World) (g2 g3 g4 g7 : Nat) (vK vV : Value) (ac ks ts : List Value) (c1 c2 vk vv : Value) (W : World) : Prop where
 b2 : Blk W g2 [vK, vV] 43
 b3 : Blk W g3 ac 62
 b4 : Blk W g4 [.slice none 0 0, .slice none 0 0] 43
 b7 : Blk W g7 [c1, c2] 43
 rk : OwnR 9 W w.heap.size vk ks
 rv : OwnR 23 W w.heap.size vv ts
 bel : Below w.heap.size w W
 n2 : g2 ≠ g7
 n4 : g4 ≠ g7
 ge : w.heap.size ≤ g7
section
variable {w : World} {g2 g3 g4 g7 : Nat} {vK vV : Value} {ac ks ts : List Value} {c1 c2 vk vv : Value} {X Y : World}
theorem OnG.new (h : OnG w g2 g3 g4 g7 vK vV ac ks ts c1 c2 vk vv X) (hb : Below X.heap.size X Y) : OnG w g2 g3 g4 g7 vK vV ac ks ts c1 c2 vk vv Y :=
 ⟨h.b2.below hb h.b2.lt, h.b3.below hb h.b3.lt, h.b4.below hb h.b4.lt, h.b7.below hb h.b7.lt, h.rk.below hb, h.rv.below hb, h.bel.trans (hb.mono h.bel.size), h.n2, h.n4, h.ge⟩
theorem OnG.drew (h : OnG w g2 g3 g4 g7 vK vV ac ks ts c1 c2 vk vv X) : OnG w g2 g3 g4 g7 vK vV ac ks ts c1 c2 vk vv X.drew := h.new (Below.refl _ _).drew
theorem OnG.appK {vk' : Value} {ks' : List Value} (h : OnG w g2 g3 g4 g7 vK vV ac ks ts c1 c2 vk vv X) (hr : OwnR 9 Y w.heap.size vk' ks') (hg : X.grownBy Y vk.ownBlock) : OnG w g2 g3 g4 g7 vK vV ac ks' ts c1 c2 vk' vv Y := by
 have hc : ∀ (k : Nat) (ar : Array Value) (t : TypeId), X.heap[k]? = some (Obj.cells ar t (0, 0)) → t ≠ 9 → Y.heap[k]? = X.heap[k]? := fun k ar t hh ht => hg.block k (Array.getElem?_eq_some_iff.1 hh).1 (fun e => h.rk.neH hh ht e.symm)
 exact ⟨blk_same h.b2 (hc _ _ _ h.b2 (by decide)), blk_same h.b3 (hc _ _ _ h.b3 (by decide)), blk_same h.b4 (hc _ _ _ h.b4 (by decide)), blk_same h.b7 (hc _ _ _ h.b7 (by decide)), hr, h.rv.same (fun k ar hh _ => hc k ar _ hh (by decide)), ⟨hg.os.trans h.bel.os, hg.tape.trans h.bel.tape, hg.output.trans h.bel.output, Nat.le_trans h.bel.size hg.size, fun k hk => (hg.block k (Nat.lt_of_lt_of_le hk h.bel.size) (fun e => by have := (h.rk.lt k e.symm).1; omega)).trans (h.bel.block k hk)⟩, h.n2, h.n4, h.ge⟩
theorem OnG.appV {vv' : Value} {ts' : List Value} (h : OnG w g2 g3 g4 g7 vK vV ac ks ts c1 c2 vk vv X) (hr : OwnR 23 Y w.heap.size vv' ts') (hg : X.grownBy Y vv.ownBlock) : OnG w g2 g3 g4 g7 vK vV ac ks ts' c1 c2 vk vv' Y := by
 have hc : ∀ (k : Nat) (ar : Array Value) (t : TypeId), X.heap[k]? = some (Obj.cells ar t (0, 0)) → t ≠ 23 → Y.heap[k]? = X.heap[k]? := fun k ar t hh ht => hg.block k (Array.getElem?_eq_some_iff.1 hh).1 (fun e => h.rv.neH hh ht e.symm)
 exact ⟨blk_same h.b2 (hc _ _ _ h.b2 (by decide)), blk_same h.b3 (hc _ _ _ h.b3 (by decide)), blk_same h.b4 (hc _ _ _ h.b4 (by decide)), blk_same h.b7 (hc _ _ _ h.b7 (by decide)), h.rk.same (fun k ar hh _ => hc k ar _ hh (by decide)), hr, ⟨hg.os.trans h.bel.os, hg.tape.trans h.bel.tape, hg.output.trans h.bel.output, Nat.le_trans h.bel.size hg.size, fun k hk => (hg.block k (Nat.lt_of_lt_of_le hk h.bel.size) (fun e => by have := (h.rv.lt k e.symm).1; omega)).trans (h.bel.block k hk)⟩, h.n2, h.n4, h.ge⟩
theorem OnG.set {d1 d2 : Value} (h : OnG w g2 g3 g4 g7 vK vV ac ks ts c1 c2 vk vv X) (hb : Blk Y g7 [d1, d2] 43) (ho : Only g7 X Y) : OnG w g2 g3 g4 g7 vK vV ac ks ts d1 d2 vk vv Y := by
 have hc : ∀ (k : Nat) (ar : Array Value) (t : TypeId), X.heap[k]? = some (Obj.cells ar t (0, 0)) → t ≠ 43 → Y.heap[k]? = X.heap[k]? := fun k ar t hh ht => ho.block k (fun e => by
  have h4 := h.b7
  unfold Blk at h4
  rw [e, h4] at hh
  simp only [Option.some.injEq, Obj.cells.injEq] at hh
  exact ht hh.2.1.symm) (Array.getElem?_eq_some_iff.1 hh).1
 exact ⟨h.b2.only ho h.n2, blk_same h.b3 (hc _ _ _ h.b3 (by decide)), h.b4.only ho h.n4, hb, h.rk.same (fun k ar hh _ => hc k ar _ hh (by decide)), h.rv.same (fun k ar hh _ => hc k ar _ hh (by decide)), h.bel.trans (ho.below h.ge h.bel.size), h.n2, h.n4, h.ge⟩
end
theorem sz_str : ∀ w, (sizeOf 9).run Tryz.prog w = .ok 1 w := fun w => by kernel_rfl
theorem sz_byt : ∀ w, (sizeOf 23).run Tryz.prog w = .ok 1 w := fun w => by kernel_rfl
theorem el_strs : Tryz.prog.elem 40 = 9 := by kernel_rfl
theorem el_byts : Tryz.prog.elem 41 = 23 := by kernel_rfl
theorem str_one (m : KM) : ∀ u ∈ (m.map fun p => strV p.1), u.oneCell' = true := fun u hu => by
 obtain ⟨p, _, rfl⟩ := List.mem_map.1 hu
 rfl
theorem pl_le (ks : List Bs) (key : Bs) : plI ks key ≤ ks.length := by
 unfold plI
 exact (List.takeWhile_sublist _).length_le
def AlS (R : Nat → Prop) (w : World) (us : List Value) (m : KM) : Prop := us.length = m.length ∧ ∀ (j : Nat) u p, us[j]? = some u → m[j]? = some p → Sta R w (fun W => Reads W u p.2)
theorem AlS.take {R : Nat → Prop} {w : World} {us : List Value} {m : KM} (h : AlS R w us m) (i : Nat) : AlS R w (us.take i) (m.take i) := by
 refine ⟨by rw [List.length_take, List.length_take, h.1], fun j u p h1 h2 => ?_⟩
 have hj : j < i := by have := (List.getElem?_eq_some_iff.1 h1).1; rw [List.length_take] at this; omega
 rw [List.getElem?_take_of_lt hj] at h1 h2
 exact h.2 j u p h1 h2
theorem AlS.drop {R : Nat → Prop} {w : World} {us : List Value} {m : KM} (h : AlS R w us m) (i : Nat) : AlS R w (us.drop i) (m.drop i) := by
 refine ⟨by rw [List.length_drop, List.length_drop, h.1], fun j u p h1 h2 => ?_⟩
 rw [List.getElem?_drop] at h1 h2
 exact h.2 _ u p h1 h2
theorem AlS.app {R : Nat → Prop} {w : World} {us vs : List Value} {m k : KM} (h : AlS R w us m) (h2 : AlS R w vs k) : AlS R w (us ++ vs) (m ++ k) := by
 refine ⟨by rw [List.length_append, List.length_append, h.1, h2.1], fun j u p e1 e2 => ?_⟩
 by_cases hj : j < us.length
 · rw [List.getElem?_append_left hj] at e1
   rw [List.getElem?_append_left (by rw [← h.1]; exact hj)] at e2
   exact h.2 j u p e1 e2
 · rw [List.getElem?_append_right (by omega)] at e1
   rw [List.getElem?_append_right (by rw [← h.1]; omega), ← h.1] at e2
   exact h2.2 _ u p e1 e2
theorem AlS.one {R : Nat → Prop} {w : World} {u : Value} {p : Bs × Bs} (h : Sta R w (fun W => Reads W u p.2)) : AlS R w [u] [p] := ⟨rfl, fun j v q e1 e2 => by
 cases j with
 | zero => simp at e1 e2; rw [← e1, ← e2]; exact h
 | succ j => simp at e1⟩
theorem AlS.nil (R : Nat → Prop) (w : World) : AlS R w [] [] := ⟨rfl, fun j u p h => by cases h⟩
theorem one_fin {R : Nat → Prop} {w W : World} {vk vv : Value} {ks ts : List Value} {m2 : KM} (hR : ∀ k, R k → k < w.heap.size) (hb : Below w.heap.size w W) (hk : OwnR 9 W w.heap.size vk ks) (hv : OwnR 23 W w.heap.size vv ts) (e1 : ks = m2.map fun p => strV p.1) (hal : AlS R w ts m2) : KyS R W vk vv m2 :=
 KyS.of hR (by rw [← e1]; exact hk) hv hal.1 (fun j u p h1 h2 => (hal.2 j u p h1 h2).below hb)
theorem var_keysr {w : World} {g : Nat} {x y : Value} (hb : Blk w g [x, y] 43) {fn : Func} {p : Tmp} (h : fn.results = #[.cell p 43]) (tmps : Array Value) (hp : tmps.getD p undef = .pointer (some ⟨g, 0, none⟩)) : (results fn tmps).run Tryz.prog w = .ok (.agg [x, y].toArray) w := by
 have hp' : tmps[p]?.getD undef = .pointer (some ⟨g, 0, none⟩) := by simpa using hp
 simp [results, h, hp', asAddr, var_keys hb]
set_option linter.unusedSimpArgs false in
theorem oOne_any (R : Nat → Prop) (vK vV : Value) (m : KM) (a : ActT) (vd : Value) (w : World) (hR : ∀ k, R k → k < w.heap.size) (hm : KyS R w vK vV m) (hup : Rise m) (hd : Sta R w (fun W => Reads W vd a.data)) (hl : m.length < 100000) : Calls Tryz.prog 75 #[.agg [vK, vV].toArray, .agg (actC a vd).toArray] w fun e w' => ∃ uK uV, e = .returned (.agg [uK, uV].toArray) ∧ KyS R w' uK uV (oneM m a) ∧ Below w.heap.size w w' := by
 obtain ⟨us, hul, hcK, hcV, hone, hsta⟩ := hm.rows
 obtain ⟨N, HN⟩ := sqn (m.length)
 obtain ⟨adK, cK, hvK, hk1, hk2, _⟩ := hm.k
 obtain ⟨adV, cV, hvV, hv1, hv2, _⟩ := hm.v
 rw [List.length_map, ← HN.out] at hvK hvV hk1 hv1
 subst hvK
 subst hvV
 obtain ⟨ax, nx, cx, hvd⟩ := hd.now.form
 subst hvd
 obtain ⟨i, HPI⟩ := sqn (plI (m.map (·.1)) a.key)
 obtain ⟨pb, HPB⟩ := sqn (plB (m.map (·.1)) a.key)
 have HPL : Hid (∀ W, Below w.heap.size w W → Calls Tryz.prog 85 #[.agg [.slice adK N cK, .slice adV N cV].toArray, .string (strB a.key)] W fun e w' => e = .returned (.tuple #[.int .i64 (i : Int), .bool pb]) ∧ Below W.heap.size W w') := fun W hb => by
  rw [HPI.out, HPB.out]
  exact oPlace_any _ _ _ a.key W ((hm.k.now).below hb) (by rw [List.length_map]; omega)
 have HCUT : Hid (oneM m a = m.take i ++ ((if a.set then [(a.key, a.data)] else []) ++ m.drop (if pb = true then i + 1 else i))) := by
  show _ = _
  rw [HPI.out, HPB.out]
  exact oneM_cut hup a
 have hile : i ≤ N := by rw [HPI.out, HN.out]; have := pl_le (m.map (·.1)) a.key; rw [List.length_map] at this; exact this
 have hile2 : pb = true → i + 1 ≤ N := fun h => by
  rw [HPB.out] at h
  have := plB_lt h
  rw [List.length_map] at this
  rw [HPI.out, HN.out]
  omega
 have hax : KyS R w (.slice adK N cK) (.slice adV N cV) m := hm
 obtain ⟨sk, HSK⟩ := sqn (strB a.key)
 obtain ⟨st, HST⟩ := sqn (a.set)
 rw [show actC a (.slice ax nx cx) = [.string (strB a.key), .bool a.set, .slice ax nx cx] from rfl]
 rw [← HSK.out] at HPL ⊢
 rw [← HST.out] at HCUT ⊢
 obtain ⟨i2, HI2⟩ := sqn (if pb = true then i + 1 else i)
 rw [← HI2.out] at HCUT
 have hi2 : i2 ≤ N := by rw [HI2.out]; split; exact hile2 (by assumption); exact hile
 have HRX : Hid (∀ W, Below w.heap.size w W → CellsV W (.slice adK N cK) (m.map fun p => strV p.1) ∧ CellsV W (.slice adV N cV) us) := fun W hb => ⟨hcK.below hb, hcV.below hb⟩
 have HRW : Hid ((∀ u ∈ us, u.oneCell' = true) ∧ (∀ (j : Nat) u p, us[j]? = some u → m[j]? = some p → Sta R w (fun W => Reads W u p.2)) ∧ Sta R w (fun W => Reads W (.slice ax nx cx) a.data) ∧ ∀ k, R k → k < w.heap.size) := ⟨hone, hsta, hd, hR⟩
 have HCP : Hid (N ≤ cK ∧ N ≤ cV) := ⟨hk1, hv1⟩
 have HLN : Hid (m.length < 100000 ∧ us.length = m.length) := ⟨hl, hul⟩
 have HIL : Hid (i ≤ N ∧ i2 ≤ N) := ⟨hile, hi2⟩
 have HIU : Hid ((i ≤ (m.map fun p => strV p.1).length ∧ i ≤ us.length) ∧ i2 ≤ (m.map fun p => strV p.1).length ∧ i2 ≤ us.length) := by rw [List.length_map, hul, ← HN.out]; exact ⟨⟨hile, hile⟩, hi2, hi2⟩
 have HFA : Hid (pb = true → IntKind.i64.wrap ((i : Int) + 1) = (i2 : Int)) := fun h => by
  have h1 := HI2.out
  rw [if_pos h] at h1
  have h2 := HLN.out.1
  have h3 := HN.out
  have h4 := HIL.out.2
  rw [h1, IntKind.wrap_i64]
  omega
 have HFB : Hid (pb = false → i = i2) := fun h => by have h1 := HI2.out; rw [h] at h1; exact (by simpa using h1.symm)
 clear hm hup hd hl hR hul hcK hcV hone hsta hk1 hk2 hv1 hv2 hile hile2 hi2
 go_enter Tryz.func75, Tryz.ntmps75
 obtain ⟨tk0, tk1, tk2, tk3, tk4, tk5, tk6, tk7⟩ := sqk8
 go_upto_region 3 with (first
  | (clear tk0; with_reducible refine wpSeq_boxW 43 (.tmp 0) [.slice adK N cK, .slice adV N cV] ?_ ?_ ?_ ?_
     · rfl
     · rfl
     · rfl
     intro g2 x1 nn; have H2 : Hid (Blk x1 g2 [.slice adK N cK, .slice adV N cV] 43) := nn.blk; have HB : Hid (Below w.heap.size w x1) := nn.below; clear nn)
  | (clear tk1; with_reducible refine wpSeq_boxW 62 (.tmp 1) [.string sk, .bool st, .slice ax nx cx] ?_ ?_ ?_ ?_
     · rfl
     · rfl
     · rfl
     intro g3 x2 nn; have H3 : Hid (Blk x2 g3 [.string sk, .bool st, .slice ax nx cx] 62) := nn.blk; replace H2 : Hid (Blk x2 g2 [.slice adK N cK, .slice adV N cV] 43) := H2.out.below nn.below H2.out.lt; replace HB : Hid (Below w.heap.size w x2) := HB.out.trans (nn.below.mono HB.out.size); clear nn)
  | (clear tk2; with_reducible refine wpSeq_allocK ?_ ?_ ?_
     · rfl
     · rfl
     intro g4 x3 nn; have H4 : Hid (Blk x3 g4 [.slice none 0 0, .slice none 0 0] 43) := nn.blk; have H4G : Hid (w.heap.size ≤ g4) := Nat.le_trans HB.out.size nn.ge; replace H2 : Hid (Blk x3 g2 [.slice adK N cK, .slice adV N cV] 43) := H2.out.below nn.below H2.out.lt; replace H3 : Hid (Blk x3 g3 [.string sk, .bool st, .slice ax nx cx] 62) := H3.out.below nn.below H3.out.lt; replace HB : Hid (Below w.heap.size w x3) := HB.out.trans (nn.below.mono HB.out.size); have c3 : x3.cell? ⟨g3, 0, none⟩ = some (.string sk) := H3.out.cell 0; clear nn)
  | (clear tk3; with_reducible refine wpSeq_loadW 43 (.tmp 2) g2 0 [.slice adK N cK, .slice adV N cV] _ (Blk.range H2.out) Tryz.underlying43 rfl (info_keys _ _) ?_ ?_ ?_ ?_
     · rfl
     · rfl
     · rfl)
  | (clear tk4; go_at_call 85; refine (HPL.out _ HB.out).mono ?_; rintro e4 x4 ⟨rfl, bl⟩
     replace H2 : Hid (Blk x4 g2 [.slice adK N cK, .slice adV N cV] 43) := H2.out.below bl H2.out.lt; replace H3 : Hid (Blk x4 g3 [.string sk, .bool st, .slice ax nx cx] 62) := H3.out.below bl H3.out.lt; replace H4 : Hid (Blk x4 g4 [.slice none 0 0, .slice none 0 0] 43) := H4.out.below bl H4.out.lt; replace HB := sqt HB bl; clear bl c3)
  | (clear tk5; with_reducible refine wpSeq_buildK0 ?_ ?_ ?_
     · rfl
     · rfl)
  | (clear tk6; with_reducible refine wpSeq_allocK ?_ ?_ ?_
     · rfl
     · rfl
     intro g7 x5 nn; have H7 : Hid (Blk x5 g7 [.slice none 0 0, .slice none 0 0] 43 ∧ Below x4.heap.size x4 x5 ∧ x4.heap.size ≤ g7) := ⟨nn.blk, nn.below, nn.ge⟩; clear nn)
  | (clear tk7; with_reducible refine wpSeq_storeRow 43 (.tmp 7) (.tmp 15) g7 [.slice none 0 0, .slice none 0 0] [.slice none 0 0, .slice none 0 0] H7.out.1 rfl (info_keys _ _) (one_keys _ _ _ _ _ _) ?_ ?_ ?_ ?_ ?_
     · rfl
     · rfl
     · rfl
     · rfl
     intro y0 sr; have hb7 : Below x4.heap.size x4 y0 := H7.out.2.1.trans (sr.only.below H7.out.2.2 H7.out.2.1.size); have HI : Hid (OnG w g2 g3 g4 g7 (.slice adK N cK) (.slice adV N cV) [.string sk, .bool st, .slice ax nx cx] [] [] (.slice none 0 0) (.slice none 0 0) (.slice none 0 0) (.slice none 0 0) y0) := ⟨H2.out.below hb7 H2.out.lt, H3.out.below hb7 H3.out.lt, H4.out.below hb7 H4.out.lt, sr.blk, OwnR.nil _ _ _, OwnR.nil _ _ _, HB.out.trans (hb7.mono HB.out.size), (by have h1 := H2.out.lt; have h2 := H7.out.2.2; omega), (by have h1 := H4.out.lt; have h2 := H7.out.2.2; omega), Nat.le_trans HB.out.size H7.out.2.2⟩
     have HG4 : Hid (w.heap.size ≤ g4) := H4G.out; clear sr hb7))
 clear H2 H3 H4 H7 HB HPL H4G
 refine wp_region_held_drew (S := fun wx => Blk wx g2 [.slice adK N cK, .slice adV N cV] 43) (by kernel_rfl) HI.out.b2.drew ?_
 intro hS
 refine tkc 0 (.pointer (some ⟨g7, 0, none⟩)) rfl hS ?_
 simp only [Act.put, sq]
 refine tkc 2 (.pointer (some ⟨g2, 0, none⟩)) rfl hS ?_
 simp only [Act.put, sq]
 refine tka 3 (.slice adK N cK) rfl (fun wx hx => by (have cx : wx.cell? ⟨g2, 0, none⟩ = some (.slice adK N cK) := hx.cell 0; simp [go_sem, cx])) hS ?_
 simp only [Act.put, sq]
 refine tkc 4 (.int .i64 (i : Int)) rfl hS ?_
 simp only [Act.put, sq]
 refine tka 5 (.slice adK i cK) rfl (fun wx hx => by exact cut_hi 40 9 Tryz.underlying40 el_strs sz_str adK N cK i HIL.out.1 HCP.out.1 _ _ (.tmp 19) (.tmp 20) rfl rfl rfl _) hS ?_
 simp only [Act.put, sq]
 have cq : y0.drew.cell? ⟨g7, 0, none⟩ = some (.slice none 0 0) := HI.out.drew.b7.cell 0
 refine wpAnyH_step 1 (.slice none 0 0) y0.drew (by kernel_rfl) rfl (by rfl) (by simp [go_sem, cq]) hS ?_
 clear cq
 simp only [Act.put, sq]
 refine wpAnyH_law 6 (by kernel_rfl) rfl (by rfl) (app_any 40 9 Tryz.underlying40 _ _ Tryz.infoStr rfl (by decide) (.tmp 17) (.tmp 21) w.heap.size (.slice none 0 0) (.slice adK i cK) (([] : List Value)) ((m.map fun p => strV p.1).take i) HI.out.drew.rk (CellsV.hi (HRX.out _ HI.out.drew.bel).1 HIU.out.1.1) (fun u hu => str_one m u (List.mem_of_mem_take hu)) (by have h1 := HLN.out; simp [List.length_take]; omega) HI.out.bel.size rfl rfl rfl ?_)
 intro v3 z3 hr3 hg3 _
 obtain ⟨a3, c3, hv3⟩ := hr3.form
 obtain ⟨n3, hw3⟩ : ∃ n, v3 = .slice a3 n c3 := ⟨_, hv3⟩
 clear hv3
 subst hw3
 have hI3 := HI.out.drew.appK hr3 hg3
 refine ⟨hI3.b2, ?_⟩
 simp only [Act.put, sq]
 refine tkc 7 (.pointer (some ⟨g7, 0, none⟩)) rfl hI3.b2 ?_
 simp only [Act.put, sq]
 have cz : z3.cell? ⟨g7, 0, none⟩ = some (.slice none 0 0) := hI3.b7.cell 0
 have dz : z3.frozen? ⟨g7, 0, none⟩ = false := hI3.b7.frozen 0
 obtain ⟨y3, HX3⟩ : ∃ y, Hid (y = z3.setCell ⟨g7, 0, none⟩ (.slice a3 n3 c3)) := ⟨_, rfl⟩
 have ho3 : Only g7 z3 y3 := by rw [HX3.out]; exact Only.setCell (Only.refl _ _) _ _
 have hJ3 := hI3.set (Y := y3) (d1 := .slice a3 n3 c3) (d2 := .slice none 0 0) (by rw [HX3.out]; exact hI3.b7.set 0 _) ho3
 refine wpAnyH_skip 8 y3 (by kernel_rfl) rfl (by rfl) (by rw [HX3.out]; simp [go_sem, cz, dz]) hJ3.b2 ?_
 simp only [Act.put, sq]
 refine wpAnyH_done (by kernel_rfl) ?_ _
 clear hS cz dz hr3 hg3 ho3 HX3 hI3
 replace HI := Hid.mk' hJ3
 clear hJ3
 go_upto_region 4 with fail
 refine wp_region_held_drew (S := fun wx => Blk wx g2 [.slice adK N cK, .slice adV N cV] 43) (by kernel_rfl) HI.out.b2.drew ?_
 intro hS
 refine tkc 0 (.pointer (some ⟨g7, 1, none⟩)) rfl hS ?_
 simp only [Act.put, sq]
 refine tkc 2 (.pointer (some ⟨g2, 1, none⟩)) rfl hS ?_
 simp only [Act.put, sq]
 refine tka 3 (.slice adV N cV) rfl (fun wx hx => by (have cx : wx.cell? ⟨g2, 1, none⟩ = some (.slice adV N cV) := hx.cell 1; simp [go_sem, cx])) hS ?_
 simp only [Act.put, sq]
 refine tkc 4 (.int .i64 (i : Int)) rfl hS ?_
 simp only [Act.put, sq]
 refine tka 5 (.slice adV i cV) rfl (fun wx hx => by exact cut_hi 41 23 Tryz.underlying41 el_byts sz_byt adV N cV i HIL.out.1 HCP.out.2 _ _ (.tmp 27) (.tmp 28) rfl rfl rfl _) hS ?_
 simp only [Act.put, sq]
 have cq : y3.drew.cell? ⟨g7, 1, none⟩ = some (.slice none 0 0) := HI.out.drew.b7.cell 1
 refine wpAnyH_step 1 (.slice none 0 0) y3.drew (by kernel_rfl) rfl (by rfl) (by simp [go_sem, cq]) hS ?_
 clear cq
 simp only [Act.put, sq]
 refine wpAnyH_law 6 (by kernel_rfl) rfl (by rfl) (app_any 41 23 Tryz.underlying41 _ _ Tryz.infobsJ rfl (by decide) (.tmp 25) (.tmp 29) w.heap.size (.slice none 0 0) (.slice adV i cV) (([] : List Value)) (us.take i) HI.out.drew.rv (CellsV.hi (HRX.out _ HI.out.drew.bel).2 HIU.out.1.2) (fun u hu => HRW.out.1 u (List.mem_of_mem_take hu)) (by have h1 := HLN.out; simp [List.length_take]; omega) HI.out.bel.size rfl rfl rfl ?_)
 intro v4 z4 hr4 hg4 _
 obtain ⟨a4, c4, hv4⟩ := hr4.form
 obtain ⟨n4, hw4⟩ : ∃ n, v4 = .slice a4 n c4 := ⟨_, hv4⟩
 clear hv4
 subst hw4
 have hI4 := HI.out.drew.appV hr4 hg4
 refine ⟨hI4.b2, ?_⟩
 simp only [Act.put, sq]
 refine tkc 7 (.pointer (some ⟨g7, 1, none⟩)) rfl hI4.b2 ?_
 simp only [Act.put, sq]
 have cz : z4.cell? ⟨g7, 1, none⟩ = some (.slice none 0 0) := hI4.b7.cell 1
 have dz : z4.frozen? ⟨g7, 1, none⟩ = false := hI4.b7.frozen 1
 obtain ⟨y4, HX4⟩ : ∃ y, Hid (y = z4.setCell ⟨g7, 1, none⟩ (.slice a4 n4 c4)) := ⟨_, rfl⟩
 have ho4 : Only g7 z4 y4 := by rw [HX4.out]; exact Only.setCell (Only.refl _ _) _ _
 have hJ4 := hI4.set (Y := y4) (d1 := .slice a3 n3 c3) (d2 := .slice a4 n4 c4) (by rw [HX4.out]; exact hI4.b7.set 1 _) ho4
 refine wpAnyH_skip 8 y4 (by kernel_rfl) rfl (by rfl) (by rw [HX4.out]; simp [go_sem, cz, dz]) hJ4.b2 ?_
 simp only [Act.put, sq]
 refine wpAnyH_done (by kernel_rfl) ?_ _
 clear hS cz dz hr4 hg4 ho4 HX4 hI4
 replace HI := Hid.mk' hJ4
 clear hJ4
 have HAL : Hid (AlS R w us m) := ⟨HLN.out.2, HRW.out.2.1⟩
 cases st
 · skip
   have c5 : y4.cell? ⟨g3, 1, none⟩ = some (.bool false) := HI.out.b3.cell 1
   go_upto_region 8 with fail
   clear c5
   cases pb
   · skip
     obtain rfl := HFB.out rfl
     go_upto_region 10 with fail
     refine wp_region_held_drew (S := fun wx => Blk wx g2 [.slice adK N cK, .slice adV N cV] 43) (by kernel_rfl) HI.out.b2.drew ?_
     intro hS; refine tkc 0 (.pointer (some ⟨g7, 0, none⟩)) rfl hS ?_; simp only [Act.put, sq]; refine tkc 2 (.pointer (some ⟨g2, 0, none⟩)) rfl hS ?_; simp only [Act.put, sq]; refine tka 3 (.slice adK N cK) rfl (fun wx hx => by (have cx : wx.cell? ⟨g2, 0, none⟩ = some (.slice adK N cK) := hx.cell 0; simp [go_sem, cx])) hS ?_
     simp only [Act.put, sq]; refine tkc 4 (.int .i64 (i : Int)) rfl hS ?_; simp only [Act.put, sq]; refine tka 5 (loV adK N cK i) rfl (fun wx hx => by exact cut_lo 40 9 Tryz.underlying40 el_strs sz_str adK N cK i HIL.out.2 HCP.out.1 _ _ (.tmp 54) (.tmp 55) rfl rfl rfl _) hS ?_
     simp only [Act.put, sq]; have cq : y4.drew.cell? ⟨g7, 0, none⟩ = some (.slice a3 n3 c3) := HI.out.drew.b7.cell 0; refine wpAnyH_step 1 (.slice a3 n3 c3) y4.drew (by kernel_rfl) rfl (by rfl) (by simp [go_sem, cq]) hS ?_
     clear cq; simp only [Act.put, sq]; refine wpAnyH_law 6 (by kernel_rfl) rfl (by rfl) (app_any 40 9 Tryz.underlying40 _ _ Tryz.infoStr rfl (by decide) (.tmp 52) (.tmp 56) w.heap.size (.slice a3 n3 c3) (loV adK N cK i) ((([] : List Value) ++ ((m.map fun p => strV p.1).take i))) ((m.map fun p => strV p.1).drop i) HI.out.drew.rk (CellsV.lo (HRX.out _ HI.out.drew.bel).1 HIU.out.2.1) (fun u hu => str_one m u (List.mem_of_mem_drop hu)) (by have h1 := HLN.out; simp [List.length_take, List.length_drop]; omega) HI.out.bel.size rfl rfl rfl ?_)
     intro v10 z10 hr10 hg10 _; obtain ⟨a10, c10, hv10⟩ := hr10.form; obtain ⟨n10, hw10⟩ : ∃ n, v10 = .slice a10 n c10 := ⟨_, hv10⟩; clear hv10; subst hw10; have hI10 := HI.out.drew.appK hr10 hg10; refine ⟨hI10.b2, ?_⟩; simp only [Act.put, sq]; refine tkc 7 (.pointer (some ⟨g7, 0, none⟩)) rfl hI10.b2 ?_; simp only [Act.put, sq]; have cz : z10.cell? ⟨g7, 0, none⟩ = some (.slice a3 n3 c3) := hI10.b7.cell 0; have dz : z10.frozen? ⟨g7, 0, none⟩ = false := hI10.b7.frozen 0; obtain ⟨y10, HX10⟩ : ∃ y, Hid (y = z10.setCell ⟨g7, 0, none⟩ (.slice a10 n10 c10)) := ⟨_, rfl⟩; have ho10 : Only g7 z10 y10 := by rw [HX10.out]; exact Only.setCell (Only.refl _ _) _ _
     have hJ10 := hI10.set (Y := y10) (d1 := .slice a10 n10 c10) (d2 := .slice a4 n4 c4) (by rw [HX10.out]; exact hI10.b7.set 0 _) ho10
     refine wpAnyH_skip 8 y10 (by kernel_rfl) rfl (by rfl) (by rw [HX10.out]; simp [go_sem, cz, dz]) hJ10.b2 ?_
     simp only [Act.put, sq]; refine wpAnyH_done (by kernel_rfl) ?_ _
     clear hS cz dz hr10 hg10 ho10 HX10 hI10; replace HI := Hid.mk' hJ10; clear hJ10
     go_upto_region 11 with fail
     refine wp_region_held_drew (S := fun wx => Blk wx g2 [.slice adK N cK, .slice adV N cV] 43) (by kernel_rfl) HI.out.b2.drew ?_
     intro hS; refine tkc 0 (.pointer (some ⟨g7, 1, none⟩)) rfl hS ?_; simp only [Act.put, sq]; refine tkc 2 (.pointer (some ⟨g2, 1, none⟩)) rfl hS ?_; simp only [Act.put, sq]; refine tka 3 (.slice adV N cV) rfl (fun wx hx => by (have cx : wx.cell? ⟨g2, 1, none⟩ = some (.slice adV N cV) := hx.cell 1; simp [go_sem, cx])) hS ?_
     simp only [Act.put, sq]; refine tkc 4 (.int .i64 (i : Int)) rfl hS ?_; simp only [Act.put, sq]; refine tka 5 (loV adV N cV i) rfl (fun wx hx => by exact cut_lo 41 23 Tryz.underlying41 el_byts sz_byt adV N cV i HIL.out.2 HCP.out.2 _ _ (.tmp 62) (.tmp 63) rfl rfl rfl _) hS ?_
     simp only [Act.put, sq]; have cq : y10.drew.cell? ⟨g7, 1, none⟩ = some (.slice a4 n4 c4) := HI.out.drew.b7.cell 1; refine wpAnyH_step 1 (.slice a4 n4 c4) y10.drew (by kernel_rfl) rfl (by rfl) (by simp [go_sem, cq]) hS ?_
     clear cq; simp only [Act.put, sq]; refine wpAnyH_law 6 (by kernel_rfl) rfl (by rfl) (app_any 41 23 Tryz.underlying41 _ _ Tryz.infobsJ rfl (by decide) (.tmp 60) (.tmp 64) w.heap.size (.slice a4 n4 c4) (loV adV N cV i) ((([] : List Value) ++ (us.take i))) (us.drop i) HI.out.drew.rv (CellsV.lo (HRX.out _ HI.out.drew.bel).2 HIU.out.2.2) (fun u hu => HRW.out.1 u (List.mem_of_mem_drop hu)) (by have h1 := HLN.out; simp [List.length_take, List.length_drop]; omega) HI.out.bel.size rfl rfl rfl ?_)
     intro v11 z11 hr11 hg11 _; obtain ⟨a11, c11, hv11⟩ := hr11.form; obtain ⟨n11, hw11⟩ : ∃ n, v11 = .slice a11 n c11 := ⟨_, hv11⟩; clear hv11; subst hw11; have hI11 := HI.out.drew.appV hr11 hg11; refine ⟨hI11.b2, ?_⟩; simp only [Act.put, sq]; refine tkc 7 (.pointer (some ⟨g7, 1, none⟩)) rfl hI11.b2 ?_; simp only [Act.put, sq]; have cz : z11.cell? ⟨g7, 1, none⟩ = some (.slice a4 n4 c4) := hI11.b7.cell 1; have dz : z11.frozen? ⟨g7, 1, none⟩ = false := hI11.b7.frozen 1; obtain ⟨y11, HX11⟩ : ∃ y, Hid (y = z11.setCell ⟨g7, 1, none⟩ (.slice a11 n11 c11)) := ⟨_, rfl⟩; have ho11 : Only g7 z11 y11 := by rw [HX11.out]; exact Only.setCell (Only.refl _ _) _ _
     have hJ11 := hI11.set (Y := y11) (d1 := .slice a10 n10 c10) (d2 := .slice a11 n11 c11) (by rw [HX11.out]; exact hI11.b7.set 1 _) ho11
     refine wpAnyH_skip 8 y11 (by kernel_rfl) rfl (by rfl) (by rw [HX11.out]; simp [go_sem, cz, dz]) hJ11.b2 ?_
     simp only [Act.put, sq]; refine wpAnyH_done (by kernel_rfl) ?_ _
     clear hS cz dz hr11 hg11 ho11 HX11 hI11; replace HI := Hid.mk' hJ11; clear hJ11; obtain ⟨tc0, tc1⟩ := sqk2
     go_wp2_with (first
      | (clear tc0; with_reducible refine wpSeq_loadW 43 (.tmp 7) g7 0 [.slice a10 n10 c10, .slice a11 n11 c11] _ (Blk.range HI.out.b7) Tryz.underlying43 rfl (info_keys _ _) ?_ ?_ ?_ ?_
         · rfl
         · rfl
         · rfl)
      | (clear tc1; with_reducible refine wpSeq_storeRow 43 (.tmp 4) (.tmp 67) g4 [.slice none 0 0, .slice none 0 0] [.slice a10 n10 c10, .slice a11 n11 c11] HI.out.b4 rfl (info_keys _ _) (one_keys _ _ _ _ _ _) ?_ ?_ ?_ ?_ ?_
         · rfl
         · rfl
         · rfl
         · rfl
         intro y12 sr; have HF : Hid (Blk y12 g4 [.slice a10 n10 c10, .slice a11 n11 c11] 43 ∧ Only g4 y11 y12) := ⟨sr.blk, sr.only⟩; clear sr))
     refine bodyPost_ret (var_keysr HF.out.1 rfl _ rfl) rfl ?_
     have hc : ∀ (k : Nat) (ar : Array Value) (t : TypeId), y11.heap[k]? = some (Obj.cells ar t (0, 0)) → t ≠ 43 → y12.heap[k]? = y11.heap[k]? := fun k ar t hh ht => HF.out.2.block k (fun e => by
      have h4 := HI.out.b4; unfold Blk at h4; rw [e, h4] at hh; simp only [Option.some.injEq, Obj.cells.injEq] at hh; exact ht hh.2.1.symm) (Array.getElem?_eq_some_iff.1 hh).1
     have hbw : Below w.heap.size w y12 := HI.out.bel.trans (HF.out.2.below HG4.out HI.out.bel.size); refine ⟨_, _, rfl, ?_, hbw⟩; rw [HCUT.out]; exact one_fin HRW.out.2.2.2 hbw (HI.out.rk.same (fun k ar hh _ => hc k ar _ hh (by decide))) (HI.out.rv.same (fun k ar hh _ => hc k ar _ hh (by decide))) (by simp [List.map_append, List.map_take, List.map_drop, strV]) (by simpa using (AlS.app (AlS.app (AlS.nil _ _) (HAL.out.take i)) (HAL.out.drop i)))
   · skip
     have f9 := HFA.out rfl
     go_upto_region 10 with fail
     clear f9; refine wp_region_held_drew (S := fun wx => Blk wx g2 [.slice adK N cK, .slice adV N cV] 43) (by kernel_rfl) HI.out.b2.drew ?_
     intro hS; refine tkc 0 (.pointer (some ⟨g7, 0, none⟩)) rfl hS ?_; simp only [Act.put, sq]; refine tkc 2 (.pointer (some ⟨g2, 0, none⟩)) rfl hS ?_; simp only [Act.put, sq]; refine tka 3 (.slice adK N cK) rfl (fun wx hx => by (have cx : wx.cell? ⟨g2, 0, none⟩ = some (.slice adK N cK) := hx.cell 0; simp [go_sem, cx])) hS ?_
     simp only [Act.put, sq]; refine tkc 4 (.int .i64 (i2 : Int)) rfl hS ?_; simp only [Act.put, sq]; refine tka 5 (loV adK N cK i2) rfl (fun wx hx => by exact cut_lo 40 9 Tryz.underlying40 el_strs sz_str adK N cK i2 HIL.out.2 HCP.out.1 _ _ (.tmp 54) (.tmp 55) rfl rfl rfl _) hS ?_
     simp only [Act.put, sq]; have cq : y4.drew.cell? ⟨g7, 0, none⟩ = some (.slice a3 n3 c3) := HI.out.drew.b7.cell 0; refine wpAnyH_step 1 (.slice a3 n3 c3) y4.drew (by kernel_rfl) rfl (by rfl) (by simp [go_sem, cq]) hS ?_
     clear cq; simp only [Act.put, sq]; refine wpAnyH_law 6 (by kernel_rfl) rfl (by rfl) (app_any 40 9 Tryz.underlying40 _ _ Tryz.infoStr rfl (by decide) (.tmp 52) (.tmp 56) w.heap.size (.slice a3 n3 c3) (loV adK N cK i2) ((([] : List Value) ++ ((m.map fun p => strV p.1).take i))) ((m.map fun p => strV p.1).drop i2) HI.out.drew.rk (CellsV.lo (HRX.out _ HI.out.drew.bel).1 HIU.out.2.1) (fun u hu => str_one m u (List.mem_of_mem_drop hu)) (by have h1 := HLN.out; simp [List.length_take, List.length_drop]; omega) HI.out.bel.size rfl rfl rfl ?_)
     intro v10 z10 hr10 hg10 _; obtain ⟨a10, c10, hv10⟩ := hr10.form; obtain ⟨n10, hw10⟩ : ∃ n, v10 = .slice a10 n c10 := ⟨_, hv10⟩; clear hv10; subst hw10; have hI10 := HI.out.drew.appK hr10 hg10; refine ⟨hI10.b2, ?_⟩; simp only [Act.put, sq]; refine tkc 7 (.pointer (some ⟨g7, 0, none⟩)) rfl hI10.b2 ?_; simp only [Act.put, sq]; have cz : z10.cell? ⟨g7, 0, none⟩ = some (.slice a3 n3 c3) := hI10.b7.cell 0; have dz : z10.frozen? ⟨g7, 0, none⟩ = false := hI10.b7.frozen 0; obtain ⟨y10, HX10⟩ : ∃ y, Hid (y = z10.setCell ⟨g7, 0, none⟩ (.slice a10 n10 c10)) := ⟨_, rfl⟩; have ho10 : Only g7 z10 y10 := by rw [HX10.out]; exact Only.setCell (Only.refl _ _) _ _
     have hJ10 := hI10.set (Y := y10) (d1 := .slice a10 n10 c10) (d2 := .slice a4 n4 c4) (by rw [HX10.out]; exact hI10.b7.set 0 _) ho10
     refine wpAnyH_skip 8 y10 (by kernel_rfl) rfl (by rfl) (by rw [HX10.out]; simp [go_sem, cz, dz]) hJ10.b2 ?_
     simp only [Act.put, sq]; refine wpAnyH_done (by kernel_rfl) ?_ _
     clear hS cz dz hr10 hg10 ho10 HX10 hI10; replace HI := Hid.mk' hJ10; clear hJ10
     go_upto_region 11 with fail
     refine wp_region_held_drew (S := fun wx => Blk wx g2 [.slice adK N cK, .slice adV N cV] 43) (by kernel_rfl) HI.out.b2.drew ?_
     intro hS; refine tkc 0 (.pointer (some ⟨g7, 1, none⟩)) rfl hS ?_; simp only [Act.put, sq]; refine tkc 2 (.pointer (some ⟨g2, 1, none⟩)) rfl hS ?_; simp only [Act.put, sq]; refine tka 3 (.slice adV N cV) rfl (fun wx hx => by (have cx : wx.cell? ⟨g2, 1, none⟩ = some (.slice adV N cV) := hx.cell 1; simp [go_sem, cx])) hS ?_
     simp only [Act.put, sq]; refine tkc 4 (.int .i64 (i2 : Int)) rfl hS ?_; simp only [Act.put, sq]; refine tka 5 (loV adV N cV i2) rfl (fun wx hx => by exact cut_lo 41 23 Tryz.underlying41 el_byts sz_byt adV N cV i2 HIL.out.2 HCP.out.2 _ _ (.tmp 62) (.tmp 63) rfl rfl rfl _) hS ?_
     simp only [Act.put, sq]; have cq : y10.drew.cell? ⟨g7, 1, none⟩ = some (.slice a4 n4 c4) := HI.out.drew.b7.cell 1; refine wpAnyH_step 1 (.slice a4 n4 c4) y10.drew (by kernel_rfl) rfl (by rfl) (by simp [go_sem, cq]) hS ?_
     clear cq; simp only [Act.put, sq]; refine wpAnyH_law 6 (by kernel_rfl) rfl (by rfl) (app_any 41 23 Tryz.underlying41 _ _ Tryz.infobsJ rfl (by decide) (.tmp 60) (.tmp 64) w.heap.size (.slice a4 n4 c4) (loV adV N cV i2) ((([] : List Value) ++ (us.take i))) (us.drop i2) HI.out.drew.rv (CellsV.lo (HRX.out _ HI.out.drew.bel).2 HIU.out.2.2) (fun u hu => HRW.out.1 u (List.mem_of_mem_drop hu)) (by have h1 := HLN.out; simp [List.length_take, List.length_drop]; omega) HI.out.bel.size rfl rfl rfl ?_)
     intro v11 z11 hr11 hg11 _; obtain ⟨a11, c11, hv11⟩ := hr11.form; obtain ⟨n11, hw11⟩ : ∃ n, v11 = .slice a11 n c11 := ⟨_, hv11⟩; clear hv11; subst hw11; have hI11 := HI.out.drew.appV hr11 hg11; refine ⟨hI11.b2, ?_⟩; simp only [Act.put, sq]; refine tkc 7 (.pointer (some ⟨g7, 1, none⟩)) rfl hI11.b2 ?_; simp only [Act.put, sq]; have cz : z11.cell? ⟨g7, 1, none⟩ = some (.slice a4 n4 c4) := hI11.b7.cell 1; have dz : z11.frozen? ⟨g7, 1, none⟩ = false := hI11.b7.frozen 1; obtain ⟨y11, HX11⟩ : ∃ y, Hid (y = z11.setCell ⟨g7, 1, none⟩ (.slice a11 n11 c11)) := ⟨_, rfl⟩; have ho11 : Only g7 z11 y11 := by rw [HX11.out]; exact Only.setCell (Only.refl _ _) _ _
     have hJ11 := hI11.set (Y := y11) (d1 := .slice a10 n10 c10) (d2 := .slice a11 n11 c11) (by rw [HX11.out]; exact hI11.b7.set 1 _) ho11
     refine wpAnyH_skip 8 y11 (by kernel_rfl) rfl (by rfl) (by rw [HX11.out]; simp [go_sem, cz, dz]) hJ11.b2 ?_
     simp only [Act.put, sq]; refine wpAnyH_done (by kernel_rfl) ?_ _
     clear hS cz dz hr11 hg11 ho11 HX11 hI11; replace HI := Hid.mk' hJ11; clear hJ11; obtain ⟨tc0, tc1⟩ := sqk2
     go_wp2_with (first
      | (clear tc0; with_reducible refine wpSeq_loadW 43 (.tmp 7) g7 0 [.slice a10 n10 c10, .slice a11 n11 c11] _ (Blk.range HI.out.b7) Tryz.underlying43 rfl (info_keys _ _) ?_ ?_ ?_ ?_
         · rfl
         · rfl
         · rfl)
      | (clear tc1; with_reducible refine wpSeq_storeRow 43 (.tmp 4) (.tmp 67) g4 [.slice none 0 0, .slice none 0 0] [.slice a10 n10 c10, .slice a11 n11 c11] HI.out.b4 rfl (info_keys _ _) (one_keys _ _ _ _ _ _) ?_ ?_ ?_ ?_ ?_
         · rfl
         · rfl
         · rfl
         · rfl
         intro y12 sr; have HF : Hid (Blk y12 g4 [.slice a10 n10 c10, .slice a11 n11 c11] 43 ∧ Only g4 y11 y12) := ⟨sr.blk, sr.only⟩; clear sr))
     refine bodyPost_ret (var_keysr HF.out.1 rfl _ rfl) rfl ?_
     have hc : ∀ (k : Nat) (ar : Array Value) (t : TypeId), y11.heap[k]? = some (Obj.cells ar t (0, 0)) → t ≠ 43 → y12.heap[k]? = y11.heap[k]? := fun k ar t hh ht => HF.out.2.block k (fun e => by
      have h4 := HI.out.b4; unfold Blk at h4; rw [e, h4] at hh; simp only [Option.some.injEq, Obj.cells.injEq] at hh; exact ht hh.2.1.symm) (Array.getElem?_eq_some_iff.1 hh).1
     have hbw : Below w.heap.size w y12 := HI.out.bel.trans (HF.out.2.below HG4.out HI.out.bel.size); refine ⟨_, _, rfl, ?_, hbw⟩; rw [HCUT.out]; exact one_fin HRW.out.2.2.2 hbw (HI.out.rk.same (fun k ar hh _ => hc k ar _ hh (by decide))) (HI.out.rv.same (fun k ar hh _ => hc k ar _ hh (by decide))) (by simp [List.map_append, List.map_take, List.map_drop, strV]) (by simpa using (AlS.app (AlS.app (AlS.nil _ _) (HAL.out.take i)) (HAL.out.drop i2)))
 · skip
   have c5 : y4.cell? ⟨g3, 1, none⟩ = some (.bool true) := HI.out.b3.cell 1
   go_upto_region 6 with fail
   clear c5; have c6 : y4.cell? ⟨g7, 0, none⟩ = some (.slice a3 n3 c3) := HI.out.b7.cell 0; have c7 : y4.cell? ⟨g3, 0, none⟩ = some (.string sk) := HI.out.b3.cell 0; obtain ⟨ta0, ta1⟩ := sqk2
   go_upto_region 7 with (first
    | (clear ta0; with_reducible refine wpSeq_buildS1 (.tmp 37) sk ?_ ?_ ?_ ?_
       · rfl
       · rfl
       · rfl
       intro g8 x6 nn; have HB8 : Hid (Blk x6 g8 [.string sk] 9) := nn.blk; replace HI := Hid.mk' (HI.out.new nn.below); clear nn c6 c7)
    | (clear ta1; at_builtin; refine wpList_appK (.tmp 35) (.tmp 38) w.heap.size (.slice a3 n3 c3) sk (([] : List Value) ++ ((m.map fun p => strV p.1).take i)) g8 HI.out.rk HB8.out (by have h1 := HLN.out; simp [List.length_take]; omega) HI.out.bel.size ?_ ?_ ?_ ?_ ?_
       · rfl
       · rfl
       · rfl
       · rfl
       intro v6 z6 hr6 hg6 hb6; obtain ⟨a6, c6, hv6⟩ := hr6.form; obtain ⟨n6, hw6⟩ : ∃ n, v6 = .slice a6 n c6 := ⟨_, hv6⟩; clear hv6; subst hw6; replace HI := Hid.mk' (HI.out.appK hr6 hg6); have e5 : z6.cell? ⟨g7, 0, none⟩ = some (.slice a3 n3 c3) := HI.out.b7.cell 0; have d5 : z6.frozen? ⟨g7, 0, none⟩ = false := HI.out.b7.frozen 0; clear hr6 hg6 hb6))
   clear e5 d5; obtain ⟨y6, HY6⟩ : ∃ y, Hid (y = z6.setCell ⟨g7, 0, none⟩ (.slice a6 n6 c6)) := ⟨_, rfl⟩; rw [← HY6.out]; replace HI := Hid.mk' (HI.out.set (Y := y6) (d1 := .slice a6 n6 c6) (d2 := .slice a4 n4 c4) (by rw [HY6.out]; exact HI.out.b7.set 0 _) (by rw [HY6.out]; exact Only.setCell (Only.refl _ _) _ _))
   clear HY6; have e6 : y6.cell? ⟨g7, 1, none⟩ = some (.slice a4 n4 c4) := HI.out.b7.cell 1; have e7 : y6.cell? ⟨g3, 2, none⟩ = some (.slice ax nx cx) := HI.out.b3.cell 2; obtain ⟨tb0, tb1⟩ := sqk2
   go_upto_region 8 with (first
    | (clear tb0; with_reducible refine wpSeq_buildTT (.tmp 44) (ax, nx, cx) ?_ ?_ ?_ ?_
       · rfl
       · rfl
       · rfl
       intro g9 x7 nn; have HB9 : Hid (Blk x7 g9 [mkS (ax, nx, cx)] 23) := nn.blk; replace HI := Hid.mk' (HI.out.new nn.below); clear nn e6 e7)
    | (clear tb1; at_builtin; refine wpList_appT15 (.tmp 42) (.tmp 45) w.heap.size (.slice a4 n4 c4) (ax, nx, cx) (([] : List Value) ++ (us.take i)) g9 HI.out.rv HB9.out (by have h1 := HLN.out; simp [List.length_take]; omega) HI.out.bel.size ?_ ?_ ?_ ?_ ?_
       · rfl
       · rfl
       · rfl
       · rfl
       intro v7 z7 hr7 hg7 hb7; obtain ⟨a7, c7, hv7⟩ := hr7.form; obtain ⟨n7, hw7⟩ : ∃ n, v7 = .slice a7 n c7 := ⟨_, hv7⟩; clear hv7; subst hw7; replace HI := Hid.mk' (HI.out.appV hr7 hg7); have e5 : z7.cell? ⟨g7, 1, none⟩ = some (.slice a4 n4 c4) := HI.out.b7.cell 1; have d5 : z7.frozen? ⟨g7, 1, none⟩ = false := HI.out.b7.frozen 1; clear hr7 hg7 hb7))
   clear e5 d5; obtain ⟨y7, HY7⟩ : ∃ y, Hid (y = z7.setCell ⟨g7, 1, none⟩ (.slice a7 n7 c7)) := ⟨_, rfl⟩; rw [← HY7.out]; replace HI := Hid.mk' (HI.out.set (Y := y7) (d1 := .slice a6 n6 c6) (d2 := .slice a7 n7 c7) (by rw [HY7.out]; exact HI.out.b7.set 1 _) (by rw [HY7.out]; exact Only.setCell (Only.refl _ _) _ _))
   clear HY7
   cases pb
   · skip
     obtain rfl := HFB.out rfl
     go_upto_region 10 with fail
     refine wp_region_held_drew (S := fun wx => Blk wx g2 [.slice adK N cK, .slice adV N cV] 43) (by kernel_rfl) HI.out.b2.drew ?_
     intro hS; refine tkc 0 (.pointer (some ⟨g7, 0, none⟩)) rfl hS ?_; simp only [Act.put, sq]; refine tkc 2 (.pointer (some ⟨g2, 0, none⟩)) rfl hS ?_; simp only [Act.put, sq]; refine tka 3 (.slice adK N cK) rfl (fun wx hx => by (have cx : wx.cell? ⟨g2, 0, none⟩ = some (.slice adK N cK) := hx.cell 0; simp [go_sem, cx])) hS ?_
     simp only [Act.put, sq]; refine tkc 4 (.int .i64 (i : Int)) rfl hS ?_; simp only [Act.put, sq]; refine tka 5 (loV adK N cK i) rfl (fun wx hx => by exact cut_lo 40 9 Tryz.underlying40 el_strs sz_str adK N cK i HIL.out.2 HCP.out.1 _ _ (.tmp 54) (.tmp 55) rfl rfl rfl _) hS ?_
     simp only [Act.put, sq]; have cq : y7.drew.cell? ⟨g7, 0, none⟩ = some (.slice a6 n6 c6) := HI.out.drew.b7.cell 0; refine wpAnyH_step 1 (.slice a6 n6 c6) y7.drew (by kernel_rfl) rfl (by rfl) (by simp [go_sem, cq]) hS ?_
     clear cq; simp only [Act.put, sq]; refine wpAnyH_law 6 (by kernel_rfl) rfl (by rfl) (app_any 40 9 Tryz.underlying40 _ _ Tryz.infoStr rfl (by decide) (.tmp 52) (.tmp 56) w.heap.size (.slice a6 n6 c6) (loV adK N cK i) (((([] : List Value) ++ ((m.map fun p => strV p.1).take i)) ++ [.string sk])) ((m.map fun p => strV p.1).drop i) HI.out.drew.rk (CellsV.lo (HRX.out _ HI.out.drew.bel).1 HIU.out.2.1) (fun u hu => str_one m u (List.mem_of_mem_drop hu)) (by have h1 := HLN.out; simp [List.length_take, List.length_drop]; omega) HI.out.bel.size rfl rfl rfl ?_)
     intro v10 z10 hr10 hg10 _; obtain ⟨a10, c10, hv10⟩ := hr10.form; obtain ⟨n10, hw10⟩ : ∃ n, v10 = .slice a10 n c10 := ⟨_, hv10⟩; clear hv10; subst hw10; have hI10 := HI.out.drew.appK hr10 hg10; refine ⟨hI10.b2, ?_⟩; simp only [Act.put, sq]; refine tkc 7 (.pointer (some ⟨g7, 0, none⟩)) rfl hI10.b2 ?_; simp only [Act.put, sq]; have cz : z10.cell? ⟨g7, 0, none⟩ = some (.slice a6 n6 c6) := hI10.b7.cell 0; have dz : z10.frozen? ⟨g7, 0, none⟩ = false := hI10.b7.frozen 0; obtain ⟨y10, HX10⟩ : ∃ y, Hid (y = z10.setCell ⟨g7, 0, none⟩ (.slice a10 n10 c10)) := ⟨_, rfl⟩; have ho10 : Only g7 z10 y10 := by rw [HX10.out]; exact Only.setCell (Only.refl _ _) _ _
     have hJ10 := hI10.set (Y := y10) (d1 := .slice a10 n10 c10) (d2 := .slice a7 n7 c7) (by rw [HX10.out]; exact hI10.b7.set 0 _) ho10
     refine wpAnyH_skip 8 y10 (by kernel_rfl) rfl (by rfl) (by rw [HX10.out]; simp [go_sem, cz, dz]) hJ10.b2 ?_
     simp only [Act.put, sq]; refine wpAnyH_done (by kernel_rfl) ?_ _
     clear hS cz dz hr10 hg10 ho10 HX10 hI10; replace HI := Hid.mk' hJ10; clear hJ10
     go_upto_region 11 with fail
     refine wp_region_held_drew (S := fun wx => Blk wx g2 [.slice adK N cK, .slice adV N cV] 43) (by kernel_rfl) HI.out.b2.drew ?_
     intro hS; refine tkc 0 (.pointer (some ⟨g7, 1, none⟩)) rfl hS ?_; simp only [Act.put, sq]; refine tkc 2 (.pointer (some ⟨g2, 1, none⟩)) rfl hS ?_; simp only [Act.put, sq]; refine tka 3 (.slice adV N cV) rfl (fun wx hx => by (have cx : wx.cell? ⟨g2, 1, none⟩ = some (.slice adV N cV) := hx.cell 1; simp [go_sem, cx])) hS ?_
     simp only [Act.put, sq]; refine tkc 4 (.int .i64 (i : Int)) rfl hS ?_; simp only [Act.put, sq]; refine tka 5 (loV adV N cV i) rfl (fun wx hx => by exact cut_lo 41 23 Tryz.underlying41 el_byts sz_byt adV N cV i HIL.out.2 HCP.out.2 _ _ (.tmp 62) (.tmp 63) rfl rfl rfl _) hS ?_
     simp only [Act.put, sq]; have cq : y10.drew.cell? ⟨g7, 1, none⟩ = some (.slice a7 n7 c7) := HI.out.drew.b7.cell 1; refine wpAnyH_step 1 (.slice a7 n7 c7) y10.drew (by kernel_rfl) rfl (by rfl) (by simp [go_sem, cq]) hS ?_
     clear cq; simp only [Act.put, sq]; refine wpAnyH_law 6 (by kernel_rfl) rfl (by rfl) (app_any 41 23 Tryz.underlying41 _ _ Tryz.infobsJ rfl (by decide) (.tmp 60) (.tmp 64) w.heap.size (.slice a7 n7 c7) (loV adV N cV i) (((([] : List Value) ++ (us.take i)) ++ [mkS (ax, nx, cx)])) (us.drop i) HI.out.drew.rv (CellsV.lo (HRX.out _ HI.out.drew.bel).2 HIU.out.2.2) (fun u hu => HRW.out.1 u (List.mem_of_mem_drop hu)) (by have h1 := HLN.out; simp [List.length_take, List.length_drop]; omega) HI.out.bel.size rfl rfl rfl ?_)
     intro v11 z11 hr11 hg11 _; obtain ⟨a11, c11, hv11⟩ := hr11.form; obtain ⟨n11, hw11⟩ : ∃ n, v11 = .slice a11 n c11 := ⟨_, hv11⟩; clear hv11; subst hw11; have hI11 := HI.out.drew.appV hr11 hg11; refine ⟨hI11.b2, ?_⟩; simp only [Act.put, sq]; refine tkc 7 (.pointer (some ⟨g7, 1, none⟩)) rfl hI11.b2 ?_; simp only [Act.put, sq]; have cz : z11.cell? ⟨g7, 1, none⟩ = some (.slice a7 n7 c7) := hI11.b7.cell 1; have dz : z11.frozen? ⟨g7, 1, none⟩ = false := hI11.b7.frozen 1; obtain ⟨y11, HX11⟩ : ∃ y, Hid (y = z11.setCell ⟨g7, 1, none⟩ (.slice a11 n11 c11)) := ⟨_, rfl⟩; have ho11 : Only g7 z11 y11 := by rw [HX11.out]; exact Only.setCell (Only.refl _ _) _ _
     have hJ11 := hI11.set (Y := y11) (d1 := .slice a10 n10 c10) (d2 := .slice a11 n11 c11) (by rw [HX11.out]; exact hI11.b7.set 1 _) ho11
     refine wpAnyH_skip 8 y11 (by kernel_rfl) rfl (by rfl) (by rw [HX11.out]; simp [go_sem, cz, dz]) hJ11.b2 ?_
     simp only [Act.put, sq]; refine wpAnyH_done (by kernel_rfl) ?_ _
     clear hS cz dz hr11 hg11 ho11 HX11 hI11; replace HI := Hid.mk' hJ11; clear hJ11; obtain ⟨tc0, tc1⟩ := sqk2
     go_wp2_with (first
      | (clear tc0; with_reducible refine wpSeq_loadW 43 (.tmp 7) g7 0 [.slice a10 n10 c10, .slice a11 n11 c11] _ (Blk.range HI.out.b7) Tryz.underlying43 rfl (info_keys _ _) ?_ ?_ ?_ ?_
         · rfl
         · rfl
         · rfl)
      | (clear tc1; with_reducible refine wpSeq_storeRow 43 (.tmp 4) (.tmp 67) g4 [.slice none 0 0, .slice none 0 0] [.slice a10 n10 c10, .slice a11 n11 c11] HI.out.b4 rfl (info_keys _ _) (one_keys _ _ _ _ _ _) ?_ ?_ ?_ ?_ ?_
         · rfl
         · rfl
         · rfl
         · rfl
         intro y12 sr; have HF : Hid (Blk y12 g4 [.slice a10 n10 c10, .slice a11 n11 c11] 43 ∧ Only g4 y11 y12) := ⟨sr.blk, sr.only⟩; clear sr))
     refine bodyPost_ret (var_keysr HF.out.1 rfl _ rfl) rfl ?_
     have hc : ∀ (k : Nat) (ar : Array Value) (t : TypeId), y11.heap[k]? = some (Obj.cells ar t (0, 0)) → t ≠ 43 → y12.heap[k]? = y11.heap[k]? := fun k ar t hh ht => HF.out.2.block k (fun e => by
      have h4 := HI.out.b4; unfold Blk at h4; rw [e, h4] at hh; simp only [Option.some.injEq, Obj.cells.injEq] at hh; exact ht hh.2.1.symm) (Array.getElem?_eq_some_iff.1 hh).1
     have hbw : Below w.heap.size w y12 := HI.out.bel.trans (HF.out.2.below HG4.out HI.out.bel.size); refine ⟨_, _, rfl, ?_, hbw⟩; rw [HCUT.out]; exact one_fin HRW.out.2.2.2 hbw (HI.out.rk.same (fun k ar hh _ => hc k ar _ hh (by decide))) (HI.out.rv.same (fun k ar hh _ => hc k ar _ hh (by decide))) (by simp [List.map_append, List.map_take, List.map_drop, strV, HSK.out]) (by simpa using (AlS.app (AlS.app (AlS.app (AlS.nil _ _) (HAL.out.take i)) (AlS.one (p := (a.key, a.data)) HRW.out.2.2.1)) (HAL.out.drop i)))
   · skip
     have f9 := HFA.out rfl
     go_upto_region 10 with fail
     clear f9; refine wp_region_held_drew (S := fun wx => Blk wx g2 [.slice adK N cK, .slice adV N cV] 43) (by kernel_rfl) HI.out.b2.drew ?_
     intro hS; refine tkc 0 (.pointer (some ⟨g7, 0, none⟩)) rfl hS ?_; simp only [Act.put, sq]; refine tkc 2 (.pointer (some ⟨g2, 0, none⟩)) rfl hS ?_; simp only [Act.put, sq]; refine tka 3 (.slice adK N cK) rfl (fun wx hx => by (have cx : wx.cell? ⟨g2, 0, none⟩ = some (.slice adK N cK) := hx.cell 0; simp [go_sem, cx])) hS ?_
     simp only [Act.put, sq]; refine tkc 4 (.int .i64 (i2 : Int)) rfl hS ?_; simp only [Act.put, sq]; refine tka 5 (loV adK N cK i2) rfl (fun wx hx => by exact cut_lo 40 9 Tryz.underlying40 el_strs sz_str adK N cK i2 HIL.out.2 HCP.out.1 _ _ (.tmp 54) (.tmp 55) rfl rfl rfl _) hS ?_
     simp only [Act.put, sq]; have cq : y7.drew.cell? ⟨g7, 0, none⟩ = some (.slice a6 n6 c6) := HI.out.drew.b7.cell 0; refine wpAnyH_step 1 (.slice a6 n6 c6) y7.drew (by kernel_rfl) rfl (by rfl) (by simp [go_sem, cq]) hS ?_
     clear cq; simp only [Act.put, sq]; refine wpAnyH_law 6 (by kernel_rfl) rfl (by rfl) (app_any 40 9 Tryz.underlying40 _ _ Tryz.infoStr rfl (by decide) (.tmp 52) (.tmp 56) w.heap.size (.slice a6 n6 c6) (loV adK N cK i2) (((([] : List Value) ++ ((m.map fun p => strV p.1).take i)) ++ [.string sk])) ((m.map fun p => strV p.1).drop i2) HI.out.drew.rk (CellsV.lo (HRX.out _ HI.out.drew.bel).1 HIU.out.2.1) (fun u hu => str_one m u (List.mem_of_mem_drop hu)) (by have h1 := HLN.out; simp [List.length_take, List.length_drop]; omega) HI.out.bel.size rfl rfl rfl ?_)
     intro v10 z10 hr10 hg10 _; obtain ⟨a10, c10, hv10⟩ := hr10.form; obtain ⟨n10, hw10⟩ : ∃ n, v10 = .slice a10 n c10 := ⟨_, hv10⟩; clear hv10; subst hw10; have hI10 := HI.out.drew.appK hr10 hg10; refine ⟨hI10.b2, ?_⟩; simp only [Act.put, sq]; refine tkc 7 (.pointer (some ⟨g7, 0, none⟩)) rfl hI10.b2 ?_; simp only [Act.put, sq]; have cz : z10.cell? ⟨g7, 0, none⟩ = some (.slice a6 n6 c6) := hI10.b7.cell 0; have dz : z10.frozen? ⟨g7, 0, none⟩ = false := hI10.b7.frozen 0; obtain ⟨y10, HX10⟩ : ∃ y, Hid (y = z10.setCell ⟨g7, 0, none⟩ (.slice a10 n10 c10)) := ⟨_, rfl⟩; have ho10 : Only g7 z10 y10 := by rw [HX10.out]; exact Only.setCell (Only.refl _ _) _ _
     have hJ10 := hI10.set (Y := y10) (d1 := .slice a10 n10 c10) (d2 := .slice a7 n7 c7) (by rw [HX10.out]; exact hI10.b7.set 0 _) ho10
     refine wpAnyH_skip 8 y10 (by kernel_rfl) rfl (by rfl) (by rw [HX10.out]; simp [go_sem, cz, dz]) hJ10.b2 ?_
     simp only [Act.put, sq]; refine wpAnyH_done (by kernel_rfl) ?_ _
     clear hS cz dz hr10 hg10 ho10 HX10 hI10; replace HI := Hid.mk' hJ10; clear hJ10
     go_upto_region 11 with fail
     refine wp_region_held_drew (S := fun wx => Blk wx g2 [.slice adK N cK, .slice adV N cV] 43) (by kernel_rfl) HI.out.b2.drew ?_
     intro hS; refine tkc 0 (.pointer (some ⟨g7, 1, none⟩)) rfl hS ?_; simp only [Act.put, sq]; refine tkc 2 (.pointer (some ⟨g2, 1, none⟩)) rfl hS ?_; simp only [Act.put, sq]; refine tka 3 (.slice adV N cV) rfl (fun wx hx => by (have cx : wx.cell? ⟨g2, 1, none⟩ = some (.slice adV N cV) := hx.cell 1; simp [go_sem, cx])) hS ?_
     simp only [Act.put, sq]; refine tkc 4 (.int .i64 (i2 : Int)) rfl hS ?_; simp only [Act.put, sq]; refine tka 5 (loV adV N cV i2) rfl (fun wx hx => by exact cut_lo 41 23 Tryz.underlying41 el_byts sz_byt adV N cV i2 HIL.out.2 HCP.out.2 _ _ (.tmp 62) (.tmp 63) rfl rfl rfl _) hS ?_
     simp only [Act.put, sq]; have cq : y10.drew.cell? ⟨g7, 1, none⟩ = some (.slice a7 n7 c7) := HI.out.drew.b7.cell 1; refine wpAnyH_step 1 (.slice a7 n7 c7) y10.drew (by kernel_rfl) rfl (by rfl) (by simp [go_sem, cq]) hS ?_
     clear cq; simp only [Act.put, sq]; refine wpAnyH_law 6 (by kernel_rfl) rfl (by rfl) (app_any 41 23 Tryz.underlying41 _ _ Tryz.infobsJ rfl (by decide) (.tmp 60) (.tmp 64) w.heap.size (.slice a7 n7 c7) (loV adV N cV i2) (((([] : List Value) ++ (us.take i)) ++ [mkS (ax, nx, cx)])) (us.drop i2) HI.out.drew.rv (CellsV.lo (HRX.out _ HI.out.drew.bel).2 HIU.out.2.2) (fun u hu => HRW.out.1 u (List.mem_of_mem_drop hu)) (by have h1 := HLN.out; simp [List.length_take, List.length_drop]; omega) HI.out.bel.size rfl rfl rfl ?_)
     intro v11 z11 hr11 hg11 _; obtain ⟨a11, c11, hv11⟩ := hr11.form; obtain ⟨n11, hw11⟩ : ∃ n, v11 = .slice a11 n c11 := ⟨_, hv11⟩; clear hv11; subst hw11; have hI11 := HI.out.drew.appV hr11 hg11; refine ⟨hI11.b2, ?_⟩; simp only [Act.put, sq]; refine tkc 7 (.pointer (some ⟨g7, 1, none⟩)) rfl hI11.b2 ?_; simp only [Act.put, sq]; have cz : z11.cell? ⟨g7, 1, none⟩ = some (.slice a7 n7 c7) := hI11.b7.cell 1; have dz : z11.frozen? ⟨g7, 1, none⟩ = false := hI11.b7.frozen 1; obtain ⟨y11, HX11⟩ : ∃ y, Hid (y = z11.setCell ⟨g7, 1, none⟩ (.slice a11 n11 c11)) := ⟨_, rfl⟩; have ho11 : Only g7 z11 y11 := by rw [HX11.out]; exact Only.setCell (Only.refl _ _) _ _
     have hJ11 := hI11.set (Y := y11) (d1 := .slice a10 n10 c10) (d2 := .slice a11 n11 c11) (by rw [HX11.out]; exact hI11.b7.set 1 _) ho11
     refine wpAnyH_skip 8 y11 (by kernel_rfl) rfl (by rfl) (by rw [HX11.out]; simp [go_sem, cz, dz]) hJ11.b2 ?_
     simp only [Act.put, sq]; refine wpAnyH_done (by kernel_rfl) ?_ _
     clear hS cz dz hr11 hg11 ho11 HX11 hI11; replace HI := Hid.mk' hJ11; clear hJ11; obtain ⟨tc0, tc1⟩ := sqk2
     go_wp2_with (first
      | (clear tc0; with_reducible refine wpSeq_loadW 43 (.tmp 7) g7 0 [.slice a10 n10 c10, .slice a11 n11 c11] _ (Blk.range HI.out.b7) Tryz.underlying43 rfl (info_keys _ _) ?_ ?_ ?_ ?_
         · rfl
         · rfl
         · rfl)
      | (clear tc1; with_reducible refine wpSeq_storeRow 43 (.tmp 4) (.tmp 67) g4 [.slice none 0 0, .slice none 0 0] [.slice a10 n10 c10, .slice a11 n11 c11] HI.out.b4 rfl (info_keys _ _) (one_keys _ _ _ _ _ _) ?_ ?_ ?_ ?_ ?_
         · rfl
         · rfl
         · rfl
         · rfl
         intro y12 sr; have HF : Hid (Blk y12 g4 [.slice a10 n10 c10, .slice a11 n11 c11] 43 ∧ Only g4 y11 y12) := ⟨sr.blk, sr.only⟩; clear sr))
     refine bodyPost_ret (var_keysr HF.out.1 rfl _ rfl) rfl ?_
     have hc : ∀ (k : Nat) (ar : Array Value) (t : TypeId), y11.heap[k]? = some (Obj.cells ar t (0, 0)) → t ≠ 43 → y12.heap[k]? = y11.heap[k]? := fun k ar t hh ht => HF.out.2.block k (fun e => by
      have h4 := HI.out.b4; unfold Blk at h4; rw [e, h4] at hh; simp only [Option.some.injEq, Obj.cells.injEq] at hh; exact ht hh.2.1.symm) (Array.getElem?_eq_some_iff.1 hh).1
     have hbw : Below w.heap.size w y12 := HI.out.bel.trans (HF.out.2.below HG4.out HI.out.bel.size); refine ⟨_, _, rfl, ?_, hbw⟩; rw [HCUT.out]; exact one_fin HRW.out.2.2.2 hbw (HI.out.rk.same (fun k ar hh _ => hc k ar _ hh (by decide))) (HI.out.rv.same (fun k ar hh _ => hc k ar _ hh (by decide))) (by simp [List.map_append, List.map_take, List.map_drop, strV, HSK.out]) (by simpa using (AlS.app (AlS.app (AlS.app (AlS.nil _ _) (HAL.out.take i)) (AlS.one (p := (a.key, a.data)) HRW.out.2.2.1)) (HAL.out.drop i2)))
def R2 (R : Nat → Prop) (a b : Nat) : Nat → Prop := fun k => R k ∨ k = a ∨ k = b
theorem sta_wide {R : Nat → Prop} {a b : Nat} {w W : World} {X : World → Prop} (h : Sta R w X) (hb : Below w.heap.size w W) (ha : w.heap.size ≤ a) (hb2 : w.heap.size ≤ b) : Sta (R2 R a b) W X := h.go (mut_below hb R) (fun k hk hr => hr.elim id (fun e => absurd hk (by omega)))
theorem oDone_any (R : Nat → Prop) (vK vV v : Value) (m : KM) (ps : List (ActT × Value)) (w : World) (hR : ∀ k, R k → k < w.heap.size) (hm : KyS R w vK vV m) (hup : Rise m) (hr : RdP w v ps) (hd : ∀ p ∈ ps, Sta R w (fun W => Reads W p.2 p.1.data)) (hl : m.length + ps.length < 100000) : Calls Tryz.prog 49 #[.agg [vK, vV].toArray, v] w fun e w' => ∃ uK uV, e = .returned (.agg [uK, uV].toArray) ∧ KyS R w' uK uV (doneM m (ps.map (·.1))) ∧ Below w.heap.size w w' := by
 obtain ⟨N, HN⟩ := sqn (ps.length)
 obtain ⟨ad, cp, hv⟩ := hr.form
 rw [← HN.out] at hv
 subst hv
 obtain ⟨a1, n1, c1, e1⟩ : ∃ a n c, vK = .slice a n c := by obtain ⟨a, c, h, _⟩ := hm.k; exact ⟨a, _, c, h⟩
 obtain ⟨a2, n2, c2, e2⟩ : ∃ a n c, vV = .slice a n c := by obtain ⟨a, c, h, _⟩ := hm.v; exact ⟨a, _, c, h⟩
 subst e1
 subst e2
 have HR : Hid (RdP w (.slice ad N cp) ps) := hr
 have HD : Hid ((∀ p ∈ ps, Sta R w (fun W => Reads W p.2 p.1.data)) ∧ (∀ k, R k → k < w.heap.size) ∧ m.length + ps.length < 100000 ∧ Rise m) := ⟨hd, hR, hl, hup⟩
 have HM : Hid (KyS R w (.slice a1 n1 c1) (.slice a2 n2 c2) m) := hm
 clear hR hm hup hr hd hl
 go_enter Tryz.func49, Tryz.ntmps49
 obtain ⟨ta0, ta1⟩ := sqk2
 go_wp2_with (first
  | (clear ta0; with_reducible refine wpSeq_boxW 43 (.tmp 0) [.slice a1 n1 c1, .slice a2 n2 c2] ?_ ?_ ?_ ?_
     · rfl
     · rfl
     · rfl
     intro g2 x1 nn; have H2 : Hid (Blk x1 g2 [.slice a1 n1 c1, .slice a2 n2 c2] 43) := nn.blk; have HB : Hid (Below w.heap.size w x1 ∧ w.heap.size ≤ g2) := ⟨nn.below, nn.ge⟩; clear nn)
  | (clear ta1; with_reducible refine wpSeq_allocK ?_ ?_ ?_
     · rfl
     · rfl
     intro g4 x2 nn; have H4 : Hid (Blk x2 g4 [.slice none 0 0, .slice none 0 0] 43) := nn.blk; have HNE : Hid (g2 ≠ g4 ∧ g4 ≠ g2) := by have h1 := H2.out.lt; have h2 := nn.ge; exact ⟨by omega, by omega⟩
     replace H2 : Hid (Blk x2 g2 [.slice a1 n1 c1, .slice a2 n2 c2] 43) := H2.out.below nn.below H2.out.lt; have HG : Hid (w.heap.size ≤ g2 ∧ w.heap.size ≤ g4) := ⟨HB.out.2, Nat.le_trans HB.out.1.size nn.ge⟩; have HBW : Hid (Below w.heap.size w x2) := HB.out.1.trans (nn.below.mono HB.out.1.size); clear nn HB))
 have HK0 : Hid (KyS (R2 R g2 g4) x2 (.slice a1 n1 c1) (.slice a2 n2 c2) m) := HM.out.go (mut_below HBW.out R) (fun k hk hr => hr.elim id (fun e => absurd hk (by have := HG.out; omega)))
 go_loopw [5] (fun i wr => ∃ k : Nat, k ≤ N ∧ i = .int .i64 (k : Int) ∧ Hid (∃ b1 k1 d1 b2 k2 d2, Blk wr g2 [.slice b1 k1 d1, .slice b2 k2 d2] 43 ∧ KyS (R2 R g2 g4) wr (.slice b1 k1 d1) (.slice b2 k2 d2) (doneM m ((ps.take k).map (·.1)))) ∧ Hid (Blk wr g4 [.slice none 0 0, .slice none 0 0] 43) ∧ Hid (Below w.heap.size w wr)) (fun i _ => N - (intOf i).toNat)
 case atStart => exact ⟨0, Nat.zero_le _, rfl, ⟨_, _, _, _, _, _, H2.out, HK0.out⟩, H4, HBW⟩
 case round =>
  clear HK0 H2 H4 HBW
  obtain ⟨k, hk, rfl, HE, H4, HBW⟩ := hrel
  obtain ⟨b1, k1, d1, b2, k2, d2, hb2, hky⟩ := HE.out
  have H2 : Hid (Blk wr g2 [.slice b1 k1 d1, .slice b2 k2 d2] 43) := hb2
  have HKY : Hid (KyS (R2 R g2 g4) wr (.slice b1 k1 d1) (.slice b2 k2 d2) (doneM m ((ps.take k).map (·.1)))) := hky
  clear hb2 hky HE
  by_cases hlt : k < N
  case neg =>
   obtain rfl : k = N := by omega
   have hlk : ¬ ((k : Int) < (k : Int)) := by omega
   obtain ⟨tb0, tb1⟩ := sqk2
   go_wp2_with (first
    | (clear tb0; with_reducible refine wpSeq_loadW 43 (.tmp 2) g2 0 [.slice b1 k1 d1, .slice b2 k2 d2] _ (Blk.range H2.out) Tryz.underlying43 rfl (info_keys _ _) ?_ ?_ ?_ ?_
       · rfl
       · rfl
       · rfl)
    | (clear tb1; with_reducible refine wpSeq_storeRow 43 (.tmp 4) (.tmp 18) g4 [.slice none 0 0, .slice none 0 0] [.slice b1 k1 d1, .slice b2 k2 d2] H4.out rfl (info_keys _ _) (one_keys _ _ _ _ _ _) ?_ ?_ ?_ ?_ ?_
       · rfl
       · rfl
       · rfl
       · rfl
       intro y9 sr; have HF : Hid (Blk y9 g4 [.slice b1 k1 d1, .slice b2 k2 d2] 43 ∧ Only g4 wr y9) := ⟨sr.blk, sr.only⟩; clear sr))
   refine bodyPost_ret (var_keysr HF.out.1 rfl _ rfl) rfl ?_; refine ⟨_, _, rfl, ?_, HBW.out.trans (HF.out.2.below HG.out.2 HBW.out.size)⟩; have h1 := HKY.out; rw [List.take_of_length_le (by rw [← HN.out]; exact Nat.le_refl _)] at h1
   exact h1.go (HF.out.2.mut (P := R2 R g2 g4) (Or.inr (Or.inr rfl))) (fun j _ h => Or.inl h)
  case pos =>
   obtain ⟨p, hp⟩ : ∃ p, ps[k]? = some p := ⟨_, List.getElem?_eq_getElem (by rw [← HN.out]; exact hlt)⟩
   have hpm := List.mem_of_getElem? hp; obtain ⟨b, off, e1, hrg⟩ := HR.out.at hp; subst e1
   have HTK : Hid (doneM m ((ps.take (k + 1)).map (·.1)) = oneM (doneM m ((ps.take k).map (·.1))) p.1) := by
    show _ = _; rw [List.take_add_one, hp, List.map_append]; exact doneM_snoc _ _ _
   have HLE : Hid ((doneM m ((ps.take k).map (·.1))).length < 100000 ∧ Rise (doneM m ((ps.take k).map (·.1)))) := by
    have h1 := len_doneM ((ps.take k).map (·.1)) HD.out.2.2.2; rw [List.length_map, List.length_take] at h1; have h2 := HD.out.2.2.1; exact ⟨by omega, HD.out.2.2.2.done _⟩
   have HRG : Hid (∀ wx, Below w.heap.size w wx → wx.rangeAt b (off + k * 3) (actC p.1 p.2)) := fun wx hb => range_below hrg hb (block_lt_of_cell (hrg 0 _ rfl))
   have HDP : Hid (Sta R w (fun W => Reads W p.2 p.1.data)) := HD.out.1 p hpm
   have HLT : Hid (k < N) := hlt; have k3 : (k : Int) < (N : Int) := by omega
   have f5 : IntKind.i64.wrap ((k : Int) + 1) = (k : Int) + 1 := by have := HD.out.2.2.1; have := HN.out; rw [IntKind.wrap_i64]; omega
   obtain ⟨ap, np, cpp, hvp⟩ := HDP.out.now.form; clear hrg hp hpm
   go_upto_region 4 with fail
   refine wp_region_held_drew (S := fun wx => Below w.heap.size w wx) (by kernel_rfl) HBW.out.drew ?_
   intro hS; refine tkc 1 (.slice (some ⟨b, off, none⟩) N cp) rfl hS ?_; simp only [Act.put, sq]; refine tkc 2 (.int .i64 (k : Int)) rfl hS ?_; simp only [Act.put, sq]; refine tka 3 (.pointer (some ⟨b, off + k * 3, none⟩)) rfl (fun wx hx => by exact idxA b off N cp k HLT.out _ _ (.tmp 13) (.tmp 14) rfl rfl rfl _) hS ?_
   simp only [Act.put, sq]; refine tka 4 (.agg (actC p.1 p.2).toArray) rfl (fun wx hx => by exact load_run 62 _ rfl _ _ rfl (actC p.1 p.2) _ (HRG.out wx hx) Tryz.underlying62 rfl (info_act15 _ _ _)) hS ?_
   simp only [Act.put, sq]; refine wpAnyH_step 0 (.agg [.slice b1 k1 d1, .slice b2 k2 d2].toArray) wr.drew (by kernel_rfl) rfl (by rfl) (load_run 43 _ rfl _ _ rfl [.slice b1 k1 d1, .slice b2 k2 d2] _ (Blk.range H2.out.drew) Tryz.underlying43 rfl (info_keys _ _)) hS ?_
   simp only [Act.put, sq]
   refine wpAnyH_enter 5 (by kernel_rfl) rfl (by rfl) (f := 75) (args := #[.agg [.slice b1 k1 d1, .slice b2 k2 d2].toArray, .agg (actC p.1 p.2).toArray]) (by simp [go_sem]) (oOne_any (R2 R g2 g4) _ _ _ p.1 p.2 wr.drew (fun j hj => by
    rcases hj with hj | hj | hj
    · exact Nat.lt_of_lt_of_le (HD.out.2.1 j hj) HBW.out.size
    · rw [hj]; exact H2.out.lt
    · rw [hj]; exact H4.out.lt) (HKY.out.below (Below.refl _ _).drew) HLE.out.2 (sta_wide HDP.out HBW.out.drew HG.out.1 HG.out.2) HLE.out.1) ?_
   rintro e5 y5 ⟨uK, uV, rfl, hk5, bl5⟩; obtain ⟨q1, q2, q3, f1⟩ : ∃ a n c, uK = .slice a n c := by obtain ⟨a, c, h, _⟩ := hk5.k; exact ⟨a, _, c, h⟩
   obtain ⟨q4, q5, q6, f2⟩ : ∃ a n c, uV = .slice a n c := by obtain ⟨a, c, h, _⟩ := hk5.v; exact ⟨a, _, c, h⟩
   subst f1; subst f2; have hb5 : Below w.heap.size w y5 := HBW.out.drew.trans (bl5.mono HBW.out.drew.size); have h25 : Blk y5 g2 [.slice b1 k1 d1, .slice b2 k2 d2] 43 := H2.out.drew.below bl5 H2.out.drew.lt; have h45 : Blk y5 g4 [.slice none 0 0, .slice none 0 0] 43 := H4.out.drew.below bl5 H4.out.drew.lt; refine ⟨_, rfl, hb5, ?_⟩; simp only [Act.put, sq]; refine wpAnyH_storeRow 6 43 (.tmp 2) (.tmp 17) g2 [.slice b1 k1 d1, .slice b2 k2 d2] [.slice q1 q2 q3, .slice q4 q5 q6] h25 rfl (info_keys _ _) (one_keys _ _ _ _ _ _) (by kernel_rfl) rfl (by rfl) rfl rfl rfl ?_
   intro y6 sr; have hb6 : Below w.heap.size w y6 := hb5.trans (sr.only.below HG.out.1 hb5.size); have H26 : Hid (Blk y6 g2 [.slice q1 q2 q3, .slice q4 q5 q6] 43) := sr.blk; have H46 : Hid (Blk y6 g4 [.slice none 0 0, .slice none 0 0] 43) := h45.only sr.only HNE.out.2
   have HK6 : Hid (KyS (R2 R g2 g4) y6 (.slice q1 q2 q3) (.slice q4 q5 q6) (doneM m ((ps.take (k + 1)).map (·.1)))) := by
    rw [HTK.out]; exact hk5.go (sr.only.mut (P := R2 R g2 g4) (Or.inr (Or.inl rfl))) (fun _ _ h => h)
   have HB6 : Hid (Below w.heap.size w y6) := hb6; refine ⟨hb6, ?_⟩; clear sr hk5 hb5 hb6 h25 h45 bl5 hS; simp only [Act.put, sq]; refine wpAnyH_done (by kernel_rfl) ?_ _
   go_wp2; go_roundw
   case rel => exact ⟨k + 1, HLT.out, rfl, ⟨_, _, _, _, _, _, H26.out, HK6.out⟩, H46, HB6⟩
   case measure => simp [intOf]; have := HLT.out; omega
theorem idxT15 (b off n c k : Nat) (hk : k < n) (f : Operand → Value) (o : Oper) (x y : Operand) (ho : o.op = .indexAddr 41 x y) (hx : f x = .slice (some ⟨b, off, none⟩) n c) (hy : f y = .int .i64 (k : Int)) (w : World) :
 (execOp f o).run Tryz.prog w = .ok (.value (.pointer (some ⟨b, off + k, none⟩))) w := by
 have k0 : (0 : Int) ≤ (k : Int) := by omega
 have k1 : (k : Int) < (n : Int) := by omega
 have hs : (sizeOf 23).run Tryz.prog w = .ok 1 w := by kernel_rfl
 unfold execOp
 rw [ho]
 simp [go_sem, hx, hy, k0, k1, Addr.add_mid, hs]
theorem build_act3 (f : Operand → Value) (o : Oper) (x y : Operand) (s : ByteArray) (ad : Option Addr) (n c : Nat) (hc : f (.const (.bool true)) = .bool true) (ho : o.op = .build 62 #[(0, x), (1, .const (.bool true)), (2, y)]) (hx : f x = .string s) (hy : f y = .slice ad n c) (w : World) : (execOp f o).run Tryz.prog w = .ok (.value (.agg [.string s, .bool true, .slice ad n c].toArray)) w := by
 unfold execOp
 rw [ho]
 simp only [List.map_toArray, List.map_cons, List.map_nil, hx, hy, hc]
 kernel_rfl
theorem ReadsS.at15 {w : World} {ad : Option Addr} {n c k : Nat} {ks : List Bs} (h : ReadsS w (.slice ad n c) ks) (hk : k < ks.length) : ∃ b off, ad = some ⟨b, off, none⟩ ∧ w.cell? ⟨b, off + k, none⟩ = some (.string (strB (ks.getD k []))) := by
 obtain ⟨ad', cap, h1, _, _, h2⟩ := h
 simp only [Value.slice.injEq] at h1
 obtain ⟨b, off, h3, h4⟩ := h2 (by omega)
 exact ⟨b, off, by rw [h1.1]; exact h3, h4 k hk⟩
theorem wp_appendR {o : Oper} {a : Act} {w : World} {K : Act → World → Prop} {Q : Exit → Act → World → Prop} (s x : Operand) (base : Nat) (v : Value) (ps : List (ActT × Value)) (p : ActT × Value) (g : Nat) (av : Option Addr) (nv cv : Nat) (hpv : p.2 = .slice av nv cv)
 (hown : w.ownsRow base 62 3 v ps.length (rowP ps)) (hb : Blk w g (actC p.1 p.2) 62) (hlen : ps.length < 1000000) (hbase : base ≤ w.heap.size)
 (ho : o.op = .call { callee := .builtin .append, args := #[s, x], argTypes := #[22, 22] }) (hs : a.eval s = v) (hx : a.eval x = .slice (some ⟨g, 0, none⟩) 1 1)
 (h : ∀ v' w', w'.ownsRow base 62 3 v' (ps ++ [p]).length (rowP (ps ++ [p])) → w.grownBy w' v.ownBlock → K (a.put o.dst v') w') : o.wp Tryz.prog a w K Q := by
 obtain ⟨i0, hi, hz0, hz1, hz2⟩ := info_parts Tryz.infoact
 obtain ⟨v', w', hr, h2, h3, h4, h5⟩ := run_append_own_at (P := Tryz.prog) w base 22 o.type 62 i0 (.agg zA.toArray) 3 48 Tryz.underlying22 hi hz0 hz1 hz2 rfl (by decide) v ps.length (rowP ps) hown ⟨g, 0, none⟩ 1 1 (actC p.1 p.2) rfl (fun j u hj => by rw [Addr.add_mid, Nat.zero_add, hb.cell]; exact hj) (by rw [actC, hpv]; exact one_act _ _ _ _ _) (by unfold maxLen; omega) (by omega) hbase
 unfold Oper.wp execOp
 simp only [ho, resolve, invoke, builtin, Sem.run_bind, Sem.run_pure, Result.andThen_ok, List.map_toArray, List.map_cons, List.map_nil, hs, hx, hr]
 exact h v' w' (by rw [List.length_append, rowP_snoc]; exact h2) h3
structure WhI (w : World) (m : KM) (k : Nat) (v : Value) (wr : World) (ps : List (ActT × Value)) : Prop where
 row : wr.ownsRow w.heap.size 62 3 v ps.length (rowP ps)
 ac : ps.map (·.1) = wholeM (m.take k)
 dat : ∀ p ∈ ps, Reads w p.2 p.1.data
 bel : Below w.heap.size w wr
theorem WhI.len {w wr : World} {m : KM} {k : Nat} {v : Value} {ps : List (ActT × Value)} (h : WhI w m k v wr ps) (hk : k ≤ m.length) : ps.length = k := by
 have := congrArg List.length h.ac
 rw [List.length_map] at this
 simp [wholeM] at this
 omega
theorem oWhole_any (vK vV : Value) (m : KM) (w : World) (hr : ReadsS w vK (m.map (·.1))) (hv : ReadsL w vV (m.map (·.2))) (hl : m.length < 1000000) : Calls Tryz.prog 51 #[.agg [vK, vV].toArray] w fun e w' => ∃ v, e = .returned v ∧ ReadsA w' v (wholeM m) ∧ Below w.heap.size w w' := by
 have HR : Hid (ReadsS w vK (m.map (·.1))) := hr
 have HV : Hid (ReadsL w vV (m.map (·.2))) := hv
 obtain ⟨n, HN⟩ := sqn (m.length)
 obtain ⟨ad, c, hvk⟩ := hr.form
 rw [List.length_map, ← HN.out] at hvk
 subst hvk
 obtain ⟨ad2, c2, hvv, _⟩ := hv
 rw [List.length_map, ← HN.out] at hvv
 subst hvv
 have HL : Hid (n < 1000000) := by rw [HN.out]; exact hl
 clear hr hl
 go_enter Tryz.func51, Tryz.ntmps51
 have ta0 : Hid True := trivial
 go_wp2_with (first
  | (clear ta0; with_reducible refine wpSeq_boxW 43 (.tmp 0) [.slice ad n c, .slice ad2 n c2] ?_ ?_ ?_ ?_
     · rfl
     · rfl
     · rfl
     intro g1 y1 nn; have HM : Hid (Blk y1 g1 [.slice ad n c, .slice ad2 n c2] 43) := nn.blk; have HB1 : Hid (Below w.heap.size w y1) := nn.below; have HG1 : Hid (w.heap.size ≤ g1) := nn.ge; clear nn))
 have HI0 : Hid (WhI w m 0 (.slice none 0 0) y1 []) := ⟨World.ownsRow_nil _ _ _ _, rfl, fun p hp => (by cases hp), HB1.out⟩
 go_loopw [3, 4] (fun v i wr => ∃ (a0 : Option Addr) (k c0 : Nat), k ≤ n ∧ v = .slice a0 k c0 ∧ i = .int .i64 (k : Int) ∧ Hid (∃ ps, WhI w m k (.slice a0 k c0) wr ps) ∧ Hid (Blk wr g1 [.slice ad n c, .slice ad2 n c2] 43)) (fun _ i _ => n - (intOf i).toNat)
 case atStart => exact ⟨none, 0, 0, Nat.zero_le _, rfl, rfl, ⟨[], HI0.out⟩, HM⟩
 case round =>
  clear HI0 HM HB1
  obtain ⟨a0, k, cc, hkn, rfl, rfl, HW, HM⟩ := hrel
  have c0 : wr.cell? ⟨g1, 0, none⟩ = some (.slice ad n c) := HM.out.cell 0
  by_cases hlt : k < n
  case neg =>
   obtain rfl : k = n := by omega
   have hlk : ¬ ((k : Int) < (k : Int)) := by omega
   go_wp2; go_ret; obtain ⟨ps, hI⟩ := HW.out; refine ⟨_, rfl, ?_, hI.bel⟩; have h3 := rowA_reads hI.row (fun p hp => (hI.dat p hp).below hI.bel)
   rw [hI.ac, List.take_of_length_le (by rw [← HN.out]; exact Nat.le_refl _)] at h3
   exact h3
  case pos =>
   obtain ⟨q, hq⟩ : ∃ q, m[k]? = some q := ⟨_, List.getElem?_eq_getElem (by rw [← HN.out]; exact hlt)⟩
   obtain ⟨ky, da⟩ := q; obtain ⟨ps, hI⟩ := HW.out; have hpl : ps.length = k := hI.len (by rw [← HN.out]; exact hkn)
   obtain ⟨bK, oK, eK, cK⟩ : ∃ b off, ad = some ⟨b, off, none⟩ ∧ w.cell? ⟨b, off + k, none⟩ = some (.string (strB ky)) := by
    obtain ⟨b, off, h1, h2⟩ := HR.out.at15 (k := k) (by rw [List.length_map, ← HN.out]; exact hlt)
    refine ⟨b, off, h1, ?_⟩; rw [h2, List.getD_eq_getElem?_getD, List.getElem?_map, hq]
    rfl
   obtain ⟨bV, oV, vj, eV, cV, rV⟩ : ∃ b off vj, ad2 = some ⟨b, off, none⟩ ∧ w.cell? ⟨b, off + k, none⟩ = some vj ∧ Reads w vj da := by
    obtain ⟨ad3, c3, h1, _, _, h2⟩ := HV.out; simp only [Value.slice.injEq] at h1; obtain ⟨b, off, h3, h4⟩ := h2 (by rw [List.length_map, ← HN.out]; omega)
    obtain ⟨vj, h5, h6⟩ := h4 k (by rw [List.length_map, ← HN.out]; exact hlt)
    rw [List.getD_eq_getElem?_getD, List.getElem?_map, hq] at h6; exact ⟨b, off, vj, by rw [h1.1]; exact h3, h5, h6⟩
   subst eK; subst eV; obtain ⟨av, nv, cv, hvj⟩ := rV.form; subst hvj; obtain ⟨sk, HSK⟩ := sqn (strB ky); rw [← HSK.out] at cK; have HCK : Hid (∀ wx, Below w.heap.size w wx → wx.cell? ⟨bK, oK + k, none⟩ = some (.string sk) ∧ wx.cell? ⟨bV, oV + k, none⟩ = some (.slice av nv cv)) := fun wx hb => ⟨(World.cell?_of_block (hb.block bK (block_lt_of_cell cK))).trans cK, (World.cell?_of_block (hb.block bV (block_lt_of_cell cV))).trans cV⟩
   have HI : Hid (WhI w m k (.slice a0 k cc) wr.drew ps ∧ ps.length = k) := ⟨⟨hI.row.kept (row := none) ⟨rfl, rfl, rfl, Nat.le_refl _, fun _ _ _ => rfl⟩ (by cases (Value.slice a0 k cc).ownBlock <;> simp), hI.ac, hI.dat, hI.bel.drew⟩, hpl⟩
   have HRV : Hid (Reads w (.slice av nv cv) da) := rV; have HAC : Hid (wholeM (m.take (k + 1)) = wholeM (m.take k) ++ [⟨ky, true, da⟩]) := by show _ = _; rw [List.take_add_one, hq, wholeM, List.map_append]; rfl
   have k3 : (k : Int) < (n : Int) := by omega
   have f5 : IntKind.i64.wrap ((k : Int) + 1) = (k : Int) + 1 := by have := HL.out; rw [IntKind.wrap_i64]; omega
   have HLT : Hid (k < n) := hlt; clear hq hI HW cK cV rV hpl
   go_upto_region 5 with fail
   clear c0; refine wp_region_held_drew (S := fun wx => Blk wx g1 [.slice (some ⟨bK, oK, none⟩) n c, .slice (some ⟨bV, oV, none⟩) n c2] 43 ∧ Below w.heap.size w wx) (by kernel_rfl) ⟨HM.out.drew, HI.out.1.bel⟩ ?_
   intro hS; refine tkc 0 (.slice a0 k cc) rfl hS ?_; simp only [Act.put, sq]; refine tkc 1 (.pointer (some ⟨g1, 0, none⟩)) rfl hS ?_; simp only [Act.put, sq]; refine tka 2 (.slice (some ⟨bK, oK, none⟩) n c) rfl (fun wx hx => by (have cx : wx.cell? ⟨g1, 0, none⟩ = some (.slice (some ⟨bK, oK, none⟩) n c) := hx.1.cell 0; simp [go_sem, cx])) hS ?_
   simp only [Act.put, sq]; refine tkc 3 (.int .i64 (k : Int)) rfl hS ?_; simp only [Act.put, sq]; refine tka 4 (.pointer (some ⟨bK, oK + k, none⟩)) rfl (fun wx hx => by exact idxS bK oK n c k HLT.out _ _ (.tmp 14) (.tmp 15) rfl rfl rfl _) hS ?_
   simp only [Act.put, sq]; refine tka 5 (.string sk) rfl (fun wx hx => by (have cx := (HCK.out wx hx.2).1; simp [go_sem, cx])) hS ?_
   simp only [Act.put, sq]; refine tkc 6 (.pointer (some ⟨g1, 1, none⟩)) rfl hS ?_; simp only [Act.put, sq]; refine tka 7 (.slice (some ⟨bV, oV, none⟩) n c2) rfl (fun wx hx => by (have cx : wx.cell? ⟨g1, 1, none⟩ = some (.slice (some ⟨bV, oV, none⟩) n c2) := hx.1.cell 1; simp [go_sem, cx])) hS ?_
   simp only [Act.put, sq]; refine tkc 8 (.int .i64 (k : Int)) rfl hS ?_; simp only [Act.put, sq]; refine tka 9 (.pointer (some ⟨bV, oV + k, none⟩)) rfl (fun wx hx => by exact idxT15 bV oV n c2 k HLT.out _ _ (.tmp 19) (.tmp 20) rfl rfl rfl _) hS ?_
   simp only [Act.put, sq]; refine tka 10 (.slice av nv cv) rfl (fun wx hx => by (have cx := (HCK.out wx hx.2).2; simp [go_sem, cx])) hS ?_
   simp only [Act.put, sq]; refine tka 11 (.agg [.string sk, .bool true, .slice av nv cv].toArray) rfl (fun wx hx => by exact build_act3 _ _ (.tmp 17) (.tmp 22) sk av nv cv rfl rfl rfl rfl _) hS ?_
   simp only [Act.put, sq]; have HS0 : Hid (Blk wr.drew g1 [.slice (some ⟨bK, oK, none⟩) n c, .slice (some ⟨bV, oV, none⟩) n c2] 43) := hS.1; obtain ⟨g5, z3, e3, e3w, n3⟩ : ∃ g y, g = wr.drew.heap.size ∧ y = wr.drew.alloc (.cells [.string sk, .bool true, .slice av nv cv].toArray 62) ∧ NewR [.string sk, .bool true, .slice av nv cv] 62 wr.drew g y := ⟨_, _, rfl, rfl, NewR.of _ _ _⟩; have hS3 : Blk z3 g1 [.slice (some ⟨bK, oK, none⟩) n c, .slice (some ⟨bV, oV, none⟩) n c2] 43 ∧ Below w.heap.size w z3 := ⟨HS0.out.below n3.below HS0.out.lt, HI.out.1.bel.trans (n3.below.mono HI.out.1.bel.size)⟩; refine wpAnyH_step 12 _ z3 (by kernel_rfl) rfl (by rfl) (by rw [e3w]; exact build_a1 _ _ (.tmp 23) sk true av nv cv rfl rfl _) hS3 ?_
   rw [← e3]; clear e3 e3w; have HR3 : Hid (z3.ownsRow w.heap.size 62 3 (.slice a0 k cc) ps.length (rowP ps)) := HI.out.1.row.kept (row := none) ⟨n3.below.os, n3.below.tape, n3.below.output, n3.below.size, fun j hj _ => n3.below.block j hj⟩ (by cases (Value.slice a0 k cc).ownBlock <;> simp)
   have HB3 : Hid (Blk z3 g5 (actC ⟨ky, true, da⟩ (.slice av nv cv)) 62) := by show Blk _ _ _ _; rw [actC, ← HSK.out]; exact n3.blk
   have HM3 : Hid (Blk z3 g1 [.slice (some ⟨bK, oK, none⟩) n c, .slice (some ⟨bV, oV, none⟩) n c2] 43 ∧ Below w.heap.size w z3) := hS3; clear n3 hS hS3; simp only [Act.put, sq]; refine wpAnyH_law 13 (by kernel_rfl) rfl (by rfl) (wp_appendR (.tmp 12) (.tmp 24) w.heap.size (.slice a0 k cc) ps (⟨ky, true, da⟩, .slice av nv cv) g5 av nv cv rfl HR3.out HB3.out (by rw [HI.out.2]; have h1 := HL.out; have h2 := HLT.out; omega) HM3.out.2.size rfl rfl rfl ?_)
   intro v4 z4 ho4 hg4; have hlt4 : ∀ j, (Value.slice a0 k cc).ownBlock = some j → w.heap.size ≤ j ∧ j < z3.heap.size := World.ownsRow.lt HR3.out; have hb4 : Below w.heap.size w z4 := ⟨hg4.os.trans HM3.out.2.os, hg4.tape.trans HM3.out.2.tape, hg4.output.trans HM3.out.2.output, Nat.le_trans HM3.out.2.size hg4.size, fun j hj => (hg4.block j (Nat.lt_of_lt_of_le hj HM3.out.2.size) (fun e => by have := (hlt4 j e.symm).1; omega)).trans (HM3.out.2.block j hj)⟩
   have hm4 : Blk z4 g1 [.slice (some ⟨bK, oK, none⟩) n c, .slice (some ⟨bV, oV, none⟩) n c2] 43 := blk_same HM3.out.1 (hg4.block g1 HM3.out.1.lt (fun e => by
    obtain ⟨_, ⟨e2, _⟩ | ⟨g2, cap2, cur2, e2, _, hh2, _⟩⟩ := id HR3.out
    · rw [e2] at e; cases e
    · rw [e2] at e
      simp [Value.ownBlock] at e
      rw [← e, HM3.out.1] at hh2; simp only [Option.some.injEq, Obj.cells.injEq] at hh2; exact absurd hh2.2.1 (by decide)))
   refine ⟨⟨hm4, hb4⟩, ?_⟩
   obtain ⟨a4, c4, hv4⟩ : ∃ a c, v4 = .slice a (k + 1) c := by
    have hl4 : (ps ++ [((⟨ky, true, da⟩ : ActT), Value.slice av nv cv)]).length = k + 1 := by rw [List.length_append, HI.out.2]; rfl
    rw [hl4] at ho4; obtain ⟨_, ⟨h, h0⟩ | ⟨g, cap, cur, h, _⟩⟩ := ho4
    · omega
    · exact ⟨_, _, h⟩
   subst hv4
   have HI4 : Hid (∃ ps, WhI w m (k + 1) (.slice a4 (k + 1) c4) z4 ps) := ⟨_, ho4, by rw [List.map_append, HI.out.1.ac, HAC.out]; rfl, fun p hp => by
    rcases List.mem_append.1 hp with hp | hp
    · exact HI.out.1.dat p hp
    · rw [List.mem_singleton.1 hp]; exact HRV.out, hb4⟩
   have HM4 : Hid (Blk z4 g1 [.slice (some ⟨bK, oK, none⟩) n c, .slice (some ⟨bV, oV, none⟩) n c2] 43) := hm4; clear ho4 hg4 hlt4; simp only [Act.put, sq]; refine wpAnyH_take (i := 14) (v := .slice a4 (k + 1) c4) rfl (by kernel_rfl) (by kernel_rfl) (by kernel_rfl) (fun _ _ _ h => h) (Or.inl ⟨by rfl, fun wx hx => by simp [go_sem]⟩) ⟨hm4, hb4⟩ ?_
   simp only [Act.put, sq]; refine wpAnyH_done (by kernel_rfl) ?_ _
   clear hm4 hb4; go_wp2; go_roundw
   case rel => exact ⟨a4, k + 1, c4, HLT.out, rfl, rfl, HI4, HM4⟩
   case measure => simp [intOf]; have := HLT.out; omega
theorem oSame_any (vK vV uK uV : Value) (m m2 : KM) (w : World) (hr : ReadsS w vK (m.map (·.1))) (hv : ReadsL w vV (m.map (·.2))) (hr2 : ReadsS w uK (m2.map (·.1))) (hv2 : ReadsL w uV (m2.map (·.2))) (hl : m.length < 1000000) (hl2 : m2.length < 1000000) : Calls Tryz.prog 33 #[.agg [vK, vV].toArray, .agg [uK, uV].toArray] w fun e w' => e = .returned (.bool (decide (m = m2))) ∧ Below w.heap.size w w' := by
 have HA : Hid (ReadsS w vK (m.map (·.1)) ∧ ReadsL w vV (m.map (·.2)) ∧ m.length < 1000000) := ⟨hr, hv, hl⟩
 have HB : Hid (ReadsS w uK (m2.map (·.1)) ∧ ReadsL w uV (m2.map (·.2)) ∧ m2.length < 1000000) := ⟨hr2, hv2, hl2⟩
 have HD : Hid (decide (wholeM m = wholeM m2) = decide (m = m2)) := by
  show _ = _
  by_cases e : m = m2
  · rw [e]; simp
  · rw [decide_eq_false e, decide_eq_false (fun h => e (wholeM_inj h))]
 obtain ⟨r, HRR⟩ := sqn (decide (m = m2))
 rw [← HRR.out]
 obtain ⟨ka, na, ca, h1⟩ : ∃ a n c, vK = .slice a n c := by obtain ⟨a, c, h⟩ := hr.form; exact ⟨a, _, c, h⟩
 obtain ⟨kb, nb, cb, h2⟩ : ∃ a n c, uK = .slice a n c := by obtain ⟨a, c, h⟩ := hr2.form; exact ⟨a, _, c, h⟩
 obtain ⟨va, ma, da, h3⟩ : ∃ a n c, vV = .slice a n c := by obtain ⟨a, c, h, _⟩ := hv; exact ⟨a, _, c, h⟩
 obtain ⟨vb, mb, db, h4⟩ : ∃ a n c, uV = .slice a n c := by obtain ⟨a, c, h, _⟩ := hv2; exact ⟨a, _, c, h⟩
 subst h1 h2 h3 h4
 clear hr hv hl hr2 hv2 hl2
 go_enter Tryz.func33, Tryz.ntmps33
 obtain ⟨ta0, ta1⟩ := sqk2
 go_upto_region 1 with (first
  | (clear ta0; with_reducible refine wpSeq_boxW 43 (.tmp 0) [.slice ka na ca, .slice va ma da] ?_ ?_ ?_ ?_
     · rfl
     · rfl
     · rfl
     intro g1 y1 nn; have H1 : Hid (Blk y1 g1 [.slice ka na ca, .slice va ma da] 43) := nn.blk; have HB1 : Hid (Below w.heap.size w y1) := nn.below; clear nn)
  | (clear ta1; with_reducible refine wpSeq_boxW 43 (.tmp 1) [.slice kb nb cb, .slice vb mb db] ?_ ?_ ?_ ?_
     · rfl
     · rfl
     · rfl
     intro g2 y2 nn; have H2 : Hid (Blk y2 g2 [.slice kb nb cb, .slice vb mb db] 43) := nn.blk; have HB2 : Hid (Below w.heap.size w y2.drew) := (HB1.out.trans (nn.below.mono HB1.out.size)).drew; replace H1 : Hid (Blk y2 g1 [.slice ka na ca, .slice va ma da] 43) := H1.out.below nn.below H1.out.lt; clear nn))
 refine wp_region_held_drew (S := fun wx => Blk wx g1 [.slice ka na ca, .slice va ma da] 43 ∧ Blk wx g2 [.slice kb nb cb, .slice vb mb db] 43) (by kernel_rfl) ⟨H1.out.drew, H2.out.drew⟩ ?_
 intro hS
 refine tka 0 (.agg [.slice ka na ca, .slice va ma da].toArray) rfl (fun wx hx => by exact load_run 43 _ rfl _ _ rfl [.slice ka na ca, .slice va ma da] _ (Blk.range hx.1) Tryz.underlying43 rfl (info_keys _ _)) hS ?_
 simp only [Act.put, sq]
 refine tka 2 (.agg [.slice kb nb cb, .slice vb mb db].toArray) rfl (fun wx hx => by exact load_run 43 _ rfl _ _ rfl [.slice kb nb cb, .slice vb mb db] _ (Blk.range hx.2) Tryz.underlying43 rfl (info_keys _ _)) hS ?_
 simp only [Act.put, sq]
 refine wpAnyH_enter 1 (by kernel_rfl) rfl (by rfl) (f := 51) (args := #[.agg [.slice ka na ca, .slice va ma da].toArray]) (by simp [go_sem]) (oWhole_any _ _ m _ (HA.out.1.below HB2.out) (HA.out.2.1.below HB2.out) HA.out.2.2) ?_
 rintro e3 y3 ⟨v3, rfl, hr3, bl3⟩
 obtain ⟨a3, n3, c3, hv3⟩ : ∃ a n c, v3 = .slice a n c := by obtain ⟨a, c, h⟩ := hr3.form; exact ⟨a, _, c, h⟩
 subst hv3
 replace hS : Blk y3 g1 [.slice ka na ca, .slice va ma da] 43 ∧ Blk y3 g2 [.slice kb nb cb, .slice vb mb db] 43 := ⟨hS.1.below bl3 hS.1.lt, hS.2.below bl3 hS.2.lt⟩
 have HB3 : Hid (Below w.heap.size w y3) := HB2.out.trans (bl3.mono HB2.out.size)
 have HR3 : Hid (ReadsA y3 (.slice a3 n3 c3) (wholeM m)) := hr3
 refine ⟨_, rfl, hS, ?_⟩
 simp only [Act.put, sq]
 refine wpAnyH_enter 3 (by kernel_rfl) rfl (by rfl) (f := 51) (args := #[.agg [.slice kb nb cb, .slice vb mb db].toArray]) (by simp [go_sem]) (oWhole_any _ _ m2 _ (HB.out.1.below HB3.out) (HB.out.2.1.below HB3.out) HB.out.2.2) ?_
 rintro e4 y4 ⟨v4, rfl, hr4, bl4⟩
 obtain ⟨a4, n4, c4, hv4⟩ : ∃ a n c, v4 = .slice a n c := by obtain ⟨a, c, h⟩ := hr4.form; exact ⟨a, _, c, h⟩
 subst hv4
 replace hS : Blk y4 g1 [.slice ka na ca, .slice va ma da] 43 ∧ Blk y4 g2 [.slice kb nb cb, .slice vb mb db] 43 := ⟨hS.1.below bl4 hS.1.lt, hS.2.below bl4 hS.2.lt⟩
 have HB4 : Hid (Below w.heap.size w y4) := HB3.out.trans (bl4.mono HB3.out.size)
 refine ⟨_, rfl, hS, ?_⟩
 simp only [Act.put, sq]
 refine wpAnyH_enter 4 (by kernel_rfl) rfl (by rfl) (f := 15) (args := #[.slice a3 n3 c3, .slice a4 n4 c4]) (by simp [go_sem]) (oSameActs_any _ _ (wholeM m) (wholeM m2) _ (HR3.out.below bl4) hr4 (by rw [show (wholeM m).length = m.length by simp [wholeM]]; have := HA.out.2.2; omega)) ?_
 rintro e5 y5 ⟨rfl, bl5⟩
 replace hS : Blk y5 g1 [.slice ka na ca, .slice va ma da] 43 ∧ Blk y5 g2 [.slice kb nb cb, .slice vb mb db] 43 := ⟨hS.1.below bl5 hS.1.lt, hS.2.below bl5 hS.2.lt⟩
 have HB5 : Hid (Below w.heap.size w y5) := HB4.out.trans (bl5.mono HB4.out.size)
 refine ⟨_, rfl, hS, ?_⟩
 rw [HD.out, ← HRR.out]
 simp only [Act.put, sq]
 refine tkc 5 (.bool r) rfl hS ?_
 simp only [Act.put, sq]
 refine wpAnyH_done (by kernel_rfl) ?_ _
 clear hS hr3 hr4 bl3 bl4 bl5
 go_wp2
 go_ret
 exact ⟨rfl, HB5.out⟩
theorem all15_rd {W : World} {gs gm n : Nat} {lv : Value} {V : Bs → Value} {m : KM} (h : StR W gs gm n lv V m) (hml : m.length < 1000000) : Calls Tryz.prog 31 #[.pointer (some ⟨gs, 0, none⟩)] W fun e w' => ∃ a1 c1 a2 c2 N, e = .returned (.tuple #[.agg [.slice a1 N c1, .slice a2 N c2].toArray, .bool true]) ∧ ReadsS w' (.slice a1 N c1) (m.map (·.1)) ∧ ReadsL w' (.slice a2 N c2) (m.map (·.2)) ∧ Below W.heap.size W w' := by
 refine (all15_any h.sb h.mp h.tx hml).mono (fun e w' hx => ?_)
 obtain ⟨vK, vV, xs, e1, e2, e3, e4⟩ := hx
 obtain ⟨a1, c1, f1⟩ := e3.rk.form
 obtain ⟨a2, c2, f2⟩ := e3.rv.form
 rw [List.length_map] at f1 f2
 have r1 := e3.readsS
 have r2 := e3.readsL
 rw [e2] at r1 r2
 rw [f1] at r1
 rw [f2] at r2
 rw [f1, f2] at e1
 exact ⟨a1, c1, a2, c2, _, e1, r1, r2, e4⟩
theorem oGet_is {w : World} {vK vV : Value} {m : KM} (key : Bs) (hr : ReadsS w vK (m.map (·.1))) (hv : ReadsL w vV (m.map (·.2))) (hup : Rise m) (hl : m.length < 1000000) : Calls Tryz.prog 59 #[.agg [vK, vV].toArray, .string (strB key)] w fun e w' => ∃ v, e = .returned (.tuple #[v, .bool (getM m key).isSome]) ∧ Reads w' v ((getM m key).getD []) ∧ Below w.heap.size w w' := by
 refine (oGet_any vK vV _ _ key w hr hv (by simp) (by rw [List.length_map]; omega)).mono (fun e w' hx => ?_)
 obtain ⟨hj, hb⟩ := hx
 obtain ⟨v, h1, h2, h3⟩ := hj
 have hg := getM_pl key hup
 cases hp : plB (m.map (·.1)) key with
 | true =>
  rw [hp, if_pos rfl] at hg
  rw [hp] at h1 h2
  rw [hg]
  exact ⟨v, h1, h2 rfl, hb⟩
 | false =>
  rw [hp, if_neg (by decide)] at hg
  rw [hp] at h1 h3
  rw [hg]
  refine ⟨v, h1, ?_, hb⟩
  rw [h3 rfl]
  exact reads_nil13 w'
theorem like15_any {w : World} {gs gm n : Nat} {lv : Value} {V : Bs → Value} {m : KM} (h : StR w gs gm n lv V m) (vK vV : Value) (hk : ReadsS w vK (m.map (·.1))) (hv : ReadsL w vV (m.map (·.2))) (key : Bs) (hky : key.length ≤ 9223372036854775807) (hml : m.length < 1000000) : Calls Tryz.prog 26 #[.pointer (some ⟨gs, 0, none⟩), .agg [vK, vV].toArray, .string (strB key)] w fun e w' => e = .returned (.bool true) ∧ Below w.heap.size w w' := by
 obtain ⟨N, HN⟩ := sqn (m.length)
 obtain ⟨a1, c1, e1⟩ := hk.form
 rw [List.length_map, ← HN.out] at e1
 subst e1
 obtain ⟨a2, c2, e2, _⟩ := id hv
 rw [List.length_map, ← HN.out] at e2
 subst e2
 obtain ⟨sk, HSK⟩ := sqn (strB key)
 rw [← HSK.out]
 obtain ⟨bb, HBB⟩ := sqn ((getM m key).isSome)
 obtain ⟨tt, HTT⟩ := sqn ((getM m key).getD [])
 have HQ : Hid (StR w gs gm n lv V m) := h
 have HK1 : Hid (ReadsS w (.slice a1 N c1) (m.map (·.1)) ∧ ReadsL w (.slice a2 N c2) (m.map (·.2))) := ⟨hk, hv⟩
 have HML : Hid (m.length < 1000000) := hml
 have HGE : Hid (∀ W, StR W gs gm n lv V m → Calls Tryz.prog 32 #[.pointer (some ⟨gs, 0, none⟩), .string sk] W fun e w' => ∃ v', e = .returned (.tuple #[v', .bool bb]) ∧ OwnB w' W.heap.size v' tt ∧ Below W.heap.size W w') := fun W h => by
  rw [HSK.out, HBB.out, HTT.out]
  exact sGet2_any h.sb h.mp h.tx key hky
 have HOG : Hid (∀ W, (ReadsS W (.slice a1 N c1) (m.map (·.1)) ∧ ReadsL W (.slice a2 N c2) (m.map (·.2))) → Calls Tryz.prog 59 #[.agg [.slice a1 N c1, .slice a2 N c2].toArray, .string sk] W fun e w' => ∃ v', e = .returned (.tuple #[v', .bool bb]) ∧ Reads w' v' tt ∧ Below W.heap.size W w') := fun W hx => by
  rw [HSK.out, HBB.out, HTT.out]
  exact oGet_is key hx.1 hx.2 h.mp.up hml
 have HSM : Hid (∀ W va vb (t : Bs), Reads W va t → Reads W vb t → Calls Tryz.prog 16 #[va, vb] W fun e w' => e = .returned (.bool true) ∧ w' = W) := fun W va vb t h1 h2 => by
  have h3 := same_any va vb t t W h1 h2
  rw [decide_eq_true rfl] at h3
  exact h3
 have HSA : Hid (∀ W a b c d, (ReadsS W a (m.map (·.1)) ∧ ReadsL W b (m.map (·.2))) → (ReadsS W c (m.map (·.1)) ∧ ReadsL W d (m.map (·.2))) → Calls Tryz.prog 33 #[.agg [a, b].toArray, .agg [c, d].toArray] W fun e w' => e = .returned (.bool true) ∧ Below W.heap.size W w') := fun W a b c d h1 h2 => by
  have h3 := oSame_any a b c d m m W h1.1 h1.2 h2.1 h2.2 hml hml
  rw [decide_eq_true rfl] at h3
  exact h3
 have HLE : Hid (∀ W, StR W gs gm n lv V m → Calls Tryz.prog 36 #[.pointer (some ⟨gs, 0, none⟩)] W fun e w' => e = .returned (.int .i64 (N : Int)) ∧ w' = W) := fun W h => by
  rw [HN.out]
  exact sLen_any h.sb h.mp
 clear h hk hv hky hml
 go_enter Tryz.func26, Tryz.ntmps26
 obtain ⟨tk0, tk1, tk2, tk3, tk4, tk5, tk6⟩ := sqk7
 go_upto_region 4 with (first
  | (clear tk0; with_reducible refine wpSeq_boxW 43 (.tmp 1) [.slice a1 N c1, .slice a2 N c2] ?_ ?_ ?_ ?_
     · rfl
     · rfl
     · rfl
     intro g4 x1 nn; have H4 : Hid (Blk x1 g4 [.slice a1 N c1, .slice a2 N c2] 43) := nn.blk; replace HK1 : Hid (ReadsS x1 (.slice a1 N c1) (m.map (·.1)) ∧ ReadsL x1 (.slice a2 N c2) (m.map (·.2))) := ⟨HK1.out.1.below nn.below, HK1.out.2.below nn.below⟩; replace HQ : Hid (StR x1 gs gm n lv V m) := HQ.out.below nn.below; have HB : Hid (Below w.heap.size w x1) := nn.below; clear nn)
  | (clear tk1; go_at_call 31; refine (all15_rd HQ.out HML.out).mono ?_; rintro e2 x2 ⟨a3, c3, a4, c4, M, rfl, rs2, rl2, bl⟩
     have HK2 : Hid (ReadsS x2 (.slice a3 M c3) (m.map (·.1)) ∧ ReadsL x2 (.slice a4 M c4) (m.map (·.2))) := ⟨rs2, rl2⟩; replace HK1 : Hid (ReadsS x2 (.slice a1 N c1) (m.map (·.1)) ∧ ReadsL x2 (.slice a2 N c2) (m.map (·.2))) := ⟨HK1.out.1.below bl, HK1.out.2.below bl⟩; replace HQ : Hid (StR x2 gs gm n lv V m) := HQ.out.below bl; replace H4 : Hid (Blk x2 g4 [.slice a1 N c1, .slice a2 N c2] 43) := H4.out.below bl H4.out.lt; replace HB := sqt HB bl; clear rs2 rl2 bl)
  | (clear tk2; with_reducible refine wpSeq_allocK ?_ ?_ ?_
     · rfl
     · rfl
     intro g7 x3 nn; have HB7 : Hid (Blk x3 g7 [.slice none 0 0, .slice none 0 0] 43 ∧ x2.heap.size ≤ g7 ∧ Below x2.heap.size x2 x3) := ⟨nn.blk, nn.ge, nn.below⟩; clear nn)
  | (clear tk3; with_reducible refine wpSeq_storeRow 43 (.tmp 7) (.tmp 16) g7 [.slice none 0 0, .slice none 0 0] [.slice a3 M c3, .slice a4 M c4] HB7.out.1 rfl (info_keys _ _) (one_keys _ _ _ _ _ _) ?_ ?_ ?_ ?_ ?_
     · rfl
     · rfl
     · rfl
     · rfl
     intro x4 sr; have bl : Below x2.heap.size x2 x4 := HB7.out.2.2.trans (sr.only.below HB7.out.2.1 HB7.out.2.2.size); have H7 : Hid (Blk x4 g7 [.slice a3 M c3, .slice a4 M c4] 43) := sr.blk; replace HK1 : Hid (ReadsS x4 (.slice a1 N c1) (m.map (·.1)) ∧ ReadsL x4 (.slice a2 N c2) (m.map (·.2))) := ⟨HK1.out.1.below bl, HK1.out.2.below bl⟩; replace HK2 : Hid (ReadsS x4 (.slice a3 M c3) (m.map (·.1)) ∧ ReadsL x4 (.slice a4 M c4) (m.map (·.2))) := ⟨HK2.out.1.below bl, HK2.out.2.below bl⟩; replace HQ : Hid (StR x4 gs gm n lv V m) := HQ.out.below bl; replace H4 : Hid (Blk x4 g4 [.slice a1 N c1, .slice a2 N c2] 43) := H4.out.below bl H4.out.lt; replace HB := sqt HB bl; clear sr bl HB7)
  | (clear tk4; go_at_call 32; refine (HGE.out _ HQ.out).mono ?_; rintro e5 x5 ⟨v5, rfl, ow, bl⟩
     obtain ⟨p1, p2, p3, hv5⟩ := isSl_form ow.isSl; subst hv5; have HO1 : Hid (Reads x5 (.slice p1 p2 p3) tt) := ow.reads; replace HK1 : Hid (ReadsS x5 (.slice a1 N c1) (m.map (·.1)) ∧ ReadsL x5 (.slice a2 N c2) (m.map (·.2))) := ⟨HK1.out.1.below bl, HK1.out.2.below bl⟩; replace HK2 : Hid (ReadsS x5 (.slice a3 M c3) (m.map (·.1)) ∧ ReadsL x5 (.slice a4 M c4) (m.map (·.2))) := ⟨HK2.out.1.below bl, HK2.out.2.below bl⟩; replace HQ : Hid (StR x5 gs gm n lv V m) := HQ.out.below bl; replace H4 : Hid (Blk x5 g4 [.slice a1 N c1, .slice a2 N c2] 43) := H4.out.below bl H4.out.lt; replace H7 : Hid (Blk x5 g7 [.slice a3 M c3, .slice a4 M c4] 43) := H7.out.below bl H7.out.lt; replace HB := sqt HB bl; clear ow bl)
  | (clear tk5; with_reducible refine wpSeq_loadW 43 (.tmp 4) g4 0 [.slice a1 N c1, .slice a2 N c2] _ (Blk.range H4.out) Tryz.underlying43 rfl (info_keys _ _) ?_ ?_ ?_ ?_
     · rfl
     · rfl
     · rfl)
  | (clear tk6; go_at_call 59; refine (HOG.out _ HK1.out).mono ?_; rintro e6 x6 ⟨v6, rfl, hr6, bl⟩
     obtain ⟨r1, r2, r3, hv6⟩ := hr6.form; subst hv6; have HO2 : Hid (Reads x6 (.slice r1 r2 r3) tt) := hr6; replace HO1 : Hid (Reads x6 (.slice p1 p2 p3) tt) := HO1.out.below bl; replace HK1 : Hid (ReadsS x6 (.slice a1 N c1) (m.map (·.1)) ∧ ReadsL x6 (.slice a2 N c2) (m.map (·.2))) := ⟨HK1.out.1.below bl, HK1.out.2.below bl⟩; replace HK2 : Hid (ReadsS x6 (.slice a3 M c3) (m.map (·.1)) ∧ ReadsL x6 (.slice a4 M c4) (m.map (·.2))) := ⟨HK2.out.1.below bl, HK2.out.2.below bl⟩; replace HQ : Hid (StR x6 gs gm n lv V m) := HQ.out.below bl; replace H4 : Hid (Blk x6 g4 [.slice a1 N c1, .slice a2 N c2] 43) := H4.out.below bl H4.out.lt; replace H7 : Hid (Blk x6 g7 [.slice a3 M c3, .slice a4 M c4] 43) := H7.out.below bl H7.out.lt; replace HB := sqt HB bl; clear hr6 bl))
 have bld : Below x6.heap.size x6 x6.drew := (Below.refl _ _).drew
 refine wp_region_held_drew (S := fun wx => Blk wx g4 [.slice a1 N c1, .slice a2 N c2] 43 ∧ Blk wx g7 [.slice a3 M c3, .slice a4 M c4] 43) (by kernel_rfl) ⟨H4.out.drew, H7.out.drew⟩ ?_
 intro hS
 refine tkc 0 (.bool true) rfl hS ?_
 simp only [Act.put, sq]
 refine tkc 1 (.bool true) rfl hS ?_
 simp only [Act.put, sq]
 refine tkc 2 (.pointer (some ⟨gs, 0, none⟩)) rfl hS ?_
 simp only [Act.put, sq]
 refine tkc 4 (.pointer (some ⟨g4, 0, none⟩)) rfl hS ?_
 simp only [Act.put, sq]
 refine tka 5 (.slice a1 N c1) rfl (fun wx hx => by (have cx : wx.cell? ⟨g4, 0, none⟩ = some (.slice a1 N c1) := hx.1.cell 0; simp [go_sem, cx])) hS ?_
 simp only [Act.put, sq]
 refine tkc 6 (.int .i64 (N : Int)) rfl hS ?_
 simp only [Act.put, sq]
 refine wpAnyH_enter 3 (by kernel_rfl) rfl (by rfl) (f := 36) (args := #[.pointer (some ⟨gs, 0, none⟩)]) (by simp [go_sem]) (HLE.out _ (HQ.out.below bld)) ?_
 rintro e7 x7 ⟨rfl, rfl⟩
 refine ⟨_, rfl, hS, ?_⟩
 simp only [Act.put, sq]
 refine tkc 7 (.bool true) rfl hS ?_
 simp only [Act.put, sq]
 refine tkc 8 (.bool true) rfl hS ?_
 simp only [Act.put, sq]
 refine tkc 9 (.bool true) rfl hS ?_
 simp only [Act.put, sq]
 refine tka 10 (.agg [.slice a3 M c3, .slice a4 M c4].toArray) rfl (fun wx hx => by exact load_run 43 _ rfl _ _ rfl [.slice a3 M c3, .slice a4 M c4] _ (Blk.range hx.2) Tryz.underlying43 rfl (info_keys _ _)) hS ?_
 simp only [Act.put, sq]
 refine tka 11 (.agg [.slice a1 N c1, .slice a2 N c2].toArray) rfl (fun wx hx => by exact load_run 43 _ rfl _ _ rfl [.slice a1 N c1, .slice a2 N c2] _ (Blk.range hx.1) Tryz.underlying43 rfl (info_keys _ _)) hS ?_
 simp only [Act.put, sq]
 refine wpAnyH_enter 12 (by kernel_rfl) rfl (by rfl) (f := 33) (args := #[.agg [.slice a3 M c3, .slice a4 M c4].toArray, .agg [.slice a1 N c1, .slice a2 N c2].toArray]) (by simp [go_sem]) (HSA.out _ _ _ _ _ ⟨HK2.out.1.below bld, HK2.out.2.below bld⟩ ⟨HK1.out.1.below bld, HK1.out.2.below bld⟩) ?_
 rintro e8 x8 ⟨rfl, bl8⟩
 replace hS : Blk x8 g4 [.slice a1 N c1, .slice a2 N c2] 43 ∧ Blk x8 g7 [.slice a3 M c3, .slice a4 M c4] 43 := ⟨hS.1.below bl8 hS.1.lt, hS.2.below bl8 hS.2.lt⟩
 have HB8 : Hid (Below w.heap.size w x8) := (HB.out.drew).trans (bl8.mono HB.out.drew.size)
 have HP1 : Hid (Reads x8 (.slice p1 p2 p3) tt ∧ Reads x8 (.slice r1 r2 r3) tt) := ⟨(HO1.out.below bld).below bl8, (HO2.out.below bld).below bl8⟩
 refine ⟨_, rfl, hS, ?_⟩
 simp only [Act.put, sq]
 refine tkc 13 (.bool true) rfl hS ?_
 simp only [Act.put, sq]
 refine tkc 14 (.bool true) rfl hS ?_
 simp only [Act.put, sq]
 refine tkc 15 (.bool bb) rfl hS ?_
 simp only [Act.put, sq]
 refine tkc 16 (.bool bb) rfl hS ?_
 simp only [Act.put, sq]
 refine tka 17 (.bool true) rfl (fun wx hx => by cases bb <;> simp [go_sem]) hS ?_
 simp only [Act.put, sq]
 refine tkc 18 (.bool true) rfl hS ?_
 simp only [Act.put, sq]
 refine tkc 19 (.bool true) rfl hS ?_
 simp only [Act.put, sq]
 refine tkc 20 (.slice p1 p2 p3) rfl hS ?_
 simp only [Act.put, sq]
 refine tkc 21 (.slice r1 r2 r3) rfl hS ?_
 simp only [Act.put, sq]
 refine wpAnyH_enter 22 (by kernel_rfl) rfl (by rfl) (f := 16) (args := #[.slice p1 p2 p3, .slice r1 r2 r3]) (by simp [go_sem]) (HSM.out _ _ _ _ HP1.out.1 HP1.out.2) ?_
 rintro e9 x9 ⟨rfl, rfl⟩
 refine ⟨_, rfl, hS, ?_⟩
 simp only [Act.put, sq]
 refine tkc 23 (.bool true) rfl hS ?_
 simp only [Act.put, sq]
 refine tkc 24 (.bool true) rfl hS ?_
 simp only [Act.put, sq]
 refine wpAnyH_done (by kernel_rfl) ?_ _
 clear hS bl8 bld
 go_wp2
 go_ret
 exact ⟨rfl, HB8.out⟩
theorem encA_ln15 : ∀ (l : List ActT), l.length ≤ (encAll encA l).length
 | [] => Nat.le_refl _
 | a :: l => by
  have ih := encA_ln15 l
  have h1 := encNum_ge1 a.key.length
  have h2 : (encNum a.key.length).length ≤ (encA a).length := by
   unfold encA encText; rw [List.append_assoc, List.length_append]; exact Nat.le_add_right _ _
  have h3 : (encAll encA (a :: l)).length = (encA a).length + (encAll encA l).length := by rw [encAll_cons, List.length_append]
  rw [h3, List.length_cons]
  omega
theorem batch_len (l : List ActT) : l.length ≤ (batchB l).length := by
 have h := encA_ln15 l
 unfold batchB encList
 rw [List.length_append]
 omega
theorem sumB_le (l : List Bs) (k : Nat) : sumB (l.take k) ≤ sumB l := by
 have h : sumB l = sumB (l.take k) + sumB (l.drop k) := by
  conv => lhs; rw [← List.take_append_drop k l]
  unfold sumB
  rw [List.map_append, List.sum_append]
 omega
theorem ofM_take {l : List Bs} {k : Nat} (h : k < l.length) : ofM (l.take (k + 1)) = (match ofM (l.take k) with | none => none | some m => match readB (l.getD k []) with | none => none | some a => some (doneM m a)) := by
 rw [List.take_add_one, List.getElem?_eq_getElem h, List.getD_eq_getElem?_getD, List.getElem?_eq_getElem h]
 exact ofM_snoc _ _
theorem wpSeq_idxT15 {ops : Array Oper} {Q : Exit → Act → World → Prop} {rest : List Oper} {o : Oper} {a : Act} {w : World} (x y : Operand) (b off n c k : Nat) (hk : k < n) (ho : o.op = .indexAddr 41 x y) (hx : a.eval x = .slice (some ⟨b, off, none⟩) n c) (hy : a.eval y = .int .i64 (k : Int)) (hw : Region.wanted o (yielded ops a.tmps) = true)
 (h : wpList Tryz.prog ops Q rest (a.put o.dst (.pointer (some ⟨b, off + k, none⟩))) w) : wpList Tryz.prog ops Q (o :: rest) a w :=
 wpSeq_val _ _ hw (idxT15 b off n c k hk _ o x y ho hx hy w) h
theorem readB_small {b : Bs} {l : List ActT} (h : readB b = some l) : ∀ a ∈ l, a.key.length ≤ 1000000 ∧ a.data.length ≤ 1048576 := fun a ha => by
 obtain ⟨h1, h2⟩ := chkL_ok.1 ((readB_iff _ _).1 h).1
 have h3 := okA_sz (goodF_mem l [] h2 a ha).1
 omega
def LdR (w : World) (gm : Nat) : Nat → Prop := fun k => k < w.heap.size ∨ k = gm
structure LdI (w : World) (gm : Nat) (rs : List Bs) (lv : Value) (k n : Nat) (V : Bs → Value) (m : KM) (W : World) : Prop where
 mp : MapM W gm n V m
 nn : n ≤ sumB (rs.take k)
 tx : ∀ s t, getM m s = some t → Sta (LdR w gm) W (fun X => Reads X (V s) t) ∧ t.length ≤ 1048576
 bel : Below w.heap.size w W
 rd : Sta (fun j => j = gm) W (fun X => ReadsL X lv rs)
 of : ofM (rs.take k) = some m
theorem LdI.below {w W Y : World} {gm : Nat} {rs : List Bs} {lv : Value} {k n : Nat} {V : Bs → Value} {m : KM} (h : LdI w gm rs lv k n V m W) (hb : Below W.heap.size W Y) : LdI w gm rs lv k n V m Y :=
 ⟨h.mp.same (hb.block gm h.mp.lt), h.nn, fun s t ht => ⟨(h.tx s t ht).1.below hb, (h.tx s t ht).2⟩, h.bel.trans (hb.mono h.bel.size), h.rd.below hb, h.of⟩
theorem readsL_map {W : World} {gm n : Nat} {V : Bs → Value} {m : KM} {lv : Value} {rs : List Bs} (h : ReadsL W lv rs) (hm : MapM W gm n V m) : Sta (fun j => j = gm) W (fun X => ReadsL X lv rs) := fun X hX => by
 obtain ⟨ad, cap, e1, e2, e3, e4⟩ := h
 refine ⟨ad, cap, e1, e2, e3, fun hp => ?_⟩
 obtain ⟨b, off, e5, e6⟩ := e4 hp
 refine ⟨b, off, e5, fun j hj => ?_⟩
 obtain ⟨vj, e7, e8⟩ := e6 j hj
 have nb : ∀ {a : Addr} {u : Value}, W.cell? a = some u → X.cell? a = some u := fun {a u} hc => by
  rw [World.cell?_of_block (w := W) (hX.block a.block (block_lt_of_cell hc) (fun e => hm.neC hc e))]
  exact hc
 refine ⟨vj, nb e7, ?_⟩
 obtain ⟨a2, c2, f1, f2, f3, f4⟩ := e8
 refine ⟨a2, c2, f1, f2, f3, fun hp2 => ?_⟩
 obtain ⟨b2, o2, f5, f6⟩ := f4 hp2
 exact ⟨b2, o2, f5, fun i hi => nb (f6 i hi)⟩
theorem LdI.step {w W Y : World} {gm : Nat} {rs : List Bs} {lv : Value} {k n : Nat} {V V' : Bs → Value} {m : KM} {ps : List (ActT × Value)} (h : LdI w gm rs lv k n V m W) (hk : k < rs.length) (hb : readB (rs.getD k []) = some (ps.map (·.1))) (hd : DoS W gm (n + ps.length) (fun v t => Sta (LdR w gm) W (fun X => Reads X v t) ∧ t.length ≤ 1048576) (doneM m (ps.map (·.1))) V' Y) (hg : w.heap.size ≤ gm) : LdI w gm rs lv (k + 1) (n + ps.length) V' (doneM m (ps.map (·.1))) Y := by
 obtain ⟨hc, he⟩ := (readB_iff _ _).1 hb
 refine ⟨hd.mp, ?_, fun s t ht => ?_, ?_, h.rd.go hd.mu (fun _ _ e => e), ?_⟩
 · rw [sumB_take hk, he]
   have h1 := h.nn; have h2 := batch_len (ps.map (·.1)); rw [List.length_map] at h2; omega
 · have h1 := hd.kk s t ht
   exact ⟨h1.1.go ⟨hd.mu.os, hd.mu.tape, hd.mu.output, hd.mu.size, fun j hj hn => hd.mu.block j hj (fun e => hn (Or.inr e))⟩ (fun _ _ e => e), h1.2⟩
 · exact h.bel.trans (hd.mu.below h.bel.size (fun j e => by rw [e]; exact hg))
 · rw [ofM_take hk, h.of, hb]
theorem LdI.todo {w W : World} {gm base : Nat} {rs : List Bs} {lv va : Value} {k n : Nat} {V : Bs → Value} {m : KM} {ps : List (ActT × Value)} (h : LdI w gm rs lv k n V m W) (hb : readB (rs.getD k []) = some (ps.map (·.1))) (ow : OwnA W base va ps) (hb1 : w.heap.size ≤ base) (hb2 : gm < base) (hs : sumB rs < 1000000) : Calls Tryz.prog 54 #[.map (some gm), va] W fun e w' => e = .returned (.tuple #[]) ∧ ∃ V', DoS W gm (n + ps.length) (fun v t => Sta (LdR w gm) W (fun X => Reads X v t) ∧ t.length ≤ 1048576) (doneM m (ps.map (·.1))) V' w' := by
 have hz := readB_small hb
 refine sDo_any (fun v t => Sta (LdR w gm) W (fun X => Reads X v t) ∧ t.length ≤ 1048576) h.mp h.tx va ps ow.rdp (fun p hp => ?_) ?_
 · have h1 := hz p.1 (List.mem_map_of_mem hp)
   exact ⟨h1.1, (ow.dat p hp).isSl, fun _ => ⟨(ow.dat p hp).st (fun j hj => hj.elim (fun hj => Nat.lt_of_lt_of_le hj hb1) (fun e => by rw [e]; exact hb2)), h1.2⟩⟩
 · have h1 := h.nn
   have h2 := sumB_le rs k; obtain ⟨hc, he⟩ := (readB_iff _ _).1 hb; have h3 := (chkL_ok.1 hc).1; rw [List.length_map] at h3; omega
def LdA (w : World) (rs : List Bs) (e : Ending) (w' : World) : Prop :=
 Below w.heap.size w w' ∧ ((∃ gm n V m, ofM rs = some m ∧ e = .returned (.tuple #[.map (some gm), .bool true]) ∧ MapM w' gm n V m ∧ n ≤ sumB rs ∧ (∀ s t, getM m s = some t → Sta (LdR w gm) w' (fun X => Reads X (V s) t) ∧ t.length ≤ 1048576) ∧ w.heap.size ≤ gm) ∨ (ofM rs = none ∧ e = .returned (.tuple #[.map none, .bool false])))
theorem sLoad_any {w : World} {gd : Nat} {P : Nat → Prop} {D : DkT} (hK : KOk w) (hd : DkIs w gd P D) (hw : D.wait.length ≤ 200) (hl : (dumpD D).length < 8000000) (hs : sumB (rdL14 (dumpD D)) < 1000000) (hn : (rdL14 (dumpD D)).length < 1000000) :
 Calls Tryz.prog 61 #[.pointer (some ⟨gd, 0, none⟩)] w fun e w' => LdA w (rdL14 (dumpD D)) e w' := by
 have HD : Hid (DkIs w gd P D ∧ D.wait.length ≤ 200 ∧ (dumpD D).length < 8000000 ∧ KOk w) := ⟨hd, hw, hl, hK⟩
 obtain ⟨rs, HRS⟩ := sqn (rdL14 (dumpD D))
 rw [← HRS.out] at hs hn ⊢
 have HSB : Hid (sumB rs < 1000000 ∧ rs.length < 1000000) := ⟨hs, hn⟩
 obtain ⟨N, HN⟩ := sqn (rs.length)
 clear hd hw hl hK hs hn
 obtain ⟨gn, HGN⟩ := sqn ((rdG14 (dumpD D) : Int))
 obtain ⟨xn, HXN⟩ := sqn (rdX14 (dumpD D))
 go_enter Tryz.func61, Tryz.ntmps61
 obtain ⟨tk0, tk1, tk2⟩ := sqk3
 go_wp2_with (first
  | (clear tk0; with_reducible refine wpSeq_mkMap nilV ?_ ?_ ?_
     · rfl
     · rfl
     intro gm y0 hg0 hm0 bl0; have HM : Hid (MapM y0 gm 0 nilV []) := hm0; have HB : Hid (Below w.heap.size w y0 ∧ w.heap.size ≤ gm) := ⟨bl0, hg0⟩; clear hg0 hm0 bl0)
  | (clear tk1; go_at_call 25; refine (dkDump_b (HD.out.1.belowS HB.out.1) HD.out.2.1).mono ?_; rintro e1 y1 ⟨vd, rfl, hr1, bl1⟩
     have HR1 : Hid (Reads y1 vd (dumpD D)) := hr1; replace HM : Hid (MapM y1 gm 0 nilV []) := HM.out.same (bl1.block gm HM.out.lt); replace HB : Hid (Below w.heap.size w y1 ∧ w.heap.size ≤ gm) := ⟨HB.out.1.trans (bl1.mono HB.out.1.size), HB.out.2⟩; clear hr1 bl1)
  | (clear tk2; go_at_call 86; refine (jRead_any vd (dumpD D) HD.out.2.2.1 y1 (HD.out.2.2.2.below HB.out.1 HD.out.2.2.2.lt) HR1.out).mono ?_; rintro e2 y2 ⟨lv, rfl, hl2, bl2⟩
     rw [← HRS.out] at hl2; have HLV : Hid (ReadsL y2 lv rs) := hl2; obtain ⟨al, cl, hlv⟩ : ∃ a c, lv = .slice a N c := by obtain ⟨a, c, h, _⟩ := hl2; rw [HN.out]; exact ⟨a, c, h⟩
     subst hlv; rw [← HGN.out, ← HXN.out]; replace HM : Hid (MapM y2 gm 0 nilV []) := HM.out.same (bl2.block gm HM.out.lt); replace HB : Hid (Below w.heap.size w y2 ∧ w.heap.size ≤ gm) := ⟨HB.out.1.trans (bl2.mono HB.out.1.size), HB.out.2⟩; clear hl2 bl2 HR1))
 have HI0 : Hid (LdI w gm rs (.slice al N cl) 0 0 nilV [] y2) := ⟨HM.out, Nat.zero_le _, (fun s t h => by cases h), HB.out.1, readsL_map HLV.out HM.out, rfl⟩
 have HG : Hid (w.heap.size ≤ gm) := HB.out.2
 clear HM HB HLV HD
 go_loopw [25] (fun i wr => ∃ (k n : Nat) (V : Bs → Value) (m : KM), k ≤ N ∧ i = .int .i64 (k : Int) ∧ Hid (LdI w gm rs (.slice al N cl) k n V m wr)) (fun i _ => N - (intOf i).toNat)
 case atStart => exact ⟨0, 0, nilV, [], Nat.zero_le _, rfl, HI0⟩
 case round =>
  clear HI0
  obtain ⟨k, n, V, m, hk, rfl, HI⟩ := hrel
  by_cases hlt : k < N
  case neg =>
   obtain rfl : k = N := by omega
   have hlk : ¬ ((k : Int) < (k : Int)) := by omega
   go_wp2; refine bodyPost_ret (results_tmp2 rfl _ _ _) rfl ?_; have h := HI.out; have e : rs.take k = rs := List.take_of_length_le (by rw [← HN.out]; exact Nat.le_refl _)
   have h1 := h.of; have h2 := h.nn; rw [e] at h1 h2; exact ⟨h.bel, Or.inl ⟨gm, n, V, m, h1, rfl, h.mp, h2, h.tx, HG.out⟩⟩
  case pos =>
   have hlk : (k : Int) < (N : Int) := by omega
   have HLT : Hid (k < N ∧ k < rs.length) := ⟨hlt, by rw [← HN.out]; exact hlt⟩
   have f1 : IntKind.i64.wrap ((k : Int) + 1) = (k : Int) + 1 := by rw [IntKind.wrap_i64]; have := HSB.out.2; have := HN.out; omega
   obtain ⟨b, off, vj, eb, c0, hrj⟩ := HI.out.rd.now.atJ HLT.out.2; subst eb; obtain ⟨av, nv, cv, hvj⟩ : ∃ a n c, vj = .slice a n c := by obtain ⟨a, c, h, _⟩ := hrj; exact ⟨a, _, c, h⟩
   subst hvj; obtain ⟨bb, HBB⟩ := sqn (rs.getD k []); rw [← HBB.out] at hrj; have HRJ : Hid (Reads wr (.slice av nv cv) bb) := hrj; clear hrj hk; obtain ⟨ta0, ta1, ta2⟩ := sqk3
   go_wp2_with (first
    | (clear ta0; with_reducible refine wpSeq_idxT15 (.tmp 23) (.tmp 25) b off N cl k HLT.out.1 ?_ ?_ ?_ ?_ ?_
       · rfl
       · rfl
       · rfl
       · rfl)
    | (clear ta1; go_at_call 12; refine (sReadBatch_any _ bb wr HRJ.out).mono ?_; rintro e3 y3 ⟨bl3, ⟨va, ps, hp3, rfl, ow3⟩ | ⟨hn3, rfl⟩⟩
       all_goals (first
        | (obtain ⟨a3, c3, hv3⟩ := ow3.form
           obtain ⟨M, HM3⟩ := sqn (ps.length); rw [← HM3.out] at hv3; subst hv3; have HI3 : Hid (LdI w gm rs (.slice (some ⟨b, off, none⟩) N cl) k n V m y3) := HI.out.below bl3; have HP3 : Hid (readB bb = some (ps.map (·.1)) ∧ OwnA y3 wr.heap.size (.slice a3 M c3) ps ∧ gm < wr.heap.size ∧ w.heap.size ≤ wr.heap.size) := ⟨hp3, ow3, HI.out.mp.lt, HI.out.bel.size⟩; have HDO : Hid (Calls Tryz.prog 54 #[.map (some gm), .slice a3 M c3] y3 fun e w' => e = .returned (.tuple #[]) ∧ ∃ V', DoS y3 gm (n + ps.length) (fun v t => Sta (LdR w gm) y3 (fun X => Reads X v t) ∧ t.length ≤ 1048576) (doneM m (ps.map (·.1))) V' w') := HI3.out.todo (by rw [← HBB.out]; exact HP3.out.1) HP3.out.2.1 (by have := HP3.out.2.2.2; have := HP3.out.2.2.1; omega) HP3.out.2.2.1 HSB.out.1
           clear hp3 ow3 bl3)
        | (have HN3 : Hid (readB bb = none ∧ Below w.heap.size w y3) := ⟨hn3, HI.out.bel.trans (bl3.mono HI.out.bel.size)⟩
           clear hn3 bl3 ta2)))
    | (clear ta2; go_at_call 54; refine (HDO.out).mono ?_; rintro e4 y4 ⟨rfl, V4, hd4⟩
       have HI4 : Hid (LdI w gm rs (.slice (some ⟨b, off, none⟩) N cl) (k + 1) (n + ps.length) V4 (doneM m (ps.map (·.1))) y4) := HI3.out.step HLT.out.2 (by rw [← HBB.out]; exact HP3.out.1) hd4 HG.out
       clear hd4))
   · go_wp2
     go_roundw
     case rel => exact ⟨k + 1, n + ps.length, V4, doneM m (ps.map (·.1)), HLT.out.1, rfl, HI4⟩
     case measure => simp [intOf]; have := HLT.out.1; omega
   · refine bodyPost_ret (results_tmp2 rfl _ _ _) rfl ?_
     refine ⟨HN3.out.2, Or.inr ⟨?_, rfl⟩⟩; have h1 := ofM_take HLT.out.2; rw [HI.out.of, ← HBB.out, HN3.out.1] at h1; rw [← List.take_append_drop (k + 1) rs]; exact ofM_none _ _ h1
theorem sPowered_any {w : World} {gd : Nat} {P : Nat → Prop} {D : DkT} (h : DkIs w gd P D) (hx : readX13 D 0 = 0) : Calls Tryz.prog 62 #[.pointer (some ⟨gd, 0, none⟩)] w fun e w' => e = .returned (.bool true) ∧ Mut P w w' := by
 have HR : Hid (Calls Tryz.prog 87 #[.pointer (some ⟨gd, 0, none⟩), .int .i64 0] w fun r w' => ∃ v, r = .returned (.tuple #[v, .int .i64 0]) ∧ Mut P w w') := (dkRead_any 0 h).mono (fun e w' hx2 => by
  obtain ⟨P', v, h1, _, _, h4, _⟩ := hx2
  rw [hx] at h1
  exact ⟨v, h1, h4⟩)
 clear h hx
 go_enter Tryz.func62, Tryz.ntmps62
 go_wp2_with (go_at_call 87; refine HR.out.mono ?_; rintro e1 y1 ⟨v, rfl, mu⟩; have HM : Hid (Mut P w y1) := mu; clear mu)
 go_ret
 exact ⟨rfl, HM.out⟩
theorem sOpen_bad {w : World} {gd : Nat} {P : Nat → Prop} {D : DkT} (hK : KOk w) (hd : DkIs w gd P D) (hw : D.wait.length ≤ 200) (hl : (dumpD D).length < 8000000) (hs : sumB (rdL14 (dumpD D)) < 1000000) (hn : (rdL14 (dumpD D)).length < 1000000) (hx : readX13 D 0 = 0) (hof : ofM (rdL14 (dumpD D)) = none) :
 Calls Tryz.prog 28 #[.pointer (some ⟨gd, 0, none⟩)] w fun e w' => e = .returned (.tuple #[.pointer none, .int .i64 3]) ∧ Mut P w w' := by
 have HLD : Hid (Calls Tryz.prog 61 #[.pointer (some ⟨gd, 0, none⟩)] w fun e w' => e = .returned (.tuple #[.map none, .bool false]) ∧ Below w.heap.size w w') := (sLoad_any hK hd hw hl hs hn).mono (fun e w' h => by
  obtain ⟨hb, ⟨gm, n, V, m, h1, _⟩ | ⟨_, h2⟩⟩ := h
  · rw [hof] at h1; cases h1
  · exact ⟨h2, hb⟩)
 have HPW : Hid (∀ W, Below w.heap.size w W → Calls Tryz.prog 62 #[.pointer (some ⟨gd, 0, none⟩)] W fun e w' => e = .returned (.bool true) ∧ Mut P W w') := fun W hb => sPowered_any (hd.belowS hb) hx
 clear hK hd hw hl hs hn hx hof
 go_enter Tryz.func28, Tryz.ntmps28
 obtain ⟨tk0, tk1⟩ := sqk2
 go_wp2_with (first
  | (clear tk0; go_at_call 61; refine (HLD.out).mono ?_; rintro e0 y0 ⟨rfl, bl0⟩
     have HB : Hid (Below w.heap.size w y0) := bl0; clear bl0)
  | (clear tk1; go_at_call 62; refine (HPW.out y0 HB.out).mono ?_; rintro e1 y1 ⟨rfl, mu1⟩
     have HM : Hid (Mut P w y1) := (mut_below HB.out P).trans (fun _ _ h => h) mu1
     clear mu1))
 refine bodyPost_ret (results_tmp2 rfl _ _ _) rfl ?_
 exact ⟨rfl, HM.out⟩
theorem rdL_small {D : DkT} (h8 : sizeD D < 8) (hw : D.wait = []) : rdL14 (dumpD D) = [] := by
 have hn : ¬ okB (dumpD D) := fun h => by
  have h2 := h.2
  have : dumpD D = D.safe := by unfold dumpD; rw [hw]; rfl
  rw [this] at h2
  unfold sizeD at h8
  omega
 exact if_neg hn
theorem sOpen_small {w : World} {gd : Nat} {P : Nat → Prop} {D : DkT} (hK : KOk w) (hd : DkIs w gd P D) (hw : D.wait = []) (hl : (dumpD D).length < 8000000) (h8 : sizeD D < 8) :
 Calls Tryz.prog 28 #[.pointer (some ⟨gd, 0, none⟩)] w fun e w' => e = .returned (.tuple #[.pointer none, .int .i64 1]) ∧ Below w.heap.size w w' := by
 have hr := rdL_small h8 hw
 have HLD : Hid (Calls Tryz.prog 61 #[.pointer (some ⟨gd, 0, none⟩)] w fun e w' => ∃ gm, e = .returned (.tuple #[.map (some gm), .bool true]) ∧ MapM w' gm 0 nilV [] ∧ Below w.heap.size w w' ∧ w.heap.size ≤ gm) := sLoad_empty hK hd (by rw [hw]; exact Nat.zero_le _) hl hr
 have HOP : Hid (∀ W, Below w.heap.size w W → Calls Tryz.prog 63 #[.pointer (some ⟨gd, 0, none⟩)] W fun e w' => e = .returned (.tuple #[.pointer none, .int .i64 1]) ∧ w' = W) := fun W hb => jOpen_small (hd.belowS hb) h8
 clear hK hd hw hl h8 hr
 go_enter Tryz.func28, Tryz.ntmps28
 obtain ⟨tk0, tk1⟩ := sqk2
 go_wp2_with (first
  | (clear tk0; go_at_call 61; refine (HLD.out).mono ?_; rintro e0 y0 ⟨gm, rfl, _, bl0, _⟩
     have HB : Hid (Below w.heap.size w y0) := bl0; clear bl0)
  | (clear tk1; go_at_call 63; refine (HOP.out y0 HB.out).mono ?_; rintro e1 y1 ⟨rfl, hz⟩
     subst hz))
 refine bodyPost_ret (results_tmp2 rfl _ _ _) rfl ?_
 exact ⟨rfl, HB.out⟩
theorem sOpen_good {w : World} {gd : Nat} {P : Nat → Prop} {D : DkT} {m : KM} (hK : KOk w) (hd : DkIs w gd P D) (hw : D.wait = []) (hl : (dumpD D).length < 8000000) (hs : sumB (rdL14 (dumpD D)) < 1000000) (hn : (rdL14 (dumpD D)).length < 1000000) (h8 : 8 ≤ sizeD D) (h100 : sizeD D ≤ 100) (hx : (runJ D (openG D).1).2 = 0) (hof : ofM (rdL14 (dumpD D)) = some m) :
 Calls Tryz.prog 28 #[.pointer (some ⟨gd, 0, none⟩)] w fun e w' => ∃ gs gm n lv V, e = .returned (.tuple #[.pointer (some ⟨gs, 0, none⟩), .int .i64 0]) ∧ StR w' gs gm n lv V m ∧ Mut P w w' := by
 have HLD : Hid (Calls Tryz.prog 61 #[.pointer (some ⟨gd, 0, none⟩)] w fun e w' => ∃ gm n V, e = .returned (.tuple #[.map (some gm), .bool true]) ∧ MapM w' gm n V m ∧ (∀ s t, getM m s = some t → Sta (LdR w gm) w' (fun X => Reads X (V s) t) ∧ t.length ≤ 1048576) ∧ Below w.heap.size w w' ∧ w.heap.size ≤ gm) := (sLoad_any hK hd (by rw [hw]; exact Nat.zero_le _) hl hs hn).mono (fun e w' h => by
  obtain ⟨hb, ⟨gm, n, V, m', h1, h2, h3, _, h5, h6⟩ | ⟨h1, _⟩⟩ := h
  · rw [hof] at h1
    cases h1
    exact ⟨gm, n, V, h2, h3, h5, hb, h6⟩
  · rw [hof] at h1; cases h1)
 have HLT : Hid (∀ k, P k → k < w.heap.size) := fun k hk => hd.ltS k hk
 have HOP : Hid (∀ W, Below w.heap.size w W → Calls Tryz.prog 63 #[.pointer (some ⟨gd, 0, none⟩)] W fun e w' => ∃ lg, e = .returned (.tuple #[.pointer (some ⟨lg, 0, none⟩), .int .i64 0]) ∧ Mut P W w') := fun W hb => (jOpen_any (hK.below hb hK.lt) (hd.belowS hb) hw h100 h8).mono (fun e w' h => by
  obtain ⟨P', lv, h1, h2⟩ := h
  obtain ⟨lg, Q, e1, _⟩ := h2.lg hx
  rw [hx, e1] at h1
  exact ⟨lg, h1, h2.mv⟩)
 clear hK hd hw hl hs hn h8 h100 hx hof
 go_enter Tryz.func28, Tryz.ntmps28
 obtain ⟨tk0, tk1, tk2⟩ := sqk3
 go_wp2_with (first
  | (clear tk0; go_at_call 61; refine (HLD.out).mono ?_; rintro e0 y0 ⟨gm, n, V, rfl, hm0, ht0, bl0, hg0⟩
     have HM : Hid (MapM y0 gm n V m ∧ (∀ s t, getM m s = some t → Sta (LdR w gm) y0 (fun X => Reads X (V s) t) ∧ t.length ≤ 1048576) ∧ Below w.heap.size w y0 ∧ w.heap.size ≤ gm) := ⟨hm0, ht0, bl0, hg0⟩
     clear hm0 ht0 bl0 hg0)
  | (clear tk1; go_at_call 63; refine (HOP.out y0 HM.out.2.2.1).mono ?_; rintro e1 y1 ⟨lg, rfl, mu1⟩
     have HM1 : Hid (MapM y1 gm n V m) := HM.out.1.same (mu1.block gm HM.out.1.lt (fun h => by have := HLT.out gm h; have := HM.out.2.2.2; omega))
     have HT1 : Hid (∀ s t, getM m s = some t → Reads y1 (V s) t ∧ t.length ≤ 1048576) := fun s t ht => ⟨(HM.out.2.1 s t ht).1.at ⟨mu1.os, mu1.tape, mu1.output, mu1.size, fun k hk hn => mu1.block k hk (fun hp => hn (Or.inl (HLT.out k hp)))⟩, (HM.out.2.1 s t ht).2⟩
     have HMU : Hid (Mut P w y1) := (mut_below HM.out.2.2.1 P).trans (fun _ _ h => h) mu1
     clear mu1)
  | (clear tk2; with_reducible refine wpSeq_boxW 99 (.tmp 33) [.pointer (some ⟨lg, 0, none⟩), .map (some gm)] ?_ ?_ ?_ ?_
     · rfl
     · rfl
     · rfl
     intro gs y2 nn; have HF : Hid (StR y2 gs gm n (.pointer (some ⟨lg, 0, none⟩)) V m ∧ Mut P w y2) := ⟨⟨nn.blk, HM1.out.same (nn.below.block gm HM1.out.lt), fun s t ht => ⟨(HT1.out s t ht).1.below nn.below, (HT1.out s t ht).2⟩⟩, HMU.out.trans (fun _ _ h => h) (mut_below nn.below P)⟩
     clear nn))
 refine bodyPost_ret (results_tmp2 rfl _ _ _) rfl ?_
 exact ⟨gs, gm, n, _, V, rfl, HF.out.1, HF.out.2⟩
theorem results_rt15 {fn : Func} {p u : Tmp} (h : fn.results = #[.cell p 43, .tmp u]) (tmps : Array Value) (w : World) (g : Nat) (x y : Value) (hb : Blk w g [x, y] 43) (hp : tmps.getD p undef = .pointer (some ⟨g, 0, none⟩)) : (results fn tmps).run Tryz.prog w = .ok (.tuple #[.agg [x, y].toArray, tmps.getD u undef]) w := by
 have hp' : tmps[p]?.getD undef = .pointer (some ⟨g, 0, none⟩) := by simpa using hp
 simp [results, h, hp', asAddr, var_keys hb]
abbrev OfR (g2 g4 : Nat) : Nat → Prop := R2 (fun _ => False) g2 g4
structure OfI (w : World) (g2 g4 : Nat) (c1 c2 : Value) (rs : List Bs) (k : Nat) (m : KM) (W : World) : Prop where
 b2 : Blk W g2 [.slice none 0 0, .slice none 0 0] 43
 b4 : Blk W g4 [c1, c2] 43
 ky : KyS (OfR g2 g4) W c1 c2 m
 of : ofM (rs.take k) = some m
 ml : m.length ≤ sumB (rs.take k)
 bel : Below w.heap.size w W
theorem OfI.below {w W Y : World} {g2 g4 k : Nat} {c1 c2 : Value} {rs : List Bs} {m : KM} (h : OfI w g2 g4 c1 c2 rs k m W) (hb : Below W.heap.size W Y) : OfI w g2 g4 c1 c2 rs k m Y :=
 ⟨h.b2.below hb h.b2.lt, h.b4.below hb h.b4.lt, h.ky.below hb, h.of, h.ml, h.bel.trans (hb.mono h.bel.size)⟩
def OfA (w : World) (rs : List Bs) (e : Ending) (w' : World) : Prop :=
 Below w.heap.size w w' ∧ ∃ a1 n1 k1 a2 n2 k2, (∃ m, ofM rs = some m ∧ e = .returned (.tuple #[.agg [.slice a1 n1 k1, .slice a2 n2 k2].toArray, .bool true]) ∧ ReadsS w' (.slice a1 n1 k1) (m.map (·.1)) ∧ ReadsL w' (.slice a2 n2 k2) (m.map (·.2)) ∧ m.length ≤ sumB rs) ∨ (ofM rs = none ∧ e = .returned (.tuple #[.agg [.slice a1 n1 k1, .slice a2 n2 k2].toArray, .bool false]))
theorem ofI_done {w W : World} {g2 g4 k base : Nat} {c1 c2 va : Value} {rs : List Bs} {m : KM} {ps : List (ActT × Value)} (h : OfI w g2 g4 c1 c2 rs k m W) (hb : readB (rs.getD k []) = some (ps.map (·.1))) (ow : OwnA W base va ps) (h2 : g2 < base) (h4 : g4 < base) (hs : sumB rs < 90000) : Calls Tryz.prog 49 #[.agg [c1, c2].toArray, va] W fun e w' => ∃ q1 q2 q3 q4 q5 q6, e = .returned (.agg [.slice q1 q2 q3, .slice q4 q5 q6].toArray) ∧ KyS (OfR g2 g4) w' (.slice q1 q2 q3) (.slice q4 q5 q6) (doneM m (ps.map (·.1))) ∧ Below W.heap.size W w' := by
 have h3 := (chkL_ok.1 ((readB_iff _ _).1 hb).1).1
 rw [List.length_map] at h3
 refine (oDone_any (OfR g2 g4) c1 c2 va m ps W (fun j hj => by
  rcases hj with hj | hj | hj
  · exact hj.elim
  · rw [hj]; exact h.b2.lt
  · rw [hj]; exact h.b4.lt) h.ky (ofM_rise h.of) ow.rdp (fun p hp => (ow.dat p hp).st (fun j hj => by
   rcases hj with hj | hj | hj
   · exact hj.elim
   · omega
   · omega)) (by have h5 := h.ml; have h6 := sumB_le rs k; omega)).mono (fun e w' hx => ?_)
 obtain ⟨uK, uV, h1, h5, h6⟩ := hx
 obtain ⟨q1, q2, q3, f1⟩ : ∃ a n c, uK = .slice a n c := by obtain ⟨a, c, h, _⟩ := h5.k; exact ⟨a, _, c, h⟩
 obtain ⟨q4, q5, q6, f2⟩ : ∃ a n c, uV = .slice a n c := by obtain ⟨a, c, h, _⟩ := h5.v; exact ⟨a, _, c, h⟩
 subst f1 f2
 exact ⟨q1, q2, q3, q4, q5, q6, h1, h5, h6⟩
theorem oOf_any (vr : Value) (rs : List Bs) (w : World) (hr : ReadsL w vr rs) (hs : sumB rs < 90000) (hn : rs.length < 1000000) : Calls Tryz.prog 30 #[vr] w fun e w' => OfA w rs e w' := by
 have HSB : Hid (sumB rs < 90000 ∧ rs.length < 1000000) := ⟨hs, hn⟩
 obtain ⟨N, HN⟩ := sqn (rs.length)
 obtain ⟨al, cl, hlv⟩ : ∃ a c, vr = .slice a N c := by obtain ⟨a, c, h, _⟩ := hr; rw [HN.out]; exact ⟨a, c, h⟩
 subst hlv
 have HLV : Hid (ReadsL w (.slice al N cl) rs) := hr
 clear hr hs hn
 go_enter Tryz.func30, Tryz.ntmps30
 obtain ⟨tk0, tk1, tk2, tk3⟩ := sqk4
 go_wp2_with (first
  | (clear tk0; with_reducible refine wpSeq_allocK ?_ ?_ ?_
     · rfl
     · rfl
     intro g2 y1 nn; have H2 : Hid (Blk y1 g2 [.slice none 0 0, .slice none 0 0] 43 ∧ w.heap.size ≤ g2 ∧ Below w.heap.size w y1) := ⟨nn.blk, nn.ge, nn.below⟩; clear nn)
  | (clear tk1; with_reducible refine wpSeq_buildK0 ?_ ?_ ?_
     · rfl
     · rfl)
  | (clear tk2; with_reducible refine wpSeq_allocK ?_ ?_ ?_
     · rfl
     · rfl
     intro g4 y2 nn; have H4 : Hid (Blk y2 g4 [.slice none 0 0, .slice none 0 0] 43 ∧ g2 < g4 ∧ Below w.heap.size w y2 ∧ Blk y2 g2 [.slice none 0 0, .slice none 0 0] 43 ∧ w.heap.size ≤ g4) := ⟨nn.blk, by have := H2.out.1.lt; have := nn.ge; omega, H2.out.2.2.trans (nn.below.mono H2.out.2.2.size), H2.out.1.below nn.below H2.out.1.lt, Nat.le_trans H2.out.2.2.size nn.ge⟩
     clear nn)
  | (clear tk3; with_reducible refine wpSeq_storeRow 43 (.tmp 4) (.tmp 8) g4 [.slice none 0 0, .slice none 0 0] [.slice none 0 0, .slice none 0 0] H4.out.1 rfl (info_keys _ _) (one_keys _ _ _ _ _ _) ?_ ?_ ?_ ?_ ?_
     · rfl
     · rfl
     · rfl
     · rfl
     intro y3 sr; have HI0 : Hid (OfI w g2 g4 (.slice none 0 0) (.slice none 0 0) rs 0 [] y3) := ⟨H4.out.2.2.2.1.only sr.only (by have := H4.out.2.1; omega), sr.blk, KyS.nil _ _, rfl, Nat.zero_le _, H4.out.2.2.1.trans (sr.only.below H4.out.2.2.2.2 H4.out.2.2.1.size)⟩
     clear sr))
 have HG : Hid (g2 < g4 ∧ w.heap.size ≤ g2) := ⟨H4.out.2.1, H2.out.2.1⟩
 clear H2 H4
 go_loopw [5] (fun i wr => ∃ (k : Nat) (k1 : Option Addr) (k2 k3 : Nat) (k4 : Option Addr) (k5 k6 : Nat) (m : KM), k ≤ N ∧ i = .int .i64 (k : Int) ∧ Hid (OfI w g2 g4 (.slice k1 k2 k3) (.slice k4 k5 k6) rs k m wr)) (fun i _ => N - (intOf i).toNat)
 case atStart => exact ⟨0, none, 0, 0, none, 0, 0, [], Nat.zero_le _, rfl, HI0⟩
 case round =>
  clear HI0
  obtain ⟨k, k1, k2, k3, k4, k5, k6, m, hk, rfl, HI⟩ := hrel
  by_cases hlt : k < N
  case neg =>
   obtain rfl : k = N := by omega
   have hlk : ¬ ((k : Int) < (k : Int)) := by omega
   obtain ⟨tb0, tb1⟩ := sqk2
   go_wp2_with (first
    | (clear tb0; with_reducible refine wpSeq_loadW 43 (.tmp 4) g4 0 [.slice k1 k2 k3, .slice k4 k5 k6] _ (Blk.range HI.out.b4) Tryz.underlying43 rfl (info_keys _ _) ?_ ?_ ?_ ?_
       · rfl
       · rfl
       · rfl)
    | (clear tb1; with_reducible refine wpSeq_storeRow 43 (.tmp 2) (.tmp 29) g2 [.slice none 0 0, .slice none 0 0] [.slice k1 k2 k3, .slice k4 k5 k6] HI.out.b2 rfl (info_keys _ _) (one_keys _ _ _ _ _ _) ?_ ?_ ?_ ?_ ?_
       · rfl
       · rfl
       · rfl
       · rfl
       intro y9 sr; have HF : Hid (Blk y9 g2 [.slice k1 k2 k3, .slice k4 k5 k6] 43 ∧ Only g2 wr y9) := ⟨sr.blk, sr.only⟩; clear sr))
   refine bodyPost_ret (results_rt15 rfl _ _ g2 _ _ HF.out.1 rfl) rfl ?_; have h := HI.out; have e : rs.take k = rs := List.take_of_length_le (by rw [← HN.out]; exact Nat.le_refl _)
   have h1 := h.of; have h2 := h.ml; rw [e] at h1 h2; have hky : KyS (OfR g2 g4) y9 (.slice k1 k2 k3) (.slice k4 k5 k6) m := h.ky.go (HF.out.2.mut (P := OfR g2 g4) (Or.inr (Or.inl rfl))) (fun _ _ h => h)
   exact ⟨h.bel.trans (HF.out.2.below HG.out.2 h.bel.size), k1, k2, k3, k4, k5, k6, Or.inl ⟨m, h1, rfl, hky.k.now, hky.v.now, h2⟩⟩
  case pos =>
   have hlk : (k : Int) < (N : Int) := by omega
   have HLT : Hid (k < N ∧ k < rs.length) := ⟨hlt, by rw [← HN.out]; exact hlt⟩
   have f1 : IntKind.i64.wrap ((k : Int) + 1) = (k : Int) + 1 := by rw [IntKind.wrap_i64]; have := HSB.out.2; have := HN.out; omega
   obtain ⟨b, off, vj, eb, c0, hrj⟩ := (HLV.out.below HI.out.bel).atJ HLT.out.2; subst eb; obtain ⟨av, nv, cv, hvj⟩ : ∃ a n c, vj = .slice a n c := by obtain ⟨a, c, h, _⟩ := hrj; exact ⟨a, _, c, h⟩
   subst hvj; obtain ⟨bb, HBB⟩ := sqn (rs.getD k []); rw [← HBB.out] at hrj
   have HRJ : Hid (Reads wr (.slice av nv cv) bb ∧ bb.length ≤ 9223372036854775807) := ⟨hrj, by
    have h1 := sumB_take HLT.out.2; have h2 := sumB_le rs (k + 1); have h3 := HSB.out.1; rw [← HBB.out] at h1; omega⟩
   clear hrj hk; obtain ⟨ta0, ta1, ta2, ta3, ta4, ta5, ta6⟩ := sqk7
   go_wp2_with (first
    | (clear ta0; with_reducible refine wpSeq_idxT15 (.tmp 16) (.tmp 17) b off N cl k HLT.out.1 ?_ ?_ ?_ ?_ ?_
       · rfl
       · rfl
       · rfl
       · rfl)
    | (clear ta1; go_at_call 13; refine (oReadBatch_any _ bb wr HRJ.out.1 HRJ.out.2).mono ?_; rintro e3 y3 ⟨bl3, ⟨va, ps, hp3, rfl, ow3⟩ | ⟨hn3, rfl⟩⟩
       all_goals (first
        | (obtain ⟨a3, c3, hv3⟩ := ow3.form
           obtain ⟨M, HM3⟩ := sqn (ps.length); rw [← HM3.out] at hv3; subst hv3; have HI3 : Hid (OfI w g2 g4 (.slice k1 k2 k3) (.slice k4 k5 k6) rs k m y3) := HI.out.below bl3
           have HP3 : Hid (readB (rs.getD k []) = some (ps.map (·.1)) ∧ ps.length ≤ (rs.getD k []).length) := ⟨by rw [← HBB.out]; exact hp3, by
            obtain ⟨_, h5⟩ := (readB_iff _ _).1 hp3; have h6 := batch_len (ps.map (·.1)); rw [List.length_map, ← h5, HBB.out] at h6; exact h6⟩
           have HDO : Hid (Calls Tryz.prog 49 #[.agg [.slice k1 k2 k3, .slice k4 k5 k6].toArray, .slice a3 M c3] y3 fun e w' => ∃ q1 q2 q3 q4 q5 q6, e = .returned (.agg [.slice q1 q2 q3, .slice q4 q5 q6].toArray) ∧ KyS (OfR g2 g4) w' (.slice q1 q2 q3) (.slice q4 q5 q6) (doneM m (ps.map (·.1))) ∧ Below y3.heap.size y3 w') := ofI_done HI3.out HP3.out.1 ow3 HI.out.b2.lt HI.out.b4.lt HSB.out.1
           clear hp3 ow3 bl3)
        | (have HN3 : Hid (readB bb = none ∧ OfI w g2 g4 (.slice k1 k2 k3) (.slice k4 k5 k6) rs k m y3) := ⟨hn3, HI.out.below bl3⟩
           clear hn3 bl3 ta2 ta3 ta4)))
    | (clear ta2; with_reducible refine wpSeq_loadW 43 (.tmp 4) g4 0 [.slice k1 k2 k3, .slice k4 k5 k6] _ (Blk.range HI3.out.b4) Tryz.underlying43 rfl (info_keys _ _) ?_ ?_ ?_ ?_
       · rfl
       · rfl
       · rfl)
    | (clear ta3; go_at_call 49; refine (HDO.out).mono ?_; rintro e4 y4 ⟨q1, q2, q3, q4, q5, q6, rfl, hk4, bl4⟩
       have HI4 : Hid (KyS (OfR g2 g4) y4 (.slice q1 q2 q3) (.slice q4 q5 q6) (doneM m (ps.map (·.1))) ∧ OfI w g2 g4 (.slice k1 k2 k3) (.slice k4 k5 k6) rs k m y4) := ⟨hk4, HI3.out.below bl4⟩; clear hk4 bl4)
    | (clear ta4; with_reducible refine wpSeq_storeRow 43 (.tmp 4) (.tmp 28) g4 [.slice k1 k2 k3, .slice k4 k5 k6] [.slice q1 q2 q3, .slice q4 q5 q6] HI4.out.2.b4 rfl (info_keys _ _) (one_keys _ _ _ _ _ _) ?_ ?_ ?_ ?_ ?_
       · rfl
       · rfl
       · rfl
       · rfl
       intro y5 sr
       have HI5 : Hid (OfI w g2 g4 (.slice q1 q2 q3) (.slice q4 q5 q6) rs (k + 1) (doneM m (ps.map (·.1))) y5) := by
        have h := HI4.out.2; have hof := ofM_take HLT.out.2; rw [h.of, HP3.out.1] at hof; refine ⟨h.b2.only sr.only (by have := HG.out.1; omega), sr.blk, HI4.out.1.go (sr.only.mut (P := OfR g2 g4) (Or.inr (Or.inr rfl))) (fun _ _ h => h), hof, ?_, h.bel.trans (sr.only.below (Nat.le_trans HG.out.2 (Nat.le_of_lt HG.out.1)) h.bel.size)⟩
        have h1 := len_doneM (ps.map (·.1)) (ofM_rise h.of); have h2 := h.ml; have h3 := HP3.out.2; rw [List.length_map] at h1; rw [sumB_take HLT.out.2]; omega
       clear sr)
    | (clear ta5; with_reducible refine wpSeq_buildK0 ?_ ?_ ?_
       · rfl
       · rfl)
    | (clear ta6; with_reducible refine wpSeq_storeRow 43 (.tmp 2) (.tmp 25) g2 [.slice none 0 0, .slice none 0 0] [.slice none 0 0, .slice none 0 0] HN3.out.2.b2 rfl (info_keys _ _) (one_keys _ _ _ _ _ _) ?_ ?_ ?_ ?_ ?_
       · rfl
       · rfl
       · rfl
       · rfl
       intro y9 sr; have HF : Hid (Blk y9 g2 [.slice none 0 0, .slice none 0 0] 43 ∧ Only g2 y3 y9) := ⟨sr.blk, sr.only⟩; clear sr))
   · go_wp2
     go_roundw
     case rel => exact ⟨k + 1, q1, q2, q3, q4, q5, q6, doneM m (ps.map (·.1)), HLT.out.1, rfl, HI5⟩
     case measure => simp [intOf]; have := HLT.out.1; omega
   · refine bodyPost_ret (results_rt15 rfl _ _ g2 _ _ HF.out.1 rfl) rfl ?_
     refine ⟨HN3.out.2.bel.trans (HF.out.2.below HG.out.2 HN3.out.2.bel.size), none, 0, 0, none, 0, 0, Or.inr ⟨?_, rfl⟩⟩; have h1 := ofM_take HLT.out.2; rw [HI.out.of, ← HBB.out, HN3.out.1] at h1; rw [← List.take_append_drop (k + 1) rs]; exact ofM_none _ _ h1
theorem pick_le (s : Bs) : (pickB s).1 ≤ 1 := by
 unfold pickB
 split
 · exact Nat.le_refl _
 · exact Nat.zero_le _
theorem openG_zero {s : Bs} (hs : 8 ≤ s.length / 64) : (runJ (loadD s) (openG (loadD s)).1).2 = 0 := by
 have hN := halfN_eq s
 have hk := pick_le s
 obtain ⟨k, gen, hp⟩ : ∃ k gen, pickB s = (k, gen) := ⟨_, _, rfl⟩
 rw [hp] at hk
 replace hk : k ≤ 1 := hk
 have hsd : hsD (loadD s) = s.length / 64 / 2 := rfl
 unfold openG
 rw [dump_idle, hp, hsd]
 by_cases h0 : gen = 0
 · rw [if_pos h0]
   have hrun := anew_run (b := s) (k := 0) (gen := 1) (l := []) (by omega) (by show 1 + 0 ≤ _; omega)
   show (runJ (loadD s) (anewS (s.length / 64 / 2) 0 1 [])).2 = 0; rw [hrun]
 · rw [if_neg h0]
   have hlh := len_half (b := s) hk; obtain ⟨l, e, hle⟩ : ∃ l e, recsOf gen (halfB s k) = (l, e) := ⟨_, _, rfl⟩; have hinv := recs_inv (gen := gen) (half := halfB s k) ((halfB s k).length / 64) 64 0 (by omega)
   rw [show recsL gen (halfB s k) ((halfB s k).length / 64) 64 0 = (l, e) from hle] at hinv; obtain ⟨i1, i2, i3, i4, i5⟩ := hinv; replace i2 : e = 64 + sizeL l := i2; replace i3 : e ≤ (halfB s k).length := i3; rw [show (halfB s (k, gen).1) = halfB s k from rfl, show (k, gen).2 = gen from rfl, hle]
   by_cases hzz : ∀ z ∈ (halfB s k).drop e, z = 0
   · rw [if_pos hzz]
     rfl
   · rw [if_neg hzz]
     have hsl : 1 + secL l ≤ s.length / 64 / 2 := by
      have := sizeL_eq l; omega
     have hrun := anew_run (b := s) (k := 1 - k) (gen := gN gen) (l := l) (by omega) hsl
     show (runJ (loadD s) (anewS (s.length / 64 / 2) (1 - k) (gN gen) l)).2 = 0; rw [hrun]
theorem rd_small (b : Bs) : sumB (rdL14 b) ≤ b.length ∧ (rdL14 b).length ≤ b.length := by
 unfold rdL14
 by_cases ho : okB b
 · rw [if_pos ho]
   have hk := pick_le b; have h2 := ho.2; have hN := halfN_eq b; unfold readJ
   by_cases h0 : (pickB b).2 = 0
   · rw [if_pos h0]
     exact ⟨Nat.zero_le _, Nat.zero_le _⟩
   · rw [if_neg h0]
     have hlh := len_half (b := b) hk; have h9 := half_le b; have hinv := recs_inv (gen := (pickB b).2) (half := halfB b (pickB b).1) ((halfB b (pickB b).1).length / 64) 64 0 (by omega)
     obtain ⟨_, i2, i3, _, _⟩ := hinv; have e : (recsL (pickB b).2 (halfB b (pickB b).1) ((halfB b (pickB b).1).length / 64) 64 0).1 = (recsOf (pickB b).2 (halfB b (pickB b).1)).1 := rfl; rw [e] at i2; have h5 := sumB_size (recsOf (pickB b).2 (halfB b (pickB b).1)).1; have h6 := sizeL_ge (recsOf (pickB b).2 (halfB b (pickB b).1)).1
     generalize (recsL (pickB b).2 (halfB b (pickB b).1) ((halfB b (pickB b).1).length / 64) 64 0).2 = q at i2 i3; show sumB (recsOf (pickB b).2 (halfB b (pickB b).1)).1 ≤ _ ∧ (recsOf (pickB b).2 (halfB b (pickB b).1)).1.length ≤ _; omega
 · rw [if_neg ho]
   exact ⟨Nat.zero_le _, Nat.zero_le _⟩
theorem rx_up {b : Bs} (h : 64 ≤ b.length) : readX13 (loadD b) 0 = 0 := by
 have e : hasD (loadD b) 0 = true := (hasD_iff _ _).2 ⟨Int.le_refl _, by have : sizeD (loadD b) = b.length / 64 := rfl; rw [this]; omega⟩
 unfold readX13
 rw [e]
 rfl
def TxE (base : Nat) (v : Value) (xs : List Bs) (W : World) : Prop := ∃ us, TxJ base v us xs W
theorem nRecords_t (gen : Nat) (hg : gen < 18446744073709551616) (bb off H c : Nat) (half : Bs) (hl : 64 ≤ half.length) (hl2 : half.length < 60000000) (w : World) (hr : Reads w (.slice (some ⟨bb, off, none⟩) H c) half) : Calls Tryz.prog 57 #[.int .u64 (gen : Int), .slice (some ⟨bb, off, none⟩) H c] w fun e w' => ∃ v, e = .returned (.tuple #[v, .int .i64 ((recsOf gen half).2 : Int)]) ∧ TxE w.heap.size v (recsOf gen half).1 w' ∧ Below w.heap.size w w' := by
 have hnh : H = half.length := by obtain ⟨_, cp, hv, _⟩ := hr; simp only [Value.slice.injEq] at hv; exact hv.2.1
 have HNC : Hid (H ≤ c) := by obtain ⟨_, cp, hv, hc, _⟩ := hr; simp only [Value.slice.injEq] at hv; show _ ≤ _; rw [hnh, hv.2.2]; exact hc
 have HHL : Hid (H = half.length) := hnh
 have HB8 : Hid (64 ≤ H ∧ H < 60000000) := ⟨by omega, by omega⟩
 have HG : Hid (gen < 18446744073709551616) := hg
 have HR : Hid (Reads w (.slice (some ⟨bb, off, none⟩) H c) half) := hr
 have HRE0 : Hid (recsOf gen half = ([] ++ (recsL gen half (H / 64) 64 ([] : List Bs).length).1, (recsL gen half (H / 64) 64 ([] : List Bs).length).2)) := by show _ = _; rw [recsOf, ← hnh]; rfl
 have HTX0 : Hid (TxJ w.heap.size (.slice none 0 0) [] [] w) := TxJ.nil (Nat.le_refl _)
 clear hr hl hl2 hnh hg
 go_enter Tryz.func57, Tryz.ntmps57
 go_wp2
 go_loopw [6, 7] (fun lv i wr => ∃ (xa : Option Addr) (kn xc : Nat) (us : List Value) (xs : List Bs) (p f : Nat), kn = xs.length ∧ lv = .slice xa kn xc ∧ i = .int .i64 (p : Int) ∧ p = 64 + sizeL xs ∧ p ≤ H ∧ f + kn = H / 64 ∧ Hid (TxJ w.heap.size (.slice xa kn xc) us xs wr) ∧ Hid (recsOf gen half = (xs ++ (recsL gen half f p kn).1, (recsL gen half f p kn).2)) ∧ Hid (Below w.heap.size w wr)) (fun _ i _ => H - (intOf i).toNat)
 case atStart => exact ⟨none, 0, 0, [], [], 64, H / 64, rfl, rfl, rfl, rfl, HB8.out.1, rfl, HTX0, HRE0, Below.refl _ _⟩
 case round =>
  obtain ⟨xa, kn, xc, us, xs, p, f, hkn, rfl, rfl, hp, hpH, hfk, HTX, HRE, HBB⟩ := hrel
  have HKN : Hid (kn = xs.length) := hkn
  have HPP : Hid (p = 64 + sizeL xs ∧ p ≤ H ∧ f + kn = H / 64) := ⟨hp, hpH, hfk⟩
  clear hkn hp hpH hfk HRE0 HTX0
  obtain ⟨p64, HP64⟩ := sqn (p + 64)
  have hb8 := HB8.out
  have hpp := HPP.out.2.1
  have f1 : IntKind.i64.wrap ((p : Int) + 64) = (p64 : Int) := aJ HP64.out (by have := HP64.out; omega)
  by_cases h1 : p64 ≤ H
  case neg =>
   have q1 : ¬ ((p64 : Int) ≤ (H : Int)) := by omega
   have HZ : Hid (recsL gen half f p kn = ([], p)) := recs_zero (by rw [← HHL.out, ← HP64.out]; exact h1)
   clear hb8 hpp; go_wp2; have HRF : recsOf gen half = (xs, p) := by rw [HRE.out, HZ.out, List.append_nil]
   rw [HRF]; refine bodyPost_ret (results_tmp2 rfl _ _ _) rfl ?_; exact ⟨_, rfl, ⟨_, HTX.out⟩, HBB.out⟩
  case pos =>
   have q1 : (p64 : Int) ≤ (H : Int) := by omega
   obtain ⟨f', rfl⟩ : ∃ f', f = f' + 1 := by
    cases f with
    | zero =>
     exfalso
     have h5 := HPP.out; have h6 := sizeL_ge xs; have h7 := HKN.out; have h8 := HP64.out; omega
    | succ f => exact ⟨f, rfl⟩
   obtain ⟨p49, HP49⟩ := sqn (p + 49); obtain ⟨p57, HP57⟩ := sqn (p + 57); have f2 : IntKind.i64.wrap ((p : Int) + 49) = (p49 : Int) := aJ HP49.out (by have := HP49.out; omega)
   have f3 : IntKind.i64.wrap ((p : Int) + 57) = (p57 : Int) := aJ HP57.out (by have := HP57.out; omega)
   have hp64 := HP64.out; have HL8 : Hid (((half.drop (p + 49)).take 8).length = 8) := by show _ = _; rw [List.length_take, List.length_drop, ← HHL.out]; omega
   obtain ⟨n, HNN⟩ := sqn (rdNum ((half.drop (p + 49)).take 8))
   have HNM : Hid (Calls Tryz.prog 83 #[.slice (some ⟨bb, off + p49, none⟩) 8 (c - p49)] wr fun e w' => e = .returned (.int .u64 (n : Int)) ∧ w' = wr) := by
    rw [HNN.out]; refine nNumber_any bb (off + p49) (c - p49) _ HL8.out wr ?_; have h9 := (HR.out.below HBB.out).cutJ (p + 49) 8 (c - p49) (by rw [← HHL.out]; omega) (by have := HNC.out; have := HP49.out; omega)
    rw [HP49.out] at h9 ⊢; exact h9
   have HC1 : Hid (0 < 8 ∧ p49 + 8 ≤ H ∧ (p57 : Int) = ((p49 + 8 : Nat) : Int)) := by have h1 := HP49.out; have h2 := HP57.out; exact ⟨by decide, by omega, by omega⟩
   obtain ⟨hq, HHQ⟩ := sqn (H - p); obtain ⟨hq2, HHQ2⟩ := sqn (hq - 57); have hhq := HHQ.out; have hhq2 := HHQ2.out; have f4 : IntKind.i64.wrap ((H : Int) - (p : Int)) = (hq : Int) := sJ (by omega) (by omega)
   have f5 : IntKind.i64.wrap ((hq : Int) - 57) = (hq2 : Int) := sJ (b := 57) (by omega) (by omega)
   have f6 : IntKind.u64.wrap (hq2 : Int) = (hq2 : Int) := uJ (by omega)
   by_cases h2 : n = 0 ∨ hq2 < n
   · have HZ : Hid (recsL gen half (f' + 1) p kn = ([], p)) := by
      show _ = _; rw [recsL, if_pos (by rw [← HHL.out]; omega), ← HNN.out, if_pos (by rw [← HHL.out]; omega)]
     clear hb8 hpp hp64 hhq hhq2
     by_cases hn0 : n = 0
     · subst hn0
       obtain ⟨tk0, tk1⟩ := sqk2
       go_wp2_with (first
        | (clear tk0; with_reducible refine wpSeq_cut (.tmp 17) (.tmp 19) (.tmp 21) bb off H c p49 8 (p49 : Int) (p57 : Int) rfl HC1.out.2.2 HC1.out.1 HC1.out.2.1 HNC.out ?_ ?_ ?_ ?_ ?_ ?_
           · rfl
           · rfl
           · rfl
           · rfl
           · rfl)
        | (clear tk1; go_at_call 83; refine (HNM.out).mono ?_; rintro e0 y0 ⟨rfl, hy0⟩; subst hy0))
       have HRF : recsOf gen half = (xs, p) := by rw [HRE.out, HZ.out, List.append_nil]
       rw [HRF]; refine bodyPost_ret (results_tmp2 rfl _ _ _) rfl ?_; exact ⟨_, rfl, ⟨_, HTX.out⟩, HBB.out⟩
     · have q2 : ((n : Int) == 0) = false := by rw [beq_eq_false_iff_ne]; omega
       have q3 : (hq2 : Int) < (n : Int) := by omega
       obtain ⟨tk0, tk1⟩ := sqk2
       go_wp2_with (first
        | (clear tk0; with_reducible refine wpSeq_cut (.tmp 17) (.tmp 19) (.tmp 21) bb off H c p49 8 (p49 : Int) (p57 : Int) rfl HC1.out.2.2 HC1.out.1 HC1.out.2.1 HNC.out ?_ ?_ ?_ ?_ ?_ ?_
           · rfl
           · rfl
           · rfl
           · rfl
           · rfl)
        | (clear tk1; go_at_call 83; refine (HNM.out).mono ?_; rintro e0 y0 ⟨rfl, hy0⟩; subst hy0))
       have HRF : recsOf gen half = (xs, p) := by rw [HRE.out, HZ.out, List.append_nil]
       rw [HRF]; refine bodyPost_ret (results_tmp2 rfl _ _ _) rfl ?_; exact ⟨_, rfl, ⟨_, HTX.out⟩, HBB.out⟩
   · have q2 : ((n : Int) == 0) = false := by rw [beq_eq_false_iff_ne]; omega
     have q3 : ¬ ((hq2 : Int) < (n : Int)) := by omega
     have hnp : 0 < n := by omega
     have f7 : IntKind.i64.wrap (n : Int) = (n : Int) := iJ (by omega)
     obtain ⟨pn, HPN⟩ := sqn (p57 + n); have hp57 := HP57.out; have f8 : IntKind.i64.wrap ((p57 : Int) + (n : Int)) = (pn : Int) := aJ HPN.out (by have := HPN.out; omega)
     have f9 : IntKind.u64.wrap (kn : Int) = (kn : Int) := uJ (by have := HPP.out.2.2; omega)
     have HC2 : Hid (0 < n ∧ p57 + n ≤ H ∧ (pn : Int) = ((p57 + n : Nat) : Int)) := by have := HPN.out; exact ⟨hnp, by omega, by omega⟩
     obtain ⟨x, HXX⟩ := sqn ((half.drop (p + 57)).take n); have HXL : Hid (x.length = n) := by show _ = _; rw [HXX.out, List.length_take, List.length_drop, ← HHL.out]; omega
     have HXR : Hid (Reads wr (.slice (some ⟨bb, off + p57, none⟩) n (c - p57)) x) := by
      have h9 := (HR.out.below HBB.out).cutJ (p + 57) n (c - p57) (by rw [← HHL.out]; omega) (by have := HNC.out; have := HP57.out; omega)
      rw [HXX.out]; rw [HP57.out] at h9 ⊢; exact h9
     have HRC : Hid (Calls Tryz.prog 84 #[.int .u64 (gen : Int), .int .u64 (kn : Int), .slice (some ⟨bb, off + p57, none⟩) n (c - p57)] wr fun e w' => ∃ v', e = .returned v' ∧ Reads w' v' (recB gen kn x) ∧ Below wr.heap.size wr w') := nRecord_any gen kn HG.out (by have := HPP.out.2.2; omega) _ x (by rw [HXL.out]; omega) wr HXR.out
     obtain ⟨rc, HRR⟩ := sqn (recB gen kn x); obtain ⟨rl, HRL⟩ := sqn (rc.length); have HRLE : Hid (rl = 64 * secR n) := by show _ = _; rw [HRL.out, HRR.out, len_recB, HXL.out]
     have HRLB : Hid (0 < rl ∧ rl < 160000000) := by have h1 := HRLE.out; unfold secR at h1; exact ⟨by omega, by omega⟩
     rw [← HRR.out] at HRC; obtain ⟨pr, HPR⟩ := sqn (p + rl); have f10 : IntKind.i64.wrap ((p : Int) + (rl : Int)) = (pr : Int) := aJ HPR.out (by have h1 := HPR.out; have h2 := HRLB.out; omega)
     have hz9 : recsL gen half (f' + 1) p kn = if half.length < p + rl ∨ (half.drop p).take rl ≠ rc then ([], p) else (x :: (recsL gen half f' (p + rl) (kn + 1)).1, (recsL gen half f' (p + rl) (kn + 1)).2) := by
      rw [recsL, if_pos (by rw [← HHL.out]; omega), ← HNN.out, if_neg (by rw [← HHL.out]; omega), ← HXX.out, ← HRR.out, ← HRL.out]
     have HZ9 : Hid (recsL gen half (f' + 1) p kn = if H < pr ∨ (half.drop p).take rl ≠ rc then ([], p) else (x :: (recsL gen half f' pr (kn + 1)).1, (recsL gen half f' pr (kn + 1)).2)) := by rw [HHL.out, HPR.out]; exact hz9
     clear hz9 hb8 hp64 hhq hhq2 hp57 hnp h2; obtain ⟨tk0, tk1, tk2, tk3⟩ := sqk4
     go_wp2_with (first
      | (clear tk0; with_reducible refine wpSeq_cut (.tmp 17) (.tmp 19) (.tmp 21) bb off H c p49 8 (p49 : Int) (p57 : Int) rfl HC1.out.2.2 HC1.out.1 HC1.out.2.1 HNC.out ?_ ?_ ?_ ?_ ?_ ?_
         · rfl
         · rfl
         · rfl
         · rfl
         · rfl)
      | (clear tk1; go_at_call 83; refine (HNM.out).mono ?_; rintro e0 y0 ⟨rfl, hy0⟩; subst hy0)
      | (clear tk2; with_reducible refine wpSeq_cut (.tmp 36) (.tmp 38) (.tmp 43) bb off H c p57 n (p57 : Int) (pn : Int) rfl HC2.out.2.2 HC2.out.1 HC2.out.2.1 HNC.out ?_ ?_ ?_ ?_ ?_ ?_
         · rfl
         · rfl
         · rfl
         · rfl
         · rfl)
      | (clear tk3; go_at_call 84; refine (HRC.out).mono ?_; rintro e0 y2 ⟨v2, rfl, hr2, hz⟩
         obtain ⟨a2, c2, hv⟩ : ∃ ad c, v2 = .slice ad rl c := by obtain ⟨a, c, hv, _⟩ := hr2; rw [← HRL.out] at hv; exact ⟨a, c, hv⟩
         subst hv; have HR2 : Hid (Reads y2 (.slice a2 rl c2) rc) := hr2; replace HTX : Hid (TxJ w.heap.size (.slice xa kn xc) us xs y2) := HTX.out.next hz; replace HXR : Hid (Reads y2 (.slice (some ⟨bb, off + p57, none⟩) n (c - p57)) x) := HXR.out.below hz; replace HBB := sqt HBB hz; clear hr2 hz HNM HRC)
      | fail)
     refine wp_region_held_drew (S := Over (World.drew y2)) (by kernel_rfl) (Over.refl _) ?_
     intro hS; replace HR2 : Hid (Reads (World.drew y2) (.slice a2 rl c2) rc) := HR2.out; replace HTX : Hid (TxJ w.heap.size (.slice xa kn xc) us xs (World.drew y2)) := ⟨HTX.out.own, HTX.out.len, HTX.out.good, HTX.out.ge⟩; replace HXR : Hid (Reads (World.drew y2) (.slice (some ⟨bb, off + p57, none⟩) n (c - p57)) x) := HXR.out; replace HBB : Hid (Below w.heap.size w (World.drew y2)) := HBB.out.drew
     change wpAnyH _ _ _ _ _ _ _ _ (World.drew y2)
     generalize World.drew y2 = y3 at *
     refine tkc 0 (.int .i64 (p : Int)) rfl hS ?_; simp only [Act.put, sq]; refine tkc 1 (.slice a2 rl c2) rfl hS ?_; simp only [Act.put, sq]; refine tkc 2 (.int .i64 (rl : Int)) rfl hS ?_; simp only [Act.put, sq]; refine tka 3 (.int .i64 (pr : Int)) rfl (fun wx hx => by simp [go_sem, f10]) hS ?_
     simp only [Act.put, sq]; refine tkc 4 (.slice (some ⟨bb, off, none⟩) H c) rfl hS ?_; simp only [Act.put, sq]; refine tkc 5 (.int .i64 (H : Int)) rfl hS ?_; simp only [Act.put, sq]
     by_cases h3 : H < pr
     · have q4 : (H : Int) < (pr : Int) := by omega
       have HZ : Hid (recsL gen half (f' + 1) p kn = ([], p)) := by show _ = _; rw [HZ9.out, if_pos (Or.inl h3)]
       refine tka 6 (.bool true) rfl (fun wx hx => by simp [go_sem, q4]) hS ?_
       simp only [Act.put, sq]; refine tkc 7 (.bool true) rfl hS ?_; simp only [Act.put, sq]; refine tkb 8 rfl hS ?_; simp only [Act.put, sq]; refine tkb 9 rfl hS ?_; simp only [Act.put, sq]; refine tkb 10 rfl hS ?_; simp only [Act.put, sq]; refine tkb 11 rfl hS ?_; simp only [Act.put, sq]; refine tkb 12 rfl hS ?_; simp only [Act.put, sq]; refine tkb 13 rfl hS ?_; simp only [Act.put, sq]; refine tkb 14 rfl hS ?_; simp only [Act.put, sq]; refine tkb 15 rfl hS ?_; simp only [Act.put, sq]; refine tkb 16 rfl hS ?_; simp only [Act.put, sq]; refine tkb 17 rfl hS ?_; simp only [Act.put, sq]; refine tkb 18 rfl hS ?_; simp only [Act.put, sq]; refine tkc 19 (.bool true) rfl hS ?_; simp only [Act.put, sq]; refine wpAnyH_done (by kernel_rfl) ?_ _
       clear hS; go_wp2; have HRF : recsOf gen half = (xs, p) := by rw [HRE.out, HZ.out, List.append_nil]
       rw [HRF]; refine bodyPost_ret (results_tmp2 rfl _ _ _) rfl ?_; exact ⟨_, rfl, ⟨_, HTX.out⟩, HBB.out⟩
     · have q4 : ¬ ((H : Int) < (pr : Int)) := by omega
       have HC3 : Hid (0 < rl ∧ p + rl ≤ H ∧ (pr : Int) = ((p + rl : Nat) : Int)) := by have h1 := HPR.out; have h2 := HRLB.out; exact ⟨h2.1, by omega, by omega⟩
       obtain ⟨z, HZZ⟩ := sqn ((half.drop p).take rl)
       have HZR : Hid (Reads y3 (.slice (some ⟨bb, off + p, none⟩) rl (c - p)) z) := by
        rw [HZZ.out]; exact (HR.out.below HBB.out).cutJ p rl (c - p) (by rw [← HHL.out]; exact HC3.out.2.1) (by have h1 := HNC.out; have h2 := HC3.out.2.1; omega)
       have hs := strB_inj z rc; refine tka 6 (.bool false) rfl (fun wx hx => by simp [go_sem, q4]) hS ?_
       simp only [Act.put, sq]; refine tkc 7 (.bool false) rfl hS ?_; simp only [Act.put, sq]; refine tkc 8 (.slice (some ⟨bb, off, none⟩) H c) rfl hS ?_; simp only [Act.put, sq]; refine tkc 9 (.int .i64 (p : Int)) rfl hS ?_; simp only [Act.put, sq]; refine tkc 10 (.int .i64 (p : Int)) rfl hS ?_; simp only [Act.put, sq]; refine tkc 11 (.slice a2 rl c2) rfl hS ?_; simp only [Act.put, sq]; refine tkc 12 (.int .i64 (rl : Int)) rfl hS ?_; simp only [Act.put, sq]; refine tka 13 (.int .i64 (pr : Int)) rfl (fun wx hx => by simp [go_sem, f10]) hS ?_
       simp only [Act.put, sq]; refine tka 14 (.slice (some ⟨bb, off + p, none⟩) rl (c - p)) rfl (fun wx hx => by exact cutMid bb off H c p rl HC3.out.1 HC3.out.2.1 HNC.out (p : Int) (pr : Int) rfl HC3.out.2.2 _ _ _ _ _ rfl rfl rfl rfl _) hS ?_
       simp only [Act.put, sq]; refine tka 15 (.string (strB z)) rfl (fun wx hx => by (have hc := conv_reads (HZR.out.below (Over.out hx)); simp [go_sem, hc])) hS ?_
       simp only [Act.put, sq]; refine tkc 16 (.slice a2 rl c2) rfl hS ?_; simp only [Act.put, sq]; refine tka 17 (.string (strB rc)) rfl (fun wx hx => by (have hc := conv_reads (HR2.out.below (Over.out hx)); simp [go_sem, hc])) hS ?_
       simp only [Act.put, sq]
       by_cases he : z = rc
       case neg =>
        have HZ : Hid (recsL gen half (f' + 1) p kn = ([], p)) := by show _ = _; rw [HZ9.out, if_pos (Or.inr (by rw [← HZZ.out]; exact he))]
        rw [decide_eq_false he] at hs; refine tka 18 (.bool true) rfl (fun wx hx => by simp [go_sem, hs]) hS ?_
        simp only [Act.put, sq]; refine tkc 19 (.bool true) rfl hS ?_; simp only [Act.put, sq]; refine wpAnyH_done (by kernel_rfl) ?_ _
        clear hS; go_wp2; have HRF : recsOf gen half = (xs, p) := by rw [HRE.out, HZ.out, List.append_nil]
        rw [HRF]; refine bodyPost_ret (results_tmp2 rfl _ _ _) rfl ?_; exact ⟨_, rfl, ⟨_, HTX.out⟩, HBB.out⟩
       case pos =>
        have HRE2 : Hid (recsOf gen half = ((xs ++ [x]) ++ (recsL gen half f' pr (kn + 1)).1, (recsL gen half f' pr (kn + 1)).2)) := by
         show _ = _; rw [HRE.out, HZ9.out, if_neg (fun h => h.elim h3 (fun h => h (by rw [← HZZ.out]; exact he)))]
         simp
        rw [decide_eq_true he] at hs; refine tka 18 (.bool false) rfl (fun wx hx => by simp [go_sem, hs]) hS ?_
        simp only [Act.put, sq]; refine tkc 19 (.bool false) rfl hS ?_; simp only [Act.put, sq]; refine wpAnyH_done (by kernel_rfl) ?_ _
        clear hS; have HXP : Hid (0 < x.length ∧ ([] : Bs).length + x.length ≤ 140737488355328) := by rw [HXL.out]; exact ⟨HC2.out.1, by show 0 + n ≤ _; have h1 := HC2.out.2.1; have h2 := HB8.out.2; omega⟩
        have HUL : Hid (us.length < 1000000) := by show _ < _; rw [HTX.out.len, ← HKN.out]; have h1 := HPP.out.2.2; have h2 := HB8.out.2; omega
        obtain ⟨tk4, tk5, tk6⟩ := sqk3
        go_wp2_with (first
         | (clear tk4; at_builtin; with_reducible refine wpSeq_appY (.tmp 72) (.tmp 73) w.heap.size (.slice none 0 0) (.slice (some ⟨bb, off + p57, none⟩) n (c - p57)) [] x (OwnB.nil _ _) HXR.out HXP.out.1 HXP.out.2 HBB.out.size ?_ ?_ ?_ ?_ ?_
            · rfl
            · rfl
            · rfl
            · rfl
            intro v5 y5 hown hgr hbz; rw [List.nil_append] at hown; obtain ⟨a5, n5, c5, hv⟩ := hown.reads.form; subst hv; have HO5 : Hid (OwnB y5 w.heap.size (.slice a5 n5 c5) x) := hown; have hb5 : Below y3.heap.size y3 y5 := ⟨hgr.os, hgr.tape, hgr.output, hgr.size, fun k hk => hgr.block k hk (fun e => by cases e)⟩
            replace HTX : Hid (TxJ w.heap.size (.slice xa kn xc) us xs y5) := HTX.out.next hb5; replace HBB := sqt HBB hb5; clear hown hgr hbz hb5 HXR HR2 HZR)
         | (clear tk5; with_reducible refine wpSeq_buildX (.tmp 74) a5 n5 c5 ?_ ?_ ?_ ?_
            · rfl
            · rfl
            · rfl
            intro g6 y6 hg6 hy6; have HG6 : Hid (g6 = y5.heap.size ∧ y6 = y5.alloc (.cells #[Value.slice a5 n5 c5] 23)) := ⟨hg6, hy6⟩; have HB6 : Hid (Below y5.heap.size y5 y6) := by rw [hy6]; exact below_alloc _ _
            have HC6 : Hid (y6.cell? ⟨g6, 0, none⟩ = some (.slice a5 n5 c5)) := by
             have h9 : Blk y6 g6 [.slice a5 n5 c5] 23 := by rw [hg6, hy6]; exact Blk.new _ _ _
             exact h9.cell 0
            have HX6 : Hid (OwnX y6 w.heap.size (.slice xa kn xc) us) := (HTX.out.next HB6.out).own; have HZ6 : Hid (w.heap.size ≤ y6.heap.size) := Nat.le_trans HBB.out.size HB6.out.size; clear hg6 hy6)
         | (clear tk6; at_builtin; with_reducible refine wpSeq_appX (.tmp 71) (.tmp 75) w.heap.size (.slice xa kn xc) (.slice a5 n5 c5) us g6 HX6.out HC6.out rfl HUL.out HZ6.out ?_ ?_ ?_ ?_ ?_
            · rfl
            · rfl
            · rfl
            · rfl
            intro v7 y7 hown hgr; rw [HG6.out.2] at hgr; have hgg := HTX.out.grow HO5.out hown hgr; obtain ⟨a7, c7, hv⟩ := hown.form; obtain ⟨k7, HK7⟩ := sqn ((us ++ [Value.slice a5 n5 c5]).length); rw [← HK7.out] at hv; subst hv; have HTX7 : Hid (TxJ w.heap.size (.slice a7 k7 c7) (us ++ [.slice a5 n5 c5]) (xs ++ [x]) y7) := hgg.1; have HBB7 : Hid (Below w.heap.size w y7) := HBB.out.trans hgg.2; clear hown hgr hgg))
        go_roundw
        case rel =>
         have hk7 : k7 = kn + 1 := by rw [HK7.out, List.length_append, HTX.out.len, ← HKN.out]; rfl
         subst hk7; have hsz : pr = 64 + sizeL (xs ++ [x]) := by rw [sizeL_snoc, HXL.out, HPR.out, HRLE.out, HPP.out.1]; omega
         exact ⟨a7, kn + 1, c7, us ++ [.slice a5 n5 c5], xs ++ [x], pr, f', by rw [List.length_append, ← HKN.out]; rfl, rfl, by trivial, hsz, by omega, by have := HPP.out.2.2; omega, HTX7, HRE2, HBB7⟩
        case measure =>
         have h1 := HPR.out; have h2 := HRLB.out.1; simp [intOf]; omega
theorem nRead_t (v : Value) (b : Bs) (hl : b.length < 100000000) (w : World) (hr : Reads w v b) : Calls Tryz.prog 24 #[v] w fun e w' => ∃ lv base, e = .returned (.tuple #[.int .u64 (rdG14 b : Int), lv, .int .i64 (rdX14 b)]) ∧ TxE base lv (rdL14 b) w' ∧ w.heap.size ≤ base ∧ Below w.heap.size w w' := by
 obtain ⟨ad, cp, hv, hcp, _, hx⟩ := id hr
 obtain ⟨L, HLL⟩ := sqn (b.length)
 rw [← HLL.out] at hv hl
 subst hv
 by_cases hok : okB b
 case neg =>
  rw [show rdG14 b = 0 from if_neg hok, show rdX14 b = 1 from if_neg hok, show rdL14 b = [] from if_neg hok]
  unfold okB at hok
  rw [← HLL.out] at hok
  clear hx hcp hr
  by_cases h1 : L % 64 = 0
  · have f1 : (L : Int) % 64 = 0 := by omega
    have q1 : (L : Int) < 512 := by omega
    clear hok h1
    go_enter Tryz.func24, Tryz.ntmps24
    go_wp2; refine bodyPost_ret (results_3J rfl _ _ _) rfl ?_; exact ⟨_, w.heap.size, rfl, ⟨_, TxJ.nil (Nat.le_refl _)⟩, Nat.le_refl _, Below.refl _ _⟩
  · have f1 : ((L : Int) % 64 != 0) = true := by rw [bne_iff_ne]; omega
    clear hok h1
    go_enter Tryz.func24, Tryz.ntmps24
    go_wp2; refine bodyPost_ret (results_3J rfl _ _ _) rfl ?_; exact ⟨_, w.heap.size, rfl, ⟨_, TxJ.nil (Nat.le_refl _)⟩, Nat.le_refl _, Below.refl _ _⟩
 case pos =>
  rw [show rdG14 b = (readJ b).1 from if_pos hok, show rdX14 b = 0 from if_pos hok, show rdL14 b = (readJ b).2 from if_pos hok]
  unfold okB at hok
  have hhn := halfN_eq b
  rw [← HLL.out] at hok hhn
  obtain ⟨bb, off, rfl, _⟩ := hx (by rw [← HLL.out]; omega)
  have f1 : (L : Int) % 64 = 0 := by omega
  have q1 : ¬ ((L : Int) < 512) := by omega
  have HHN : Hid (64 ≤ halfN b ∧ halfN b < 60000000) := ⟨by omega, by omega⟩
  have HPK : Hid (Calls Tryz.prog 56 #[.slice (some ⟨bb, off, none⟩) L cp] w fun e w' => e = .returned (.tuple #[.int .i64 ((pickB b).1 : Int), .int .u64 ((pickB b).2 : Int)]) ∧ Below w.heap.size w w') := by
   rw [HLL.out]; rw [HLL.out] at hr; exact nPick_any bb off cp b HHN.out.1 (by rw [← HLL.out]; omega) w hr
  obtain ⟨k, gen, hpk⟩ : ∃ k gen, pickB b = (k, gen) := ⟨_, _, rfl⟩
  have hk1 : k ≤ 1 := by
   unfold pickB at hpk
   split at hpk <;> cases hpk <;> omega
  have hg9 : gen < 18446744073709551616 := by
   unfold pickB at hpk
   split at hpk <;> cases hpk
   · by_cases h0 : genH (halfB b 1) = 0
     · omega
     · exact (gen_is h0).2
   · by_cases h0 : genH (halfB b 0) = 0
     · omega
     · exact (gen_is h0).2
  rw [hpk] at HPK
  have HB : Hid (Reads w (.slice (some ⟨bb, off, none⟩) L cp) b) := hr
  have HBW : Hid (Below w.heap.size w w) := Below.refl _ _
  by_cases hg0 : gen = 0
  · have hrd : readJ b = (0, []) := by rw [readJ, hpk, hg0]; rfl
    rw [hrd]; subst hg0; clear hr hx hcp hok hhn hl hpk hk1 hg9 hrd
    go_enter Tryz.func24, Tryz.ntmps24
    have tk0 : Hid True := trivial
    go_wp2_with (first
     | (clear tk0; go_at_call 56; refine (HPK.out).mono ?_; rintro e0 y1 ⟨rfl, hz⟩
        replace HBW := sqt HBW hz; clear hz))
    refine bodyPost_ret (results_3J rfl _ _ _) rfl ?_; exact ⟨_, w.heap.size, rfl, ⟨_, TxJ.nil HBW.out.size⟩, Nat.le_refl _, HBW.out⟩
  · have q2 : ((gen : Int) == 0) = false := by rw [beq_eq_false_iff_ne]; omega
    obtain ⟨rl, HRL⟩ := sqn ((recsOf gen (halfB b k)).1); have hrd : readJ b = (gen, rl) := by rw [readJ, hpk]; show (if gen = 0 then _ else _) = _; rw [if_neg hg0, HRL.out]
    obtain ⟨H, HH⟩ := sqn (halfN b); rw [hrd]; have HHF : Hid (∀ W, Reads W (.slice (some ⟨bb, off, none⟩) L cp) b → Calls Tryz.prog 58 #[.slice (some ⟨bb, off, none⟩) L cp, .int .i64 (k : Int)] W fun e w' => (∃ o c2, e = .returned (.slice (some ⟨bb, o, none⟩) H c2) ∧ Reads W (.slice (some ⟨bb, o, none⟩) H c2) (halfB b k)) ∧ w' = W) := fun W h => by rw [HLL.out] at h ⊢; rw [HH.out]; exact nHalf_any bb off cp b k hk1 HHN.out.1 (by rw [← HLL.out]; omega) W h
    have HRC : Hid (∀ (W : World) (o c2 : Nat), Reads W (.slice (some ⟨bb, o, none⟩) H c2) (halfB b k) → Calls Tryz.prog 57 #[.int .u64 (gen : Int), .slice (some ⟨bb, o, none⟩) H c2] W fun e w' => ∃ v, e = .returned (.tuple #[v, .int .i64 ((recsOf gen (halfB b k)).2 : Int)]) ∧ TxE W.heap.size v rl w' ∧ Below W.heap.size W w') := fun W o c2 h => by rw [HRL.out]; exact nRecords_t gen hg9 bb o H c2 (halfB b k) (by rw [len_half hk1]; exact HHN.out.1) (by rw [len_half hk1]; exact HHN.out.2) W h
    obtain ⟨en, HEN⟩ := sqn ((recsOf gen (halfB b k)).2); rw [← HEN.out] at HRC; clear hr hx hcp hok hhn hl hpk hk1 hg9 hrd
    go_enter Tryz.func24, Tryz.ntmps24
    obtain ⟨tk0, tk1, tk2⟩ := sqk3
    go_wp2_with (first
     | (clear tk0; go_at_call 56; refine (HPK.out).mono ?_; rintro e0 y1 ⟨rfl, hz⟩
        replace HB : Hid (Reads y1 (.slice (some ⟨bb, off, none⟩) L cp) b) := HB.out.below hz; replace HBW := sqt HBW hz; clear hz)
     | (clear tk1; go_at_call 58; refine (HHF.out _ HB.out).mono ?_; rintro e0 y2 ⟨⟨o2, c2, rfl, hr2⟩, hy2⟩
        subst hy2; have HR2 : Hid (Reads y2 (.slice (some ⟨bb, o2, none⟩) H c2) (halfB b k)) := hr2; clear hr2)
     | (clear tk2; go_at_call 57; refine (HRC.out _ _ _ HR2.out).mono ?_; rintro e0 y3 ⟨v3, rfl, hr3, hz⟩
        have HR3 : Hid (TxE y2.heap.size v3 rl y3 ∧ w.heap.size ≤ y2.heap.size) := ⟨hr3, HBW.out.size⟩; replace HBW := sqt HBW hz; clear hr3 hz))
    refine bodyPost_ret (results_3J rfl _ _ _) rfl ?_; exact ⟨_, _, rfl, HR3.out.1, HR3.out.2, HBW.out⟩
theorem TxJ.mutJ {P : Nat → Prop} {base : Nat} {v : Value} {us : List Value} {xs : List Bs} {W W' : World} (h : TxJ base v us xs W) (m : Mut P W W') (hP : ∀ k, P k → k < base) : TxJ base v us xs W' :=
 ⟨h.own.same fun k hk => m.block k (h.own.lt k hk).2 (fun hp => by have := hP k hp; have := (h.own.lt k hk).1; omega), h.len, fun j u hj => (h.good j u hj).sameJ fun k hk => m.block k ((h.good j u hj).ltJ k hk).2 (fun hp => by have := hP k hp; have := ((h.good j u hj).ltJ k hk).1; omega), Nat.le_trans h.ge m.size⟩
theorem nRead_sta (v : Value) (b : Bs) (hl : b.length < 100000000) (w : World) (hr : Reads w v b) {P : Nat → Prop} (hP : ∀ k, P k → k < w.heap.size) : Calls Tryz.prog 24 #[v] w fun e w' => ∃ lv, e = .returned (.tuple #[.int .u64 (rdG14 b : Int), lv, .int .i64 (rdX14 b)]) ∧ Sta P w' (fun W => ReadsL W lv (rdL14 b)) ∧ Below w.heap.size w w' :=
 (nRead_t v b hl w hr).mono (fun e w' h => by
   obtain ⟨lv, base, h1, ⟨us, h2⟩, h3, h4⟩ := h; exact ⟨lv, h1, fun X hX => (h2.mutJ hX (fun k hk => Nat.lt_of_lt_of_le (hP k hk) h3)).readsL, h4⟩)
theorem storeOpens_law (v0 : Value) (key b : Bs) (w : World) (hK : KOk w) (hr : Reads w v0 b) (hky : key.length ≤ 9223372036854775807) : Calls Tryz.prog 5 #[v0, .string (strB key)] w fun e w' => e = .returned (.bool true) ∧ Below w.heap.size w w' := by
 obtain ⟨N, HN⟩ := sqn (b.length)
 obtain ⟨ad, cp, hv⟩ : ∃ a c, v0 = .slice a N c := by obtain ⟨a, c, h, _⟩ := hr; rw [HN.out]; exact ⟨a, c, h⟩
 subst hv
 obtain ⟨sk, HSK⟩ := sqn (strB key)
 rw [← HSK.out]
 have HR : Hid (Reads w (.slice ad N cp) b) := hr
 have HKY : Hid (key.length ≤ 9223372036854775807) := hky
 have HK0 : Hid (∀ W, Below w.heap.size w W → KOk W) := fun W hb => hK.below hb hK.lt
 have HWK : Hid (∀ W, Below w.heap.size w W → Calls Tryz.prog 10 #[] W fun e w' => e = .returned (.bool true) ∧ Below W.heap.size W w') := fun W hb => works15_any W (hK.below hb hK.lt)
 have HZ : Hid (Below w.heap.size w w) := Below.refl _ _
 clear hK hr hky
 by_cases h1 : 6400 < N
 case pos =>
  have hgt : (6400 : Int) < (N : Int) := by omega
  go_enter Tryz.func5, Tryz.ntmps5
  have t00 : Hid True := trivial
  go_wp2_with (first
   | (clear t00; go_at_call 10; refine (HWK.out _ HZ.out).mono ?_; rintro e9 y9 ⟨rfl, bl9⟩
      replace HZ := sqt HZ bl9; clear bl9))
  go_ret
  exact ⟨rfl, HZ.out⟩
 case neg =>
 have hgt : ¬ (6400 : Int) < (N : Int) := by omega
 by_cases h2 : b.length % 64 = 0
 case neg =>
  have HLD : Hid (Calls Tryz.prog 29 #[.slice ad N cp] w fun r w' => r = .returned (.tuple #[.pointer none, .int .i64 1]) ∧ Below w.heap.size w w') := dkLoad_arg w _ b HR.out h2
  go_enter Tryz.func5, Tryz.ntmps5
  obtain ⟨t10, t11⟩ := sqk2
  go_wp2_with (first
   | (clear t10; go_at_call 29; refine (HLD.out).mono ?_; rintro e1 y1 ⟨rfl, bl1⟩
      replace HZ : Hid (Below w.heap.size w y1) := bl1; clear bl1)
   | (clear t11; go_at_call 10; refine (HWK.out _ HZ.out).mono ?_; rintro e9 y9 ⟨rfl, bl9⟩
      replace HZ := sqt HZ bl9; clear bl9))
  go_ret
  exact ⟨rfl, HZ.out⟩
 case pos =>
 by_cases h3 : b = []
 case pos =>
  have HLD : Hid (Calls Tryz.prog 29 #[.slice ad N cp] w fun r w' => r = .returned (.tuple #[.pointer none, .int .i64 2]) ∧ Below w.heap.size w w') := dkLoad_range w _ (by have h := HR.out; rw [h3] at h; exact h)
  go_enter Tryz.func5, Tryz.ntmps5
  obtain ⟨t10, t11⟩ := sqk2
  go_wp2_with (first
   | (clear t10; go_at_call 29; refine (HLD.out).mono ?_; rintro e1 y1 ⟨rfl, bl1⟩
      replace HZ : Hid (Below w.heap.size w y1) := bl1; clear bl1)
   | (clear t11; go_at_call 10; refine (HWK.out _ HZ.out).mono ?_; rintro e9 y9 ⟨rfl, bl9⟩
      replace HZ := sqt HZ bl9; clear bl9))
  go_ret
  exact ⟨rfl, HZ.out⟩
 case neg =>
 obtain ⟨ns, HNS⟩ := sqn (b.length / 64)
 have hne : b.length ≠ 0 := fun e => h3 (List.eq_nil_of_length_eq_zero e)
 have HBN : Hid (b.length = 64 * ns ∧ 1 ≤ ns ∧ ns ≤ 100 ∧ b.length ≤ 6400) := by have e1 := HNS.out; have e2 := HN.out; show _ ∧ _; omega
 obtain ⟨D, HD⟩ := sqn (loadD b)
 have HDB : Hid (dumpD D = b ∧ D.wait = [] ∧ sizeD D = ns ∧ readX13 D 0 = 0) := by
  show _ ∧ _
  rw [HD.out]
  exact ⟨rfl, rfl, HNS.out.symm, rx_up (by have := HBN.out; omega)⟩
 have HLD : Hid (Calls Tryz.prog 29 #[.slice ad N cp] w fun r w' => ∃ g P, r = .returned (.tuple #[.pointer (some ⟨g, 0, none⟩), .int .i64 0]) ∧ DkIs w' g P D ∧ Below w.heap.size w w' ∧ ∀ k, P k → w.heap.size ≤ k) := by
  rw [HD.out]
  exact dkLoad_any w _ b ns HR.out HBN.out.1 HBN.out.2.1 (by have := HBN.out.2.2.1; omega)
 obtain ⟨gn, HGN⟩ := sqn (rdG14 b)
 obtain ⟨rs, HRS⟩ := sqn (rdL14 b)
 obtain ⟨fx, HFX⟩ := sqn (rdX14 b)
 have HRD : Hid (∀ W gd P, Below w.heap.size w W → DkIs W gd P D → Calls Tryz.prog 24 #[.slice ad N cp] W fun e w' => ∃ al nl cl, e = .returned (.tuple #[.int .u64 (gn : Int), .slice al nl cl, .int .i64 fx]) ∧ Sta P w' (fun X => ReadsL X (.slice al nl cl) rs) ∧ Below W.heap.size W w') := fun W gd P hb hd => by
  rw [HGN.out, HRS.out, HFX.out]
  refine (nRead_sta _ b (by have := HBN.out.2.2.2; omega) W (HR.out.below hb) (P := P) (fun k hk => hd.ltS k hk)).mono (fun e w' h => ?_)
  obtain ⟨lv, e1, e2, e3⟩ := h
  obtain ⟨al, cl, e4⟩ : ∃ a c, lv = .slice a (rdL14 b).length c := by obtain ⟨a, c, h, _⟩ := e2.now; exact ⟨a, c, h⟩
  subst e4
  exact ⟨al, _, cl, e1, e2, e3⟩
 have HSB : Hid (sumB rs ≤ 6400 ∧ rs.length ≤ 6400) := by
  have h := rd_small b
  have h2 := HBN.out.2.2.2
  rw [← HRS.out] at h
  show _ ∧ _
  omega
 have HDL : Hid ((dumpD D).length < 8000000 ∧ rdL14 (dumpD D) = rs) := by
  show _ ∧ _
  rw [HDB.out.1, HRS.out]
  exact ⟨by have := HBN.out.2.2.2; omega, rfl⟩
 clear h1 h2 h3 hne
 by_cases h8 : ns < 8
 case pos =>
  have HOP : Hid (∀ W gd P, KOk W → DkIs W gd P D → Calls Tryz.prog 28 #[.pointer (some ⟨gd, 0, none⟩)] W fun e w' => e = .returned (.tuple #[.pointer none, .int .i64 1]) ∧ Below W.heap.size W w') := fun W gd P hk hd => sOpen_small hk hd HDB.out.2.1 HDL.out.1 (by rw [HDB.out.2.2.1]; exact h8)
  obtain rfl : fx = 1 := by
   rw [HFX.out]; exact if_neg (fun h => by have h2 := h.2; have := HBN.out.1; omega)
  clear h8
  go_enter Tryz.func5, Tryz.ntmps5
  obtain ⟨t20, t21, t22, t23⟩ := sqk4
  go_wp2_with (first
   | (clear t20; go_at_call 29; refine (HLD.out).mono ?_; rintro e1 y1 ⟨gd, P, rfl, hd1, bl1, hp1⟩
      have HDK : Hid (DkIs y1 gd P D ∧ ∀ k, P k → w.heap.size ≤ k) := ⟨hd1, hp1⟩; replace HZ : Hid (Below w.heap.size w y1) := bl1; clear hd1 bl1 hp1)
   | (clear t21; go_at_call 24; refine (HRD.out _ gd P HZ.out HDK.out.1).mono ?_; rintro e2 y2 ⟨al, nl, cl, rfl, hl2, bl2⟩
      have HLV : Hid (Sta P y2 (fun X => ReadsL X (.slice al nl cl) rs)) := hl2
      replace HDK : Hid (DkIs y2 gd P D ∧ ∀ k, P k → w.heap.size ≤ k) := ⟨HDK.out.1.belowS bl2, HDK.out.2⟩; replace HZ := sqt HZ bl2; clear hl2 bl2)
   | (clear t22; go_at_call 28; refine (HOP.out _ gd P (HK0.out _ HZ.out) HDK.out.1).mono ?_; rintro e3 y3 ⟨rfl, bl3⟩
      replace HZ := sqt HZ bl3; clear bl3)
   | (clear t23; go_at_call 10; refine (HWK.out _ HZ.out).mono ?_; rintro e9 y9 ⟨rfl, bl9⟩
      replace HZ := sqt HZ bl9; clear bl9))
  go_ret
  exact ⟨rfl, HZ.out⟩
 case neg =>
 obtain rfl : fx = 0 := by
  rw [HFX.out]
  exact if_pos ⟨by have := HBN.out.1; omega, by have := HBN.out.1; omega⟩
 have HOF : Hid (∀ W al nl cl, ReadsL W (.slice al nl cl) rs → Calls Tryz.prog 30 #[.slice al nl cl] W fun e w' => OfA W rs e w') := fun W al nl cl h => oOf_any _ rs W h (by have := HSB.out.1; omega) (by have := HSB.out.2; omega)
 have HXX : Hid ((runJ D (openG D).1).2 = 0) := by
  show _ = _
  rw [HD.out]
  exact openG_zero (by rw [← HNS.out]; omega)
 cases hof : ofM rs with
 | none =>
  have HOP : Hid (∀ W gd P, KOk W → DkIs W gd P D → Calls Tryz.prog 28 #[.pointer (some ⟨gd, 0, none⟩)] W fun e w' => e = .returned (.tuple #[.pointer none, .int .i64 3]) ∧ Mut P W w') := fun W gd P hk hd => sOpen_bad hk hd (by rw [HDB.out.2.1]; exact Nat.zero_le _) HDL.out.1 (by rw [HDL.out.2]; have := HSB.out.1; omega) (by rw [HDL.out.2]; have := HSB.out.2; omega) HDB.out.2.2.2 (by rw [HDL.out.2]; exact hof)
  have HOG : Hid (∀ W al nl cl, ReadsL W (.slice al nl cl) rs → Calls Tryz.prog 30 #[.slice al nl cl] W fun e w' => ∃ a1 n1 k1 a2 n2 k2, e = .returned (.tuple #[.agg [.slice a1 n1 k1, .slice a2 n2 k2].toArray, .bool false]) ∧ Below W.heap.size W w') := fun W al nl cl h => (HOF.out W al nl cl h).mono (fun e w' hx => by
   obtain ⟨hb, a1, n1, k1, a2, n2, k2, ⟨m, h1, _⟩ | ⟨_, h2⟩⟩ := hx
   · rw [hof] at h1; cases h1
   · exact ⟨a1, n1, k1, a2, n2, k2, h2, hb⟩)
  clear hof h8 HOF
  by_cases hbig : (9223372036854775808 : Int) < (gn : Int)
  case pos =>
   go_enter Tryz.func5, Tryz.ntmps5
   obtain ⟨t30, t31, t32, t33⟩ := sqk4
   go_wp2_with (first
    | (clear t30; go_at_call 29; refine (HLD.out).mono ?_; rintro e1 y1 ⟨gd, P, rfl, hd1, bl1, hp1⟩
       have HDK : Hid (DkIs y1 gd P D ∧ ∀ k, P k → w.heap.size ≤ k) := ⟨hd1, hp1⟩; replace HZ : Hid (Below w.heap.size w y1) := bl1; clear hd1 bl1 hp1)
    | (clear t31; go_at_call 24; refine (HRD.out _ gd P HZ.out HDK.out.1).mono ?_; rintro e2 y2 ⟨al, nl, cl, rfl, hl2, bl2⟩
       have HLV : Hid (Sta P y2 (fun X => ReadsL X (.slice al nl cl) rs)) := hl2
       replace HDK : Hid (DkIs y2 gd P D ∧ ∀ k, P k → w.heap.size ≤ k) := ⟨HDK.out.1.belowS bl2, HDK.out.2⟩; replace HZ := sqt HZ bl2; clear hl2 bl2)
    | (clear t32; go_at_call 28; refine (HOP.out _ gd P (HK0.out _ HZ.out) HDK.out.1).mono ?_; rintro e3 y3 ⟨rfl, mu3⟩
       have HL3 : Hid (ReadsL y3 (.slice al nl cl) rs) := HLV.out.at mu3; replace HZ : Hid (Below w.heap.size w y3) := HZ.out.trans (mu3.below HZ.out.size HDK.out.2); clear mu3)
    | (clear t33; go_at_call 10; refine (HWK.out _ HZ.out).mono ?_; rintro e9 y9 ⟨rfl, bl9⟩
       replace HZ := sqt HZ bl9; clear bl9))
   go_ret; exact ⟨rfl, HZ.out⟩
  case neg =>
   go_enter Tryz.func5, Tryz.ntmps5
   obtain ⟨t40, t41, t42, t43, t44, t45, t46⟩ := sqk7
   go_wp2_with (first
    | (clear t40; go_at_call 29; refine (HLD.out).mono ?_; rintro e1 y1 ⟨gd, P, rfl, hd1, bl1, hp1⟩
       have HDK : Hid (DkIs y1 gd P D ∧ ∀ k, P k → w.heap.size ≤ k) := ⟨hd1, hp1⟩; replace HZ : Hid (Below w.heap.size w y1) := bl1; clear hd1 bl1 hp1)
    | (clear t41; go_at_call 24; refine (HRD.out _ gd P HZ.out HDK.out.1).mono ?_; rintro e2 y2 ⟨al, nl, cl, rfl, hl2, bl2⟩
       have HLV : Hid (Sta P y2 (fun X => ReadsL X (.slice al nl cl) rs)) := hl2
       replace HDK : Hid (DkIs y2 gd P D ∧ ∀ k, P k → w.heap.size ≤ k) := ⟨HDK.out.1.belowS bl2, HDK.out.2⟩; replace HZ := sqt HZ bl2; clear hl2 bl2)
    | (clear t42; go_at_call 28; refine (HOP.out _ gd P (HK0.out _ HZ.out) HDK.out.1).mono ?_; rintro e3 y3 ⟨rfl, mu3⟩
       have HL3 : Hid (ReadsL y3 (.slice al nl cl) rs) := HLV.out.at mu3; replace HZ : Hid (Below w.heap.size w y3) := HZ.out.trans (mu3.below HZ.out.size HDK.out.2); clear mu3)
    | (clear t43; go_at_call 30; refine (HOG.out _ _ _ _ HL3.out).mono ?_; rintro e4 y4 ⟨a1, n1, k1, a2, n2, k2, rfl, bl4⟩
       replace HZ := sqt HZ bl4; clear bl4)
    | (clear t44; with_reducible refine wpSeq_allocK ?_ ?_ ?_
       · rfl
       · rfl
       intro g11 y5 nn; have H5 : Hid (Blk y5 g11 [.slice none 0 0, .slice none 0 0] 43 ∧ y4.heap.size ≤ g11 ∧ Below y4.heap.size y4 y5) := ⟨nn.blk, nn.ge, nn.below⟩; clear nn)
    | (clear t45; with_reducible refine wpSeq_storeRow 43 (.tmp 11) (.tmp 54) g11 [.slice none 0 0, .slice none 0 0] [.slice a1 n1 k1, .slice a2 n2 k2] H5.out.1 rfl (info_keys _ _) (one_keys _ _ _ _ _ _) ?_ ?_ ?_ ?_ ?_
       · rfl
       · rfl
       · rfl
       · rfl
       intro y6 sr; have bl6 : Below y4.heap.size y4 y6 := H5.out.2.2.trans (sr.only.below H5.out.2.1 H5.out.2.2.size); replace HZ := sqt HZ bl6; clear sr bl6 H5)
    | (clear t46; go_at_call 10; refine (HWK.out _ HZ.out).mono ?_; rintro e9 y9 ⟨rfl, bl9⟩
       replace HZ := sqt HZ bl9; clear bl9))
   go_ret; exact ⟨rfl, HZ.out⟩
 | some m =>
  have HOP : Hid (∀ W gd P, KOk W → DkIs W gd P D → Calls Tryz.prog 28 #[.pointer (some ⟨gd, 0, none⟩)] W fun e w' => ∃ gs gm n lv V, e = .returned (.tuple #[.pointer (some ⟨gs, 0, none⟩), .int .i64 0]) ∧ StR w' gs gm n lv V m ∧ Mut P W w') := fun W gd P hk hd => sOpen_good hk hd HDB.out.2.1 HDL.out.1 (by rw [HDL.out.2]; have := HSB.out.1; omega) (by rw [HDL.out.2]; have := HSB.out.2; omega) (by rw [HDB.out.2.2.1]; omega) (by rw [HDB.out.2.2.1]; exact HBN.out.2.2.1) HXX.out (by rw [HDL.out.2]; exact hof)
  have HOG : Hid (∀ W al nl cl, ReadsL W (.slice al nl cl) rs → Calls Tryz.prog 30 #[.slice al nl cl] W fun e w' => ∃ a1 n1 k1 a2 n2 k2, e = .returned (.tuple #[.agg [.slice a1 n1 k1, .slice a2 n2 k2].toArray, .bool true]) ∧ (ReadsS w' (.slice a1 n1 k1) (m.map (·.1)) ∧ ReadsL w' (.slice a2 n2 k2) (m.map (·.2))) ∧ m.length < 1000000 ∧ Below W.heap.size W w') := fun W al nl cl h => (HOF.out W al nl cl h).mono (fun e w' hx => by
   obtain ⟨hb, a1, n1, k1, a2, n2, k2, ⟨m', h1, h2, h3, h4, h5⟩ | ⟨h1, _⟩⟩ := hx
   · rw [hof] at h1
     cases h1
     exact ⟨a1, n1, k1, a2, n2, k2, h2, ⟨h3, h4⟩, by have := HSB.out.1; omega, hb⟩
   · rw [hof] at h1; cases h1)
  clear hof h8 HOF
  by_cases hbig : (9223372036854775808 : Int) < (gn : Int)
  case pos =>
   go_enter Tryz.func5, Tryz.ntmps5
   obtain ⟨t50, t51, t52, t53⟩ := sqk4
   go_wp2_with (first
    | (clear t50; go_at_call 29; refine (HLD.out).mono ?_; rintro e1 y1 ⟨gd, P, rfl, hd1, bl1, hp1⟩
       have HDK : Hid (DkIs y1 gd P D ∧ ∀ k, P k → w.heap.size ≤ k) := ⟨hd1, hp1⟩; replace HZ : Hid (Below w.heap.size w y1) := bl1; clear hd1 bl1 hp1)
    | (clear t51; go_at_call 24; refine (HRD.out _ gd P HZ.out HDK.out.1).mono ?_; rintro e2 y2 ⟨al, nl, cl, rfl, hl2, bl2⟩
       have HLV : Hid (Sta P y2 (fun X => ReadsL X (.slice al nl cl) rs)) := hl2
       replace HDK : Hid (DkIs y2 gd P D ∧ ∀ k, P k → w.heap.size ≤ k) := ⟨HDK.out.1.belowS bl2, HDK.out.2⟩; replace HZ := sqt HZ bl2; clear hl2 bl2)
    | (clear t52; go_at_call 28; refine (HOP.out _ gd P (HK0.out _ HZ.out) HDK.out.1).mono ?_; rintro e3 y3 ⟨gs, gm, n, lv, V, rfl, hs3, mu3⟩
       have HS3 : Hid (StR y3 gs gm n lv V m) := hs3; have HL3 : Hid (ReadsL y3 (.slice al nl cl) rs) := HLV.out.at mu3; replace HZ : Hid (Below w.heap.size w y3) := HZ.out.trans (mu3.below HZ.out.size HDK.out.2); clear hs3 mu3)
    | (clear t53; go_at_call 10; refine (HWK.out _ HZ.out).mono ?_; rintro e9 y9 ⟨rfl, bl9⟩
       replace HZ := sqt HZ bl9; clear bl9))
   go_ret; exact ⟨rfl, HZ.out⟩
  case neg =>
   go_enter Tryz.func5, Tryz.ntmps5
   have HLI : Hid (∀ W gs gm n lv V a1 n1 k1 a2 n2 k2, StR W gs gm n lv V m → ((ReadsS W (.slice a1 n1 k1) (m.map (·.1)) ∧ ReadsL W (.slice a2 n2 k2) (m.map (·.2))) ∧ m.length < 1000000) → Calls Tryz.prog 26 #[.pointer (some ⟨gs, 0, none⟩), .agg [.slice a1 n1 k1, .slice a2 n2 k2].toArray, .string sk] W fun e w' => e = .returned (.bool true) ∧ Below W.heap.size W w') := fun W gs gm n lv V a1 n1 k1 a2 n2 k2 h1 h2 => by
    rw [HSK.out]; exact like15_any h1 _ _ h2.1.1 h2.1.2 key HKY.out h2.2
   obtain ⟨t60, t61, t62, t63, t64, t65, t66, t67, t68⟩ := sqk9
   go_wp2_with (first
    | (clear t60; go_at_call 29; refine (HLD.out).mono ?_; rintro e1 y1 ⟨gd, P, rfl, hd1, bl1, hp1⟩
       have HDK : Hid (DkIs y1 gd P D ∧ ∀ k, P k → w.heap.size ≤ k) := ⟨hd1, hp1⟩; replace HZ : Hid (Below w.heap.size w y1) := bl1; clear hd1 bl1 hp1)
    | (clear t61; go_at_call 24; refine (HRD.out _ gd P HZ.out HDK.out.1).mono ?_; rintro e2 y2 ⟨al, nl, cl, rfl, hl2, bl2⟩
       have HLV : Hid (Sta P y2 (fun X => ReadsL X (.slice al nl cl) rs)) := hl2
       replace HDK : Hid (DkIs y2 gd P D ∧ ∀ k, P k → w.heap.size ≤ k) := ⟨HDK.out.1.belowS bl2, HDK.out.2⟩; replace HZ := sqt HZ bl2; clear hl2 bl2)
    | (clear t62; go_at_call 28; refine (HOP.out _ gd P (HK0.out _ HZ.out) HDK.out.1).mono ?_; rintro e3 y3 ⟨gs, gm, n, lv, V, rfl, hs3, mu3⟩
       have HS3 : Hid (StR y3 gs gm n lv V m) := hs3; have HL3 : Hid (ReadsL y3 (.slice al nl cl) rs) := HLV.out.at mu3; replace HZ : Hid (Below w.heap.size w y3) := HZ.out.trans (mu3.below HZ.out.size HDK.out.2); clear hs3 mu3)
    | (clear t63; go_at_call 30; refine (HOG.out _ _ _ _ HL3.out).mono ?_; rintro e4 y4 ⟨a1, n1, k1, a2, n2, k2, rfl, hr4, hm4, bl4⟩
       have HK4 : Hid ((ReadsS y4 (.slice a1 n1 k1) (m.map (·.1)) ∧ ReadsL y4 (.slice a2 n2 k2) (m.map (·.2))) ∧ m.length < 1000000) := ⟨hr4, hm4⟩; replace HS3 : Hid (StR y4 gs gm n lv V m) := HS3.out.below bl4; replace HZ := sqt HZ bl4; clear hr4 hm4 bl4)
    | (clear t64; with_reducible refine wpSeq_allocK ?_ ?_ ?_
       · rfl
       · rfl
       intro g11 y5 nn; have H5 : Hid (Blk y5 g11 [.slice none 0 0, .slice none 0 0] 43 ∧ y4.heap.size ≤ g11 ∧ Below y4.heap.size y4 y5) := ⟨nn.blk, nn.ge, nn.below⟩; clear nn)
    | (clear t65; with_reducible refine wpSeq_storeRow 43 (.tmp 11) (.tmp 54) g11 [.slice none 0 0, .slice none 0 0] [.slice a1 n1 k1, .slice a2 n2 k2] H5.out.1 rfl (info_keys _ _) (one_keys _ _ _ _ _ _) ?_ ?_ ?_ ?_ ?_
       · rfl
       · rfl
       · rfl
       · rfl
       intro y6 sr; have bl6 : Below y4.heap.size y4 y6 := H5.out.2.2.trans (sr.only.below H5.out.2.1 H5.out.2.2.size); have H6 : Hid (Blk y6 g11 [.slice a1 n1 k1, .slice a2 n2 k2] 43) := sr.blk; replace HK4 : Hid ((ReadsS y6 (.slice a1 n1 k1) (m.map (·.1)) ∧ ReadsL y6 (.slice a2 n2 k2) (m.map (·.2))) ∧ m.length < 1000000) := ⟨⟨HK4.out.1.1.below bl6, HK4.out.1.2.below bl6⟩, HK4.out.2⟩; replace HS3 : Hid (StR y6 gs gm n lv V m) := HS3.out.below bl6; replace HZ := sqt HZ bl6; clear sr bl6 H5)
    | (clear t66; with_reducible refine wpSeq_loadW 43 (.tmp 11) g11 0 [.slice a1 n1 k1, .slice a2 n2 k2] _ (Blk.range H6.out) Tryz.underlying43 rfl (info_keys _ _) ?_ ?_ ?_ ?_
       · rfl
       · rfl
       · rfl)
    | (clear t67; go_at_call 26; refine (HLI.out _ _ _ _ _ _ _ _ _ _ _ _ HS3.out HK4.out).mono ?_; rintro e7 y7 ⟨rfl, bl7⟩
       replace HZ := sqt HZ bl7; clear bl7)
    | (clear t68; go_at_call 10; refine (HWK.out _ HZ.out).mono ?_; rintro e9 y9 ⟨rfl, bl9⟩
       replace HZ := sqt HZ bl9; clear bl9))
   go_ret; exact ⟨rfl, HZ.out⟩
end Go.Proofs.YtopmeedmgjdcgaaGreatDoor
namespace Go.Proofs.YtopmeedmgjdcgaaGreatDoor
open Go.ChangeShapes Go.WideShapes Go.ChangeAt Go.WideMaps Go.WideElems Go.RowKit
theorem own : ownKnob Tryz.prog.godebug = none := by kernel_rfl
theorem gKw : Tryz.prog.globalNamed "blazon/sha.roundWords" = some 1 := by kernel_rfl
theorem tKw : (Tryz.prog.globals[1]?).map (·.type) = some 196 := by kernel_rfl
def laidK : List (String × DataW Unit) := [("blazon/sha.roundWords", Rows.laid_blazon_sha_roundWords)]
def kzs : List Int := kw.map fun x => (x.toNat : Int)
theorem laid_tab : (Rows.laid_blazon_sha_roundWords : DataW Unit) = Lib.tabData .u32 kzs := by kernel_rfl
theorem door_met (os : Os) (args : Array Value) : laidMetH Tryz.prog laidK ((World.doorLaid Tryz.prog 400 os).forCall (fun _ _ => 0) ⟨#[], args, []⟩).memory :=
 laidMetH_of_parts3 (fuel := 8) (laidMet_of_run' 8 (by kernel_rfl) (by kernel_rfl)) (by kernel_rfl) (by kernel_rfl)
theorem getD_toNat (l : List (BitVec 32)) (j : Nat) : (l.map fun x => (x.toNat : Int)).getD j 0 = ((l.getD j 0).toNat : Int) := by
 rw [List.getD_eq_getElem?_getD, List.getD_eq_getElem?_getD, List.getElem?_map]
 cases l[j]? <;> rfl
theorem kok_of_laid {W : World} (h : laidMetH Tryz.prog laidK W) : KOk W := by
 rw [MakeChecks.laidMetH_plain _ _ _ (by kernel_rfl)] at h
 unfold laidK at h
 rw [laid_tab] at h
 have hT := Lib.tabIs_of_head gKw tKw Tryz.underlying196 Tryz.underlying181 (by kernel_rfl) (by kernel_rfl) h
 intro j hj
 rw [hT.cell gKw j (by simpa [kzs, kw] using hj), kzs, getD_toNat]
theorem cells_byte : Tryz.prog.cellsOf 5 = 1 := by kernel_rfl
theorem laid_out : laidOutB Tryz.prog = true := by kernel_rfl
theorem readable_bytes : Tryz.prog.readableRec 23 = true := by kernel_rfl
theorem row_bytes : 23 < Tryz.prog.types.size := of_decide_eq_true (by kernel_rfl)
theorem byte_range {zs : List Int} (h : ∀ n ∈ zs, (Lit.int .u8 n).wf = true) (j : Nat) : 0 ≤ zs.getD j 0 ∧ zs.getD j 0 < 256 := by
 rw [List.getD_eq_getElem?_getD]
 cases hj : zs[j]? with
 | none => simp
 | some n =>
  have := h n (List.mem_of_getElem? hj)
  have := bounds_u8 this
  simp
  omega
theorem reads_of_trod {H : Type} {enc : TypeId × Value → H} {W : World} {base : Nat} {v : Value} {d : DataW H} {p : List MemPlace} (hval : Value.okWide Tryz.prog W .any base 23 v)
 (h : DataW.Trod enc Tryz.prog W 0 (fun _ => true) true 23 v d p) :
 ∃ bs, Reads W v bs ∧ bs.length ≤ maxLen ∧ ∀ x ∈ p, x.block < W.heap.size := by
 obtain ⟨a1, len, cap, rfl⟩ := okWide_slice Tryz.underlying23 hval
 obtain ⟨fuel, hf⟩ := h
 rcases open_ints Tryz.underlying23 Tryz.underlying5 cells_byte hf with ⟨hcs, hx⟩ | ⟨a, len', cap', zs, hcs, _, hl, hm, hz, hx, hcell, hwz⟩
 · simp [Value.cells] at hcs
   obtain ⟨rfl, rfl, rfl⟩ := hcs; simp only [Prod.mk.injEq] at hx; obtain ⟨rfl, rfl⟩ := hx; exact ⟨[], ⟨none, 0, rfl, Nat.le_refl _, fun _ => rfl, fun h => by cases h⟩, Nat.zero_le _, fun _ h => by cases h⟩
 · simp [Value.cells] at hcs
   obtain ⟨rfl, rfl, rfl⟩ := hcs; simp only [Prod.mk.injEq] at hx; obtain ⟨rfl, rfl⟩ := hx; simp only [if_true] at hz; have hlen : ((zs.take len).map fun n => BitVec.ofInt 8 n).length = len := by simp; omega
   obtain ⟨ab, ao, spot⟩ := a; refine ⟨(zs.take len).map fun n => BitVec.ofInt 8 n, ⟨some ⟨ab, ao, spot⟩, cap, by rw [hlen], by rw [hlen]; exact hl, (fun h => by cases h), fun hp => ?_⟩, by rw [hlen]; omega, fun x hx => ?_⟩
   · rw [hlen] at hp ⊢
     have hspot : spot = none := by simpa [Addr.add] using World.cell?_spot (hcell 0 (by omega))
     subst hspot; refine ⟨ab, ao, rfl, fun j hj => ?_⟩
     have hcj := hcell j (by omega)
     rw [Addr.add_lit] at hcj; rw [hcj]; have hb := byte_range hwz j
     have e : ((zs.take len).map fun n => BitVec.ofInt 8 n).getD j 0 = BitVec.ofInt 8 (zs.getD j 0) := by
      rw [List.getD_eq_getElem?_getD, List.getElem?_map, List.getElem?_take_of_lt hj, List.getD_eq_getElem?_getD, List.getElem?_eq_getElem (show j < zs.length by omega)]
      rfl
     rw [e, BitVec.toNat_ofInt]
     congr 2
     omega
   · simp only [MemPlace.row, List.mem_map, List.mem_range] at hx
     obtain ⟨i, hi, rfl⟩ := hx; have hcj := hcell i (by omega)
     have := block_lt_of_cell hcj; simp only [Addr.add] at this
     split at this <;> exact this
theorem strB_of (s : ByteArray) : ∃ nm, s = strB nm := by
 refine ⟨s.data.toList.map fun b => BitVec.ofNat 8 b.toNat, ?_⟩
 have h := strB_data (s.data.toList.map fun b => BitVec.ofNat 8 b.toNat)
 have h2 : (s.data.toList.map fun b => BitVec.ofNat 8 b.toNat).map (fun b => UInt8.ofNat b.toNat) = s.data.toList := by
  rw [List.map_map]
  have : ((fun b : BitVec 8 => UInt8.ofNat b.toNat) ∘ fun b : UInt8 => BitVec.ofNat 8 b.toNat) = id := by
   funext b
   simp only [Function.comp, BitVec.toNat_ofNat, id]; have := b.toNat_lt; rw [Nat.mod_eq_of_lt (by omega)]
   simp
  rw [this, List.map_id]
 rw [h2] at h
 obtain ⟨d⟩ := s
 generalize strB _ = t at *
 obtain ⟨e⟩ := t
 simp only at h
 rw [Array.ext' h]
end Go.Proofs.YtopmeedmgjdcgaaGreatDoor

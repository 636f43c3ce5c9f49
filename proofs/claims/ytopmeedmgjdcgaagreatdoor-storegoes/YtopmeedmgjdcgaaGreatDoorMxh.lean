import Derived.Test.YtopmeedmgjdcgaaGreatDoorMxg
import Derived.Test.YtopmeedmgjdcgaaGreatDoorMxe
import Derived.Test.YtopmeedmgjdcgaaGreatDoorRows
import Derived.Test.YtopmeedmgjdcgaaGreatDoorMxa
import Derived.ProofKit
import Derived.LaidMore
import Derived.OpenShut
import Derived.Stop.Joined
import Derived.Lib.LaidTab
import Derived.Carry
import Derived.ChangeSlices
import Derived.Test.YtopmeedmgjdcgaaGreatDoorMxf
import Derived.Deep.Slices
import Derived.Deep.Strs
import Derived.Lib.SmallJoins
set_option maxHeartbeats 16000000
namespace Go.Proofs.YtopmeedmgjdcgaaGreatDoor
open Go.RowKit Go.Shelf
set_option maxRecDepth 100000
attribute [local go_sem] Oper.semAt_some
theorem spN (n : Int) : StP [] (openD (zeroD (nSec n))) jn0 ∧ sizeD (openD (zeroD (nSec n))) = nSec n := by
 have h := nSec_le n
 obtain ⟨_, _, h3, h4⟩ := open_zero (m := nSec n) h.1 (Nat.le_trans h.2 (by decide))
 exact ⟨⟨h3, by rw [h4]; exact h.1, by rw [h4]; exact h.2, by decide, List.Pairwise.nil, Nat.le_refl _⟩, h4⟩
theorem aa_form {w : World} {v : Value} {ls : List (List ActT)} (h : ReadsAA w v ls) : ∃ ad c, v = .slice ad ls.length c := by
 obtain ⟨ad, c, e, _⟩ := h
 exact ⟨ad, c, e⟩
theorem ba_at {w : World} {ad : Option Addr} {n c : Nat} {ls : List (List ActT)} (h : ReadsAA w (.slice ad n c) ls) {j : Nat} (hj : j < ls.length) : ∃ b off aa an ac ps, ad = some ⟨b, off, none⟩ ∧ w.cell? ⟨b, off + j, none⟩ = some (.slice aa an ac) ∧ BaI w (.slice aa an ac) (ls.getD j []) ps := by
 obtain ⟨b, off, va, e1, e2, e3⟩ := h.at hj
 obtain ⟨aa, ac, e4⟩ := e3.form
 subst e4
 obtain ⟨ps, h1, h2, h3, h4⟩ := acts_rdp e3
 exact ⟨b, off, aa, _, ac, ps, e1, e2, h1, h2, h3, h4, e3⟩
theorem idxAA (b off n c k : Nat) (hk : k < n) (f : Operand → Value) (o : Oper) (x y : Operand) (ho : o.op = .indexAddr 34 x y) (hx : f x = .slice (some ⟨b, off, none⟩) n c) (hy : f y = .int .i64 (k : Int)) (w : World) :
 (execOp f o).run Tryz.prog w = .ok (.value (.pointer (some ⟨b, off + k, none⟩))) w := by
 have k0 : (0 : Int) ≤ (k : Int) := by omega
 have k1 : (k : Int) < (n : Int) := by omega
 have hs : (sizeOf 22).run Tryz.prog w = .ok 1 w := by kernel_rfl
 unfold execOp
 rw [ho]
 simp [go_sem, hx, hy, k0, k1, Addr.add_mid, hs]
theorem wpSeq_idxAA {ops : Array Oper} {Q : Exit → Act → World → Prop} {rest : List Oper} {o : Oper} {a : Act} {w : World} (x y : Operand) (b off n c k : Nat) (hk : k < n) (ho : o.op = .indexAddr 34 x y) (hx : a.eval x = .slice (some ⟨b, off, none⟩) n c) (hy : a.eval y = .int .i64 (k : Int)) (hw : Region.wanted o (yielded ops a.tmps) = true)
 (h : wpList Tryz.prog ops Q rest (a.put o.dst (.pointer (some ⟨b, off + k, none⟩))) w) : wpList Tryz.prog ops Q (o :: rest) a w :=
 wpSeq_val _ _ hw (idxAA b off n c k hk _ o x y ho hx hy w) h
theorem wpSeq_allocIn {ops : Array Oper} {Q : Exit → Act → World → Prop} {rest : List Oper} {o : Oper} {a : Act} {w : World} (ho : o.op = .alloc 3) (hw : Region.wanted o (yielded ops a.tmps) = true)
 (h : ∀ g w', NewR [.int .i64 0] 3 w g w' → wpList Tryz.prog ops Q rest (a.put o.dst (.pointer (some ⟨g, 0, none⟩))) w') : wpList Tryz.prog ops Q (o :: rest) a w :=
 wpSeq_val _ _ hw (by unfold execOp; rw [ho]; kernel_rfl) (h _ _ (NewR.of _ _ w))
theorem GoI.begin {w W Y : World} {gs gd lg gm gk N : Nat} {P Q : Nat → Prop} {D : DkT} (hs : StM W gs gd lg gm 0 P Q nilV [] D jn0) (hp : StP [] D jn0 ∧ sizeD D = N) (hu : ∀ k, Um P Q gm k → w.heap.size ≤ k) (hb : Below w.heap.size w W) (hk : Blk Y gk [.slice none 0 0, .slice none 0 0] 43) (hg : W.heap.size ≤ gk) (hy : Below W.heap.size W Y) : GoI w gs gd lg gm gk 0 1 N (.slice none 0 0) (.slice none 0 0) (.slice none 0 0) [] [] 0 P Q nilV [] D jn0 Y :=
 ⟨hs.below hy, hp.1, hp.2, Nat.le_refl _, Nat.le_refl _, hu, fun h => by have := hs.ltM gk h; omega, hb.trans (hy.mono hb.size), hk, Nat.le_trans hb.size hg, KyS.nil _ _, StaL.nil _ _, fun s t h => by cases h⟩
theorem wpSeq_idxT15 {ops : Array Oper} {Q : Exit → Act → World → Prop} {rest : List Oper} {o : Oper} {a : Act} {w : World} (x y : Operand) (b off n c k : Nat) (hk : k < n) (ho : o.op = .indexAddr 41 x y) (hx : a.eval x = .slice (some ⟨b, off, none⟩) n c) (hy : a.eval y = .int .i64 (k : Int)) (hw : Region.wanted o (yielded ops a.tmps) = true)
 (h : wpList Tryz.prog ops Q rest (a.put o.dst (.pointer (some ⟨b, off + k, none⟩))) w) : wpList Tryz.prog ops Q (o :: rest) a w :=
 wpSeq_val _ _ hw (idxT15 b off n c k hk _ o x y ho hx hy w) h
theorem ownB_ownG {n₀ B : Nat} : OwnFrom B (fun (x : KvT) X => OwnB X n₀ (mkS x.2) x.1.2) := fun x X Y row h hg hr =>
 (h.toR.same (fun k ar hh _ => hg.block k (Array.getElem?_eq_some_iff.1 hh).1 (fun e => by
   obtain ⟨_, o, ho, hn⟩ := hr k e.symm; rw [hh] at ho
   cases ho
   cases hn))).toB
structure GgI (v0 : World) (gn : Nat) (pre : List KvT) (W : World) : Prop where
 bel : Below v0.heap.size v0 W
 bn : Blk W gn [.int .i64 (pre.length : Int)] 3
theorem GgI.own {v0 : World} {gn B : Nat} (hB : v0.heap.size ≤ B) : OwnFrom B (GgI v0 gn) := fun s A W' row hs hg hr =>
 ⟨hs.bel.grown hg hs.bel.size (fun k e => Nat.le_trans hB (hr k e).1), blk_own (β := Unit) gn (fun _ => [.int .i64 (s.length : Int)]) _ () A W' row hs.bn hg (fun r e => (hr r e).2)⟩
def GgX (v0 : World) (gn : Nat) (sp : Int) (c : Code) (pre : List KvT) (W : World) : Prop := c = .exit 2 ∧ GgI v0 gn pre W ∧ (pre.length : Int) = sp
theorem GgX.own {v0 : World} {gn B : Nat} {sp : Int} (hB : v0.heap.size ≤ B) (c : Code) : OwnFrom B (GgX v0 gn sp c) := fun s A W' row hs hg hr => ⟨hs.1, GgI.own hB s A W' row hs.2.1 hg hr, hs.2.2⟩
theorem storeGoes_law (x0 : Int) (v1 : Value) (sp : Int) (ls : List (List ActT)) (w : World) (hK : KOk w) (hr : ReadsAA w v1 ls) (hs : ∀ l ∈ ls, ∀ a ∈ l, szA a) : Calls Tryz.prog 8 #[.int .i64 x0, v1, .int .i64 sp] w fun e w' => e = .returned (.bool true) ∧ Below w.heap.size w w' := by
 obtain ⟨Na, HNa⟩ := sqn (ls.length)
 obtain ⟨ad, cp, hv⟩ := aa_form hr
 rw [← HNa.out] at hv
 subst hv
 obtain ⟨N, HNN⟩ := sqn (nSec x0)
 obtain ⟨D0, HD0⟩ := sqn (openD (zeroD N))
 have HSP : Hid (StP [] D0 jn0 ∧ sizeD D0 = N) := by
  have h := spN x0
  rw [← HNN.out, ← HD0.out] at h
  exact h
 have HFR : Hid (∀ W, KOk W → Calls Tryz.prog 19 #[.int .i64 x0] W fun e w' => ∃ gd gs lg gm P Q, e = .returned (.tuple #[.pointer (some ⟨gd, 0, none⟩), .pointer (some ⟨gs, 0, none⟩)]) ∧ StM w' gs gd lg gm 0 P Q nilV [] D0 jn0 ∧ Below W.heap.size W w' ∧ (∀ k, Um P Q gm k → W.heap.size ≤ k) ∧ W.heap.size ≤ gs) := fun W h => by
  have h1 := fresh15_any x0 W h
  rw [← HNN.out, ← HD0.out] at h1
  exact h1
 have HK0 : Hid (∀ W, Below w.heap.size w W → KOk W) := fun W hb => hK.below hb hK.lt
 have HR0 : Hid (ReadsAA w (.slice ad Na cp) ls) := hr
 have HFW : Hid (∀ W, Below w.heap.size w W → Calls Tryz.prog 20 #[.slice ad Na cp] W fun e w' => FewQ ls e ∧ Below W.heap.size W w') := fun W hb => few15_any _ ls W (hr.below hb) hs
 have HWK : Hid (∀ W, Below w.heap.size w W → Calls Tryz.prog 10 #[] W fun e w' => e = .returned (.bool true) ∧ Below W.heap.size W w') := fun W hb => works15_any W (hK.below hb hK.lt)
 have hnil := notNil15
 clear hK hr hs HD0
 refine (callsIn_wide (n := 4)).1 ?_
 refine callsIn_of_wp_marks Tryz.func8 rfl trivial ?_ rfl
 simp only [Tryz.ntmps8, List.size_toArray, List.length_cons, List.length_nil, Nat.reduceAdd, Nat.reduceSub, Array.replicate_succ, Array.replicate_zero, List.push_toArray, List.append_toArray, List.nil_append, List.cons_append]
 refine wpIn_wide.2 ?_
 obtain ⟨tk0, tk1, tk2, tk3, tk4, tk5, tk6, tk7⟩ := sqk8
 go_wp2_with (first
  | (clear tk0; with_reducible refine wpSeq_box1 3 (.tmp 2) (.int .i64 sp) rfl ?_ ?_ ?_ ?_
     · rfl
     · rfl
     · rfl
     intro g5 y1 nn; have H5 : Hid (Blk y1 g5 [.int .i64 sp] 3) := nn.blk; have HBW : Hid (Below w.heap.size w y1) := nn.below; clear nn)
  | (clear tk1; with_reducible refine wpSeq_allocBo ?_ ?_ ?_
     · rfl
     · rfl
     intro g6 y2 nn; have H6 : Hid (Blk y2 g6 [.bool false] 4) := nn.blk; have HG6 : Hid (w.heap.size ≤ g6) := Nat.le_trans HBW.out.size nn.ge; replace H5 : Hid (Blk y2 g5 [.int .i64 sp] 3) := H5.out.below nn.below H5.out.lt; replace HBW : Hid (Below w.heap.size w y2) := HBW.out.trans (nn.below.mono HBW.out.size); have HB2 : Hid (Below y2.heap.size y2 y2) := Below.refl _ _; clear nn)
  | (clear tk2; go_at_call 19; refine (HFR.out _ (HK0.out _ HBW.out)).mono ?_; rintro e3 y3 ⟨gd, gs, lg, gm, P0, Q0, rfl, hs3, bl3, hu3, hg3⟩
     have HS3 : Hid (StM y3 gs gd lg gm 0 P0 Q0 nilV [] D0 jn0) := hs3; have HU3 : Hid (∀ k, Um P0 Q0 gm k → y2.heap.size ≤ k) := hu3; replace HB2 : Hid (Below y2.heap.size y2 y3) := bl3; clear hs3 hu3 hg3 bl3)
  | (clear tk3; go_at_call 20; refine (HFW.out _ (HBW.out.trans (HB2.out.mono HBW.out.size))).mono ?_; rintro e4 y4 ⟨⟨ok, rfl, hj⟩, bl⟩
     have HFE : Hid (FewP ls ok) := hj; replace HS3 : Hid (StM y4 gs gd lg gm 0 P0 Q0 nilV [] D0 jn0) := HS3.out.below bl; replace HB2 : Hid (Below y2.heap.size y2 y4) := HB2.out.trans (bl.mono HB2.out.size); clear hj bl
     cases ok)
  | (clear tk4; go_at_call 10; refine (HWK.out _ (HBW.out.trans (HB2.out.mono HBW.out.size))).mono ?_; rintro e5 y5 ⟨rfl, bl⟩
     replace HB2 : Hid (Below y2.heap.size y2 y5) := HB2.out.trans (bl.mono HB2.out.size); have H65 : Hid (Blk y5 g6 [.bool false] 4) := H6.out.below HB2.out H6.out.lt; have c6 : y5.cell? ⟨g6, 0, none⟩ = some (.bool false) := H65.out.cell 0; have d6 : y5.frozen? ⟨g6, 0, none⟩ = false := H65.out.frozen 0; clear bl)
  | (clear tk5; with_reducible refine wpSeq_buildK0 ?_ ?_ ?_
     · rfl
     · rfl)
  | (clear tk6; with_reducible refine wpSeq_allocK ?_ ?_ ?_
     · rfl
     · rfl
     intro gk y6 nn; have HI6 : Hid (GoI y2 gs gd lg gm gk 0 1 N (.slice none 0 0) (.slice none 0 0) (.slice none 0 0) [] [] 0 P0 Q0 nilV [] D0 jn0 y6) := GoI.begin HS3.out HSP.out HU3.out HB2.out nn.blk nn.ge nn.below; clear nn)
  | (clear tk7; with_reducible refine wpSeq_storeRow 43 (.tmp 9) (.tmp 31) gk [.slice none 0 0, .slice none 0 0] [.slice none 0 0, .slice none 0 0] HI6.out.bk rfl (info_keys _ _) (one_keys _ _ _ _ _ _) ?_ ?_ ?_ ?_ ?_
     · rfl
     · rfl
     · rfl
     · rfl
     intro y7 sr; have HI7 : Hid (GoI y2 gs gd lg gm gk 0 1 N (.slice none 0 0) (.slice none 0 0) (.slice none 0 0) [] [] 0 P0 Q0 nilV [] D0 jn0 y7) := HI6.out.put (Below.refl _ _) sr.only sr.blk HI6.out.ky HI6.out.re; clear sr HI6))
 · have hb := HBW.out.trans (HB2.out.mono HBW.out.size)
   have hc5 := (H65.out.set 0 (.bool true)).cell 0; refine ⟨.bool true, ?_, rfl, hb.setCell (p := ⟨g6, 0, none⟩) HG6.out _⟩; simp at hc5; simp [results, Tryz.f8, go_sem, hc5]
 have HFO : Hid (Na ≤ 20 ∧ ∀ l ∈ ls, l.length ≤ 60 ∧ sumA l ≤ 20000) := by
  have h1 := HFE.out rfl
  exact ⟨by rw [HNa.out]; exact h1.1, h1.2⟩
 clear HFE HFR HFW HS3 HU3 HB2 HSP
 replace HR0 : Hid (ReadsAA y2 (.slice ad Na cp) ls) := HR0.out.below HBW.out
 have HKY : Hid (KOk y2) := HK0.out _ HBW.out
 go_loopw [10, 11] (fun rv i11 wr => ∃ (ra : Option Addr) (rn rc i n : Nat) (k1 : Option Addr) (k2 k3 : Nat) (k4 : Option Addr) (k5 k6 : Nat) (P Q : Nat → Prop) (V : Bs → Value) (m : KM) (D : DkT) (J : JnT), rv = .slice ra rn rc ∧ i11 = .int .i64 (i : Int) ∧ i ≤ Na ∧ Hid (GoI y2 gs gd lg gm gk (60 * i) (1 + i) N (.slice k1 k2 k3) (.slice k4 k5 k6) (.slice ra rn rc) m J.l n P Q V m D J wr)) (fun _ i11 _ => Na - (intOf i11).toNat)
 case atStart => exact ⟨none, 0, 0, 0, 0, none, 0, 0, none, 0, 0, P0, Q0, nilV, [], D0, jn0, rfl, rfl, Nat.zero_le _, HI7⟩
 case round =>
  clear HI7
  obtain ⟨ra, rn, rc, i, n, k1, k2, k3, k4, k5, k6, P, Q, V, m, D, J, rfl, rfl, hi, HI⟩ := hrel
  by_cases hin : i < Na
  case pos =>
   have hlk : (i : Int) < (Na : Int) := by omega
   have f1 : IntKind.i64.wrap ((i : Int) + 1) = (i : Int) + 1 := by rw [IntKind.wrap_i64]; have := HFO.out.1; omega
   have HIN : Hid (i < Na) := hin; obtain ⟨b, off, aa, an, ac, ps, eb, cb0, hba⟩ := ba_at HR0.out (j := i) (by rw [← HNa.out]; exact hin)
   subst eb; obtain ⟨l, HL⟩ := sqn (ls.getD i []); rw [← HL.out] at hba; have HBA : Hid (BaI y2 (.slice aa an ac) l ps) := hba; have HLF : Hid (l.length ≤ 60 ∧ sumA l ≤ 20000) := HFO.out.2 l (by rw [HL.out, List.getD_eq_getElem?_getD, List.getElem?_eq_getElem (by rw [← HNa.out]; exact hin)]; exact List.getElem_mem _)
   have HCB : Hid (∀ wx, Below y2.heap.size y2 wx → wx.cell? ⟨b, off + i, none⟩ = some (.slice aa an ac)) := fun wx hb => (World.cell?_of_block (hb.block b (block_lt_of_cell cb0))).trans cb0
   have HBI : Hid (60 * i + 60 < 10000000 ∧ 1 + i + 1 < 1000000) := by have := HFO.out.1; show _ ∧ _; omega
   have c0 : wr.cell? ⟨b, off + i, none⟩ = some (.slice aa an ac) := HCB.out _ HI.out.bel; clear hba cb0 hi; obtain ⟨ta0, ta1⟩ := sqk2
   go_upto_region 12 with (first
    | (clear ta0; with_reducible refine wpSeq_idxAA (.tmp 39) (.tmp 40) b off Na cp i HIN.out ?_ ?_ ?_ ?_ ?_
       · rfl
       · rfl
       · rfl
       · rfl)
    | (clear ta1; go_at_call 23; refine (go_store HI.out HKY.out HBI.out.2 HBI.out.1 HBA.out HLF.out.1 HLF.out.2).mono ?_; rintro e2 z2 ⟨rfl, n2, P2, Q2, V2, D2, J2, hi2, hl2⟩
       have HI2 : Hid (GoI y2 gs gd lg gm gk (60 * i + 60) (1 + i + 1) N (.slice k1 k2 k3) (.slice k4 k5 k6) (.slice ra rn rc) m J.l n2 P2 Q2 V2 (apyM m J.l l N) D2 J2 z2) := hi2; have HL2 : Hid (J2.l = apyL m J.l l N) := hl2; clear hi2 hl2))
   have HD2 : Hid (Calls Tryz.prog 22 #[.pointer (some ⟨gd, 0, none⟩)] z2.drew fun r w' => r = .returned (.int .i64 (N : Int)) ∧ w' = z2.drew) := by
    have h := dkSize_pure (HI2.out.st.below (Below.refl _ _).drew).pk.dk; rw [HI2.out.sz] at h; exact h
   replace HI2 : Hid (GoI y2 gs gd lg gm gk (60 * i + 60) (1 + i + 1) N (.slice k1 k2 k3) (.slice k4 k5 k6) (.slice ra rn rc) m J.l n2 P2 Q2 V2 (apyM m J.l l N) D2 J2 z2.drew) := HI2.out.below (Below.refl _ _).drew; have HRA := go_ref HI2.out HI.out.sp HBA.out HLF.out.1 HLF.out.2; refine wp_normal ?_; refine wp_region_held_drew (S := fun wx => Below y2.heap.size y2 wx) (by kernel_rfl) HI2.out.bel ?_
   intro hS; refine tkc 1 (.slice ra rn rc) rfl hS ?_; simp only [Act.put, sq]; refine tkc 2 (.slice (some ⟨b, off, none⟩) Na cp) rfl hS ?_; simp only [Act.put, sq]; refine tkc 3 (.int .i64 (i : Int)) rfl hS ?_; simp only [Act.put, sq]; refine tka 4 (.pointer (some ⟨b, off + i, none⟩)) rfl (fun wx hx => by exact idxAA b off Na cp i HIN.out _ _ (.tmp 47) (.tmp 48) rfl rfl rfl _) hS ?_
   simp only [Act.put, sq]; refine tka 5 (.slice aa an ac) rfl (fun wx hx => by have cx := HCB.out wx hx; simp [go_sem, cx]) hS ?_
   simp only [Act.put, sq]; refine tkc 6 (.pointer (some ⟨gd, 0, none⟩)) rfl hS ?_; simp only [Act.put, sq]; refine wpAnyH_readC 0 7 (.agg [.slice k1 k2 k3, .slice k4 k5 k6].toArray) (f := 22) (args := #[.pointer (some ⟨gd, 0, none⟩)]) (by kernel_rfl) rfl rfl (by rfl) (by rfl) (fun _ => by rfl) (by rfl) (load_run 43 _ rfl _ _ rfl [.slice k1 k2 k3, .slice k4 k5 k6] _ (Blk.range HI2.out.bk) Tryz.underlying43 rfl (info_keys _ _)) (by simp [go_sem]) (by simp [go_sem]) HD2.out (by kernel_rfl) (by kernel_rfl) (fun _ => by rfl) (by rfl) hS ?_
   rintro e3 z3 ⟨rfl, rfl⟩; refine ⟨_, rfl, hS, load_run 43 _ rfl _ _ rfl [.slice k1 k2 k3, .slice k4 k5 k6] _ (Blk.range HI2.out.bk) Tryz.underlying43 rfl (info_keys _ _), ?_⟩; simp only [Act.put, sq]
   generalize hA : (#[.agg [.slice k1 k2 k3, .slice k4 k5 k6].toArray, .slice ra rn rc, .slice aa an ac, .int .i64 (N : Int)] : Array Value) = AA at HRA; refine wpAnyH_enter 8 (by kernel_rfl) rfl (by rfl) (f := 21) (args := AA) (by subst hA; simp [go_sem]) HRA ?_
   rintro e4 z4 ⟨uK, uV, ur, rfl, hk4, hr4, bl4⟩; obtain ⟨q1, q2, q3, f1e⟩ : ∃ a n c, uK = .slice a n c := by obtain ⟨a, c, h, _⟩ := hk4.k; exact ⟨a, _, c, h⟩
   obtain ⟨q4, q5, q6, f2e⟩ : ∃ a n c, uV = .slice a n c := by obtain ⟨a, c, h, _⟩ := hk4.v; exact ⟨a, _, c, h⟩
   obtain ⟨q7, q8, q9, f3e⟩ : ∃ a n c, ur = .slice a n c := by obtain ⟨a, c, h, _⟩ := hr4; exact ⟨a, _, c, h⟩
   subst f1e f2e f3e; obtain ⟨xa, HXA⟩ := sqn (apyX m J.l l N); rw [← HXA.out]; have hS4 : Below y2.heap.size y2 z4 := hS.trans (bl4.mono hS.size); have HB4 : Hid (Blk z4 gk [.slice k1 k2 k3, .slice k4 k5 k6] 43) := HI2.out.bk.below bl4 HI2.out.bk.lt; refine ⟨_, rfl, hS4, ?_⟩; simp only [Act.put, sq]; refine tkc 9 (.tuple #[.agg [.slice q1 q2 q3, .slice q4 q5 q6].toArray, .slice q7 q8 q9, .int .i64 xa]) rfl hS4 ?_; simp only [Act.put, sq]; refine tkc 10 (.agg [.slice q1 q2 q3, .slice q4 q5 q6].toArray) rfl hS4 ?_; simp only [Act.put, sq]; refine tkc 11 (.slice q7 q8 q9) rfl hS4 ?_; simp only [Act.put, sq]; refine tkc 12 (.int .i64 xa) rfl hS4 ?_; simp only [Act.put, sq]; refine wpAnyH_storeRow 13 43 (.tmp 9) (.tmp 54) gk [.slice k1 k2 k3, .slice k4 k5 k6] [.slice q1 q2 q3, .slice q4 q5 q6] HB4.out rfl (info_keys _ _) (one_keys _ _ _ _ _ _) (by kernel_rfl) rfl (by rfl) rfl rfl rfl ?_
   intro z5 sr
   have HI5 : Hid (GoI y2 gs gd lg gm gk (60 * (i + 1)) (1 + (i + 1)) N (.slice q1 q2 q3) (.slice q4 q5 q6) (.slice q7 q8 q9) (apyM m J.l l N) J2.l n2 P2 Q2 V2 (apyM m J.l l N) D2 J2 z5) := by
    have h := HI2.out.put bl4 sr.only sr.blk hk4 hr4; rw [← HL2.out] at h; exact h
   have hS5 : Below y2.heap.size y2 z5 := HI5.out.bel; refine ⟨hS5, ?_⟩; simp only [Act.put, sq]; refine tkc 14 (.slice q7 q8 q9) rfl hS5 ?_; simp only [Act.put, sq]; refine wpAnyH_done (by kernel_rfl) ?_ _
   clear hS hS4 hS5 hk4 hr4 bl4 sr HB4 HRA HD2 HI2 HI c0; simp only [onlyNormal]; go_wp2; go_roundw
   case rel => exact ⟨q7, q8, q9, i + 1, n2, q1, q2, q3, q4, q5, q6, P2, Q2, V2, apyM m J.l l N, D2, J2, rfl, rfl, HIN.out, HI5⟩
   case measure => simp [intOf]; have := HIN.out; omega
  case neg =>
   obtain rfl : i = Na := by omega
   have hlk : ¬ ((i : Int) < (i : Int)) := by omega
   clear hin hi
   have HML : Hid (m.length < 1000000) := by
    have h1 := HI.out.sp.small; have h2 := wtM_len m; show _ < _; omega
   obtain ⟨tb0, tb1, tb2⟩ := sqk3
   go_wp2_with (first
    | (clear tb0; go_at_call 34; refine (sAll_any HI.out.st.sb HI.out.st.mp HML.out).mono ?_; rintro e6 v0 ⟨gl, vr, rfl, hbl, how, hb6, hg6⟩
       have HI6 : Hid (GoI y2 gs gd lg gm gk (60 * i) (1 + i) N (.slice k1 k2 k3) (.slice k4 k5 k6) (.slice ra rn rc) m J.l n P Q V m D J v0) := HI.out.below hb6; have HBL : Hid (Blk v0 gl [vr] 22 ∧ v0.ownsRow wr.heap.size 62 3 vr m.length (rowP (setP V m)) ∧ wr.heap.size ≤ gl) := ⟨hbl, how, hg6⟩; have hnn := fun W => hnil gl W
       clear hbl how hb6 hg6 hnil)
    | (clear tb1; with_reducible refine wpSeq_allocIn ?_ ?_ ?_
       · rfl
       · rfl
       intro gn wA nn; have HGN : Hid (v0.heap.size ≤ gn) := nn.ge; have HBA : Hid (Below v0.heap.size v0 wA ∧ Blk wA gn [.int .i64 0] 3) := ⟨nn.below, nn.blk⟩; clear nn)
    | (clear tb2; with_reducible refine wpSeq_cellI (.tmp 13) (.const (.int .i64 0)) gn 0 [.int .i64 0] 0 3 (by decide) HBA.out.2 ?_ ?_ ?_ ?_ ?_
       · rfl
       · rfl
       · rfl
       · rfl
       intro wB hbB hoB; have HIB : Hid (GgI v0 gn [] wB) := ⟨HBA.out.1.trans (hoB.below HGN.out HBA.out.1.size), hbB⟩; clear hbB hoB HBA))
   obtain ⟨M, HM⟩ := sqn (m.length)
   obtain ⟨ek2, ek5⟩ : k2 = M ∧ k5 = M := by
    obtain ⟨_, _, e1, _⟩ := HI6.out.ky.k; obtain ⟨_, _, e2, _⟩ := HI6.out.ky.v; simp only [Value.slice.injEq, List.length_map] at e1 e2; rw [HM.out]; exact ⟨e1.2.1, e2.2.1⟩
   rw [ek2, ek5] at HI6; clear ek2 ek5; have HBV : Hid (∀ W, Below v0.heap.size v0 W → Below y2.heap.size y2 W) := fun W h => HI6.out.bel.trans (h.mono HI6.out.bel.size)
   have HST : Hid (∀ W, KpJ v0.heap.size (fun _ => False) wB W → RdP W vr (setP V m) ∧ ∀ p ∈ setP V m, Reads W p.2 p.1.data) := fun W h => by
    have hb : Below v0.heap.size v0 W := HIB.out.bel.trans ⟨h.os, h.tape, h.output, h.size, fun k hk => h.block k hk (fun h => h)⟩
    refine ⟨(rowP_rdp (by rw [setP_len]; exact HBL.out.2.1)).below hb, fun p hp => ?_⟩
    obtain ⟨q, hq, e⟩ := List.mem_map.1 hp; have h1 := (HI6.out.st.tx q.1 q.2 ((getM_mem HI6.out.st.mp.up _ _).2 hq)).1.now; rw [← e]; exact h1.below hb
   have HSL : Hid (∀ p ∈ setP V m, isSl p.2 = true ∧ p.1.data.length ≤ 1048576) := fun p hp => by
    obtain ⟨q, hq, e⟩ := List.mem_map.1 hp; have h1 := (getM_mem HI6.out.st.mp.up _ _).2 hq; rw [← e]; exact ⟨HI6.out.st.mp.sl q.1 (by rw [h1]; rfl), (HI6.out.st.tx q.1 q.2 h1).2⟩
   have HHN : Hid (v0.heap.size ≤ wB.heap.size) := HIB.out.bel.size; refine (wpIn_wide (n := 4)).1 ?_
   refine range_good (α := KvT) (by omega) (gf := 66) (lb := #[.pointer (some ⟨gl, 0, none⟩)]) rfl (enters_of Tryz.func66 (by kernel_rfl) rfl)
    (all_stops 3 (n₀ := v0.heap.size) (R := fun _ => False) wB HHN.out (HBL.out.1.below HIB.out.bel HBL.out.1.lt) ⟨HBL.out.1.lt, fun h => h⟩ HST.out HSL.out HML.out)
    KpJ.trans (fun W l o o' h1 h2 h3 h4 => KpJ.put (w := wB) HHN.out W l o o' h1 h2 h3 h4) (Below.refl _ _) (fun _ => rfl)
    (GgI v0 gn) (GgX v0 gn sp) (GgI.own HHN.out) (fun c => GgX.own HHN.out c) ownB_ownG HIB.out
    (fun x => { tmps := #[.int .i64 x0, .slice ad i cp, .int .i64 sp, undef, undef, .pointer (some ⟨g5, 0, none⟩), .pointer (some ⟨g6, 0, none⟩), .pointer (some ⟨gd, 0, none⟩), .pointer (some ⟨gs, 0, none⟩), .pointer (some ⟨gk, 0, none⟩), .slice ra rn rc, .int .i64 (i : Int), .func (.func 66) #[] #[.pointer (some ⟨gl, 0, none⟩)], .pointer (some ⟨gn, 0, none⟩), .string (strB x.1.1), mkS x.2, .tuple #[.pointer (some ⟨gd, 0, none⟩), .pointer (some ⟨gs, 0, none⟩)], .int .i64 x0, .tuple #[.pointer (some ⟨gd, 0, none⟩), .pointer (some ⟨gs, 0, none⟩)], .pointer (some ⟨gd, 0, none⟩), .pointer (some ⟨gs, 0, none⟩), .pointer (some ⟨gd, 0, none⟩), .bool false, .bool false, .pointer (some ⟨gs, 0, none⟩), .bool false, .bool false, .slice ad i cp, .bool true, .bool false, undef, .agg #[.slice none 0 0, .slice none 0 0], .int .i64 (i : Int), .slice ad i cp, .int .i64 (i : Int), .bool false, u36, u37, u38, u39, u40, u41, u42, u43, u44, u45, u46, u47, u48, u49, u50, u51, u52, u53, u54, u55, u56, .pointer (some ⟨gs, 0, none⟩), .func (.func 66) #[] #[.pointer (some ⟨gl, 0, none⟩)], .func (.func 66) #[] #[.pointer (some ⟨gl, 0, none⟩)], .bool false, .func (.func 66) #[] #[.pointer (some ⟨gl, 0, none⟩)], .string (strB x.1.1), mkS x.2, undef, undef, undef, undef, undef, undef, undef, undef, undef, undef, undef, undef, undef, undef, undef, undef, undef, undef, undef, undef, undef, undef, undef, undef, undef, undef, undef, undef, undef, undef, undef, undef, undef, undef, undef, undef, undef, undef, undef, undef, undef, undef], defers := [] }) ?assign ?body ?done ?stop
   case assign =>
    intro l x W K hK
    gi_wp2
    exact hK
   case body =>
    intro lab pre x W hpre hsp hgx; have HI : Hid (GgI v0 gn pre W) := hpre; have HGX : Hid (OwnB W v0.heap.size (mkS x.2) x.1.2) := hgx; obtain ⟨L, HL⟩ := sqn (pre.length)
    have hx : L < m.length ∧ m[L]? = some x.1 := by
     obtain ⟨q, hq, e⟩ := hsp; have h1 := congrArg List.length e; rw [List.length_map, List.length_append, List.length_take] at h1; simp only [List.length_cons, List.length_nil] at h1; have h2 : ((pre ++ [x]).map (·.1))[L]? = some x.1 := by rw [HL.out, List.map_append, List.getElem?_append_right (by simp)]; simp
     rw [e, List.getElem?_take, if_pos (by have := HL.out; omega)] at h2
     exact ⟨by have := HL.out; omega, h2⟩
    have HLM : Hid (L < M) := by rw [HM.out]; exact hx.1
    have hkey : (m.map (·.1)).getD L [] = x.1.1 := by rw [List.getD_eq_getElem?_getD, List.getElem?_map, hx.2]; rfl
    have htxt : (m.map (·.2)).getD L [] = x.1.2 := by rw [List.getD_eq_getElem?_getD, List.getElem?_map, hx.2]; rfl
    obtain ⟨b1, o1, ek1, cK⟩ := (HI6.out.ky.k.now.below HI.out.bel).at15 (k := L) (by rw [List.length_map]; exact hx.1)
    obtain ⟨b2, o2, vj, ek4, cV, hrj⟩ := (HI6.out.ky.v.now.below HI.out.bel).atJ (j := L) (by rw [List.length_map]; exact hx.1)
    rw [hkey] at cK; rw [htxt] at hrj; obtain ⟨av, nv, cv, hvj⟩ : ∃ a n c, vj = .slice a n c := by obtain ⟨a, c, h, _⟩ := hrj; exact ⟨a, _, c, h⟩
    subst hvj; have HBK : Hid (Blk W gk [.slice k1 M k3, .slice k4 M k6] 43) := HI6.out.bk.below HI.out.bel HI6.out.bk.lt; rw [ek1, ek4] at HBK; have hb2 := HBV.out W HI.out.bel; have c13 : W.cell? ⟨gn, 0, none⟩ = some (.int .i64 (L : Int)) := by rw [HL.out]; exact HI.out.bn.cell 0
    have c5 : W.cell? ⟨g5, 0, none⟩ = some (.int .i64 sp) := (H5.out.below hb2 H5.out.lt).cell 0
    have HSM : Hid (Calls Tryz.prog 16 #[mkS x.2, .slice av nv cv] W fun e w' => e = .returned (.bool true) ∧ w' = W) := by
     have h3 := same_any (mkS x.2) (.slice av nv cv) x.1.2 x.1.2 W HGX.out.reads hrj; rw [decide_eq_true rfl] at h3; exact h3
    have c90 : W.cell? ⟨gk, 0, none⟩ = some (.slice (some ⟨b1, o1, none⟩) M k3) := HBK.out.cell 0; have c91 : W.cell? ⟨gk, 1, none⟩ = some (.slice (some ⟨b2, o2, none⟩) M k6) := HBK.out.cell 1; have hge : ¬ ((M : Int) ≤ (L : Int)) := by have := HLM.out; omega
    have f1 : IntKind.i64.wrap ((L : Int) + 1) = (L : Int) + 1 := by rw [IntKind.wrap_i64]; have := HML.out; have := hx.1; omega
    clear hpre hsp hgx hx hkey htxt hrj hb2
    repeat (first | refine wpIn_round_list (by kernel_rfl) (by rintro ⟨_, _, h⟩; exact h) ?_ | gi_step)
    obtain ⟨tc0, tc1, tc2, tc3⟩ := sqk4
    go_wp2_with (first
     | (clear tc0; with_reducible refine wpSeq_idxS (.tmp 72) (.tmp 73) b1 o1 M k3 L HLM.out ?_ ?_ ?_ ?_ ?_
        · rfl
        · rfl
        · rfl
        · rfl)
     | (clear tc1; with_reducible refine wpSeq_sNe (strB x.1.1) (strB x.1.1) false (.tmp 70) (.tmp 75) (by simp) ?_ ?_ ?_ ?_ ?_
        · rfl
        · rfl
        · rfl
        · rfl)
     | (clear tc2; with_reducible refine wpSeq_idxT15 (.tmp 81) (.tmp 82) b2 o2 M k6 L HLM.out ?_ ?_ ?_ ?_ ?_
        · rfl
        · rfl
        · rfl
        · rfl)
     | (clear tc3; go_at_call 16; refine (HSM.out).mono ?_; rintro e7 x7 ⟨rfl, hz⟩
        subst hz))
    have d13 : x7.frozen? ⟨gn, 0, none⟩ = false := HI.out.bn.frozen 0; have HBN : Hid (Blk x7 gn [.int .i64 (L : Int)] 3) := by show Blk _ _ _ _; rw [HL.out]; exact HI.out.bn
    repeat (first | refine wpIn_round_list (by kernel_rfl) (by rintro ⟨_, _, h⟩; exact h) ?_ | gi_step)
    go_wp2; clear c5 c90 c91 cK cV; obtain ⟨x8, HX8⟩ : ∃ y, Hid (y = x7.setCell ⟨gn, 0, none⟩ (.int .i64 ((L : Int) + 1))) := ⟨_, rfl⟩; rw [← HX8.out]; have ho8 : Only gn x7 x8 := by rw [HX8.out]; exact Only.setCell (Only.refl _ _) _ _
    have hb8 : Blk x8 gn [.int .i64 ((L : Int) + 1)] 3 := by rw [HX8.out]; exact HBN.out.set 0 _
    have HI8 : Hid (GgI v0 gn (pre ++ [x]) x8 ∧ Only gn x7 x8) := ⟨⟨HI.out.bel.trans (ho8.below HGN.out HI.out.bel.size), by rw [List.length_append, ← HL.out, show ((L + [x].length : Nat) : Int) = (L : Int) + 1 from by simp]; exact hb8⟩, ho8⟩
    have c23 : x8.cell? ⟨gn, 0, none⟩ = some (.int .i64 ((L : Int) + 1)) := hb8.cell 0; have c25 : x8.cell? ⟨g5, 0, none⟩ = some (.int .i64 sp) := (H5.out.below (HBV.out x8 HI8.out.1.bel) H5.out.lt).cell 0; clear hb8 ho8 c13 HX8
    have HKO : Hid (KeepsOthers x7 x8 ∧ KpJ v0.heap.size (fun _ => False) x7 x8) := by
     have ho := HI8.out.2; refine ⟨⟨ho.size, fun k o hk hn => (ho.block k (fun e => ?_) (Array.getElem?_eq_some_iff.1 hk).1).trans hk⟩, ⟨ho.os, ho.tape, ho.output, ho.size, fun k hk _ => ho.block k (fun e => by have := HGN.out; omega) (Nat.lt_of_lt_of_le hk HI.out.bel.size)⟩⟩
     have h4 := HI.out.bn; unfold Blk at h4; rw [e, h4] at hk
     cases hk
     cases hn
    by_cases hsp : (L : Int) + 1 = sp
    · repeat (first | refine wpIn_round_list (by kernel_rfl) (by rintro ⟨_, _, h⟩; exact h) ?_ | gi_step)
      go_wp2
      repeat gi_step
      exact ⟨HKO.out.1, rfl, HI8.out.1, by rw [List.length_append, ← HL.out, ← hsp]; rfl⟩
    · repeat (first | refine wpIn_round_list (by kernel_rfl) (by rintro ⟨_, _, h⟩; exact h) ?_ | gi_step)
      go_wp2
      repeat gi_step
      exact ⟨HKO.out.1, HKO.out.2, HI8.out.1⟩
   case done =>
    rintro Dd xs W hD hxs hI hK; have hlen : xs.length = m.length := by rw [← hxs, List.length_map]
    have c13 : W.cell? ⟨gn, 0, none⟩ = some (.int .i64 (M : Int)) := by have h := hI.bn.cell 0; rw [hlen, ← HM.out] at h; exact h
    have HIW : Hid (Below v0.heap.size v0 W) := hI.bel; clear hI hxs hlen; have hb2 := HBV.out W HIW.out; have HDD : Hid (w.heap.size ≤ Dd) := Nat.le_trans (Nat.le_trans HBW.out.size HI6.out.bel.size) (Nat.le_trans HHN.out hD); have H6W : Hid (Blk W g6 [.bool false] 4) := H6.out.below hb2 H6.out.lt; have HBWW : Hid (Below w.heap.size w W) := HBW.out.trans (hb2.mono HBW.out.size); have c90 : W.cell? ⟨gk, 0, none⟩ = some (.slice k1 M k3) := (HI6.out.bk.below HIW.out HI6.out.bk.lt).cell 0; have c5 : W.cell? ⟨g5, 0, none⟩ = some (.int .i64 sp) := (H5.out.below hb2 H5.out.lt).cell 0; have HKD : Hid (W.heap[Dd]? = some (.deferred (some []))) := hK; clear hK hD hb2
    gi_wp2
    go_wp2_with (go_at_call 10; refine (HWK.out _ HBWW.out).mono ?_; rintro e9 W2 ⟨rfl, hb9⟩; have H62 : Hid (Blk W2 g6 [.bool false] 4) := (H6W.out.below hb9 H6W.out.lt); have c6 : W2.cell? ⟨g6, 0, none⟩ = some (.bool false) := (H62.out.cell 0); have d6 : W2.frozen? ⟨g6, 0, none⟩ = false := (H62.out.frozen 0); have HB2 : Hid (Below w.heap.size w W2) := (HBWW.out.trans (hb9.mono HBWW.out.size)); have HK2 : Hid (W2.heap[Dd]? = some (.deferred (some []))) := ((hb9.block Dd (Array.getElem?_eq_some_iff.1 HKD.out).1).trans HKD.out); clear hb9)
    all_goals
     have hK' := (KeepsOthers.setCell W2 ⟨g6, 0, none⟩ (.bool true)).same Dd _ HK2.out rfl; refine ⟨by simp, .inl ⟨_, _, rfl, run_takeDeferred hK', ?_⟩⟩
     have hc5 := ((H62.out.set 0 (.bool true)).put hK' rfl (o' := .deferred none)).cell 0; refine ⟨.bool true, ?_, rfl, (HB2.out.setCell (p := ⟨g6, 0, none⟩) HG6.out _).trans (belowK_b (w := w) (Nat.le_refl _) _ Dd _ _ HDD.out hK' rfl rfl)⟩; simp at hc5; simp [results, Tryz.f8, go_sem, hc5]
   case stop =>
    rintro Dd c pre W hD hsp hX hK; obtain ⟨rfl, hI, hse⟩ := hX
    have hle : pre.length ≤ m.length := by
     obtain ⟨q, hq, e⟩ := hsp; have h1 := congrArg List.length e; rw [List.length_map, List.length_take] at h1; omega
    obtain ⟨L, HL⟩ := sqn (pre.length); have c13 : W.cell? ⟨gn, 0, none⟩ = some (.int .i64 (L : Int)) := by rw [HL.out]; exact hI.bn.cell 0
    have HIW : Hid (Below v0.heap.size v0 W) := hI.bel; rw [← HL.out] at hse hle; subst hse; clear hI hsp hle
    by_cases hkm : (L : Int) = (M : Int)
    · rw [hkm] at c13 H5 ⊢
      have hb2 := HBV.out W HIW.out; have HDD : Hid (w.heap.size ≤ Dd) := Nat.le_trans (Nat.le_trans HBW.out.size HI6.out.bel.size) (Nat.le_trans HHN.out hD); have H6W : Hid (Blk W g6 [.bool false] 4) := H6.out.below hb2 H6.out.lt; have HBWW : Hid (Below w.heap.size w W) := HBW.out.trans (hb2.mono HBW.out.size); have c90 : W.cell? ⟨gk, 0, none⟩ = some (.slice k1 M k3) := (HI6.out.bk.below HIW.out HI6.out.bk.lt).cell 0; have c5 : W.cell? ⟨g5, 0, none⟩ = some (.int .i64 (M : Int)) := (H5.out.below hb2 H5.out.lt).cell 0; have HKD : Hid (W.heap[Dd]? = some (.deferred (some []))) := hK; clear hK hD hb2
      gi_wp2
      go_wp2_with (go_at_call 10; refine (HWK.out _ HBWW.out).mono ?_; rintro e9 W2 ⟨rfl, hb9⟩; have H62 : Hid (Blk W2 g6 [.bool false] 4) := (H6W.out.below hb9 H6W.out.lt); have c6 : W2.cell? ⟨g6, 0, none⟩ = some (.bool false) := (H62.out.cell 0); have d6 : W2.frozen? ⟨g6, 0, none⟩ = false := (H62.out.frozen 0); have HB2 : Hid (Below w.heap.size w W2) := (HBWW.out.trans (hb9.mono HBWW.out.size)); have HK2 : Hid (W2.heap[Dd]? = some (.deferred (some []))) := ((hb9.block Dd (Array.getElem?_eq_some_iff.1 HKD.out).1).trans HKD.out); clear hb9)
      all_goals
       have hK' := (KeepsOthers.setCell W2 ⟨g6, 0, none⟩ (.bool true)).same Dd _ HK2.out rfl; refine ⟨by simp, .inl ⟨_, _, rfl, run_takeDeferred hK', ?_⟩⟩
       have hc5 := ((H62.out.set 0 (.bool true)).put hK' rfl (o' := .deferred none)).cell 0; refine ⟨.bool true, ?_, rfl, (HB2.out.setCell (p := ⟨g6, 0, none⟩) HG6.out _).trans (belowK_b (w := w) (Nat.le_refl _) _ Dd _ _ HDD.out hK' rfl rfl)⟩; simp at hc5; simp [results, Tryz.f8, go_sem, hc5]
    · skip
      have hb2 := HBV.out W HIW.out; have HDD : Hid (w.heap.size ≤ Dd) := Nat.le_trans (Nat.le_trans HBW.out.size HI6.out.bel.size) (Nat.le_trans HHN.out hD); have H6W : Hid (Blk W g6 [.bool false] 4) := H6.out.below hb2 H6.out.lt; have HBWW : Hid (Below w.heap.size w W) := HBW.out.trans (hb2.mono HBW.out.size); have c90 : W.cell? ⟨gk, 0, none⟩ = some (.slice k1 M k3) := (HI6.out.bk.below HIW.out HI6.out.bk.lt).cell 0; have c5 : W.cell? ⟨g5, 0, none⟩ = some (.int .i64 (L : Int)) := (H5.out.below hb2 H5.out.lt).cell 0; have HKD : Hid (W.heap[Dd]? = some (.deferred (some []))) := hK; clear hK hD hb2
      gi_wp2
      go_wp2_with (go_at_call 10; refine (HWK.out _ HBWW.out).mono ?_; rintro e9 W2 ⟨rfl, hb9⟩; have H62 : Hid (Blk W2 g6 [.bool false] 4) := (H6W.out.below hb9 H6W.out.lt); have c6 : W2.cell? ⟨g6, 0, none⟩ = some (.bool false) := (H62.out.cell 0); have d6 : W2.frozen? ⟨g6, 0, none⟩ = false := (H62.out.frozen 0); have HB2 : Hid (Below w.heap.size w W2) := (HBWW.out.trans (hb9.mono HBWW.out.size)); have HK2 : Hid (W2.heap[Dd]? = some (.deferred (some []))) := ((hb9.block Dd (Array.getElem?_eq_some_iff.1 HKD.out).1).trans HKD.out); clear hb9)
      all_goals
       have hK' := (KeepsOthers.setCell W2 ⟨g6, 0, none⟩ (.bool true)).same Dd _ HK2.out rfl; refine ⟨by simp, .inl ⟨_, _, rfl, run_takeDeferred hK', ?_⟩⟩
       have hc5 := ((H62.out.set 0 (.bool true)).put hK' rfl (o' := .deferred none)).cell 0; refine ⟨.bool true, ?_, rfl, (HB2.out.setCell (p := ⟨g6, 0, none⟩) HG6.out _).trans (belowK_b (w := w) (Nat.le_refl _) _ Dd _ _ HDD.out hK' rfl rfl)⟩; simp at hc5; simp [results, Tryz.f8, go_sem, hc5]
end Go.Proofs.YtopmeedmgjdcgaaGreatDoor
namespace Go.Proofs.YtopmeedmgjdcgaaGreatDoor
open Go.ChangeShapes Go.WideShapes Go.ChangeAt Go.WideMaps Go.WideElems Go.RowKit
set_option maxRecDepth 100000
theorem own : ownKnob Tryz.prog.godebug = none := by kernel_rfl
theorem gKw : Tryz.prog.globalNamed "blazon/sha.roundWords" = some 1 := by kernel_rfl
theorem tKw : (Tryz.prog.globals[1]?).map (·.type) = some 196 := by kernel_rfl
def laidK : List (String × DataW Unit) := [("blazon/sha.roundWords", Rows.laid_blazon_sha_roundWords)]
def kzs : List Int := kw.map fun x => (x.toNat : Int)
theorem laid_tab : (Rows.laid_blazon_sha_roundWords : DataW Unit) = Lib.tabData .u32 kzs := by kernel_rfl
theorem door_met (os : Os) (args : Array Value) : laidMetH Tryz.prog laidK ((World.doorLaid Tryz.prog 400 os).forCall (fun _ _ => 0) ⟨#[], args, []⟩).memory :=
 laidMetH_of_parts3 (fuel := 8) (laidMet_of_run' 8 (by kernel_rfl) (by kernel_rfl)) (by kernel_rfl) (by kernel_rfl)
theorem getD_toNat (l : List (BitVec 32)) (j : Nat) : (l.map fun x => (x.toNat : Int)).getD j 0 = ((l.getD j 0).toNat : Int) := by
 rw [List.getD_eq_getElem?_getD, List.getD_eq_getElem?_getD, List.getElem?_map]
 cases l[j]? <;> rfl
theorem kok_of_laid {W : World} (h : laidMetH Tryz.prog laidK W) : KOk W := by
 rw [MakeChecks.laidMetH_plain _ _ _ (by kernel_rfl)] at h
 unfold laidK at h
 rw [laid_tab] at h
 have hT := Lib.tabIs_of_head gKw tKw Tryz.underlying196 Tryz.underlying181 (by kernel_rfl) (by kernel_rfl) h
 intro j hj
 rw [hT.cell gKw j (by simpa [kzs, kw] using hj), kzs, getD_toNat]
end Go.Proofs.YtopmeedmgjdcgaaGreatDoor
namespace Go.Proofs.YtopmeedmgjdcgaaGreatDoor
open Go.ChangeShapes Go.WideShapes Go.ChangeAt Go.WideMaps Go.WideElems Go.RowKit
set_option maxRecDepth 100000
theorem cells_byte : Tryz.prog.cellsOf 5 = 1 := by kernel_rfl
theorem laid_out : laidOutB Tryz.prog = true := by kernel_rfl
theorem byte_range {zs : List Int} (h : ∀ n ∈ zs, (Lit.int .u8 n).wf = true) (j : Nat) : 0 ≤ zs.getD j 0 ∧ zs.getD j 0 < 256 := by
 rw [List.getD_eq_getElem?_getD]
 cases hj : zs[j]? with
 | none => simp
 | some n =>
  have := h n (List.mem_of_getElem? hj)
  have := bounds_u8 this
  simp
  omega
end Go.Proofs.YtopmeedmgjdcgaaGreatDoor
namespace Go.Proofs.YtopmeedmgjdcgaaGreatDoor
open Go.ChangeShapes Go.WideShapes Go.ChangeAt Go.WideMaps Go.WideElems Go.RowKit
set_option maxRecDepth 100000
end Go.Proofs.YtopmeedmgjdcgaaGreatDoor
namespace Go.Proofs.YtopmeedmgjdcgaaGreatDoor
open Go.ChangeShapes Go.WideShapes Go.ChangeAt Go.WideMaps Go.WideElems Go.RowKit
set_option maxRecDepth 100000
theorem cells_bytesJ : Tryz.prog.cellsOf 23 = 1 := by kernel_rfl
theorem cells_boolJ : Tryz.prog.cellsOf 4 = 1 := by kernel_rfl
theorem cells_str15 : Tryz.prog.cellsOf 9 = 1 := by kernel_rfl
theorem cells_act15 : Tryz.prog.cellsOf 62 = 3 := by kernel_rfl
theorem bytes_byteJ : Tryz.prog.bytesOf 5 = 1 := by kernel_rfl
theorem bytes_act15 : Tryz.prog.bytesOf 62 = 48 := by kernel_rfl
theorem weightsAll_memJ {H : Type} {P : Program} {e : TypeId} {q : Nat → Bool} : ∀ (l : List (DataW H)), (DataW.weightsAll P e l).all q = true → ∀ d ∈ l, (d.weights P e).all q = true
 | [], _, _, h => by cases h
 | x :: r, hl, d, h => by
  rw [DataW.weightsAll, List.all_append, Bool.and_eq_true] at hl
  rcases List.mem_cons.1 h with rfl | h
  · exact hl.1
  · exact weightsAll_memJ r hl.2 d h
theorem reads_sizedJ {H : Type} {enc : TypeId × Value → H} {W : World} {v : Value} {d : DataW H} {p : List MemPlace} {fuel : Nat} (hf : DataW.trod enc Tryz.prog W 0 (fun _ => true) true fuel 23 [v] = some (d, p)) :
 ∃ bs, Reads W v bs ∧ (∀ N, (d.weights Tryz.prog 23).all (· ≤ N) = true → bs.length ≤ N) := by
 rcases open_ints Tryz.underlying23 Tryz.underlying5 cells_byte hf with ⟨hcs, hx⟩ | ⟨a, len, cap, zs, hcs, _, hl, hm, hz, hx, hcell, hwz⟩
 · simp only [List.cons.injEq, and_true] at hcs
   subst hcs; exact ⟨[], ⟨none, 0, rfl, Nat.le_refl _, fun _ => rfl, fun h => by cases h⟩, fun _ _ => Nat.zero_le _⟩
 · simp only [List.cons.injEq, and_true] at hcs
   subst hcs; simp only [Prod.mk.injEq] at hx; obtain ⟨rfl, rfl⟩ := hx; simp only [if_true] at hz; have hlen : ((zs.take len).map fun n => BitVec.ofInt 8 n).length = len := by simp; omega
   obtain ⟨ab, ao, spot⟩ := a; refine ⟨(zs.take len).map fun n => BitVec.ofInt 8 n, ⟨some ⟨ab, ao, spot⟩, cap, by rw [hlen], by rw [hlen]; exact hl, (fun h => by cases h), fun hp => ?_⟩, ?_⟩
   · rw [hlen] at hp ⊢
     have hspot : spot = none := by simpa [Addr.add] using World.cell?_spot (hcell 0 (by omega))
     subst hspot; refine ⟨ab, ao, rfl, fun j hj => ?_⟩
     have hcj := hcell j (by omega)
     rw [Addr.add_lit] at hcj; rw [hcj]; have hb := byte_range hwz j
     have e : ((zs.take len).map fun n => BitVec.ofInt 8 n).getD j 0 = BitVec.ofInt 8 (zs.getD j 0) := by
      rw [List.getD_eq_getElem?_getD, List.getElem?_map, List.getElem?_take_of_lt hj, List.getD_eq_getElem?_getD, List.getElem?_eq_getElem (show j < zs.length by omega)]
      rfl
     rw [e, BitVec.toNat_ofInt]
     congr 2
     omega
   · intro N hN
     rw [hlen]; rw [DataW.weights] at hN; simp only [Tryz.underlying23, bytes_byteJ, Nat.mul_one, List.all_cons, Bool.and_eq_true, decide_eq_true_eq] at hN; have h3 : (lits (H := H) .u8 (zs.take len)).length = len := by simp [lits]; omega
     have := hN.1; omega
theorem strB_of (s : ByteArray) : ∃ nm, s = strB nm := by
 refine ⟨s.data.toList.map fun b => BitVec.ofNat 8 b.toNat, ?_⟩
 have h := strB_data (s.data.toList.map fun b => BitVec.ofNat 8 b.toNat)
 have h2 : (s.data.toList.map fun b => BitVec.ofNat 8 b.toNat).map (fun b => UInt8.ofNat b.toNat) = s.data.toList := by
  rw [List.map_map]
  have : ((fun b : BitVec 8 => UInt8.ofNat b.toNat) ∘ fun b : UInt8 => BitVec.ofNat 8 b.toNat) = id := by
   funext b
   simp only [Function.comp, BitVec.toNat_ofNat, id]; have := b.toNat_lt; rw [Nat.mod_eq_of_lt (by omega)]
   simp
  rw [this, List.map_id]
 rw [h2] at h
 obtain ⟨d⟩ := s
 generalize strB _ = t at *
 obtain ⟨e⟩ := t
 simp only at h
 rw [Array.ext' h]
theorem act_sized {H : Type} {enc : TypeId × Value → H} {W : World} {l : List Value} {d : DataW H} {p : List MemPlace} {fuel : Nat} (hf : DataW.trod enc Tryz.prog W 0 (fun _ => true) true fuel 62 l = some (d, p)) :
 ∃ (a : ActT) (vd : Value), l = actC a vd ∧ Reads W vd a.data ∧ (∀ N, (d.weights Tryz.prog 62).all (· ≤ N) = true → a.key.length ≤ N ∧ a.data.length ≤ N) := by
 obtain ⟨y0, y1, y2, n, hx, hl, h0, h1, h2⟩ := Go.Deep.trod_struct3 Tryz.underlying62 hf
 rw [cells_act15] at hl
 rw [cells_str15] at h0
 rw [cells_boolJ] at h1
 rw [cells_bytesJ] at h2
 match l, hl with
 | [c0, c1, c2], _ =>
  obtain ⟨s, e0, ex0, _⟩ := DataW.trod_string Tryz.underlying9 h0
  obtain ⟨b, e1, _⟩ := DataW.trod_bool Tryz.underlying4 h1
  obtain ⟨bs, hr, hbl⟩ := reads_sizedJ (v := c2) h2
  simp at e0 e1
  subst e0 e1
  obtain ⟨nm, rfl⟩ := strB_of s
  refine ⟨⟨nm, b, bs⟩, c2, rfl, hr, fun N hN => ?_⟩
  simp only [Prod.mk.injEq] at hx
  rw [hx.1, DataW.weights] at hN
  simp only [Tryz.underlying62, List.map_cons, List.map_nil, DataW.weightsEach, List.all_append, Bool.and_eq_true] at hN
  refine ⟨?_, hbl N hN.2.2.1⟩
  have h1 := hN.1
  rw [ex0] at h1
  simp only [DataW.weights, List.all_cons, List.all_nil, Bool.and_true, decide_eq_true_eq] at h1
  have h2 : (strB nm).size = nm.length := strB_size nm
  have h3 : (strB nm).data.toList.length = (strB nm).size := by rw [Array.length_toList]; rfl
  show List.length nm ≤ N
  omega
end Go.Proofs.YtopmeedmgjdcgaaGreatDoor
namespace Go.Proofs.YtopmeedmgjdcgaaGreatDoor
open Go.ChangeShapes Go.WideShapes Go.ChangeAt Go.WideMaps Go.WideElems Go.RowKit
set_option maxRecDepth 100000
theorem cells_acts15 : Tryz.prog.cellsOf 22 = 1 := by kernel_rfl
theorem readable_actss15 : Tryz.prog.readableRec 34 = true := by kernel_rfl
theorem row_actss15 : 34 < Tryz.prog.types.size := of_decide_eq_true (by kernel_rfl)
theorem acts15_at {H : Type} {enc : TypeId × Value → H} {W : World} {v : Value} {d : DataW H} {p : List MemPlace} {fuel : Nat} (hf : DataW.trod enc Tryz.prog W 0 (fun _ => true) true fuel 22 [v] = some (d, p)) :
 ∃ l, ReadsA W v l ∧ (∀ N, (d.weights Tryz.prog 22).all (· ≤ N) = true → ∀ a ∈ l, a.key.length ≤ N ∧ a.data.length ≤ N) := by
 rcases Go.Deep.open_slice Tryz.underlying22 hf with ⟨hcs, hx⟩ | ⟨a, len, cap, m, n, D, Pl, hcs, _, hl, hm, hmm, hx, hV⟩
 · simp only [List.cons.injEq, and_true] at hcs
   subst hcs; exact ⟨[], ReadsA.nil _, (fun _ _ _ h => by cases h)⟩
 · simp only [List.cons.injEq, and_true] at hcs
   subst hcs; simp only [Prod.mk.injEq] at hx; obtain ⟨rfl, rfl⟩ := hx; simp only [if_true] at hmm; subst hmm; rw [cells_act15] at hV; have : Inhabited (ActT × Value) := ⟨(⟨[], false, []⟩, .int .i64 0)⟩
   obtain ⟨B, hB⟩ := Go.Deep.choose_lt (α := ActT × Value) (p := fun i q => W.cells? 0 (a.add (i * 3)) 3 = some (actC q.1 q.2) ∧ Reads W q.2 q.1.data ∧ (∀ N, ((D i).weights Tryz.prog 62).all (· ≤ N) = true → q.1.key.length ≤ N ∧ q.1.data.length ≤ N)) (fun i hi => by
    obtain ⟨cs', h1, h2⟩ := hV i hi; obtain ⟨o, vB, rfl, h3, h4⟩ := act_sized h2; exact ⟨(o, vB), h1, h3, h4⟩)
   have hlen : ((List.range len).map fun i => (B i).1).length = len := by simp
   obtain ⟨ab, ao, spot⟩ := a
   have cell : ∀ i, i < m → ∀ j, j < 3 → W.cell? ((⟨ab, ao, spot⟩ : Addr).add (i * 3 + j)) = (actC (B i).1 (B i).2)[j]? := by
    intro i hi j hj; obtain ⟨h1, _⟩ := hB i hi; obtain ⟨_, _, h4⟩ := World.cells?_some h1; have := h4 j hj; rw [Go.Deep.add_add] at this; exact this
   have hspot : 0 < m → spot = none := fun hp => by
    have h := cell 0 hp 0 (by omega)
    rw [show (actC (B 0).1 (B 0).2)[0]? = some (.string (strB (B 0).1.key)) from rfl] at h
    simpa [Addr.add] using World.cell?_spot h
   refine ⟨(List.range len).map fun i => (B i).1, ⟨some ⟨ab, ao, spot⟩, m, by rw [hlen], by rw [hlen]; exact hl, (fun e => by cases e), fun hp => ?_⟩, ?_⟩
   · rw [hlen] at hp ⊢
     have hs := hspot (by omega)
     subst hs; refine ⟨ab, ao, rfl, fun j hj => ?_⟩
     have e : ((List.range len).map fun i => (B i).1).getD j ⟨[], false, []⟩ = (B j).1 := by simp [hj]
     rw [e]; refine ⟨(B j).2, fun i u hu => ?_, (hB j (by omega)).2.1⟩
     have hi : i < 3 := by have h := (List.getElem?_eq_some_iff.1 hu).1; exact h
     have h0 := cell j (by omega) i hi
     rw [Addr.add_lit, hu] at h0; rw [Nat.add_assoc]; exact h0
   · intro N hN o ho
     rw [DataW.weights] at hN; simp only [Tryz.underlying22, bytes_act15, List.all_cons, List.all_append, Bool.and_eq_true, decide_eq_true_eq, List.length_map, List.length_range] at hN; obtain ⟨i, hi, rfl⟩ := List.mem_map.1 ho; have hi2 := List.mem_range.1 hi; exact (hB i (by omega)).2.2 N (weightsAll_memJ _ hN.2.1 _ (List.mem_map_of_mem hi))
theorem actss15_sized {H : Type} {enc : TypeId × Value → H} {W : World} {base : Nat} {v : Value} {d : DataW H} {p : List MemPlace} (hval : Value.okWide Tryz.prog W .any base 34 v)
 (h : DataW.Trod enc Tryz.prog W 0 (fun _ => true) true 34 v d p) :
 ∃ ls, ReadsAA W v ls ∧ (∀ N, (d.weights Tryz.prog 34).all (· ≤ N) = true → ∀ l ∈ ls, ∀ a ∈ l, a.key.length ≤ N ∧ a.data.length ≤ N) ∧ ∀ x ∈ p, x.block < W.heap.size := by
 obtain ⟨a1, len, cap, rfl⟩ := okWide_slice Tryz.underlying34 hval
 obtain ⟨fuel, hf⟩ := h
 have hp0 := DataW.trod_lt _ _ _ _ hf
 rcases Go.Deep.open_slice Tryz.underlying34 hf with ⟨hcs, hx⟩ | ⟨a, len', cap', m, n, D, Pl, hcs, _, hl, hm, hmm, hx, hV⟩
 · simp [Value.cells] at hcs
   obtain ⟨rfl, rfl, rfl⟩ := hcs; exact ⟨[], ⟨none, 0, rfl, Nat.le_refl _, fun h => absurd h (by simp)⟩, (fun _ _ _ h => by cases h), hp0⟩
 · simp [Value.cells] at hcs
   obtain ⟨rfl, rfl, rfl⟩ := hcs; simp only [Prod.mk.injEq] at hx; obtain ⟨rfl, rfl⟩ := hx; simp only [if_true] at hmm; subst hmm; rw [cells_acts15] at hV; have : Inhabited (List ActT × Value) := ⟨([], .int .i64 0)⟩
   obtain ⟨B, hB⟩ := Go.Deep.choose_lt (α := List ActT × Value) (p := fun i q => W.cells? 0 (a.add (i * 1)) 1 = some [q.2] ∧ ReadsA W q.2 q.1 ∧ (∀ N, ((D i).weights Tryz.prog 22).all (· ≤ N) = true → ∀ o ∈ q.1, o.key.length ≤ N ∧ o.data.length ≤ N)) (fun i hi => by
    obtain ⟨cs', h1, h2⟩ := hV i hi; obtain ⟨h5, h6, h7⟩ := World.cells?_some h1
    match cs', h6 with
    | [vB], _ =>
     obtain ⟨o, h3, h4⟩ := acts15_at h2; exact ⟨(o, vB), h1, h3, h4⟩)
   have hlen : ((List.range len).map fun i => (B i).1).length = len := by simp
   obtain ⟨ab, ao, spot⟩ := a
   have cell : ∀ i, i < m → W.cell? ((⟨ab, ao, spot⟩ : Addr).add i) = some (B i).2 := by
    intro i hi; obtain ⟨h1, _⟩ := hB i hi; obtain ⟨_, _, h4⟩ := World.cells?_some h1; have := h4 0 (by omega)
    rw [Go.Deep.add_add, Nat.add_zero, Nat.mul_one] at this; exact this
   have hspot : 0 < m → spot = none := fun hp => by
    have h := cell 0 hp
    simpa [Addr.add] using World.cell?_spot h
   refine ⟨(List.range len).map fun i => (B i).1, ⟨some ⟨ab, ao, spot⟩, m, by rw [hlen], by rw [hlen]; exact hl, fun hp => ?_⟩, ?_, hp0⟩
   · rw [hlen] at hp ⊢
     have hs := hspot (by omega)
     subst hs; refine ⟨ab, ao, rfl, fun j hj => ?_⟩
     have e : ((List.range len).map fun i => (B i).1).getD j [] = (B j).1 := by simp [hj]
     rw [e]; have h0 := cell j (by omega)
     rw [Addr.add_lit] at h0; exact ⟨(B j).2, h0, (hB j (by omega)).2.1⟩
   · intro N hN l ho
     rw [DataW.weights] at hN; simp only [Tryz.underlying34, List.all_cons, List.all_append, Bool.and_eq_true, List.length_map, List.length_range] at hN; obtain ⟨i, hi, rfl⟩ := List.mem_map.1 ho; have hi2 := List.mem_range.1 hi; exact (hB i (by omega)).2.2 N (weightsAll_memJ _ hN.2.1 _ (List.mem_map_of_mem hi))
end Go.Proofs.YtopmeedmgjdcgaaGreatDoor

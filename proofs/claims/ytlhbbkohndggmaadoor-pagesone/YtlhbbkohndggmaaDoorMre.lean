/- Texts that the proof leans on, one behind the other: The walk of pages.appendPages (layer 17). A region that draws its order, in a round of a loop over a function: no other than anywhere. The walks of pages.leavesOf and Save (layer 17). .. -/
import Derived.Test.YtlhbbkohndggmaaDoorMrd
import Derived.Deep.RegionHeld
import Derived.RangeFuncNested
import Derived.RangeFuncFrom
import Derived.OrdersIn
import Derived.TacticsIn
import Derived.Test.YtlhbbkohndggmaaDoorMrc
import Derived.Test.YtlhbbkohndggmaaDoorRows
import Derived.Test.YtlhbbkohndggmaaDoorMra
import Derived.ProofKit
import Derived.LaidMore
import Derived.OpenShut
import Derived.Stop.Joined
import Derived.Lib.LaidTab
import Derived.Carry
import Derived.ChangeSlices
import Derived.Test.YtlhbbkohndggmaaDoorMrb
import Derived.Deep.Slices
import Derived.BigQuiet
/- The walk of pages.appendPages (layer 17). -/
namespace Go.Proofs.YtlhbbkohndggmaaDoor
open Go.RowKit
set_option maxRecDepth 100000
theorem OwnX.ne_blk {w : World} {base g : Nat} {v : Value} {us cs : List Value} {t : TypeId} (h : OwnX w base v us) (hb : Blk w g cs t) (ht : t ≠ 37) : v.ownBlock ≠ some g := by
  obtain ⟨_, h2⟩ := h
  intro hk
  rcases h2 with ⟨rfl, _⟩ | ⟨g2, cap, cur, rfl, hg, hh, _⟩
  · simp [Value.ownBlock] at hk
  · simp only [Value.ownBlock, Option.some.injEq] at hk
    subst hk
    unfold Blk at hb
    rw [hh] at hb
    simp only [Option.some.injEq, Obj.cells.injEq] at hb
    exact ht hb.2.1.symm
theorem PgS.fresh {W W' : World} {base : Nat} {v : Value} {us : List Value} {ps : List By} {X Y : Nat → Prop} (h : PgS W base v us ps X) (hb : Below W.heap.size W W') (hY : ∀ k, Y k → X k ∨ W.heap.size ≤ k) : PgS W' base v us ps Y :=
  (h.weak (Y := Y) fun k hk hy => (hY k hy).resolve_right (by omega)).next hb
theorem PgS.only {W W' : World} {base g : Nat} {v : Value} {us : List Value} {ps : List By} {X : Nat → Prop} (h : PgS W base v us ps X) (hg : X g) (hv : v.ownBlock ≠ some g) (ho : Only g W W') : PgS W' base v us ps X :=
  ⟨h.own.same fun k hk => ho.block k (fun e => hv (e ▸ hk)) (h.own.lt k hk).2, h.len, fun j u hj => ⟨(h.good j u hj).1.sameP fun k hk => ho.block k (fun e => ((h.good j u hj).2 k hk).2.2 (e ▸ hg)) ((h.good j u hj).2 k hk).1, fun k hk => ⟨Nat.lt_of_lt_of_le ((h.good j u hj).2 k hk).1 ho.size, ((h.good j u hj).2 k hk).2⟩⟩⟩
theorem GrV.then_new {w w1 w2 : World} {v v1 : Value} {g : Nat} (h : GrV w v w1 v1) (ho : Only g w1 w2) (hg : w.heap.size ≤ g) : GrV w v w2 v1 :=
  ⟨h.mt.trans (fun k hk (e : k = g) => by omega) (ho.mut (P := fun k => k = g) rfl), h.lies⟩
theorem GrV.side {w w1 w2 : World} {va va1 va2 vb : Value} (h : GrV w va w1 va1) (m : Mut (fun k => vb.ownBlock = some k ∨ va1.ownBlock = some k) w1 w2) (hb : ∀ k, vb.ownBlock = some k → w.heap.size ≤ k) (hl : ∀ k, va2.ownBlock = some k → va1.ownBlock = some k ∨ w1.heap.size ≤ k) : GrV w va w2 va2 :=
  ⟨h.mt.trans (fun k hk e => e.elim (fun e => by have := hb k e; omega) fun e => (h.lies k e).resolve_right (by omega)) m, fun k hk => (hl k hk).elim (h.lies k) fun e => Or.inr (Nat.le_trans h.mt.size e)⟩
theorem GrV.one {w w1 w2 : World} {va va1 va2 : Value} (h : GrV w va w1 va1) (k : GrV w1 va1 w2 va2) : GrV w va w2 va2 := h.trans k
/-- a place in a row of slices that is the call's own -/
theorem wpSeq_idxX0 {ops : Array Oper} {Q : Exit → Act → World → Prop} {rest : List Oper} {o : Oper} {a : Act} {w : World} (x y : Operand) (b n c k : Nat) (hk : k < n) (ho : o.op = .indexAddr 29 x y) (hx : a.eval x = .slice (some ⟨b, 0, none⟩) n c) (hy : a.eval y = .int .i64 (k : Int)) (hw : Region.wanted o (yielded ops a.tmps) = true)
    (h : wpList Tryd.prog ops Q rest (a.put o.dst (.pointer (some ⟨b, k, none⟩))) w) : wpList Tryd.prog ops Q (o :: rest) a w :=
  wpSeq_idxX x y b 0 n c k hk ho hx hy hw (by rw [Nat.zero_add]; exact h)
theorem pgPiece_new (base : Nat) (vl : Value) (l : List Lf) (d : Nat) (W : World) (hd : d ≤ 256) (hF : Fits l d) (hR : RdLb base W vl l) (hb : base ≤ W.heap.size) (hl : l.length < 100000) :
    Calls Tryd.prog 47 #[.slice none 0 0, vl, .int .i64 (d : Int)] W fun e w' => ∃ a n c r, e = .returned (.slice a n c) ∧ OwnB w' base (.slice a n c) r ∧ r.length = n ∧ Below W.heap.size W w' ∧ (∀ k, (Value.slice a n c).ownBlock = some k → W.heap.size ≤ k) ∧ PieceR [] (wholeL d l) r := by
  refine (pgPiece_any (256 - d) d (by omega) base vl l _ [] W hF hR (OwnB.nil _ _) hb hl (by decide)).mono ?_
  rintro e w' ⟨v, r, rfl, ho, hg, hp⟩
  obtain ⟨a, c, hv⟩ := ho.formP
  subst hv
  exact ⟨a, r.length, c, r, rfl, ho, rfl, hg.mt.below (Nat.le_refl _) (fun k e => by cases e), fun k e => (hg.lies k e).resolve_left (fun e => by cases e), hp⟩
def PsRes (base : Nat) (va : Value) (ps : List By) (l : List Lf) (d : Nat) (X : Nat → Prop) (w : World) (e : Ending) (w' : World) : Prop := ∃ va' us', e = .returned (.tuple #[.agg (cb (dig (topPg d l))).toArray, va']) ∧ PgS w' base va' us' (ps ++ saveL d l) X ∧ GrV w va w' va'
set_option maxHeartbeats 8000000 in
theorem pgPages_one (base : Nat) (av : Option Addr) (nv cv : Nat) (vl : Value) (us : List Value) (ps : List By) (l : List Lf) (X : Nat → Prop) (d : Nat) (w : World) (hd : d ≤ 256) (hK : KOk w) (hKB : 1 < base) (hF : Fits l d) (hR : RdLb base w vl l) (hP : PgS w base (.slice av nv cv) us ps X) (hb : base ≤ w.heap.size) (hX : ∀ k, X k → k < w.heap.size) (hll : l.length < 100000) (hps : ps.length + (saveL d l).length < 100000) (hnv : nv = ps.length) (hW : (wholeL d l).length ≤ 512) :
    Calls Tryd.prog 23 #[.slice av nv cv, vl, .int .i64 (d : Int)] w (PsRes base (.slice av nv cv) ps l d X w) := by
  obtain ⟨dg, HDG⟩ : ∃ x, Hid (x = dig (topPg d l)) := ⟨_, rfl⟩
  have HDL : Hid (dg.length = 32) := by show _ = _; rw [HDG.out]; exact len_dig' _
  have HK : Hid (KOk w) := hK
  have HKB : Hid (1 < base) := hKB
  have HF : Hid (Fits l d) := hF
  have HR : Hid (RdLb base w vl l) := hR
  have HP0 : Hid (PgS w base (.slice av nv cv) us ps X) := hP
  have HB : Hid (base ≤ w.heap.size) := hb
  have HX : Hid (∀ k, X k → k < w.heap.size) := hX
  have HLL : Hid (l.length < 100000) := hll
  have HPS : Hid (ps.length + (saveL d l).length < 100000) := hps
  have HNV : Hid (nv = ps.length ∧ us.length = ps.length ∧ us.length < 1000000) := ⟨hnv, hP.len, by rw [hP.len]; omega⟩
  have HT : Hid (topPg d l = wholeL d l ∧ saveL d l = [topPg d l]) := ⟨top_one hW, by rw [save_one hW, top_one hW]⟩
  have HW : Hid ((wholeL d l).length ≤ 512) := hW
  clear hK hKB hF hR hP hb hX hll hps hW hnv
  go_enter Tryd.func23, Tryd.ntmps23
  have tk0 : Hid True := trivial
  have tk1 : Hid True := trivial
  have tk2 : Hid True := trivial
  have tk3 : Hid True := trivial
  have tk4 : Hid True := trivial
  have tk5 : Hid True := trivial
  go_wp2_with (first
    | (clear tk0; with_reducible refine wpSeq_allocD ?_ ?_ ?_
       · rfl
       · rfl
       intro g6 w1 nn
       have hb : Below w.heap.size w w1 := nn.below
       have HG6 : Hid (w.heap.size ≤ g6) := nn.ge
       have HN6 : Hid (Blk w1 g6 (cb zb32) 28) := nn.blk
       replace HK : Hid (KOk w1) := HK.out.below hb HK.out.lt
       replace HR : Hid (RdLb base w1 vl l) := HR.out.next hb
       have HP : Hid (PgS w1 base (.slice av nv cv) us ps (fun k => X k ∨ k = g6)) := HP0.out.fresh hb fun k hk => hk.imp_right fun e => by rw [e]; exact nn.ge
       have HBW : Hid (Below w.heap.size w w1) := hb
       replace HB : Hid (base ≤ w1.heap.size) := Nat.le_trans HB.out hb.size
       clear nn hb)
    | (clear tk1; go_at_call 47; refine (pgPiece_new base vl l d _ hd HF.out HR.out HB.out HLL.out).mono ?_; rintro e w2 ⟨a1, n1, c1, r, rfl, ho, hn, hb, hlies, hp⟩
       have hr : r = topPg d l := by rw [HT.out.1]; exact hp.1 (by simpa using HW.out)
       subst hr
       have HU : Hid (∀ k, (Value.slice a1 n1 c1).ownBlock = some k → k < w2.heap.size ∧ (Value.slice av nv cv).ownBlock ≠ some k ∧ ¬ (X k ∨ k = g6)) := fun k hk => ⟨(ho.ltP k hk).2, fun e => (HP.out.next hb).own.ne_bytes ho k e hk, fun e => by
         have h1 := hlies k hk
         have h2 := HN6.out.lt
         have h3 := HBW.out.size
         rcases e with e | e
         · have := HX.out k e; omega
         · omega⟩
       have hle : (n1 : Int) ≤ 512 := by have := HW.out; rw [← HT.out.1, hn] at this; omega
       have HLT : Hid ((topPg d l).length ≤ 512) := by have := HW.out; rw [← HT.out.1] at this; exact this
       replace HK : Hid (KOk w2) := HK.out.below hb HK.out.lt
       replace HR : Hid (RdLb base w2 vl l) := HR.out.next hb
       replace HP : Hid (PgS w2 base (.slice av nv cv) us ps (fun k => X k ∨ k = g6)) := HP.out.next hb
       replace HN6 : Hid (Blk w2 g6 (cb zb32) 28) := HN6.out.below hb HN6.out.lt
       replace HBW : Hid (Below w.heap.size w w2) := HBW.out.trans (hb.mono HBW.out.size)
       replace HB : Hid (base ≤ w2.heap.size) := Nat.le_trans HB.out hb.size
       have HRD : Hid (Reads w2 (.slice a1 n1 c1) (topPg d l)) := ho.reads
       clear ho hn hb hlies hp)
    | (clear tk2; go_at_call 48; refine (tOf_any (.slice a1 n1 c1) (topPg d l) _ HK.out HRD.out (Nat.lt_of_le_of_lt HLT.out (by decide))).mono ?_; rintro e w3 ⟨rfl, hb⟩
       rw [← HDG.out]
       replace HU : Hid (∀ k, (Value.slice a1 n1 c1).ownBlock = some k → k < w3.heap.size ∧ (Value.slice av nv cv).ownBlock ≠ some k ∧ ¬ (X k ∨ k = g6)) := fun k hk => ⟨Nat.lt_of_lt_of_le (HU.out k hk).1 hb.size, (HU.out k hk).2⟩
       replace HK : Hid (KOk w3) := HK.out.below hb HK.out.lt
       replace HR : Hid (RdLb base w3 vl l) := HR.out.next hb
       replace HP : Hid (PgS w3 base (.slice av nv cv) us ps (fun k => X k ∨ k = g6)) := HP.out.next hb
       replace HN6 : Hid (Blk w3 g6 (cb zb32) 28) := HN6.out.below hb HN6.out.lt
       replace HBW : Hid (Below w.heap.size w w3) := HBW.out.trans (hb.mono HBW.out.size)
       replace HB : Hid (base ≤ w3.heap.size) := Nat.le_trans HB.out hb.size
       replace HRD : Hid (Reads w3 (.slice a1 n1 c1) (topPg d l)) := HRD.out.below hb
       clear hb)
    | (clear tk3; with_reducible refine wpSeq_buildX (.tmp 21) a1 n1 c1 ?_ ?_ ?_ ?_
       · rfl
       · rfl
       · rfl
       intro g4 w4 hy hge hb
       replace HU : Hid (∀ k, (Value.slice a1 n1 c1).ownBlock = some k → k < w4.heap.size ∧ (Value.slice av nv cv).ownBlock ≠ some k ∧ ¬ (X k ∨ k = g6)) := fun k hk => ⟨Nat.lt_of_lt_of_le (HU.out k hk).1 hb.size, (HU.out k hk).2⟩
       have HY : Hid (Blk w4 g4 [.slice a1 n1 c1] 37) := hy
       have H1C : Hid ((Value.slice a1 n1 c1).oneCell' = true) := rfl
       replace HK : Hid (KOk w4) := HK.out.below hb HK.out.lt
       replace HR : Hid (RdLb base w4 vl l) := HR.out.next hb
       replace HP : Hid (PgS w4 base (.slice av nv cv) us ps (fun k => X k ∨ k = g6)) := HP.out.next hb
       replace HN6 : Hid (Blk w4 g6 (cb zb32) 28) := HN6.out.below hb HN6.out.lt
       replace HBW : Hid (Below w.heap.size w w4) := HBW.out.trans (hb.mono HBW.out.size)
       replace HB : Hid (base ≤ w4.heap.size) := Nat.le_trans HB.out hb.size
       replace HRD : Hid (Reads w4 (.slice a1 n1 c1) (topPg d l)) := HRD.out.below hb
       clear hy hge hb)
    | (clear tk4; with_reducible refine wpSeq_appX (.tmp 20) (.tmp 22) base (.slice av nv cv) (.slice a1 n1 c1) us g4 HP.out.own HY.out H1C.out HNV.out.2.2 HB.out ?_ ?_ ?_ ?_ ?_
       · rfl
       · rfl
       · rfl
       · rfl
       intro v5 w5 ho hg
       have HP5 : Hid (PgS w5 base v5 (us ++ [.slice a1 n1 c1]) (ps ++ [topPg d l]) (fun k => X k ∨ k = g6)) := HP.out.more ho hg HRD.out HU.out
       replace HN6 : Hid (Blk w5 g6 (cb zb32) 28) := hg.mt.blk HN6.out fun e => HP.out.own.ne_blk HN6.out (by decide) e
       have HG : Hid (GrV w (.slice av nv cv) w5 v5) := (GrV.of_below HBW.out _).trans hg
       clear ho hg)
    | (clear tk5; with_reducible refine wpSeq_storeD (.tmp 6) (.tmp 19) g6 zb32 dg zb32_len HDL.out HN6.out ?_ ?_ ?_ ?_ ?_
       · rfl
       · rfl
       · rfl
       · rfl
       intro w6 h9
       have HN7 : Hid (Blk w6 g6 (cb dg) 28) := h9.blk
       have HO6 : Hid (Only g6 w5 w6) := h9.only
       clear h9))
  refine bodyPost_ret (results_row_tmp (by rfl) _ _ _ g6 28 (cb dg) _ v5 rfl rfl HN7.out Tryd.underlying28 rfl (by rw [cb_len, HDL.out]; exact info_digest)) rfl ?_
  refine ⟨v5, us ++ [.slice a1 n1 c1], by rw [← HDG.out], ?_, HG.out.then_new HO6.out HG6.out⟩
  rw [HT.out.2]
  exact ((HP5.out.only (Or.inr rfl) (HP5.out.own.ne_blk HN6.out (by decide)) HO6.out).weak fun k _ h => Or.inl h)
theorem set_place (ps q : List By) (p : By) : (ps ++ [[]] ++ q).set ps.length p = ps ++ p :: q := by
  rw [List.append_assoc, List.set_append_right (h := Nat.le_refl _), Nat.sub_self]; rfl
set_option maxHeartbeats 16000000 in
theorem pgPages_more (base : Nat) (av : Option Addr) (nv cv : Nat) (vl : Value) (us : List Value) (ps : List By) (l : List Lf) (X : Nat → Prop) (d : Nat) (w : World) (hd : d ≤ 256) (hK : KOk w) (hKB : 1 < base) (hF : Fits l d) (hR : RdLb base w vl l) (hP : PgS w base (.slice av nv cv) us ps X) (hb : base ≤ w.heap.size) (hX : ∀ k, X k → k < w.heap.size) (hll : l.length < 100000) (hps : ps.length + (saveL d l).length < 100000) (hnv : nv = ps.length) (IH : SdDoes (d + 1)) (hW : 512 < (wholeL d l).length) :
    Calls Tryd.prog 23 #[.slice av nv cv, vl, .int .i64 (d : Int)] w (PsRes base (.slice av nv cv) ps l d X w) := by
  have h2 := long_two hF hW
  obtain ⟨dg, HDG⟩ : ∃ x, Hid (x = dig (topPg d l)) := ⟨_, rfl⟩
  have HDL : Hid (dg.length = 32) := by show _ = _; rw [HDG.out]; exact len_dig' _
  have HK : Hid (KOk w) := hK
  have HKB : Hid (1 < base) := hKB
  have HF : Hid (Fits l d) := hF
  have HR : Hid (RdLb base w vl l) := hR
  have HP0 : Hid (PgS w base (.slice av nv cv) us ps X) := hP
  have HB : Hid (base ≤ w.heap.size) := hb
  have HX : Hid (∀ k, X k → k < w.heap.size) := hX
  have HLL : Hid (l.length < 100000) := hll
  have HPS : Hid (ps.length + (saveL d l).length < 100000) := hps
  have HNV : Hid (nv = ps.length ∧ us.length = ps.length ∧ us.length < 1000000) := ⟨hnv, hP.len, by rw [hP.len]; omega⟩
  have HIH : Hid (SdDoes (d + 1)) := IH
  have HD : Hid (2 ≤ l.length ∧ d < 256) := h2
  have HW : Hid (512 < (wholeL d l).length) := hW
  obtain ⟨d1, HD1⟩ : ∃ x, Hid (x = d + 1) := ⟨_, rfl⟩
  have rd : IntKind.i64.wrap ((d : Int) + 1) = (d1 : Int) := by rw [IntKind.wrap_i64, HD1.out]; omega
  have HT : Hid (topPg d l = 2 :: (sidePg d1 (halfL l d false) ++ sidePg d1 (halfL l d true)) ∧ saveL d l = topPg d l :: (restPg d1 (halfL l d false) ++ restPg d1 (halfL l d true))) := by
    rw [HD1.out]; exact ⟨top_more h2.2 hW, by rw [save_more h2.2 hW, top_more h2.2 hW]⟩
  have HN : Hid (ps.length + 1 + (restPg d1 (halfL l d false)).length + (restPg d1 (halfL l d true)).length < 100000) := by
    have := hps; rw [HT.out.2, List.length_cons, List.length_append] at this; show _ < _; omega
  rw [← HD1.out] at HIH
  clear hK hKB hF hR hP hb hX hll hps hW hnv IH h2
  go_enter Tryd.func23, Tryd.ntmps23
  have tk0 : Hid True := trivial
  have tk1 : Hid True := trivial
  have tk2 : Hid True := trivial
  have tk3 : Hid True := trivial
  have tk4 : Hid True := trivial
  have tk5 : Hid True := trivial
  have tk6 : Hid True := trivial
  have tk7 : Hid True := trivial
  have tk8 : Hid True := trivial
  have tk9 : Hid True := trivial
  have tk10 : Hid True := trivial
  have tk11 : Hid True := trivial
  go_wp2_with (first
    | (clear tk0; with_reducible refine wpSeq_allocD ?_ ?_ ?_
       · rfl
       · rfl
       intro g6 w1 nn
       have hb : Below w.heap.size w w1 := nn.below
       have HG6 : Hid (w.heap.size ≤ g6) := nn.ge
       have HN6 : Hid (Blk w1 g6 (cb zb32) 28) := nn.blk
       replace HK : Hid (KOk w1) := HK.out.below hb HK.out.lt
       replace HR : Hid (RdLb base w1 vl l) := HR.out.next hb
       have HP : Hid (PgS w1 base (.slice av nv cv) us ps (fun k => X k ∨ k = g6)) := HP0.out.fresh hb fun k hk => hk.imp_right fun e => by rw [e]; exact nn.ge
       have HBW : Hid (Below w.heap.size w w1) := hb
       replace HB : Hid (base ≤ w1.heap.size) := Nat.le_trans HB.out hb.size
       clear nn hb)
    | (clear tk1; go_at_call 47; refine (pgPiece_new base vl l d _ hd HF.out HR.out HB.out HLL.out).mono ?_; rintro e w2 ⟨a1, n1, c1, r, rfl, ho, hn, hb, hlies, hp⟩
       have hle : ¬ (n1 : Int) ≤ 512 := by have := hp.2.1 (by simpa using HW.out); omega
       replace HK : Hid (KOk w2) := HK.out.below hb HK.out.lt
       replace HR : Hid (RdLb base w2 vl l) := HR.out.next hb
       replace HP : Hid (PgS w2 base (.slice av nv cv) us ps (fun k => X k ∨ k = g6)) := HP.out.next hb
       replace HN6 : Hid (Blk w2 g6 (cb zb32) 28) := HN6.out.below hb HN6.out.lt
       replace HBW : Hid (Below w.heap.size w w2) := HBW.out.trans (hb.mono HBW.out.size)
       replace HB : Hid (base ≤ w2.heap.size) := Nat.le_trans HB.out hb.size
       clear ho hn hb hlies hp)
    | (clear tk2; with_reducible refine wpSeq_buildX (.const (.slice none 0 0)) none 0 0 ?_ ?_ ?_ ?_
       · rfl
       · rfl
       · rfl
       intro g4 w4 hy hge hb
       have HY : Hid (Blk w4 g4 [.slice none 0 0] 37) := hy
       have H1C : Hid ((Value.slice none 0 0).oneCell' = true) := rfl
       replace HK : Hid (KOk w4) := HK.out.below hb HK.out.lt
       replace HR : Hid (RdLb base w4 vl l) := HR.out.next hb
       replace HP : Hid (PgS w4 base (.slice av nv cv) us ps (fun k => X k ∨ k = g6)) := HP.out.next hb
       replace HN6 : Hid (Blk w4 g6 (cb zb32) 28) := HN6.out.below hb HN6.out.lt
       replace HBW : Hid (Below w.heap.size w w4) := HBW.out.trans (hb.mono HBW.out.size)
       replace HB : Hid (base ≤ w4.heap.size) := Nat.le_trans HB.out hb.size
       clear hy hge hb)
    | (clear tk3; with_reducible refine wpSeq_appX (.tmp 26) (.tmp 27) base (.slice av nv cv) (.slice none 0 0) us g4 HP.out.own HY.out H1C.out HNV.out.2.2 HB.out ?_ ?_ ?_ ?_ ?_
       · rfl
       · rfl
       · rfl
       · rfl
       intro v5 w5 ho hg
       have HP5 : Hid (PgS w5 base v5 (us ++ [.slice none 0 0]) (ps ++ [[]]) (fun k => X k ∨ k = g6)) := HP.out.more ho hg (Reads.nilP _) (fun k e => by cases e)
       replace HN6 : Hid (Blk w5 g6 (cb zb32) 28) := hg.mt.blk HN6.out fun e => HP.out.own.ne_blk HN6.out (by decide) e
       have HG : Hid (GrV w (.slice av nv cv) w5 v5) := (GrV.of_below HBW.out _).trans hg
       have hbb : Below base _ w5 := hg.below HB.out fun k hk => (HP.out.own.lt k hk).1
       replace HK : Hid (KOk w5) := HK.out.below hbb HKB.out
       replace HR : Hid (RdLb base w5 vl l) := HR.out.go hbb
       replace HB : Hid (base ≤ w5.heap.size) := Nat.le_trans HB.out hg.mt.size
       clear ho hg hbb)
    | (clear tk4; go_at_call 49; refine (pgPart_any base vl l d _ HR.out HF.out HD.out.2 (Nat.lt_of_lt_of_le (by decide) HD.out.1) HLL.out).mono ?_; rintro e w7 ⟨q0, q1, rfl, hr0, hr1, hb⟩
       have HR0 : Hid (RdLb base w7 q0 (halfL l d false)) := hr0
       have HR1 : Hid (RdLb base w7 q1 (halfL l d true)) := hr1
       replace HP5 : Hid (PgS w7 base v5 (us ++ [.slice none 0 0]) (ps ++ [[]]) (fun k => X k ∨ k = g6)) := HP5.out.next hb
       replace HK : Hid (KOk w7) := HK.out.below hb HK.out.lt
       replace HN6 : Hid (Blk w7 g6 (cb zb32) 28) := HN6.out.below hb HN6.out.lt
       replace HG : Hid (GrV w (.slice av nv cv) w7 v5) := HG.out.trans (GrV.of_below hb _)
       replace HB : Hid (base ≤ w7.heap.size) := Nat.le_trans HB.out hb.size
       clear hr0 hr1 hb)
    | (clear tk5; with_reducible refine wpSeq_buildY 2 (.const (.int .u8 2)) ?_ ?_ ?_ ?_
       · rfl
       · rfl
       · rfl
       intro g8 w8 hy hge hb
       have HO8 : Hid (OwnB w8 base (.slice (some ⟨g8, 0, none⟩) 1 1) [2]) := blk_own_y hy (Nat.le_trans HB.out hge)
       have HP8 : Hid (PgS w8 base v5 (us ++ [.slice none 0 0]) (ps ++ [[]]) (fun k => (X k ∨ k = g6) ∨ (Value.slice (some ⟨g8, 0, none⟩) 1 1).ownBlock = some k)) := HP5.out.fresh hb fun k hk => hk.imp_right fun e => by cases e; exact hge
       have HB8 : Hid (∀ k, (Value.slice (some ⟨g8, 0, none⟩) 1 1).ownBlock = some k → w.heap.size ≤ k) := fun k e => by cases e; exact Nat.le_trans HG.out.mt.size hge
       replace HR0 : Hid (RdLb base w8 q0 (halfL l d false)) := HR0.out.next hb
       replace HR1 : Hid (RdLb base w8 q1 (halfL l d true)) := HR1.out.next hb
       replace HK : Hid (KOk w8) := HK.out.below hb HK.out.lt
       replace HN6 : Hid (Blk w8 g6 (cb zb32) 28) := HN6.out.below hb HN6.out.lt
       replace HG : Hid (GrV w (.slice av nv cv) w8 v5) := HG.out.trans (GrV.of_below hb _)
       replace HB : Hid (base ≤ w8.heap.size) := Nat.le_trans HB.out hb.size
       have HX8 : Hid (∀ k, (X k ∨ k = g6) → k < w8.heap.size) := fun k hk => hk.elim (fun e => Nat.lt_of_lt_of_le (HX.out k e) HG.out.mt.size) fun e => by rw [e]; exact HN6.out.lt
       clear hy hge hb)
    | (clear tk6; go_at_call 50; refine (HIH.out base (.slice (some ⟨g8, 0, none⟩) 1 1) v5 q0 (us ++ [.slice none 0 0]) [2] (ps ++ [[]]) (halfL l d false) (fun k => X k ∨ k = g6) _ HK.out HKB.out (by rw [HD1.out]; exact HF.out.half _) HR0.out HO8.out HP8.out HB.out HX8.out (Nat.lt_of_le_of_lt (half_le _ _ _) HLL.out) (by have := HN.out; simp only [List.length_append, List.length_cons, List.length_nil]; omega) (by decide)).mono ?_; rintro e w9 ⟨vb9, va9, us9, rfl, ho, hp, hm, hl1, hl2⟩
       have HO9 : Hid (OwnB w9 base vb9 ([2] ++ sidePg d1 (halfL l d false))) := ho
       have HP9 : Hid (PgS w9 base va9 us9 ((ps ++ [[]]) ++ restPg d1 (halfL l d false)) (fun k => (X k ∨ k = g6) ∨ vb9.ownBlock = some k)) := hp
       have hbb : Below base _ w9 := mut_base hm HB.out HO8.out HP8.out.own
       replace HK : Hid (KOk w9) := HK.out.below hbb HKB.out
       replace HR1 : Hid (RdLb base w9 q1 (halfL l d true)) := HR1.out.go hbb
       replace HN6 : Hid (Blk w9 g6 (cb zb32) 28) := hm.blk HN6.out fun e => e.elim (fun e => HO8.out.ne_blk HN6.out (by decide) e) fun e => HP8.out.own.ne_blk HN6.out (by decide) e
       have HB9 : Hid (∀ k, vb9.ownBlock = some k → w.heap.size ≤ k) := fun k e => (hl1 k e).elim (HB8.out k) fun e => Nat.le_trans HG.out.mt.size e
       have HX9 : Hid (∀ k, (X k ∨ k = g6) → k < w9.heap.size) := fun k hk => Nat.lt_of_lt_of_le (HX8.out k hk) hm.size
       replace HG : Hid (GrV w (.slice av nv cv) w9 va9) := HG.out.side hm HB8.out hl2
       replace HB : Hid (base ≤ w9.heap.size) := Nat.le_trans HB.out hm.size
       clear ho hp hm hl1 hl2 hbb)
    | (clear tk7; go_at_call 50; refine (HIH.out base vb9 va9 q1 us9 ([2] ++ sidePg d1 (halfL l d false)) (ps ++ [[]] ++ restPg d1 (halfL l d false)) (halfL l d true) (fun k => X k ∨ k = g6) _ HK.out HKB.out (by rw [HD1.out]; exact HF.out.half _) HR1.out HO9.out HP9.out HB.out HX9.out (Nat.lt_of_le_of_lt (half_le _ _ _) HLL.out) (by have := HN.out; simp only [List.length_append, List.length_cons, List.length_nil]; omega) (by rw [List.length_append]; have := (side_len (d := d1) (HF.out.half false).1).2; simp only [List.length_cons, List.length_nil]; omega)).mono ?_; rintro e w10 ⟨vb10, va10, us10, rfl, ho, hp, hm, hl1, hl2⟩
       have HO10 : Hid (OwnB w10 base vb10 (([2] ++ sidePg d1 (halfL l d false)) ++ sidePg d1 (halfL l d true))) := ho
       have HP10 : Hid (PgS w10 base va10 us10 ((ps ++ [[]] ++ restPg d1 (halfL l d false)) ++ restPg d1 (halfL l d true)) (fun k => (X k ∨ k = g6) ∨ vb10.ownBlock = some k)) := hp
       have hbb : Below base _ w10 := mut_base hm HB.out HO9.out HP9.out.own
       replace HK : Hid (KOk w10) := HK.out.below hbb HKB.out
       replace HN6 : Hid (Blk w10 g6 (cb zb32) 28) := hm.blk HN6.out fun e => e.elim (fun e => HO9.out.ne_blk HN6.out (by decide) e) fun e => HP9.out.own.ne_blk HN6.out (by decide) e
       have HB10 : Hid (∀ k, vb10.ownBlock = some k → w.heap.size ≤ k) := fun k e => (hl1 k e).elim (HB9.out k) fun e => Nat.le_trans HG.out.mt.size e
       have HX10 : Hid (∀ k, (X k ∨ k = g6) → k < w10.heap.size) := fun k hk => Nat.lt_of_lt_of_le (HX9.out k hk) hm.size
       replace HG : Hid (GrV w (.slice av nv cv) w10 va10) := HG.out.side hm HB9.out hl2
       replace HB : Hid (base ≤ w10.heap.size) := Nat.le_trans HB.out hm.size
       clear ho hp hm hl1 hl2 hbb
       have hpl : ps.length < us10.length := by rw [HP10.out.len]; simp only [List.length_append, List.length_cons, List.length_nil]; omega
       obtain ⟨ga, ca, hva, hq1, hq2⟩ := HP10.out.own.at (j := ps.length) (u := us10[ps.length]) (List.getElem?_eq_getElem hpl)
       clear hq1 hq2
       obtain ⟨na, HNA⟩ : ∃ x, Hid (x = us10.length) := ⟨_, rfl⟩
       rw [← HNA.out] at hva
       obtain ⟨ab, cbv, hvb⟩ := HO10.out.formP
       obtain ⟨nb, HNB⟩ : ∃ x : Nat, Hid (x = (([2] : By) ++ sidePg d1 (halfL l d false) ++ sidePg d1 (halfL l d true)).length) := ⟨_, rfl⟩
       rw [← HNB.out] at hvb
       subst hva
       subst hvb
       have HNK : Hid (nv < na ∧ nv < us10.length) := by rw [HNA.out, HNV.out.1]; exact ⟨hpl, hpl⟩
       clear hpl)
    | (clear tk8; with_reducible refine wpSeq_idxX0 (.tmp 53) (.tmp 54) ga na ca nv HNK.out.1 ?_ ?_ ?_ ?_ ?_
       · rfl
       · rfl
       · rfl
       · rfl
       have HI : Hid True := trivial)
    | (clear tk9; with_reducible refine wpSeq_storeX (.tmp 56) (.tmp 55) base ga na ca nv us10 ab nb cbv HP10.out.own HNK.out.2 ?_ ?_ ?_ ?_ ?_
       · rfl
       · rfl
       · rfl
       · rfl
       intro w11 ho hg
       have hne : ga ≠ g6 := fun e => HP10.out.own.ne_blk HN6.out (by decide) (by rw [← e]; rfl)
       have HTE : Hid ([2] ++ sidePg d1 (halfL l d false) ++ sidePg d1 (halfL l d true) = topPg d l) := by show _ = _; rw [HT.out.1]; simp
       have hrd : Reads w10 (.slice ab nb cbv) (topPg d l) := by rw [← HTE.out]; exact HO10.out.reads
       have hne2 : ∀ k, (Value.slice ab nb cbv).ownBlock = some k → ga ≠ k := fun k hk e => HP10.out.own.ne_bytes HO10.out k (by rw [e]; rfl) hk
       have hapt : ∀ k, (Value.slice ab nb cbv).ownBlock = some k → k < w10.heap.size ∧ ga ≠ k ∧ ¬ (X k ∨ k = g6) := fun k hk => ⟨(HO10.out.ltP k hk).2, hne2 k hk, fun e => by
         rcases e with e | e
         · have h1 := HX.out k e; have h2 := HB10.out k hk; omega
         · subst e; exact HO10.out.ne_blk HN6.out (by decide) hk⟩
       have HP11 : Hid (PgS w11 base (.slice (some ⟨ga, 0, none⟩) na ca) (us10.set nv (.slice ab nb cbv)) ((ps ++ [[]] ++ restPg d1 (halfL l d false) ++ restPg d1 (halfL l d true)).set nv (topPg d l)) (fun k => X k ∨ k = g6)) := (HP10.out.weak fun k _ h => Or.inl h).put HNK.out.2 ho hg hrd hapt
       have hgl : base ≤ ga ∧ ga < w10.heap.size := HP10.out.own.lt ga rfl
       have hbb : Below base w10 w11 := hg.below hgl.1 HB.out
       replace HK : Hid (KOk w11) := HK.out.below hbb HKB.out
       replace HN6 : Hid (Blk w11 g6 (cb zb32) 28) := HN6.out.only hg (Ne.symm hne)
       have HRD : Hid (Reads w11 (.slice ab nb cbv) (topPg d l)) := hrd.sameP fun k hk => hg.block k (fun e => hne2 k hk e.symm) (HO10.out.ltP k hk).2
       replace HG : Hid (GrV w (.slice av nv cv) w11 (.slice (some ⟨ga, 0, none⟩) na ca)) := HG.out.trans ⟨hg.mut (P := fun k => (Value.slice (some ⟨ga, 0, none⟩) na ca).ownBlock = some k) rfl, fun k e => Or.inl e⟩
       replace HB : Hid (base ≤ w11.heap.size) := Nat.le_trans HB.out hg.size
       have HTL : Hid ((topPg d l).length < 2305843009213693952) := by
         show _ < _
         rw [HT.out.1, List.length_cons, List.length_append]
         have h1 := (side_len (d := d1) (HF.out.half false).1).2
         have h2 := (side_len (d := d1) (HF.out.half true).1).2
         omega
       clear ho hg hne hrd hne2 hapt hgl hbb)
    | (clear tk10; go_at_call 48; refine (tOf_any (.slice ab nb cbv) (topPg d l) _ HK.out HRD.out HTL.out).mono ?_; rintro e w12 ⟨rfl, hb⟩
       rw [← HDG.out]
       replace HP11 : Hid (PgS w12 base (.slice (some ⟨ga, 0, none⟩) na ca) (us10.set nv (.slice ab nb cbv)) ((ps ++ [[]] ++ restPg d1 (halfL l d false) ++ restPg d1 (halfL l d true)).set nv (topPg d l)) (fun k => X k ∨ k = g6)) := HP11.out.next hb
       replace HK : Hid (KOk w12) := HK.out.below hb HK.out.lt
       replace HN6 : Hid (Blk w12 g6 (cb zb32) 28) := HN6.out.below hb HN6.out.lt
       replace HG : Hid (GrV w (.slice av nv cv) w12 (.slice (some ⟨ga, 0, none⟩) na ca)) := HG.out.trans (GrV.of_below hb _)
       replace HB : Hid (base ≤ w12.heap.size) := Nat.le_trans HB.out hb.size
       clear hb)
    | (clear tk11; with_reducible refine wpSeq_storeD (.tmp 6) (.tmp 58) g6 zb32 dg zb32_len HDL.out HN6.out ?_ ?_ ?_ ?_ ?_
       · rfl
       · rfl
       · rfl
       · rfl
       intro w13 h9
       have HN7 : Hid (Blk w13 g6 (cb dg) 28) := h9.blk
       have HO13 : Hid (Only g6 w12 w13) := h9.only
       clear h9))
  refine bodyPost_ret (results_row_tmp (by rfl) _ _ _ g6 28 (cb dg) _ (.slice (some ⟨ga, 0, none⟩) na ca) rfl rfl HN7.out Tryd.underlying28 rfl (by rw [cb_len, HDL.out]; exact info_digest)) rfl ?_
  refine ⟨_, us10.set nv (.slice ab nb cbv), by rw [← HDG.out], ?_, HG.out.then_new HO13.out HG6.out⟩
  have hp := (HP11.out.only (Or.inr rfl) (HP11.out.own.ne_blk HN6.out (by decide)) HO13.out).weak (Y := X) fun k _ h => Or.inl h
  rw [HNV.out.1, List.append_assoc (ps ++ [[]]), set_place] at hp
  rw [HT.out.2, HNV.out.1]
  exact hp
theorem pgPages_any : ∀ (f d : Nat), 256 = d + f → PsDoes d
  | f, d, hf => fun base va vl us ps l X w hK hKB hF hR hP hb hX hll hps => by
    obtain ⟨av, cv, hva⟩ := hP.own.form
    subst hva
    rcases Nat.lt_or_ge 512 (wholeL d l).length with hW | hW
    · have h2 := long_two hF hW
      match f with
      | 0 => omega
      | f + 1 => exact pgPages_more base av us.length cv vl us ps l X d w (by omega) hK hKB hF hR hP hb hX hll hps hP.len (pgSide_any (d + 1) (by omega) (pgPages_any f (d + 1) (by omega))) hW
    · exact pgPages_one base av us.length cv vl us ps l X d w (by omega) hK hKB hF hR hP hb hX hll hps hP.len hW
end Go.Proofs.YtlhbbkohndggmaaDoor
/- A region that draws its order, in a round of a loop over a function: no other than anywhere. -/
namespace Go.Proofs.YtlhbbkohndggmaaDoor
open Go.RowKit
set_option maxRecDepth 100000
theorem upon_round {P : Program} {o : Oper} {a : Act} {K : Act → World → Prop} {Q : Exit → Act → World → Prop} {l n : Nat} : ∀ {r : Result Next}, o.upon P a K Q r → o.uponIn (Fence.wide.inRound l) n P a K Q r
  | .ok (.value _) _, h => h
  | .ok .skip _, h => h
  | .ok (.defer _) _, h => h
  | .ok (.enter _ _) _, h => ⟨fun hx => (nomatch hx), CallsIn.inRound l (callsIn_wide.2 h)⟩
  | .ok (.row _ _) _, h => ⟨fun hx => (nomatch hx), fun c cs _ => by
      obtain ⟨v, wq, r, s⟩ := h c cs
      exact ⟨v, wq, r, stepsIn_wide.2 s⟩⟩
  | .halt (.panic _) _, h => h
/-- no operation is put off -/
def noDefer (ops : Array Oper) : Bool := ops.toList.all fun o => match o.op with | .defer _ => false | _ => true
theorem noDefer_at {ops : Array Oper} (h : noDefer ops = true) {i : Nat} {o : Oper} (hi : ops[i]? = some o) (c : _) : o.op ≠ .defer c := by
  intro he
  have h1 := List.all_eq_true.1 h o (by rw [Array.mem_toList_iff]; exact Array.mem_of_getElem? hi)
  rw [he] at h1
  cases h1
theorem wpList_round {P : Program} {ops : Array Oper} {Q : Exit → Act → World → Prop} {m n : Nat} (hQ : ¬ LetsOut Q) : ∀ (l : List Oper) (_ : noDefer l.toArray = true) (a : Act) (w : World), wpList P ops Q l a w → wpListIn (Fence.wide.inRound m) n P ops Q l a w
  | [], _, _, _, h => h
  | o :: rest, hnd, a, w, h => by
    have ho : ∀ c, o.op ≠ .defer c := fun c => noDefer_at hnd (i := 0) rfl c
    have hr : noDefer rest.toArray = true := by
      unfold noDefer at hnd ⊢
      simp only [List.all_cons, Bool.and_eq_true] at hnd
      exact hnd.2
    unfold wpList at h
    unfold wpListIn
    by_cases hw : Region.wanted o (yielded ops a.tmps) = true
    · rw [if_pos hw] at h ⊢
      rcases h with h | h
      · refine Oper.wpIn_mono (fun a w h => wpList_round hQ rest hr a w h) ⟨fun _ _ => trivial, ?_⟩
        rw [Oper.semAt_eq _ _ _ ho]
        exact upon_round h
      · exact absurd h.2 hQ
    · rw [if_neg hw] at h ⊢
      exact ⟨fun _ _ => trivial, wpList_round hQ rest hr _ w h⟩
/-- a region that does not draw, in a round -/
theorem wpIn_round_list {P : Program} {l : List Oper} {Q : Exit → Act → World → Prop} {m n id : Nat} {a : Act} {w : World} (hnd : noDefer l.toArray = true) (hQ : ¬ LetsOut Q) (h : wpList P l.toArray Q l a w) : (Code.region id l.toArray false).wpIn (Fence.wide.inRound m) n P Q a w :=
  wpIn_region_lit (wpList_round hQ l hnd a w h)
end Go.Proofs.YtlhbbkohndggmaaDoor
/- The walks of pages.leavesOf and Save (layer 17). -/
namespace Go.Proofs.YtlhbbkohndggmaaDoor
open Go.RowKit
set_option maxRecDepth 100000
theorem built_lf (f : Operand → Value) (o : Oper) (x y : Operand) (ho : o.op = .build 93 #[(0, x), (1, y)]) (ix vl : By) (hl : ix.length = 32) (hl2 : vl.length = 32) (hx : f x = .agg (cb ix).toArray) (hy : f y = .agg (cb vl).toArray) (w : World) : (execOp f o).run Tryd.prog w = .ok (.value (.agg (lfC (ix, vl)).toArray)) w := by
  unfold execOp
  rw [ho]
  simp only [List.map_toArray, List.map_cons, List.map_nil, hx, hy]
  match ix, hl, vl, hl2 with
  | [x0, x1, x2, x3, x4, x5, x6, x7, x8, x9, x10, x11, x12, x13, x14, x15, x16, x17, x18, x19, x20, x21, x22, x23, x24, x25, x26, x27, x28, x29, x30, x31], _, [y0, y1, y2, y3, y4, y5, y6, y7, y8, y9, y10, y11, y12, y13, y14, y15, y16, y17, y18, y19, y20, y21, y22, y23, y24, y25, y26, y27, y28, y29, y30, y31], _ =>
    refine id ?_
    show _ = _
    kernel_rfl
theorem lfC_one (p : Lf) : ∀ v ∈ lfC p, v.oneCell' = true := fun v hv => by
  unfold lfC at hv
  rcases List.mem_append.1 hv with h | h
  · exact cb_one _ v h
  · exact cb_one _ v h
theorem build_lf1 (f : Operand → Value) (o : Oper) (x : Operand) (ho : o.op = .buildSlice 56 1 #[(0, x)]) (ix vl : By) (hl : ix.length = 32) (hl2 : vl.length = 32) (hx : f x = .agg (lfC (ix, vl)).toArray) (w : World) :
    (execOp f o).run Tryd.prog w = .ok (.value (.slice (some ⟨w.heap.size, 0, none⟩) 1 1)) (w.alloc (.cells (lfC (ix, vl)).toArray 93)) := by
  unfold execOp
  rw [ho]
  simp only [List.map_toArray, List.map_cons, List.map_nil, hx]
  match ix, hl, vl, hl2 with
  | [x0, x1, x2, x3, x4, x5, x6, x7, x8, x9, x10, x11, x12, x13, x14, x15, x16, x17, x18, x19, x20, x21, x22, x23, x24, x25, x26, x27, x28, x29, x30, x31], _, [y0, y1, y2, y3, y4, y5, y6, y7, y8, y9, y10, y11, y12, y13, y14, y15, y16, y17, y18, y19, y20, y21, y22, y23, y24, y25, y26, y27, y28, y29, y30, y31], _ =>
    refine id ?_
    show _ = _
    kernel_rfl
theorem wpSeq_buildLf {ops : Array Oper} {Q : Exit → Act → World → Prop} {rest : List Oper} {o : Oper} {a : Act} {w : World} (x y : Operand) (ix vl : By) (hl : ix.length = 32) (hl2 : vl.length = 32) (ho : o.op = .build 93 #[(0, x), (1, y)]) (hx : a.eval x = .agg (cb ix).toArray) (hy : a.eval y = .agg (cb vl).toArray) (hw : Region.wanted o (yielded ops a.tmps) = true)
    (h : wpList Tryd.prog ops Q rest (a.put o.dst (.agg (lfC (ix, vl)).toArray)) w) : wpList Tryd.prog ops Q (o :: rest) a w := wpSeq_val _ _ hw (built_lf _ o x y ho ix vl hl hl2 hx hy w) h
theorem wpSeq_buildLf1 {ops : Array Oper} {Q : Exit → Act → World → Prop} {rest : List Oper} {o : Oper} {a : Act} {w : World} (x : Operand) (ix vl : By) (hl : ix.length = 32) (hl2 : vl.length = 32) (ho : o.op = .buildSlice 56 1 #[(0, x)]) (hx : a.eval x = .agg (lfC (ix, vl)).toArray) (hw : Region.wanted o (yielded ops a.tmps) = true)
    (h : ∀ g w', Blk w' g (lfC (ix, vl)) 93 → Below w.heap.size w w' → wpList Tryd.prog ops Q rest (a.put o.dst (.slice (some ⟨g, 0, none⟩) 1 1)) w') : wpList Tryd.prog ops Q (o :: rest) a w :=
  wpSeq_val _ _ hw (build_lf1 _ o x ho ix vl hl hl2 hx w) (h _ _ (Blk.new w _ _) (below_alloc w _))
theorem wpSeq_appLf {ops : Array Oper} {Q : Exit → Act → World → Prop} {rest : List Oper} {o : Oper} {a : Act} {w : World} (s x : Operand) (base : Nat) (v : Value) (l : List Lf) (p : Lf) (g : Nat)
    (hown : OwnLv w base v l) (hu : Blk w g (lfC p) 93) (hp : p.1.length = 32 ∧ p.2.length = 32) (hlen : l.length < 1000000) (hbase : base ≤ w.heap.size)
    (ho : o.op = .call { callee := .builtin .append, args := #[s, x], argTypes := #[56, 56] }) (hs : a.eval s = v) (hx : a.eval x = .slice (some ⟨g, 0, none⟩) 1 1) (hgd : o.guard = none)
    (h : ∀ v' w', OwnLv w' base v' (l ++ [p]) → GrV w v w' v' → wpList Tryd.prog ops Q rest (a.put o.dst v') w') : wpList Tryd.prog ops Q (o :: rest) a w := by
  obtain ⟨i0, hi, hz0, hz1, hz2⟩ := info_parts Tryd.infoLf
  refine wpList_append_own_at (P := Tryd.prog) w hgd s x 56 ho base 93 i0 (.agg (cb zb32 ++ cb zb32).toArray) 64 64 Tryd.underlying56 hi hz0 hz1 hz2 (by show (cb zb32 ++ cb zb32).toArray.size = 64; rw [List.size_toArray, List.length_append, cb_len]; rfl) (by decide) v l.length (flatLf l) hs hown.1 ⟨g, 0, none⟩ 1 1 (lfC p) hx (by rw [lfC_len hp]) (fun j q hj => by rw [Addr.add_mid, Nat.zero_add, hu.cell]; exact hj) (lfC_one p) (by unfold maxLen; omega) (by omega) hbase ?_
  intro v' w' h2 h3 _ h5
  refine h v' w' ⟨by rw [flatLf_snoc, List.length_append]; exact h2, fun q hq => ?_⟩ ⟨mut_grown h3, fun k hk => ?_⟩
  · rcases List.mem_append.1 hq with hq | hq
    · exact hown.2 q hq
    · rw [List.mem_singleton.1 hq]; exact hp
  · rcases h5 with h5 | h5
    · exact Or.inl (h5 ▸ hk)
    · rw [h5] at hk; cases hk; exact Or.inr (Nat.le_refl _)
theorem wpSeq_cellL {ops : Array Oper} {Q : Exit → Act → World → Prop} {rest : List Oper} {o : Oper} {a : Act} {w : World} (x y : Operand) (g : Nat) (v u : Value) (hb : Blk w g [v] 56) (hv : ∃ ad n c, u = .slice ad n c) (ho : o.op = .store 56 x y) (hx : a.eval x = .pointer (some ⟨g, 0, none⟩)) (hy : a.eval y = u) (hw : Region.wanted o (yielded ops a.tmps) = true)
    (h : ∀ w', Blk w' g [u] 56 → Only g w w' → wpList Tryd.prog ops Q rest (a.put o.dst undef) w') : wpList Tryd.prog ops Q (o :: rest) a w := by
  obtain ⟨ad, n, c, rfl⟩ := hv
  have hc : w.cell? ⟨g, 0, none⟩ = some v := hb.cell 0
  have hf : w.frozen? ⟨g, 0, none⟩ = false := hb.frozen 0
  have he : (execOp a.eval o).run Tryd.prog w = .ok .skip (w.setCell ⟨g, 0, none⟩ (.slice ad n c)) := by
    clear h hw
    generalize a.eval = f at hx hy ⊢
    unfold execOp
    rw [ho]
    simp [go_sem, hx, hy, hc, hf]
  unfold wpList
  simp only [hw, if_true]
  left
  unfold Oper.wp
  rw [he, Oper.upon_skip]
  exact h _ (hb.set 0 _) (Only.setCell (Only.refl g w) 0 _)
theorem wpSeqIn_allocD {F : Fence} {n : Nat} {ops : Array Oper} {Q : Exit → Act → World → Prop} {rest : List Oper} {o : Oper} {a : Act} {w : World} (ho : o.op = .alloc 28) (hw : Region.wanted o (yielded ops a.tmps) = true)
    (h : ∀ g w', NewB zb32 w g w' → wpListIn F n Tryd.prog ops Q rest (a.put o.dst (.pointer (some ⟨g, 0, none⟩))) w') : wpListIn F n Tryd.prog ops Q (o :: rest) a w :=
  wpSeqIn_val _ _ hw (by rw [ho]; intro c hc; cases hc) (by simp [Oper.about, ho]) (allocDigest _ _ ho _) (h _ _ (NewB.of zb32 w))
theorem keeps_mut {P : Nat → Prop} {W W' : World} (m : Mut P W W') (hP : ∀ k, P k → ∃ ar t fz, W.heap[k]? = some (.cells ar t fz)) : KeepsOthers W W' :=
  ⟨m.size, fun k o hk ho => by
    have hk2 := (Array.getElem?_eq_some_iff.1 hk).1
    rw [m.block k hk2 fun hp => by
      obtain ⟨ar, t, fz, h⟩ := hP k hp
      rw [hk] at h
      cases h
      cases ho]
    exact hk⟩
theorem OwnLv.cells {W : World} {base : Nat} {v : Value} {l : List Lf} (h : OwnLv W base v l) : ∀ k, v.ownBlock = some k → ∃ ar t fz, W.heap[k]? = some (.cells ar t fz) := fun k hk => by
  rcases h.1 with ⟨_, ⟨rfl, _⟩ | ⟨g, cap, cur, rfl, _, hh, _⟩⟩
  · cases hk
  · cases hk; exact ⟨_, _, _, hh⟩
theorem ownsRow_lower {W : World} {base : Nat} {t : TypeId} {z n : Nat} {v : Value} {xs : List Value} (h : W.ownsRow (base + 1) t z v n xs) : W.ownsRow base t z v n xs := by
  obtain ⟨h1, h2 | ⟨g, cap, cur, e, hg, r⟩⟩ := h
  · exact ⟨h1, Or.inl h2⟩
  · exact ⟨h1, Or.inr ⟨g, cap, cur, e, Nat.le_of_succ_le hg, r⟩⟩
/-- the leaves that were met lie in the row that the box g2 holds -/
structure LoI (v0 : World) (n₀ g2 : Nat) (pre : List Lf) (W : World) : Prop where
  bel : Below n₀ v0 W
  ge : n₀ ≤ W.heap.size
  row : ∃ v, Blk W g2 [v] 56 ∧ OwnLv W (n₀ + 1) v pre
theorem OwnLv.kept {W W' : World} {base : Nat} {v : Value} {l : List Lf} {row : Option Nat} (h : OwnLv W base v l) (hg : W.grownBy W' row) (hr : ∀ r, row = some r → ∃ o : Obj, W.heap[r]? = some o ∧ o.isCells = false) : OwnLv W' base v l :=
  h.same fun k hk => hg.block k (h.lt k hk).2 fun e => by
    obtain ⟨o, h1, h2⟩ := hr k e.symm
    rcases h.1 with ⟨_, ⟨rfl, _⟩ | ⟨g, cap, cur, rfl, _, hh, _⟩⟩
    · cases hk
    · cases hk
      rw [hh] at h1
      cases h1
      cases h2
theorem LoI.own {v0 : World} {n₀ B g2 : Nat} (hB : n₀ ≤ B) : OwnFrom B (LoI v0 n₀ g2) := fun s A W' row hs hg hr => by
  obtain ⟨v, h1, h2⟩ := hs.row
  exact ⟨hs.bel.grown hg hs.ge (fun k e => Nat.le_trans hB (hr k e).1), Nat.le_trans hs.ge hg.size, v, blk_own (β := Unit) g2 (fun _ => [v]) _ () A W' row h1 hg (fun r e => (hr r e).2), h2.kept hg (fun r e => (hr r e).2)⟩
theorem LoI.next {v0 W W' : World} {n₀ g2 : Nat} {pre : List Lf} (h : LoI v0 n₀ g2 pre W) (hb : Below W.heap.size W W') : LoI v0 n₀ g2 pre W' := by
  obtain ⟨v, h1, h2⟩ := h.row
  exact ⟨h.bel.trans (hb.mono h.ge), Nat.le_trans h.ge hb.size, v, h1.below hb h1.lt, h2.next hb⟩
set_option maxHeartbeats 8000000 in
theorem pgLeavesOf_any (g : Nat) (l : List Lf) (w : World) (hT : TreeIs w 0 g l) (hl : l.length < 100000) :
    Calls Tryd.prog 24 #[.pointer (some ⟨g, 0, none⟩)] w fun e w' => ∃ v, e = .returned v ∧ OwnLv w' w.heap.size v l ∧ Below w.heap.size w w' := by
  obtain ⟨n₀, HN0⟩ : ∃ n, Hid (n = w.heap.size) := ⟨_, rfl⟩
  have HT : Hid (TreeIs w 0 g l) := hT
  have HL : Hid (l.length < 100000) := hl
  obtain ⟨w1, HW1⟩ : ∃ z, Hid (z = w.alloc (.cells [Value.slice none 0 0].toArray 56)) := ⟨_, rfl⟩
  have HI1 : Hid (LoI w n₀ n₀ [] w1 ∧ n₀ + 1 ≤ w1.heap.size) := by
    rw [HW1.out, HN0.out]
    exact ⟨⟨below_alloc _ _, by simp, .slice none 0 0, Blk.new _ _ _, OwnLv.nil _ _⟩, by simp⟩
  clear hT hl
  refine (callsIn_wide (n := 4)).1 ?_
  refine callsIn_of_wp_marks Tryd.func24 rfl trivial ?_ rfl
  simp only [Tryd.ntmps24, List.size_toArray, List.length_cons, List.length_nil, Nat.reduceAdd, Nat.reduceSub, Array.replicate_succ, Array.replicate_zero, List.push_toArray, List.append_toArray, List.nil_append, List.cons_append]
  refine wpIn_wide.2 ?_
  go_upto_region 1 with fail
  change Code.wp _ _ _ _ (w.alloc (.cells [Value.slice none 0 0].toArray 56))
  rw [← HW1.out]
  have e1 : (some ⟨w.heap.size, 0, none⟩ : Option Addr) = some ⟨n₀, 0, none⟩ := by rw [HN0.out]
  simp only [e1]
  clear e1
  go_wp2_with (go_at_call 51; refine (trAll_any _ g).mono ?_; rintro e w2 ⟨gb, rfl, hbb, hb⟩
               have HGB : Hid (Blk w2 gb [ptr g] 25) := hbb
               have HI2 : Hid (LoI w n₀ n₀ [] w2 ∧ n₀ + 1 ≤ w2.heap.size) := ⟨HI1.out.1.next hb, Nat.le_trans HI1.out.2 hb.size⟩
               clear hb hbb HI1)
  refine (wpIn_wide (n := 4)).1 ?_
  refine wpIn_rangeFunc_ownH (F := Fence.wide) (α := Lf32) rfl (by omega) (gf := 71) (lb := #[.pointer (some ⟨gb, 0, none⟩)]) rfl trivial (enters_of Tryd.func71 (by kernel_rfl) rfl)
    (all_stops 3 (v0 := w) (n₀ := n₀) HN0.out.symm HT.out w2 HI2.out.1.bel HI2.out.1.ge HGB.out) belowK_t (fun W l o o' h1 h2 h3 h4 => belowK_b (w := w2) HI2.out.1.ge W l o o' h1 h2 h3 h4) (Below.refl _ _) (fun _ => rfl)
    (fun pre W => LoI w n₀ n₀ (pre.map (·.1)) W) (fun _ _ _ => False)
    (fun s A W' row hs hg hr => LoI.own HI2.out.1.ge (s.map (·.1)) A W' row hs hg hr) (fun c s A W' row hs _ _ => hs.elim) HI2.out.1
    (fun x a' W => ∃ gx gv, a' = { tmps := #[.pointer (some ⟨g, 0, none⟩), undef, .pointer (some ⟨n₀, 0, none⟩), .pointer (some ⟨gx, 0, none⟩), .pointer (some ⟨gv, 0, none⟩), .pointer (some ⟨g, 0, none⟩), .bool false, .pointer (some ⟨g, 0, none⟩), .func (.func 71) #[] #[.pointer (some ⟨gb, 0, none⟩)], .agg (cb x.1.1).toArray, .agg (cb x.1.2).toArray, undef, undef, undef, undef, undef, undef, undef], defers := [] } ∧ Blk W gx (cb x.1.1) 28 ∧ Blk W gv (cb x.1.2) 28) ?hax ?assign ?body ?done ?stop
  case hax =>
    rintro x a' _ A W' row ⟨gx, gv, h1, h2, h3⟩ hg hr
    exact ⟨gx, gv, h1, blk_own (β := Unit) gx (fun _ => cb x.1.1) _ () A W' row h2 hg (fun r e => (hr r e).2), blk_own (β := Unit) gv (fun _ => cb x.1.2) _ () A W' row h3 hg (fun r e => (hr r e).2)⟩
  case assign =>
    intro lab pre x W K hI hK
    have HIW : Hid (LoI w n₀ n₀ (pre.map (·.1)) W) := hI
    have HKK : Aside (∀ a' W', KeepsFrom w2.heap.size W W' → Below n₀ W W' → LoI w n₀ n₀ (pre.map (·.1)) W' → (∃ gx gv, a' = { tmps := #[.pointer (some ⟨g, 0, none⟩), undef, .pointer (some ⟨n₀, 0, none⟩), .pointer (some ⟨gx, 0, none⟩), .pointer (some ⟨gv, 0, none⟩), .pointer (some ⟨g, 0, none⟩), .bool false, .pointer (some ⟨g, 0, none⟩), .func (.func 71) #[] #[.pointer (some ⟨gb, 0, none⟩)], .agg (cb x.1.1).toArray, .agg (cb x.1.2).toArray, undef, undef, undef, undef, undef, undef, undef], defers := [] } ∧ Blk W' gx (cb x.1.1) 28 ∧ Blk W' gv (cb x.1.2) 28) → K a' W') := hK
    clear hI hK
    simp only [encs32, encsL, List.zip_toArray, List.zip_cons_cons, List.zip_nil_right, List.size_toArray, List.length_cons, List.length_nil, Nat.reduceAdd, Array.foldl]
    gi_wp2_with (first
      | (with_reducible refine wpSeqIn_storeD (.tmp 3) (.tmp 9) gx zb32 x.1.1 ?_ ?_ ?_ ?_ ?_ ?_ ?_ ?_
         · rfl
         · exact x.2.1
         · exact HN1.out.blk
         · rfl
         · rfl
         · rfl
         · rfl
         intro W2 s2 _
         have HC1 : Hid (Blk W2 gx (cb x.1.1) 28) := s2.blk
         have HQ1 : Hid (Below W.heap.size W W2) := HN1.out.below.trans (s2.only.below HN1.out.ge HN1.out.below.size)
         clear s2 HN1)
      | (with_reducible refine wpSeqIn_storeD (.tmp 4) (.tmp 10) gv zb32 x.1.2 ?_ ?_ ?_ ?_ ?_ ?_ ?_ ?_
         · rfl
         · exact x.2.2
         · exact HN3.out.blk
         · rfl
         · rfl
         · rfl
         · rfl
         intro W4 s4 _
         have HC2 : Hid (Blk W4 gv (cb x.1.2) 28) := s4.blk
         have hb4 : Below W2.heap.size W2 W4 := HN3.out.below.trans (s4.only.below HN3.out.ge HN3.out.below.size)
         replace HC1 : Hid (Blk W4 gx (cb x.1.1) 28) := HC1.out.below hb4 HC1.out.lt
         replace HQ1 : Hid (Below W.heap.size W W4) := HQ1.out.trans (hb4.mono HQ1.out.size)
         clear s4 HN3 hb4)
      | (with_reducible refine wpSeqIn_allocD ?_ ?_ ?_
         · rfl
         · rfl
         intro gv W3 n3
         have HN3 : Hid (NewB zb32 W2 gv W3) := n3
         clear n3)
      | (with_reducible refine wpSeqIn_allocD ?_ ?_ ?_
         · rfl
         · rfl
         intro gx W1 n1
         have HN1 : Hid (NewB zb32 W gx W1) := n1
         clear n1))
    exact HKK.out _ W4 ((keepsOthers_of_below HQ1.out).from _) (HQ1.out.mono HIW.out.ge) (HIW.out.next HQ1.out) ⟨gx, gv, rfl, HC1.out, HC2.out⟩
  case body =>
    rintro lab pre x a' W _ _ hI ⟨gx, gv, rfl, hbx, hbv⟩ hlen
    have HI : Hid (LoI w n₀ n₀ (pre.map (·.1)) W) := hI
    have HX : Hid (Blk W gx (cb x.1.1) 28 ∧ Blk W gv (cb x.1.2) 28) := ⟨hbx, hbv⟩
    have H32 : Hid (x.1.1.length = 32 ∧ x.1.2.length = 32) := x.2
    have HLN : Hid ((pre.map (·.1)).length < 1000000) := by show _ < _; rw [List.length_map]; have := HL.out; omega
    obtain ⟨v, hbb, how⟩ := hI.row
    obtain ⟨av, cv, hv⟩ := how.form
    obtain ⟨nv, HNV⟩ : ∃ z : Nat, Hid (z = (pre.map (·.1)).length) := ⟨_, rfl⟩
    rw [← HNV.out] at hv
    subst hv
    have HBB : Hid (Blk W n₀ [.slice av nv cv] 56) := hbb
    have HOW : Hid (OwnLv W (n₀ + 1) (.slice av nv cv) (pre.map (·.1))) := how
    have HGE : Hid (n₀ + 1 ≤ W.heap.size) := Nat.succ_le_of_lt hbb.lt
    have c0 : W.cell? ⟨n₀, 0, none⟩ = some (.slice av nv cv) := hbb.cell 0
    clear hI hbx hbv hlen hbb how
    refine wpIn_block ?_
    refine wpIn_round_list (by kernel_rfl) (by rintro ⟨_, _, h⟩; exact h) ?_
    have tk1 : Hid True := trivial
    go_wp2_with (first
      | (with_reducible refine wpSeq_loadD (.tmp 3) gx x.1.1 H32.out.1 HX.out.1 ?_ ?_ ?_ ?_
         · rfl
         · rfl
         · rfl)
      | (with_reducible refine wpSeq_loadD (.tmp 4) gv x.1.2 H32.out.2 HX.out.2 ?_ ?_ ?_ ?_
         · rfl
         · rfl
         · rfl)
      | (with_reducible refine wpSeq_buildLf (.tmp 12) (.tmp 13) x.1.1 x.1.2 H32.out.1 H32.out.2 ?_ ?_ ?_ ?_ ?_
         · rfl
         · rfl
         · rfl
         · rfl)
      | (clear tk1; with_reducible refine wpSeq_buildLf1 (.tmp 14) x.1.1 x.1.2 H32.out.1 H32.out.2 ?_ ?_ ?_ ?_
         · rfl
         · rfl
         · rfl
         intro g3 W3 hu3 hb3
         have HU3 : Hid (Blk W3 g3 (lfC x.1) 93) := hu3
         have HB3 : Hid (Below W.heap.size W W3) := hb3
         have HO3 : Hid (OwnLv W3 (n₀ + 1) (.slice av nv cv) (pre.map (·.1))) := HOW.out.next hb3
         have HG3 : Hid (n₀ + 1 ≤ W3.heap.size) := Nat.le_trans HGE.out hb3.size
         clear hu3 hb3)
      | (with_reducible refine wpSeq_appLf (.tmp 11) (.tmp 15) (n₀ + 1) (.slice av nv cv) (pre.map (·.1)) x.1 g3 HO3.out HU3.out H32.out HLN.out HG3.out ?_ ?_ ?_ ?_ ?_
         · rfl
         · rfl
         · rfl
         · rfl
         intro v4 W4 ho4 hg4
         have hne : (Value.slice av nv cv).ownBlock ≠ some n₀ := fun e => by have := (HO3.out.lt n₀ e).1; omega
         have HO4 : Hid (OwnLv W4 (n₀ + 1) v4 (pre.map (·.1) ++ [x.1])) := ho4
         have HB4 : Hid (Blk W4 n₀ [.slice av nv cv] 56) := hg4.mt.blk (HBB.out.below HB3.out HBB.out.lt) hne
         have HF4 : Hid (∃ ad n c, v4 = .slice ad n c) := by obtain ⟨a, c, h⟩ := ho4.form; exact ⟨_, _, _, h⟩
         have HK4 : Hid (KeepsOthers W W4 ∧ Below n₀ W W4) := ⟨(keepsOthers_of_below HB3.out).trans (keeps_mut hg4.mt HO3.out.cells), (HB3.out.mono (Nat.le_of_succ_le HGE.out)).trans (hg4.below (Nat.le_of_succ_le HG3.out) fun k hk => Nat.le_of_succ_le (HO3.out.lt k hk).1)⟩
         clear ho4 hg4 hne)
      | (with_reducible refine wpSeq_cellL (.tmp 2) (.tmp 16) n₀ (.slice av nv cv) v4 HB4.out HF4.out ?_ ?_ ?_ ?_ ?_
         · rfl
         · rfl
         · rfl
         · rfl
         intro W5 hb5 ho5
         have HB5 : Hid (Blk W5 n₀ [v4] 56) := hb5
         have HO5 : Hid (Only n₀ W4 W5) := ho5
         clear hb5 ho5))
    have hlt := HB4.out.lt
    refine ⟨(HK4.out.1.trans (keeps_mut (HO5.out.mut (P := fun k => k = n₀) rfl) fun k e => by subst e; exact ⟨_, _, _, HB4.out⟩)).from _, HK4.out.2.trans (HO5.out.below (Nat.le_refl _) (Nat.le_of_lt hlt)), ?_⟩
    refine ⟨HI.out.bel.trans (HK4.out.2.trans (HO5.out.below (Nat.le_refl _) (Nat.le_of_lt hlt))), Nat.le_trans (Nat.le_of_lt hlt) HO5.out.size, v4, HB5.out, ?_⟩
    rw [List.map_append]
    exact HO4.out.same fun k hk => HO5.out.block k (fun e => by have := (HO4.out.lt k hk).1; omega) (HO4.out.lt k hk).2
  case done =>
    rintro D ys W hD hys hI hK
    have hI' : LoI w n₀ n₀ (ys.map (·.1)) W := hI
    rw [hys] at hI'
    obtain ⟨v, hbb, how⟩ := hI'.row
    have HD : Hid (n₀ ≤ D) := Nat.le_trans HI2.out.1.ge hD
    have HBB : Hid (Blk W n₀ [v] 56) := hbb
    have HOW : Hid (OwnLv W (n₀ + 1) v l) := how
    have HBW : Hid (Below n₀ w W) := hI'.bel
    have HKD : Hid (W.heap[D]? = some (.deferred (some []))) := hK
    have HF : Hid (∃ ad n c, v = .slice ad n c) := by obtain ⟨a, c, h⟩ := how.form; exact ⟨_, _, _, h⟩
    have c0 : W.cell? ⟨n₀, 0, none⟩ = some v := hbb.cell 0
    have HVO : Hid (v.oneCell' = true) := by obtain ⟨a, n, c, h⟩ := HF.out; show _ = _; rw [h]; rfl
    clear hI hI' hys hbb how hK hD
    obtain ⟨av, nv, cv, hv⟩ := HF.out
    subst hv
    gi_wp2
    go_wp2_with (with_reducible refine wpSeq_cellL (.tmp 2) (.tmp 17) n₀ (.slice av nv cv) (.slice av nv cv) HBB.out HF.out ?_ ?_ ?_ ?_ ?_
                 · rfl
                 · rfl
                 · rfl
                 · rfl
                 intro W2 hb2 ho2
                 have HB2 : Hid (Blk W2 n₀ [.slice av nv cv] 56) := hb2
                 have HO2 : Hid (Only n₀ W W2) := ho2
                 clear hb2 ho2)
    all_goals
      have hne : D ≠ n₀ := fun e => by have h1 := HKD.out; rw [e] at h1; have h2 := HBB.out; unfold Blk at h2; rw [h1] at h2; cases h2
      have hlt := (Array.getElem?_eq_some_iff.1 HKD.out).1
      have hK' : W2.heap[D]? = some (.deferred (some [])) := by rw [HO2.out.block D hne hlt]; exact HKD.out
      refine ⟨by simp, .inl ⟨_, _, rfl, run_takeDeferred hK', ?_⟩⟩
      have hc5 := ((HB2.out).put hK' rfl (o' := .deferred none)).cell 0
      have hbl := HBB.out.lt
      refine ⟨.slice av nv cv, ?_, _, rfl, ?_, ?_⟩
      · simp at hc5
        simp [results, Tryd.f24, go_sem, hc5]
      · have h := HOW.out.same (w' := W2) fun k hk => HO2.out.block k (fun e => by have := (HOW.out.lt k hk).1; omega) (HOW.out.lt k hk).2
        have h2 := h.kept (grownBy_putObj' W2 D (.deferred none)) (fun r e => by cases e; exact ⟨_, hK', rfl⟩)
        rw [← HN0.out]
        exact ⟨ownsRow_lower h2.1, h2.2⟩
      · rw [← HN0.out]
        exact (HBW.out.trans (HO2.out.below (Nat.le_refl _) (Nat.le_of_lt hbl))).trans (belowK_b (w := w) (n₀ := n₀) (by rw [HN0.out]; exact Nat.le_refl _) _ D _ _ (by rw [← HN0.out]; exact HD.out) hK' rfl rfl)
  case stop =>
    rintro D c pre W _ _ hX _
    exact hX.elim
theorem PgS.lower {W : World} {base B : Nat} {v : Value} {us : List Value} {ps : List By} {X : Nat → Prop} (h : PgS W base v us ps X) (hB : B ≤ base) : PgS W B v us ps X := by
  refine ⟨?_, h.len, h.good⟩
  obtain ⟨h1, h2 | ⟨g, cap, cur, e, hg, r⟩⟩ := h.own
  · exact ⟨h1, Or.inl h2⟩
  · exact ⟨h1, Or.inr ⟨g, cap, cur, e, Nat.le_trans hB hg, r⟩⟩
theorem save_few {l : List Lf} (h1 : okLf l) (h2 : Up l) (hl : l.length ≤ 100) : (saveL 0 l).length ≤ 25601 := by
  have := save_count 256 0 l rfl (fits_zero h1 h2)
  omega
set_option maxHeartbeats 4000000 in
theorem pgSave_any (g : Nat) (l : List Lf) (w : World) (hK : KOk w) (hT : TT w g l) (hl : l.length ≤ 100) :
    Calls Tryd.prog 11 #[.pointer (some ⟨g, 0, none⟩)] w fun e w' => ∃ v us, e = .returned (.tuple #[.agg (cb (dig (topPg 0 l))).toArray, v]) ∧ PgS w' w.heap.size v us (saveL 0 l) (fun _ => False) ∧ Below w.heap.size w w' := by
  obtain ⟨dg, HDG⟩ : ∃ x, Hid (x = dig (topPg 0 l)) := ⟨_, rfl⟩
  have HDL : Hid (dg.length = 32) := by show _ = _; rw [HDG.out]; exact len_dig' _
  have HT : Hid (TT w g l) := hT
  have HK : Hid (KOk w) := hK
  have HL : Hid (l.length ≤ 100) := hl
  clear hK hT hl
  go_enter Tryd.func11, Tryd.ntmps11
  go_wp2_with (first
    | (with_reducible refine wpSeq_allocD ?_ ?_ ?_
       · rfl
       · rfl
       intro g2 w1 nn
       have HN2 : Hid (Blk w1 g2 (cb zb32) 28 ∧ w.heap.size ≤ g2) := ⟨nn.blk, nn.ge⟩
       have HBW : Hid (Below w.heap.size w w1) := nn.below
       replace HK : Hid (KOk w1) := HK.out.below nn.below HK.out.lt
       replace HT : Hid (TT w1 g l) := HT.out.next nn.below
       clear nn)
    | (go_at_call 24; refine (pgLeavesOf_any g l _ HT.out.1 (Nat.lt_of_le_of_lt HL.out (by decide))).mono ?_; rintro e w2 ⟨vl, rfl, ho, hb⟩
       have HR2 : Hid (RdLb w2.heap.size w2 vl l) := ⟨ho.rd, fun k hk => (ho.lt k hk).2⟩
       have HN3 : Hid (Blk w2 g2 (cb zb32) 28 ∧ w.heap.size ≤ g2) := ⟨HN2.out.1.below hb HN2.out.1.lt, HN2.out.2⟩
       have HF : Hid (Fits l 0) := fits_zero HT.out.2.1 HT.out.2.2
       have HSC : Hid (([] : List By).length + (saveL 0 l).length < 100000) := by have := save_few HT.out.2.1 HT.out.2.2 HL.out; show _ < _; rw [List.length_nil]; omega
       replace HBW : Hid (Below w.heap.size w w2) := HBW.out.trans (hb.mono HBW.out.size)
       replace HK : Hid (KOk w2) := HK.out.below hb HK.out.lt
       clear ho hb HN2 HT)
    | (go_at_call 23; refine (pgPages_any 256 0 rfl w2.heap.size (.slice none 0 0) vl [] [] l (fun k => k = g2) w2 HK.out HK.out.lt HF.out HR2.out (PgS.nil _ _ _) (Nat.le_refl _) (fun k e => by rw [e]; exact HN3.out.1.lt) (Nat.lt_of_le_of_lt HL.out (by decide)) HSC.out).mono ?_; rintro e w3 ⟨v, us, rfl, hp, hg⟩
       rw [← HDG.out]
       have hb : Below w2.heap.size w2 w3 := hg.below (Nat.le_refl _) fun k e => by cases e
       have HP : Hid (PgS w3 w2.heap.size v us (saveL 0 l) (fun k => k = g2)) := hp
       have HN4 : Hid (Blk w3 g2 (cb zb32) 28) := HN3.out.1.below hb HN3.out.1.lt
       have HBW3 : Hid (Below w.heap.size w w3 ∧ w.heap.size ≤ w2.heap.size ∧ w.heap.size ≤ g2) := ⟨HBW.out.trans (hb.mono HBW.out.size), HBW.out.size, HN3.out.2⟩
       clear hp hg hb HK HR2 HN3 HF HSC)
    | (with_reducible refine wpSeq_storeD (.tmp 2) (.tmp 7) g2 zb32 dg zb32_len HDL.out HN4.out ?_ ?_ ?_ ?_ ?_
       · rfl
       · rfl
       · rfl
       · rfl
       intro w4 h9
       have HN5 : Hid (Blk w4 g2 (cb dg) 28 ∧ Only g2 w3 w4) := ⟨h9.blk, h9.only⟩
       clear h9))
  refine bodyPost_ret (results_row_tmp (by rfl) _ _ _ g2 28 (cb dg) _ v rfl rfl HN5.out.1 Tryd.underlying28 rfl (by rw [cb_len, HDL.out]; exact info_digest)) rfl ?_
  refine ⟨v, us, by rw [← HDG.out], ?_, HBW3.out.1.trans (HN5.out.2.below HBW3.out.2.2 HBW3.out.1.size)⟩
  exact ((HP.out.only rfl (HP.out.own.ne_blk HN4.out (by decide)) HN5.out.2).weak fun _ _ e => e.elim).lower HBW3.out.2.1
end Go.Proofs.YtlhbbkohndggmaaDoor
/- The walk of pages.Load, where the pages are a tree's (layer 17). -/
namespace Go.Proofs.YtlhbbkohndggmaaDoor
open Go.RowKit
set_option maxRecDepth 100000
theorem while_all {f : Lf → Bool} : ∀ {l : List Lf}, (∀ q ∈ l, f q = true) → l.takeWhile f = l ∧ l.dropWhile f = []
  | [], _ => ⟨rfl, rfl⟩
  | p :: r, h => by
    have ih := while_all (l := r) fun q hq => h q (List.mem_cons_of_mem _ hq)
    have hp := h p (by simp)
    rw [List.takeWhile_cons_of_pos hp, List.dropWhile_cons_of_pos hp, ih.1, ih.2]
    exact ⟨rfl, rfl⟩
/-- rising leaves put one behind the other are themselves -/
theorem ofL_self {l : List Lf} (hu : Up l) : ofL l = l := by
  have key : ∀ n, n ≤ l.length → ofL (l.take n) = l.take n := by
    intro n
    induction n with
    | zero => intro _; rfl
    | succ n ih =>
      intro hn
      have e : l.take (n + 1) = l.take n ++ [l.getD n ([], [])] := take_map (by omega)
      rw [e, ofL_snoc, ih (by omega)]
      have hlt : ∀ q ∈ l.take n, lessB q.1 (l.getD n ([], [])).1 = true := fun q hq => by
        have hu2 : Up (l.take n ++ [l.getD n ([], [])]) := by rw [← e]; exact hu.sublist (List.take_sublist _ _)
        exact (List.pairwise_append.1 hu2).2.2 q hq _ (by simp)
      unfold putL
      have hw := while_all (f := fun p : Lf => lessB p.1 (l.getD n ([], [])).1) hlt
      rw [hw.1, hw.2]
      rfl
  have := key l.length (Nat.le_refl _)
  rwa [List.take_length] at this
theorem zip_self (l : List Lf) : (l.map (·.1)).zip (l.map (·.2)) = l := by
  induction l with
  | nil => rfl
  | cons p r ih => simp only [List.map_cons, List.zip_cons_cons, ih]
theorem psM_of {w : World} {ap : Option Addr} {cp : Nat} {ps : List By} (hR : ReadsL w (.slice ap ps.length cp) ps) : PsM w w.heap.size ap ps := fun W hW i hi hp => by
  obtain ⟨ad, cap, h1, h2, h3, h4⟩ := hR
  simp only [Value.slice.injEq] at h1
  obtain ⟨rfl, _, rfl⟩ := h1
  obtain ⟨b, off, rfl, h5⟩ := h4 (by omega)
  obtain ⟨vj, h6, h7⟩ := h5 i hi
  refine ⟨b, off, vj, rfl, by rw [hW.cell (p := ⟨b, off + i, none⟩) (block_lt_of_cell h6)]; exact h6, h7.below hW, fun k hk => ?_⟩
  obtain ⟨ad2, cap2, rfl, h8, h9, h10⟩ := h7
  obtain ⟨b2, off2, rfl, h11⟩ := h10 hp
  cases hk
  exact block_lt_of_cell (h11 0 hp)
section
variable {w0 : World} {B gr gm : Nat} {ap : Option Addr} {cp : Nat} {ps : List By}
theorem top_ok (hM : PsM w0 B ap ps) (hn : ps.length < 1000000) (l : List Lf) (hF : Fits l 0) (hf : Free ps (saveL 0 l)) (hk : (saveL 0 l).length ≤ ps.length + 1) (hS : ∀ p ∈ saveL 0 l, p ∈ ps) (hl : l.length < 100000) (ix iv : Value) (W : World) (hi : RrI w0 B gr gm (.slice ap ps.length cp) ps 0 ix iv [] [] W) :
    Calls Tryd.prog 31 #[.pointer (some ⟨gr, 0, none⟩), .agg (cb (dig (topPg 0 l))).toArray, .agg (cb zb32).toArray, .int .i64 0] W fun e w' => e = .returned (.int .i64 0) ∧ ∃ k' ix' iv', RrI w0 B gr gm (.slice ap ps.length cp) ps k' ix' iv' (l.map (·.1)) (l.map (·.2)) w' ∧ RdG gr ix iv W ix' iv' w' := by
  have hst := save_top 0 l
  have hpc := top_pc 256 0 l rfl hF
  have ht := top_short (by omega) hF
  rw [hst] at hf hk hS
  rw [List.length_cons] at hk
  obtain ⟨hin, i, hpl, hil, hit⟩ := (plK_find (hf (topPg 0 l) (by simp))).resolve_right (fun h => h.1 (hS (topPg 0 l) (by simp)))
  obtain ⟨b, off, vj, hap, hrow, hrd⟩ := hM W hi.bel i hil (by rw [hit]; omega)
  rw [hit] at hrd
  obtain ⟨bj, oj, cj, hvj, _⟩ := hrd.at (by omega)
  refine pgPage_ok w0 B gr gm ap ps.length cp ps 0 ix iv [] [] (dig (topPg 0 l)) zb32 0 W hi (len_dig' _) rfl i b off vj _ hpl hil hap hrow ⟨_, _, _, hvj⟩ fun W' hW' => ?_
  refine ((piece_any hM hn hpc 0 ix iv [] [] vj [] zb32 W' (hi.next hW') (WyP.zero l) (by rw [List.append_nil]; exact hrd.nextP hW') (fun p hp => hf p (List.mem_cons_of_mem _ hp)) (by omega) (by rw [List.append_nil]; omega) (by simpa using hl) (by simpa using hl)).1 (fun p hp => hS p (List.mem_cons_of_mem _ hp))).mono (two_mono fun a b w' => ?_)
  rintro ⟨e1, e2, ix', iv', e3, e4⟩
  obtain ⟨ad, c, e5, _⟩ := e2.1
  exact ⟨e1, ⟨ad, c, e5⟩, _, ix', iv', e3, e4.from hW'⟩
end
theorem built_rd (f : Operand → Value) (o : Oper) (x y : Operand) (ap : Option Addr) (np cp gm : Nat) (ho : o.op = .build 66 #[(0, x), (1, y)]) (hx : f x = .slice ap np cp) (hy : f y = .map (some gm)) (w : World) : (execOp f o).run Tryd.prog w = .ok (.value (.agg (rdC (.slice ap np cp) gm 0 nilV nilV).toArray)) w := by
  unfold execOp
  rw [ho]
  simp only [List.map_toArray, List.map_cons, List.map_nil, hx, hy]
  kernel_rfl
theorem wpSeq_buildRd {ops : Array Oper} {Q : Exit → Act → World → Prop} {rest : List Oper} {o : Oper} {a : Act} {w : World} (x y : Operand) (ap : Option Addr) (np cp gm : Nat) (ho : o.op = .build 66 #[(0, x), (1, y)]) (hx : a.eval x = .slice ap np cp) (hy : a.eval y = .map (some gm)) (hw : Region.wanted o (yielded ops a.tmps) = true)
    (h : wpList Tryd.prog ops Q rest (a.put o.dst (.agg (rdC (.slice ap np cp) gm 0 nilV nilV).toArray)) w) : wpList Tryd.prog ops Q (o :: rest) a w := wpSeq_val _ _ hw (built_rd _ o x y ap np cp gm ho hx hy w) h
def rdZ : List Value := [.slice none 0 0, .map none, .int .i64 0, .slice none 0 0, .slice none 0 0]
theorem wpSeq_allocRd {ops : Array Oper} {Q : Exit → Act → World → Prop} {rest : List Oper} {o : Oper} {a : Act} {w : World} (ho : o.op = .alloc 66) (hw : Region.wanted o (yielded ops a.tmps) = true)
    (h : ∀ g w', Blk w' g rdZ 66 → w.heap.size ≤ g → Below w.heap.size w w' → wpList Tryd.prog ops Q rest (a.put o.dst (.pointer (some ⟨g, 0, none⟩))) w') : wpList Tryd.prog ops Q (o :: rest) a w :=
  wpSeq_val _ (w.alloc (.cells rdZ.toArray 66)) hw (by unfold execOp; rw [ho]; kernel_rfl) (h _ _ (Blk.new w _ _) (Nat.le_refl _) (below_alloc w _))
theorem wpSeq_storeRd {ops : Array Oper} {Q : Exit → Act → World → Prop} {rest : List Oper} {o : Oper} {a : Act} {w : World} (x y : Operand) (g : Nat) (ap : Option Addr) (np cp gm : Nat) (hb : Blk w g rdZ 66) (ho : o.op = .store 66 x y) (hx : a.eval x = .pointer (some ⟨g, 0, none⟩)) (hy : a.eval y = .agg (rdC (.slice ap np cp) gm 0 nilV nilV).toArray) (hgd : o.guard = none)
    (h : ∀ w', Blk w' g (rdC (.slice ap np cp) gm 0 nilV nilV) 66 → Only g w w' → wpList Tryd.prog ops Q rest (a.put o.dst undef) w') : wpList Tryd.prog ops Q (o :: rest) a w :=
  wpList_store_mid hgd 66 x y ho g 0 _ hx hy (hb.there 0 _ (by simp [rdC, rdZ])) (by kernel_rfl) (all_oneCell_toArray (by intro v hv; simp only [rdC, List.mem_cons, List.not_mem_nil, or_false] at hv; rcases hv with rfl | rfl | rfl | rfl | rfl <;> rfl))
    (by rw [List.toList_toArray]; exact h _ (hb.whole _ (by simp [rdC, rdZ])) (Only.setCells _ _ _ (Only.refl g w)))
set_option maxHeartbeats 8000000 in
theorem pgLoad_ok (l : List Lf) (pv : Value) (ps : List By) (w : World) (hK : KOk w) (h1 : okLf l) (h2 : Up l) (hl : l.length ≤ 60) (hR : ReadsL w pv ps) (hn : ps.length < 100000) (hb : ∀ p ∈ ps, p.length < 1000000) (hf : Free ps (saveL 0 l)) (hk : (saveL 0 l).length ≤ ps.length + 1) (hS : ∀ p ∈ saveL 0 l, p ∈ ps) :
    Calls Tryd.prog 17 #[.agg (cb (dig (topPg 0 l))).toArray, pv] w fun e w' => ∃ g, e = .returned (.tuple #[.pointer (some ⟨g, 0, none⟩), .int .i64 0]) ∧ TT w' g l ∧ Below w.heap.size w w' := by
  obtain ⟨x, HX⟩ : ∃ z, Hid (z = dig (topPg 0 l)) := ⟨_, rfl⟩
  have HXL : Hid (x.length = 32) := by show _ = _; rw [HX.out]; exact len_dig' _
  obtain ⟨ap, cp, hpv⟩ : ∃ ap cp, pv = .slice ap ps.length cp := by obtain ⟨ad, cap, h, _⟩ := hR; exact ⟨ad, cap, h⟩
  subst hpv
  have hM := psM_of hR
  have HRL : Hid (ReadsL w (.slice ap ps.length cp) ps) := hR
  obtain ⟨np, HNP⟩ : ∃ z, Hid (z = ps.length) := ⟨_, rfl⟩
  have HPG : Hid (∀ gr gm W, RrI w w.heap.size gr gm (.slice ap np cp) ps 0 nilV nilV [] [] W → Calls Tryd.prog 31 #[.pointer (some ⟨gr, 0, none⟩), .agg (cb x).toArray, .agg (cb zb32).toArray, .int .i64 0] W fun e w' => e = .returned (.int .i64 0) ∧ ∃ k' ix' iv', RrI w w.heap.size gr gm (.slice ap np cp) ps k' ix' iv' (l.map (·.1)) (l.map (·.2)) w' ∧ RdG gr nilV nilV W ix' iv' w') := by
    rw [HX.out, HNP.out]
    intro gr gm W hi
    exact top_ok hM (by omega) l (fits_zero h1 h2) hf hk hS (by omega) nilV nilV W hi
  rw [← HNP.out] at HRL ⊢
  rw [← HX.out]
  have HK : Hid (KOk w) := hK
  have HK0 : Hid (KOk w) := hK
  have HL : Hid (okLf l ∧ Up l ∧ l.length ≤ 60) := ⟨h1, h2, hl⟩
  have HPB : Hid (ps.length < 100000 ∧ ∀ p ∈ ps, p.length < 1000000) := ⟨hn, hb⟩
  have hq : ∀ wx : World, (Op.equalIn 10000 28 (.agg (cb x).toArray) (.agg (cb x).toArray)).run Tryd.prog wx = .ok true wx := fun wx => eq_dig_same x HXL.out wx
  clear hK h1 h2 hl hR hn hb hf hk hS hM
  go_enter Tryd.func17, Tryd.ntmps17
  have tk0 : Hid True := trivial
  have tk1 : Hid True := trivial
  have tk2 : Hid True := trivial
  have tk3 : Hid True := trivial
  have tk4 : Hid True := trivial
  have tk5 : Hid True := trivial
  have tk6 : Hid True := trivial
  have tk7 : Hid True := trivial
  have tk8 : Hid True := trivial
  have tk9 : Hid True := trivial
  have tk10 : Hid True := trivial
  have tk11 : Hid True := trivial
  have tk12 : Hid True := trivial
  have tk13 : Hid True := trivial
  go_wp2_with (first
    | (clear tk0; with_reducible refine wpSeq_boxD (.tmp 0) x ?_ ?_ ?_ ?_
       · rfl
       · rfl
       · rfl
       intro g2 w1 nn
       have HB1 : Hid (Below w.heap.size w w1) := nn.below
       have HG2 : Hid (Blk w1 g2 (cb x) 28 ∧ w.heap.size ≤ g2) := ⟨nn.blk, nn.ge⟩
       replace HK : Hid (KOk w1) := HK.out.below nn.below HK.out.lt
       replace HRL : Hid (ReadsL w1 (.slice ap np cp) ps) := HRL.out.below nn.below
       clear nn)
    | (clear tk1; go_at_call 30; refine (pgPlaces_any (.slice ap np cp) ps _ HK.out HRL.out HPB.out.1 HPB.out.2).mono ?_; rintro e w2 ⟨gm, rfl, hgm, hmp, hb⟩
       have HMP : Hid (MapP w2 gm ps.length (plK ps ps.length)) := hmp
       replace HG2 : Hid (Blk w2 g2 (cb x) 28 ∧ w.heap.size ≤ g2) := ⟨HG2.out.1.below hb HG2.out.1.lt, HG2.out.2⟩
       replace HB1 : Hid (Below w.heap.size w w2) := HB1.out.trans (hb.mono HB1.out.size)
       replace HK : Hid (KOk w2) := HK.out.below hb HK.out.lt
       clear hgm hmp hb)
    | (clear tk2; with_reducible refine wpSeq_buildRd (.tmp 11) (.tmp 13) ap np cp gm ?_ ?_ ?_ ?_ ?_
       · rfl
       · rfl
       · rfl
       · rfl
       have HQ0 : Hid True := trivial)
    | (clear tk3; with_reducible refine wpSeq_allocRd ?_ ?_ ?_
       · rfl
       · rfl
       intro gr w3 hb3 hge3 hbl3
       have HG3 : Hid (Blk w3 gr rdZ 66 ∧ w2.heap.size ≤ gr ∧ Below w2.heap.size w2 w3) := ⟨hb3, hge3, hbl3⟩
       clear hb3 hge3 hbl3)
    | (clear tk4; with_reducible refine wpSeq_storeRd (.tmp 6) (.tmp 14) gr ap np cp gm HG3.out.1 ?_ ?_ ?_ ?_ ?_
       · rfl
       · rfl
       · rfl
       · rfl
       intro w4 hb4 ho4
       have hbl : Below w2.heap.size w2 w4 := HG3.out.2.2.trans (ho4.below HG3.out.2.1 HG3.out.2.2.size)
       have HI4 : Hid (RrI w w.heap.size gr gm (.slice ap np cp) ps 0 nilV nilV [] [] w4) := ⟨HB1.out.trans (hbl.mono HB1.out.size), Nat.le_trans HB1.out.size hbl.size, hb4, Nat.le_trans HB1.out.size HG3.out.2.1, HMP.out.next hbl, OwnD.nil _ _, OwnD.nil _ _, fun j hj => by cases hj⟩
       replace HG2 : Hid (Blk w4 g2 (cb x) 28 ∧ w.heap.size ≤ g2) := ⟨HG2.out.1.below hbl HG2.out.1.lt, HG2.out.2⟩
       have HNE : Hid (g2 ≠ gr) := fun e => by have h1 := HG2.out.1; have h2 := hb4; rw [e] at h1; unfold Blk at h1 h2; rw [h1] at h2; simp only [Option.some.injEq, Obj.cells.injEq] at h2; exact absurd h2.2.1 (by decide)
       clear hb4 ho4 hbl HG3)
    | (clear tk5; with_reducible refine wpSeq_loadD (.tmp 2) g2 x HXL.out HG2.out.1 ?_ ?_ ?_ ?_
       · rfl
       · rfl
       · rfl
       have HQ1 : Hid True := trivial)
    | (clear tk6; with_reducible refine wpSeq_buildZ0 ?_ ?_ ?_
       · rfl
       · rfl
       have HQ2 : Hid True := trivial)
    | (clear tk7; go_at_call 31; refine (HPG.out gr gm _ HI4.out).mono ?_; rintro e w5 ⟨rfl, k', ix', iv', hi5, hg5⟩
       have HI5 : Hid (RrI w w.heap.size gr gm (.slice ap np cp) ps k' ix' iv' (l.map (·.1)) (l.map (·.2)) w5) := hi5
       have HG5 : Hid (Blk w5 g2 (cb x) 28 ∧ w.heap.size ≤ g2) := ⟨hg5.blk HG2.out.1 HNE.out (fun e => by cases e) (fun e => by cases e), HG2.out.2⟩
       have HK5 : Hid (KOk w5) := HK0.out.below hi5.bel HK0.out.lt
       obtain ⟨a5, c5, hix⟩ := hi5.oi.slice
       obtain ⟨b5, d5, hiv⟩ := hi5.ov.slice
       have hc3 : w5.cell? ⟨gr, 3, none⟩ = some ix' := hi5.blk.cell 3
       have hc4 : w5.cell? ⟨gr, 4, none⟩ = some iv' := hi5.blk.cell 4
       obtain ⟨n5, HN5⟩ : ∃ z : Nat, Hid (z = (l.map (·.1)).length) := ⟨_, rfl⟩
       obtain ⟨m5, HM5⟩ : ∃ z : Nat, Hid (z = (l.map (·.2)).length) := ⟨_, rfl⟩
       rw [← HN5.out] at hix
       rw [← HM5.out] at hiv
       subst hix
       subst hiv
       clear hi5 hg5)
    | (clear tk8; go_at_call 10; refine (trOf_any _ _ _ (l.map (·.1)) (l.map (·.2)) HK5.out HI5.out.oi.readsD HI5.out.ov.readsD (by rw [List.length_map]; have := HL.out.2.2; omega)).mono ?_; rintro e w6 ⟨gt, rfl, ht, hb⟩
       rw [zip_self, ofL_self HL.out.2.1] at ht
       have HT6 : Hid (TT w6 gt l) := ht
       have HB6 : Hid (Below w.heap.size w w6) := HI5.out.bel.trans (hb.mono HI5.out.ge)
       replace HK5 : Hid (KOk w6) := HK5.out.below hb HK5.out.lt
       replace HG5 : Hid (Blk w6 g2 (cb x) 28 ∧ w.heap.size ≤ g2) := ⟨HG5.out.1.below hb HG5.out.1.lt, HG5.out.2⟩
       clear ht hb HI5)
    | (clear tk9; go_at_call 11; refine (pgSave_any gt l _ HK5.out HT6.out (Nat.le_trans HL.out.2.2 (by decide))).mono ?_; rintro e w7 ⟨v7, us7, rfl, _, hb⟩
       rw [← HX.out]
       have HT7 : Hid (TT w7 gt l) := HT6.out.next hb
       have HB7 : Hid (Below w.heap.size w w7) := HB6.out.trans (hb.mono HB6.out.size)
       replace HG5 : Hid (Blk w7 g2 (cb x) 28 ∧ w.heap.size ≤ g2) := ⟨HG5.out.1.below hb HG5.out.1.lt, HG5.out.2⟩
       clear hb)
    | (clear tk10; with_reducible refine wpSeq_allocD ?_ ?_ ?_
       · rfl
       · rfl
       intro g9 w8 nn
       have HN8 : Hid (Blk w8 g9 (cb zb32) 28 ∧ w7.heap.size ≤ g9 ∧ Below w7.heap.size w7 w8) := ⟨nn.blk, nn.ge, nn.below⟩
       clear nn)
    | (clear tk11; with_reducible refine wpSeq_storeD (.tmp 9) (.tmp 29) g9 zb32 x zb32_len HXL.out HN8.out.1 ?_ ?_ ?_ ?_ ?_
       · rfl
       · rfl
       · rfl
       · rfl
       intro w9 h9
       have hb : Below w7.heap.size w7 w9 := HN8.out.2.2.trans (h9.only.below HN8.out.2.1 HN8.out.2.2.size)
       have HG9 : Hid (Blk w9 g9 (cb x) 28) := h9.blk
       replace HG5 : Hid (Blk w9 g2 (cb x) 28 ∧ w.heap.size ≤ g2) := ⟨HG5.out.1.below hb HG5.out.1.lt, HG5.out.2⟩
       have HF9 : Hid (TT w9 gt l ∧ Below w.heap.size w w9) := ⟨HT7.out.next hb, HB7.out.trans (hb.mono HB7.out.size)⟩
       clear h9 hb HN8)
    | (clear tk12; with_reducible refine wpSeq_loadD (.tmp 9) g9 x HXL.out HG9.out ?_ ?_ ?_ ?_
       · rfl
       · rfl
       · rfl
       have HQ3 : Hid True := trivial)
    | (clear tk13; with_reducible refine wpSeq_loadD (.tmp 2) g2 x HXL.out HG5.out.1 ?_ ?_ ?_ ?_
       · rfl
       · rfl
       · rfl
       have HQ4 : Hid True := trivial))
  refine bodyPost_ret (results_tmp2 rfl _ _ _) rfl ?_
  exact ⟨gt, rfl, HF9.out.1, HF9.out.2⟩
set_option maxHeartbeats 8000000 in
theorem pgLoad_fail (x : By) (pv : Value) (ps : List By) (w : World) (hK : KOk w) (hx : x.length = 32) (hR : ReadsL w pv ps) (hn : ps.length < 100000) (hb : ∀ p ∈ ps, p.length < 1000000)
    (hpg : ∀ ap cp gr gm W, pv = .slice ap ps.length cp → RrI w w.heap.size gr gm (.slice ap ps.length cp) ps 0 nilV nilV [] [] W → Calls Tryd.prog 31 #[.pointer (some ⟨gr, 0, none⟩), .agg (cb x).toArray, .agg (cb zb32).toArray, .int .i64 0] W fun e w' => e = .returned (.int .i64 7) ∧ Below w.heap.size w w') :
    Calls Tryd.prog 17 #[.agg (cb x).toArray, pv] w fun e w' => e = .returned (.tuple #[.pointer none, .int .i64 7]) ∧ Below w.heap.size w w' := by
  have HXL : Hid (x.length = 32) := hx
  obtain ⟨ap, cp, hpv⟩ : ∃ ap cp, pv = .slice ap ps.length cp := by obtain ⟨ad, cap, h, _⟩ := hR; exact ⟨ad, cap, h⟩
  subst hpv
  have HRL : Hid (ReadsL w (.slice ap ps.length cp) ps) := hR
  obtain ⟨np, HNP⟩ : ∃ z, Hid (z = ps.length) := ⟨_, rfl⟩
  have HPG : Hid (∀ gr gm W, RrI w w.heap.size gr gm (.slice ap np cp) ps 0 nilV nilV [] [] W → Calls Tryd.prog 31 #[.pointer (some ⟨gr, 0, none⟩), .agg (cb x).toArray, .agg (cb zb32).toArray, .int .i64 0] W fun e w' => e = .returned (.int .i64 7) ∧ Below w.heap.size w w') := by
    rw [HNP.out]
    exact fun gr gm W hi => hpg ap cp gr gm W rfl hi
  rw [← HNP.out] at HRL ⊢
  have HK : Hid (KOk w) := hK
  have HK0 : Hid (KOk w) := hK
  have HPB : Hid (ps.length < 100000 ∧ ∀ p ∈ ps, p.length < 1000000) := ⟨hn, hb⟩
  have hq : ∀ wx : World, (Op.equalIn 10000 28 (.agg (cb x).toArray) (.agg (cb x).toArray)).run Tryd.prog wx = .ok true wx := fun wx => eq_dig_same x HXL.out wx
  clear hK hR hn hb hpg hx
  go_enter Tryd.func17, Tryd.ntmps17
  have tk0 : Hid True := trivial
  have tk1 : Hid True := trivial
  have tk2 : Hid True := trivial
  have tk3 : Hid True := trivial
  have tk4 : Hid True := trivial
  have tk5 : Hid True := trivial
  have tk6 : Hid True := trivial
  have tk7 : Hid True := trivial
  go_wp2_with (first
    | (clear tk0; with_reducible refine wpSeq_boxD (.tmp 0) x ?_ ?_ ?_ ?_
       · rfl
       · rfl
       · rfl
       intro g2 w1 nn
       have HB1 : Hid (Below w.heap.size w w1) := nn.below
       have HG2 : Hid (Blk w1 g2 (cb x) 28 ∧ w.heap.size ≤ g2) := ⟨nn.blk, nn.ge⟩
       replace HK : Hid (KOk w1) := HK.out.below nn.below HK.out.lt
       replace HRL : Hid (ReadsL w1 (.slice ap np cp) ps) := HRL.out.below nn.below
       clear nn)
    | (clear tk1; go_at_call 30; refine (pgPlaces_any (.slice ap np cp) ps _ HK.out HRL.out HPB.out.1 HPB.out.2).mono ?_; rintro e w2 ⟨gm, rfl, hgm, hmp, hb⟩
       have HMP : Hid (MapP w2 gm ps.length (plK ps ps.length)) := hmp
       replace HG2 : Hid (Blk w2 g2 (cb x) 28 ∧ w.heap.size ≤ g2) := ⟨HG2.out.1.below hb HG2.out.1.lt, HG2.out.2⟩
       replace HB1 : Hid (Below w.heap.size w w2) := HB1.out.trans (hb.mono HB1.out.size)
       replace HK : Hid (KOk w2) := HK.out.below hb HK.out.lt
       clear hgm hmp hb)
    | (clear tk2; with_reducible refine wpSeq_buildRd (.tmp 11) (.tmp 13) ap np cp gm ?_ ?_ ?_ ?_ ?_
       · rfl
       · rfl
       · rfl
       · rfl
       have HQ0 : Hid True := trivial)
    | (clear tk3; with_reducible refine wpSeq_allocRd ?_ ?_ ?_
       · rfl
       · rfl
       intro gr w3 hb3 hge3 hbl3
       have HG3 : Hid (Blk w3 gr rdZ 66 ∧ w2.heap.size ≤ gr ∧ Below w2.heap.size w2 w3) := ⟨hb3, hge3, hbl3⟩
       clear hb3 hge3 hbl3)
    | (clear tk4; with_reducible refine wpSeq_storeRd (.tmp 6) (.tmp 14) gr ap np cp gm HG3.out.1 ?_ ?_ ?_ ?_ ?_
       · rfl
       · rfl
       · rfl
       · rfl
       intro w4 hb4 ho4
       have hbl : Below w2.heap.size w2 w4 := HG3.out.2.2.trans (ho4.below HG3.out.2.1 HG3.out.2.2.size)
       have HI4 : Hid (RrI w w.heap.size gr gm (.slice ap np cp) ps 0 nilV nilV [] [] w4) := ⟨HB1.out.trans (hbl.mono HB1.out.size), Nat.le_trans HB1.out.size hbl.size, hb4, Nat.le_trans HB1.out.size HG3.out.2.1, HMP.out.next hbl, OwnD.nil _ _, OwnD.nil _ _, fun j hj => by cases hj⟩
       replace HG2 : Hid (Blk w4 g2 (cb x) 28 ∧ w.heap.size ≤ g2) := ⟨HG2.out.1.below hbl HG2.out.1.lt, HG2.out.2⟩
       have HNE : Hid (g2 ≠ gr) := fun e => by have h1 := HG2.out.1; have h2 := hb4; rw [e] at h1; unfold Blk at h1 h2; rw [h1] at h2; simp only [Option.some.injEq, Obj.cells.injEq] at h2; exact absurd h2.2.1 (by decide)
       clear hb4 ho4 hbl HG3)
    | (clear tk5; with_reducible refine wpSeq_loadD (.tmp 2) g2 x HXL.out HG2.out.1 ?_ ?_ ?_ ?_
       · rfl
       · rfl
       · rfl
       have HQ1 : Hid True := trivial)
    | (clear tk6; with_reducible refine wpSeq_buildZ0 ?_ ?_ ?_
       · rfl
       · rfl
       have HQ2 : Hid True := trivial)
    | (clear tk7; go_at_call 31; refine (HPG.out gr gm _ HI4.out).mono ?_; rintro e w5 ⟨rfl, hb5⟩
       have HB5 : Hid (Below w.heap.size w w5) := hb5
       clear hb5))
  refine bodyPost_ret (results_tmp2 rfl _ _ _) rfl ?_
  exact ⟨rfl, HB5.out⟩
/-- of a digest that no page has -/
theorem pgLoad_none (x : By) (pv : Value) (ps : List By) (w : World) (hK : KOk w) (hx : x.length = 32) (hR : ReadsL w pv ps) (hn : ps.length < 100000) (hb : ∀ p ∈ ps, p.length < 1000000) (hp : ∀ p ∈ ps, dig p ≠ x) :
    Calls Tryd.prog 17 #[.agg (cb x).toArray, pv] w fun e w' => e = .returned (.tuple #[.pointer none, .int .i64 7]) ∧ Below w.heap.size w w' :=
  pgLoad_fail x pv ps w hK hx hR hn hb fun ap cp gr gm W _ hi => by
    have hpl : plK ps ps.length x = none := by
      cases h : plK ps ps.length x with
      | none => rfl
      | some i =>
        obtain ⟨h1, h2⟩ := plK_some h
        exact absurd h2 (hp _ (by rw [List.getD_eq_getElem?_getD, List.getElem?_eq_getElem h1]; exact List.getElem_mem h1))
    refine (pgPage_none w w.heap.size gr gm ap ps.length cp ps 0 nilV nilV [] [] x zb32 0 W hi hx hpl).mono ?_
    rintro e w' ⟨e1, e2⟩
    exact ⟨e1, hi.bel.trans (e2.mono hi.ge)⟩
end Go.Proofs.YtlhbbkohndggmaaDoor
/- Pages, plainly: the tree of the statements' works (layer 17). -/
namespace Go.Proofs.YtlhbbkohndggmaaDoor
open Go.RowKit
set_option maxRecDepth 100000
def dgt17 (b : BitVec 8) : By := b :: List.replicate 31 0
def lfW : List Lf := [(dgt17 1, dgt17 7), (dgt17 2, dgt17 8)]
theorem whole_w : (wholeL 0 lfW).length = 143 := by decide +kernel
theorem dig_w : dig (wholeL 0 lfW) ≠ zb32 := by decide +kernel
theorem head_w : (wholeL 0 lfW).head? = some 2 := by decide +kernel
end Go.Proofs.YtlhbbkohndggmaaDoor
/- The walk of the statements' works (layer 17). -/
namespace Go.Proofs.YtlhbbkohndggmaaDoor
open Go.RowKit
set_option maxRecDepth 100000
theorem reads_some {w : World} {v : Value} {l : By} (h : Reads w v l) (hp : 0 < l.length) : ∃ b off n c, v = .slice (some ⟨b, off, none⟩) n c := by
  obtain ⟨ad, c, rfl, h2, h3, h4⟩ := h
  obtain ⟨b, off, rfl, _⟩ := h4 hp
  exact ⟨b, off, _, c, rfl⟩
theorem build_dd (f : Operand → Value) (o : Oper) (x y : Operand) (ho : o.op = .buildSlice 22 2 #[(0, x), (1, y)]) (p q : By) (hp : p.length = 32) (hq : q.length = 32) (hx : f x = .agg (cb p).toArray) (hy : f y = .agg (cb q).toArray) (w : World) :
    (execOp f o).run Tryd.prog w = .ok (.value (.slice (some ⟨w.heap.size, 0, none⟩) 2 2)) (w.alloc (.cells (cb p ++ cb q).toArray 28)) := by
  unfold execOp
  rw [ho]
  simp only [List.map_toArray, List.map_cons, List.map_nil, hx, hy]
  match p, hp, q, hq with
  | [x0, x1, x2, x3, x4, x5, x6, x7, x8, x9, x10, x11, x12, x13, x14, x15, x16, x17, x18, x19, x20, x21, x22, x23, x24, x25, x26, x27, x28, x29, x30, x31], _, [y0, y1, y2, y3, y4, y5, y6, y7, y8, y9, y10, y11, y12, y13, y14, y15, y16, y17, y18, y19, y20, y21, y22, y23, y24, y25, y26, y27, y28, y29, y30, y31], _ =>
    refine id ?_
    show _ = _
    kernel_rfl
theorem readsD_two {w : World} {g : Nat} {p q : By} (hp : p.length = 32) (hq : q.length = 32) (h : Blk w g (cb p ++ cb q) 28) : ReadsD w (.slice (some ⟨g, 0, none⟩) 2 2) [p, q] :=
  ⟨⟨_, 2, rfl, Nat.le_refl _, (fun e => by cases e), fun _ => ⟨g, 0, rfl, fun j hj => by
    have hr := h.range
    match j, hj with
    | 0, _ => exact range_left hr
    | 1, _ => have := range_right hr (n := 32) (by rw [cb_len, hp]); exact this⟩⟩, fun d hd => by
    simp only [List.mem_cons, List.not_mem_nil, or_false] at hd
    rcases hd with rfl | rfl
    · exact hp
    · exact hq⟩
theorem wpSeq_buildDD {ops : Array Oper} {Q : Exit → Act → World → Prop} {rest : List Oper} {o : Oper} {a : Act} {w : World} (x y : Operand) (p q : By) (hp : p.length = 32) (hq : q.length = 32) (ho : o.op = .buildSlice 22 2 #[(0, x), (1, y)]) (hx : a.eval x = .agg (cb p).toArray) (hy : a.eval y = .agg (cb q).toArray) (hw : Region.wanted o (yielded ops a.tmps) = true)
    (h : ∀ g w', ReadsD w' (.slice (some ⟨g, 0, none⟩) 2 2) [p, q] → Below w.heap.size w w' → wpList Tryd.prog ops Q rest (a.put o.dst (.slice (some ⟨g, 0, none⟩) 2 2)) w') : wpList Tryd.prog ops Q (o :: rest) a w :=
  wpSeq_val _ _ hw (build_dd _ o x y ho p q hp hq hx hy w) (h _ _ (readsD_two hp hq (Blk.new w _ _)) (below_alloc w _))
theorem wpSeq_dgt {ops : Array Oper} {Q : Exit → Act → World → Prop} {rest : List Oper} {o : Oper} {a : Act} {w : World} (b : BitVec 8) (ho : o.op = .build 28 #[(0, .const (.int .u8 (b.toNat : Int)))]) (hw : Region.wanted o (yielded ops a.tmps) = true)
    (h : wpList Tryd.prog ops Q rest (a.put o.dst (.agg (cb (dgt17 b)).toArray)) w) : wpList Tryd.prog ops Q (o :: rest) a w := by
  refine wpSeq_val _ _ hw ?_ h
  unfold execOp
  rw [ho]
  simp only [Act.eval, List.map_toArray, List.map_cons, List.map_nil]
  kernel_rfl
theorem lfW_ok : okLf lfW ∧ Up lfW ∧ ofL ([dgt17 1, dgt17 2].zip [dgt17 7, dgt17 8]) = lfW := by
  have h1 : okLf lfW := fun p hp => by
    unfold lfW at hp
    simp only [List.mem_cons, List.not_mem_nil, or_false] at hp
    rcases hp with rfl | rfl <;> exact ⟨rfl, rfl⟩
  have h2 : Up lfW := by
    unfold Up lfW
    refine List.pairwise_cons.2 ⟨fun q hq => ?_, List.pairwise_cons.2 ⟨(fun q hq => by cases hq), List.Pairwise.nil⟩⟩
    rw [List.mem_singleton.1 hq]
    decide +kernel
  exact ⟨h1, h2, ofL_self h2⟩
theorem save_w : saveL 0 lfW = [wholeL 0 lfW] ∧ topPg 0 lfW = wholeL 0 lfW := ⟨save_one (by rw [whole_w]; decide), top_one (by rw [whole_w]; decide)⟩
set_option maxHeartbeats 16000000 in
theorem works17_any (w : World) (hK : KOk w) : Calls Tryd.prog 9 #[] w fun e w' => e = .returned (.bool true) ∧ Below w.heap.size w w' := by
  have HK : Hid (KOk w) := hK
  have HBW : Hid (Below w.heap.size w w) := Below.refl _ _
  obtain ⟨x1, H1⟩ : ∃ x, Hid (x = dgt17 1) := ⟨_, rfl⟩
  obtain ⟨x2, H2⟩ : ∃ x, Hid (x = dgt17 2) := ⟨_, rfl⟩
  obtain ⟨x7, H7⟩ : ∃ x, Hid (x = dgt17 7) := ⟨_, rfl⟩
  obtain ⟨x8, H8⟩ : ∃ x, Hid (x = dgt17 8) := ⟨_, rfl⟩
  have HL : Hid (x1.length = 32 ∧ x2.length = 32 ∧ x7.length = 32 ∧ x8.length = 32) := by rw [H1.out, H2.out, H7.out, H8.out]; exact ⟨rfl, rfl, rfl, rfl⟩
  obtain ⟨l, HLF⟩ : ∃ l, Hid (l = lfW) := ⟨_, rfl⟩
  have HOF : Hid (ofL ([x1, x2].zip [x7, x8]) = l ∧ okLf l ∧ Up l ∧ l.length ≤ 60) := by
    rw [H1.out, H2.out, H7.out, H8.out, HLF.out]
    exact ⟨lfW_ok.2.2, lfW_ok.1, lfW_ok.2.1, by decide⟩
  obtain ⟨t, HT⟩ : ∃ t, Hid (t = wholeL 0 lfW) := ⟨_, rfl⟩
  have HS : Hid (saveL 0 l = [t] ∧ topPg 0 l = t) := by rw [HLF.out, HT.out]; exact save_w
  have HTL : Hid (t.length = 143) := by show _ = _; rw [HT.out]; exact whole_w
  have HTH : Hid (t.head? = some 2) := by show _ = _; rw [HT.out]; exact head_w
  obtain ⟨dg, HDG⟩ : ∃ x, Hid (x = dig t) := ⟨_, rfl⟩
  have HDL : Hid (dg.length = 32) := by show _ = _; rw [HDG.out]; exact len_dig' _
  have HDN : Hid (dg ≠ zb32) := by show _ ≠ _; rw [HDG.out, HT.out]; exact dig_w
  have HFZ : Hid (Fits l 0) := fits_zero HOF.out.2.1 HOF.out.2.2.1
  obtain ⟨rt, HRT⟩ : ∃ x, Hid (x = rootL l 0) := ⟨_, rfl⟩
  have HRL : Hid (rt.length = 32) := by show _ = _; rw [HRT.out]; exact rootL_len (fits_zero HOF.out.2.1 HOF.out.2.2.1)
  have hq : ∀ wx : World, (Op.equalIn 10000 28 (.agg (cb rt).toArray) (.agg (cb rt).toArray)).run Tryd.prog wx = .ok true wx := fun wx => eq_dig_same rt HRL.out wx
  obtain ⟨z, HZ⟩ : ∃ x, Hid (x = zb32) := ⟨_, rfl⟩
  have HLD1 : Hid (∀ (gv cv : Nat) (W : World), KOk W → ReadsL W (.slice (some ⟨gv, 0, none⟩) 1 cv) [t] → Calls Tryd.prog 17 #[.agg (cb dg).toArray, .slice (some ⟨gv, 0, none⟩) 1 cv] W fun e w' => ∃ g, e = .returned (.tuple #[.pointer (some ⟨g, 0, none⟩), .int .i64 0]) ∧ TT w' g l ∧ Below W.heap.size W w') := by
    show ∀ (gv cv : Nat) (W : World), _
    intro gv cv W hKW hRW
    rw [HDG.out, ← HS.out.2]
    exact pgLoad_ok l _ [t] W hKW HOF.out.2.1 HOF.out.2.2.1 HOF.out.2.2.2 hRW (by simp) (by intro p hp; rw [List.mem_singleton.1 hp, HTL.out]; decide) (by intro p hp q hq _; rw [HS.out.1] at hp; rw [List.mem_singleton.1 hp, List.mem_singleton.1 hq]) (by rw [HS.out.1]; exact Nat.le_succ _) (by rw [HS.out.1]; exact fun p hp => hp)
  have HLD2 : Hid (∀ (gv cv : Nat) (W : World), KOk W → ReadsL W (.slice (some ⟨gv, 0, none⟩) 1 cv) [t] → Calls Tryd.prog 17 #[.agg (cb z).toArray, .slice (some ⟨gv, 0, none⟩) 1 cv] W fun e w' => e = .returned (.tuple #[.pointer none, .int .i64 7]) ∧ Below W.heap.size W w') := by
    show ∀ (gv cv : Nat) (W : World), _
    intro gv cv W hKW hRW
    exact pgLoad_none z _ [t] W hKW (by rw [HZ.out]; exact zb32_len) hRW (by simp) (by intro p hp; rw [List.mem_singleton.1 hp, HTL.out]; decide) (by intro p hp; rw [List.mem_singleton.1 hp, ← HDG.out, HZ.out]; exact HDN.out)
  clear hK
  go_enter Tryd.func9, Tryd.ntmps9
  have tk0 : Hid True := trivial
  have tk1 : Hid True := trivial
  have tk2 : Hid True := trivial
  have tk3 : Hid True := trivial
  have tk4 : Hid True := trivial
  have tk5 : Hid True := trivial
  have tk6 : Hid True := trivial
  have tk7 : Hid True := trivial
  have tk8 : Hid True := trivial
  have tk9 : Hid True := trivial
  have tk10 : Hid True := trivial
  have tk11 : Hid True := trivial
  have tk12 : Hid True := trivial
  have tk13 : Hid True := trivial
  have tk14 : Hid True := trivial
  have tk15 : Hid True := trivial
  go_wp2_with (first
    | (clear tk0; with_reducible refine wpSeq_dgt 1 ?_ ?_ ?_
       · rfl
       · rfl
       rw [← H1.out])
    | (clear tk1; with_reducible refine wpSeq_dgt 2 ?_ ?_ ?_
       · rfl
       · rfl
       rw [← H2.out])
    | (clear tk2; with_reducible refine wpSeq_buildDD (.tmp 8) (.tmp 9) x1 x2 HL.out.1 HL.out.2.1 ?_ ?_ ?_ ?_ ?_
       · rfl
       · rfl
       · rfl
       · rfl
       intro g1 w1 hr hb
       have HRA : Hid (ReadsD w1 (.slice (some ⟨g1, 0, none⟩) 2 2) [x1, x2]) := hr
       clear hr
       replace HK : Hid (KOk w1) := HK.out.below hb HK.out.lt
       replace HBW : Hid (Below w.heap.size w w1) := HBW.out.trans (hb.mono HBW.out.size)
       clear hb)
    | (clear tk3; with_reducible refine wpSeq_dgt 7 ?_ ?_ ?_
       · rfl
       · rfl
       rw [← H7.out])
    | (clear tk4; with_reducible refine wpSeq_dgt 8 ?_ ?_ ?_
       · rfl
       · rfl
       rw [← H8.out])
    | (clear tk5; with_reducible refine wpSeq_buildDD (.tmp 11) (.tmp 12) x7 x8 HL.out.2.2.1 HL.out.2.2.2 ?_ ?_ ?_ ?_ ?_
       · rfl
       · rfl
       · rfl
       · rfl
       intro g2 w2 hr hb
       have HRB : Hid (ReadsD w2 (.slice (some ⟨g2, 0, none⟩) 2 2) [x7, x8]) := hr
       replace HRA : Hid (ReadsD w2 (.slice (some ⟨g1, 0, none⟩) 2 2) [x1, x2]) := HRA.out.below hb
       clear hr
       replace HK : Hid (KOk w2) := HK.out.below hb HK.out.lt
       replace HBW : Hid (Below w.heap.size w w2) := HBW.out.trans (hb.mono HBW.out.size)
       clear hb)
    | (clear tk6; go_at_call 10; refine (trOf_any _ _ _ [x1, x2] [x7, x8] HK.out HRA.out HRB.out (by simp)).mono ?_; rintro e w3 ⟨gt, rfl, ht, hb⟩
       rw [HOF.out.1] at ht
       have HT3 : Hid (TT w3 gt l) := ht
       clear ht HRA HRB
       replace HK : Hid (KOk w3) := HK.out.below hb HK.out.lt
       replace HBW : Hid (Below w.heap.size w w3) := HBW.out.trans (hb.mono HBW.out.size)
       clear hb)
    | (clear tk7; go_at_call 11; refine (pgSave_any gt l _ HK.out HT3.out (Nat.le_trans HOF.out.2.2.2 (by decide))).mono ?_; rintro e w4 ⟨v, us, rfl, hp, hb⟩
       rw [HS.out.1] at hp
       rw [HS.out.2, ← HDG.out]
       have hlen : us.length = 1 := hp.len
       obtain ⟨u, hu⟩ := List.length_eq_one_iff.1 hlen
       subst hu
       obtain ⟨gv, cv, hv, hcell, _⟩ := hp.own.at (j := 0) (u := u) rfl
       have hv : v = .slice (some ⟨gv, 0, none⟩) 1 cv := hv
       subst hv
       have hrd := (hp.good 0 u rfl).1
       rw [List.getD_cons_zero] at hrd
       obtain ⟨ub, uo, un, uc, hu⟩ := reads_some hrd (by rw [HTL.out]; decide)
       subst hu
       have HPR : Hid (ReadsL w4 (.slice (some ⟨gv, 0, none⟩) 1 cv) [t] ∧ w4.cell? ⟨gv, 0, none⟩ = some (.slice (some ⟨ub, uo, none⟩) un uc) ∧ Reads w4 (.slice (some ⟨ub, uo, none⟩) un uc) t) := ⟨hp.readsL, hcell, hrd⟩
       have HUN : Hid (un = 143) := by obtain ⟨_, _, h1, _⟩ := hrd; simp only [Value.slice.injEq] at h1; show _ = _; rw [h1.2.1, HTL.out]
       replace HT3 : Hid (TT w4 gt l) := HT3.out.next hb
       clear hp hcell hrd hlen
       replace HK : Hid (KOk w4) := HK.out.below hb HK.out.lt
       replace HBW : Hid (Below w.heap.size w w4) := HBW.out.trans (hb.mono HBW.out.size)
       clear hb)
    | (clear tk8; with_reducible refine wpSeq_allocD ?_ ?_ ?_
       · rfl
       · rfl
       intro g5 w5 nn
       have HN5 : Hid (Blk w5 g5 (cb zb32) 28 ∧ w4.heap.size ≤ g5 ∧ Below w4.heap.size w4 w5) := ⟨nn.blk, nn.ge, nn.below⟩
       clear nn)
    | (clear tk9; with_reducible refine wpSeq_storeD (.tmp 2) (.tmp 20) g5 zb32 dg zb32_len HDL.out HN5.out.1 ?_ ?_ ?_ ?_ ?_
       · rfl
       · rfl
       · rfl
       · rfl
       intro w6 h9
       have hb : Below w4.heap.size w4 w6 := HN5.out.2.2.trans (h9.only.below HN5.out.2.1 HN5.out.2.2.size)
       have HG5 : Hid (Blk w6 g5 (cb dg) 28) := h9.blk
       replace HPR : Hid (ReadsL w6 (.slice (some ⟨gv, 0, none⟩) 1 cv) [t] ∧ w6.cell? ⟨gv, 0, none⟩ = some (.slice (some ⟨ub, uo, none⟩) un uc) ∧ Reads w6 (.slice (some ⟨ub, uo, none⟩) un uc) t) := ⟨HPR.out.1.below hb, by rw [hb.cell (p := ⟨gv, 0, none⟩) (block_lt_of_cell HPR.out.2.1)]; exact HPR.out.2.1, HPR.out.2.2.below hb⟩
       replace HT3 : Hid (TT w6 gt l) := HT3.out.next hb
       clear h9 HN5
       replace HK : Hid (KOk w6) := HK.out.below hb HK.out.lt
       replace HBW : Hid (Below w.heap.size w w6) := HBW.out.trans (hb.mono HBW.out.size)
       clear hb)
    | (clear tk10; with_reducible refine wpSeq_loadD (.tmp 2) g5 dg HDL.out HG5.out ?_ ?_ ?_ ?_
       · rfl
       · rfl
       · rfl
       have HQ1 : Hid True := trivial)
    | (clear tk11; go_at_call 17; refine (HLD1.out gv cv _ HK.out HPR.out.1).mono ?_; rintro e w7 ⟨gu, rfl, ht, hb⟩
       have HT7 : Hid (TT w7 gu l) := ht
       clear ht
       replace HPR : Hid (ReadsL w7 (.slice (some ⟨gv, 0, none⟩) 1 cv) [t] ∧ w7.cell? ⟨gv, 0, none⟩ = some (.slice (some ⟨ub, uo, none⟩) un uc) ∧ Reads w7 (.slice (some ⟨ub, uo, none⟩) un uc) t) := ⟨HPR.out.1.below hb, by rw [hb.cell (p := ⟨gv, 0, none⟩) (block_lt_of_cell HPR.out.2.1)]; exact HPR.out.2.1, HPR.out.2.2.below hb⟩
       replace HT3 : Hid (TT w7 gt l) := HT3.out.next hb
       replace HK : Hid (KOk w7) := HK.out.below hb HK.out.lt
       replace HBW : Hid (Below w.heap.size w w7) := HBW.out.trans (hb.mono HBW.out.size)
       clear hb)
    | (clear tk12; with_reducible refine wpSeq_buildZ0 ?_ ?_ ?_
       · rfl
       · rfl
       rw [← HZ.out])
    | (clear tk13; go_at_call 17; refine (HLD2.out gv cv _ HK.out HPR.out.1).mono ?_; rintro e w8 ⟨rfl, hb⟩
       replace HT7 : Hid (TT w8 gu l) := HT7.out.next hb
       replace HPR : Hid (ReadsL w8 (.slice (some ⟨gv, 0, none⟩) 1 cv) [t] ∧ w8.cell? ⟨gv, 0, none⟩ = some (.slice (some ⟨ub, uo, none⟩) un uc) ∧ Reads w8 (.slice (some ⟨ub, uo, none⟩) un uc) t) := ⟨HPR.out.1.below hb, by rw [hb.cell (p := ⟨gv, 0, none⟩) (block_lt_of_cell HPR.out.2.1)]; exact HPR.out.2.1, HPR.out.2.2.below hb⟩
       replace HT3 : Hid (TT w8 gt l) := HT3.out.next hb
       have c1 : w8.cell? ⟨gv, 0, none⟩ = some (.slice (some ⟨ub, uo, none⟩) un uc) := HPR.out.2.1
       have c2 : w8.cell? ⟨ub, uo, none⟩ = some (.int .u8 2) := by
         obtain ⟨b0, o0, n0, k0, h1, h2⟩ : ∃ b0 o0 n0 k0, (Value.slice (some ⟨ub, uo, none⟩) un uc) = .slice (some ⟨b0, o0, none⟩) n0 k0 ∧ w8.cell? ⟨b0, o0, none⟩ = some (.int .u8 ((t.getD 0 0).toNat : Int)) := by
           obtain ⟨ad, cc, h3, h4, h5, h6⟩ := HPR.out.2.2
           obtain ⟨b0, o0, rfl, h7⟩ := h6 (by rw [HTL.out]; decide)
           exact ⟨b0, o0, _, _, h3, by have := h7 0 (by rw [HTL.out]; decide); exact this⟩
         simp only [Value.slice.injEq, Option.some.injEq, Addr.mk.injEq, and_true] at h1
         obtain ⟨⟨rfl, rfl⟩, _⟩ := h1
         rw [h2]
         have h8 := HTH.out
         rw [List.head?_eq_getElem?] at h8
         rw [List.getD_eq_getElem?_getD, h8]
         rfl
       have u0 : (0 : Int) < (un : Int) := by have := HUN.out; omega
       replace HK : Hid (KOk w8) := HK.out.below hb HK.out.lt
       replace HBW : Hid (Below w.heap.size w w8) := HBW.out.trans (hb.mono HBW.out.size)
       clear hb)
    | (clear tk14; go_at_call 20; refine (trRoot_any _ 0 gu l HK.out HT7.out.1 HFZ.out).mono ?_; rintro e w9 ⟨rfl, hb⟩
       rw [← HRT.out]
       replace HT3 : Hid (TT w9 gt l) := HT3.out.next hb
       replace HK : Hid (KOk w9) := HK.out.below hb HK.out.lt
       replace HBW : Hid (Below w.heap.size w w9) := HBW.out.trans (hb.mono HBW.out.size)
       clear hb)
    | (clear tk15; go_at_call 20; refine (trRoot_any _ 0 gt l HK.out HT3.out.1 HFZ.out).mono ?_; rintro e w10 ⟨rfl, hb⟩
       rw [← HRT.out]
       replace HK : Hid (KOk w10) := HK.out.below hb HK.out.lt
       replace HBW : Hid (Below w.heap.size w w10) := HBW.out.trans (hb.mono HBW.out.size)
       clear hb))
  go_ret
  exact ⟨rfl, HBW.out⟩
end Go.Proofs.YtlhbbkohndggmaaDoor
/- Pages, plainly: what a tree with one leaf more does not share with the one ahead (layer 17). -/
namespace Go.Proofs.YtlhbbkohndggmaaDoor
open Go.RowKit
set_option maxRecDepth 100000
theorem putL_more (l : List Lf) (x v : By) : (putL l x v).length ≤ l.length + 1 := by
  unfold putL
  rw [List.length_append, List.length_cons]
  have b : (l.takeWhile fun p => lessB p.1 x).length + (l.dropWhile fun p => lessB p.1 x).length = l.length := by
    rw [← List.length_append, List.takeWhile_append_dropWhile]
  refine Nat.le_trans (Nat.add_le_add_left (Nat.succ_le_succ (List.length_filter_le _ _)) _) ?_
  omega
theorem whole_half {d : Nat} {l : List Lf} {b : Bool} (hF : Fits l d) (hd : d < 256) (h : (wholeL d l).length ≤ 512) : (wholeL (d + 1) (halfL l d b)).length ≤ 512 := by
  rcases Nat.lt_or_ge l.length 2 with h2 | h2
  · have h3 : (halfL l d b).length < 2 := Nat.lt_of_le_of_lt (half_le l d b) h2
    rw [whole_few h3, one_le (hF.half b).1 h3]; omega
  · rw [whole_two hd h2, List.length_cons, List.length_append] at h
    cases b <;> omega
theorem rest_one {d : Nat} {l : List Lf} (h : (wholeL d l).length ≤ 512) : (restPg d l).length ≤ 1 ∧ (l.length < 2 → (restPg d l).length = 0) := by
  unfold restPg
  refine ⟨?_, fun h2 => by rw [if_pos h2]; rfl⟩
  split
  · simp
  · rw [save_one h]; simp
theorem rest_two {d : Nat} {l : List Lf} (h : 2 ≤ l.length) : restPg d l = saveL d l := by unfold restPg; rw [if_neg (by omega)]
theorem rest_few {d : Nat} {l : List Lf} (h : l.length < 2) : restPg d l = [] := by unfold restPg; rw [if_pos h]
/-- both sides, the one that x goes to first -/
theorem two_sides (P : List Lf → Nat) (l : List Lf) (d : Nat) (b : Bool) : P (halfL l d false) + P (halfL l d true) = P (halfL l d b) + P (halfL l d (!b)) := by
  cases b
  · rfl
  · exact Nat.add_comm _ _
theorem zero_short {d : Nat} {l : List Lf} (hF : Fits l d) (hd : 256 ≤ d) : (wholeL d l).length ≤ 512 := by
  rcases Nat.lt_or_ge 512 (wholeL d l).length with h | h
  · have := (long_two hF h).2; omega
  · exact h
theorem fresh_six : ∀ (f d : Nat) (l : List Lf) (x v : By), 256 = d + f → Fits l d → Fits (putL l x v) d → x.length = 32 → (wholeL d l).length ≤ 512 → (putL l x v).length ≤ 6 →
    (f ≤ 10 → (saveL d (putL l x v)).length ≤ 1) ∧ (10 < f → (saveL d (putL l x v)).length + 10 ≤ f + 1 + (putL l x v).length / 2) := by
  intro f
  induction f with
  | zero =>
    intro d l x v hd hF hG hx ho hk
    rw [save_one (zero_short hG (by omega))]
    exact ⟨fun _ => by simp, fun h => by omega⟩
  | succ f ih =>
    intro d l x v hd hF hG hx ho hk
    rcases Nat.lt_or_ge 512 (wholeL d (putL l x v)).length with h | h
    · have h2 := long_two hG h
      have hw := (whole_le (f + 1) d _ hd hG).1
      have h10 : 10 < f + 1 := by
        rcases Nat.lt_or_ge 10 (f + 1) with h' | h'
        · exact h'
        · have : (putL l x v).length * (64 + 2 * (f + 1)) ≤ 6 * 84 := Nat.mul_le_mul hk (by omega)
          omega
      refine ⟨fun h' => by omega, fun _ => ?_⟩
      have e1 := half_put_on (v := v) (d := d) hF.1 hF.2.1 hx
      have e2 := half_put_off (v := v) (d := d) (b := !bt x d) hF.1 hF.2.1 hx (by cases bt x d <;> decide)
      have hl := half_len hG
      rw [save_more h2.2 h, List.length_cons, List.length_append]
      have hs := two_sides (fun m => (restPg (d + 1) m).length) (putL l x v) d (bt x d)
      have ht := two_sides List.length (putL l x v) d (bt x d)
      rw [hs]
      rw [ht] at hl
      have ho2 := rest_one (whole_half (b := !bt x d) hF h2.2 ho)
      have hGb := hG.half (bt x d)
      rw [e1] at hGb
      have hi := ih (d + 1) (halfL l d (bt x d)) x v (by omega) (hF.half _) hGb hx (whole_half hF h2.2 ho)
      rw [e1, e2] at hl ⊢
      rcases Nat.lt_or_ge (putL (halfL l d (bt x d)) x v).length 2 with hb | hb
      · rw [rest_few hb, List.length_nil]
        omega
      · rw [rest_two hb]
        have hi2 := hi (by omega)
        omega
    · rw [save_one h]
      simp only [List.length_singleton]
      omega
theorem fresh_eight : ∀ (f d : Nat) (l : List Lf) (x v : By), 256 = d + f → Fits l d → Fits (putL l x v) d → x.length = 32 → (wholeL d l).length ≤ 512 → (putL l x v).length ≤ 8 →
    (saveL d (putL l x v)).length ≤ f + 1 := by
  intro f
  induction f with
  | zero =>
    intro d l x v hd hF hG hx ho hk
    rw [save_one (zero_short hG (by omega))]
    simp
  | succ f ih =>
    intro d l x v hd hF hG hx ho hk
    rcases Nat.lt_or_ge 512 (wholeL d (putL l x v)).length with h | h
    · have h2 := long_two hG h
      have e1 := half_put_on (v := v) (d := d) hF.1 hF.2.1 hx
      have e2 := half_put_off (v := v) (d := d) (b := !bt x d) hF.1 hF.2.1 hx (by cases bt x d <;> decide)
      have hl := half_len hG
      rw [save_more h2.2 h, List.length_cons, List.length_append]
      have hs := two_sides (fun m => (restPg (d + 1) m).length) (putL l x v) d (bt x d)
      have ht := two_sides List.length (putL l x v) d (bt x d)
      rw [hs]
      rw [ht] at hl
      have ho2 := rest_one (whole_half (b := !bt x d) hF h2.2 ho)
      have hGb := hG.half (bt x d)
      rw [e1] at hGb
      have hi := ih (d + 1) (halfL l d (bt x d)) x v (by omega) (hF.half _) hGb hx (whole_half hF h2.2 ho)
      have hi6 := fresh_six f (d + 1) (halfL l d (bt x d)) x v (by omega) (hF.half _) hGb hx (whole_half hF h2.2 ho)
      rw [e1, e2] at hl ⊢
      rcases Nat.lt_or_ge (putL (halfL l d (bt x d)) x v).length 2 with hb | hb
      · rw [rest_few hb, List.length_nil]
        omega
      · rw [rest_two hb]
        have hf : 1 ≤ f := by have := hGb.lt hb; omega
        have hi2 := hi (by omega)
        rcases Nat.lt_or_ge (halfL l d (!bt x d)).length 2 with hc | hc
        · have := ho2.2 hc; omega
        · have hi3 := hi6 (by omega)
          omega
    · rw [save_one h]
      simp
theorem count_in {O l : List By} (h : ∀ p ∈ l, p ∈ O) : l.countP (fun p => decide (p ∉ O)) = 0 := by
  rw [List.countP_eq_zero]
  intro p hp
  simp [h p hp]
theorem shared_count : ∀ (f d : Nat) (l : List Lf) (x v : By) (O : List By), 256 = d + f → Fits l d → Fits (putL l x v) d → x.length = 32 → (∀ p ∈ saveL d l, p ∈ O) →
    (saveL d (putL l x v)).countP (fun p => decide (p ∉ O)) ≤ f + 1 := by
  intro f
  induction f with
  | zero =>
    intro d l x v O hd hF hG hx hO
    rw [save_one (zero_short hG (by omega))]
    exact Nat.le_trans List.countP_le_length (by simp)
  | succ f ih =>
    intro d l x v O hd hF hG hx hO
    rcases Nat.lt_or_ge 512 (wholeL d l).length with ho | ho
    · rcases Nat.lt_or_ge 512 (wholeL d (putL l x v)).length with h | h
      · have h2 := long_two hG h
        have o2 := long_two hF ho
        have e1 := half_put_on (v := v) (d := d) hF.1 hF.2.1 hx
        have e2 := half_put_off (v := v) (d := d) (b := !bt x d) hF.1 hF.2.1 hx (by cases bt x d <;> decide)
        rw [save_more h2.2 h, List.countP_cons, List.countP_append]
        have hs := two_sides (fun m => (restPg (d + 1) m).countP (fun p => decide (p ∉ O))) (putL l x v) d (bt x d)
        rw [hs, e1, e2]
        have hO2 : ∀ b, ∀ p ∈ restPg (d + 1) (halfL l d b), p ∈ O := by
          intro b p hp
          apply hO
          rw [save_more o2.2 ho]
          refine List.mem_cons_of_mem _ ?_
          cases b
          · exact List.mem_append_left _ hp
          · exact List.mem_append_right _ hp
        rw [count_in (hO2 (!bt x d))]
        have hGb := hG.half (bt x d)
        rw [e1] at hGb
        have ht : (restPg (d + 1) (putL (halfL l d (bt x d)) x v)).countP (fun p => decide (p ∉ O)) ≤ f + 1 := by
          rcases Nat.lt_or_ge (putL (halfL l d (bt x d)) x v).length 2 with hb | hb
          · rw [rest_few hb]; simp
          · rw [rest_two hb]
            rcases Nat.lt_or_ge (halfL l d (bt x d)).length 2 with hc | hc
            · have hm := putL_more (halfL l d (bt x d)) x v
              have hw : (wholeL (d + 1) (halfL l d (bt x d))).length ≤ 512 := by
                rw [whole_few hc, one_le (hF.half _).1 hc]; omega
              exact Nat.le_trans List.countP_le_length (fresh_eight f (d + 1) _ x v (by omega) (hF.half _) hGb hx hw (by omega))
            · exact ih (d + 1) _ x v O (by omega) (hF.half _) hGb hx (by have := hO2 (bt x d); rwa [rest_two hc] at this)
        split <;> omega
      · rw [save_one h]
        exact Nat.le_trans List.countP_le_length (by simp)
    · have hm := putL_more l x v
      have hk := (whole_le (f + 1) d l hd hF).2.1
      exact Nat.le_trans List.countP_le_length (fresh_eight (f + 1) d l x v hd hF hG hx ho (by omega))
end Go.Proofs.YtlhbbkohndggmaaDoor
/- The walk of the statement PagesShared (layer 17). -/
namespace Go.Proofs.YtlhbbkohndggmaaDoor
open Go.RowKit
set_option maxRecDepth 100000
theorem few17_any (v : Value) (ds : List By) (w : World) (hR : ReadsD w v ds) : Calls Tryd.prog 8 #[v] w fun e w' => e = .returned (.bool (decide (ds.length ≤ 40))) ∧ w' = w := by
  obtain ⟨ad, cp, hv⟩ := hR.slice
  obtain ⟨n, HN⟩ : ∃ n, Hid (n = ds.length) := ⟨_, rfl⟩
  rw [← HN.out] at hv ⊢
  subst hv
  have HB : Hid (decide (n ≤ 40) = decide ((n : Int) ≤ 40)) := decide_eq_decide.2 ⟨fun h => by omega, fun h => by omega⟩
  clear hR
  go_enter Tryd.func8, Tryd.ntmps8
  go_wp2
  go_ret
  exact ⟨by rw [HB.out]; rfl, rfl⟩
/-- a row of pages: where each stands, and what it reads as -/
structure Row17 (w : World) (g n c : Nat) (ps : List By) : Prop where
  len : n = ps.length
  at_ : ∀ j, j < n → ∃ u, w.cell? ⟨g, j, none⟩ = some u ∧ Reads w u (ps.getD j [])
  rd : ReadsL w (.slice (some ⟨g, 0, none⟩) n c) ps
theorem Row17.next {w w' : World} {g n c : Nat} {ps : List By} (h : Row17 w g n c ps) (hb : Below w.heap.size w w') : Row17 w' g n c ps :=
  ⟨h.len, fun j hj => by obtain ⟨u, h1, h2⟩ := h.at_ j hj; exact ⟨u, by rw [hb.cell (p := ⟨g, j, none⟩) (block_lt_of_cell h1)]; exact h1, h2.below hb⟩, h.rd.below hb⟩
theorem row17_of {w : World} {base : Nat} {v : Value} {us : List Value} {ps : List By} {X : Nat → Prop} (h : PgS w base v us ps X) (hp : 0 < ps.length) : ∃ g n c, v = .slice (some ⟨g, 0, none⟩) n c ∧ Row17 w g n c ps := by
  have hl := h.len
  obtain ⟨g, c, hv, _, _⟩ := h.own.at (j := 0) (u := us[0]) (List.getElem?_eq_getElem (by omega))
  refine ⟨g, us.length, c, hv, hl, fun j hj => ?_, ?_⟩
  · obtain ⟨g2, c2, hv2, h3, _⟩ := h.own.at (j := j) (u := us[j]) (List.getElem?_eq_getElem hj)
    rw [hv] at hv2
    cases hv2
    exact ⟨us[j], h3, (h.good j us[j] (List.getElem?_eq_getElem hj)).1⟩
  · rw [← hv]; exact h.readsL
theorem save_pos (d : Nat) (l : List Lf) : 0 < (saveL d l).length := by rw [save_top]; simp
theorem mem_take17 (O : List By) (p : By) (k : Nat) (hk : k < O.length) : decide (p ∈ O.take (k + 1)) = (decide (p ∈ O.take k) || decide (O.getD k [] = p)) := by
  have e : O.take (k + 1) = O.take k ++ [O.getD k []] := by
    rw [List.take_add_one, List.getElem?_eq_getElem hk, List.getD_eq_getElem?_getD, List.getElem?_eq_getElem hk]; rfl
  rw [e]
  by_cases h1 : p ∈ O.take k
  · rw [decide_eq_true h1, Bool.true_or]; exact decide_eq_true (List.mem_append_left _ h1)
  · rw [decide_eq_false h1, Bool.false_or]
    exact decide_eq_decide.2 ⟨fun h => (List.mem_append.1 h).elim (fun h => absurd h h1) fun h => (List.mem_singleton.1 h).symm, fun h => List.mem_append_right _ (List.mem_singleton.2 h.symm)⟩
theorem count_take17 (O m : List By) (i : Nat) (hi : i < m.length) : (m.take (i + 1)).countP (fun p => decide (p ∉ O)) = (m.take i).countP (fun p => decide (p ∉ O)) + (if m.getD i [] ∈ O then 0 else 1) := by
  have e : m.take (i + 1) = m.take i ++ [m.getD i []] := by
    rw [List.take_add_one, List.getElem?_eq_getElem hi, List.getD_eq_getElem?_getD, List.getElem?_eq_getElem hi]; rfl
  rw [e, List.countP_append, List.countP_cons, List.countP_nil]
  by_cases h : m.getD i [] ∈ O
  · rw [if_pos h, if_neg (by rw [decide_eq_true_eq]; exact fun hn => hn h)]
  · rw [if_neg h, if_pos (decide_eq_true h)]
theorem idxP (b n c k : Nat) (hk : k < n) (f : Operand → Value) (o : Oper) (x y : Operand) (ho : o.op = .indexAddr 29 x y) (hx : f x = .slice (some ⟨b, 0, none⟩) n c) (hy : f y = .int .i64 (k : Int)) (w : World) :
    (execOp f o).run Tryd.prog w = .ok (.value (.pointer (some ⟨b, k, none⟩))) w := by
  have k0 : (0 : Int) ≤ (k : Int) := by omega
  have k1 : (k : Int) < (n : Int) := by omega
  unfold execOp
  rw [ho]
  simp [go_sem, hx, hy, k0, k1, Addr.add_mid]
set_option maxHeartbeats 16000000 in
theorem pagesShared_law (vt vu : Value) (ds es : List By) (x v : By) (w : World) (hK : KOk w) (hD : ReadsD w vt ds) (hE : ReadsD w vu es) (hx : x.length = 32) (hv : v.length = 32) :
    Calls Tryd.prog 6 #[vt, vu, .agg (cb x).toArray, .agg (cb v).toArray] w fun e w' => e = .returned (.bool true) ∧ Below w.heap.size w w' := by
  have HD : Hid (ReadsD w vt ds) := hD
  have HE : Hid (ReadsD w vu es) := hE
  have HK : Hid (KOk w) := hK
  have HX : Hid (x.length = 32) := hx
  have HV : Hid (v.length = 32) := hv
  have HBW : Hid (Below w.heap.size w w) := Below.refl _ _
  clear hD hE hK hx hv
  by_cases h40 : ds.length ≤ 40
  case neg =>
    have HF : Hid (decide (ds.length ≤ 40) = false) := decide_eq_false h40
    clear h40
    go_enter Tryd.func6, Tryd.ntmps6
    have tk0 : Hid True := trivial
    have tk1 : Hid True := trivial
    have tk2 : Hid True := trivial
    have tk3 : Hid True := trivial
    go_wp2_with (first
      | (clear tk0; with_reducible refine wpSeq_boxD (.tmp 2) x ?_ ?_ ?_ ?_
         · rfl
         · rfl
         · rfl
         intro g6 w1 nn
         have hb : Below w.heap.size w w1 := nn.below
         clear nn
         replace HD : Hid (ReadsD w1 vt ds) := HD.out.below hb
         replace HE : Hid (ReadsD w1 vu es) := HE.out.below hb
         replace HK : Hid (KOk w1) := HK.out.below hb HK.out.lt
         replace HBW : Hid (Below w.heap.size w w1) := HBW.out.trans (hb.mono HBW.out.size)
         clear hb)
      | (clear tk1; with_reducible refine wpSeq_boxD (.tmp 3) v ?_ ?_ ?_ ?_
         · rfl
         · rfl
         · rfl
         intro g7 w2 nn
         have hb : Below w1.heap.size w1 w2 := nn.below
         clear nn
         replace HD : Hid (ReadsD w2 vt ds) := HD.out.below hb
         replace HE : Hid (ReadsD w2 vu es) := HE.out.below hb
         replace HK : Hid (KOk w2) := HK.out.below hb HK.out.lt
         replace HBW : Hid (Below w.heap.size w w2) := HBW.out.trans (hb.mono HBW.out.size)
         clear hb)
      | (clear tk2; go_at_call 8; refine (few17_any vt ds _ HD.out).mono ?_; rintro e w3 ⟨rfl, rfl⟩
         rw [HF.out])
      | (clear tk3; go_at_call 9; refine (works17_any _ HK.out).mono ?_; rintro e w4 ⟨rfl, hb⟩
         have HB4 : Hid (Below w.heap.size w w4) := HBW.out.trans (hb.mono HBW.out.size)
         clear hb))
    go_ret
    exact ⟨rfl, HB4.out⟩
  case pos =>
    have HF : Hid (decide (ds.length ≤ 40) = true) := decide_eq_true h40
    obtain ⟨l0, HL0⟩ : ∃ l, Hid (l = ofL (ds.zip es)) := ⟨_, rfl⟩
    obtain ⟨l1, HL1⟩ : ∃ l, Hid (l = putL l0 x v) := ⟨_, rfl⟩
    have HOK : Hid (okLf l0 ∧ Up l0 ∧ l0.length ≤ 40) := by
      rw [HL0.out]
      have h := ofL_good _ (zip_okR HD.out HE.out)
      exact ⟨h.1, h.2, by have h1 := ofL_len (ds.zip es); have h2 : (ds.zip es).length ≤ ds.length := by rw [List.length_zip]; omega
                          omega⟩
    have HOK1 : Hid (okLf l1 ∧ Up l1 ∧ l1.length ≤ 41) := by
      rw [HL1.out]
      exact ⟨putL_ok HOK.out.1 HX.out HV.out, putL_up HOK.out.1 HX.out HOK.out.2.1, by have := putL_more l0 x v; have := HOK.out.2.2; omega⟩
    have HCT : Hid ((saveL 0 l1).countP (fun p => decide (p ∉ saveL 0 l0)) ≤ 257) := by
      have := shared_count 256 0 l0 x v (saveL 0 l0) rfl (fits_zero HOK.out.1 HOK.out.2.1) (by rw [← HL1.out]; exact fits_zero HOK1.out.1 HOK1.out.2.1) HX.out (fun p hp => hp)
      rw [← HL1.out] at this
      exact this
    have HSZ : Hid ((saveL 0 l0).length ≤ 25601 ∧ (saveL 0 l1).length ≤ 25601) := ⟨save_few HOK.out.1 HOK.out.2.1 (by have := HOK.out.2.2; omega), save_few HOK1.out.1 HOK1.out.2.1 (by have := HOK1.out.2.2; omega)⟩
    clear h40
    go_enter Tryd.func6, Tryd.ntmps6
    have tk0 : Hid True := trivial
    have tk1 : Hid True := trivial
    have tk2 : Hid True := trivial
    have tk3 : Hid True := trivial
    have tk4 : Hid True := trivial
    have tk5 : Hid True := trivial
    have tk6 : Hid True := trivial
    have tk7 : Hid True := trivial
    have tk8 : Hid True := trivial
    have tk9 : Hid True := trivial
    have tk10 : Hid True := trivial
    have tk11 : Hid True := trivial
    have tk12 : Hid True := trivial
    go_wp2_with (first
      | (clear tk0; with_reducible refine wpSeq_boxD (.tmp 2) x ?_ ?_ ?_ ?_
         · rfl
         · rfl
         · rfl
         intro g6 w1 nn
         have hb : Below w.heap.size w w1 := nn.below
         have HG6 : Hid (Blk w1 g6 (cb x) 28) := nn.blk
         clear nn
         replace HD : Hid (ReadsD w1 vt ds) := HD.out.below hb
         replace HE : Hid (ReadsD w1 vu es) := HE.out.below hb
         replace HK : Hid (KOk w1) := HK.out.below hb HK.out.lt
         replace HBW : Hid (Below w.heap.size w w1) := HBW.out.trans (hb.mono HBW.out.size)
         clear hb)
      | (clear tk1; with_reducible refine wpSeq_boxD (.tmp 3) v ?_ ?_ ?_ ?_
         · rfl
         · rfl
         · rfl
         intro g7 w2 nn
         have hb : Below w1.heap.size w1 w2 := nn.below
         have HG7 : Hid (Blk w2 g7 (cb v) 28) := nn.blk
         clear nn
         replace HD : Hid (ReadsD w2 vt ds) := HD.out.below hb
         replace HE : Hid (ReadsD w2 vu es) := HE.out.below hb
         replace HG6 : Hid (Blk w2 g6 (cb x) 28) := HG6.out.below hb HG6.out.lt
         replace HK : Hid (KOk w2) := HK.out.below hb HK.out.lt
         replace HBW : Hid (Below w.heap.size w w2) := HBW.out.trans (hb.mono HBW.out.size)
         clear hb)
      | (clear tk2; go_at_call 8; refine (few17_any vt ds _ HD.out).mono ?_; rintro e w3 ⟨rfl, rfl⟩
         rw [HF.out])
      | (clear tk3; go_at_call 10; refine (trOf_any _ vt vu ds es HK.out HD.out HE.out (by have := of_decide_eq_true HF.out; omega)).mono ?_; rintro e w4 ⟨gt, rfl, ht, hb⟩
         rw [← HL0.out] at ht
         have HT : Hid (TT w4 gt l0) := ht
         clear ht
         replace HG6 : Hid (Blk w4 g6 (cb x) 28) := HG6.out.below hb HG6.out.lt
         replace HG7 : Hid (Blk w4 g7 (cb v) 28) := HG7.out.below hb HG7.out.lt
         replace HK : Hid (KOk w4) := HK.out.below hb HK.out.lt
         replace HBW : Hid (Below w.heap.size w w4) := HBW.out.trans (hb.mono HBW.out.size)
         clear hb)
      | (clear tk4; with_reducible refine wpSeq_loadD (.tmp 6) g6 x HX.out HG6.out ?_ ?_ ?_ ?_
         · rfl
         · rfl
         · rfl
         have HQ1 : Hid True := trivial)
      | (clear tk5; with_reducible refine wpSeq_loadD (.tmp 7) g7 v HV.out HG7.out ?_ ?_ ?_ ?_
         · rfl
         · rfl
         · rfl
         have HQ2 : Hid True := trivial)
      | (clear tk6; go_at_call 19; refine (trPut_any _ gt l0 x v HK.out HT.out (Nat.lt_of_le_of_lt HOK.out.2.2 (by decide)) HX.out HV.out).mono ?_; rintro e w5 ⟨gu, rfl, ht, hb⟩
         rw [← HL1.out] at ht
         have HU : Hid (TT w5 gu l1) := ht
         clear ht HG6 HG7
         replace HT : Hid (TT w5 gt l0) := HT.out.next hb
         replace HK : Hid (KOk w5) := HK.out.below hb HK.out.lt
         replace HBW : Hid (Below w.heap.size w w5) := HBW.out.trans (hb.mono HBW.out.size)
         clear hb)
      | (clear tk7; go_at_call 11; refine (pgSave_any gt l0 _ HK.out HT.out (Nat.le_trans HOK.out.2.2 (by decide))).mono ?_; rintro e w6 ⟨vv6, us6, rfl, hp, hb⟩
         obtain ⟨dg6, HDG6⟩ : ∃ z, Hid (z = dig (topPg 0 l0)) := ⟨_, rfl⟩
         rw [← HDG6.out]
         have HDL6 : Hid (dg6.length = 32) := by show _ = _; rw [HDG6.out]; exact len_dig' _
         obtain ⟨gl, nl, cl, hvv, hrow⟩ := row17_of hp (save_pos 0 l0)
         subst hvv
         have HRL : Hid (Row17 w6 gl nl cl (saveL 0 l0)) := hrow
         clear hp hrow
         replace HU : Hid (TT w6 gu l1) := HU.out.next hb
         replace HK : Hid (KOk w6) := HK.out.below hb HK.out.lt
         replace HBW : Hid (Below w.heap.size w w6) := HBW.out.trans (hb.mono HBW.out.size)
         clear hb)
      | (clear tk8; with_reducible refine wpSeq_allocD ?_ ?_ ?_
         · rfl
         · rfl
         intro gd6 w7 nn
         have HN6 : Hid (Blk w7 gd6 (cb zb32) 28 ∧ w6.heap.size ≤ gd6 ∧ Below w6.heap.size w6 w7) := ⟨nn.blk, nn.ge, nn.below⟩
         clear nn)
      | (clear tk9; with_reducible refine wpSeq_storeD (.tmp 11) (.tmp 37) gd6 zb32 dg6 zb32_len HDL6.out HN6.out.1 ?_ ?_ ?_ ?_ ?_
         · rfl
         · rfl
         · rfl
         · rfl
         intro w8 h9
         have hb : Below w6.heap.size w6 w8 := HN6.out.2.2.trans (h9.only.below HN6.out.2.1 HN6.out.2.2.size)
         clear h9 HN6
         replace HU : Hid (TT w8 gu l1) := HU.out.next hb
         replace HRL : Hid (Row17 w8 gl nl cl (saveL 0 l0)) := HRL.out.next hb
         replace HK : Hid (KOk w8) := HK.out.below hb HK.out.lt
         replace HBW : Hid (Below w.heap.size w w8) := HBW.out.trans (hb.mono HBW.out.size)
         clear hb)
      | (clear tk10; go_at_call 11; refine (pgSave_any gu l1 _ HK.out HU.out (Nat.le_trans HOK1.out.2.2 (by decide))).mono ?_; rintro e w9 ⟨vv9, us9, rfl, hp, hb⟩
         obtain ⟨dg9, HDG9⟩ : ∃ z, Hid (z = dig (topPg 0 l1)) := ⟨_, rfl⟩
         rw [← HDG9.out]
         have HDL9 : Hid (dg9.length = 32) := by show _ = _; rw [HDG9.out]; exact len_dig' _
         obtain ⟨gm, nm, cm, hvv, hrow⟩ := row17_of hp (save_pos 0 l1)
         subst hvv
         have HRM : Hid (Row17 w9 gm nm cm (saveL 0 l1)) := hrow
         clear hp hrow
         replace HRL : Hid (Row17 w9 gl nl cl (saveL 0 l0)) := HRL.out.next hb
         replace HK : Hid (KOk w9) := HK.out.below hb HK.out.lt
         replace HBW : Hid (Below w.heap.size w w9) := HBW.out.trans (hb.mono HBW.out.size)
         clear hb)
      | (clear tk11; with_reducible refine wpSeq_allocD ?_ ?_ ?_
         · rfl
         · rfl
         intro gd9 w10 nn
         have HN9 : Hid (Blk w10 gd9 (cb zb32) 28 ∧ w9.heap.size ≤ gd9 ∧ Below w9.heap.size w9 w10) := ⟨nn.blk, nn.ge, nn.below⟩
         clear nn)
      | (clear tk12; with_reducible refine wpSeq_storeD (.tmp 13) (.tmp 42) gd9 zb32 dg9 zb32_len HDL9.out HN9.out.1 ?_ ?_ ?_ ?_ ?_
         · rfl
         · rfl
         · rfl
         · rfl
         intro w11 h9
         have hb : Below w9.heap.size w9 w11 := HN9.out.2.2.trans (h9.only.below HN9.out.2.1 HN9.out.2.2.size)
         clear h9 HN9
         replace HRL : Hid (Row17 w11 gl nl cl (saveL 0 l0)) := HRL.out.next hb
         replace HRM : Hid (Row17 w11 gm nm cm (saveL 0 l1)) := HRM.out.next hb
         replace HK : Hid (KOk w11) := HK.out.below hb HK.out.lt
         replace HBW : Hid (Below w.heap.size w w11) := HBW.out.trans (hb.mono HBW.out.size)
         clear hb))
    have HNL : Hid (nl = (saveL 0 l0).length ∧ nm = (saveL 0 l1).length ∧ 0 < nm) := ⟨HRL.out.len, HRM.out.len, by rw [HRM.out.len]; exact save_pos _ _⟩
    obtain ⟨O, HOO⟩ : ∃ z, Hid (z = saveL 0 l0) := ⟨_, rfl⟩
    obtain ⟨m, HMM⟩ : ∃ z, Hid (z = saveL 0 l1) := ⟨_, rfl⟩
    rw [← HOO.out] at HRL HCT HSZ HNL
    rw [← HMM.out] at HRM HCT HSZ HNL
    clear HT HU HOK HOK1
    go_loopw [15, 16] (fun u i wr => ∃ k n : Nat, k ≤ nm ∧ i = .int .i64 k ∧ u = .int .i64 n ∧ Hid (n = (m.take k).countP (fun p => decide (p ∉ O))) ∧ Hid (Below w11.heap.size w11 wr)) (fun _ i _ => nm - (intOf i).toNat)
    case atStart => exact ⟨0, 0, Nat.zero_le _, rfl, rfl, (by show _ = _; simp), Below.refl _ _⟩
    case round =>
      obtain ⟨i, n, hi, rfl, rfl, HN0, HBL⟩ := hrel
      have HN : Hid (n = (m.take i).countP (fun p => decide (p ∉ O)) ∧ n ≤ i) := ⟨HN0.out, by rw [HN0.out]; exact Nat.le_trans List.countP_le_length (List.length_take_le _ _)⟩
      clear HN0
      by_cases hlt : i < nm
      case pos =>
        obtain ⟨p, HPP⟩ : ∃ z, Hid (z = m.getD i []) := ⟨_, rfl⟩
        have HIM : Hid (i < m.length ∧ i < 1000000) := ⟨by rw [← HNL.out.2.1]; exact hlt, by have := HSZ.out.2; have := HNL.out.2.1; omega⟩
        have HRP : Hid (∀ W, Below w11.heap.size w11 W → ∃ u, W.cell? ⟨gm, i, none⟩ = some u ∧ Reads W u p) := fun W hW => by
          obtain ⟨u, h1, h2⟩ := (HRM.out.next hW).at_ i hlt
          exact ⟨u, h1, by rw [HPP.out]; exact h2⟩
        have HCN : Hid ((m.take (i + 1)).countP (fun p => decide (p ∉ O)) = n + (if p ∈ O then 0 else 1)) := by
          show _ = _
          rw [count_take17 O m i HIM.out.1, ← HN.out.1, ← HPP.out]
        obtain ⟨n1, HN1⟩ : ∃ z, Hid (z = n + 1) := ⟨_, rfl⟩
        have rdn : IntKind.i64.wrap ((n : Int) + 1) = (n1 : Int) := by rw [IntKind.wrap_i64, HN1.out]; have := HN.out.2; have := HIM.out.2; omega
        have rdi : IntKind.i64.wrap ((i : Int) + 1) = (i : Int) + 1 := by rw [IntKind.wrap_i64]; have := HIM.out.2; omega
        have hli : (i : Int) < (nm : Int) := by omega
        go_wp2
        go_loopw [17, 18] (fun t q w2 => ∃ (k : Nat) (tb : Bool), k ≤ nl ∧ q = .int .i64 k ∧ t = .bool tb ∧ Hid (tb = decide (p ∈ O.take k)) ∧ Hid (Below w11.heap.size w11 w2)) (fun _ q _ => nl - (intOf q).toNat)
        case atStart => exact ⟨0, false, Nat.zero_le _, rfl, rfl, (by show _ = _; simp), HBL⟩
        case round =>
          rename World => wq
          clear HBL
          obtain ⟨k, tb, hk, rfl, rfl, HTB, HBQ⟩ := hrel
          by_cases hkl : k < nl
          case pos =>
            have hlk3 : (k : Int) < (nl : Int) := by omega
            have HKO : Hid (k < O.length ∧ k < 1000000) := ⟨by rw [← HNL.out.1]; exact hkl, by have := HSZ.out.1; have := HNL.out.1; omega⟩
            have f7 : IntKind.i64.wrap ((k : Int) + 1) = (k : Int) + 1 := by rw [IntKind.wrap_i64]; have := HKO.out.2; omega
            obtain ⟨o, HO⟩ : ∃ z, Hid (z = O.getD k []) := ⟨_, rfl⟩
            obtain ⟨c2, HC2⟩ : ∃ z, Hid (z = decide (o = p)) := ⟨_, rfl⟩
            have HTM : Hid (decide (p ∈ O.take (k + 1)) = (tb || c2)) := by show _ = _; rw [mem_take17 O p k HKO.out.1, ← HTB.out, HC2.out, HO.out]
            have HBQ2 : Hid (Below w11.heap.size w11 wq.drew) := HBQ.out.drew
            cases tb with
            | true =>
              have HT1 : Hid (true = decide (p ∈ O.take (k + 1))) := by show _ = _; rw [HTM.out]; rfl
              go_wp2
              refine wp_region_held_drew (S := fun W => W = wq.drew) (by kernel_rfl) rfl ?_
              intro hS
              obtain ⟨y, HY⟩ : ∃ z, z = wq.drew := ⟨_, rfl⟩
              rw [← HY] at HBQ2 hS ⊢
              refine wpAnyH_take (i := 0) (v := .bool true) rfl (by kernel_rfl) (by kernel_rfl) (by kernel_rfl) (fun _ _ _ h => h) (Or.inl ⟨by rfl, fun wx hx => by simp [go_sem]⟩) hS ?_
              simp only [Act.put, List.getElem_toArray, List.getElem_cons_zero, List.setIfInBounds_toArray, List.set_cons_zero, List.set_cons_succ]
              refine wpAnyH_take (i := 1) (v := .bool true) rfl (by kernel_rfl) (by kernel_rfl) (by kernel_rfl) (fun _ _ _ h => h) (Or.inl ⟨by rfl, fun wx hx => by simp [go_sem]⟩) hS ?_
              simp only [Act.put, List.getElem_toArray, List.getElem_cons_succ, List.getElem_cons_zero, List.setIfInBounds_toArray, List.set_cons_zero, List.set_cons_succ]
              refine wpAnyH_take (i := 2) (v := undef) rfl (by kernel_rfl) (by kernel_rfl) (by kernel_rfl) (fun _ _ _ h => h) (Or.inr ⟨by rfl, rfl⟩) hS ?_
              simp only [Act.put, List.getElem_toArray, List.getElem_cons_succ, List.getElem_cons_zero, List.setIfInBounds_toArray, List.set_cons_zero, List.set_cons_succ]
              refine wpAnyH_take (i := 3) (v := undef) rfl (by kernel_rfl) (by kernel_rfl) (by kernel_rfl) (fun _ _ _ h => h) (Or.inr ⟨by rfl, rfl⟩) hS ?_
              simp only [Act.put, List.getElem_toArray, List.getElem_cons_succ, List.getElem_cons_zero, List.setIfInBounds_toArray, List.set_cons_zero, List.set_cons_succ]
              refine wpAnyH_take (i := 4) (v := undef) rfl (by kernel_rfl) (by kernel_rfl) (by kernel_rfl) (fun _ _ _ h => h) (Or.inr ⟨by rfl, rfl⟩) hS ?_
              simp only [Act.put, List.getElem_toArray, List.getElem_cons_succ, List.getElem_cons_zero, List.setIfInBounds_toArray, List.set_cons_zero, List.set_cons_succ]
              refine wpAnyH_take (i := 5) (v := undef) rfl (by kernel_rfl) (by kernel_rfl) (by kernel_rfl) (fun _ _ _ h => h) (Or.inr ⟨by rfl, rfl⟩) hS ?_
              simp only [Act.put, List.getElem_toArray, List.getElem_cons_succ, List.getElem_cons_zero, List.setIfInBounds_toArray, List.set_cons_zero, List.set_cons_succ]
              refine wpAnyH_take (i := 6) (v := undef) rfl (by kernel_rfl) (by kernel_rfl) (by kernel_rfl) (fun _ _ _ h => h) (Or.inr ⟨by rfl, rfl⟩) hS ?_
              simp only [Act.put, List.getElem_toArray, List.getElem_cons_succ, List.getElem_cons_zero, List.setIfInBounds_toArray, List.set_cons_zero, List.set_cons_succ]
              refine wpAnyH_take (i := 7) (v := undef) rfl (by kernel_rfl) (by kernel_rfl) (by kernel_rfl) (fun _ _ _ h => h) (Or.inr ⟨by rfl, rfl⟩) hS ?_
              simp only [Act.put, List.getElem_toArray, List.getElem_cons_succ, List.getElem_cons_zero, List.setIfInBounds_toArray, List.set_cons_zero, List.set_cons_succ]
              refine wpAnyH_take (i := 8) (v := undef) rfl (by kernel_rfl) (by kernel_rfl) (by kernel_rfl) (fun _ _ _ h => h) (Or.inr ⟨by rfl, rfl⟩) hS ?_
              simp only [Act.put, List.getElem_toArray, List.getElem_cons_succ, List.getElem_cons_zero, List.setIfInBounds_toArray, List.set_cons_zero, List.set_cons_succ]
              refine wpAnyH_take (i := 9) (v := undef) rfl (by kernel_rfl) (by kernel_rfl) (by kernel_rfl) (fun _ _ _ h => h) (Or.inr ⟨by rfl, rfl⟩) hS ?_
              simp only [Act.put, List.getElem_toArray, List.getElem_cons_succ, List.getElem_cons_zero, List.setIfInBounds_toArray, List.set_cons_zero, List.set_cons_succ]
              refine wpAnyH_take (i := 10) (v := undef) rfl (by kernel_rfl) (by kernel_rfl) (by kernel_rfl) (fun _ _ _ h => h) (Or.inr ⟨by rfl, rfl⟩) hS ?_
              simp only [Act.put, List.getElem_toArray, List.getElem_cons_succ, List.getElem_cons_zero, List.setIfInBounds_toArray, List.set_cons_zero, List.set_cons_succ]
              refine wpAnyH_take (i := 11) (v := undef) rfl (by kernel_rfl) (by kernel_rfl) (by kernel_rfl) (fun _ _ _ h => h) (Or.inr ⟨by rfl, rfl⟩) hS ?_
              simp only [Act.put, List.getElem_toArray, List.getElem_cons_succ, List.getElem_cons_zero, List.setIfInBounds_toArray, List.set_cons_zero, List.set_cons_succ]
              refine wpAnyH_take (i := 12) (v := undef) rfl (by kernel_rfl) (by kernel_rfl) (by kernel_rfl) (fun _ _ _ h => h) (Or.inr ⟨by rfl, rfl⟩) hS ?_
              simp only [Act.put, List.getElem_toArray, List.getElem_cons_succ, List.getElem_cons_zero, List.setIfInBounds_toArray, List.set_cons_zero, List.set_cons_succ]
              refine wpAnyH_take (i := 13) (v := .bool true) rfl (by kernel_rfl) (by kernel_rfl) (by kernel_rfl) (fun _ _ _ h => h) (Or.inl ⟨by rfl, fun wx hx => by simp [go_sem]⟩) hS ?_
              simp only [Act.put, List.getElem_toArray, List.getElem_cons_succ, List.getElem_cons_zero, List.setIfInBounds_toArray, List.set_cons_zero, List.set_cons_succ]
              refine wpAnyH_take (i := 14) (v := .bool true) rfl (by kernel_rfl) (by kernel_rfl) (by kernel_rfl) (fun _ _ _ h => h) (Or.inl ⟨by rfl, fun wx hx => by simp [go_sem]⟩) hS ?_
              simp only [Act.put, List.getElem_toArray, List.getElem_cons_succ, List.getElem_cons_zero, List.setIfInBounds_toArray, List.set_cons_zero, List.set_cons_succ]
              refine wpAnyH_done (by kernel_rfl) ?_ _
              clear hS HY
              go_wp2
              go_roundw
              case rel => exact ⟨k + 1, true, by omega, by simp, rfl, HT1, HBQ2⟩
              case measure => simp [intOf]; omega
            | false =>
              have HT1 : Hid (c2 = decide (p ∈ O.take (k + 1))) := by show _ = _; rw [HTM.out]; rfl
              obtain ⟨v2, hc2, hr2⟩ := (HRL.out.next HBQ.out).at_ k hkl
              rw [← HO.out] at hr2
              obtain ⟨a2, p2, hv2, hq2⟩ := id hr2
              clear hq2
              obtain ⟨n2, HN2⟩ : ∃ z, Hid (z = o.length) := ⟨_, rfl⟩
              rw [← HN2.out] at hv2
              subst hv2
              obtain ⟨v3, hc3, hr3⟩ := HRP.out wq HBQ.out
              obtain ⟨a3, p3, hv3, hq3⟩ := id hr3
              clear hq3
              obtain ⟨n3, HN3⟩ : ∃ z, Hid (z = p.length) := ⟨_, rfl⟩
              rw [← HN3.out] at hv3
              subst hv3
              have HR2 : Hid (Reads wq.drew (.slice a2 n2 p2) o) := hr2
              have HR3 : Hid (Reads wq.drew (.slice a3 n3 p3) p) := hr3
              have HCE2 : Hid (wq.drew.cell? ⟨gl, k, none⟩ = some (.slice a2 n2 p2)) := hc2
              have HCE3 : Hid (wq.drew.cell? ⟨gm, i, none⟩ = some (.slice a3 n3 p3)) := hc3
              have HEQ : Hid (((strB o).toList == (strB p).toList) = c2) := by show _ = _; rw [strB_inj, HC2.out]
              clear hc2 hr2 hc3 hr3
              go_wp2
              refine wp_region_held_drew (S := fun W => W = wq.drew) (by kernel_rfl) rfl ?_
              intro hS
              obtain ⟨y, HY⟩ : ∃ z, z = wq.drew := ⟨_, rfl⟩
              rw [← HY] at HBQ2 HR2 HR3 HCE2 HCE3 hS ⊢
              refine wpAnyH_take (i := 0) (v := .bool false) rfl (by kernel_rfl) (by kernel_rfl) (by kernel_rfl) (fun _ _ _ h => h) (Or.inl ⟨by rfl, fun wx hx => by simp [go_sem]⟩) hS ?_
              simp only [Act.put, List.getElem_toArray, List.getElem_cons_zero, List.setIfInBounds_toArray, List.set_cons_zero, List.set_cons_succ]
              refine wpAnyH_take (i := 1) (v := .bool false) rfl (by kernel_rfl) (by kernel_rfl) (by kernel_rfl) (fun _ _ _ h => h) (Or.inl ⟨by rfl, fun wx hx => by simp [go_sem]⟩) hS ?_
              simp only [Act.put, List.getElem_toArray, List.getElem_cons_succ, List.getElem_cons_zero, List.setIfInBounds_toArray, List.set_cons_zero, List.set_cons_succ]
              refine wpAnyH_take (i := 2) (v := .slice (some ⟨gl, 0, none⟩) nl cl) rfl (by kernel_rfl) (by kernel_rfl) (by kernel_rfl) (fun _ _ _ h => h) (Or.inl ⟨by rfl, fun wx hx => by simp [go_sem]⟩) hS ?_
              simp only [Act.put, List.getElem_toArray, List.getElem_cons_succ, List.getElem_cons_zero, List.setIfInBounds_toArray, List.set_cons_zero, List.set_cons_succ]
              refine wpAnyH_take (i := 3) (v := .int .i64 (k : Int)) rfl (by kernel_rfl) (by kernel_rfl) (by kernel_rfl) (fun _ _ _ h => h) (Or.inl ⟨by rfl, fun wx hx => by simp [go_sem]⟩) hS ?_
              simp only [Act.put, List.getElem_toArray, List.getElem_cons_succ, List.getElem_cons_zero, List.setIfInBounds_toArray, List.set_cons_zero, List.set_cons_succ]
              refine wpAnyH_take (i := 4) (v := .pointer (some ⟨gl, k, none⟩)) rfl (by kernel_rfl) (by kernel_rfl) (by kernel_rfl) (fun _ _ _ h => h) (Or.inl ⟨by rfl, fun wx hx => by exact idxP gl nl cl k hkl _ _ _ _ rfl rfl rfl _⟩) hS ?_
              simp only [Act.put, List.getElem_toArray, List.getElem_cons_succ, List.getElem_cons_zero, List.setIfInBounds_toArray, List.set_cons_zero, List.set_cons_succ]
              refine wpAnyH_take (i := 5) (v := .slice a2 n2 p2) rfl (by kernel_rfl) (by kernel_rfl) (by kernel_rfl) (fun _ _ _ h => h) (Or.inl ⟨by rfl, fun wx hx => by (rw [hx]; have hc := HCE2.out; simp [go_sem, hc])⟩) hS ?_
              simp only [Act.put, List.getElem_toArray, List.getElem_cons_succ, List.getElem_cons_zero, List.setIfInBounds_toArray, List.set_cons_zero, List.set_cons_succ]
              refine wpAnyH_take (i := 6) (v := .string (strB o)) rfl (by kernel_rfl) (by kernel_rfl) (by kernel_rfl) (fun _ _ _ h => h) (Or.inl ⟨by rfl, fun wx hx => by (rw [hx]; have hc := conv_reads HR2.out; simp [go_sem, hc])⟩) hS ?_
              simp only [Act.put, List.getElem_toArray, List.getElem_cons_succ, List.getElem_cons_zero, List.setIfInBounds_toArray, List.set_cons_zero, List.set_cons_succ]
              refine wpAnyH_take (i := 7) (v := .slice (some ⟨gm, 0, none⟩) nm cm) rfl (by kernel_rfl) (by kernel_rfl) (by kernel_rfl) (fun _ _ _ h => h) (Or.inl ⟨by rfl, fun wx hx => by simp [go_sem]⟩) hS ?_
              simp only [Act.put, List.getElem_toArray, List.getElem_cons_succ, List.getElem_cons_zero, List.setIfInBounds_toArray, List.set_cons_zero, List.set_cons_succ]
              refine wpAnyH_take (i := 8) (v := .int .i64 (i : Int)) rfl (by kernel_rfl) (by kernel_rfl) (by kernel_rfl) (fun _ _ _ h => h) (Or.inl ⟨by rfl, fun wx hx => by simp [go_sem]⟩) hS ?_
              simp only [Act.put, List.getElem_toArray, List.getElem_cons_succ, List.getElem_cons_zero, List.setIfInBounds_toArray, List.set_cons_zero, List.set_cons_succ]
              refine wpAnyH_take (i := 9) (v := .pointer (some ⟨gm, i, none⟩)) rfl (by kernel_rfl) (by kernel_rfl) (by kernel_rfl) (fun _ _ _ h => h) (Or.inl ⟨by rfl, fun wx hx => by exact idxP gm nm cm i hlt _ _ _ _ rfl rfl rfl _⟩) hS ?_
              simp only [Act.put, List.getElem_toArray, List.getElem_cons_succ, List.getElem_cons_zero, List.setIfInBounds_toArray, List.set_cons_zero, List.set_cons_succ]
              refine wpAnyH_take (i := 10) (v := .slice a3 n3 p3) rfl (by kernel_rfl) (by kernel_rfl) (by kernel_rfl) (fun _ _ _ h => h) (Or.inl ⟨by rfl, fun wx hx => by (rw [hx]; have hc := HCE3.out; simp [go_sem, hc])⟩) hS ?_
              simp only [Act.put, List.getElem_toArray, List.getElem_cons_succ, List.getElem_cons_zero, List.setIfInBounds_toArray, List.set_cons_zero, List.set_cons_succ]
              refine wpAnyH_take (i := 11) (v := .string (strB p)) rfl (by kernel_rfl) (by kernel_rfl) (by kernel_rfl) (fun _ _ _ h => h) (Or.inl ⟨by rfl, fun wx hx => by (rw [hx]; have hc := conv_reads HR3.out; simp [go_sem, hc])⟩) hS ?_
              simp only [Act.put, List.getElem_toArray, List.getElem_cons_succ, List.getElem_cons_zero, List.setIfInBounds_toArray, List.set_cons_zero, List.set_cons_succ]
              refine wpAnyH_take (i := 12) (v := .bool c2) rfl (by kernel_rfl) (by kernel_rfl) (by kernel_rfl) (fun _ _ _ h => h) (Or.inl ⟨by rfl, fun wx hx => by (have hs := HEQ.out; simp [go_sem, hs])⟩) hS ?_
              simp only [Act.put, List.getElem_toArray, List.getElem_cons_succ, List.getElem_cons_zero, List.setIfInBounds_toArray, List.set_cons_zero, List.set_cons_succ]
              refine wpAnyH_take (i := 13) (v := .bool c2) rfl (by kernel_rfl) (by kernel_rfl) (by kernel_rfl) (fun _ _ _ h => h) (Or.inl ⟨by rfl, fun wx hx => by simp [go_sem]⟩) hS ?_
              simp only [Act.put, List.getElem_toArray, List.getElem_cons_succ, List.getElem_cons_zero, List.setIfInBounds_toArray, List.set_cons_zero, List.set_cons_succ]
              refine wpAnyH_take (i := 14) (v := .bool c2) rfl (by kernel_rfl) (by kernel_rfl) (by kernel_rfl) (fun _ _ _ h => h) (Or.inl ⟨by rfl, fun wx hx => by simp [go_sem]⟩) hS ?_
              simp only [Act.put, List.getElem_toArray, List.getElem_cons_succ, List.getElem_cons_zero, List.setIfInBounds_toArray, List.set_cons_zero, List.set_cons_succ]
              refine wpAnyH_done (by kernel_rfl) ?_ _
              clear hS HY
              go_wp2
              go_roundw
              case rel => exact ⟨k + 1, c2, by omega, by simp, rfl, HT1, HBQ2⟩
              case measure => simp [intOf]; omega
          case neg =>
            have hke : k = nl := by omega
            have HTA : Hid (tb = decide (p ∈ O)) := by show _ = _; rw [HTB.out, hke, HNL.out.1, List.take_length]
            subst hke
            cases tb with
            | true =>
              have HNX : Hid (n = (m.take (i + 1)).countP (fun p => decide (p ∉ O))) := by show _ = _; rw [HCN.out, if_pos (of_decide_eq_true HTA.out.symm)]; rfl
              go_wp2
              go_roundw
              case rel => exact ⟨i + 1, n, by omega, by simp, rfl, HNX, HBQ⟩
              case measure => simp [intOf]; omega
            | false =>
              have HNX : Hid (n1 = (m.take (i + 1)).countP (fun p => decide (p ∉ O))) := by show _ = _; rw [HCN.out, if_neg (of_decide_eq_false HTA.out.symm), HN1.out]
              go_wp2
              go_roundw
              case rel => exact ⟨i + 1, n1, by omega, by simp, rfl, HNX, HBQ⟩
              case measure => simp [intOf]; omega
      case neg =>
        have hie : i = nm := by omega
        have h257 : (n : Int) ≤ 257 := by
          have h1 := HCT.out
          have h2 := HN.out.1
          rw [hie, HNL.out.2.1, List.take_length] at h2
          omega
        have h1m : (1 : Int) ≤ (nm : Int) := by have := HNL.out.2.2; omega
        have HKR : Hid (KOk wr) := HK.out.below HBL.out HK.out.lt
        subst hie
        have tk0 : Hid True := trivial
        go_wp2_with (first
          | (clear tk0; go_at_call 9; refine (works17_any _ HKR.out).mono ?_; rintro e w20 ⟨rfl, hb⟩
             have HBR : Hid (Below w.heap.size w w20) := HBW.out.trans ((HBL.out.trans (hb.mono HBL.out.size)).mono HBW.out.size)
             clear hb))
        go_ret
        exact ⟨rfl, HBR.out⟩
end Go.Proofs.YtlhbbkohndggmaaDoor
/- What the listed variable gives: the rounds' words lie where the walks look for them. -/
namespace Go.Proofs.YtlhbbkohndggmaaDoor
open Go.ChangeShapes Go.WideShapes Go.ChangeAt Go.WideMaps Go.WideElems Go.RowKit
set_option maxRecDepth 100000
theorem own : ownKnob Tryd.prog.godebug = none := by kernel_rfl
theorem gKw : Tryd.prog.globalNamed "blazon/sha.roundWords" = some 1 := by kernel_rfl
theorem tKw : (Tryd.prog.globals[1]?).map (·.type) = some 118 := by kernel_rfl
def laidK : List (String × DataW Unit) := [("blazon/sha.roundWords", Rows.laid_blazon_sha_roundWords)]
def kzs : List Int := kw.map fun x => (x.toNat : Int)
theorem laid_tab : (Rows.laid_blazon_sha_roundWords : DataW Unit) = Lib.tabData .u32 kzs := by kernel_rfl
theorem door_met (os : Os) (args : Array Value) : laidMetH Tryd.prog laidK ((World.doorLaid Tryd.prog 400 os).forCall (fun _ _ => 0) ⟨#[], args, []⟩).memory :=
  laidMetH_of_parts3 (fuel := 8) (laidMet_of_run' 8 (by kernel_rfl) (by kernel_rfl)) (by kernel_rfl) (by kernel_rfl)
theorem getD_toNat (l : List (BitVec 32)) (j : Nat) : (l.map fun x => (x.toNat : Int)).getD j 0 = ((l.getD j 0).toNat : Int) := by
  rw [List.getD_eq_getElem?_getD, List.getD_eq_getElem?_getD, List.getElem?_map]
  cases l[j]? <;> rfl
theorem kok_of_laid {W : World} (h : laidMetH Tryd.prog laidK W) : KOk W := by
  rw [MakeChecks.laidMetH_plain _ _ _ (by kernel_rfl)] at h
  unfold laidK at h
  rw [laid_tab] at h
  have hT := Lib.tabIs_of_head gKw tKw Tryd.underlying118 Tryd.underlying108 (by kernel_rfl) (by kernel_rfl) h
  intro j hj
  rw [hT.cell gKw j (by simpa [kzs, kw] using hj), kzs, getD_toNat]
end Go.Proofs.YtlhbbkohndggmaaDoor
/- What a slice of bytes that came in gives: the bytes that it reads as; and that it reads so still behind a call that changed no old block. -/
namespace Go.Proofs.YtlhbbkohndggmaaDoor
open Go.ChangeShapes Go.WideShapes Go.ChangeAt Go.WideMaps Go.WideElems Go.RowKit
set_option maxRecDepth 100000
theorem cells_byte : Tryd.prog.cellsOf 5 = 1 := by kernel_rfl
theorem laid_out : laidOutB Tryd.prog = true := by kernel_rfl
end Go.Proofs.YtlhbbkohndggmaaDoor
/- What a digest that came in gives: its 32 bytes. -/
namespace Go.Proofs.YtlhbbkohndggmaaDoor
open Go.ChangeShapes Go.WideShapes Go.ChangeAt Go.WideMaps Go.WideElems Go.RowKit
set_option maxRecDepth 100000
theorem cells_digest : Tryd.prog.cellsOf 28 = 32 := by kernel_rfl
theorem readable_digest : Tryd.prog.readableRec 28 = true := by kernel_rfl
theorem row_digest : 28 < Tryd.prog.types.size := of_decide_eq_true (by kernel_rfl)
def numOf8 : Value → BitVec 8
  | .int _ n => BitVec.ofInt 8 n
  | _ => 0
theorem digest_of_trod {H : Type} {enc : TypeId × Value → H} {W : World} {base : Nat} {v : Value} {d : DataW H} {p : List MemPlace} (hval : Value.okWide Tryd.prog W .any base 28 v)
    (h : DataW.Trod enc Tryd.prog W 0 (fun _ => true) true 28 v d p) :
    ∃ dg, v = .agg (cb dg).toArray ∧ dg.length = 32 ∧ ∀ x ∈ p, x.block < W.heap.size := by
  simp only [Value.okWide, Tryd.underlying28] at hval
  obtain ⟨cs, rfl, hcs, _⟩ := hval
  obtain ⟨fuel, hf⟩ := h
  obtain ⟨xs, m, _, hx, hl, hn, hi⟩ := DataW.trod_array Tryd.underlying28 hf
  simp only [Value.cells] at hl hi
  rw [cells_digest] at hl
  rw [cells_byte] at hi
  have each : ∀ i, i < 32 → ∃ n, cs.toList[i]? = some (.int .u8 n) ∧ xs[i]? = some (.lit (.int .u8 n), []) ∧ (Lit.int .u8 n).wf = true := by
    intro i h32
    have h1 := hi i h32
    rw [List.getElem?_eq_getElem (by omega)] at h1
    obtain ⟨n, hc, hxx, hw⟩ := DataW.trod_int Tryd.underlying5 h1
    refine ⟨n, ?_, by rw [List.getElem?_eq_getElem (by omega), hxx], hw⟩
    rw [Nat.mul_one] at hc
    have h2 := congrArg (fun l => l[0]?) hc
    simpa using h2
  have hlen : (cs.toList.map numOf8).length = 32 := by simpa using hl
  refine ⟨cs.toList.map numOf8, ?_, hlen, ?_⟩
  · congr 1
    apply Array.ext'
    rw [List.toList_toArray]
    apply List.ext_getElem?
    intro i
    by_cases h32 : i < 32
    · obtain ⟨n, h1, _, hw⟩ := each i h32
      have hb := bounds_u8 hw
      rw [h1, cb_get _ _ (by omega), List.getD_eq_getElem?_getD, List.getElem?_map, h1]
      simp only [Option.map_some, Option.getD_some, numOf8, BitVec.toNat_ofInt]
      congr 2
      omega
    · rw [List.getElem?_eq_none (by omega), List.getElem?_eq_none (by rw [cb_len]; omega)]
  · simp only [Prod.mk.injEq] at hx
    rw [hx.2]
    intro x hmem
    obtain ⟨y, hy, hxy⟩ := List.mem_flatMap.1 hmem
    obtain ⟨i, hlt, rfl⟩ := List.getElem_of_mem hy
    obtain ⟨n, _, h2, _⟩ := each i (by omega)
    rw [List.getElem?_eq_getElem hlt] at h2
    rw [Option.some.inj h2] at hxy
    cases hxy
end Go.Proofs.YtlhbbkohndggmaaDoor
/- What a slice of digests that came in gives; five arguments that came in, opened and shut (for the statements of layer 7). -/
namespace Go.Proofs.YtlhbbkohndggmaaDoor
open Go.ChangeShapes Go.WideShapes Go.ChangeAt Go.WideMaps Go.WideElems Go.RowKit
set_option maxRecDepth 100000
set_option maxRecDepth 100000 in
theorem bulk_pos {H : Type} (d : DataW H) : 1 ≤ Rows.uptoBulk d := by
  cases d with
  | lit l => cases l <;> simp [Rows.uptoBulk]
  | _ => simp [Rows.uptoBulk]
set_option maxRecDepth 100000 in
theorem bulk_slice {H : Type} (e s : List (DataW H)) : Rows.uptoBulkAll e ≤ Rows.uptoBulk (DataW.slice e s) := by
  simp only [Rows.uptoBulk]; omega
set_option maxRecDepth 100000 in
theorem bulk_len {H : Type} : ∀ l : List (DataW H), l.length ≤ Rows.uptoBulkAll l
  | [] => Nat.zero_le _
  | d :: r => by
    have h1 := bulk_len r
    have h2 := bulk_pos d
    simp only [Rows.uptoBulkAll, List.length_cons]
    omega
theorem digest_of_cells {H : Type} {enc : TypeId × Value → H} {W : World} {cs : List Value} {d : DataW H} {p : List MemPlace} {fuel : Nat} (hf : DataW.trod enc Tryd.prog W 0 (fun _ => true) true fuel 28 cs = some (d, p)) :
    ∃ dg, cs = cb dg ∧ dg.length = 32 ∧ ∀ x ∈ p, x.block < W.heap.size := by
  obtain ⟨xs, m, _, hx, hl, hn, hi⟩ := DataW.trod_array Tryd.underlying28 hf
  rw [cells_digest] at hl
  rw [cells_byte] at hi
  have each : ∀ i, i < 32 → ∃ n, cs[i]? = some (.int .u8 n) ∧ xs[i]? = some (.lit (.int .u8 n), []) ∧ (Lit.int .u8 n).wf = true := by
    intro i h32
    have h1 := hi i h32
    rw [List.getElem?_eq_getElem (by omega)] at h1
    obtain ⟨n, hc, hxx, hw⟩ := DataW.trod_int Tryd.underlying5 h1
    refine ⟨n, ?_, by rw [List.getElem?_eq_getElem (by omega), hxx], hw⟩
    rw [Nat.mul_one] at hc
    have h2 := congrArg (fun l => l[0]?) hc
    simpa using h2
  have hlen : (cs.map numOf8).length = 32 := by simpa using hl
  refine ⟨cs.map numOf8, ?_, hlen, ?_⟩
  · apply List.ext_getElem?
    intro i
    by_cases h32 : i < 32
    · obtain ⟨n, h1, _, hw⟩ := each i h32
      have hb := bounds_u8 hw
      rw [h1, cb_get _ _ (by omega), List.getD_eq_getElem?_getD, List.getElem?_map, h1]
      simp only [Option.map_some, Option.getD_some, numOf8, BitVec.toNat_ofInt]
      congr 2
      omega
    · rw [List.getElem?_eq_none (by omega), List.getElem?_eq_none (by rw [cb_len]; omega)]
  · simp only [Prod.mk.injEq] at hx
    rw [hx.2]
    intro x hmem
    obtain ⟨y, hy, hxy⟩ := List.mem_flatMap.1 hmem
    obtain ⟨i, hlt, rfl⟩ := List.getElem_of_mem hy
    obtain ⟨n, _, h2, _⟩ := each i (by omega)
    rw [List.getElem?_eq_getElem hlt] at h2
    rw [Option.some.inj h2] at hxy
    cases hxy
set_option maxRecDepth 100000 in
theorem readable_digests : Tryd.prog.readableRec 22 = true := by kernel_rfl
set_option maxRecDepth 100000 in
theorem row_digests : 22 < Tryd.prog.types.size := of_decide_eq_true (by kernel_rfl)
theorem readsD_of_trod {H : Type} {enc : TypeId × Value → H} {W : World} {base : Nat} {v : Value} {d : DataW H} {p : List MemPlace} (hval : Value.okWide Tryd.prog W .any base 22 v)
    (h : DataW.Trod enc Tryd.prog W 0 (fun _ => true) true 22 v d p) :
    ∃ ds, ReadsD W v ds ∧ ds.length ≤ Rows.uptoBulk d ∧ ∀ x ∈ p, x.block < W.heap.size := by
  obtain ⟨a1, len, cap, rfl⟩ := okWide_slice Tryd.underlying22 hval
  obtain ⟨fuel, hf⟩ := h
  rcases Go.Deep.open_slice Tryd.underlying22 hf with ⟨hcs, hx⟩ | ⟨a, len', cap', m, n, D, Pl, hcs, _, hl, hm, hmm, hx, hV⟩
  · simp [Value.cells] at hcs
    obtain ⟨rfl, rfl, rfl⟩ := hcs
    simp only [Prod.mk.injEq] at hx
    obtain ⟨rfl, rfl⟩ := hx
    exact ⟨[], ⟨⟨none, 0, rfl, Nat.le_refl _, fun _ => rfl, fun h => by cases h⟩, fun _ h => by cases h⟩, Nat.zero_le _, fun _ h => by cases h⟩
  · simp [Value.cells] at hcs
    obtain ⟨rfl, rfl, rfl⟩ := hcs
    simp only [Prod.mk.injEq] at hx
    obtain ⟨rfl, rfl⟩ := hx
    simp only [if_true] at hmm
    subst hmm
    rw [cells_digest] at hV
    obtain ⟨B, hB⟩ := Go.Deep.choose_lt (α := List (BitVec 8)) (p := fun i dg => W.cells? 0 (a.add (i * 32)) 32 = some (cb dg) ∧ dg.length = 32 ∧ ∀ x ∈ Pl i, x.block < W.heap.size) (fun i hi => by
      obtain ⟨cs', h1, h2⟩ := hV i hi
      obtain ⟨dg, rfl, h3, h4⟩ := digest_of_cells h2
      exact ⟨dg, h1, h3, h4⟩)
    have hlen : ((List.range len).map B).length = len := by simp
    obtain ⟨ab, ao, spot⟩ := a
    have cell : ∀ i, i < m → ∀ j, j < 32 → W.cell? ((⟨ab, ao, spot⟩ : Addr).add (i * 32 + j)) = (cb (B i))[j]? := by
      intro i hi j hj
      obtain ⟨h1, _, _⟩ := hB i hi
      obtain ⟨_, _, h4⟩ := World.cells?_some h1
      have := h4 j hj
      rw [Go.Deep.add_add] at this
      exact this
    have hspot : 0 < m → spot = none := fun hp => by
      have h := cell 0 hp 0 (by omega)
      rw [cb_get _ 0 (by rw [(hB 0 hp).2.1]; omega)] at h
      simpa [Addr.add] using World.cell?_spot h
    refine ⟨(List.range len).map B, ⟨⟨some ⟨ab, ao, spot⟩, m, by rw [hlen], by rw [hlen]; exact hl, (fun h => by cases h), fun hp => ?_⟩, ?_⟩, by rw [hlen]; exact Nat.le_trans (by have := bulk_len ((List.range len).map D); simpa using this) (bulk_slice _ _), fun x hx => ?_⟩
    · rw [hlen] at hp ⊢
      have hs := hspot (by omega)
      subst hs
      refine ⟨ab, ao, rfl, fun j hj i v hv => ?_⟩
      have e : ((List.range len).map B).getD j [] = B j := by simp [hj]
      rw [e] at hv
      have hi : i < 32 := by have := (List.getElem?_eq_some_iff.1 hv).1; rwa [cb_len, (hB j (by omega)).2.1] at this
      have h := cell j (by omega) i hi
      rw [hv, Addr.add_lit] at h
      rw [Nat.add_assoc]; exact h
    · intro dg hd
      obtain ⟨i, hi, rfl⟩ := List.mem_map.1 hd
      exact (hB i (by have := List.mem_range.1 hi; omega)).2.1
    · rcases List.mem_append.1 hx with hx | hx
      · rw [cells_digest] at hx
        simp only [MemPlace.row, List.mem_map, List.mem_range] at hx
        obtain ⟨i, hi, rfl⟩ := hx
        have h := cell (i / 32) (by omega) (i % 32) (by omega)
        rw [cb_get _ _ (by rw [(hB (i / 32) (by omega)).2.1]; omega), show i / 32 * 32 + i % 32 = i by omega] at h
        have := block_lt_of_cell h
        simp only [Addr.add] at this
        split at this <;> exact this
      · obtain ⟨i, hi, hx⟩ := List.mem_flatMap.1 hx
        exact (hB i (List.mem_range.1 hi)).2.2 x hx
end Go.Proofs.YtlhbbkohndggmaaDoor
/- SameTexts of blazonref04, at this seat; the walk of the statement PagesOne (layer 17). -/
namespace Go.Proofs.YtlhbbkohndggmaaDoor
open Go.RowKit
set_option maxRecDepth 100000
theorem take_same {α : Type} {a b : List α} {k : Nat} (z : α) (h : a.take k = b.take k) (ha : k < a.length) (hb : k < b.length) (he : a.getD k z = b.getD k z) : a.take (k + 1) = b.take (k + 1) := by
  rw [List.getD_eq_getElem?_getD, List.getD_eq_getElem?_getD, List.getElem?_eq_getElem ha, List.getElem?_eq_getElem hb] at he
  rw [List.take_add_one, List.take_add_one, h, List.getElem?_eq_getElem ha, List.getElem?_eq_getElem hb]
  simp only [Option.getD_some] at he
  rw [he]
theorem Reads.drewN {w : World} {v : Value} {l : List (BitVec 8)} (h : Reads w v l) (q : Nat) : Reads (w.drewN q) v l := h
set_option maxRecDepth 100000 in
set_option maxHeartbeats 1000000 in
theorem sametexts_any (va vb : Value) (a b : List (List (BitVec 8))) (w : World) (ha : ReadsL w va a) (hb : ReadsL w vb b) (hl : a.length < 4611686018427387904) :
    Calls Tryd.prog 14 #[va, vb] w fun e w' => e = .returned (.bool (decide (a = b))) ∧ ∃ q, w' = w.drewN q := by
  have HA : Hid (ReadsL w va a) := ha
  have HB : Hid (ReadsL w vb b) := hb
  have hnot : ∀ (x : Bool) (w : World), (Op.unary .not (.bool x)).run Tryd.prog w = .ok (.bool (!x)) w := fun _ _ => rfl
  obtain ⟨ada, ca, hva, _, _, _⟩ := ha
  obtain ⟨adb, cb', hvb, _, _, _⟩ := hb
  obtain ⟨n, HN⟩ : ∃ n, Hid (n = a.length) := ⟨_, rfl⟩
  obtain ⟨m, HM⟩ : ∃ n, Hid (n = b.length) := ⟨_, rfl⟩
  rw [← HN.out] at hva hl
  rw [← HM.out] at hvb
  subst hva hvb
  obtain ⟨o, HO⟩ : ∃ o, Hid (o = decide (a = b)) := ⟨_, rfl⟩
  rw [← HO.out]
  by_cases hnm : n = m
  · subst hnm
    go_enter Tryd.func14, Tryd.ntmps14
    go_wp2
    go_loopw [5] (fun i wr => ∃ k q : Nat, k ≤ n ∧ i = .int .i64 (k : Int) ∧ a.take k = b.take k ∧ wr = w.drewN q) (fun i _ => n - (intOf i).toNat)
    case atStart => exact ⟨0, 0, by omega, rfl, rfl, rfl⟩
    case round =>
      obtain ⟨k, q, hk, rfl, heq, hwr⟩ := hrel
      have HW : Hid (wr = w.drewN q) := hwr
      clear hwr
      by_cases hlt : k < n
      · obtain ⟨ad1, cap1, hv1, _, _, hx1⟩ := HA.out
        rw [← HN.out] at hv1 hx1
        simp only [Value.slice.injEq, true_and] at hv1
        obtain ⟨rfl, rfl⟩ := hv1
        obtain ⟨b1, off1, rfl, hy1⟩ := hx1 (by omega)
        obtain ⟨ad2, cap2, hv2, _, _, hx2⟩ := HB.out
        rw [← HM.out] at hv2 hx2
        simp only [Value.slice.injEq, true_and] at hv2
        obtain ⟨rfl, rfl⟩ := hv2
        obtain ⟨b2, off2, rfl, hy2⟩ := hx2 (by omega)
        obtain ⟨v1, h1, r1⟩ := hy1 k hlt
        obtain ⟨v2, h2, r2⟩ := hy2 k hlt
        replace h1 : wr.cell? ⟨b1, off1 + k, none⟩ = some v1 := by rw [HW.out]; exact h1
        replace h2 : wr.cell? ⟨b2, off2 + k, none⟩ = some v2 := by rw [HW.out]; exact h2
        obtain ⟨x, HX⟩ : ∃ x, Hid (x = a.getD k []) := ⟨_, rfl⟩
        obtain ⟨y, HY⟩ : ∃ x, Hid (x = b.getD k []) := ⟨_, rfl⟩
        rw [← HX.out] at r1
        rw [← HY.out] at r2
        obtain ⟨p1, z1, hvv1, _, _, _⟩ := id r1
        obtain ⟨p2, z2, hvv2, _, _, _⟩ := id r2
        obtain ⟨l1, HL1⟩ : ∃ l1, Hid (l1 = x.length) := ⟨_, rfl⟩
        obtain ⟨l2, HL2⟩ : ∃ l2, Hid (l2 = y.length) := ⟨_, rfl⟩
        rw [← HL1.out] at hvv1
        rw [← HL2.out] at hvv2
        subst hvv1 hvv2
        have HR1 : Hid (∀ j, Reads (wr.drewN j) (.slice p1 l1 z1) x) := fun j => by rw [HW.out]; exact r1
        have HR2 : Hid (∀ j, Reads (wr.drewN j) (.slice p2 l2 z2) y) := fun j => by rw [HW.out]; exact r2
        have HQ : Hid (a.take k = b.take k) := heq
        clear heq hx1 hx2 hy1 hy2 r1 r2
        by_cases hxy : x = y
        · have HJ : Hid (a.take (k + 1) = b.take (k + 1)) := take_same [] HQ.out (by rw [← HN.out]; exact hlt) (by rw [← HM.out]; exact hlt) (by rw [← HX.out, ← HY.out, hxy])
          have HC : Hid (∀ j, Calls Tryd.prog 29 #[.slice p1 l1 z1, .slice p2 l2 z2] (wr.drewN j) fun e w' => e = .returned (.bool true) ∧ w' = wr.drewN j) := fun j => by
            have := same_any _ _ x y (wr.drewN j) (HR1.out j) (HR2.out j)
            rw [decide_eq_true hxy] at this
            exact this
          clear HR1 HR2 hxy
          go_wp2
          go_quiet (first | (go_at_call 29; refine Calls.quiet_of_same (HC.out _)))
          go_wp2
          go_roundw
          case rel => exact ⟨k + 1, _, by omega, by go_num, HJ.out, by rw [HW.out]; exact World.drewN_drewN ..⟩
          case measure => simp [intOf]; omega
        · have HF : Hid (o = false) := by
            show _ = _
            rw [HO.out, decide_eq_false_iff_not]
            intro he
            apply hxy
            rw [HX.out, HY.out, he]
          have HC : Hid (∀ j, Calls Tryd.prog 29 #[.slice p1 l1 z1, .slice p2 l2 z2] (wr.drewN j) fun e w' => e = .returned (.bool false) ∧ w' = wr.drewN j) := fun j => by
            have := same_any _ _ x y (wr.drewN j) (HR1.out j) (HR2.out j)
            rw [decide_eq_false hxy] at this
            exact this
          clear HR1 HR2 hxy
          go_wp2
          go_quiet (first | (go_at_call 29; refine Calls.quiet_of_same (HC.out _)))
          go_wp2
          go_ret
          exact ⟨by rw [HF.out]; rfl, _, by rw [HW.out]; exact World.drewN_drewN ..⟩
      · have hkn : k = n := by omega
        subst hkn
        have HF : Hid (o = true) := by
          show _ = _
          rw [HO.out, decide_eq_true_iff]
          have h1 := heq
          rw [List.take_of_length_le (by rw [← HN.out]; exact Nat.le_refl _), List.take_of_length_le (by rw [← HM.out]; exact Nat.le_refl _)] at h1
          exact h1
        clear heq
        go_wp2
        go_ret
        exact ⟨by rw [HF.out]; rfl, q, HW.out⟩
  · have hnm2 : ¬ ((n : Int) = (m : Int)) := by omega
    have HF : Hid (o = false) := by
      show _ = _
      rw [HO.out, decide_eq_false_iff_not]
      intro he
      apply hnm
      rw [HN.out, HM.out, he]
    go_enter Tryd.func14, Tryd.ntmps14
    go_wp2
    go_ret
    exact ⟨by rw [HF.out]; rfl, 0, rfl⟩
theorem zip_ok {ds es : List (List (BitVec 8))} (h1 : ∀ d ∈ ds, d.length = 32) (h2 : ∀ d ∈ es, d.length = 32) : okLf (ds.zip es) := fun p hp => by
  obtain ⟨a, b⟩ := p
  have := List.of_mem_zip hp
  exact ⟨h1 _ this.1, h2 _ this.2⟩
/-- the list turned round, from the K-th on -/
def turned (ds : List (List (BitVec 8))) (K q : Nat) : List (List (BitVec 8)) := (List.range q).map fun i => ds.getD ((K + ds.length - i) % ds.length) []
theorem turned_succ (ds : List (List (BitVec 8))) (K q : Nat) : turned ds K (q + 1) = turned ds K q ++ [ds.getD ((K + ds.length - q) % ds.length) []] := by simp [turned, List.range_succ]
theorem turned_len (ds : List (List (BitVec 8))) (K q : Nat) : (turned ds K q).length = q := by simp [turned]
theorem mem_getD {ds : List (List (BitVec 8))} {d : List (BitVec 8)} : d ∈ ds ↔ ∃ j, j < ds.length ∧ ds.getD j [] = d := by
  rw [List.mem_iff_getElem]
  constructor
  · rintro ⟨j, hj, rfl⟩
    exact ⟨j, hj, by rw [List.getD_eq_getElem?_getD, List.getElem?_eq_getElem hj]; rfl⟩
  · rintro ⟨j, hj, h⟩
    refine ⟨j, hj, ?_⟩
    rw [List.getD_eq_getElem?_getD, List.getElem?_eq_getElem hj] at h
    exact h
theorem mem_turned {ds : List (List (BitVec 8))} {K : Nat} (hK : K < ds.length) {d : List (BitVec 8)} : d ∈ turned ds K ds.length ↔ d ∈ ds := by
  rw [mem_getD (ds := ds)]
  unfold turned
  rw [List.mem_map]
  constructor
  · rintro ⟨i, _, rfl⟩
    exact ⟨_, Nat.mod_lt _ (by omega), rfl⟩
  · rintro ⟨j, hj, rfl⟩
    by_cases h : j ≤ K
    · refine ⟨K - j, List.mem_range.2 (by omega), ?_⟩
      rw [show K + ds.length - (K - j) = j + ds.length by omega, Nat.add_mod_right, Nat.mod_eq_of_lt hj]
    · refine ⟨K + ds.length - j, List.mem_range.2 (by omega), ?_⟩
      rw [show K + ds.length - (K + ds.length - j) = j by omega, Nat.mod_eq_of_lt hj]
theorem zip_dd {ds : List (List (BitVec 8))} {p : Lf} : p ∈ ds.zip ds ↔ p.1 ∈ ds ∧ p.1 = p.2 := by
  obtain ⟨a, b⟩ := p
  induction ds with
  | nil => simp
  | cons d r ih =>
    simp only [List.zip_cons_cons, List.mem_cons, Prod.mk.injEq]
    rw [ih]
    constructor
    · rintro (⟨rfl, rfl⟩ | ⟨h1, h2⟩)
      · exact ⟨Or.inl rfl, rfl⟩
      · exact ⟨Or.inr h1, h2⟩
    · rintro ⟨rfl | h1, h2⟩
      · exact Or.inl ⟨rfl, h2.symm⟩
      · exact Or.inr ⟨h1, h2⟩
theorem turned_same {ds : List (List (BitVec 8))} {K : Nat} (hK : K < ds.length) (h32 : ∀ d ∈ ds, d.length = 32) : ofL ((turned ds K ds.length).zip (turned ds K ds.length)) = ofL (ds.zip ds) := by
  refine ofL_perm (fun p hp => (zip_dd.1 hp).2) (zip_ok h32 h32) fun p => ?_
  rw [zip_dd, zip_dd, mem_turned hK]
theorem wrap_nonneg (x : Int) : 0 ≤ IntKind.u64.wrap x := by simp [IntKind.wrap, IntKind.bits, IntKind.signed]; omega
theorem below_drew17 {B : Nat} {a b : World} (h : Below B a b) (n : Nat) : Below B a (b.drewN n) := ⟨h.os, h.tape, h.output, h.size, h.block⟩
set_option maxRecDepth 100000 in
set_option maxHeartbeats 16000000 in
theorem pagesOne_law (vt : Value) (ds : List By) (tn : Int) (w : World) (hK : KOk w) (hD : ReadsD w vt ds) :
    Calls Tryd.prog 7 #[vt, .int .i64 tn] w fun e w' => e = .returned (.bool true) ∧ Below w.heap.size w w' := by
  have HD : Hid (ReadsD w vt ds) := hD
  have HK : Hid (KOk w) := hK
  have HBW : Hid (Below w.heap.size w w) := Below.refl _ _
  obtain ⟨adt, cpt, hvt⟩ := hD.slice
  obtain ⟨n, HN⟩ : ∃ n, Hid (n = ds.length) := ⟨_, rfl⟩
  rw [← HN.out] at hvt
  subst hvt
  clear hD hK
  by_cases h40 : ds.length ≤ 40
  case neg =>
    have HF : Hid (decide (ds.length ≤ 40) = false) := decide_eq_false h40
    clear h40
    go_enter Tryd.func7, Tryd.ntmps7
    have tk0 : Hid True := trivial
    have tk1 : Hid True := trivial
    go_wp2_with (first
      | (clear tk0; go_at_call 8; refine (few17_any _ ds _ HD.out).mono ?_; rintro e w3 ⟨rfl, hw3e⟩
         rw [HF.out]
         replace HK : Hid (KOk w3) := by rw [hw3e]; exact HK.out
         replace HBW : Hid (Below w.heap.size w w3) := by rw [hw3e]; exact HBW.out
         clear hw3e)
      | (clear tk1; go_at_call 9; refine (works17_any _ HK.out).mono ?_; rintro e w4 ⟨rfl, hb⟩
         have HB4 : Hid (Below w.heap.size w w4) := HBW.out.trans (hb.mono HBW.out.size)
         clear hb))
    go_ret
    exact ⟨rfl, HB4.out⟩
  case pos =>
  have HF : Hid (decide (ds.length ≤ 40) = true) := decide_eq_true h40
  by_cases hn0 : n = 0
  · have hni : (n : Int) = 0 := by omega
    have hnb : ((n : Int) == 0) = true := by simp [hni]
    clear h40 hn0
    go_enter Tryd.func7, Tryd.ntmps7
    have tk0 : Hid True := trivial
    have tk1 : Hid True := trivial
    go_wp2_with (first
      | (clear tk0; go_at_call 8; refine (few17_any _ ds _ HD.out).mono ?_; rintro e w3 ⟨rfl, hw3e⟩
         rw [HF.out]
         replace HK : Hid (KOk w3) := by rw [hw3e]; exact HK.out
         replace HBW : Hid (Below w.heap.size w w3) := by rw [hw3e]; exact HBW.out
         clear hw3e)
      | (clear tk1; go_at_call 9; refine (works17_any _ HK.out).mono ?_; rintro e w4 ⟨rfl, hb⟩
         have HB4 : Hid (Below w.heap.size w w4) := HBW.out.trans (hb.mono HBW.out.size)
         clear hb))
    go_ret
    exact ⟨rfl, HB4.out⟩
  · have hni : ¬ ((n : Int) = 0) := by omega
    have hnb : ((n : Int) == 0) = false := by simpa using hni
    have hn40 : n ≤ 40 := by rw [HN.out]; exact h40
    clear h40
    obtain ⟨l, HLD⟩ : ∃ l, Hid (l = ofL (ds.zip ds)) := ⟨_, rfl⟩
    have HLG : Hid (okLf l ∧ Up l) := by rw [HLD.out]; exact ofL_good _ (zip_ok HD.out.2 HD.out.2)
    have HLL : Hid (l.length ≤ 40) := by
      show _ ≤ _
      rw [HLD.out]
      have h1 := ofL_len (ds.zip ds)
      have h2 : (ds.zip ds).length ≤ ds.length := by rw [List.length_zip]; omega
      have := of_decide_eq_true HF.out
      omega
    have HSZ : Hid ((saveL 0 l).length < 4611686018427387904) := by show _ < _; have := save_few HLG.out.1 HLG.out.2 (by have := HLL.out; omega); omega
    obtain ⟨tu, htu⟩ : ∃ t : Nat, IntKind.u64.wrap tn = (t : Int) := ⟨(IntKind.u64.wrap tn).toNat, by have := wrap_nonneg tn; omega⟩
    obtain ⟨K, HKD⟩ : ∃ K, Hid (K = tu % n) := ⟨_, rfl⟩
    have HKL : Hid (K < n) := by show _ < _; rw [HKD.out]; exact Nat.mod_lt _ (by omega)
    have hKn : K < n := HKL.out
    have hw2 : IntKind.u64.wrap (n : Int) = (n : Int) := by simp [IntKind.wrap, IntKind.bits, IntKind.signed]; omega
    have hrem : Int.tmod (tu : Int) (n : Int) = (K : Int) := by rw [HKD.out]; rfl
    have hw3 : IntKind.i64.wrap (K : Int) = (K : Int) := wrap_small2 _ (by omega) (by omega)
    have hw4 : IntKind.u64.wrap (K : Int) = (K : Int) := by simp [IntKind.wrap, IntKind.bits, IntKind.signed]; omega
    go_enter Tryd.func7, Tryd.ntmps7
    have tk0 : Hid True := trivial
    go_wp2_with (first
      | (clear tk0; go_at_call 8; refine (few17_any _ ds _ HD.out).mono ?_; rintro e w3 ⟨rfl, hw3e⟩
         rw [HF.out]
         replace HD : Hid (ReadsD w3 (.slice adt n cpt) ds) := by rw [hw3e]; exact HD.out
         replace HK : Hid (KOk w3) := by rw [hw3e]; exact HK.out
         replace HBW : Hid (Below w.heap.size w w3) := by rw [hw3e]; exact HBW.out
         clear hw3e))
    go_loopw [6, 7] (fun v j wr => ∃ q : Nat, q ≤ n ∧ j = .int .i64 (q : Int) ∧ Hid (OwnD wr w3.heap.size v (turned ds K q)) ∧ Hid (Below w3.heap.size w3 wr)) (fun _ j _ => n - (intOf j).toNat)
    case atStart => exact ⟨0, by omega, rfl, OwnD.nil _ _, Below.refl _ _⟩
    case round =>
      obtain ⟨q, hq, rfl, HO, HBR⟩ := hrel
      by_cases hlt : q < n
      · have hlti : (q : Int) < (n : Int) := by omega
        have f5 : IntKind.i64.wrap ((q : Int) + 1) = (q : Int) + 1 := wrap_small2 _ (by omega) (by omega)
        have g1 : IntKind.i64.wrap ((K : Int) + (n : Int)) = ((K + n : Nat) : Int) := by rw [wrap_small2 _ (by omega) (by omega)]; rfl
        obtain ⟨s1, HS1⟩ : ∃ z, Hid (z = K + n) := ⟨_, rfl⟩
        rw [← HS1.out] at g1
        obtain ⟨s2, HS2⟩ : ∃ z, Hid (z = K + n - q) := ⟨_, rfl⟩
        have g2 : IntKind.i64.wrap ((s1 : Int) - (q : Int)) = (s2 : Int) := by
          have h1 := HS1.out
          have h2 := HS2.out
          rw [wrap_small2 _ (by omega) (by omega)]
          omega
        obtain ⟨p, HP⟩ : ∃ z, Hid (z = s2 % n) := ⟨_, rfl⟩
        have g3 : Int.tmod (s2 : Int) (n : Int) = (p : Int) := by rw [HP.out]; rfl
        have hpn : p < n := by rw [HP.out]; exact Nat.mod_lt _ (by omega)
        have g4 : IntKind.i64.wrap (p : Int) = (p : Int) := wrap_small2 _ (by omega) (by omega)
        have hpi : (p : Int) < (n : Int) := by omega
        have p0 : (0 : Int) ≤ (p : Int) := by omega
        have HPL : Hid (p < ds.length) := by show _ < _; rw [← HN.out]; exact hpn
        have hrd := HD.out.below HBR.out
        obtain ⟨ba, offa, cpa', hva, hya⟩ := hrd.at (by have := HPL.out; omega)
        rw [← HN.out] at hva hya
        simp only [Value.slice.injEq, true_and] at hva
        obtain ⟨rfl, rfl⟩ := hva
        obtain ⟨d, HDA⟩ : ∃ d, Hid (d = ds.getD p []) := ⟨_, rfl⟩
        have HD32 : Hid (d.length = 32) := by show _ = _; rw [HDA.out]; exact getD_mem32 HD.out.2 HPL.out
        have HRA : Hid (wr.rangeAt ba (offa + p * 32) (cb d)) := by have h := hya p hpn; rw [← HDA.out] at h; exact h
        have HTS : Hid (turned ds K (q + 1) = turned ds K q ++ [d]) := by show _ = _; rw [turned_succ, HDA.out, HP.out, HS2.out, HN.out]
        clear hya hrd
        go_wp2_with (first
          | (with_reducible refine wpSeq_loadAt (.tmp 47) ba (offa + p * 32) d ?_ ?_ ?_ ?_ ?_ ?_
             · exact HD32.out
             · exact HRA.out
             · with_reducible rfl
             · rfl
             · rfl)
          | (with_reducible refine wpSeq_buildD (.tmp 48) d ?_ ?_ ?_ ?_ ?_
             · exact HD32.out
             · with_reducible rfl
             · rfl
             · rfl
             intro g8 w8 n8
             replace HO : Hid (OwnD w8 w3.heap.size u6 (turned ds K q)) := HO.out.keep fun j _ hj => n8.below.block j hj
             replace HBR : Hid (Below w3.heap.size w3 w8) := HBR.out.trans (n8.below.mono HBR.out.size)
             have H8 : Hid (Blk w8 g8 (cb d) 28) := n8.blk
             clear n8)
          | (with_reducible refine wpSeq_appendD (.tmp 36) (.tmp 49) w3.heap.size u6 _ d g8 HO.out H8.out HD32.out ?_ HBR.out.size ?_ ?_ ?_ ?_ ?_
             · rw [turned_len]; omega
             · with_reducible rfl
             · rfl
             · rfl
             · rfl
             intro v9 w9 o9 g9
             have HJ : Hid (OwnD w9 w3.heap.size v9 (turned ds K (q + 1)) ∧ Below w3.heap.size w3 w9) := ⟨by rw [HTS.out]; exact o9, HBR.out.trans g9.below⟩
             clear o9 g9))
        go_roundw
        case rel => exact ⟨q + 1, by omega, by simp, HJ.out.1, HJ.out.2⟩
        case measure => simp [intOf]; omega
      · have hkn : q = n := by omega
        have HTW : Hid (ofL ((turned ds K q).zip (turned ds K q)) = l) := by show _ = _; rw [HLD.out, hkn, HN.out]; exact turned_same (by rw [← HN.out]; exact HKL.out) HD.out.2
        have HRO : Hid (ReadsD wr u6 (turned ds K q)) := HO.out.readsD
        have HTL : Hid ((turned ds K q).length < 50000) := by show _ < _; rw [turned_len]; omega
        have HDL : Hid (ds.length < 50000) := by show _ < _; rw [← HN.out]; omega
        subst hkn
        have hlti : ¬ ((q : Int) < (q : Int)) := by omega
        replace HD : Hid (ReadsD wr (.slice adt q cpt) ds) := HD.out.below HBR.out
        replace HK : Hid (KOk wr) := HK.out.below HBR.out HK.out.lt
        replace HBW : Hid (Below w.heap.size w wr) := HBW.out.trans (HBR.out.mono HBW.out.size)
        obtain ⟨dg, HDG⟩ : ∃ z, Hid (z = dig (topPg 0 l)) := ⟨_, rfl⟩
        have HDGL : Hid (dg.length = 32) := by show _ = _; rw [HDG.out]; exact len_dig' _
        have hq : ∀ wx : World, (Op.equalIn 10000 28 (.agg (cb dg).toArray) (.agg (cb dg).toArray)).run Tryd.prog wx = .ok true wx := fun wx => eq_dig_same dg HDGL.out wx
        obtain ⟨S, HSS⟩ : ∃ z, Hid (z = saveL 0 l) := ⟨_, rfl⟩
        rw [← HSS.out] at HSZ
        clear HO HBR HF
        have tk0 : Hid True := trivial
        have tk1 : Hid True := trivial
        have tk2 : Hid True := trivial
        have tk3 : Hid True := trivial
        have tk4 : Hid True := trivial
        have tk5 : Hid True := trivial
        have tk6 : Hid True := trivial
        have tk7 : Hid True := trivial
        have tk8 : Hid True := trivial
        have tk9 : Hid True := trivial
        have tk10 : Hid True := trivial
        have tk11 : Hid True := trivial
        go_wp2_with (first
          | (clear tk0; go_at_call 10; refine (trOf_any _ _ _ ds ds HK.out HD.out HD.out HDL.out).mono ?_; rintro e w4 ⟨gt, rfl, ht, hb⟩
             rw [← HLD.out] at ht
             have HT : Hid (TT w4 gt l) := ht
             clear ht
             replace HRO : Hid (ReadsD w4 u6 (turned ds K q)) := HRO.out.below hb
             replace HK : Hid (KOk w4) := HK.out.below hb HK.out.lt
             replace HBW : Hid (Below w.heap.size w w4) := HBW.out.trans (hb.mono HBW.out.size)
             clear hb)
          | (clear tk1; go_at_call 10; refine (trOf_any _ _ _ _ _ HK.out HRO.out HRO.out HTL.out).mono ?_; rintro e w5 ⟨gu, rfl, ht, hb⟩
             rw [HTW.out] at ht
             have HU : Hid (TT w5 gu l) := ht
             clear ht HRO
             replace HT : Hid (TT w5 gt l) := HT.out.next hb
             replace HK : Hid (KOk w5) := HK.out.below hb HK.out.lt
             replace HBW : Hid (Below w.heap.size w w5) := HBW.out.trans (hb.mono HBW.out.size)
             clear hb)
          | (clear tk2; go_at_call 11; refine (pgSave_any gt l _ HK.out HT.out (Nat.le_trans HLL.out (by decide))).mono ?_; rintro e w6 ⟨vl, us6, rfl, hp, hb⟩
             rw [← HDG.out]
             rw [← HSS.out] at hp
             have HRL : Hid (ReadsL w6 vl S) := hp.readsL
             clear hp
             replace HU : Hid (TT w6 gu l) := HU.out.next hb
             replace HK : Hid (KOk w6) := HK.out.below hb HK.out.lt
             replace HBW : Hid (Below w.heap.size w w6) := HBW.out.trans (hb.mono HBW.out.size)
             clear hb)
          | (clear tk3; with_reducible refine wpSeq_allocD ?_ ?_ ?_
             · rfl
             · rfl
             intro ga w61 nn
             have HN6 : Hid (Blk w61 ga (cb zb32) 28 ∧ w6.heap.size ≤ ga ∧ Below w6.heap.size w6 w61) := ⟨nn.blk, nn.ge, nn.below⟩
             clear nn)
          | (clear tk4; with_reducible refine wpSeq_storeD (.tmp 10) (.tmp 66) ga zb32 dg zb32_len HDGL.out HN6.out.1 ?_ ?_ ?_ ?_ ?_
             · rfl
             · rfl
             · rfl
             · rfl
             intro w62 h9
             have hb : Below w6.heap.size w6 w62 := HN6.out.2.2.trans (h9.only.below HN6.out.2.1 HN6.out.2.2.size)
             have HBA : Hid (Blk w62 ga (cb dg) 28) := h9.blk
             clear h9 HN6
             replace HU : Hid (TT w62 gu l) := HU.out.next hb
             replace HRL : Hid (ReadsL w62 vl S) := HRL.out.below hb
             replace HK : Hid (KOk w62) := HK.out.below hb HK.out.lt
             replace HBW : Hid (Below w.heap.size w w62) := HBW.out.trans (hb.mono HBW.out.size)
             clear hb)
          | (clear tk5; go_at_call 11; refine (pgSave_any gu l _ HK.out HU.out (Nat.le_trans HLL.out (by decide))).mono ?_; rintro e w7 ⟨vm, us7, rfl, hp, hb⟩
             rw [← HDG.out]
             rw [← HSS.out] at hp
             have HRM : Hid (ReadsL w7 vm S) := hp.readsL
             clear hp
             replace HRL : Hid (ReadsL w7 vl S) := HRL.out.below hb
             replace HBA : Hid (Blk w7 ga (cb dg) 28) := HBA.out.below hb HBA.out.lt
             replace HK : Hid (KOk w7) := HK.out.below hb HK.out.lt
             replace HBW : Hid (Below w.heap.size w w7) := HBW.out.trans (hb.mono HBW.out.size)
             clear hb)
          | (clear tk6; with_reducible refine wpSeq_allocD ?_ ?_ ?_
             · rfl
             · rfl
             intro gb w71 nn
             have HN7 : Hid (Blk w71 gb (cb zb32) 28 ∧ w7.heap.size ≤ gb ∧ Below w7.heap.size w7 w71) := ⟨nn.blk, nn.ge, nn.below⟩
             clear nn)
          | (clear tk7; with_reducible refine wpSeq_storeD (.tmp 12) (.tmp 71) gb zb32 dg zb32_len HDGL.out HN7.out.1 ?_ ?_ ?_ ?_ ?_
             · rfl
             · rfl
             · rfl
             · rfl
             intro w72 h9
             have hb : Below w7.heap.size w7 w72 := HN7.out.2.2.trans (h9.only.below HN7.out.2.1 HN7.out.2.2.size)
             have HBB : Hid (Blk w72 gb (cb dg) 28) := h9.blk
             clear h9 HN7
             replace HRL : Hid (ReadsL w72 vl S) := HRL.out.below hb
             replace HBA : Hid (Blk w72 ga (cb dg) 28) := HBA.out.below hb HBA.out.lt
             replace HRM : Hid (ReadsL w72 vm S) := HRM.out.below hb
             replace HK : Hid (KOk w72) := HK.out.below hb HK.out.lt
             replace HBW : Hid (Below w.heap.size w w72) := HBW.out.trans (hb.mono HBW.out.size)
             clear hb)
          | (clear tk8; with_reducible refine wpSeq_loadD (.tmp 10) ga dg HDGL.out HBA.out ?_ ?_ ?_ ?_
             · rfl
             · rfl
             · rfl
             have HQ1 : Hid True := trivial)
          | (clear tk9; with_reducible refine wpSeq_loadD (.tmp 12) gb dg HDGL.out HBB.out ?_ ?_ ?_ ?_
             · rfl
             · rfl
             · rfl
             have HQ2 : Hid True := trivial)
          | (clear tk10; go_at_call 14; refine (sametexts_any _ _ S S _ HRL.out HRM.out HSZ.out).mono ?_; rintro e w8 ⟨rfl, q8, hw8⟩
             rw [decide_eq_true rfl]
             replace HK : Hid (KOk w8) := by rw [hw8]; exact HK.out
             replace HBW : Hid (Below w.heap.size w w8) := by rw [hw8]; exact below_drew17 HBW.out q8
             clear hw8)
          | (clear tk11; go_at_call 9; refine (works17_any _ HK.out).mono ?_; rintro e w9 ⟨rfl, hb⟩
             have HB9 : Hid (Below w.heap.size w w9) := HBW.out.trans (hb.mono HBW.out.size)
             clear hb))
        go_ret
        exact ⟨rfl, HB9.out⟩
end Go.Proofs.YtlhbbkohndggmaaDoor

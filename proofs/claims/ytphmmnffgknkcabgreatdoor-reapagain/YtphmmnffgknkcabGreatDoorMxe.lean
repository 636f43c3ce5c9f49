import Derived.Test.YtphmmnffgknkcabGreatDoorMxd
import Derived.Deep.RegionHeld
import Derived.RangeFuncNested
import Derived.RangeFuncFrom
import Derived.OrdersIn
import Derived.TacticsIn
import Derived.Test.YtphmmnffgknkcabGreatDoorMxa
import Derived.Test.YtphmmnffgknkcabGreatDoorMxb
import Derived.BigQuiet
namespace Go.Proofs.YtphmmnffgknkcabGreatDoor
open Go.RowKit
set_option maxRecDepth 100000
theorem OwnX.ne_blk {w : World} {base g : Nat} {v : Value} {us cs : List Value} {t : TypeId} (h : OwnX w base v us) (hb : Blk w g cs t) (ht : t ≠ 49) : v.ownBlock ≠ some g := by
  obtain ⟨_, h2⟩ := h
  intro hk
  rcases h2 with ⟨rfl, _⟩ | ⟨g2, cap, cur, rfl, hg, hh, _⟩
  · simp [Value.ownBlock] at hk
  · simp only [Value.ownBlock, Option.some.injEq] at hk
    subst hk
    unfold Blk at hb
    rw [hh] at hb
    simp only [Option.some.injEq, Obj.cells.injEq] at hb
    exact ht hb.2.1.symm
theorem PgS.fresh {W W' : World} {base : Nat} {v : Value} {us : List Value} {ps : List By} {X Y : Nat → Prop} (h : PgS W base v us ps X) (hb : Below W.heap.size W W') (hY : ∀ k, Y k → X k ∨ W.heap.size ≤ k) : PgS W' base v us ps Y :=
  (h.weak (Y := Y) fun k hk hy => (hY k hy).resolve_right (by omega)).next hb
theorem PgS.only {W W' : World} {base g : Nat} {v : Value} {us : List Value} {ps : List By} {X : Nat → Prop} (h : PgS W base v us ps X) (hg : X g) (hv : v.ownBlock ≠ some g) (ho : Only g W W') : PgS W' base v us ps X :=
  ⟨h.own.same fun k hk => ho.block k (fun e => hv (e ▸ hk)) (h.own.lt k hk).2, h.len, fun j u hj => ⟨(h.good j u hj).1.sameP fun k hk => ho.block k (fun e => ((h.good j u hj).2 k hk).2.2 (e ▸ hg)) ((h.good j u hj).2 k hk).1, fun k hk => ⟨Nat.lt_of_lt_of_le ((h.good j u hj).2 k hk).1 ho.size, ((h.good j u hj).2 k hk).2⟩⟩⟩
theorem GrV.then_new {w w1 w2 : World} {v v1 : Value} {g : Nat} (h : GrV w v w1 v1) (ho : Only g w1 w2) (hg : w.heap.size ≤ g) : GrV w v w2 v1 :=
  ⟨h.mt.trans (fun k hk (e : k = g) => by omega) (ho.mut (P := fun k => k = g) rfl), h.lies⟩
theorem GrV.side {w w1 w2 : World} {va va1 va2 vb : Value} (h : GrV w va w1 va1) (m : Mut (fun k => vb.ownBlock = some k ∨ va1.ownBlock = some k) w1 w2) (hb : ∀ k, vb.ownBlock = some k → w.heap.size ≤ k) (hl : ∀ k, va2.ownBlock = some k → va1.ownBlock = some k ∨ w1.heap.size ≤ k) : GrV w va w2 va2 :=
  ⟨h.mt.trans (fun k hk e => e.elim (fun e => by have := hb k e; omega) fun e => (h.lies k e).resolve_right (by omega)) m, fun k hk => (hl k hk).elim (h.lies k) fun e => Or.inr (Nat.le_trans h.mt.size e)⟩
theorem GrV.one {w w1 w2 : World} {va va1 va2 : Value} (h : GrV w va w1 va1) (k : GrV w1 va1 w2 va2) : GrV w va w2 va2 := h.trans k
theorem wpSeq_idxX0 {ops : Array Oper} {Q : Exit → Act → World → Prop} {rest : List Oper} {o : Oper} {a : Act} {w : World} (x y : Operand) (b n c k : Nat) (hk : k < n) (ho : o.op = .indexAddr 26 x y) (hx : a.eval x = .slice (some ⟨b, 0, none⟩) n c) (hy : a.eval y = .int .i64 (k : Int)) (hw : Region.wanted o (yielded ops a.tmps) = true)
    (h : wpList Tryz.prog ops Q rest (a.put o.dst (.pointer (some ⟨b, k, none⟩))) w) : wpList Tryz.prog ops Q (o :: rest) a w :=
  wpSeq_idxX x y b 0 n c k hk ho hx hy hw (by rw [Nat.zero_add]; exact h)
theorem pgPiece_new (base : Nat) (vl : Value) (l : List Lf) (d : Nat) (W : World) (hd : d ≤ 256) (hF : Fits l d) (hR : RdLb base W vl l) (hb : base ≤ W.heap.size) (hl : l.length < 100000) :
    Calls Tryz.prog 64 #[.slice none 0 0, vl, .int .i64 (d : Int)] W fun e w' => ∃ a n c r, e = .returned (.slice a n c) ∧ OwnB w' base (.slice a n c) r ∧ r.length = n ∧ Below W.heap.size W w' ∧ (∀ k, (Value.slice a n c).ownBlock = some k → W.heap.size ≤ k) ∧ PieceR [] (wholeL d l) r := by
  refine (pgPiece_any (256 - d) d (by omega) base vl l _ [] W hF hR (OwnB.nil _ _) hb hl (by decide)).mono ?_
  rintro e w' ⟨v, r, rfl, ho, hg, hp⟩
  obtain ⟨a, c, hv⟩ := ho.formP
  subst hv
  exact ⟨a, r.length, c, r, rfl, ho, rfl, hg.mt.below (Nat.le_refl _) (fun k e => by cases e), fun k e => (hg.lies k e).resolve_left (fun e => by cases e), hp⟩
def PsRes (base : Nat) (va : Value) (ps : List By) (l : List Lf) (d : Nat) (X : Nat → Prop) (w : World) (e : Ending) (w' : World) : Prop := ∃ va' us', e = .returned (.tuple #[.agg (cb (dig (topPg d l))).toArray, va']) ∧ PgS w' base va' us' (ps ++ saveL d l) X ∧ GrV w va w' va'
set_option maxHeartbeats 8000000 in
theorem pgPages_one (base : Nat) (av : Option Addr) (nv cv : Nat) (vl : Value) (us : List Value) (ps : List By) (l : List Lf) (X : Nat → Prop) (d : Nat) (w : World) (hd : d ≤ 256) (hK : KOk w) (hKB : 1 < base) (hF : Fits l d) (hR : RdLb base w vl l) (hP : PgS w base (.slice av nv cv) us ps X) (hb : base ≤ w.heap.size) (hX : ∀ k, X k → k < w.heap.size) (hll : l.length < 100000) (hps : ps.length + (saveL d l).length < 100000) (hnv : nv = ps.length) (hW : (wholeL d l).length ≤ 512) :
    Calls Tryz.prog 36 #[.slice av nv cv, vl, .int .i64 (d : Int)] w (PsRes base (.slice av nv cv) ps l d X w) := by
  obtain ⟨dg, HDG⟩ : ∃ x, Hid (x = dig (topPg d l)) := ⟨_, rfl⟩
  have HDL : Hid (dg.length = 32) := by show _ = _; rw [HDG.out]; exact len_dig' _
  have HK : Hid (KOk w) := hK
  have HKB : Hid (1 < base) := hKB
  have HF : Hid (Fits l d) := hF
  have HR : Hid (RdLb base w vl l) := hR
  have HP0 : Hid (PgS w base (.slice av nv cv) us ps X) := hP
  have HB : Hid (base ≤ w.heap.size) := hb
  have HX : Hid (∀ k, X k → k < w.heap.size) := hX
  have HLL : Hid (l.length < 100000) := hll
  have HPS : Hid (ps.length + (saveL d l).length < 100000) := hps
  have HNV : Hid (nv = ps.length ∧ us.length = ps.length ∧ us.length < 1000000) := ⟨hnv, hP.len, by rw [hP.len]; omega⟩
  have HT : Hid (topPg d l = wholeL d l ∧ saveL d l = [topPg d l]) := ⟨top_one hW, by rw [save_one hW, top_one hW]⟩
  have HW : Hid ((wholeL d l).length ≤ 512) := hW
  clear hK hKB hF hR hP hb hX hll hps hW hnv
  go_enter Tryz.func36, Tryz.ntmps36
  have tk0 : Hid True := trivial
  have tk1 : Hid True := trivial
  have tk2 : Hid True := trivial
  have tk3 : Hid True := trivial
  have tk4 : Hid True := trivial
  have tk5 : Hid True := trivial
  go_wp2_with (first
    | (clear tk0; with_reducible refine wpSeq_allocD ?_ ?_ ?_
       · rfl
       · rfl
       intro g6 w1 nn
       have hb : Below w.heap.size w w1 := nn.below
       have HG6 : Hid (w.heap.size ≤ g6) := nn.ge
       have HN6 : Hid (Blk w1 g6 (cb zb32) 40) := nn.blk
       replace HK : Hid (KOk w1) := HK.out.below hb HK.out.lt
       replace HR : Hid (RdLb base w1 vl l) := HR.out.next hb
       have HP : Hid (PgS w1 base (.slice av nv cv) us ps (fun k => X k ∨ k = g6)) := HP0.out.fresh hb fun k hk => hk.imp_right fun e => by rw [e]; exact nn.ge
       have HBW : Hid (Below w.heap.size w w1) := hb
       replace HB : Hid (base ≤ w1.heap.size) := Nat.le_trans HB.out hb.size
       clear nn hb)
    | (clear tk1; go_at_call 64; refine (pgPiece_new base vl l d _ hd HF.out HR.out HB.out HLL.out).mono ?_; rintro e w2 ⟨a1, n1, c1, r, rfl, ho, hn, hb, hlies, hp⟩
       have hr : r = topPg d l := by rw [HT.out.1]; exact hp.1 (by simpa using HW.out)
       subst hr
       have HU : Hid (∀ k, (Value.slice a1 n1 c1).ownBlock = some k → k < w2.heap.size ∧ (Value.slice av nv cv).ownBlock ≠ some k ∧ ¬ (X k ∨ k = g6)) := fun k hk => ⟨(ho.ltP k hk).2, fun e => (HP.out.next hb).own.ne_bytes ho k e hk, fun e => by
         have h1 := hlies k hk
         have h2 := HN6.out.lt
         have h3 := HBW.out.size
         rcases e with e | e
         · have := HX.out k e; omega
         · omega⟩
       have hle : (n1 : Int) ≤ 512 := by have := HW.out; rw [← HT.out.1, hn] at this; omega
       have HLT : Hid ((topPg d l).length ≤ 512) := by have := HW.out; rw [← HT.out.1] at this; exact this
       replace HK : Hid (KOk w2) := HK.out.below hb HK.out.lt
       replace HR : Hid (RdLb base w2 vl l) := HR.out.next hb
       replace HP : Hid (PgS w2 base (.slice av nv cv) us ps (fun k => X k ∨ k = g6)) := HP.out.next hb
       replace HN6 : Hid (Blk w2 g6 (cb zb32) 40) := HN6.out.below hb HN6.out.lt
       replace HBW : Hid (Below w.heap.size w w2) := HBW.out.trans (hb.mono HBW.out.size)
       replace HB : Hid (base ≤ w2.heap.size) := Nat.le_trans HB.out hb.size
       have HRD : Hid (Reads w2 (.slice a1 n1 c1) (topPg d l)) := ho.reads
       clear ho hn hb hlies hp)
    | (clear tk2; go_at_call 17; refine (tOf_any (.slice a1 n1 c1) (topPg d l) _ HK.out HRD.out (Nat.lt_of_le_of_lt HLT.out (by decide))).mono ?_; rintro e w3 ⟨rfl, hb⟩
       rw [← HDG.out]
       replace HU : Hid (∀ k, (Value.slice a1 n1 c1).ownBlock = some k → k < w3.heap.size ∧ (Value.slice av nv cv).ownBlock ≠ some k ∧ ¬ (X k ∨ k = g6)) := fun k hk => ⟨Nat.lt_of_lt_of_le (HU.out k hk).1 hb.size, (HU.out k hk).2⟩
       replace HK : Hid (KOk w3) := HK.out.below hb HK.out.lt
       replace HR : Hid (RdLb base w3 vl l) := HR.out.next hb
       replace HP : Hid (PgS w3 base (.slice av nv cv) us ps (fun k => X k ∨ k = g6)) := HP.out.next hb
       replace HN6 : Hid (Blk w3 g6 (cb zb32) 40) := HN6.out.below hb HN6.out.lt
       replace HBW : Hid (Below w.heap.size w w3) := HBW.out.trans (hb.mono HBW.out.size)
       replace HB : Hid (base ≤ w3.heap.size) := Nat.le_trans HB.out hb.size
       replace HRD : Hid (Reads w3 (.slice a1 n1 c1) (topPg d l)) := HRD.out.below hb
       clear hb)
    | (clear tk3; with_reducible refine wpSeq_buildX (.tmp 21) a1 n1 c1 ?_ ?_ ?_ ?_
       · rfl
       · rfl
       · rfl
       intro g4 w4 hy hge hb
       replace HU : Hid (∀ k, (Value.slice a1 n1 c1).ownBlock = some k → k < w4.heap.size ∧ (Value.slice av nv cv).ownBlock ≠ some k ∧ ¬ (X k ∨ k = g6)) := fun k hk => ⟨Nat.lt_of_lt_of_le (HU.out k hk).1 hb.size, (HU.out k hk).2⟩
       have HY : Hid (Blk w4 g4 [.slice a1 n1 c1] 49) := hy
       have H1C : Hid ((Value.slice a1 n1 c1).oneCell' = true) := rfl
       replace HK : Hid (KOk w4) := HK.out.below hb HK.out.lt
       replace HR : Hid (RdLb base w4 vl l) := HR.out.next hb
       replace HP : Hid (PgS w4 base (.slice av nv cv) us ps (fun k => X k ∨ k = g6)) := HP.out.next hb
       replace HN6 : Hid (Blk w4 g6 (cb zb32) 40) := HN6.out.below hb HN6.out.lt
       replace HBW : Hid (Below w.heap.size w w4) := HBW.out.trans (hb.mono HBW.out.size)
       replace HB : Hid (base ≤ w4.heap.size) := Nat.le_trans HB.out hb.size
       replace HRD : Hid (Reads w4 (.slice a1 n1 c1) (topPg d l)) := HRD.out.below hb
       clear hy hge hb)
    | (clear tk4; with_reducible refine wpSeq_appX (.tmp 20) (.tmp 22) base (.slice av nv cv) (.slice a1 n1 c1) us g4 HP.out.own HY.out H1C.out HNV.out.2.2 HB.out ?_ ?_ ?_ ?_ ?_
       · rfl
       · rfl
       · rfl
       · rfl
       intro v5 w5 ho hg
       have HP5 : Hid (PgS w5 base v5 (us ++ [.slice a1 n1 c1]) (ps ++ [topPg d l]) (fun k => X k ∨ k = g6)) := HP.out.more ho hg HRD.out HU.out
       replace HN6 : Hid (Blk w5 g6 (cb zb32) 40) := hg.mt.blk HN6.out fun e => HP.out.own.ne_blk HN6.out (by decide) e
       have HG : Hid (GrV w (.slice av nv cv) w5 v5) := (GrV.of_below HBW.out _).trans hg
       clear ho hg)
    | (clear tk5; with_reducible refine wpSeq_storeD (.tmp 6) (.tmp 19) g6 zb32 dg zb32_len HDL.out HN6.out ?_ ?_ ?_ ?_ ?_
       · rfl
       · rfl
       · rfl
       · rfl
       intro w6 h9
       have HN7 : Hid (Blk w6 g6 (cb dg) 40) := h9.blk
       have HO6 : Hid (Only g6 w5 w6) := h9.only
       clear h9))
  refine bodyPost_ret (results_row_tmp (by rfl) _ _ _ g6 40 (cb dg) _ v5 rfl rfl HN7.out Tryz.underlying40 rfl (by rw [cb_len, HDL.out]; exact info_digest)) rfl ?_
  refine ⟨v5, us ++ [.slice a1 n1 c1], by rw [← HDG.out], ?_, HG.out.then_new HO6.out HG6.out⟩
  rw [HT.out.2]
  exact ((HP5.out.only (Or.inr rfl) (HP5.out.own.ne_blk HN6.out (by decide)) HO6.out).weak fun k _ h => Or.inl h)
theorem set_place (ps q : List By) (p : By) : (ps ++ [[]] ++ q).set ps.length p = ps ++ p :: q := by
  rw [List.append_assoc, List.set_append_right (h := Nat.le_refl _), Nat.sub_self]; rfl
set_option maxHeartbeats 16000000 in
theorem pgPages_more (base : Nat) (av : Option Addr) (nv cv : Nat) (vl : Value) (us : List Value) (ps : List By) (l : List Lf) (X : Nat → Prop) (d : Nat) (w : World) (hd : d ≤ 256) (hK : KOk w) (hKB : 1 < base) (hF : Fits l d) (hR : RdLb base w vl l) (hP : PgS w base (.slice av nv cv) us ps X) (hb : base ≤ w.heap.size) (hX : ∀ k, X k → k < w.heap.size) (hll : l.length < 100000) (hps : ps.length + (saveL d l).length < 100000) (hnv : nv = ps.length) (IH : SdDoes (d + 1)) (hW : 512 < (wholeL d l).length) :
    Calls Tryz.prog 36 #[.slice av nv cv, vl, .int .i64 (d : Int)] w (PsRes base (.slice av nv cv) ps l d X w) := by
  have h2 := long_two hF hW
  obtain ⟨dg, HDG⟩ : ∃ x, Hid (x = dig (topPg d l)) := ⟨_, rfl⟩
  have HDL : Hid (dg.length = 32) := by show _ = _; rw [HDG.out]; exact len_dig' _
  have HK : Hid (KOk w) := hK
  have HKB : Hid (1 < base) := hKB
  have HF : Hid (Fits l d) := hF
  have HR : Hid (RdLb base w vl l) := hR
  have HP0 : Hid (PgS w base (.slice av nv cv) us ps X) := hP
  have HB : Hid (base ≤ w.heap.size) := hb
  have HX : Hid (∀ k, X k → k < w.heap.size) := hX
  have HLL : Hid (l.length < 100000) := hll
  have HPS : Hid (ps.length + (saveL d l).length < 100000) := hps
  have HNV : Hid (nv = ps.length ∧ us.length = ps.length ∧ us.length < 1000000) := ⟨hnv, hP.len, by rw [hP.len]; omega⟩
  have HIH : Hid (SdDoes (d + 1)) := IH
  have HD : Hid (2 ≤ l.length ∧ d < 256) := h2
  have HW : Hid (512 < (wholeL d l).length) := hW
  obtain ⟨d1, HD1⟩ : ∃ x, Hid (x = d + 1) := ⟨_, rfl⟩
  have rd : IntKind.i64.wrap ((d : Int) + 1) = (d1 : Int) := by rw [IntKind.wrap_i64, HD1.out]; omega
  have HT : Hid (topPg d l = 2 :: (sidePg d1 (halfL l d false) ++ sidePg d1 (halfL l d true)) ∧ saveL d l = topPg d l :: (restPg d1 (halfL l d false) ++ restPg d1 (halfL l d true))) := by
    rw [HD1.out]; exact ⟨top_more h2.2 hW, by rw [save_more h2.2 hW, top_more h2.2 hW]⟩
  have HN : Hid (ps.length + 1 + (restPg d1 (halfL l d false)).length + (restPg d1 (halfL l d true)).length < 100000) := by
    have := hps; rw [HT.out.2, List.length_cons, List.length_append] at this; show _ < _; omega
  rw [← HD1.out] at HIH
  clear hK hKB hF hR hP hb hX hll hps hW hnv IH h2
  go_enter Tryz.func36, Tryz.ntmps36
  have tk0 : Hid True := trivial
  have tk1 : Hid True := trivial
  have tk2 : Hid True := trivial
  have tk3 : Hid True := trivial
  have tk4 : Hid True := trivial
  have tk5 : Hid True := trivial
  have tk6 : Hid True := trivial
  have tk7 : Hid True := trivial
  have tk8 : Hid True := trivial
  have tk9 : Hid True := trivial
  have tk10 : Hid True := trivial
  have tk11 : Hid True := trivial
  go_wp2_with (first
    | (clear tk0; with_reducible refine wpSeq_allocD ?_ ?_ ?_
       · rfl
       · rfl
       intro g6 w1 nn
       have hb : Below w.heap.size w w1 := nn.below
       have HG6 : Hid (w.heap.size ≤ g6) := nn.ge
       have HN6 : Hid (Blk w1 g6 (cb zb32) 40) := nn.blk
       replace HK : Hid (KOk w1) := HK.out.below hb HK.out.lt
       replace HR : Hid (RdLb base w1 vl l) := HR.out.next hb
       have HP : Hid (PgS w1 base (.slice av nv cv) us ps (fun k => X k ∨ k = g6)) := HP0.out.fresh hb fun k hk => hk.imp_right fun e => by rw [e]; exact nn.ge
       have HBW : Hid (Below w.heap.size w w1) := hb
       replace HB : Hid (base ≤ w1.heap.size) := Nat.le_trans HB.out hb.size
       clear nn hb)
    | (clear tk1; go_at_call 64; refine (pgPiece_new base vl l d _ hd HF.out HR.out HB.out HLL.out).mono ?_; rintro e w2 ⟨a1, n1, c1, r, rfl, ho, hn, hb, hlies, hp⟩
       have hle : ¬ (n1 : Int) ≤ 512 := by have := hp.2.1 (by simpa using HW.out); omega
       replace HK : Hid (KOk w2) := HK.out.below hb HK.out.lt
       replace HR : Hid (RdLb base w2 vl l) := HR.out.next hb
       replace HP : Hid (PgS w2 base (.slice av nv cv) us ps (fun k => X k ∨ k = g6)) := HP.out.next hb
       replace HN6 : Hid (Blk w2 g6 (cb zb32) 40) := HN6.out.below hb HN6.out.lt
       replace HBW : Hid (Below w.heap.size w w2) := HBW.out.trans (hb.mono HBW.out.size)
       replace HB : Hid (base ≤ w2.heap.size) := Nat.le_trans HB.out hb.size
       clear ho hn hb hlies hp)
    | (clear tk2; with_reducible refine wpSeq_buildX (.const (.slice none 0 0)) none 0 0 ?_ ?_ ?_ ?_
       · rfl
       · rfl
       · rfl
       intro g4 w4 hy hge hb
       have HY : Hid (Blk w4 g4 [.slice none 0 0] 49) := hy
       have H1C : Hid ((Value.slice none 0 0).oneCell' = true) := rfl
       replace HK : Hid (KOk w4) := HK.out.below hb HK.out.lt
       replace HR : Hid (RdLb base w4 vl l) := HR.out.next hb
       replace HP : Hid (PgS w4 base (.slice av nv cv) us ps (fun k => X k ∨ k = g6)) := HP.out.next hb
       replace HN6 : Hid (Blk w4 g6 (cb zb32) 40) := HN6.out.below hb HN6.out.lt
       replace HBW : Hid (Below w.heap.size w w4) := HBW.out.trans (hb.mono HBW.out.size)
       replace HB : Hid (base ≤ w4.heap.size) := Nat.le_trans HB.out hb.size
       clear hy hge hb)
    | (clear tk3; with_reducible refine wpSeq_appX (.tmp 26) (.tmp 27) base (.slice av nv cv) (.slice none 0 0) us g4 HP.out.own HY.out H1C.out HNV.out.2.2 HB.out ?_ ?_ ?_ ?_ ?_
       · rfl
       · rfl
       · rfl
       · rfl
       intro v5 w5 ho hg
       have HP5 : Hid (PgS w5 base v5 (us ++ [.slice none 0 0]) (ps ++ [[]]) (fun k => X k ∨ k = g6)) := HP.out.more ho hg (Reads.nilP _) (fun k e => by cases e)
       replace HN6 : Hid (Blk w5 g6 (cb zb32) 40) := hg.mt.blk HN6.out fun e => HP.out.own.ne_blk HN6.out (by decide) e
       have HG : Hid (GrV w (.slice av nv cv) w5 v5) := (GrV.of_below HBW.out _).trans hg
       have hbb : Below base _ w5 := hg.below HB.out fun k hk => (HP.out.own.lt k hk).1
       replace HK : Hid (KOk w5) := HK.out.below hbb HKB.out
       replace HR : Hid (RdLb base w5 vl l) := HR.out.go hbb
       replace HB : Hid (base ≤ w5.heap.size) := Nat.le_trans HB.out hg.mt.size
       clear ho hg hbb)
    | (clear tk4; go_at_call 65; refine (pgPart_any base vl l d _ HR.out HF.out HD.out.2 (Nat.lt_of_lt_of_le (by decide) HD.out.1) HLL.out).mono ?_; rintro e w7 ⟨q0, q1, rfl, hr0, hr1, hb⟩
       have HR0 : Hid (RdLb base w7 q0 (halfL l d false)) := hr0
       have HR1 : Hid (RdLb base w7 q1 (halfL l d true)) := hr1
       replace HP5 : Hid (PgS w7 base v5 (us ++ [.slice none 0 0]) (ps ++ [[]]) (fun k => X k ∨ k = g6)) := HP5.out.next hb
       replace HK : Hid (KOk w7) := HK.out.below hb HK.out.lt
       replace HN6 : Hid (Blk w7 g6 (cb zb32) 40) := HN6.out.below hb HN6.out.lt
       replace HG : Hid (GrV w (.slice av nv cv) w7 v5) := HG.out.trans (GrV.of_below hb _)
       replace HB : Hid (base ≤ w7.heap.size) := Nat.le_trans HB.out hb.size
       clear hr0 hr1 hb)
    | (clear tk5; with_reducible refine wpSeq_buildY 2 (.const (.int .u8 2)) ?_ ?_ ?_ ?_
       · rfl
       · rfl
       · rfl
       intro g8 w8 hy hge hb
       have HO8 : Hid (OwnB w8 base (.slice (some ⟨g8, 0, none⟩) 1 1) [2]) := blk_own_y hy (Nat.le_trans HB.out hge)
       have HP8 : Hid (PgS w8 base v5 (us ++ [.slice none 0 0]) (ps ++ [[]]) (fun k => (X k ∨ k = g6) ∨ (Value.slice (some ⟨g8, 0, none⟩) 1 1).ownBlock = some k)) := HP5.out.fresh hb fun k hk => hk.imp_right fun e => by cases e; exact hge
       have HB8 : Hid (∀ k, (Value.slice (some ⟨g8, 0, none⟩) 1 1).ownBlock = some k → w.heap.size ≤ k) := fun k e => by cases e; exact Nat.le_trans HG.out.mt.size hge
       replace HR0 : Hid (RdLb base w8 q0 (halfL l d false)) := HR0.out.next hb
       replace HR1 : Hid (RdLb base w8 q1 (halfL l d true)) := HR1.out.next hb
       replace HK : Hid (KOk w8) := HK.out.below hb HK.out.lt
       replace HN6 : Hid (Blk w8 g6 (cb zb32) 40) := HN6.out.below hb HN6.out.lt
       replace HG : Hid (GrV w (.slice av nv cv) w8 v5) := HG.out.trans (GrV.of_below hb _)
       replace HB : Hid (base ≤ w8.heap.size) := Nat.le_trans HB.out hb.size
       have HX8 : Hid (∀ k, (X k ∨ k = g6) → k < w8.heap.size) := fun k hk => hk.elim (fun e => Nat.lt_of_lt_of_le (HX.out k e) HG.out.mt.size) fun e => by rw [e]; exact HN6.out.lt
       clear hy hge hb)
    | (clear tk6; go_at_call 66; refine (HIH.out base (.slice (some ⟨g8, 0, none⟩) 1 1) v5 q0 (us ++ [.slice none 0 0]) [2] (ps ++ [[]]) (halfL l d false) (fun k => X k ∨ k = g6) _ HK.out HKB.out (by rw [HD1.out]; exact HF.out.half _) HR0.out HO8.out HP8.out HB.out HX8.out (Nat.lt_of_le_of_lt (half_le _ _ _) HLL.out) (by have := HN.out; simp only [List.length_append, List.length_cons, List.length_nil]; omega) (by decide)).mono ?_; rintro e w9 ⟨vb9, va9, us9, rfl, ho, hp, hm, hl1, hl2⟩
       have HO9 : Hid (OwnB w9 base vb9 ([2] ++ sidePg d1 (halfL l d false))) := ho
       have HP9 : Hid (PgS w9 base va9 us9 ((ps ++ [[]]) ++ restPg d1 (halfL l d false)) (fun k => (X k ∨ k = g6) ∨ vb9.ownBlock = some k)) := hp
       have hbb : Below base _ w9 := mut_base hm HB.out HO8.out HP8.out.own
       replace HK : Hid (KOk w9) := HK.out.below hbb HKB.out
       replace HR1 : Hid (RdLb base w9 q1 (halfL l d true)) := HR1.out.go hbb
       replace HN6 : Hid (Blk w9 g6 (cb zb32) 40) := hm.blk HN6.out fun e => e.elim (fun e => HO8.out.ne_blk HN6.out (by decide) e) fun e => HP8.out.own.ne_blk HN6.out (by decide) e
       have HB9 : Hid (∀ k, vb9.ownBlock = some k → w.heap.size ≤ k) := fun k e => (hl1 k e).elim (HB8.out k) fun e => Nat.le_trans HG.out.mt.size e
       have HX9 : Hid (∀ k, (X k ∨ k = g6) → k < w9.heap.size) := fun k hk => Nat.lt_of_lt_of_le (HX8.out k hk) hm.size
       replace HG : Hid (GrV w (.slice av nv cv) w9 va9) := HG.out.side hm HB8.out hl2
       replace HB : Hid (base ≤ w9.heap.size) := Nat.le_trans HB.out hm.size
       clear ho hp hm hl1 hl2 hbb)
    | (clear tk7; go_at_call 66; refine (HIH.out base vb9 va9 q1 us9 ([2] ++ sidePg d1 (halfL l d false)) (ps ++ [[]] ++ restPg d1 (halfL l d false)) (halfL l d true) (fun k => X k ∨ k = g6) _ HK.out HKB.out (by rw [HD1.out]; exact HF.out.half _) HR1.out HO9.out HP9.out HB.out HX9.out (Nat.lt_of_le_of_lt (half_le _ _ _) HLL.out) (by have := HN.out; simp only [List.length_append, List.length_cons, List.length_nil]; omega) (by rw [List.length_append]; have := (side_len (d := d1) (HF.out.half false).1).2; simp only [List.length_cons, List.length_nil]; omega)).mono ?_; rintro e w10 ⟨vb10, va10, us10, rfl, ho, hp, hm, hl1, hl2⟩
       have HO10 : Hid (OwnB w10 base vb10 (([2] ++ sidePg d1 (halfL l d false)) ++ sidePg d1 (halfL l d true))) := ho
       have HP10 : Hid (PgS w10 base va10 us10 ((ps ++ [[]] ++ restPg d1 (halfL l d false)) ++ restPg d1 (halfL l d true)) (fun k => (X k ∨ k = g6) ∨ vb10.ownBlock = some k)) := hp
       have hbb : Below base _ w10 := mut_base hm HB.out HO9.out HP9.out.own
       replace HK : Hid (KOk w10) := HK.out.below hbb HKB.out
       replace HN6 : Hid (Blk w10 g6 (cb zb32) 40) := hm.blk HN6.out fun e => e.elim (fun e => HO9.out.ne_blk HN6.out (by decide) e) fun e => HP9.out.own.ne_blk HN6.out (by decide) e
       have HB10 : Hid (∀ k, vb10.ownBlock = some k → w.heap.size ≤ k) := fun k e => (hl1 k e).elim (HB9.out k) fun e => Nat.le_trans HG.out.mt.size e
       have HX10 : Hid (∀ k, (X k ∨ k = g6) → k < w10.heap.size) := fun k hk => Nat.lt_of_lt_of_le (HX9.out k hk) hm.size
       replace HG : Hid (GrV w (.slice av nv cv) w10 va10) := HG.out.side hm HB9.out hl2
       replace HB : Hid (base ≤ w10.heap.size) := Nat.le_trans HB.out hm.size
       clear ho hp hm hl1 hl2 hbb
       have hpl : ps.length < us10.length := by rw [HP10.out.len]; simp only [List.length_append, List.length_cons, List.length_nil]; omega
       obtain ⟨ga, ca, hva, hq1, hq2⟩ := HP10.out.own.at (j := ps.length) (u := us10[ps.length]) (List.getElem?_eq_getElem hpl)
       clear hq1 hq2
       obtain ⟨na, HNA⟩ : ∃ x, Hid (x = us10.length) := ⟨_, rfl⟩
       rw [← HNA.out] at hva
       obtain ⟨ab, cbv, hvb⟩ := HO10.out.formP
       obtain ⟨nb, HNB⟩ : ∃ x : Nat, Hid (x = (([2] : By) ++ sidePg d1 (halfL l d false) ++ sidePg d1 (halfL l d true)).length) := ⟨_, rfl⟩
       rw [← HNB.out] at hvb
       subst hva
       subst hvb
       have HNK : Hid (nv < na ∧ nv < us10.length) := by rw [HNA.out, HNV.out.1]; exact ⟨hpl, hpl⟩
       clear hpl)
    | (clear tk8; with_reducible refine wpSeq_idxX0 (.tmp 53) (.tmp 54) ga na ca nv HNK.out.1 ?_ ?_ ?_ ?_ ?_
       · rfl
       · rfl
       · rfl
       · rfl
       have HI : Hid True := trivial)
    | (clear tk9; with_reducible refine wpSeq_storeX (.tmp 56) (.tmp 55) base ga na ca nv us10 ab nb cbv HP10.out.own HNK.out.2 ?_ ?_ ?_ ?_ ?_
       · rfl
       · rfl
       · rfl
       · rfl
       intro w11 ho hg
       have hne : ga ≠ g6 := fun e => HP10.out.own.ne_blk HN6.out (by decide) (by rw [← e]; rfl)
       have HTE : Hid ([2] ++ sidePg d1 (halfL l d false) ++ sidePg d1 (halfL l d true) = topPg d l) := by show _ = _; rw [HT.out.1]; simp
       have hrd : Reads w10 (.slice ab nb cbv) (topPg d l) := by rw [← HTE.out]; exact HO10.out.reads
       have hne2 : ∀ k, (Value.slice ab nb cbv).ownBlock = some k → ga ≠ k := fun k hk e => HP10.out.own.ne_bytes HO10.out k (by rw [e]; rfl) hk
       have hapt : ∀ k, (Value.slice ab nb cbv).ownBlock = some k → k < w10.heap.size ∧ ga ≠ k ∧ ¬ (X k ∨ k = g6) := fun k hk => ⟨(HO10.out.ltP k hk).2, hne2 k hk, fun e => by
         rcases e with e | e
         · have h1 := HX.out k e; have h2 := HB10.out k hk; omega
         · subst e; exact HO10.out.ne_blk HN6.out (by decide) hk⟩
       have HP11 : Hid (PgS w11 base (.slice (some ⟨ga, 0, none⟩) na ca) (us10.set nv (.slice ab nb cbv)) ((ps ++ [[]] ++ restPg d1 (halfL l d false) ++ restPg d1 (halfL l d true)).set nv (topPg d l)) (fun k => X k ∨ k = g6)) := (HP10.out.weak fun k _ h => Or.inl h).put HNK.out.2 ho hg hrd hapt
       have hgl : base ≤ ga ∧ ga < w10.heap.size := HP10.out.own.lt ga rfl
       have hbb : Below base w10 w11 := hg.below hgl.1 HB.out
       replace HK : Hid (KOk w11) := HK.out.below hbb HKB.out
       replace HN6 : Hid (Blk w11 g6 (cb zb32) 40) := HN6.out.only hg (Ne.symm hne)
       have HRD : Hid (Reads w11 (.slice ab nb cbv) (topPg d l)) := hrd.sameP fun k hk => hg.block k (fun e => hne2 k hk e.symm) (HO10.out.ltP k hk).2
       replace HG : Hid (GrV w (.slice av nv cv) w11 (.slice (some ⟨ga, 0, none⟩) na ca)) := HG.out.trans ⟨hg.mut (P := fun k => (Value.slice (some ⟨ga, 0, none⟩) na ca).ownBlock = some k) rfl, fun k e => Or.inl e⟩
       replace HB : Hid (base ≤ w11.heap.size) := Nat.le_trans HB.out hg.size
       have HTL : Hid ((topPg d l).length < 2305843009213693952) := by
         show _ < _
         rw [HT.out.1, List.length_cons, List.length_append]
         have h1 := (side_len (d := d1) (HF.out.half false).1).2
         have h2 := (side_len (d := d1) (HF.out.half true).1).2
         omega
       clear ho hg hne hrd hne2 hapt hgl hbb)
    | (clear tk10; go_at_call 17; refine (tOf_any (.slice ab nb cbv) (topPg d l) _ HK.out HRD.out HTL.out).mono ?_; rintro e w12 ⟨rfl, hb⟩
       rw [← HDG.out]
       replace HP11 : Hid (PgS w12 base (.slice (some ⟨ga, 0, none⟩) na ca) (us10.set nv (.slice ab nb cbv)) ((ps ++ [[]] ++ restPg d1 (halfL l d false) ++ restPg d1 (halfL l d true)).set nv (topPg d l)) (fun k => X k ∨ k = g6)) := HP11.out.next hb
       replace HK : Hid (KOk w12) := HK.out.below hb HK.out.lt
       replace HN6 : Hid (Blk w12 g6 (cb zb32) 40) := HN6.out.below hb HN6.out.lt
       replace HG : Hid (GrV w (.slice av nv cv) w12 (.slice (some ⟨ga, 0, none⟩) na ca)) := HG.out.trans (GrV.of_below hb _)
       replace HB : Hid (base ≤ w12.heap.size) := Nat.le_trans HB.out hb.size
       clear hb)
    | (clear tk11; with_reducible refine wpSeq_storeD (.tmp 6) (.tmp 58) g6 zb32 dg zb32_len HDL.out HN6.out ?_ ?_ ?_ ?_ ?_
       · rfl
       · rfl
       · rfl
       · rfl
       intro w13 h9
       have HN7 : Hid (Blk w13 g6 (cb dg) 40) := h9.blk
       have HO13 : Hid (Only g6 w12 w13) := h9.only
       clear h9))
  refine bodyPost_ret (results_row_tmp (by rfl) _ _ _ g6 40 (cb dg) _ (.slice (some ⟨ga, 0, none⟩) na ca) rfl rfl HN7.out Tryz.underlying40 rfl (by rw [cb_len, HDL.out]; exact info_digest)) rfl ?_
  refine ⟨_, us10.set nv (.slice ab nb cbv), by rw [← HDG.out], ?_, HG.out.then_new HO13.out HG6.out⟩
  have hp := (HP11.out.only (Or.inr rfl) (HP11.out.own.ne_blk HN6.out (by decide)) HO13.out).weak (Y := X) fun k _ h => Or.inl h
  rw [HNV.out.1, List.append_assoc (ps ++ [[]]), set_place] at hp
  rw [HT.out.2, HNV.out.1]
  exact hp
theorem pgPages_any : ∀ (f d : Nat), 256 = d + f → PsDoes d
  | f, d, hf => fun base va vl us ps l X w hK hKB hF hR hP hb hX hll hps => by
    obtain ⟨av, cv, hva⟩ := hP.own.form
    subst hva
    rcases Nat.lt_or_ge 512 (wholeL d l).length with hW | hW
    · have h2 := long_two hF hW
      match f with
      | 0 => omega
      | f + 1 => exact pgPages_more base av us.length cv vl us ps l X d w (by omega) hK hKB hF hR hP hb hX hll hps hP.len (pgSide_any (d + 1) (by omega) (pgPages_any f (d + 1) (by omega))) hW
    · exact pgPages_one base av us.length cv vl us ps l X d w (by omega) hK hKB hF hR hP hb hX hll hps hP.len hW
end Go.Proofs.YtphmmnffgknkcabGreatDoor
namespace Go.Proofs.YtphmmnffgknkcabGreatDoor
open Go.RowKit
set_option maxRecDepth 100000
theorem upon_round {P : Program} {o : Oper} {a : Act} {K : Act → World → Prop} {Q : Exit → Act → World → Prop} {l n : Nat} : ∀ {r : Result Next}, o.upon P a K Q r → o.uponIn (Fence.wide.inRound l) n P a K Q r
  | .ok (.value _) _, h => h
  | .ok .skip _, h => h
  | .ok (.defer _) _, h => h
  | .ok (.enter _ _) _, h => ⟨fun hx => (nomatch hx), CallsIn.inRound l (callsIn_wide.2 h)⟩
  | .ok (.row _ _) _, h => ⟨fun hx => (nomatch hx), fun c cs _ => by
      obtain ⟨v, wq, r, s⟩ := h c cs
      exact ⟨v, wq, r, stepsIn_wide.2 s⟩⟩
  | .halt (.panic _) _, h => h
def noDefer (ops : Array Oper) : Bool := ops.toList.all fun o => match o.op with | .defer _ => false | _ => true
theorem noDefer_at {ops : Array Oper} (h : noDefer ops = true) {i : Nat} {o : Oper} (hi : ops[i]? = some o) (c : _) : o.op ≠ .defer c := by
  intro he
  have h1 := List.all_eq_true.1 h o (by rw [Array.mem_toList_iff]; exact Array.mem_of_getElem? hi)
  rw [he] at h1
  cases h1
theorem wpList_round {P : Program} {ops : Array Oper} {Q : Exit → Act → World → Prop} {m n : Nat} (hQ : ¬ LetsOut Q) : ∀ (l : List Oper) (_ : noDefer l.toArray = true) (a : Act) (w : World), wpList P ops Q l a w → wpListIn (Fence.wide.inRound m) n P ops Q l a w
  | [], _, _, _, h => h
  | o :: rest, hnd, a, w, h => by
    have ho : ∀ c, o.op ≠ .defer c := fun c => noDefer_at hnd (i := 0) rfl c
    have hr : noDefer rest.toArray = true := by
      unfold noDefer at hnd ⊢
      simp only [List.all_cons, Bool.and_eq_true] at hnd
      exact hnd.2
    unfold wpList at h
    unfold wpListIn
    by_cases hw : Region.wanted o (yielded ops a.tmps) = true
    · rw [if_pos hw] at h ⊢
      rcases h with h | h
      · refine Oper.wpIn_mono (fun a w h => wpList_round hQ rest hr a w h) ⟨fun _ _ => trivial, ?_⟩
        rw [Oper.semAt_eq _ _ _ ho]
        exact upon_round h
      · exact absurd h.2 hQ
    · rw [if_neg hw] at h ⊢
      exact ⟨fun _ _ => trivial, wpList_round hQ rest hr _ w h⟩
theorem wpIn_round_list {P : Program} {l : List Oper} {Q : Exit → Act → World → Prop} {m n id : Nat} {a : Act} {w : World} (hnd : noDefer l.toArray = true) (hQ : ¬ LetsOut Q) (h : wpList P l.toArray Q l a w) : (Code.region id l.toArray false).wpIn (Fence.wide.inRound m) n P Q a w :=
  wpIn_region_lit (wpList_round hQ l hnd a w h)
end Go.Proofs.YtphmmnffgknkcabGreatDoor
namespace Go.Proofs.YtphmmnffgknkcabGreatDoor
open Go.RowKit
theorem built_lf (f : Operand → Value) (o : Oper) (x y : Operand) (ho : o.op = .build 119 #[(0, x), (1, y)]) (ix vl : By) (hl : ix.length = 32) (hl2 : vl.length = 32) (hx : f x = .agg (cb ix).toArray) (hy : f y = .agg (cb vl).toArray) (w : World) : (execOp f o).run Tryz.prog w = .ok (.value (.agg (lfC (ix, vl)).toArray)) w := by
  unfold execOp
  rw [ho]
  simp only [List.map_toArray, List.map_cons, List.map_nil, hx, hy]
  match ix, hl, vl, hl2 with
  | [x0, x1, x2, x3, x4, x5, x6, x7, x8, x9, x10, x11, x12, x13, x14, x15, x16, x17, x18, x19, x20, x21, x22, x23, x24, x25, x26, x27, x28, x29, x30, x31], _, [y0, y1, y2, y3, y4, y5, y6, y7, y8, y9, y10, y11, y12, y13, y14, y15, y16, y17, y18, y19, y20, y21, y22, y23, y24, y25, y26, y27, y28, y29, y30, y31], _ =>
    refine id ?_
    show _ = _
    kernel_rfl
theorem lfC_one (p : Lf) : ∀ v ∈ lfC p, v.oneCell' = true := fun v hv => by
  unfold lfC at hv
  rcases List.mem_append.1 hv with h | h
  · exact cb_one _ v h
  · exact cb_one _ v h
theorem build_lf1 (f : Operand → Value) (o : Oper) (x : Operand) (ho : o.op = .buildSlice 81 1 #[(0, x)]) (ix vl : By) (hl : ix.length = 32) (hl2 : vl.length = 32) (hx : f x = .agg (lfC (ix, vl)).toArray) (w : World) :
    (execOp f o).run Tryz.prog w = .ok (.value (.slice (some ⟨w.heap.size, 0, none⟩) 1 1)) (w.alloc (.cells (lfC (ix, vl)).toArray 119)) := by
  unfold execOp
  rw [ho]
  simp only [List.map_toArray, List.map_cons, List.map_nil, hx]
  match ix, hl, vl, hl2 with
  | [x0, x1, x2, x3, x4, x5, x6, x7, x8, x9, x10, x11, x12, x13, x14, x15, x16, x17, x18, x19, x20, x21, x22, x23, x24, x25, x26, x27, x28, x29, x30, x31], _, [y0, y1, y2, y3, y4, y5, y6, y7, y8, y9, y10, y11, y12, y13, y14, y15, y16, y17, y18, y19, y20, y21, y22, y23, y24, y25, y26, y27, y28, y29, y30, y31], _ =>
    refine id ?_
    show _ = _
    kernel_rfl
theorem wpSeq_buildLf {ops : Array Oper} {Q : Exit → Act → World → Prop} {rest : List Oper} {o : Oper} {a : Act} {w : World} (x y : Operand) (ix vl : By) (hl : ix.length = 32) (hl2 : vl.length = 32) (ho : o.op = .build 119 #[(0, x), (1, y)]) (hx : a.eval x = .agg (cb ix).toArray) (hy : a.eval y = .agg (cb vl).toArray) (hw : Region.wanted o (yielded ops a.tmps) = true)
    (h : wpList Tryz.prog ops Q rest (a.put o.dst (.agg (lfC (ix, vl)).toArray)) w) : wpList Tryz.prog ops Q (o :: rest) a w := wpSeq_val _ _ hw (built_lf _ o x y ho ix vl hl hl2 hx hy w) h
theorem wpSeq_buildLf1 {ops : Array Oper} {Q : Exit → Act → World → Prop} {rest : List Oper} {o : Oper} {a : Act} {w : World} (x : Operand) (ix vl : By) (hl : ix.length = 32) (hl2 : vl.length = 32) (ho : o.op = .buildSlice 81 1 #[(0, x)]) (hx : a.eval x = .agg (lfC (ix, vl)).toArray) (hw : Region.wanted o (yielded ops a.tmps) = true)
    (h : ∀ g w', Blk w' g (lfC (ix, vl)) 119 → Below w.heap.size w w' → wpList Tryz.prog ops Q rest (a.put o.dst (.slice (some ⟨g, 0, none⟩) 1 1)) w') : wpList Tryz.prog ops Q (o :: rest) a w :=
  wpSeq_val _ _ hw (build_lf1 _ o x ho ix vl hl hl2 hx w) (h _ _ (Blk.new w _ _) (below_alloc w _))
theorem wpSeq_appLf {ops : Array Oper} {Q : Exit → Act → World → Prop} {rest : List Oper} {o : Oper} {a : Act} {w : World} (s x : Operand) (base : Nat) (v : Value) (l : List Lf) (p : Lf) (g : Nat)
    (hown : OwnLv w base v l) (hu : Blk w g (lfC p) 119) (hp : p.1.length = 32 ∧ p.2.length = 32) (hlen : l.length < 1000000) (hbase : base ≤ w.heap.size)
    (ho : o.op = .call { callee := .builtin .append, args := #[s, x], argTypes := #[81, 81] }) (hs : a.eval s = v) (hx : a.eval x = .slice (some ⟨g, 0, none⟩) 1 1) (hgd : o.guard = none)
    (h : ∀ v' w', OwnLv w' base v' (l ++ [p]) → GrV w v w' v' → wpList Tryz.prog ops Q rest (a.put o.dst v') w') : wpList Tryz.prog ops Q (o :: rest) a w := by
  obtain ⟨i0, hi, hz0, hz1, hz2⟩ := info_parts Tryz.infoLf
  refine wpList_append_own_at (P := Tryz.prog) w hgd s x 81 ho base 119 i0 (.agg (cb zb32 ++ cb zb32).toArray) 64 64 Tryz.underlying81 hi hz0 hz1 hz2 (by show (cb zb32 ++ cb zb32).toArray.size = 64; rw [List.size_toArray, List.length_append, cb_len]; rfl) (by decide) v l.length (flatLf l) hs hown.1 ⟨g, 0, none⟩ 1 1 (lfC p) hx (by rw [lfC_len hp]) (fun j q hj => by rw [Addr.add_mid, Nat.zero_add, hu.cell]; exact hj) (lfC_one p) (by unfold maxLen; omega) (by omega) hbase ?_
  intro v' w' h2 h3 _ h5
  refine h v' w' ⟨by rw [flatLf_snoc, List.length_append]; exact h2, fun q hq => ?_⟩ ⟨mut_grown h3, fun k hk => ?_⟩
  · rcases List.mem_append.1 hq with hq | hq
    · exact hown.2 q hq
    · rw [List.mem_singleton.1 hq]; exact hp
  · rcases h5 with h5 | h5
    · exact Or.inl (h5 ▸ hk)
    · rw [h5] at hk; cases hk; exact Or.inr (Nat.le_refl _)
theorem wpSeq_cellL {ops : Array Oper} {Q : Exit → Act → World → Prop} {rest : List Oper} {o : Oper} {a : Act} {w : World} (x y : Operand) (g : Nat) (v u : Value) (hb : Blk w g [v] 81) (hv : ∃ ad n c, u = .slice ad n c) (ho : o.op = .store 81 x y) (hx : a.eval x = .pointer (some ⟨g, 0, none⟩)) (hy : a.eval y = u) (hw : Region.wanted o (yielded ops a.tmps) = true)
    (h : ∀ w', Blk w' g [u] 81 → Only g w w' → wpList Tryz.prog ops Q rest (a.put o.dst undef) w') : wpList Tryz.prog ops Q (o :: rest) a w := by
  obtain ⟨ad, n, c, rfl⟩ := hv
  have hc : w.cell? ⟨g, 0, none⟩ = some v := hb.cell 0
  have hf : w.frozen? ⟨g, 0, none⟩ = false := hb.frozen 0
  have he : (execOp a.eval o).run Tryz.prog w = .ok .skip (w.setCell ⟨g, 0, none⟩ (.slice ad n c)) := by
    clear h hw
    generalize a.eval = f at hx hy ⊢
    unfold execOp
    rw [ho]
    simp [go_sem, hx, hy, hc, hf]
  unfold wpList
  simp only [hw, if_true]
  left
  unfold Oper.wp
  rw [he, Oper.upon_skip]
  exact h _ (hb.set 0 _) (Only.setCell (Only.refl g w) 0 _)
theorem wpSeqIn_allocD {F : Fence} {n : Nat} {ops : Array Oper} {Q : Exit → Act → World → Prop} {rest : List Oper} {o : Oper} {a : Act} {w : World} (ho : o.op = .alloc 40) (hw : Region.wanted o (yielded ops a.tmps) = true)
    (h : ∀ g w', NewB zb32 w g w' → wpListIn F n Tryz.prog ops Q rest (a.put o.dst (.pointer (some ⟨g, 0, none⟩))) w') : wpListIn F n Tryz.prog ops Q (o :: rest) a w :=
  wpSeqIn_val _ _ hw (by rw [ho]; intro c hc; cases hc) (by simp [Oper.about, ho]) (allocDigest _ _ ho _) (h _ _ (NewB.of zb32 w))
theorem keeps_mut {P : Nat → Prop} {W W' : World} (m : Mut P W W') (hP : ∀ k, P k → ∃ ar t fz, W.heap[k]? = some (.cells ar t fz)) : KeepsOthers W W' :=
  ⟨m.size, fun k o hk ho => by
    have hk2 := (Array.getElem?_eq_some_iff.1 hk).1
    rw [m.block k hk2 fun hp => by
      obtain ⟨ar, t, fz, h⟩ := hP k hp
      rw [hk] at h
      cases h
      cases ho]
    exact hk⟩
theorem OwnLv.cells {W : World} {base : Nat} {v : Value} {l : List Lf} (h : OwnLv W base v l) : ∀ k, v.ownBlock = some k → ∃ ar t fz, W.heap[k]? = some (.cells ar t fz) := fun k hk => by
  rcases h.1 with ⟨_, ⟨rfl, _⟩ | ⟨g, cap, cur, rfl, _, hh, _⟩⟩
  · cases hk
  · cases hk; exact ⟨_, _, _, hh⟩
theorem ownsRow_lower {W : World} {base : Nat} {t : TypeId} {z n : Nat} {v : Value} {xs : List Value} (h : W.ownsRow (base + 1) t z v n xs) : W.ownsRow base t z v n xs := by
  obtain ⟨h1, h2 | ⟨g, cap, cur, e, hg, r⟩⟩ := h
  · exact ⟨h1, Or.inl h2⟩
  · exact ⟨h1, Or.inr ⟨g, cap, cur, e, Nat.le_of_succ_le hg, r⟩⟩
structure LoI (v0 : World) (n₀ g2 : Nat) (pre : List Lf) (W : World) : Prop where
  bel : Below n₀ v0 W
  ge : n₀ ≤ W.heap.size
  row : ∃ v, Blk W g2 [v] 81 ∧ OwnLv W (n₀ + 1) v pre
theorem OwnLv.kept {W W' : World} {base : Nat} {v : Value} {l : List Lf} {row : Option Nat} (h : OwnLv W base v l) (hg : W.grownBy W' row) (hr : ∀ r, row = some r → ∃ o : Obj, W.heap[r]? = some o ∧ o.isCells = false) : OwnLv W' base v l :=
  h.same fun k hk => hg.block k (h.lt k hk).2 fun e => by
    obtain ⟨o, h1, h2⟩ := hr k e.symm
    rcases h.1 with ⟨_, ⟨rfl, _⟩ | ⟨g, cap, cur, rfl, _, hh, _⟩⟩
    · cases hk
    · cases hk
      rw [hh] at h1
      cases h1
      cases h2
theorem LoI.own {v0 : World} {n₀ B g2 : Nat} (hB : n₀ ≤ B) : OwnFrom B (LoI v0 n₀ g2) := fun s A W' row hs hg hr => by
  obtain ⟨v, h1, h2⟩ := hs.row
  exact ⟨hs.bel.grown hg hs.ge (fun k e => Nat.le_trans hB (hr k e).1), Nat.le_trans hs.ge hg.size, v, blk_own (β := Unit) g2 (fun _ => [v]) _ () A W' row h1 hg (fun r e => (hr r e).2), h2.kept hg (fun r e => (hr r e).2)⟩
theorem LoI.next {v0 W W' : World} {n₀ g2 : Nat} {pre : List Lf} (h : LoI v0 n₀ g2 pre W) (hb : Below W.heap.size W W') : LoI v0 n₀ g2 pre W' := by
  obtain ⟨v, h1, h2⟩ := h.row
  exact ⟨h.bel.trans (hb.mono h.ge), Nat.le_trans h.ge hb.size, v, h1.below hb h1.lt, h2.next hb⟩
set_option maxHeartbeats 8000000 in
theorem pgLeavesOf_any (g : Nat) (l : List Lf) (w : World) (hT : TreeIs w 0 g l) (hl : l.length < 100000) :
    Calls Tryz.prog 37 #[.pointer (some ⟨g, 0, none⟩)] w fun e w' => ∃ v, e = .returned v ∧ OwnLv w' w.heap.size v l ∧ Below w.heap.size w w' := by
  obtain ⟨n₀, HN0⟩ : ∃ n, Hid (n = w.heap.size) := ⟨_, rfl⟩
  have HT : Hid (TreeIs w 0 g l) := hT
  have HL : Hid (l.length < 100000) := hl
  obtain ⟨w1, HW1⟩ : ∃ z, Hid (z = w.alloc (.cells [Value.slice none 0 0].toArray 81)) := ⟨_, rfl⟩
  have HI1 : Hid (LoI w n₀ n₀ [] w1 ∧ n₀ + 1 ≤ w1.heap.size) := by
    rw [HW1.out, HN0.out]
    exact ⟨⟨below_alloc _ _, by simp, .slice none 0 0, Blk.new _ _ _, OwnLv.nil _ _⟩, by simp⟩
  clear hT hl
  refine (callsIn_wide (n := 4)).1 ?_
  refine callsIn_of_wp_marks Tryz.func37 rfl trivial ?_ rfl
  simp only [Tryz.ntmps37, List.size_toArray, List.length_cons, List.length_nil, Nat.reduceAdd, Nat.reduceSub, Array.replicate_succ, Array.replicate_zero, List.push_toArray, List.append_toArray, List.nil_append, List.cons_append]
  refine wpIn_wide.2 ?_
  go_upto_region 1 with fail
  change Code.wp _ _ _ _ (w.alloc (.cells [Value.slice none 0 0].toArray 81))
  rw [← HW1.out]
  have e1 : (some ⟨w.heap.size, 0, none⟩ : Option Addr) = some ⟨n₀, 0, none⟩ := by rw [HN0.out]
  simp only [e1]
  clear e1
  go_wp2_with (go_at_call 67; refine (trAll_any _ g).mono ?_; rintro e w2 ⟨gb, rfl, hbb, hb⟩
               have HGB : Hid (Blk w2 gb [ptr g] 36) := hbb
               have HI2 : Hid (LoI w n₀ n₀ [] w2 ∧ n₀ + 1 ≤ w2.heap.size) := ⟨HI1.out.1.next hb, Nat.le_trans HI1.out.2 hb.size⟩
               clear hb hbb HI1)
  refine (wpIn_wide (n := 4)).1 ?_
  refine wpIn_rangeFunc_ownH (F := Fence.wide) (α := Lf32) rfl (by omega) (gf := 88) (lb := #[.pointer (some ⟨gb, 0, none⟩)]) rfl trivial (enters_of Tryz.func88 (by kernel_rfl) rfl)
    (all_stops 3 (v0 := w) (n₀ := n₀) HN0.out.symm HT.out w2 HI2.out.1.bel HI2.out.1.ge HGB.out) belowK_t (fun W l o o' h1 h2 h3 h4 => belowK_b (w := w2) HI2.out.1.ge W l o o' h1 h2 h3 h4) (Below.refl _ _) (fun _ => rfl)
    (fun pre W => LoI w n₀ n₀ (pre.map (·.1)) W) (fun _ _ _ => False)
    (fun s A W' row hs hg hr => LoI.own HI2.out.1.ge (s.map (·.1)) A W' row hs hg hr) (fun c s A W' row hs _ _ => hs.elim) HI2.out.1
    (fun x a' W => ∃ gx gv, a' = { tmps := #[.pointer (some ⟨g, 0, none⟩), undef, .pointer (some ⟨n₀, 0, none⟩), .pointer (some ⟨gx, 0, none⟩), .pointer (some ⟨gv, 0, none⟩), .pointer (some ⟨g, 0, none⟩), .bool false, .pointer (some ⟨g, 0, none⟩), .func (.func 88) #[] #[.pointer (some ⟨gb, 0, none⟩)], .agg (cb x.1.1).toArray, .agg (cb x.1.2).toArray, undef, undef, undef, undef, undef, undef, undef], defers := [] } ∧ Blk W gx (cb x.1.1) 40 ∧ Blk W gv (cb x.1.2) 40) ?hax ?assign ?body ?done ?stop
  case hax =>
    rintro x a' _ A W' row ⟨gx, gv, h1, h2, h3⟩ hg hr
    exact ⟨gx, gv, h1, blk_own (β := Unit) gx (fun _ => cb x.1.1) _ () A W' row h2 hg (fun r e => (hr r e).2), blk_own (β := Unit) gv (fun _ => cb x.1.2) _ () A W' row h3 hg (fun r e => (hr r e).2)⟩
  case assign =>
    intro lab pre x W K hI hK
    have HIW : Hid (LoI w n₀ n₀ (pre.map (·.1)) W) := hI
    have HKK : Aside (∀ a' W', KeepsFrom w2.heap.size W W' → Below n₀ W W' → LoI w n₀ n₀ (pre.map (·.1)) W' → (∃ gx gv, a' = { tmps := #[.pointer (some ⟨g, 0, none⟩), undef, .pointer (some ⟨n₀, 0, none⟩), .pointer (some ⟨gx, 0, none⟩), .pointer (some ⟨gv, 0, none⟩), .pointer (some ⟨g, 0, none⟩), .bool false, .pointer (some ⟨g, 0, none⟩), .func (.func 88) #[] #[.pointer (some ⟨gb, 0, none⟩)], .agg (cb x.1.1).toArray, .agg (cb x.1.2).toArray, undef, undef, undef, undef, undef, undef, undef], defers := [] } ∧ Blk W' gx (cb x.1.1) 40 ∧ Blk W' gv (cb x.1.2) 40) → K a' W') := hK
    clear hI hK
    simp only [encs32, encsL, List.zip_toArray, List.zip_cons_cons, List.zip_nil_right, List.size_toArray, List.length_cons, List.length_nil, Nat.reduceAdd, Array.foldl]
    gi_wp2_with (first
      | (with_reducible refine wpSeqIn_storeD (.tmp 3) (.tmp 9) gx zb32 x.1.1 ?_ ?_ ?_ ?_ ?_ ?_ ?_ ?_
         · rfl
         · exact x.2.1
         · exact HN1.out.blk
         · rfl
         · rfl
         · rfl
         · rfl
         intro W2 s2 _
         have HC1 : Hid (Blk W2 gx (cb x.1.1) 40) := s2.blk
         have HQ1 : Hid (Below W.heap.size W W2) := HN1.out.below.trans (s2.only.below HN1.out.ge HN1.out.below.size)
         clear s2 HN1)
      | (with_reducible refine wpSeqIn_storeD (.tmp 4) (.tmp 10) gv zb32 x.1.2 ?_ ?_ ?_ ?_ ?_ ?_ ?_ ?_
         · rfl
         · exact x.2.2
         · exact HN3.out.blk
         · rfl
         · rfl
         · rfl
         · rfl
         intro W4 s4 _
         have HC2 : Hid (Blk W4 gv (cb x.1.2) 40) := s4.blk
         have hb4 : Below W2.heap.size W2 W4 := HN3.out.below.trans (s4.only.below HN3.out.ge HN3.out.below.size)
         replace HC1 : Hid (Blk W4 gx (cb x.1.1) 40) := HC1.out.below hb4 HC1.out.lt
         replace HQ1 : Hid (Below W.heap.size W W4) := HQ1.out.trans (hb4.mono HQ1.out.size)
         clear s4 HN3 hb4)
      | (with_reducible refine wpSeqIn_allocD ?_ ?_ ?_
         · rfl
         · rfl
         intro gv W3 n3
         have HN3 : Hid (NewB zb32 W2 gv W3) := n3
         clear n3)
      | (with_reducible refine wpSeqIn_allocD ?_ ?_ ?_
         · rfl
         · rfl
         intro gx W1 n1
         have HN1 : Hid (NewB zb32 W gx W1) := n1
         clear n1))
    exact HKK.out _ W4 ((keepsOthers_of_below HQ1.out).from _) (HQ1.out.mono HIW.out.ge) (HIW.out.next HQ1.out) ⟨gx, gv, rfl, HC1.out, HC2.out⟩
  case body =>
    rintro lab pre x a' W _ _ hI ⟨gx, gv, rfl, hbx, hbv⟩ hlen
    have HI : Hid (LoI w n₀ n₀ (pre.map (·.1)) W) := hI
    have HX : Hid (Blk W gx (cb x.1.1) 40 ∧ Blk W gv (cb x.1.2) 40) := ⟨hbx, hbv⟩
    have H32 : Hid (x.1.1.length = 32 ∧ x.1.2.length = 32) := x.2
    have HLN : Hid ((pre.map (·.1)).length < 1000000) := by show _ < _; rw [List.length_map]; have := HL.out; omega
    obtain ⟨v, hbb, how⟩ := hI.row
    obtain ⟨av, cv, hv⟩ := how.form
    obtain ⟨nv, HNV⟩ : ∃ z : Nat, Hid (z = (pre.map (·.1)).length) := ⟨_, rfl⟩
    rw [← HNV.out] at hv
    subst hv
    have HBB : Hid (Blk W n₀ [.slice av nv cv] 81) := hbb
    have HOW : Hid (OwnLv W (n₀ + 1) (.slice av nv cv) (pre.map (·.1))) := how
    have HGE : Hid (n₀ + 1 ≤ W.heap.size) := Nat.succ_le_of_lt hbb.lt
    have c0 : W.cell? ⟨n₀, 0, none⟩ = some (.slice av nv cv) := hbb.cell 0
    clear hI hbx hbv hlen hbb how
    refine wpIn_block ?_
    refine wpIn_round_list (by kernel_rfl) (by rintro ⟨_, _, h⟩; exact h) ?_
    have tk1 : Hid True := trivial
    go_wp2_with (first
      | (with_reducible refine wpSeq_loadD (.tmp 3) gx x.1.1 H32.out.1 HX.out.1 ?_ ?_ ?_ ?_
         · rfl
         · rfl
         · rfl)
      | (with_reducible refine wpSeq_loadD (.tmp 4) gv x.1.2 H32.out.2 HX.out.2 ?_ ?_ ?_ ?_
         · rfl
         · rfl
         · rfl)
      | (with_reducible refine wpSeq_buildLf (.tmp 12) (.tmp 13) x.1.1 x.1.2 H32.out.1 H32.out.2 ?_ ?_ ?_ ?_ ?_
         · rfl
         · rfl
         · rfl
         · rfl)
      | (clear tk1; with_reducible refine wpSeq_buildLf1 (.tmp 14) x.1.1 x.1.2 H32.out.1 H32.out.2 ?_ ?_ ?_ ?_
         · rfl
         · rfl
         · rfl
         intro g3 W3 hu3 hb3
         have HU3 : Hid (Blk W3 g3 (lfC x.1) 119) := hu3
         have HB3 : Hid (Below W.heap.size W W3) := hb3
         have HO3 : Hid (OwnLv W3 (n₀ + 1) (.slice av nv cv) (pre.map (·.1))) := HOW.out.next hb3
         have HG3 : Hid (n₀ + 1 ≤ W3.heap.size) := Nat.le_trans HGE.out hb3.size
         clear hu3 hb3)
      | (with_reducible refine wpSeq_appLf (.tmp 11) (.tmp 15) (n₀ + 1) (.slice av nv cv) (pre.map (·.1)) x.1 g3 HO3.out HU3.out H32.out HLN.out HG3.out ?_ ?_ ?_ ?_ ?_
         · rfl
         · rfl
         · rfl
         · rfl
         intro v4 W4 ho4 hg4
         have hne : (Value.slice av nv cv).ownBlock ≠ some n₀ := fun e => by have := (HO3.out.lt n₀ e).1; omega
         have HO4 : Hid (OwnLv W4 (n₀ + 1) v4 (pre.map (·.1) ++ [x.1])) := ho4
         have HB4 : Hid (Blk W4 n₀ [.slice av nv cv] 81) := hg4.mt.blk (HBB.out.below HB3.out HBB.out.lt) hne
         have HF4 : Hid (∃ ad n c, v4 = .slice ad n c) := by obtain ⟨a, c, h⟩ := ho4.form; exact ⟨_, _, _, h⟩
         have HK4 : Hid (KeepsOthers W W4 ∧ Below n₀ W W4) := ⟨(keepsOthers_of_below HB3.out).trans (keeps_mut hg4.mt HO3.out.cells), (HB3.out.mono (Nat.le_of_succ_le HGE.out)).trans (hg4.below (Nat.le_of_succ_le HG3.out) fun k hk => Nat.le_of_succ_le (HO3.out.lt k hk).1)⟩
         clear ho4 hg4 hne)
      | (with_reducible refine wpSeq_cellL (.tmp 2) (.tmp 16) n₀ (.slice av nv cv) v4 HB4.out HF4.out ?_ ?_ ?_ ?_ ?_
         · rfl
         · rfl
         · rfl
         · rfl
         intro W5 hb5 ho5
         have HB5 : Hid (Blk W5 n₀ [v4] 81) := hb5
         have HO5 : Hid (Only n₀ W4 W5) := ho5
         clear hb5 ho5))
    have hlt := HB4.out.lt
    refine ⟨(HK4.out.1.trans (keeps_mut (HO5.out.mut (P := fun k => k = n₀) rfl) fun k e => by subst e; exact ⟨_, _, _, HB4.out⟩)).from _, HK4.out.2.trans (HO5.out.below (Nat.le_refl _) (Nat.le_of_lt hlt)), ?_⟩
    refine ⟨HI.out.bel.trans (HK4.out.2.trans (HO5.out.below (Nat.le_refl _) (Nat.le_of_lt hlt))), Nat.le_trans (Nat.le_of_lt hlt) HO5.out.size, v4, HB5.out, ?_⟩
    rw [List.map_append]
    exact HO4.out.same fun k hk => HO5.out.block k (fun e => by have := (HO4.out.lt k hk).1; omega) (HO4.out.lt k hk).2
  case done =>
    rintro D ys W hD hys hI hK
    have hI' : LoI w n₀ n₀ (ys.map (·.1)) W := hI
    rw [hys] at hI'
    obtain ⟨v, hbb, how⟩ := hI'.row
    have HD : Hid (n₀ ≤ D) := Nat.le_trans HI2.out.1.ge hD
    have HBB : Hid (Blk W n₀ [v] 81) := hbb
    have HOW : Hid (OwnLv W (n₀ + 1) v l) := how
    have HBW : Hid (Below n₀ w W) := hI'.bel
    have HKD : Hid (W.heap[D]? = some (.deferred (some []))) := hK
    have HF : Hid (∃ ad n c, v = .slice ad n c) := by obtain ⟨a, c, h⟩ := how.form; exact ⟨_, _, _, h⟩
    have c0 : W.cell? ⟨n₀, 0, none⟩ = some v := hbb.cell 0
    have HVO : Hid (v.oneCell' = true) := by obtain ⟨a, n, c, h⟩ := HF.out; show _ = _; rw [h]; rfl
    clear hI hI' hys hbb how hK hD
    obtain ⟨av, nv, cv, hv⟩ := HF.out
    subst hv
    gi_wp2
    go_wp2_with (with_reducible refine wpSeq_cellL (.tmp 2) (.tmp 17) n₀ (.slice av nv cv) (.slice av nv cv) HBB.out HF.out ?_ ?_ ?_ ?_ ?_
                 · rfl
                 · rfl
                 · rfl
                 · rfl
                 intro W2 hb2 ho2
                 have HB2 : Hid (Blk W2 n₀ [.slice av nv cv] 81) := hb2
                 have HO2 : Hid (Only n₀ W W2) := ho2
                 clear hb2 ho2)
    all_goals
      have hne : D ≠ n₀ := fun e => by have h1 := HKD.out; rw [e] at h1; have h2 := HBB.out; unfold Blk at h2; rw [h1] at h2; cases h2
      have hlt := (Array.getElem?_eq_some_iff.1 HKD.out).1
      have hK' : W2.heap[D]? = some (.deferred (some [])) := by rw [HO2.out.block D hne hlt]; exact HKD.out
      refine ⟨by simp, .inl ⟨_, _, rfl, run_takeDeferred hK', ?_⟩⟩
      have hc5 := ((HB2.out).put hK' rfl (o' := .deferred none)).cell 0
      have hbl := HBB.out.lt
      refine ⟨.slice av nv cv, ?_, _, rfl, ?_, ?_⟩
      · simp at hc5
        simp [results, Tryz.f37, go_sem, hc5]
      · have h := HOW.out.same (w' := W2) fun k hk => HO2.out.block k (fun e => by have := (HOW.out.lt k hk).1; omega) (HOW.out.lt k hk).2
        have h2 := h.kept (grownBy_putObj' W2 D (.deferred none)) (fun r e => by cases e; exact ⟨_, hK', rfl⟩)
        rw [← HN0.out]
        exact ⟨ownsRow_lower h2.1, h2.2⟩
      · rw [← HN0.out]
        exact (HBW.out.trans (HO2.out.below (Nat.le_refl _) (Nat.le_of_lt hbl))).trans (belowK_b (w := w) (n₀ := n₀) (by rw [HN0.out]; exact Nat.le_refl _) _ D _ _ (by rw [← HN0.out]; exact HD.out) hK' rfl rfl)
  case stop =>
    rintro D c pre W _ _ hX _
    exact hX.elim
theorem PgS.lower {W : World} {base B : Nat} {v : Value} {us : List Value} {ps : List By} {X : Nat → Prop} (h : PgS W base v us ps X) (hB : B ≤ base) : PgS W B v us ps X := by
  refine ⟨?_, h.len, h.good⟩
  obtain ⟨h1, h2 | ⟨g, cap, cur, e, hg, r⟩⟩ := h.own
  · exact ⟨h1, Or.inl h2⟩
  · exact ⟨h1, Or.inr ⟨g, cap, cur, e, Nat.le_trans hB hg, r⟩⟩
theorem save_few {l : List Lf} (h1 : okLf l) (h2 : Up l) (hl : l.length ≤ 100) : (saveL 0 l).length ≤ 25601 := by
  have := save_count 256 0 l rfl (fits_zero h1 h2)
  omega
set_option maxHeartbeats 4000000 in
theorem pgSave_any (g : Nat) (l : List Lf) (w : World) (hK : KOk w) (hT : TT w g l) (hl : l.length ≤ 100) :
    Calls Tryz.prog 22 #[.pointer (some ⟨g, 0, none⟩)] w fun e w' => ∃ v us, e = .returned (.tuple #[.agg (cb (dig (topPg 0 l))).toArray, v]) ∧ PgS w' w.heap.size v us (saveL 0 l) (fun _ => False) ∧ Below w.heap.size w w' := by
  obtain ⟨dg, HDG⟩ : ∃ x, Hid (x = dig (topPg 0 l)) := ⟨_, rfl⟩
  have HDL : Hid (dg.length = 32) := by show _ = _; rw [HDG.out]; exact len_dig' _
  have HT : Hid (TT w g l) := hT
  have HK : Hid (KOk w) := hK
  have HL : Hid (l.length ≤ 100) := hl
  clear hK hT hl
  go_enter Tryz.func22, Tryz.ntmps22
  go_wp2_with (first
    | (with_reducible refine wpSeq_allocD ?_ ?_ ?_
       · rfl
       · rfl
       intro g2 w1 nn
       have HN2 : Hid (Blk w1 g2 (cb zb32) 40 ∧ w.heap.size ≤ g2) := ⟨nn.blk, nn.ge⟩
       have HBW : Hid (Below w.heap.size w w1) := nn.below
       replace HK : Hid (KOk w1) := HK.out.below nn.below HK.out.lt
       replace HT : Hid (TT w1 g l) := HT.out.next nn.below
       clear nn)
    | (go_at_call 37; refine (pgLeavesOf_any g l _ HT.out.1 (Nat.lt_of_le_of_lt HL.out (by decide))).mono ?_; rintro e w2 ⟨vl, rfl, ho, hb⟩
       have HR2 : Hid (RdLb w2.heap.size w2 vl l) := ⟨ho.rd, fun k hk => (ho.lt k hk).2⟩
       have HN3 : Hid (Blk w2 g2 (cb zb32) 40 ∧ w.heap.size ≤ g2) := ⟨HN2.out.1.below hb HN2.out.1.lt, HN2.out.2⟩
       have HF : Hid (Fits l 0) := fits_zero HT.out.2.1 HT.out.2.2
       have HSC : Hid (([] : List By).length + (saveL 0 l).length < 100000) := by have := save_few HT.out.2.1 HT.out.2.2 HL.out; show _ < _; rw [List.length_nil]; omega
       replace HBW : Hid (Below w.heap.size w w2) := HBW.out.trans (hb.mono HBW.out.size)
       replace HK : Hid (KOk w2) := HK.out.below hb HK.out.lt
       clear ho hb HN2 HT)
    | (go_at_call 36; refine (pgPages_any 256 0 rfl w2.heap.size (.slice none 0 0) vl [] [] l (fun k => k = g2) w2 HK.out HK.out.lt HF.out HR2.out (PgS.nil _ _ _) (Nat.le_refl _) (fun k e => by rw [e]; exact HN3.out.1.lt) (Nat.lt_of_le_of_lt HL.out (by decide)) HSC.out).mono ?_; rintro e w3 ⟨v, us, rfl, hp, hg⟩
       rw [← HDG.out]
       have hb : Below w2.heap.size w2 w3 := hg.below (Nat.le_refl _) fun k e => by cases e
       have HP : Hid (PgS w3 w2.heap.size v us (saveL 0 l) (fun k => k = g2)) := hp
       have HN4 : Hid (Blk w3 g2 (cb zb32) 40) := HN3.out.1.below hb HN3.out.1.lt
       have HBW3 : Hid (Below w.heap.size w w3 ∧ w.heap.size ≤ w2.heap.size ∧ w.heap.size ≤ g2) := ⟨HBW.out.trans (hb.mono HBW.out.size), HBW.out.size, HN3.out.2⟩
       clear hp hg hb HK HR2 HN3 HF HSC)
    | (with_reducible refine wpSeq_storeD (.tmp 2) (.tmp 7) g2 zb32 dg zb32_len HDL.out HN4.out ?_ ?_ ?_ ?_ ?_
       · rfl
       · rfl
       · rfl
       · rfl
       intro w4 h9
       have HN5 : Hid (Blk w4 g2 (cb dg) 40 ∧ Only g2 w3 w4) := ⟨h9.blk, h9.only⟩
       clear h9))
  refine bodyPost_ret (results_row_tmp (by rfl) _ _ _ g2 40 (cb dg) _ v rfl rfl HN5.out.1 Tryz.underlying40 rfl (by rw [cb_len, HDL.out]; exact info_digest)) rfl ?_
  refine ⟨v, us, by rw [← HDG.out], ?_, HBW3.out.1.trans (HN5.out.2.below HBW3.out.2.2 HBW3.out.1.size)⟩
  exact ((HP.out.only rfl (HP.out.own.ne_blk HN4.out (by decide)) HN5.out.2).weak fun _ _ e => e.elim).lower HBW3.out.2.1
end Go.Proofs.YtphmmnffgknkcabGreatDoor
namespace Go.Proofs.YtphmmnffgknkcabGreatDoor
open Go.RowKit
set_option maxRecDepth 100000
theorem while_all {f : Lf → Bool} : ∀ {l : List Lf}, (∀ q ∈ l, f q = true) → l.takeWhile f = l ∧ l.dropWhile f = []
  | [], _ => ⟨rfl, rfl⟩
  | p :: r, h => by
    have ih := while_all (l := r) fun q hq => h q (List.mem_cons_of_mem _ hq)
    have hp := h p (by simp)
    rw [List.takeWhile_cons_of_pos hp, List.dropWhile_cons_of_pos hp, ih.1, ih.2]
    exact ⟨rfl, rfl⟩
theorem ofL_self {l : List Lf} (hu : Up l) : ofL l = l := by
  have key : ∀ n, n ≤ l.length → ofL (l.take n) = l.take n := by
    intro n
    induction n with
    | zero => intro _; rfl
    | succ n ih =>
      intro hn
      have e : l.take (n + 1) = l.take n ++ [l.getD n ([], [])] := take_map (by omega)
      rw [e, ofL_snoc, ih (by omega)]
      have hlt : ∀ q ∈ l.take n, lessB q.1 (l.getD n ([], [])).1 = true := fun q hq => by
        have hu2 : Up (l.take n ++ [l.getD n ([], [])]) := by rw [← e]; exact hu.sublist (List.take_sublist _ _)
        exact (List.pairwise_append.1 hu2).2.2 q hq _ (by simp)
      unfold putL
      have hw := while_all (f := fun p : Lf => lessB p.1 (l.getD n ([], [])).1) hlt
      rw [hw.1, hw.2]
      rfl
  have := key l.length (Nat.le_refl _)
  rwa [List.take_length] at this
theorem zip_self (l : List Lf) : (l.map (·.1)).zip (l.map (·.2)) = l := by
  induction l with
  | nil => rfl
  | cons p r ih => simp only [List.map_cons, List.zip_cons_cons, ih]
theorem psM_of {w : World} {ap : Option Addr} {cp : Nat} {ps : List By} (hR : ReadsL w (.slice ap ps.length cp) ps) : PsM w w.heap.size ap ps := fun W hW i hi hp => by
  obtain ⟨ad, cap, h1, h2, h3, h4⟩ := hR
  simp only [Value.slice.injEq] at h1
  obtain ⟨rfl, _, rfl⟩ := h1
  obtain ⟨b, off, rfl, h5⟩ := h4 (by omega)
  obtain ⟨vj, h6, h7⟩ := h5 i hi
  refine ⟨b, off, vj, rfl, by rw [hW.cell (p := ⟨b, off + i, none⟩) (block_lt_of_cell h6)]; exact h6, h7.below hW, fun k hk => ?_⟩
  obtain ⟨ad2, cap2, rfl, h8, h9, h10⟩ := h7
  obtain ⟨b2, off2, rfl, h11⟩ := h10 hp
  cases hk
  exact block_lt_of_cell (h11 0 hp)
section
variable {w0 : World} {B gr gm : Nat} {ap : Option Addr} {cp : Nat} {ps : List By}
theorem top_ok (hM : PsM w0 B ap ps) (hn : ps.length < 1000000) (l : List Lf) (hF : Fits l 0) (hf : Free ps (saveL 0 l)) (hk : (saveL 0 l).length ≤ ps.length + 1) (hS : ∀ p ∈ saveL 0 l, p ∈ ps) (hl : l.length < 100000) (ix iv : Value) (W : World) (hi : RrI w0 B gr gm (.slice ap ps.length cp) ps 0 ix iv [] [] W) :
    Calls Tryz.prog 20 #[.pointer (some ⟨gr, 0, none⟩), .agg (cb (dig (topPg 0 l))).toArray, .agg (cb zb32).toArray, .int .i64 0] W fun e w' => e = .returned (.int .i64 0) ∧ ∃ k' ix' iv', RrI w0 B gr gm (.slice ap ps.length cp) ps k' ix' iv' (l.map (·.1)) (l.map (·.2)) w' ∧ RdG gr ix iv W ix' iv' w' := by
  have hst := save_top 0 l
  have hpc := top_pc 256 0 l rfl hF
  have ht := top_short (by omega) hF
  rw [hst] at hf hk hS
  rw [List.length_cons] at hk
  obtain ⟨hin, i, hpl, hil, hit⟩ := (plK_find (hf (topPg 0 l) (by simp))).resolve_right (fun h => h.1 (hS (topPg 0 l) (by simp)))
  obtain ⟨b, off, vj, hap, hrow, hrd⟩ := hM W hi.bel i hil (by rw [hit]; omega)
  rw [hit] at hrd
  obtain ⟨bj, oj, cj, hvj, _⟩ := hrd.at (by omega)
  refine pgPage_ok w0 B gr gm ap ps.length cp ps 0 ix iv [] [] (dig (topPg 0 l)) zb32 0 W hi (len_dig' _) rfl i b off vj _ hpl hil hap hrow ⟨_, _, _, hvj⟩ fun W' hW' => ?_
  refine ((piece_any hM hn hpc 0 ix iv [] [] vj [] zb32 W' (hi.next hW') (WyP.zero l) (by rw [List.append_nil]; exact hrd.nextP hW') (fun p hp => hf p (List.mem_cons_of_mem _ hp)) (by omega) (by rw [List.append_nil]; omega) (by simpa using hl) (by simpa using hl)).1 (fun p hp => hS p (List.mem_cons_of_mem _ hp))).mono (two_mono fun a b w' => ?_)
  rintro ⟨e1, e2, ix', iv', e3, e4⟩
  obtain ⟨ad, c, e5, _⟩ := e2.1
  exact ⟨e1, ⟨ad, c, e5⟩, _, ix', iv', e3, e4.from hW'⟩
end
theorem built_rd (f : Operand → Value) (o : Oper) (x y : Operand) (ap : Option Addr) (np cp gm : Nat) (ho : o.op = .build 59 #[(0, x), (1, y)]) (hx : f x = .slice ap np cp) (hy : f y = .map (some gm)) (w : World) : (execOp f o).run Tryz.prog w = .ok (.value (.agg (rdC (.slice ap np cp) gm 0 nilV nilV).toArray)) w := by
  unfold execOp
  rw [ho]
  simp only [List.map_toArray, List.map_cons, List.map_nil, hx, hy]
  kernel_rfl
theorem wpSeq_buildRd {ops : Array Oper} {Q : Exit → Act → World → Prop} {rest : List Oper} {o : Oper} {a : Act} {w : World} (x y : Operand) (ap : Option Addr) (np cp gm : Nat) (ho : o.op = .build 59 #[(0, x), (1, y)]) (hx : a.eval x = .slice ap np cp) (hy : a.eval y = .map (some gm)) (hw : Region.wanted o (yielded ops a.tmps) = true)
    (h : wpList Tryz.prog ops Q rest (a.put o.dst (.agg (rdC (.slice ap np cp) gm 0 nilV nilV).toArray)) w) : wpList Tryz.prog ops Q (o :: rest) a w := wpSeq_val _ _ hw (built_rd _ o x y ap np cp gm ho hx hy w) h
def rdZ : List Value := [.slice none 0 0, .map none, .int .i64 0, .slice none 0 0, .slice none 0 0]
theorem wpSeq_allocRd {ops : Array Oper} {Q : Exit → Act → World → Prop} {rest : List Oper} {o : Oper} {a : Act} {w : World} (ho : o.op = .alloc 59) (hw : Region.wanted o (yielded ops a.tmps) = true)
    (h : ∀ g w', Blk w' g rdZ 59 → w.heap.size ≤ g → Below w.heap.size w w' → wpList Tryz.prog ops Q rest (a.put o.dst (.pointer (some ⟨g, 0, none⟩))) w') : wpList Tryz.prog ops Q (o :: rest) a w :=
  wpSeq_val _ (w.alloc (.cells rdZ.toArray 59)) hw (by unfold execOp; rw [ho]; kernel_rfl) (h _ _ (Blk.new w _ _) (Nat.le_refl _) (below_alloc w _))
theorem wpSeq_storeRd {ops : Array Oper} {Q : Exit → Act → World → Prop} {rest : List Oper} {o : Oper} {a : Act} {w : World} (x y : Operand) (g : Nat) (ap : Option Addr) (np cp gm : Nat) (hb : Blk w g rdZ 59) (ho : o.op = .store 59 x y) (hx : a.eval x = .pointer (some ⟨g, 0, none⟩)) (hy : a.eval y = .agg (rdC (.slice ap np cp) gm 0 nilV nilV).toArray) (hgd : o.guard = none)
    (h : ∀ w', Blk w' g (rdC (.slice ap np cp) gm 0 nilV nilV) 59 → Only g w w' → wpList Tryz.prog ops Q rest (a.put o.dst undef) w') : wpList Tryz.prog ops Q (o :: rest) a w :=
  wpList_store_mid hgd 59 x y ho g 0 _ hx hy (hb.there 0 _ (by simp [rdC, rdZ])) (by kernel_rfl) (all_oneCell_toArray (by intro v hv; simp only [rdC, List.mem_cons, List.not_mem_nil, or_false] at hv; rcases hv with rfl | rfl | rfl | rfl | rfl <;> rfl))
    (by rw [List.toList_toArray]; exact h _ (hb.whole _ (by simp [rdC, rdZ])) (Only.setCells _ _ _ (Only.refl g w)))
set_option maxHeartbeats 8000000 in
theorem pgLoad_ok (l : List Lf) (pv : Value) (ps : List By) (w : World) (hK : KOk w) (h1 : okLf l) (h2 : Up l) (hl : l.length ≤ 60) (hR : ReadsL w pv ps) (hn : ps.length < 100000) (hb : ∀ p ∈ ps, p.length < 1125899906842624) (hf : Free ps (saveL 0 l)) (hk : (saveL 0 l).length ≤ ps.length + 1) (hS : ∀ p ∈ saveL 0 l, p ∈ ps) :
    Calls Tryz.prog 10 #[.agg (cb (dig (topPg 0 l))).toArray, pv] w fun e w' => ∃ g, e = .returned (.tuple #[.pointer (some ⟨g, 0, none⟩), .int .i64 0]) ∧ TT w' g l ∧ Below w.heap.size w w' := by
  obtain ⟨x, HX⟩ : ∃ z, Hid (z = dig (topPg 0 l)) := ⟨_, rfl⟩
  have HXL : Hid (x.length = 32) := by show _ = _; rw [HX.out]; exact len_dig' _
  obtain ⟨ap, cp, hpv⟩ : ∃ ap cp, pv = .slice ap ps.length cp := by obtain ⟨ad, cap, h, _⟩ := hR; exact ⟨ad, cap, h⟩
  subst hpv
  have hM := psM_of hR
  have HRL : Hid (ReadsL w (.slice ap ps.length cp) ps) := hR
  obtain ⟨np, HNP⟩ : ∃ z, Hid (z = ps.length) := ⟨_, rfl⟩
  have HPG : Hid (∀ gr gm W, RrI w w.heap.size gr gm (.slice ap np cp) ps 0 nilV nilV [] [] W → Calls Tryz.prog 20 #[.pointer (some ⟨gr, 0, none⟩), .agg (cb x).toArray, .agg (cb zb32).toArray, .int .i64 0] W fun e w' => e = .returned (.int .i64 0) ∧ ∃ k' ix' iv', RrI w w.heap.size gr gm (.slice ap np cp) ps k' ix' iv' (l.map (·.1)) (l.map (·.2)) w' ∧ RdG gr nilV nilV W ix' iv' w') := by
    rw [HX.out, HNP.out]
    intro gr gm W hi
    exact top_ok hM (by omega) l (fits_zero h1 h2) hf hk hS (by omega) nilV nilV W hi
  rw [← HNP.out] at HRL ⊢
  rw [← HX.out]
  have HK : Hid (KOk w) := hK
  have HK0 : Hid (KOk w) := hK
  have HL : Hid (okLf l ∧ Up l ∧ l.length ≤ 60) := ⟨h1, h2, hl⟩
  have HPB : Hid (ps.length < 100000 ∧ ∀ p ∈ ps, p.length < 1125899906842624) := ⟨hn, hb⟩
  have hq : ∀ wx : World, (Op.equalIn 10000 40 (.agg (cb x).toArray) (.agg (cb x).toArray)).run Tryz.prog wx = .ok true wx := fun wx => eq_dig_same x HXL.out wx
  clear hK h1 h2 hl hR hn hb hf hk hS hM
  go_enter Tryz.func10, Tryz.ntmps10
  have tk0 : Hid True := trivial
  have tk1 : Hid True := trivial
  have tk2 : Hid True := trivial
  have tk3 : Hid True := trivial
  have tk4 : Hid True := trivial
  have tk5 : Hid True := trivial
  have tk6 : Hid True := trivial
  have tk7 : Hid True := trivial
  have tk8 : Hid True := trivial
  have tk9 : Hid True := trivial
  have tk10 : Hid True := trivial
  have tk11 : Hid True := trivial
  have tk12 : Hid True := trivial
  have tk13 : Hid True := trivial
  go_wp2_with (first
    | (clear tk0; with_reducible refine wpSeq_boxD (.tmp 0) x ?_ ?_ ?_ ?_
       · rfl
       · rfl
       · rfl
       intro g2 w1 nn
       have HB1 : Hid (Below w.heap.size w w1) := nn.below
       have HG2 : Hid (Blk w1 g2 (cb x) 40 ∧ w.heap.size ≤ g2) := ⟨nn.blk, nn.ge⟩
       replace HK : Hid (KOk w1) := HK.out.below nn.below HK.out.lt
       replace HRL : Hid (ReadsL w1 (.slice ap np cp) ps) := HRL.out.below nn.below
       clear nn)
    | (clear tk1; go_at_call 19; refine (pgPlaces_any (.slice ap np cp) ps _ HK.out HRL.out HPB.out.1 HPB.out.2).mono ?_; rintro e w2 ⟨gm, rfl, hgm, hmp, hb⟩
       have HMP : Hid (MapP w2 gm ps.length (plK ps ps.length)) := hmp
       replace HG2 : Hid (Blk w2 g2 (cb x) 40 ∧ w.heap.size ≤ g2) := ⟨HG2.out.1.below hb HG2.out.1.lt, HG2.out.2⟩
       replace HB1 : Hid (Below w.heap.size w w2) := HB1.out.trans (hb.mono HB1.out.size)
       replace HK : Hid (KOk w2) := HK.out.below hb HK.out.lt
       clear hgm hmp hb)
    | (clear tk2; with_reducible refine wpSeq_buildRd (.tmp 11) (.tmp 13) ap np cp gm ?_ ?_ ?_ ?_ ?_
       · rfl
       · rfl
       · rfl
       · rfl
       have HQ0 : Hid True := trivial)
    | (clear tk3; with_reducible refine wpSeq_allocRd ?_ ?_ ?_
       · rfl
       · rfl
       intro gr w3 hb3 hge3 hbl3
       have HG3 : Hid (Blk w3 gr rdZ 59 ∧ w2.heap.size ≤ gr ∧ Below w2.heap.size w2 w3) := ⟨hb3, hge3, hbl3⟩
       clear hb3 hge3 hbl3)
    | (clear tk4; with_reducible refine wpSeq_storeRd (.tmp 6) (.tmp 14) gr ap np cp gm HG3.out.1 ?_ ?_ ?_ ?_ ?_
       · rfl
       · rfl
       · rfl
       · rfl
       intro w4 hb4 ho4
       have hbl : Below w2.heap.size w2 w4 := HG3.out.2.2.trans (ho4.below HG3.out.2.1 HG3.out.2.2.size)
       have HI4 : Hid (RrI w w.heap.size gr gm (.slice ap np cp) ps 0 nilV nilV [] [] w4) := ⟨HB1.out.trans (hbl.mono HB1.out.size), Nat.le_trans HB1.out.size hbl.size, hb4, Nat.le_trans HB1.out.size HG3.out.2.1, HMP.out.next hbl, OwnD.nil _ _, OwnD.nil _ _, fun j hj => by cases hj⟩
       replace HG2 : Hid (Blk w4 g2 (cb x) 40 ∧ w.heap.size ≤ g2) := ⟨HG2.out.1.below hbl HG2.out.1.lt, HG2.out.2⟩
       have HNE : Hid (g2 ≠ gr) := fun e => by have h1 := HG2.out.1; have h2 := hb4; rw [e] at h1; unfold Blk at h1 h2; rw [h1] at h2; simp only [Option.some.injEq, Obj.cells.injEq] at h2; exact absurd h2.2.1 (by decide)
       clear hb4 ho4 hbl HG3)
    | (clear tk5; with_reducible refine wpSeq_loadD (.tmp 2) g2 x HXL.out HG2.out.1 ?_ ?_ ?_ ?_
       · rfl
       · rfl
       · rfl
       have HQ1 : Hid True := trivial)
    | (clear tk6; with_reducible refine wpSeq_buildZ0 ?_ ?_ ?_
       · rfl
       · rfl
       have HQ2 : Hid True := trivial)
    | (clear tk7; go_at_call 20; refine (HPG.out gr gm _ HI4.out).mono ?_; rintro e w5 ⟨rfl, k', ix', iv', hi5, hg5⟩
       have HI5 : Hid (RrI w w.heap.size gr gm (.slice ap np cp) ps k' ix' iv' (l.map (·.1)) (l.map (·.2)) w5) := hi5
       have HG5 : Hid (Blk w5 g2 (cb x) 40 ∧ w.heap.size ≤ g2) := ⟨hg5.blk HG2.out.1 HNE.out (fun e => by cases e) (fun e => by cases e), HG2.out.2⟩
       have HK5 : Hid (KOk w5) := HK0.out.below hi5.bel HK0.out.lt
       obtain ⟨a5, c5, hix⟩ := hi5.oi.slice
       obtain ⟨b5, d5, hiv⟩ := hi5.ov.slice
       have hc3 : w5.cell? ⟨gr, 3, none⟩ = some ix' := hi5.blk.cell 3
       have hc4 : w5.cell? ⟨gr, 4, none⟩ = some iv' := hi5.blk.cell 4
       obtain ⟨n5, HN5⟩ : ∃ z : Nat, Hid (z = (l.map (·.1)).length) := ⟨_, rfl⟩
       obtain ⟨m5, HM5⟩ : ∃ z : Nat, Hid (z = (l.map (·.2)).length) := ⟨_, rfl⟩
       rw [← HN5.out] at hix
       rw [← HM5.out] at hiv
       subst hix
       subst hiv
       clear hi5 hg5)
    | (clear tk8; go_at_call 21; refine (trOf_any _ _ _ (l.map (·.1)) (l.map (·.2)) HK5.out HI5.out.oi.readsD HI5.out.ov.readsD (by rw [List.length_map]; have := HL.out.2.2; omega)).mono ?_; rintro e w6 ⟨gt, rfl, ht, hb⟩
       rw [zip_self, ofL_self HL.out.2.1] at ht
       have HT6 : Hid (TT w6 gt l) := ht
       have HB6 : Hid (Below w.heap.size w w6) := HI5.out.bel.trans (hb.mono HI5.out.ge)
       replace HK5 : Hid (KOk w6) := HK5.out.below hb HK5.out.lt
       replace HG5 : Hid (Blk w6 g2 (cb x) 40 ∧ w.heap.size ≤ g2) := ⟨HG5.out.1.below hb HG5.out.1.lt, HG5.out.2⟩
       clear ht hb HI5)
    | (clear tk9; go_at_call 22; refine (pgSave_any gt l _ HK5.out HT6.out (Nat.le_trans HL.out.2.2 (by decide))).mono ?_; rintro e w7 ⟨v7, us7, rfl, _, hb⟩
       rw [← HX.out]
       have HT7 : Hid (TT w7 gt l) := HT6.out.next hb
       have HB7 : Hid (Below w.heap.size w w7) := HB6.out.trans (hb.mono HB6.out.size)
       replace HG5 : Hid (Blk w7 g2 (cb x) 40 ∧ w.heap.size ≤ g2) := ⟨HG5.out.1.below hb HG5.out.1.lt, HG5.out.2⟩
       clear hb)
    | (clear tk10; with_reducible refine wpSeq_allocD ?_ ?_ ?_
       · rfl
       · rfl
       intro g9 w8 nn
       have HN8 : Hid (Blk w8 g9 (cb zb32) 40 ∧ w7.heap.size ≤ g9 ∧ Below w7.heap.size w7 w8) := ⟨nn.blk, nn.ge, nn.below⟩
       clear nn)
    | (clear tk11; with_reducible refine wpSeq_storeD (.tmp 9) (.tmp 29) g9 zb32 x zb32_len HXL.out HN8.out.1 ?_ ?_ ?_ ?_ ?_
       · rfl
       · rfl
       · rfl
       · rfl
       intro w9 h9
       have hb : Below w7.heap.size w7 w9 := HN8.out.2.2.trans (h9.only.below HN8.out.2.1 HN8.out.2.2.size)
       have HG9 : Hid (Blk w9 g9 (cb x) 40) := h9.blk
       replace HG5 : Hid (Blk w9 g2 (cb x) 40 ∧ w.heap.size ≤ g2) := ⟨HG5.out.1.below hb HG5.out.1.lt, HG5.out.2⟩
       have HF9 : Hid (TT w9 gt l ∧ Below w.heap.size w w9) := ⟨HT7.out.next hb, HB7.out.trans (hb.mono HB7.out.size)⟩
       clear h9 hb HN8)
    | (clear tk12; with_reducible refine wpSeq_loadD (.tmp 9) g9 x HXL.out HG9.out ?_ ?_ ?_ ?_
       · rfl
       · rfl
       · rfl
       have HQ3 : Hid True := trivial)
    | (clear tk13; with_reducible refine wpSeq_loadD (.tmp 2) g2 x HXL.out HG5.out.1 ?_ ?_ ?_ ?_
       · rfl
       · rfl
       · rfl
       have HQ4 : Hid True := trivial))
  refine bodyPost_ret (results_tmp2 rfl _ _ _) rfl ?_
  exact ⟨gt, rfl, HF9.out.1, HF9.out.2⟩
set_option maxHeartbeats 8000000 in
theorem pgLoad_fail (x : By) (pv : Value) (ps : List By) (w : World) (hK : KOk w) (hx : x.length = 32) (hR : ReadsL w pv ps) (hn : ps.length < 100000) (hb : ∀ p ∈ ps, p.length < 1125899906842624)
    (hpg : ∀ ap cp gr gm W, pv = .slice ap ps.length cp → RrI w w.heap.size gr gm (.slice ap ps.length cp) ps 0 nilV nilV [] [] W → Calls Tryz.prog 20 #[.pointer (some ⟨gr, 0, none⟩), .agg (cb x).toArray, .agg (cb zb32).toArray, .int .i64 0] W fun e w' => e = .returned (.int .i64 7) ∧ Below w.heap.size w w') :
    Calls Tryz.prog 10 #[.agg (cb x).toArray, pv] w fun e w' => e = .returned (.tuple #[.pointer none, .int .i64 7]) ∧ Below w.heap.size w w' := by
  have HXL : Hid (x.length = 32) := hx
  obtain ⟨ap, cp, hpv⟩ : ∃ ap cp, pv = .slice ap ps.length cp := by obtain ⟨ad, cap, h, _⟩ := hR; exact ⟨ad, cap, h⟩
  subst hpv
  have HRL : Hid (ReadsL w (.slice ap ps.length cp) ps) := hR
  obtain ⟨np, HNP⟩ : ∃ z, Hid (z = ps.length) := ⟨_, rfl⟩
  have HPG : Hid (∀ gr gm W, RrI w w.heap.size gr gm (.slice ap np cp) ps 0 nilV nilV [] [] W → Calls Tryz.prog 20 #[.pointer (some ⟨gr, 0, none⟩), .agg (cb x).toArray, .agg (cb zb32).toArray, .int .i64 0] W fun e w' => e = .returned (.int .i64 7) ∧ Below w.heap.size w w') := by
    rw [HNP.out]
    exact fun gr gm W hi => hpg ap cp gr gm W rfl hi
  rw [← HNP.out] at HRL ⊢
  have HK : Hid (KOk w) := hK
  have HK0 : Hid (KOk w) := hK
  have HPB : Hid (ps.length < 100000 ∧ ∀ p ∈ ps, p.length < 1125899906842624) := ⟨hn, hb⟩
  have hq : ∀ wx : World, (Op.equalIn 10000 40 (.agg (cb x).toArray) (.agg (cb x).toArray)).run Tryz.prog wx = .ok true wx := fun wx => eq_dig_same x HXL.out wx
  clear hK hR hn hb hpg hx
  go_enter Tryz.func10, Tryz.ntmps10
  have tk0 : Hid True := trivial
  have tk1 : Hid True := trivial
  have tk2 : Hid True := trivial
  have tk3 : Hid True := trivial
  have tk4 : Hid True := trivial
  have tk5 : Hid True := trivial
  have tk6 : Hid True := trivial
  have tk7 : Hid True := trivial
  go_wp2_with (first
    | (clear tk0; with_reducible refine wpSeq_boxD (.tmp 0) x ?_ ?_ ?_ ?_
       · rfl
       · rfl
       · rfl
       intro g2 w1 nn
       have HB1 : Hid (Below w.heap.size w w1) := nn.below
       have HG2 : Hid (Blk w1 g2 (cb x) 40 ∧ w.heap.size ≤ g2) := ⟨nn.blk, nn.ge⟩
       replace HK : Hid (KOk w1) := HK.out.below nn.below HK.out.lt
       replace HRL : Hid (ReadsL w1 (.slice ap np cp) ps) := HRL.out.below nn.below
       clear nn)
    | (clear tk1; go_at_call 19; refine (pgPlaces_any (.slice ap np cp) ps _ HK.out HRL.out HPB.out.1 HPB.out.2).mono ?_; rintro e w2 ⟨gm, rfl, hgm, hmp, hb⟩
       have HMP : Hid (MapP w2 gm ps.length (plK ps ps.length)) := hmp
       replace HG2 : Hid (Blk w2 g2 (cb x) 40 ∧ w.heap.size ≤ g2) := ⟨HG2.out.1.below hb HG2.out.1.lt, HG2.out.2⟩
       replace HB1 : Hid (Below w.heap.size w w2) := HB1.out.trans (hb.mono HB1.out.size)
       replace HK : Hid (KOk w2) := HK.out.below hb HK.out.lt
       clear hgm hmp hb)
    | (clear tk2; with_reducible refine wpSeq_buildRd (.tmp 11) (.tmp 13) ap np cp gm ?_ ?_ ?_ ?_ ?_
       · rfl
       · rfl
       · rfl
       · rfl
       have HQ0 : Hid True := trivial)
    | (clear tk3; with_reducible refine wpSeq_allocRd ?_ ?_ ?_
       · rfl
       · rfl
       intro gr w3 hb3 hge3 hbl3
       have HG3 : Hid (Blk w3 gr rdZ 59 ∧ w2.heap.size ≤ gr ∧ Below w2.heap.size w2 w3) := ⟨hb3, hge3, hbl3⟩
       clear hb3 hge3 hbl3)
    | (clear tk4; with_reducible refine wpSeq_storeRd (.tmp 6) (.tmp 14) gr ap np cp gm HG3.out.1 ?_ ?_ ?_ ?_ ?_
       · rfl
       · rfl
       · rfl
       · rfl
       intro w4 hb4 ho4
       have hbl : Below w2.heap.size w2 w4 := HG3.out.2.2.trans (ho4.below HG3.out.2.1 HG3.out.2.2.size)
       have HI4 : Hid (RrI w w.heap.size gr gm (.slice ap np cp) ps 0 nilV nilV [] [] w4) := ⟨HB1.out.trans (hbl.mono HB1.out.size), Nat.le_trans HB1.out.size hbl.size, hb4, Nat.le_trans HB1.out.size HG3.out.2.1, HMP.out.next hbl, OwnD.nil _ _, OwnD.nil _ _, fun j hj => by cases hj⟩
       replace HG2 : Hid (Blk w4 g2 (cb x) 40 ∧ w.heap.size ≤ g2) := ⟨HG2.out.1.below hbl HG2.out.1.lt, HG2.out.2⟩
       have HNE : Hid (g2 ≠ gr) := fun e => by have h1 := HG2.out.1; have h2 := hb4; rw [e] at h1; unfold Blk at h1 h2; rw [h1] at h2; simp only [Option.some.injEq, Obj.cells.injEq] at h2; exact absurd h2.2.1 (by decide)
       clear hb4 ho4 hbl HG3)
    | (clear tk5; with_reducible refine wpSeq_loadD (.tmp 2) g2 x HXL.out HG2.out.1 ?_ ?_ ?_ ?_
       · rfl
       · rfl
       · rfl
       have HQ1 : Hid True := trivial)
    | (clear tk6; with_reducible refine wpSeq_buildZ0 ?_ ?_ ?_
       · rfl
       · rfl
       have HQ2 : Hid True := trivial)
    | (clear tk7; go_at_call 20; refine (HPG.out gr gm _ HI4.out).mono ?_; rintro e w5 ⟨rfl, hb5⟩
       have HB5 : Hid (Below w.heap.size w w5) := hb5
       clear hb5))
  refine bodyPost_ret (results_tmp2 rfl _ _ _) rfl ?_
  exact ⟨rfl, HB5.out⟩
theorem pgLoad_none (x : By) (pv : Value) (ps : List By) (w : World) (hK : KOk w) (hx : x.length = 32) (hR : ReadsL w pv ps) (hn : ps.length < 100000) (hb : ∀ p ∈ ps, p.length < 1125899906842624) (hp : ∀ p ∈ ps, dig p ≠ x) :
    Calls Tryz.prog 10 #[.agg (cb x).toArray, pv] w fun e w' => e = .returned (.tuple #[.pointer none, .int .i64 7]) ∧ Below w.heap.size w w' :=
  pgLoad_fail x pv ps w hK hx hR hn hb fun ap cp gr gm W _ hi => by
    have hpl : plK ps ps.length x = none := by
      cases h : plK ps ps.length x with
      | none => rfl
      | some i =>
        obtain ⟨h1, h2⟩ := plK_some h
        exact absurd h2 (hp _ (by rw [List.getD_eq_getElem?_getD, List.getElem?_eq_getElem h1]; exact List.getElem_mem h1))
    refine (pgPage_none w w.heap.size gr gm ap ps.length cp ps 0 nilV nilV [] [] x zb32 0 W hi hx hpl).mono ?_
    rintro e w' ⟨e1, e2⟩
    exact ⟨e1, hi.bel.trans (e2.mono hi.ge)⟩
end Go.Proofs.YtphmmnffgknkcabGreatDoor
namespace Go.Proofs.YtphmmnffgknkcabGreatDoor
open Go.RowKit
set_option maxRecDepth 100000
end Go.Proofs.YtphmmnffgknkcabGreatDoor
namespace Go.Proofs.YtphmmnffgknkcabGreatDoor
open Go.RowKit
set_option maxRecDepth 100000
end Go.Proofs.YtphmmnffgknkcabGreatDoor
namespace Go.Proofs.YtphmmnffgknkcabGreatDoor
open Go.RowKit
set_option maxRecDepth 100000
end Go.Proofs.YtphmmnffgknkcabGreatDoor
namespace Go.Proofs.YtphmmnffgknkcabGreatDoor
open Go.RowKit
set_option maxRecDepth 100000
structure Row17 (w : World) (g n c : Nat) (ps : List By) : Prop where
  len : n = ps.length
  at_ : ∀ j, j < n → ∃ u, w.cell? ⟨g, j, none⟩ = some u ∧ Reads w u (ps.getD j [])
  rd : ReadsL w (.slice (some ⟨g, 0, none⟩) n c) ps
theorem Row17.next {w w' : World} {g n c : Nat} {ps : List By} (h : Row17 w g n c ps) (hb : Below w.heap.size w w') : Row17 w' g n c ps :=
  ⟨h.len, fun j hj => by obtain ⟨u, h1, h2⟩ := h.at_ j hj; exact ⟨u, by rw [hb.cell (p := ⟨g, j, none⟩) (block_lt_of_cell h1)]; exact h1, h2.below hb⟩, h.rd.below hb⟩
theorem row17_of {w : World} {base : Nat} {v : Value} {us : List Value} {ps : List By} {X : Nat → Prop} (h : PgS w base v us ps X) (hp : 0 < ps.length) : ∃ g n c, v = .slice (some ⟨g, 0, none⟩) n c ∧ Row17 w g n c ps := by
  have hl := h.len
  obtain ⟨g, c, hv, _, _⟩ := h.own.at (j := 0) (u := us[0]) (List.getElem?_eq_getElem (by omega))
  refine ⟨g, us.length, c, hv, hl, fun j hj => ?_, ?_⟩
  · obtain ⟨g2, c2, hv2, h3, _⟩ := h.own.at (j := j) (u := us[j]) (List.getElem?_eq_getElem hj)
    rw [hv] at hv2
    cases hv2
    exact ⟨us[j], h3, (h.good j us[j] (List.getElem?_eq_getElem hj)).1⟩
  · rw [← hv]; exact h.readsL
theorem save_pos (d : Nat) (l : List Lf) : 0 < (saveL d l).length := by rw [save_top]; simp
theorem mem_take17 (O : List By) (p : By) (k : Nat) (hk : k < O.length) : decide (p ∈ O.take (k + 1)) = (decide (p ∈ O.take k) || decide (O.getD k [] = p)) := by
  have e : O.take (k + 1) = O.take k ++ [O.getD k []] := by
    rw [List.take_add_one, List.getElem?_eq_getElem hk, List.getD_eq_getElem?_getD, List.getElem?_eq_getElem hk]; rfl
  rw [e]
  by_cases h1 : p ∈ O.take k
  · rw [decide_eq_true h1, Bool.true_or]; exact decide_eq_true (List.mem_append_left _ h1)
  · rw [decide_eq_false h1, Bool.false_or]
    exact decide_eq_decide.2 ⟨fun h => (List.mem_append.1 h).elim (fun h => absurd h h1) fun h => (List.mem_singleton.1 h).symm, fun h => List.mem_append_right _ (List.mem_singleton.2 h.symm)⟩
theorem idxP (b n c k : Nat) (hk : k < n) (f : Operand → Value) (o : Oper) (x y : Operand) (ho : o.op = .indexAddr 26 x y) (hx : f x = .slice (some ⟨b, 0, none⟩) n c) (hy : f y = .int .i64 (k : Int)) (w : World) :
    (execOp f o).run Tryz.prog w = .ok (.value (.pointer (some ⟨b, k, none⟩))) w := by
  have k0 : (0 : Int) ≤ (k : Int) := by omega
  have k1 : (k : Int) < (n : Int) := by omega
  unfold execOp
  rw [ho]
  simp [go_sem, hx, hy, k0, k1, Addr.add_mid]
end Go.Proofs.YtphmmnffgknkcabGreatDoor
namespace Go.Proofs.YtphmmnffgknkcabGreatDoor
open Go.RowKit
set_option maxRecDepth 100000
set_option maxRecDepth 100000 in
set_option maxHeartbeats 4000000 in
theorem eHalf_any (va vv : Value) (l : List Lf) (i : Int) (on : Bool) (w : World) (hR : ReadsLf w va vv l) (hl : l.length < 2000000) :
    Calls Tryz.prog 31 #[.agg #[va, vv], .int .i64 i, .bool on] w fun e w' => ∃ xa xv, e = .returned (.agg #[xa, xv]) ∧ OwnLf w' w.heap.size xa xv ((l.filter fun p => bitI p.1 i == on).map (·.1)) ((l.filter fun p => bitI p.1 i == on).map (·.2)) ∧ Below w.heap.size w w' := by
  have HR : Hid (ReadsLf w va vv l) := hR
  have HL : Hid (l.length < 2000000) := hl
  obtain ⟨n, HN⟩ : ∃ n, Hid (n = l.length) := ⟨_, rfl⟩
  obtain ⟨ada, cpa, hva⟩ := hR.1.slice
  obtain ⟨adv, cpv, hvv⟩ := hR.2.slice
  rw [List.length_map, ← HN.out] at hva hvv
  subst hva hvv
  clear hR hl
  obtain ⟨gl, HGL⟩ : ∃ g, Hid (g = w.heap.size) := ⟨_, rfl⟩
  obtain ⟨wG, HWG⟩ : ∃ z, Hid (z = (w.alloc (.cells [Value.slice ada n cpa, .slice adv n cpv].toArray 47)).alloc (.cells [nilV, nilV].toArray 47)) := ⟨_, rfl⟩
  have HLB : Hid (Blk wG gl [Value.slice ada n cpa, .slice adv n cpv] 47) := by rw [HWG.out, HGL.out]; exact (Blk.new w _ _).below (below_alloc _ _) (by simp)
  have HRB : Hid (Blk wG (gl + 1) [nilV, nilV] 47) := by rw [HWG.out, HGL.out]; exact Blk.new_at (by simp) _ _
  have HBW : Hid (Below w.heap.size w wG) := by rw [HWG.out]; exact (below_alloc w _).trans ((below_alloc _ _).mono (by simp))
  obtain ⟨go, HGO⟩ : ∃ g, Hid (g = wG.heap.size) := ⟨_, rfl⟩
  have HSZ : Hid (go = gl + 2) := by show _ = _; rw [HGO.out, HWG.out, HGL.out]; simp
  have HCA : Hid (∀ wx, Below go wG wx → wx.cell? ⟨gl, 0, none⟩ = some (.slice ada n cpa)) := fun wx hx => (HLB.out.below hx (by have := HSZ.out; omega)).cell 0
  have HCV : Hid (∀ wx, Below go wG wx → wx.cell? ⟨gl, 1, none⟩ = some (.slice adv n cpv)) := fun wx hx => (HLB.out.below hx (by have := HSZ.out; omega)).cell 1
  have HI : Hid (Lv wG go nilV nilV [] [] (wG.alloc (.cells [nilV, nilV].toArray 47))) := by rw [HGO.out]; exact Lv.start wG
  go_enter Tryz.func31, Tryz.ntmps31
  go_wp2
  have e0 : (some ⟨w.heap.size, 0, none⟩ : Option Addr) = some ⟨gl, 0, none⟩ := by rw [HGL.out]
  have e1 : (some ⟨w.heap.size + 1, 0, none⟩ : Option Addr) = some ⟨gl + 1, 0, none⟩ := by rw [HGL.out]
  have e2 : (some ⟨w.heap.size + 1 + 1, 0, none⟩ : Option Addr) = some ⟨go, 0, none⟩ := by rw [HSZ.out, HGL.out]
  simp only [e0, e1, e2]
  clear e0 e1 e2
  change Code.wp _ _ _ _ (((w.alloc (.cells [Value.slice ada n cpa, .slice adv n cpv].toArray 47)).alloc (.cells [nilV, nilV].toArray 47)).alloc (.cells [nilV, nilV].toArray 47))
  rw [← HWG.out]
  generalize wG.alloc (.cells [nilV, nilV].toArray 47) = w0 at *
  clear HWG HGO
  go_loopw [8] (fun j wr => ∃ (k : Nat) (xa xv : Value), k ≤ n ∧ j = .int .i64 (k : Int) ∧ Lv wG go xa xv (((l.take k).filter fun p => bitI p.1 i == on).map (·.1)) (((l.take k).filter fun p => bitI p.1 i == on).map (·.2)) wr) (fun j _ => n - (intOf j).toNat)
  case atStart => exact ⟨0, nilV, nilV, by omega, rfl, by simpa using HI.out⟩
  case round =>
    clear HI
    obtain ⟨k, xa, xv, hk, rfl, hI⟩ := hrel
    have HI : Hid (Lv wG go xa xv (((l.take k).filter fun p => bitI p.1 i == on).map (·.1)) (((l.take k).filter fun p => bitI p.1 i == on).map (·.2)) wr) := hI
    clear hI
    have ca : wr.cell? ⟨gl, 0, none⟩ = some (.slice ada n cpa) := HCA.out wr HI.out.bel
    by_cases hlt : k < n
    · have hlti : (k : Int) < (n : Int) := by omega
      have k0 : (0 : Int) ≤ (k : Int) := by omega
      have hn6 : n < 2000000 := by rw [HN.out]; exact HL.out
      have f5 : IntKind.i64.wrap ((k : Int) + 1) = (k : Int) + 1 := wrap_small2 _ (by omega) (by omega)
      have HKL : Hid (k < l.length) := by show _ < _; rw [← HN.out]; exact hlt
      obtain ⟨ba, offa, cpa', hva, hya⟩ := HR.out.1.at (by rw [List.length_map]; have := HKL.out; omega)
      obtain ⟨bv, offv, cpv', hvv, hyv⟩ := HR.out.2.at (by rw [List.length_map]; have := HKL.out; omega)
      rw [List.length_map, ← HN.out] at hva hvv hya hyv
      simp only [Value.slice.injEq, true_and] at hva hvv
      obtain ⟨rfl, rfl⟩ := hva
      obtain ⟨rfl, rfl⟩ := hvv
      obtain ⟨da, HDA⟩ : ∃ d, Hid (d = (l.getD k ([], [])).1) := ⟨_, rfl⟩
      obtain ⟨dv, HDV⟩ : ∃ d, Hid (d = (l.getD k ([], [])).2) := ⟨_, rfl⟩
      have HA32 : Hid (da.length = 32) := by show _ = _; rw [HDA.out]; exact (HR.out.ok _ (getD_mem HKL.out)).1
      have HV32 : Hid (dv.length = 32) := by show _ = _; rw [HDV.out]; exact (HR.out.ok _ (getD_mem HKL.out)).2
      have HRA : Hid (∀ wx, Below go wG wx → wx.rangeAt ba (offa + k * 32) (cb da)) := fun wx hx => by
        have h := hya k hlt
        rw [map_getD1 HKL.out, ← HDA.out] at h
        have hb := rangeAt_lt h HA32.out
        exact rangeAt_below (rangeAt_below h HBW.out hb) hx (by have h1 := HSZ.out; have h2 := HGL.out; omega)
      have HRV : Hid (∀ wx, Below go wG wx → wx.rangeAt bv (offv + k * 32) (cb dv)) := fun wx hx => by
        have h := hyv k hlt
        rw [map_getD2 HKL.out, ← HDV.out] at h
        have hb := rangeAt_lt h HV32.out
        exact rangeAt_below (rangeAt_below h HBW.out hb) hx (by have h1 := HSZ.out; have h2 := HGL.out; omega)
      clear hya hyv
      obtain ⟨p, HP⟩ : ∃ p, Hid (bitI da i = p) := ⟨_, rfl⟩
      have HFL : Hid ((((l.take k).filter fun p => bitI p.1 i == on)).length < 2000000) := Nat.lt_of_le_of_lt (Nat.le_trans (List.length_filter_le _ _) (by rw [List.length_take]; omega)) HL.out
      have HTK : Hid (((l.take (k + 1)).filter fun p => bitI p.1 i == on) = ((l.take k).filter fun p => bitI p.1 i == on) ++ if p == on then [(da, dv)] else []) := by
        show _ = _
        rw [take_map HKL.out, List.filter_append, List.filter_cons, List.filter_nil, ← HDA.out, HP.out, HDA.out, HDV.out]
      have HRW : Hid (wr.rangeAt ba (offa + k * 32) (cb da)) := HRA.out wr HI.out.bel
      by_cases hpo : p = on
      · subst hpo
        go_wp2_with (first
          | (with_reducible refine wpSeq_loadAt (.tmp 20) ba (offa + k * 32) da ?_ ?_ ?_ ?_ ?_ ?_
             · exact HA32.out
             · exact HRW.out
             · with_reducible rfl
             · rfl
             · rfl)
          | (go_at_call 46; refine (sBit_any da HA32.out _ _).mono ?_; rintro e w7 ⟨rfl, hb7⟩; rw [HP.out]
             replace HI := HI.out.next hb7
             clear hb7 ca HRW))
        replace HI : Hid (Lv wG go xa xv (((l.take k).filter fun q => bitI q.1 i == p).map (·.1)) (((l.take k).filter fun q => bitI q.1 i == p).map (·.2)) w7) := HI
        refine wp_region_held_drew (S := Below go wG) (by kernel_rfl) HI.out.drew.bel ?_
        intro hS
        have hI := HI.out.drew
        clear HI
        change wpAnyH _ _ _ _ _ _ _ _ (World.drew w7)
        generalize World.drew w7 = yA at *
        refine wpAnyH_take (i := 0) (v := .pointer (some ⟨go, 0, none⟩)) rfl (by kernel_rfl) (by kernel_rfl) (by kernel_rfl) (fun _ _ _ h => h) (Or.inl ⟨by rfl, fun wx hx => by simp [go_sem]⟩) hS ?_
        simp only [Act.put, List.getElem_toArray, List.getElem_cons_zero, List.setIfInBounds_toArray, List.set_cons_zero, List.set_cons_succ]
        refine wpAnyH_take (i := 2) (v := .pointer (some ⟨gl, 0, none⟩)) rfl (by kernel_rfl) (by kernel_rfl) (by kernel_rfl) (fun _ _ _ h => h) (Or.inl ⟨by rfl, fun wx hx => by simp [go_sem]⟩) hS ?_
        simp only [Act.put, List.getElem_toArray, List.getElem_cons_succ, List.getElem_cons_zero, List.setIfInBounds_toArray, List.set_cons_zero, List.set_cons_succ]
        refine wpAnyH_take (i := 4) (v := .int .i64 (k : Int)) rfl (by kernel_rfl) (by kernel_rfl) (by kernel_rfl) (fun _ _ _ h => h) (Or.inl ⟨by rfl, fun wx hx => by simp [go_sem]⟩) hS ?_
        simp only [Act.put, List.getElem_toArray, List.getElem_cons_succ, List.getElem_cons_zero, List.setIfInBounds_toArray, List.set_cons_zero, List.set_cons_succ]
        refine wpAnyH_take (i := 3) (v := .slice (some ⟨ba, offa, none⟩) n cpa) rfl (by kernel_rfl) (by kernel_rfl) (by kernel_rfl) (fun _ _ _ h => h) (Or.inl ⟨by rfl, fun wx hx => by (have hc := HCA.out wx hx; simp [go_sem, hc])⟩) hS ?_
        simp only [Act.put, List.getElem_toArray, List.getElem_cons_succ, List.getElem_cons_zero, List.setIfInBounds_toArray, List.set_cons_zero, List.set_cons_succ]
        refine wpAnyH_take (i := 5) (v := .pointer (some ⟨ba, offa + k * 32, none⟩)) rfl (by kernel_rfl) (by kernel_rfl) (by kernel_rfl) (fun _ _ _ h => h) (Or.inl ⟨by rfl, fun wx hx => by (simp [go_sem, hlti, k0])⟩) hS ?_
        simp only [Act.put, List.getElem_toArray, List.getElem_cons_succ, List.getElem_cons_zero, List.setIfInBounds_toArray, List.set_cons_zero, List.set_cons_succ]
        refine wpAnyH_take (i := 6) (v := .agg (cb da).toArray) rfl (by kernel_rfl) (by kernel_rfl) (by kernel_rfl) (fun _ _ _ h => h) (Or.inl ⟨by rfl, fun wx hx => by exact load_run 40 _ rfl _ _ rfl (cb da) _ (HRA.out wx hx) Tryz.underlying40 rfl (by rw [cb_len, HA32.out]; exact info_digest)⟩) hS ?_
        simp only [Act.put, List.getElem_toArray, List.getElem_cons_succ, List.getElem_cons_zero, List.setIfInBounds_toArray, List.set_cons_zero, List.set_cons_succ]
        have hnb := NewB.of da yA
        have hn1 := hI.next hnb.below
        obtain ⟨aA, cA, hxA⟩ := hI.own.a.slice
        obtain ⟨nA, HNA⟩ : ∃ z : Nat, Hid (z = (((l.take k).filter fun q => bitI q.1 i == p).map (·.1)).length) := ⟨_, rfl⟩
        rw [← HNA.out] at hxA
        have hce : yA.cell? ⟨go, 0, none⟩ = some xa := hI.out.cell 0
        have hce2 : (yA.alloc (.cells (cb da).toArray 40)).cell? ⟨go, 0, none⟩ = some xa := hn1.out.cell 0
        subst hxA
        refine wpAnyH_comm 1 7 (.slice aA nA cA) (.slice (some ⟨yA.heap.size, 0, none⟩) 1 1) (yA.alloc (.cells (cb da).toArray 40)) (by kernel_rfl) rfl rfl (by rfl) (by rfl) (by rfl) (by rfl) (by simp [go_sem, hce]) (buildD _ _ _ rfl da HA32.out rfl _) (by simp [go_sem, hce2]) (buildD _ _ _ rfl da HA32.out rfl _) (by kernel_rfl) (by kernel_rfl) (by rfl) (by rfl) hS hn1.bel ?_
        simp only [Act.put, List.getElem_toArray, List.getElem_cons_succ, List.getElem_cons_zero, List.setIfInBounds_toArray, List.set_cons_zero, List.set_cons_succ]
        have hI2 := hn1
        have HU : Hid (Blk (yA.alloc (.cells (cb da).toArray 40)) yA.heap.size (cb da) 40) := hnb.blk
        clear hn1 hnb hce hce2 hS hI
        refine wpAnyH_law 8 (by kernel_rfl) rfl (by rfl) (wp_appendG (.tmp 27) (.tmp 33) (go + 1) (.slice aA nA cA) _ da yA.heap.size hI2.own.a HU.out HA32.out (by rw [List.length_map]; exact HFL.out) hI2.out.lt rfl rfl rfl ?_)
        intro zA qA hoA hgA
        have hI := hI2.addA hoA hgA
        have hsq : Below go wG qA := hI2.bel.trans (hgA.below.mono (Nat.le_succ _))
        have hbq := hI2.out.grow hgA (fun j hj => (hI2.own.a.lt j hj).1) (Nat.lt_succ_self _)
        have hcq := hbq.cell 0
        have hfq := hbq.frozen 0
        obtain ⟨aA2, cA2, hxA⟩ := hoA.slice
        obtain ⟨nA2, HNA2⟩ : ∃ z : Nat, Hid (z = (((l.take k).filter fun q => bitI q.1 i == p).map (·.1) ++ [da]).length) := ⟨_, rfl⟩
        rw [← HNA2.out] at hxA
        subst hxA
        refine ⟨hsq, ?_⟩
        simp only [Act.put, List.getElem_toArray, List.getElem_cons_succ, List.getElem_cons_zero, List.setIfInBounds_toArray, List.set_cons_zero, List.set_cons_succ]
        refine wpAnyH_take (i := 9) (v := .pointer (some ⟨go, 0, none⟩)) rfl (by kernel_rfl) (by kernel_rfl) (by kernel_rfl) (fun _ _ _ h => h) (Or.inl ⟨by rfl, fun wx hx => by simp [go_sem]⟩) hsq ?_
        simp only [Act.put, List.getElem_toArray, List.getElem_cons_succ, List.getElem_cons_zero, List.setIfInBounds_toArray, List.set_cons_zero, List.set_cons_succ]
        refine wpAnyH_skip 10 (qA.setCell ⟨go, 0, none⟩ (.slice aA2 nA2 cA2)) (by kernel_rfl) rfl (by rfl) (by simp [go_sem, hcq, hfq]) hI.bel ?_
        simp only [Act.put, List.getElem_toArray, List.getElem_cons_succ, List.getElem_cons_zero]
        refine wpAnyH_done (by kernel_rfl) ?_ _
        clear hoA hgA hsq hbq hcq hfq hI2 HU
        generalize qA.setCell ⟨go, 0, none⟩ (.slice aA2 nA2 cA2) = WA at *
        have HI : Hid (Lv wG go (.slice aA2 nA2 cA2) xv (((l.take k).filter fun q => bitI q.1 i == p).map (·.1) ++ [da]) (((l.take k).filter fun q => bitI q.1 i == p).map (·.2)) WA) := hI
        clear hI HRA HCA
        generalize Value.slice aA2 nA2 cA2 = xa2 at *
        go_wp2_with fail
        refine wp_region_held_drew (S := Below go wG) (by kernel_rfl) HI.out.drew.bel ?_
        intro hS
        have hI := HI.out.drew
        clear HI
        change wpAnyH _ _ _ _ _ _ _ _ (World.drew WA)
        generalize World.drew WA = yV at *
        refine wpAnyH_take (i := 0) (v := .pointer (some ⟨go, 1, none⟩)) rfl (by kernel_rfl) (by kernel_rfl) (by kernel_rfl) (fun _ _ _ h => h) (Or.inl ⟨by rfl, fun wx hx => by simp [go_sem]⟩) hS ?_
        simp only [Act.put, List.getElem_toArray, List.getElem_cons_zero, List.setIfInBounds_toArray, List.set_cons_zero, List.set_cons_succ]
        refine wpAnyH_take (i := 2) (v := .pointer (some ⟨gl, 1, none⟩)) rfl (by kernel_rfl) (by kernel_rfl) (by kernel_rfl) (fun _ _ _ h => h) (Or.inl ⟨by rfl, fun wx hx => by simp [go_sem]⟩) hS ?_
        simp only [Act.put, List.getElem_toArray, List.getElem_cons_succ, List.getElem_cons_zero, List.setIfInBounds_toArray, List.set_cons_zero, List.set_cons_succ]
        refine wpAnyH_take (i := 4) (v := .int .i64 (k : Int)) rfl (by kernel_rfl) (by kernel_rfl) (by kernel_rfl) (fun _ _ _ h => h) (Or.inl ⟨by rfl, fun wx hx => by simp [go_sem]⟩) hS ?_
        simp only [Act.put, List.getElem_toArray, List.getElem_cons_succ, List.getElem_cons_zero, List.setIfInBounds_toArray, List.set_cons_zero, List.set_cons_succ]
        refine wpAnyH_take (i := 3) (v := .slice (some ⟨bv, offv, none⟩) n cpv) rfl (by kernel_rfl) (by kernel_rfl) (by kernel_rfl) (fun _ _ _ h => h) (Or.inl ⟨by rfl, fun wx hx => by (have hc := HCV.out wx hx; simp [go_sem, hc])⟩) hS ?_
        simp only [Act.put, List.getElem_toArray, List.getElem_cons_succ, List.getElem_cons_zero, List.setIfInBounds_toArray, List.set_cons_zero, List.set_cons_succ]
        refine wpAnyH_take (i := 5) (v := .pointer (some ⟨bv, offv + k * 32, none⟩)) rfl (by kernel_rfl) (by kernel_rfl) (by kernel_rfl) (fun _ _ _ h => h) (Or.inl ⟨by rfl, fun wx hx => by (simp [go_sem, hlti, k0])⟩) hS ?_
        simp only [Act.put, List.getElem_toArray, List.getElem_cons_succ, List.getElem_cons_zero, List.setIfInBounds_toArray, List.set_cons_zero, List.set_cons_succ]
        refine wpAnyH_take (i := 6) (v := .agg (cb dv).toArray) rfl (by kernel_rfl) (by kernel_rfl) (by kernel_rfl) (fun _ _ _ h => h) (Or.inl ⟨by rfl, fun wx hx => by exact load_run 40 _ rfl _ _ rfl (cb dv) _ (HRV.out wx hx) Tryz.underlying40 rfl (by rw [cb_len, HV32.out]; exact info_digest)⟩) hS ?_
        simp only [Act.put, List.getElem_toArray, List.getElem_cons_succ, List.getElem_cons_zero, List.setIfInBounds_toArray, List.set_cons_zero, List.set_cons_succ]
        have hnb := NewB.of dv yV
        have hn1 := hI.next hnb.below
        obtain ⟨aV, cV, hxV⟩ := hI.own.v.slice
        obtain ⟨nV, HNV⟩ : ∃ z : Nat, Hid (z = (((l.take k).filter fun q => bitI q.1 i == p).map (·.2)).length) := ⟨_, rfl⟩
        rw [← HNV.out] at hxV
        have hce : yV.cell? ⟨go, 1, none⟩ = some xv := hI.out.cell 1
        have hce2 : (yV.alloc (.cells (cb dv).toArray 40)).cell? ⟨go, 1, none⟩ = some xv := hn1.out.cell 1
        subst hxV
        refine wpAnyH_comm 1 7 (.slice aV nV cV) (.slice (some ⟨yV.heap.size, 0, none⟩) 1 1) (yV.alloc (.cells (cb dv).toArray 40)) (by kernel_rfl) rfl rfl (by rfl) (by rfl) (by rfl) (by rfl) (by simp [go_sem, hce]) (buildD _ _ _ rfl dv HV32.out rfl _) (by simp [go_sem, hce2]) (buildD _ _ _ rfl dv HV32.out rfl _) (by kernel_rfl) (by kernel_rfl) (by rfl) (by rfl) hS hn1.bel ?_
        simp only [Act.put, List.getElem_toArray, List.getElem_cons_succ, List.getElem_cons_zero, List.setIfInBounds_toArray, List.set_cons_zero, List.set_cons_succ]
        have hI2 := hn1
        have HU : Hid (Blk (yV.alloc (.cells (cb dv).toArray 40)) yV.heap.size (cb dv) 40) := hnb.blk
        clear hn1 hnb hce hce2 hS hI
        refine wpAnyH_law 8 (by kernel_rfl) rfl (by rfl) (wp_appendG (.tmp 37) (.tmp 43) (go + 1) (.slice aV nV cV) _ dv yV.heap.size hI2.own.v HU.out HV32.out (by rw [List.length_map]; exact HFL.out) hI2.out.lt rfl rfl rfl ?_)
        intro zV qV hoV hgV
        have hI := hI2.addV hoV hgV
        have hsq : Below go wG qV := hI2.bel.trans (hgV.below.mono (Nat.le_succ _))
        have hbq := hI2.out.grow hgV (fun j hj => (hI2.own.v.lt j hj).1) (Nat.lt_succ_self _)
        have hcq := hbq.cell 1
        have hfq := hbq.frozen 1
        obtain ⟨aV2, cV2, hxV⟩ := hoV.slice
        obtain ⟨nV2, HNV2⟩ : ∃ z : Nat, Hid (z = (((l.take k).filter fun q => bitI q.1 i == p).map (·.2) ++ [dv]).length) := ⟨_, rfl⟩
        rw [← HNV2.out] at hxV
        subst hxV
        refine ⟨hsq, ?_⟩
        simp only [Act.put, List.getElem_toArray, List.getElem_cons_succ, List.getElem_cons_zero, List.setIfInBounds_toArray, List.set_cons_zero, List.set_cons_succ]
        refine wpAnyH_take (i := 9) (v := .pointer (some ⟨go, 1, none⟩)) rfl (by kernel_rfl) (by kernel_rfl) (by kernel_rfl) (fun _ _ _ h => h) (Or.inl ⟨by rfl, fun wx hx => by simp [go_sem]⟩) hsq ?_
        simp only [Act.put, List.getElem_toArray, List.getElem_cons_succ, List.getElem_cons_zero, List.setIfInBounds_toArray, List.set_cons_zero, List.set_cons_succ]
        refine wpAnyH_skip 10 (qV.setCell ⟨go, 1, none⟩ (.slice aV2 nV2 cV2)) (by kernel_rfl) rfl (by rfl) (by simp [go_sem, hcq, hfq]) hI.bel ?_
        simp only [Act.put, List.getElem_toArray, List.getElem_cons_succ, List.getElem_cons_zero]
        refine wpAnyH_done (by kernel_rfl) ?_ _
        clear hoV hgV hsq hbq hcq hfq hI2 HU
        generalize qV.setCell ⟨go, 1, none⟩ (.slice aV2 nV2 cV2) = WV at *
        have HJ : Hid (Lv wG go xa2 (.slice aV2 nV2 cV2) (((l.take (k + 1)).filter fun q => bitI q.1 i == p).map (·.1)) (((l.take (k + 1)).filter fun q => bitI q.1 i == p).map (·.2)) WV) := by
          show Lv _ _ _ _ _ _ _
          rw [HTK.out]
          simpa using hI
        clear hI
        go_wp2
        go_roundw
        case rel => exact ⟨k + 1, _, _, by omega, by simp, HJ.out⟩
        case measure => simp [intOf]; omega
      · have hpo2 : (p == on) = false := by simpa using hpo
        have HPO : Hid ((p == on) = false) := hpo2
        go_wp2_with (first
          | (with_reducible refine wpSeq_loadAt (.tmp 20) ba (offa + k * 32) da ?_ ?_ ?_ ?_ ?_ ?_
             · exact HA32.out
             · exact HRW.out
             · with_reducible rfl
             · rfl
             · rfl)
          | (go_at_call 46; refine (sBit_any da HA32.out _ _).mono ?_; rintro e w7 ⟨rfl, hb7⟩; rw [HP.out]
             have HJ : Hid (Lv wG go xa xv (((l.take k).filter fun p => bitI p.1 i == on).map (·.1)) (((l.take k).filter fun p => bitI p.1 i == on).map (·.2)) w7) := HI.out.next hb7
             clear hb7 ca HRW HI))
        have HJ2 : Hid (Lv wG go xa xv (((l.take (k + 1)).filter fun p => bitI p.1 i == on).map (·.1)) (((l.take (k + 1)).filter fun p => bitI p.1 i == on).map (·.2)) w7) := by
          show Lv _ _ _ _ _ _ _
          rw [HTK.out, HPO.out]
          simpa using HJ.out
        go_roundw
        case rel => exact ⟨k + 1, _, _, by omega, by simp, HJ2.out⟩
        case measure => simp [intOf]; omega
    · have hkn : k = n := by omega
      subst hkn
      have ht : l.take k = l := by rw [HN.out]; exact List.take_length
      have hI2 := HI.out
      rw [ht] at hI2
      obtain ⟨adx, cpx, hxa⟩ := hI2.own.a.slice
      obtain ⟨adw, cpw, hxv⟩ := hI2.own.v.slice
      obtain ⟨nx, HNX⟩ : ∃ z : Nat, Hid (z = ((l.filter fun p => bitI p.1 i == on).map (·.1)).length) := ⟨_, rfl⟩
      obtain ⟨nw, HNW⟩ : ∃ z : Nat, Hid (z = ((l.filter fun p => bitI p.1 i == on).map (·.2)).length) := ⟨_, rfl⟩
      rw [← HNX.out] at hxa
      rw [← HNW.out] at hxv
      subst hxa hxv
      have HE : Hid (Lv wG go (.slice adx nx cpx) (.slice adw nw cpw) ((l.filter fun p => bitI p.1 i == on).map (·.1)) ((l.filter fun p => bitI p.1 i == on).map (·.2)) wr) := hI2
      have d0 : wr.cell? ⟨go, 0, none⟩ = some (.slice adx nx cpx) := hI2.out.cell 0
      have d1 : wr.cell? ⟨go, 1, none⟩ = some (.slice adw nw cpw) := hI2.out.cell 1
      have hr := HRB.out.below hI2.bel (by have := HSZ.out; omega)
      have r0 : wr.cell? ⟨gl + 1, 0, none⟩ = some (.slice none 0 0) := hr.cell 0
      have r1 : wr.cell? ⟨gl + 1, 1, none⟩ = some (.slice none 0 0) := hr.cell 1
      have q0 : wr.frozen? ⟨gl + 1, 0, none⟩ = false := hr.frozen 0
      have q1 : wr.frozen? ⟨gl + 1, 1, none⟩ = false := hr.frozen 1
      have HRR : Hid (Blk wr (gl + 1) [nilV, nilV] 47) := hr
      clear ht hI2 hr HI
      go_wp2
      have hB6 : Blk ((wr.setCell ⟨gl + 1, 0, none⟩ (.slice adx nx cpx)).setCell ⟨gl + 1, 1, none⟩ (.slice adw nw cpw)) (gl + 1) [.slice adx nx cpx, .slice adw nw cpw] 47 := (HRR.out.set 0 _).set 1 _
      refine bodyPost_ret (v := .agg [.slice adx nx cpx, .slice adw nw cpw].toArray) (results_cell_row (by rfl) _ _ (gl + 1) 47 _ (0, 0) _ rfl hB6 Tryz.underlying47 rfl (by kernel_rfl)) rfl ⟨_, _, rfl, ?_, ?_⟩
      · refine (HE.out.own.keep fun j h1 _ => ?_).mono (by have h1 := HSZ.out; have h2 := HGL.out; omega)
        rw [Below.heap_setCell _ _ _ _ (by show j ≠ gl + 1; have := HSZ.out; omega), Below.heap_setCell _ _ _ _ (by show j ≠ gl + 1; have := HSZ.out; omega)]
      · exact ((HBW.out.trans (HE.out.bel.mono (by have h1 := HSZ.out; have h2 := HGL.out; omega))).setCell (by show w.heap.size ≤ gl + 1; have := HGL.out; omega) _).setCell (by show w.heap.size ≤ gl + 1; have := HGL.out; omega) _
theorem eHalf_b (va vv : Value) (l : List Lf) (d : Nat) (hd : d < 256) (on : Bool) (w : World) (hR : ReadsLf w va vv l) (hl : l.length < 2000000) :
    Calls Tryz.prog 31 #[.agg #[va, vv], .int .i64 (d : Int), .bool on] w fun e w' => ∃ xa xv, e = .returned (.agg #[xa, xv]) ∧ OwnLf w' w.heap.size xa xv ((halfL l d on).map (·.1)) ((halfL l d on).map (·.2)) ∧ Below w.heap.size w w' := by
  have h := eHalf_any va vv l (d : Int) on w hR hl
  rwa [halfL_is l d hd on] at h
set_option maxHeartbeats 400000 in
theorem rjoin_own (v : Value) (ls : List (List (BitVec 8))) (w : World) (hR : ReadsL w v ls) (hl : ls.flatten.length ≤ 140737488355328) (hn : ls.length < 4611686018427387904) :
    Calls Tryz.prog 45 #[v] w fun e w' => ∃ v', e = .returned v' ∧ OwnB w' w.heap.size v' ls.flatten ∧ Below w.heap.size w w' := by
  have HR : Hid (ReadsL w v ls) := hR
  obtain ⟨ad, cap, hv, hcap, _, _⟩ := hR
  obtain ⟨n, HNN⟩ : ∃ n, Hid (n = ls.length) := ⟨_, rfl⟩
  rw [← HNN.out] at hv hcap hn
  subst hv
  go_enter Tryz.func45, Tryz.ntmps45
  go_wp2
  go_loopw [3, 4] (fun u i wr => ∃ k : Nat, k ≤ n ∧ i = .int .i64 k ∧ RpInv w (ls.take k).flatten u wr) (fun _ i _ => n - (intOf i).toNat)
  case atStart => exact ⟨0, by omega, rfl, OwnB.nil _ _, Below.refl _ _⟩
  case round =>
    obtain ⟨k, hk, rfl, hI⟩ := hrel
    have HI : Hid (RpInv w (ls.take k).flatten u3 wr) := hI
    by_cases hlt : k < n
    · obtain ⟨ad', cap', hv', _, _, hx⟩ := HR.out.below hI.bel
      rw [← HNN.out] at hv' hx
      simp only [Value.slice.injEq, true_and] at hv'
      obtain ⟨rfl, rfl⟩ := hv'
      obtain ⟨b, off, rfl, hx2⟩ := hx (by omega)
      obtain ⟨vj, cj, hj⟩ := hx2 k hlt
      have HJ : Hid (Reads wr vj (ls.getD k [])) := hj
      have HF : Hid ((ls.take (k + 1)).flatten = (ls.take k).flatten ++ ls.getD k []) := flat_take ls k (by rw [← HNN.out]; exact hlt)
      have HL : Hid ((ls.take k).flatten.length + (ls.getD k []).length ≤ 140737488355328) := by
        have h1 := flat_le ls (k + 1)
        rw [HF.out, List.length_append] at h1
        exact Nat.le_trans h1 hl
      clear hx hx2 hj hI
      go_wp2_with (at_builtin; refine wpList_appendB rfl (.tmp 11) (.tmp 15) rfl w.heap.size _ (ls.take k).flatten rfl HI.out.own _ (ls.getD k []) rfl HJ.out HL.out HI.out.bel.size ?_; intro v2 w2 hown2 hb2 _)
      have hJ : RpInv w (ls.take (k + 1)).flatten v2 w2 := ⟨by rw [HF.out]; exact hown2, HI.out.bel.trans hb2⟩
      clear hown2 hb2 HI
      go_roundw
      case rel => exact ⟨k + 1, by omega, by go_num, hJ⟩
      case measure => simp [intOf]; omega
    · have hkn : k = n := by omega
      subst hkn
      have HV : Hid (OwnB wr w.heap.size u3 ls.flatten) := by
        have := hI.own
        rw [HNN.out, List.take_of_length_le (Nat.le_refl _)] at this
        exact this
      have hbel := hI.bel
      clear hI HI HR
      go_wp2
      go_ret
      exact ⟨_, rfl, HV.out, hbel⟩
theorem slice_dig17 (g o : Nat) (w : World) : (Instr.sliceAt 40 (.pointer (some ⟨g, o, none⟩)) none none none).run Tryz.prog w = .ok (.slice (some ⟨g, o, none⟩) 32 32) w := by kernel_rfl
theorem ownB_mono17 {w : World} {base B : Nat} {v : Value} {l : By} (h : OwnB w base v l) (hB : B ≤ base) : OwnB w B v l := by
  rcases h with ⟨h1, ⟨rfl, h2⟩ | ⟨g, cap, cur, rfl, hg, hh⟩⟩
  · exact ⟨h1, Or.inl ⟨rfl, h2⟩⟩
  · exact ⟨h1, Or.inr ⟨g, cap, cur, rfl, Nat.le_trans hB hg, hh⟩⟩
theorem reads_range {w : World} {b off : Nat} {l : By} (hl : l.length = 32) (h : w.rangeAt b off (cb l)) : Reads w (.slice (some ⟨b, off, none⟩) 32 32) l :=
  ⟨_, 32, by rw [hl], by rw [hl]; exact Nat.le_refl _, (fun e => by cases e), fun _ => ⟨b, off, rfl, fun j hj => h j _ (cb_get l j hj)⟩⟩
theorem rangeLf17 {w : World} {g : Nat} {a b : Value} (h0 : w.cell? ⟨g, 0, none⟩ = some a) (h1 : w.cell? ⟨g, 1, none⟩ = some b) : w.rangeAt g 0 [a, b] := fun j v hj => by
  match j, hj with
  | 0, hj => cases hj; exact h0
  | 1, hj => cases hj; exact h1
theorem whole_small {d : Nat} {l : List Lf} (hd : d ≤ 256) (hF : Fits l d) (hl : l.length < 2000000) : (wholeL d l).length ≤ 2000000000 := by
  have h := (whole_le (256 - d) d l (by omega) hF).1
  have h2 : l.length * (64 + 2 * (256 - d)) ≤ 2000000 * 576 := Nat.mul_le_mul (by omega) (by omega)
  omega
set_option maxRecDepth 100000 in
set_option maxHeartbeats 8000000 in
theorem eWhole_step (l : List Lf) (d : Nat) (va vv : Value) (w : World) (hF : Fits l d) (hR : ReadsLf w va vv l) (hl : l.length < 2000000) (hd : d ≤ 256)
    (ih : 2 ≤ l.length → ∀ on xa xv W, ReadsLf W xa xv (halfL l d on) → Calls Tryz.prog 30 #[.agg #[xa, xv], .int .i64 ((d + 1 : Nat) : Int)] W fun e w' => ∃ v, e = .returned v ∧ OwnB w' W.heap.size v (wholeL (d + 1) (halfL l d on)) ∧ Below W.heap.size W w') :
    Calls Tryz.prog 30 #[.agg #[va, vv], .int .i64 (d : Int)] w fun e w' => ∃ v, e = .returned v ∧ OwnB w' w.heap.size v (wholeL d l) ∧ Below w.heap.size w w' := by
  have HF : Hid (Fits l d) := hF
  have HR : Hid (ReadsLf w va vv l) := hR
  have HL : Hid (l.length < 2000000) := hl
  have HDD : Hid (d ≤ 256) := hd
  have HIH := id ih
  obtain ⟨t, HTT⟩ : ∃ z, Hid (z = wholeL d l) := ⟨_, rfl⟩
  rw [← HTT.out]
  obtain ⟨n, HN⟩ : ∃ n, Hid (n = l.length) := ⟨_, rfl⟩
  obtain ⟨ada, cpa, hva⟩ := hR.1.slice
  obtain ⟨adv, cpv, hvv⟩ := hR.2.slice
  rw [List.length_map, ← HN.out] at hva hvv
  subst hva hvv
  clear hR hl hF hd ih
  obtain ⟨gl, HGL⟩ : ∃ g, Hid (g = w.heap.size) := ⟨_, rfl⟩
  obtain ⟨wB, HWB⟩ : ∃ z, Hid (z = w.alloc (.cells [Value.slice ada n cpa, .slice adv n cpv].toArray 47)) := ⟨_, rfl⟩
  have HLB : Hid (Blk wB gl [Value.slice ada n cpa, .slice adv n cpv] 47) := by rw [HWB.out, HGL.out]; exact Blk.new w _ _
  have HBW : Hid (Below w.heap.size w wB) := by rw [HWB.out]; exact below_alloc w _
  have HSB : Hid (wB.heap.size = gl + 1) := by show _ = _; rw [HWB.out, HGL.out]; simp
  have HB1 : Hid (gl + 1 ≤ wB.heap.size) := by show _ ≤ _; rw [HSB.out]; exact Nat.le_refl _
  have HOUT : Hid (∀ wx, Below (gl + 1) wB wx → Below w.heap.size w wx) := fun wx hx => HBW.out.trans (hx.mono (by have := HGL.out; omega))
  have HSZ : Hid (∀ wx, Below (gl + 1) wB wx → w.heap.size ≤ wx.heap.size) := fun wx hx => (HOUT.out wx hx).size
  have HCA : Hid (∀ wx, Below (gl + 1) wB wx → wx.cell? ⟨gl, 0, none⟩ = some (.slice ada n cpa)) := fun wx hx => (HLB.out.below hx (Nat.lt_succ_self _)).cell 0
  have HCV : Hid (∀ wx, Below (gl + 1) wB wx → wx.cell? ⟨gl, 1, none⟩ = some (.slice adv n cpv)) := fun wx hx => (HLB.out.below hx (Nat.lt_succ_self _)).cell 1
  have HRS : Hid (∀ wx, Below (gl + 1) wB wx → ReadsLf wx (.slice ada n cpa) (.slice adv n cpv) l) := fun wx hx => HR.out.below (HOUT.out wx hx)
  go_enter Tryz.func30, Tryz.ntmps30
  go_upto_region 1 with fail
  rw [← HWB.out]
  have e0 : (some ⟨w.heap.size, 0, none⟩ : Option Addr) = some ⟨gl, 0, none⟩ := by rw [HGL.out]
  simp only [e0]
  clear e0
  have HS : Hid (Below (gl + 1) wB wB) := Below.refl _ _
  have ca : wB.cell? ⟨gl, 0, none⟩ = some (.slice ada n cpa) := HCA.out wB HS.out
  by_cases h0 : n = 0
  · subst h0
    have hnil : l = [] := List.length_eq_zero_iff.1 HN.out.symm
    have HRE : Hid (t = [0]) := by show _ = _; rw [HTT.out, hnil, whole_few (by simp)]; rfl
    clear hnil
    go_wp2_with (first
      | (with_reducible refine wpSeq_buildY 0 (.const (.int .u8 0)) ?_ ?_ ?_ ?_
         · rfl
         · rfl
         · rfl
         intro g1 w1 hy1 hg1 hb1
         have HF1 : Hid (OwnB w1 w.heap.size (.slice (some ⟨g1, 0, none⟩) 1 1) [0] ∧ Below w.heap.size w w1) := ⟨blk_own_y hy1 (Nat.le_trans (HSZ.out _ HS.out) hg1), HBW.out.trans (hb1.mono HBW.out.size)⟩
         clear hy1 hg1 hb1))
    go_ret
    exact ⟨_, rfl, by rw [HRE.out]; exact HF1.out.1, HF1.out.2⟩
  · by_cases h1 : n = 1
    · subst h1
      obtain ⟨p, hp⟩ : ∃ p, l = [p] := List.length_eq_one_iff.1 HN.out.symm
      have HRE : Hid (t = 1 :: (p.1 ++ p.2)) := by show _ = _; rw [HTT.out, hp, whole_few (by simp)]; rfl
      have HP : Hid (p.1.length = 32 ∧ p.2.length = 32) := HR.out.ok p (by rw [hp]; simp)
      have hA := HR.out.1
      have hV := HR.out.2
      rw [hp] at hA hV
      obtain ⟨ba, offa, cpa', hva, hya⟩ := hA.at (by simp)
      obtain ⟨bv, offv, cpv', hvv, hyv⟩ := hV.at (by simp)
      simp only [Value.slice.injEq] at hva hvv
      obtain ⟨rfl, hq1, rfl⟩ := hva
      obtain ⟨rfl, hq2, rfl⟩ := hvv
      clear hq1 hq2
      obtain ⟨da, HDA⟩ : ∃ d, Hid (d = p.1) := ⟨_, rfl⟩
      obtain ⟨dv, HDV⟩ : ∃ d, Hid (d = p.2) := ⟨_, rfl⟩
      rw [← HDA.out, ← HDV.out] at HRE HP
      have HRA : Hid (∀ wx, Below (gl + 1) wB wx → Reads wx (.slice (some ⟨ba, offa, none⟩) 32 32) da) := fun wx hx => by
        have h := hya 0 (by simp)
        simp only [List.map_cons, List.map_nil, List.getD_cons_zero, Nat.zero_mul, Nat.add_zero, ← HDA.out] at h
        have hb := rangeAt_lt h HP.out.1
        exact reads_range HP.out.1 (rangeAt_below (rangeAt_below h HBW.out hb) hx (by have h2 := HGL.out; omega))
      have HRV : Hid (∀ wx, Below (gl + 1) wB wx → Reads wx (.slice (some ⟨bv, offv, none⟩) 32 32) dv) := fun wx hx => by
        have h := hyv 0 (by simp)
        simp only [List.map_cons, List.map_nil, List.getD_cons_zero, Nat.zero_mul, Nat.add_zero, ← HDV.out] at h
        have hb := rangeAt_lt h HP.out.2
        exact reads_range HP.out.2 (rangeAt_below (rangeAt_below h HBW.out hb) hx (by have h2 := HGL.out; omega))
      clear hya hyv hA hV hp
      go_wp2_with fail
      refine wp_region_held_drew (S := Below (gl + 1) wB) (by kernel_rfl) HS.out.drew ?_
      intro hS
      clear HS ca
      change wpAnyH _ _ _ _ _ _ _ _ (World.drew wB)
      generalize World.drew wB = wd at *
      refine wpAnyH_take (i := 1) (v := .pointer (some ⟨gl, 0, none⟩)) rfl (by kernel_rfl) (by kernel_rfl) (by kernel_rfl) (fun _ _ _ h => h) (Or.inl ⟨by rfl, fun wx hx => by simp [go_sem]⟩) hS ?_
      simp only [Act.put, List.getElem_toArray, List.getElem_cons_succ, List.getElem_cons_zero, List.setIfInBounds_toArray, List.set_cons_zero, List.set_cons_succ]
      refine wpAnyH_take (i := 5) (v := .pointer (some ⟨gl, 1, none⟩)) rfl (by kernel_rfl) (by kernel_rfl) (by kernel_rfl) (fun _ _ _ h => h) (Or.inl ⟨by rfl, fun wx hx => by simp [go_sem]⟩) hS ?_
      simp only [Act.put, List.getElem_toArray, List.getElem_cons_succ, List.getElem_cons_zero, List.setIfInBounds_toArray, List.set_cons_zero, List.set_cons_succ]
      refine wpAnyH_take (i := 2) (v := .slice (some ⟨ba, offa, none⟩) 1 cpa) rfl (by kernel_rfl) (by kernel_rfl) (by kernel_rfl) (fun _ _ _ h => h) (Or.inl ⟨by rfl, fun wx hx => by (have hc := HCA.out wx hx; simp [go_sem, hc])⟩) hS ?_
      simp only [Act.put, List.getElem_toArray, List.getElem_cons_succ, List.getElem_cons_zero, List.setIfInBounds_toArray, List.set_cons_zero, List.set_cons_succ]
      refine wpAnyH_take (i := 6) (v := .slice (some ⟨bv, offv, none⟩) 1 cpv) rfl (by kernel_rfl) (by kernel_rfl) (by kernel_rfl) (fun _ _ _ h => h) (Or.inl ⟨by rfl, fun wx hx => by (have hc := HCV.out wx hx; simp [go_sem, hc])⟩) hS ?_
      simp only [Act.put, List.getElem_toArray, List.getElem_cons_succ, List.getElem_cons_zero, List.setIfInBounds_toArray, List.set_cons_zero, List.set_cons_succ]
      refine wpAnyH_take (i := 3) (v := .pointer (some ⟨ba, offa, none⟩)) rfl (by kernel_rfl) (by kernel_rfl) (by kernel_rfl) (fun _ _ _ h => h) (Or.inl ⟨by rfl, fun wx hx => by simp [go_sem]⟩) hS ?_
      simp only [Act.put, List.getElem_toArray, List.getElem_cons_succ, List.getElem_cons_zero, List.setIfInBounds_toArray, List.set_cons_zero, List.set_cons_succ]
      refine wpAnyH_take (i := 7) (v := .pointer (some ⟨bv, offv, none⟩)) rfl (by kernel_rfl) (by kernel_rfl) (by kernel_rfl) (fun _ _ _ h => h) (Or.inl ⟨by rfl, fun wx hx => by simp [go_sem]⟩) hS ?_
      simp only [Act.put, List.getElem_toArray, List.getElem_cons_succ, List.getElem_cons_zero, List.setIfInBounds_toArray, List.set_cons_zero, List.set_cons_succ]
      refine wpAnyH_take (i := 4) (v := .slice (some ⟨ba, offa, none⟩) 32 32) rfl (by kernel_rfl) (by kernel_rfl) (by kernel_rfl) (fun _ _ _ h => h) (Or.inl ⟨by rfl, fun wx hx => by simp [execOp, Act.eval, slice_dig17]⟩) hS ?_
      simp only [Act.put, List.getElem_toArray, List.getElem_cons_succ, List.getElem_cons_zero, List.setIfInBounds_toArray, List.set_cons_zero, List.set_cons_succ]
      refine wpAnyH_take (i := 8) (v := .slice (some ⟨bv, offv, none⟩) 32 32) rfl (by kernel_rfl) (by kernel_rfl) (by kernel_rfl) (fun _ _ _ h => h) (Or.inl ⟨by rfl, fun wx hx => by simp [execOp, Act.eval, slice_dig17]⟩) hS ?_
      simp only [Act.put, List.getElem_toArray, List.getElem_cons_succ, List.getElem_cons_zero, List.setIfInBounds_toArray, List.set_cons_zero, List.set_cons_succ]
      have hba := below_alloc wd (.cells #[Value.int .u8 1] 5)
      have hy := reads_val wd 1 1 rfl
      have hSwe := Sb.more hS HB1.out hba
      refine wpAnyH_step 0 (.slice (some ⟨wd.heap.size, 0, none⟩) 1 1) (wd.alloc (.cells #[.int .u8 1] 5)) (by kernel_rfl) rfl (by rfl) (by simp [go_sem]) hSwe ?_
      simp only [Act.put, List.getElem_toArray, List.getElem_cons_zero, List.setIfInBounds_toArray, List.set_cons_zero, List.set_cons_succ]
      clear hS
      have hS := hSwe
      clear hSwe hba
      generalize wd.alloc (.cells #[Value.int .u8 1] 5) = we at *
      obtain ⟨g0, hg0⟩ : ∃ z, z = wd.heap.size := ⟨_, rfl⟩
      rw [← hg0] at hy ⊢
      clear hg0
      have hrl := readsL_three hy (HRA.out we hS) (HRV.out we hS)
      have hba := below_alloc we (.cells #[.slice (some ⟨g0, 0, none⟩) 1 1, .slice (some ⟨ba, offa, none⟩) 32 32, .slice (some ⟨bv, offv, none⟩) 32 32] 49)
      have hS7 := Sb.more hS HB1.out hba
      refine wpAnyH_step 9 (.slice (some ⟨we.heap.size, 0, none⟩) 3 3) (we.alloc (.cells #[.slice (some ⟨g0, 0, none⟩) 1 1, .slice (some ⟨ba, offa, none⟩) 32 32, .slice (some ⟨bv, offv, none⟩) 32 32] 49)) (by kernel_rfl) rfl (by rfl) (by simp [go_sem]) hS7 ?_
      simp only [Act.put, List.getElem_toArray, List.getElem_cons_succ, List.getElem_cons_zero, List.setIfInBounds_toArray, List.set_cons_zero, List.set_cons_succ]
      generalize we.alloc (.cells #[.slice (some ⟨g0, 0, none⟩) 1 1, .slice (some ⟨ba, offa, none⟩) 32 32, .slice (some ⟨bv, offv, none⟩) 32 32] 49) = web at *
      clear hS hba
      refine wpAnyH_enter 10 (by kernel_rfl) rfl (by rfl) (f := 45) (args := #[.slice (some ⟨we.heap.size, 0, none⟩) 3 3]) (by simp [go_sem]) (rjoin_own _ _ web hrl (by simp only [List.flatten_cons, List.flatten_nil, List.append_nil, List.length_append, List.length_cons, List.length_nil]; rw [HP.out.1, HP.out.2]; omega) (by simp)) ?_
      rintro e wej ⟨v8, rfl, ho8, hb8⟩
      have hS := Sb.more hS7 HB1.out hb8
      refine ⟨_, rfl, hS, ?_⟩
      simp only [Act.put, List.getElem_toArray, List.getElem_cons_succ, List.getElem_cons_zero, List.setIfInBounds_toArray, List.set_cons_zero, List.set_cons_succ]
      refine wpAnyH_take (i := 11) (v := v8) rfl (by kernel_rfl) (by kernel_rfl) (by kernel_rfl) (fun _ _ _ h => h) (Or.inl ⟨by rfl, fun wx hx => by simp [go_sem]⟩) hS ?_
      simp only [Act.put, List.getElem_toArray, List.getElem_cons_succ, List.getElem_cons_zero, List.setIfInBounds_toArray, List.set_cons_zero, List.set_cons_succ]
      refine wpAnyH_done (by kernel_rfl) ?_ _
      have HO8 : Hid (OwnB wej w.heap.size v8 t ∧ Below w.heap.size w wej) := ⟨by rw [HRE.out]; have h := ownB_mono17 ho8 (HSZ.out _ hS7); simp only [List.flatten_cons, List.flatten_nil, List.append_nil, List.singleton_append] at h; exact h, HOUT.out _ hS⟩
      clear hS hS7 hb8 ho8 hrl
      go_wp2
      go_ret
      exact ⟨_, rfl, HO8.out.1, HO8.out.2⟩
    · have h2 : 2 ≤ n := by omega
      have HN2 : Hid (2 ≤ l.length) := by show _ ≤ _; rw [← HN.out]; exact h2
      have hn0 : ¬ ((n : Int) = 0) := by omega
      have hn1 : ¬ ((n : Int) = 1) := by omega
      have b0 : ((n : Int) == 0) = false := by simpa using hn0
      have b1 : ((n : Int) == 1) = false := by simpa using hn1
      have HD256 : Hid (d < 256) := HF.out.lt HN2.out
      have hI := HIH HN2.out
      clear HIH
      have HIH := hI
      clear hI
      obtain ⟨d1, HD1⟩ : ∃ z, Hid (z = d + 1) := ⟨_, rfl⟩
      have hd1 : IntKind.i64.wrap ((d : Int) + 1) = (d1 : Int) := by rw [IntKind.wrap_i64, HD1.out]; have := HD256.out; omega
      rw [← HD1.out] at HIH
      have HIX : Hid (∀ on xa xv W, ReadsLf W xa xv (halfL l d on) → Calls Tryz.prog 30 #[.agg #[xa, xv], .int .i64 (d1 : Int)] W fun e w' => ∃ v, e = .returned v ∧ OwnB w' W.heap.size v (wholeL d1 (halfL l d on)) ∧ Below W.heap.size W w') := HIH
      clear HIH
      obtain ⟨P, HPP⟩ : ∃ z, Hid (z = wholeL d1 (halfL l d false)) := ⟨_, rfl⟩
      obtain ⟨Q, HQQ⟩ : ∃ z, Hid (z = wholeL d1 (halfL l d true)) := ⟨_, rfl⟩
      have HRE : Hid (t = 2 :: (P ++ Q)) := by show _ = _; rw [HTT.out, whole_two HD256.out HN2.out, HPP.out, HQQ.out, HD1.out]
      have HLN : Hid (P.length + Q.length ≤ 5000000000) := by
        have h1 : (wholeL (d + 1) (halfL l d false)).length ≤ 2000000000 := whole_small (by have := HD256.out; omega) (HF.out.half false) (Nat.lt_of_le_of_lt (half_le l d false) HL.out)
        have h2 : (wholeL (d + 1) (halfL l d true)).length ≤ 2000000000 := whole_small (by have := HD256.out; omega) (HF.out.half true) (Nat.lt_of_le_of_lt (half_le l d true) HL.out)
        show _ ≤ _
        rw [HPP.out, HQQ.out, HD1.out]
        omega
      have HHB : Hid (∀ on W, Below (gl + 1) wB W → Calls Tryz.prog 31 #[.agg #[.slice ada n cpa, .slice adv n cpv], .int .i64 (d : Int), .bool on] W fun e w' => ∃ xa xv, e = .returned (.agg #[xa, xv]) ∧ OwnLf w' W.heap.size xa xv ((halfL l d on).map (·.1)) ((halfL l d on).map (·.2)) ∧ Below W.heap.size W w') := fun on W hx => eHalf_b _ _ l d HD256.out on W (HRS.out W hx) HL.out
      clear HTT HF HRS HR
      go_wp2_with fail
      refine wp_region_held_drew (S := Below (gl + 1) wB) (by kernel_rfl) HS.out.drew ?_
      intro hS
      clear HS ca
      change wpAnyH _ _ _ _ _ _ _ _ (World.drew wB)
      generalize World.drew wB = wd at *
      refine wpAnyH_take (i := 1) (v := .agg #[.slice ada n cpa, .slice adv n cpv]) rfl (by kernel_rfl) (by kernel_rfl) (by kernel_rfl) (fun _ _ _ h => h) (Or.inl ⟨by rfl, fun wx hx => by (have hc := HCA.out wx hx; have hv := HCV.out wx hx; exact load_run 47 _ rfl _ _ rfl [Value.slice ada n cpa, .slice adv n cpv] _ (rangeLf17 hc hv) Tryz.underlying47 rfl (by kernel_rfl))⟩) hS ?_
      simp only [Act.put, List.getElem_toArray, List.getElem_cons_succ, List.getElem_cons_zero, List.setIfInBounds_toArray, List.set_cons_zero, List.set_cons_succ]
      refine wpAnyH_take (i := 7) (v := .agg #[.slice ada n cpa, .slice adv n cpv]) rfl (by kernel_rfl) (by kernel_rfl) (by kernel_rfl) (fun _ _ _ h => h) (Or.inl ⟨by rfl, fun wx hx => by (have hc := HCA.out wx hx; have hv := HCV.out wx hx; exact load_run 47 _ rfl _ _ rfl [Value.slice ada n cpa, .slice adv n cpv] _ (rangeLf17 hc hv) Tryz.underlying47 rfl (by kernel_rfl))⟩) hS ?_
      simp only [Act.put, List.getElem_toArray, List.getElem_cons_succ, List.getElem_cons_zero, List.setIfInBounds_toArray, List.set_cons_zero, List.set_cons_succ]
      refine wpAnyH_take (i := 2) (v := .int .i64 (d : Int)) rfl (by kernel_rfl) (by kernel_rfl) (by kernel_rfl) (fun _ _ _ h => h) (Or.inl ⟨by rfl, fun wx hx => by simp [go_sem]⟩) hS ?_
      simp only [Act.put, List.getElem_toArray, List.getElem_cons_succ, List.getElem_cons_zero, List.setIfInBounds_toArray, List.set_cons_zero, List.set_cons_succ]
      refine wpAnyH_take (i := 4) (v := .int .i64 (d : Int)) rfl (by kernel_rfl) (by kernel_rfl) (by kernel_rfl) (fun _ _ _ h => h) (Or.inl ⟨by rfl, fun wx hx => by simp [go_sem]⟩) hS ?_
      simp only [Act.put, List.getElem_toArray, List.getElem_cons_succ, List.getElem_cons_zero, List.setIfInBounds_toArray, List.set_cons_zero, List.set_cons_succ]
      refine wpAnyH_take (i := 8) (v := .int .i64 (d : Int)) rfl (by kernel_rfl) (by kernel_rfl) (by kernel_rfl) (fun _ _ _ h => h) (Or.inl ⟨by rfl, fun wx hx => by simp [go_sem]⟩) hS ?_
      simp only [Act.put, List.getElem_toArray, List.getElem_cons_succ, List.getElem_cons_zero, List.setIfInBounds_toArray, List.set_cons_zero, List.set_cons_succ]
      refine wpAnyH_take (i := 10) (v := .int .i64 (d : Int)) rfl (by kernel_rfl) (by kernel_rfl) (by kernel_rfl) (fun _ _ _ h => h) (Or.inl ⟨by rfl, fun wx hx => by simp [go_sem]⟩) hS ?_
      simp only [Act.put, List.getElem_toArray, List.getElem_cons_succ, List.getElem_cons_zero, List.setIfInBounds_toArray, List.set_cons_zero, List.set_cons_succ]
      refine wpAnyH_take (i := 5) (v := .int .i64 (d1 : Int)) rfl (by kernel_rfl) (by kernel_rfl) (by kernel_rfl) (fun _ _ _ h => h) (Or.inl ⟨by rfl, fun wx hx => by simp [go_sem, hd1]⟩) hS ?_
      simp only [Act.put, List.getElem_toArray, List.getElem_cons_succ, List.getElem_cons_zero, List.setIfInBounds_toArray, List.set_cons_zero, List.set_cons_succ]
      refine wpAnyH_take (i := 11) (v := .int .i64 (d1 : Int)) rfl (by kernel_rfl) (by kernel_rfl) (by kernel_rfl) (fun _ _ _ h => h) (Or.inl ⟨by rfl, fun wx hx => by simp [go_sem, hd1]⟩) hS ?_
      simp only [Act.put, List.getElem_toArray, List.getElem_cons_succ, List.getElem_cons_zero, List.setIfInBounds_toArray, List.set_cons_zero, List.set_cons_succ]
      refine wpAnyH_pair 0 3 (by kernel_rfl) ?_ ?_
      · have hba := below_alloc wd (.cells #[Value.int .u8 2] 5)
        have hy := reads_val wd 2 2 rfl
        have hSwa1 := Sb.more hS HB1.out hba
        refine wpOp_vl 0 (.slice (some ⟨wd.heap.size, 0, none⟩) 1 1) (wd.alloc (.cells #[.int .u8 2] 5)) rfl (by rfl) (by simp [go_sem]) ⟨hSwa1, ?_⟩
        simp only [Act.put, List.getElem_toArray, List.getElem_cons_zero, List.setIfInBounds_toArray, List.set_cons_zero, List.set_cons_succ]
        clear hS
        have hS := hSwa1
        clear hSwa1 hba
        generalize wd.alloc (.cells #[Value.int .u8 2] 5) = wa1 at *
        obtain ⟨g0, hg0⟩ : ∃ z, z = wd.heap.size := ⟨_, rfl⟩
        rw [← hg0] at hy ⊢
        clear hg0
        refine wpAnyH_enter 3 (by kernel_rfl) rfl (by rfl) (f := 31) (args := #[.agg #[.slice ada n cpa, .slice adv n cpv], .int .i64 (d : Int), .bool false]) (by simp [go_sem]) (HHB.out false wa1 hS) ?_
        rintro e wc2 ⟨xaA, xvA, rfl, ho, hb⟩
        have hA := ho.reads
        clear ho
        have hS2 := Sb.more hS HB1.out hb
        refine ⟨_, rfl, hS2, ?_⟩
        simp only [Act.put, List.getElem_toArray, List.getElem_cons_succ, List.getElem_cons_zero, List.setIfInBounds_toArray, List.set_cons_zero, List.set_cons_succ]
        clear hS
        have hS := hS2
        clear hS2
        replace hy := hy.below hb
        clear hb
        refine wpAnyH_enter 6 (by kernel_rfl) rfl (by rfl) (f := 30) (args := #[.agg #[xaA, xvA], .int .i64 (d1 : Int)]) (by simp [go_sem]) (HIX.out false xaA xvA wc2 hA) ?_
        rintro e wc3 ⟨vz, rfl, ho, hb⟩
        rw [← HPP.out] at ho
        obtain ⟨a1, c1, rfl⟩ := ho.formP
        have hp := ho.reads
        clear ho hA
        have hS2 := Sb.more hS HB1.out hb
        refine ⟨_, rfl, hS2, ?_⟩
        simp only [Act.put, List.getElem_toArray, List.getElem_cons_succ, List.getElem_cons_zero, List.setIfInBounds_toArray, List.set_cons_zero, List.set_cons_succ]
        clear hS
        have hS := hS2
        clear hS2
        replace hy := hy.below hb
        clear hb
        refine wpAnyH_enter 9 (by kernel_rfl) rfl (by rfl) (f := 31) (args := #[.agg #[.slice ada n cpa, .slice adv n cpv], .int .i64 (d : Int), .bool true]) (by simp [go_sem]) (HHB.out true wc3 hS) ?_
        rintro e wc4 ⟨xaB, xvB, rfl, ho, hb⟩
        have hB := ho.reads
        clear ho
        have hS2 := Sb.more hS HB1.out hb
        refine ⟨_, rfl, hS2, ?_⟩
        simp only [Act.put, List.getElem_toArray, List.getElem_cons_succ, List.getElem_cons_zero, List.setIfInBounds_toArray, List.set_cons_zero, List.set_cons_succ]
        clear hS
        have hS := hS2
        clear hS2
        replace hy := hy.below hb
        replace hp := hp.below hb
        clear hb
        refine wpAnyH_enter 12 (by kernel_rfl) rfl (by rfl) (f := 30) (args := #[.agg #[xaB, xvB], .int .i64 (d1 : Int)]) (by simp [go_sem]) (HIX.out true xaB xvB wc4 hB) ?_
        rintro e wc5 ⟨vz, rfl, ho, hb⟩
        rw [← HQQ.out] at ho
        obtain ⟨a2, c2, rfl⟩ := ho.formP
        have hq := ho.reads
        clear ho hB
        have hS2 := Sb.more hS HB1.out hb
        refine ⟨_, rfl, hS2, ?_⟩
        simp only [Act.put, List.getElem_toArray, List.getElem_cons_succ, List.getElem_cons_zero, List.setIfInBounds_toArray, List.set_cons_zero, List.set_cons_succ]
        clear hS
        have hS := hS2
        clear hS2
        replace hy := hy.below hb
        replace hp := hp.below hb
        clear hb
        have hrl := readsL_three hy hp hq
        have hba := below_alloc wc5 (.cells #[.slice (some ⟨g0, 0, none⟩) 1 1, .slice a1 P.length c1, .slice a2 Q.length c2] 49)
        have hS7 := Sb.more hS HB1.out hba
        refine wpAnyH_step 13 (.slice (some ⟨wc5.heap.size, 0, none⟩) 3 3) (wc5.alloc (.cells #[.slice (some ⟨g0, 0, none⟩) 1 1, .slice a1 P.length c1, .slice a2 Q.length c2] 49)) (by kernel_rfl) rfl (by rfl) (by simp [go_sem]) hS7 ?_
        simp only [Act.put, List.getElem_toArray, List.getElem_cons_succ, List.getElem_cons_zero, List.setIfInBounds_toArray, List.set_cons_zero, List.set_cons_succ]
        generalize wc5.alloc (.cells #[.slice (some ⟨g0, 0, none⟩) 1 1, .slice a1 P.length c1, .slice a2 Q.length c2] 49) = wc5b at *
        clear hS hba
        refine wpAnyH_enter 14 (by kernel_rfl) rfl (by rfl) (f := 45) (args := #[.slice (some ⟨wc5.heap.size, 0, none⟩) 3 3]) (by simp [go_sem]) (rjoin_own _ _ wc5b hrl (by simp only [List.flatten_cons, List.flatten_nil, List.append_nil, List.length_append, List.length_cons, List.length_nil]; have := HLN.out; omega) (by simp)) ?_
        rintro e wc5j ⟨v8, rfl, ho8, hb8⟩
        have hS := Sb.more hS7 HB1.out hb8
        refine ⟨_, rfl, hS, ?_⟩
        simp only [Act.put, List.getElem_toArray, List.getElem_cons_succ, List.getElem_cons_zero, List.setIfInBounds_toArray, List.set_cons_zero, List.set_cons_succ]
        refine wpAnyH_take (i := 15) (v := v8) rfl (by kernel_rfl) (by kernel_rfl) (by kernel_rfl) (fun _ _ _ h => h) (Or.inl ⟨by rfl, fun wx hx => by simp [go_sem]⟩) hS ?_
        simp only [Act.put, List.getElem_toArray, List.getElem_cons_succ, List.getElem_cons_zero, List.setIfInBounds_toArray, List.set_cons_zero, List.set_cons_succ]
        refine wpAnyH_done (by kernel_rfl) ?_ _
        have HO8 : Hid (OwnB wc5j w.heap.size v8 t ∧ Below w.heap.size w wc5j) := ⟨by rw [HRE.out]; have h := ownB_mono17 ho8 (HSZ.out _ hS7); simp only [List.flatten_cons, List.flatten_nil, List.append_nil, List.singleton_append] at h; exact h, HOUT.out _ hS⟩
        clear hS hS7 hb8 ho8 hrl
        go_wp2
        go_ret
        exact ⟨_, rfl, HO8.out.1, HO8.out.2⟩
      · refine wpOp_en 3 (by rfl) (by rfl) (f := 31) (args := #[.agg #[.slice ada n cpa, .slice adv n cpv], .int .i64 (d : Int), .bool false]) (by simp [go_sem]) (HHB.out false wd hS) ?_
        rintro e wc6 ⟨xaA, xvA, rfl, ho, hb⟩
        have hA := ho.reads
        clear ho
        have hS2 := Sb.more hS HB1.out hb
        refine ⟨_, rfl, hS2, ?_⟩
        simp only [Act.put, List.getElem_toArray, List.getElem_cons_succ, List.getElem_cons_zero, List.setIfInBounds_toArray, List.set_cons_zero, List.set_cons_succ]
        clear hS
        have hS := hS2
        clear hS2
        clear hb
        refine wpAnyH_pair 0 6 (by kernel_rfl) ?_ ?_
        · have hba := below_alloc wc6 (.cells #[Value.int .u8 2] 5)
          have hy := reads_val wc6 2 2 rfl
          have hSwa7 := Sb.more hS HB1.out hba
          refine wpOp_vl 0 (.slice (some ⟨wc6.heap.size, 0, none⟩) 1 1) (wc6.alloc (.cells #[.int .u8 2] 5)) rfl (by rfl) (by simp [go_sem]) ⟨hSwa7, ?_⟩
          simp only [Act.put, List.getElem_toArray, List.getElem_cons_zero, List.setIfInBounds_toArray, List.set_cons_zero, List.set_cons_succ]
          replace hA := hA.below hba
          clear hS
          have hS := hSwa7
          clear hSwa7 hba
          generalize wc6.alloc (.cells #[Value.int .u8 2] 5) = wa7 at *
          obtain ⟨g0, hg0⟩ : ∃ z, z = wc6.heap.size := ⟨_, rfl⟩
          rw [← hg0] at hy ⊢
          clear hg0
          refine wpAnyH_enter 6 (by kernel_rfl) rfl (by rfl) (f := 30) (args := #[.agg #[xaA, xvA], .int .i64 (d1 : Int)]) (by simp [go_sem]) (HIX.out false xaA xvA wa7 hA) ?_
          rintro e wc8 ⟨vz, rfl, ho, hb⟩
          rw [← HPP.out] at ho
          obtain ⟨a1, c1, rfl⟩ := ho.formP
          have hp := ho.reads
          clear ho hA
          have hS2 := Sb.more hS HB1.out hb
          refine ⟨_, rfl, hS2, ?_⟩
          simp only [Act.put, List.getElem_toArray, List.getElem_cons_succ, List.getElem_cons_zero, List.setIfInBounds_toArray, List.set_cons_zero, List.set_cons_succ]
          clear hS
          have hS := hS2
          clear hS2
          replace hy := hy.below hb
          clear hb
          refine wpAnyH_enter 9 (by kernel_rfl) rfl (by rfl) (f := 31) (args := #[.agg #[.slice ada n cpa, .slice adv n cpv], .int .i64 (d : Int), .bool true]) (by simp [go_sem]) (HHB.out true wc8 hS) ?_
          rintro e wc9 ⟨xaB, xvB, rfl, ho, hb⟩
          have hB := ho.reads
          clear ho
          have hS2 := Sb.more hS HB1.out hb
          refine ⟨_, rfl, hS2, ?_⟩
          simp only [Act.put, List.getElem_toArray, List.getElem_cons_succ, List.getElem_cons_zero, List.setIfInBounds_toArray, List.set_cons_zero, List.set_cons_succ]
          clear hS
          have hS := hS2
          clear hS2
          replace hy := hy.below hb
          replace hp := hp.below hb
          clear hb
          refine wpAnyH_enter 12 (by kernel_rfl) rfl (by rfl) (f := 30) (args := #[.agg #[xaB, xvB], .int .i64 (d1 : Int)]) (by simp [go_sem]) (HIX.out true xaB xvB wc9 hB) ?_
          rintro e wc10 ⟨vz, rfl, ho, hb⟩
          rw [← HQQ.out] at ho
          obtain ⟨a2, c2, rfl⟩ := ho.formP
          have hq := ho.reads
          clear ho hB
          have hS2 := Sb.more hS HB1.out hb
          refine ⟨_, rfl, hS2, ?_⟩
          simp only [Act.put, List.getElem_toArray, List.getElem_cons_succ, List.getElem_cons_zero, List.setIfInBounds_toArray, List.set_cons_zero, List.set_cons_succ]
          clear hS
          have hS := hS2
          clear hS2
          replace hy := hy.below hb
          replace hp := hp.below hb
          clear hb
          have hrl := readsL_three hy hp hq
          have hba := below_alloc wc10 (.cells #[.slice (some ⟨g0, 0, none⟩) 1 1, .slice a1 P.length c1, .slice a2 Q.length c2] 49)
          have hS7 := Sb.more hS HB1.out hba
          refine wpAnyH_step 13 (.slice (some ⟨wc10.heap.size, 0, none⟩) 3 3) (wc10.alloc (.cells #[.slice (some ⟨g0, 0, none⟩) 1 1, .slice a1 P.length c1, .slice a2 Q.length c2] 49)) (by kernel_rfl) rfl (by rfl) (by simp [go_sem]) hS7 ?_
          simp only [Act.put, List.getElem_toArray, List.getElem_cons_succ, List.getElem_cons_zero, List.setIfInBounds_toArray, List.set_cons_zero, List.set_cons_succ]
          generalize wc10.alloc (.cells #[.slice (some ⟨g0, 0, none⟩) 1 1, .slice a1 P.length c1, .slice a2 Q.length c2] 49) = wc10b at *
          clear hS hba
          refine wpAnyH_enter 14 (by kernel_rfl) rfl (by rfl) (f := 45) (args := #[.slice (some ⟨wc10.heap.size, 0, none⟩) 3 3]) (by simp [go_sem]) (rjoin_own _ _ wc10b hrl (by simp only [List.flatten_cons, List.flatten_nil, List.append_nil, List.length_append, List.length_cons, List.length_nil]; have := HLN.out; omega) (by simp)) ?_
          rintro e wc10j ⟨v8, rfl, ho8, hb8⟩
          have hS := Sb.more hS7 HB1.out hb8
          refine ⟨_, rfl, hS, ?_⟩
          simp only [Act.put, List.getElem_toArray, List.getElem_cons_succ, List.getElem_cons_zero, List.setIfInBounds_toArray, List.set_cons_zero, List.set_cons_succ]
          refine wpAnyH_take (i := 15) (v := v8) rfl (by kernel_rfl) (by kernel_rfl) (by kernel_rfl) (fun _ _ _ h => h) (Or.inl ⟨by rfl, fun wx hx => by simp [go_sem]⟩) hS ?_
          simp only [Act.put, List.getElem_toArray, List.getElem_cons_succ, List.getElem_cons_zero, List.setIfInBounds_toArray, List.set_cons_zero, List.set_cons_succ]
          refine wpAnyH_done (by kernel_rfl) ?_ _
          have HO8 : Hid (OwnB wc10j w.heap.size v8 t ∧ Below w.heap.size w wc10j) := ⟨by rw [HRE.out]; have h := ownB_mono17 ho8 (HSZ.out _ hS7); simp only [List.flatten_cons, List.flatten_nil, List.append_nil, List.singleton_append] at h; exact h, HOUT.out _ hS⟩
          clear hS hS7 hb8 ho8 hrl
          go_wp2
          go_ret
          exact ⟨_, rfl, HO8.out.1, HO8.out.2⟩
        · refine wpOp_en 6 (by rfl) (by rfl) (f := 30) (args := #[.agg #[xaA, xvA], .int .i64 (d1 : Int)]) (by simp [go_sem]) (HIX.out false xaA xvA wc6 hA) ?_
          rintro e wc11 ⟨vz, rfl, ho, hb⟩
          rw [← HPP.out] at ho
          obtain ⟨a1, c1, rfl⟩ := ho.formP
          have hp := ho.reads
          clear ho hA
          have hS2 := Sb.more hS HB1.out hb
          refine ⟨_, rfl, hS2, ?_⟩
          simp only [Act.put, List.getElem_toArray, List.getElem_cons_succ, List.getElem_cons_zero, List.setIfInBounds_toArray, List.set_cons_zero, List.set_cons_succ]
          clear hS
          have hS := hS2
          clear hS2
          clear hb
          refine wpAnyH_pair 0 9 (by kernel_rfl) ?_ ?_
          · have hba := below_alloc wc11 (.cells #[Value.int .u8 2] 5)
            have hy := reads_val wc11 2 2 rfl
            have hSwa12 := Sb.more hS HB1.out hba
            refine wpOp_vl 0 (.slice (some ⟨wc11.heap.size, 0, none⟩) 1 1) (wc11.alloc (.cells #[.int .u8 2] 5)) rfl (by rfl) (by simp [go_sem]) ⟨hSwa12, ?_⟩
            simp only [Act.put, List.getElem_toArray, List.getElem_cons_zero, List.setIfInBounds_toArray, List.set_cons_zero, List.set_cons_succ]
            replace hp := hp.below hba
            clear hS
            have hS := hSwa12
            clear hSwa12 hba
            generalize wc11.alloc (.cells #[Value.int .u8 2] 5) = wa12 at *
            obtain ⟨g0, hg0⟩ : ∃ z, z = wc11.heap.size := ⟨_, rfl⟩
            rw [← hg0] at hy ⊢
            clear hg0
            refine wpAnyH_enter 9 (by kernel_rfl) rfl (by rfl) (f := 31) (args := #[.agg #[.slice ada n cpa, .slice adv n cpv], .int .i64 (d : Int), .bool true]) (by simp [go_sem]) (HHB.out true wa12 hS) ?_
            rintro e wc13 ⟨xaB, xvB, rfl, ho, hb⟩
            have hB := ho.reads
            clear ho
            have hS2 := Sb.more hS HB1.out hb
            refine ⟨_, rfl, hS2, ?_⟩
            simp only [Act.put, List.getElem_toArray, List.getElem_cons_succ, List.getElem_cons_zero, List.setIfInBounds_toArray, List.set_cons_zero, List.set_cons_succ]
            clear hS
            have hS := hS2
            clear hS2
            replace hp := hp.below hb
            replace hy := hy.below hb
            clear hb
            refine wpAnyH_enter 12 (by kernel_rfl) rfl (by rfl) (f := 30) (args := #[.agg #[xaB, xvB], .int .i64 (d1 : Int)]) (by simp [go_sem]) (HIX.out true xaB xvB wc13 hB) ?_
            rintro e wc14 ⟨vz, rfl, ho, hb⟩
            rw [← HQQ.out] at ho
            obtain ⟨a2, c2, rfl⟩ := ho.formP
            have hq := ho.reads
            clear ho hB
            have hS2 := Sb.more hS HB1.out hb
            refine ⟨_, rfl, hS2, ?_⟩
            simp only [Act.put, List.getElem_toArray, List.getElem_cons_succ, List.getElem_cons_zero, List.setIfInBounds_toArray, List.set_cons_zero, List.set_cons_succ]
            clear hS
            have hS := hS2
            clear hS2
            replace hp := hp.below hb
            replace hy := hy.below hb
            clear hb
            have hrl := readsL_three hy hp hq
            have hba := below_alloc wc14 (.cells #[.slice (some ⟨g0, 0, none⟩) 1 1, .slice a1 P.length c1, .slice a2 Q.length c2] 49)
            have hS7 := Sb.more hS HB1.out hba
            refine wpAnyH_step 13 (.slice (some ⟨wc14.heap.size, 0, none⟩) 3 3) (wc14.alloc (.cells #[.slice (some ⟨g0, 0, none⟩) 1 1, .slice a1 P.length c1, .slice a2 Q.length c2] 49)) (by kernel_rfl) rfl (by rfl) (by simp [go_sem]) hS7 ?_
            simp only [Act.put, List.getElem_toArray, List.getElem_cons_succ, List.getElem_cons_zero, List.setIfInBounds_toArray, List.set_cons_zero, List.set_cons_succ]
            generalize wc14.alloc (.cells #[.slice (some ⟨g0, 0, none⟩) 1 1, .slice a1 P.length c1, .slice a2 Q.length c2] 49) = wc14b at *
            clear hS hba
            refine wpAnyH_enter 14 (by kernel_rfl) rfl (by rfl) (f := 45) (args := #[.slice (some ⟨wc14.heap.size, 0, none⟩) 3 3]) (by simp [go_sem]) (rjoin_own _ _ wc14b hrl (by simp only [List.flatten_cons, List.flatten_nil, List.append_nil, List.length_append, List.length_cons, List.length_nil]; have := HLN.out; omega) (by simp)) ?_
            rintro e wc14j ⟨v8, rfl, ho8, hb8⟩
            have hS := Sb.more hS7 HB1.out hb8
            refine ⟨_, rfl, hS, ?_⟩
            simp only [Act.put, List.getElem_toArray, List.getElem_cons_succ, List.getElem_cons_zero, List.setIfInBounds_toArray, List.set_cons_zero, List.set_cons_succ]
            refine wpAnyH_take (i := 15) (v := v8) rfl (by kernel_rfl) (by kernel_rfl) (by kernel_rfl) (fun _ _ _ h => h) (Or.inl ⟨by rfl, fun wx hx => by simp [go_sem]⟩) hS ?_
            simp only [Act.put, List.getElem_toArray, List.getElem_cons_succ, List.getElem_cons_zero, List.setIfInBounds_toArray, List.set_cons_zero, List.set_cons_succ]
            refine wpAnyH_done (by kernel_rfl) ?_ _
            have HO8 : Hid (OwnB wc14j w.heap.size v8 t ∧ Below w.heap.size w wc14j) := ⟨by rw [HRE.out]; have h := ownB_mono17 ho8 (HSZ.out _ hS7); simp only [List.flatten_cons, List.flatten_nil, List.append_nil, List.singleton_append] at h; exact h, HOUT.out _ hS⟩
            clear hS hS7 hb8 ho8 hrl
            go_wp2
            go_ret
            exact ⟨_, rfl, HO8.out.1, HO8.out.2⟩
          · refine wpOp_en 9 (by rfl) (by rfl) (f := 31) (args := #[.agg #[.slice ada n cpa, .slice adv n cpv], .int .i64 (d : Int), .bool true]) (by simp [go_sem]) (HHB.out true wc11 hS) ?_
            rintro e wc15 ⟨xaB, xvB, rfl, ho, hb⟩
            have hB := ho.reads
            clear ho
            have hS2 := Sb.more hS HB1.out hb
            refine ⟨_, rfl, hS2, ?_⟩
            simp only [Act.put, List.getElem_toArray, List.getElem_cons_succ, List.getElem_cons_zero, List.setIfInBounds_toArray, List.set_cons_zero, List.set_cons_succ]
            clear hS
            have hS := hS2
            clear hS2
            replace hp := hp.below hb
            clear hb
            refine wpAnyH_pair 0 12 (by kernel_rfl) ?_ ?_
            · have hba := below_alloc wc15 (.cells #[Value.int .u8 2] 5)
              have hy := reads_val wc15 2 2 rfl
              have hSwa16 := Sb.more hS HB1.out hba
              refine wpOp_vl 0 (.slice (some ⟨wc15.heap.size, 0, none⟩) 1 1) (wc15.alloc (.cells #[.int .u8 2] 5)) rfl (by rfl) (by simp [go_sem]) ⟨hSwa16, ?_⟩
              simp only [Act.put, List.getElem_toArray, List.getElem_cons_zero, List.setIfInBounds_toArray, List.set_cons_zero, List.set_cons_succ]
              replace hp := hp.below hba
              replace hB := hB.below hba
              clear hS
              have hS := hSwa16
              clear hSwa16 hba
              generalize wc15.alloc (.cells #[Value.int .u8 2] 5) = wa16 at *
              obtain ⟨g0, hg0⟩ : ∃ z, z = wc15.heap.size := ⟨_, rfl⟩
              rw [← hg0] at hy ⊢
              clear hg0
              refine wpAnyH_enter 12 (by kernel_rfl) rfl (by rfl) (f := 30) (args := #[.agg #[xaB, xvB], .int .i64 (d1 : Int)]) (by simp [go_sem]) (HIX.out true xaB xvB wa16 hB) ?_
              rintro e wc17 ⟨vz, rfl, ho, hb⟩
              rw [← HQQ.out] at ho
              obtain ⟨a2, c2, rfl⟩ := ho.formP
              have hq := ho.reads
              clear ho hB
              have hS2 := Sb.more hS HB1.out hb
              refine ⟨_, rfl, hS2, ?_⟩
              simp only [Act.put, List.getElem_toArray, List.getElem_cons_succ, List.getElem_cons_zero, List.setIfInBounds_toArray, List.set_cons_zero, List.set_cons_succ]
              clear hS
              have hS := hS2
              clear hS2
              replace hp := hp.below hb
              replace hy := hy.below hb
              clear hb
              have hrl := readsL_three hy hp hq
              have hba := below_alloc wc17 (.cells #[.slice (some ⟨g0, 0, none⟩) 1 1, .slice a1 P.length c1, .slice a2 Q.length c2] 49)
              have hS7 := Sb.more hS HB1.out hba
              refine wpAnyH_step 13 (.slice (some ⟨wc17.heap.size, 0, none⟩) 3 3) (wc17.alloc (.cells #[.slice (some ⟨g0, 0, none⟩) 1 1, .slice a1 P.length c1, .slice a2 Q.length c2] 49)) (by kernel_rfl) rfl (by rfl) (by simp [go_sem]) hS7 ?_
              simp only [Act.put, List.getElem_toArray, List.getElem_cons_succ, List.getElem_cons_zero, List.setIfInBounds_toArray, List.set_cons_zero, List.set_cons_succ]
              generalize wc17.alloc (.cells #[.slice (some ⟨g0, 0, none⟩) 1 1, .slice a1 P.length c1, .slice a2 Q.length c2] 49) = wc17b at *
              clear hS hba
              refine wpAnyH_enter 14 (by kernel_rfl) rfl (by rfl) (f := 45) (args := #[.slice (some ⟨wc17.heap.size, 0, none⟩) 3 3]) (by simp [go_sem]) (rjoin_own _ _ wc17b hrl (by simp only [List.flatten_cons, List.flatten_nil, List.append_nil, List.length_append, List.length_cons, List.length_nil]; have := HLN.out; omega) (by simp)) ?_
              rintro e wc17j ⟨v8, rfl, ho8, hb8⟩
              have hS := Sb.more hS7 HB1.out hb8
              refine ⟨_, rfl, hS, ?_⟩
              simp only [Act.put, List.getElem_toArray, List.getElem_cons_succ, List.getElem_cons_zero, List.setIfInBounds_toArray, List.set_cons_zero, List.set_cons_succ]
              refine wpAnyH_take (i := 15) (v := v8) rfl (by kernel_rfl) (by kernel_rfl) (by kernel_rfl) (fun _ _ _ h => h) (Or.inl ⟨by rfl, fun wx hx => by simp [go_sem]⟩) hS ?_
              simp only [Act.put, List.getElem_toArray, List.getElem_cons_succ, List.getElem_cons_zero, List.setIfInBounds_toArray, List.set_cons_zero, List.set_cons_succ]
              refine wpAnyH_done (by kernel_rfl) ?_ _
              have HO8 : Hid (OwnB wc17j w.heap.size v8 t ∧ Below w.heap.size w wc17j) := ⟨by rw [HRE.out]; have h := ownB_mono17 ho8 (HSZ.out _ hS7); simp only [List.flatten_cons, List.flatten_nil, List.append_nil, List.singleton_append] at h; exact h, HOUT.out _ hS⟩
              clear hS hS7 hb8 ho8 hrl
              go_wp2
              go_ret
              exact ⟨_, rfl, HO8.out.1, HO8.out.2⟩
            · refine wpOp_en 12 (by rfl) (by rfl) (f := 30) (args := #[.agg #[xaB, xvB], .int .i64 (d1 : Int)]) (by simp [go_sem]) (HIX.out true xaB xvB wc15 hB) ?_
              rintro e wc18 ⟨vz, rfl, ho, hb⟩
              rw [← HQQ.out] at ho
              obtain ⟨a2, c2, rfl⟩ := ho.formP
              have hq := ho.reads
              clear ho hB
              have hS2 := Sb.more hS HB1.out hb
              refine ⟨_, rfl, hS2, ?_⟩
              simp only [Act.put, List.getElem_toArray, List.getElem_cons_succ, List.getElem_cons_zero, List.setIfInBounds_toArray, List.set_cons_zero, List.set_cons_succ]
              clear hS
              have hS := hS2
              clear hS2
              replace hp := hp.below hb
              clear hb
              have hba := below_alloc wc18 (.cells #[Value.int .u8 2] 5)
              have hy := reads_val wc18 2 2 rfl
              have hSwa19 := Sb.more hS HB1.out hba
              refine wpAnyH_step 0 (.slice (some ⟨wc18.heap.size, 0, none⟩) 1 1) (wc18.alloc (.cells #[.int .u8 2] 5)) (by kernel_rfl) rfl (by rfl) (by simp [go_sem]) hSwa19 ?_
              simp only [Act.put, List.getElem_toArray, List.getElem_cons_zero, List.setIfInBounds_toArray, List.set_cons_zero, List.set_cons_succ]
              replace hp := hp.below hba
              replace hq := hq.below hba
              clear hS
              have hS := hSwa19
              clear hSwa19 hba
              generalize wc18.alloc (.cells #[Value.int .u8 2] 5) = wa19 at *
              obtain ⟨g0, hg0⟩ : ∃ z, z = wc18.heap.size := ⟨_, rfl⟩
              rw [← hg0] at hy ⊢
              clear hg0
              have hrl := readsL_three hy hp hq
              have hba := below_alloc wa19 (.cells #[.slice (some ⟨g0, 0, none⟩) 1 1, .slice a1 P.length c1, .slice a2 Q.length c2] 49)
              have hS7 := Sb.more hS HB1.out hba
              refine wpAnyH_step 13 (.slice (some ⟨wa19.heap.size, 0, none⟩) 3 3) (wa19.alloc (.cells #[.slice (some ⟨g0, 0, none⟩) 1 1, .slice a1 P.length c1, .slice a2 Q.length c2] 49)) (by kernel_rfl) rfl (by rfl) (by simp [go_sem]) hS7 ?_
              simp only [Act.put, List.getElem_toArray, List.getElem_cons_succ, List.getElem_cons_zero, List.setIfInBounds_toArray, List.set_cons_zero, List.set_cons_succ]
              generalize wa19.alloc (.cells #[.slice (some ⟨g0, 0, none⟩) 1 1, .slice a1 P.length c1, .slice a2 Q.length c2] 49) = wa19b at *
              clear hS hba
              refine wpAnyH_enter 14 (by kernel_rfl) rfl (by rfl) (f := 45) (args := #[.slice (some ⟨wa19.heap.size, 0, none⟩) 3 3]) (by simp [go_sem]) (rjoin_own _ _ wa19b hrl (by simp only [List.flatten_cons, List.flatten_nil, List.append_nil, List.length_append, List.length_cons, List.length_nil]; have := HLN.out; omega) (by simp)) ?_
              rintro e wa19j ⟨v8, rfl, ho8, hb8⟩
              have hS := Sb.more hS7 HB1.out hb8
              refine ⟨_, rfl, hS, ?_⟩
              simp only [Act.put, List.getElem_toArray, List.getElem_cons_succ, List.getElem_cons_zero, List.setIfInBounds_toArray, List.set_cons_zero, List.set_cons_succ]
              refine wpAnyH_take (i := 15) (v := v8) rfl (by kernel_rfl) (by kernel_rfl) (by kernel_rfl) (fun _ _ _ h => h) (Or.inl ⟨by rfl, fun wx hx => by simp [go_sem]⟩) hS ?_
              simp only [Act.put, List.getElem_toArray, List.getElem_cons_succ, List.getElem_cons_zero, List.setIfInBounds_toArray, List.set_cons_zero, List.set_cons_succ]
              refine wpAnyH_done (by kernel_rfl) ?_ _
              have HO8 : Hid (OwnB wa19j w.heap.size v8 t ∧ Below w.heap.size w wa19j) := ⟨by rw [HRE.out]; have h := ownB_mono17 ho8 (HSZ.out _ hS7); simp only [List.flatten_cons, List.flatten_nil, List.append_nil, List.singleton_append] at h; exact h, HOUT.out _ hS⟩
              clear hS hS7 hb8 ho8 hrl
              go_wp2
              go_ret
              exact ⟨_, rfl, HO8.out.1, HO8.out.2⟩
theorem eWhole_any : ∀ (f d : Nat), 256 ≤ d + f → ∀ (l : List Lf) (va vv : Value) (w : World), Fits l d → ReadsLf w va vv l → l.length < 2000000 → d ≤ 256 →
    Calls Tryz.prog 30 #[.agg #[va, vv], .int .i64 (d : Int)] w fun e w' => ∃ v, e = .returned v ∧ OwnB w' w.heap.size v (wholeL d l) ∧ Below w.heap.size w w' := by
  intro f
  induction f with
  | zero => exact fun d hf l va vv w hF hR hl hd => eWhole_step l d va vv w hF hR hl hd fun h2 => absurd (hF.lt h2) (by omega)
  | succ f ih => exact fun d hf l va vv w hF hR hl hd => eWhole_step l d va vv w hF hR hl hd fun h2 on xa xv W hx => ih (d + 1) (by omega) (halfL l d on) xa xv W (hF.half on) hx (Nat.lt_of_le_of_lt (half_le l d on) hl) (hF.lt h2)
end Go.Proofs.YtphmmnffgknkcabGreatDoor
namespace Go.Proofs.YtphmmnffgknkcabGreatDoor
open Go.RowKit
set_option maxRecDepth 100000
theorem take_same {α : Type} {a b : List α} {k : Nat} (z : α) (h : a.take k = b.take k) (ha : k < a.length) (hb : k < b.length) (he : a.getD k z = b.getD k z) : a.take (k + 1) = b.take (k + 1) := by
  rw [List.getD_eq_getElem?_getD, List.getD_eq_getElem?_getD, List.getElem?_eq_getElem ha, List.getElem?_eq_getElem hb] at he
  rw [List.take_add_one, List.take_add_one, h, List.getElem?_eq_getElem ha, List.getElem?_eq_getElem hb]
  simp only [Option.getD_some] at he
  rw [he]
theorem Reads.drewN {w : World} {v : Value} {l : List (BitVec 8)} (h : Reads w v l) (q : Nat) : Reads (w.drewN q) v l := h
set_option maxRecDepth 100000 in
set_option maxHeartbeats 1000000 in
theorem sametexts_any (va vb : Value) (a b : List (List (BitVec 8))) (w : World) (ha : ReadsL w va a) (hb : ReadsL w vb b) (hl : a.length < 4611686018427387904) :
    Calls Tryz.prog 11 #[va, vb] w fun e w' => e = .returned (.bool (decide (a = b))) ∧ ∃ q, w' = w.drewN q := by
  have HA : Hid (ReadsL w va a) := ha
  have HB : Hid (ReadsL w vb b) := hb
  have hnot : ∀ (x : Bool) (w : World), (Op.unary .not (.bool x)).run Tryz.prog w = .ok (.bool (!x)) w := fun _ _ => rfl
  obtain ⟨ada, ca, hva, _, _, _⟩ := ha
  obtain ⟨adb, cb', hvb, _, _, _⟩ := hb
  obtain ⟨n, HN⟩ : ∃ n, Hid (n = a.length) := ⟨_, rfl⟩
  obtain ⟨m, HM⟩ : ∃ n, Hid (n = b.length) := ⟨_, rfl⟩
  rw [← HN.out] at hva hl
  rw [← HM.out] at hvb
  subst hva hvb
  obtain ⟨o, HO⟩ : ∃ o, Hid (o = decide (a = b)) := ⟨_, rfl⟩
  rw [← HO.out]
  by_cases hnm : n = m
  · subst hnm
    go_enter Tryz.func11, Tryz.ntmps11
    go_wp2
    go_loopw [5] (fun i wr => ∃ k q : Nat, k ≤ n ∧ i = .int .i64 (k : Int) ∧ a.take k = b.take k ∧ wr = w.drewN q) (fun i _ => n - (intOf i).toNat)
    case atStart => exact ⟨0, 0, by omega, rfl, rfl, rfl⟩
    case round =>
      obtain ⟨k, q, hk, rfl, heq, hwr⟩ := hrel
      have HW : Hid (wr = w.drewN q) := hwr
      clear hwr
      by_cases hlt : k < n
      · obtain ⟨ad1, cap1, hv1, _, _, hx1⟩ := HA.out
        rw [← HN.out] at hv1 hx1
        simp only [Value.slice.injEq, true_and] at hv1
        obtain ⟨rfl, rfl⟩ := hv1
        obtain ⟨b1, off1, rfl, hy1⟩ := hx1 (by omega)
        obtain ⟨ad2, cap2, hv2, _, _, hx2⟩ := HB.out
        rw [← HM.out] at hv2 hx2
        simp only [Value.slice.injEq, true_and] at hv2
        obtain ⟨rfl, rfl⟩ := hv2
        obtain ⟨b2, off2, rfl, hy2⟩ := hx2 (by omega)
        obtain ⟨v1, h1, r1⟩ := hy1 k hlt
        obtain ⟨v2, h2, r2⟩ := hy2 k hlt
        replace h1 : wr.cell? ⟨b1, off1 + k, none⟩ = some v1 := by rw [HW.out]; exact h1
        replace h2 : wr.cell? ⟨b2, off2 + k, none⟩ = some v2 := by rw [HW.out]; exact h2
        obtain ⟨x, HX⟩ : ∃ x, Hid (x = a.getD k []) := ⟨_, rfl⟩
        obtain ⟨y, HY⟩ : ∃ x, Hid (x = b.getD k []) := ⟨_, rfl⟩
        rw [← HX.out] at r1
        rw [← HY.out] at r2
        obtain ⟨p1, z1, hvv1, _, _, _⟩ := id r1
        obtain ⟨p2, z2, hvv2, _, _, _⟩ := id r2
        obtain ⟨l1, HL1⟩ : ∃ l1, Hid (l1 = x.length) := ⟨_, rfl⟩
        obtain ⟨l2, HL2⟩ : ∃ l2, Hid (l2 = y.length) := ⟨_, rfl⟩
        rw [← HL1.out] at hvv1
        rw [← HL2.out] at hvv2
        subst hvv1 hvv2
        have HR1 : Hid (∀ j, Reads (wr.drewN j) (.slice p1 l1 z1) x) := fun j => by rw [HW.out]; exact r1
        have HR2 : Hid (∀ j, Reads (wr.drewN j) (.slice p2 l2 z2) y) := fun j => by rw [HW.out]; exact r2
        have HQ : Hid (a.take k = b.take k) := heq
        clear heq hx1 hx2 hy1 hy2 r1 r2
        by_cases hxy : x = y
        · have HJ : Hid (a.take (k + 1) = b.take (k + 1)) := take_same [] HQ.out (by rw [← HN.out]; exact hlt) (by rw [← HM.out]; exact hlt) (by rw [← HX.out, ← HY.out, hxy])
          have HC : Hid (∀ j, Calls Tryz.prog 23 #[.slice p1 l1 z1, .slice p2 l2 z2] (wr.drewN j) fun e w' => e = .returned (.bool true) ∧ w' = wr.drewN j) := fun j => by
            have := same_any _ _ x y (wr.drewN j) (HR1.out j) (HR2.out j)
            rw [decide_eq_true hxy] at this
            exact this
          clear HR1 HR2 hxy
          go_wp2
          go_quiet (first | (go_at_call 23; refine Calls.quiet_of_same (HC.out _)))
          go_wp2
          go_roundw
          case rel => exact ⟨k + 1, _, by omega, by go_num, HJ.out, by rw [HW.out]; exact World.drewN_drewN ..⟩
          case measure => simp [intOf]; omega
        · have HF : Hid (o = false) := by
            show _ = _
            rw [HO.out, decide_eq_false_iff_not]
            intro he
            apply hxy
            rw [HX.out, HY.out, he]
          have HC : Hid (∀ j, Calls Tryz.prog 23 #[.slice p1 l1 z1, .slice p2 l2 z2] (wr.drewN j) fun e w' => e = .returned (.bool false) ∧ w' = wr.drewN j) := fun j => by
            have := same_any _ _ x y (wr.drewN j) (HR1.out j) (HR2.out j)
            rw [decide_eq_false hxy] at this
            exact this
          clear HR1 HR2 hxy
          go_wp2
          go_quiet (first | (go_at_call 23; refine Calls.quiet_of_same (HC.out _)))
          go_wp2
          go_ret
          exact ⟨by rw [HF.out]; rfl, _, by rw [HW.out]; exact World.drewN_drewN ..⟩
      · have hkn : k = n := by omega
        subst hkn
        have HF : Hid (o = true) := by
          show _ = _
          rw [HO.out, decide_eq_true_iff]
          have h1 := heq
          rw [List.take_of_length_le (by rw [← HN.out]; exact Nat.le_refl _), List.take_of_length_le (by rw [← HM.out]; exact Nat.le_refl _)] at h1
          exact h1
        clear heq
        go_wp2
        go_ret
        exact ⟨by rw [HF.out]; rfl, q, HW.out⟩
  · have hnm2 : ¬ ((n : Int) = (m : Int)) := by omega
    have HF : Hid (o = false) := by
      show _ = _
      rw [HO.out, decide_eq_false_iff_not]
      intro he
      apply hnm
      rw [HN.out, HM.out, he]
    go_enter Tryz.func11, Tryz.ntmps11
    go_wp2
    go_ret
    exact ⟨by rw [HF.out]; rfl, 0, rfl⟩
theorem mem_getD {ds : List (List (BitVec 8))} {d : List (BitVec 8)} : d ∈ ds ↔ ∃ j, j < ds.length ∧ ds.getD j [] = d := by
  rw [List.mem_iff_getElem]
  constructor
  · rintro ⟨j, hj, rfl⟩
    exact ⟨j, hj, by rw [List.getD_eq_getElem?_getD, List.getElem?_eq_getElem hj]; rfl⟩
  · rintro ⟨j, hj, h⟩
    refine ⟨j, hj, ?_⟩
    rw [List.getD_eq_getElem?_getD, List.getElem?_eq_getElem hj] at h
    exact h
end Go.Proofs.YtphmmnffgknkcabGreatDoor
namespace Go.Proofs.YtphmmnffgknkcabGreatDoor
open Go.RowKit
set_option maxRecDepth 100000
theorem idxQ (b off n c k : Nat) (hk : k < n) (f : Operand → Value) (o : Oper) (x y : Operand) (ho : o.op = .indexAddr 26 x y) (hx : f x = .slice (some ⟨b, off, none⟩) n c) (hy : f y = .int .i64 (k : Int)) (w : World) :
    (execOp f o).run Tryz.prog w = .ok (.value (.pointer (some ⟨b, off + k, none⟩))) w := by
  have k0 : (0 : Int) ≤ (k : Int) := by omega
  have k1 : (k : Int) < (n : Int) := by omega
  unfold execOp
  rw [ho]
  simp [go_sem, hx, hy, k0, k1, Addr.add_mid]
end Go.Proofs.YtphmmnffgknkcabGreatDoor
namespace Go.Proofs.YtphmmnffgknkcabGreatDoor
open Go.RowKit
set_option maxRecDepth 100000
structure NewR (cs : List Value) (t : TypeId) (w : World) (g : Nat) (w' : World) : Prop where
  ge : w.heap.size ≤ g
  blk : Blk w' g cs t
  below : Below w.heap.size w w'
theorem NewR.of (cs : List Value) (t : TypeId) (w : World) : NewR cs t w w.heap.size (w.alloc (.cells cs.toArray t)) := ⟨Nat.le_refl _, Blk.new w cs t, below_alloc w _⟩
theorem wpSeq_boxW {ops : Array Oper} {Q : Exit → Act → World → Prop} {rest : List Oper} {o : Oper} {a : Act} {w : World} (ty : TypeId) (x : Operand) (cs : List Value) (ho : o.op = .box ty x) (hx : a.eval x = .agg cs.toArray) (hw : Region.wanted o (yielded ops a.tmps) = true)
    (h : ∀ g w', NewR cs ty w g w' → wpList Tryz.prog ops Q rest (a.put o.dst (.pointer (some ⟨g, 0, none⟩))) w') : wpList Tryz.prog ops Q (o :: rest) a w :=
  wpSeq_box ty x ho cs hx hw _ rfl (h _ _ (NewR.of cs ty w))
structure SetR (cs : List Value) (t : TypeId) (w : World) (g : Nat) (w' : World) : Prop where
  blk : Blk w' g cs t
  only : Only g w w'
theorem SetR.of {cs ns : List Value} {t : TypeId} {w : World} {g : Nat} (hb : Blk w g cs t) (hl : ns.length = cs.length) : SetR ns t w g (w.setCells g 0 ns) := ⟨hb.whole ns hl, Only.setCells _ _ _ (Only.refl g w)⟩
theorem wpSeq_storeRow {ops : Array Oper} {Q : Exit → Act → World → Prop} {rest : List Oper} {o : Oper} {a : Act} {w : World} (ty : TypeId) (x y : Operand) (g : Nat) (cs ns : List Value) (hb : Blk w g cs ty) (hl : ns.length = cs.length) (hi : (Tryz.prog.info? ty).map (·.size) = some ns.length) (h1 : ∀ v ∈ ns, v.oneCell' = true)
    (ho : o.op = .store ty x y) (hx : a.eval x = .pointer (some ⟨g, 0, none⟩)) (hy : a.eval y = .agg ns.toArray) (hgd : o.guard = none)
    (h : ∀ w', SetR ns ty w g w' → wpList Tryz.prog ops Q rest (a.put o.dst undef) w') : wpList Tryz.prog ops Q (o :: rest) a w :=
  wpList_store_mid hgd ty x y ho g 0 _ hx hy (hb.there 0 _ (by rw [List.size_toArray, hl]; omega)) (by rw [List.size_toArray]; exact hi) (all_oneCell_toArray h1)
    (by rw [List.toList_toArray]; exact h _ (SetR.of hb hl))
theorem wpSeq_loadW {ops : Array Oper} {Q : Exit → Act → World → Prop} {rest : List Oper} {o : Oper} {a : Act} {w : World} (ty : TypeId) (x : Operand) (b off : Nat) (cs : List Value) (d : TypeDesc) (hb : w.rangeAt b off cs) (hu : Tryz.prog.underlying ty = some d) (hd : d.isRow = true) (hi : (Tryz.prog.info? ty).map (·.size) = some cs.length) (ho : o.op = .load ty x) (hx : a.eval x = .pointer (some ⟨b, off, none⟩)) (hw : Region.wanted o (yielded ops a.tmps) = true)
    (h : wpList Tryz.prog ops Q rest (a.put o.dst (.agg cs.toArray)) w) : wpList Tryz.prog ops Q (o :: rest) a w :=
  wpSeq_val _ _ hw (load_run ty x ho b off hx cs d hb hu hd hi) h
theorem wpSeq_appXs {ops : Array Oper} {Q : Exit → Act → World → Prop} {rest : List Oper} {o : Oper} {a : Act} {w : World} (s x : Operand) (base : Nat) (v : Value) (us us2 : List Value) (b off n c : Nat)
    (hown : OwnX w base v us) (hn : us2.length = n) (hnc : n ≤ c) (hc : ∀ j u, us2[j]? = some u → w.cell? ⟨b, off + j, none⟩ = some u) (h1 : ∀ u ∈ us2, u.oneCell' = true) (hlen : us.length + n ≤ 1000000) (hbase : base ≤ w.heap.size)
    (ho : o.op = .call { callee := .builtin .append, args := #[s, x], argTypes := #[26, 26] }) (hs : a.eval s = v) (hx : a.eval x = .slice (some ⟨b, off, none⟩) n c) (hgd : o.guard = none)
    (h : ∀ v' w', OwnX w' base v' (us ++ us2) → GrV w v w' v' → wpList Tryz.prog ops Q rest (a.put o.dst v') w') : wpList Tryz.prog ops Q (o :: rest) a w := by
  obtain ⟨i0, hi, hz0, hz1, hz2⟩ := info_parts Tryz.infobsP
  subst hn
  refine wpList_append_own_at (P := Tryz.prog) w hgd s x 26 ho base 49 i0 (.slice none 0 0) 1 24 Tryz.underlying26 hi hz0 hz1 hz2 rfl (by decide) v us.length us hs hown ⟨b, off, none⟩ us2.length c us2 hx (by omega) (fun j q hj => by rw [Addr.add_mid]; exact hc j q hj) h1 (by unfold maxLen; omega) (by omega) hbase ?_
  intro v' w' h2 h3 _ h5
  refine h v' w' ?_ ⟨mut_grown h3, fun k hk => ?_⟩
  · unfold OwnX; rw [List.length_append]; exact h2
  · rcases h5 with h5 | h5
    · exact Or.inl (h5 ▸ hk)
    · rw [h5] at hk; cases hk; exact Or.inr (Nat.le_refl _)
theorem reads_one {w : World} {v : Value} {l : By} (h : Reads w v l) : v.oneCell' = true := by
  obtain ⟨ad, c, rfl, _⟩ := h
  rfl
theorem PgS.mores {W W' : World} {base : Nat} {v v' : Value} {us us2 : List Value} {ps ps2 : List By} {X : Nat → Prop} (h : PgS W base v us ps X) (ho : OwnX W' base v' (us ++ us2)) (hg : GrV W v W' v') (h2 : us2.length = ps2.length) (hu : ∀ j u, us2[j]? = some u → Reads W u (ps2.getD j []) ∧ ∀ k, u.ownBlock = some k → k < W.heap.size ∧ v.ownBlock ≠ some k ∧ ¬ X k) : PgS W' base v' (us ++ us2) (ps ++ ps2) X := by
  have key : ∀ {x : Value} {q : By}, Reads W x q → (∀ k, x.ownBlock = some k → k < W.heap.size ∧ v.ownBlock ≠ some k ∧ ¬ X k) → Reads W' x q ∧ ∀ k, x.ownBlock = some k → k < W'.heap.size ∧ v'.ownBlock ≠ some k ∧ ¬ X k := fun hr hx =>
    ⟨hr.sameP fun k e => hg.other (hx k e).1 (hx k e).2.1, fun k e => ⟨Nat.lt_of_lt_of_le (hx k e).1 hg.mt.size, fun e2 => by
      rcases hg.lies k e2 with e3 | e3
      · exact (hx k e).2.1 e3
      · have := (hx k e).1; omega, (hx k e).2.2⟩⟩
  refine ⟨ho, by rw [List.length_append, List.length_append, h.len, h2], fun j x hj => ?_⟩
  rcases Nat.lt_or_ge j us.length with hl | hl
  · rw [List.getElem?_append_left hl] at hj
    have hp : (ps ++ ps2).getD j [] = ps.getD j [] := by
      rw [List.getD_eq_getElem?_getD, List.getD_eq_getElem?_getD, List.getElem?_append_left (by rw [← h.len]; exact hl)]
    rw [hp]
    exact key (h.good j x hj).1 (h.good j x hj).2
  · rw [List.getElem?_append_right hl] at hj
    have hp : (ps ++ ps2).getD j [] = ps2.getD (j - us.length) [] := by
      rw [List.getD_eq_getElem?_getD, List.getD_eq_getElem?_getD, List.getElem?_append_right (by rw [← h.len]; exact hl), ← h.len]
    rw [hp]
    exact key (hu _ x hj).1 (hu _ x hj).2
theorem PgS.row {W : World} {base : Nat} {v : Value} {us : List Value} {ps : List By} {X : Nat → Prop} (h : PgS W base v us ps X) (hp : 0 < ps.length) : ∃ g c, v = .slice (some ⟨g, 0, none⟩) us.length c ∧ us.length ≤ c ∧ (∀ j u, us[j]? = some u → W.cell? ⟨g, 0 + j, none⟩ = some u) ∧ ∀ u ∈ us, u.oneCell' = true := by
  have hl := h.len
  rcases h.own with ⟨_, ⟨e1, h2⟩ | ⟨g, cap, cur, e1, hg, hh, hc, hm, hs, ht⟩⟩
  · omega
  refine ⟨g, cap, e1, hc, fun j u hj => ?_, fun u hu => ?_⟩
  · obtain ⟨g2, c2, e2, hc2, _⟩ := h.own.at hj
    rw [e1] at e2
    cases e2
    rw [Nat.zero_add]; exact hc2
  · obtain ⟨j, hj, rfl⟩ := List.mem_iff_getElem.1 hu
    exact reads_one (h.good j _ (List.getElem?_eq_getElem hj)).1
theorem blk_own_x {w : World} {g base : Nat} {u : Value} (h : Blk w g [u] 49) (hb : base ≤ g) : OwnX w base (.slice (some ⟨g, 0, none⟩) 1 1) [u] :=
  ⟨rfl, Or.inr ⟨g, 1, [u].toArray, rfl, hb, h, Nat.le_refl _, by unfold maxLen; omega, rfl, by simp⟩⟩
end Go.Proofs.YtphmmnffgknkcabGreatDoor
namespace Go.Proofs.YtphmmnffgknkcabGreatDoor
open Go.RowKit
set_option maxRecDepth 100000
def svB (d : Nat) (l : List Lf) : Nat → By
  | 0 => [2]
  | 1 => 2 :: sidePg (d + 1) (halfL l d false)
  | _ => 2 :: (sidePg (d + 1) (halfL l d false) ++ sidePg (d + 1) (halfL l d true))
def svP (d : Nat) (l : List Lf) : Nat → List By
  | 0 => []
  | 1 => restPg (d + 1) (halfL l d false)
  | _ => restPg (d + 1) (halfL l d false) ++ restPg (d + 1) (halfL l d true)
theorem sv_next (d : Nat) (l : List Lf) (k : Nat) (hk : k < 2) : svB d l (k + 1) = svB d l k ++ sidePg (d + 1) (halfL l d (decide (k = 1))) ∧ svP d l (k + 1) = svP d l k ++ restPg (d + 1) (halfL l d (decide (k = 1))) := by
  match k, hk with
  | 0, _ => exact ⟨rfl, (List.nil_append _).symm⟩
  | 1, _ => exact ⟨rfl, rfl⟩
theorem sv_len {d : Nat} {l : List Lf} (hF : Fits l d) (k : Nat) : (svB d l k).length ≤ 131 := by
  have h0 := (side_len (d := d + 1) (hF.half false).1).2
  have h1 := (side_len (d := d + 1) (hF.half true).1).2
  match k with
  | 0 => simp [svB]
  | 1 => simp only [svB, List.length_cons]; omega
  | _ + 2 => simp only [svB, List.length_cons, List.length_append]; omega
theorem sv_count {d : Nat} {l : List Lf} (hF : Fits l d) (hd : d < 256) (hl : l.length ≤ 100) (b : Bool) : (restPg (d + 1) (halfL l d b)).length ≤ 25601 := by
  unfold restPg
  split
  · simp
  · have h := save_count (256 - (d + 1)) (d + 1) _ (by omega) (hF.half b)
    have h2 := half_le l d b
    have h3 : (256 - (d + 1)) * (halfL l d b).length ≤ 256 * 100 := Nat.mul_le_mul (by omega) (by omega)
    omega
theorem sv_most {d : Nat} {l : List Lf} (hF : Fits l d) (hd : d < 256) (hl : l.length ≤ 100) (k : Nat) : (svP d l k).length ≤ 51202 := by
  have h0 := sv_count hF hd hl false
  have h1 := sv_count hF hd hl true
  match k with
  | 0 => simp [svP]
  | 1 => simp only [svP]; omega
  | _ + 2 => simp only [svP, List.length_append]; omega
theorem sv_some {d : Nat} {l : List Lf} (hF : Fits l d) (h : 512 < (wholeL d l).length) : 0 < (svP d l 2).length := by
  have h2 := long_two hF h
  rcases Nat.lt_or_ge (halfL l d false).length 2 with ha | ha
  · rcases Nat.lt_or_ge (halfL l d true).length 2 with hb | hb
    · rw [whole_two h2.2 h2.1, List.length_cons, List.length_append, whole_few ha, whole_few hb, one_le (hF.half false).1 ha, one_le (hF.half true).1 hb] at h
      omega
    · have : 0 < (restPg (d + 1) (halfL l d true)).length := by unfold restPg; rw [if_neg (by omega), save_top]; simp
      simp only [svP, List.length_append]; omega
  · have : 0 < (restPg (d + 1) (halfL l d false)).length := by unfold restPg; rw [if_neg (by omega), save_top]; simp
    simp only [svP, List.length_append]; omega
structure SvI (w1 : World) (B : Nat) (vb vr : Value) (usr : List Value) (bs : By) (psr : List By) (W : World) : Prop where
  bl : Below B w1 W
  le : B ≤ W.heap.size
  b : OwnB W B vb bs
  r : PgS W B vr usr psr (fun k => k < B ∨ vb.ownBlock = some k)
theorem SvI.next {w1 W W' : World} {B : Nat} {vb vr : Value} {usr : List Value} {bs : By} {psr : List By} (h : SvI w1 B vb vr usr bs psr W) (hb : Below W.heap.size W W') : SvI w1 B vb vr usr bs psr W' :=
  ⟨h.bl.trans (hb.mono h.le), Nat.le_trans h.le hb.size, h.b.next hb, h.r.next hb⟩
theorem SvI.appB {w1 W W' : World} {B : Nat} {vb vb' vr : Value} {usr : List Value} {bs bs' : By} {psr : List By} (h : SvI w1 B vb vr usr bs psr W) (ho : OwnB W' B vb' bs') (hg : GrV W vb W' vb') : SvI w1 B vb' vr usr bs' psr W' :=
  ⟨h.bl.trans (hg.below h.le fun k hk => (h.b.ltP k hk).1), Nat.le_trans h.le hg.mt.size, ho, h.r.beside h.b hg⟩
theorem SvI.appR {w1 W W' : World} {B : Nat} {vb vr vr' : Value} {usr us2 : List Value} {bs : By} {psr ps2 : List By} (h : SvI w1 B vb vr usr bs psr W) (ho : OwnX W' B vr' (usr ++ us2)) (hg : GrV W vr W' vr') (h2 : us2.length = ps2.length) (hu : ∀ j u, us2[j]? = some u → Reads W u (ps2.getD j []) ∧ ∀ k, u.ownBlock = some k → k < W.heap.size ∧ vr.ownBlock ≠ some k ∧ ¬ (k < B ∨ vb.ownBlock = some k)) : SvI w1 B vb vr' (usr ++ us2) bs (psr ++ ps2) W' :=
  ⟨h.bl.trans (hg.below h.le fun k hk => (h.r.own.lt k hk).1), Nat.le_trans h.le hg.mt.size, h.b.sameP fun k hk => hg.other (h.b.ltP k hk).2 (fun e => h.r.own.ne_bytes h.b k e hk), h.r.mores ho hg h2 hu⟩
structure MoI (Bm : Nat) (vb vr vm : Value) (usm : List Value) (psm : List By) (W : World) : Prop where
  m : PgS W Bm vm usm psm (fun k => k < Bm ∨ vb.ownBlock = some k)
  r : ∀ k, vr.ownBlock = some k → k < Bm
theorem MoI.next {W W' : World} {Bm : Nat} {vb vr vm : Value} {usm : List Value} {psm : List By} (h : MoI Bm vb vr vm usm psm W) (hb : Below W.heap.size W W') : MoI Bm vb vr vm usm psm W' := ⟨h.m.next hb, h.r⟩
theorem MoI.appB {W W' : World} {B Bm : Nat} {vb vb' vr vm : Value} {usm : List Value} {bs : By} {psm : List By} (h : MoI Bm vb vr vm usm psm W) (ho : OwnB W B vb bs) (hg : GrV W vb W' vb') : MoI Bm vb' vr vm usm psm W' := ⟨h.m.beside ho hg, h.r⟩
theorem MoI.of {w1 W W' : World} {B : Nat} {vb vr vm : Value} {usr usm : List Value} {bs : By} {psr psm : List By} (h : SvI w1 B vb vr usr bs psr W) (hm : PgS W' W.heap.size vm usm psm (fun k => k < W.heap.size)) : MoI W.heap.size vb vr vm usm psm W' :=
  ⟨hm.weak fun k _ hk => hk.elim (fun e => e) (fun e => (h.b.ltP k e).2), fun k hk => (h.r.own.lt k hk).2⟩
theorem MoI.good {W : World} {B Bm : Nat} {vb vr vm : Value} {usm : List Value} {psm : List By} (h : MoI Bm vb vr vm usm psm W) (hB : B ≤ Bm) : ∀ j u, usm[j]? = some u → Reads W u (psm.getD j []) ∧ ∀ k, u.ownBlock = some k → k < W.heap.size ∧ vr.ownBlock ≠ some k ∧ ¬ (k < B ∨ vb.ownBlock = some k) := fun j u hj =>
  ⟨(h.m.good j u hj).1, fun k hk => by
    obtain ⟨h1, h2, h3⟩ := (h.m.good j u hj).2 k hk
    exact ⟨h1, fun e => h3 (Or.inl (h.r k e)), fun e => h3 (e.elim (fun e => Or.inl (by omega)) Or.inr)⟩⟩
theorem row_cells {W : World} {base g n c : Nat} {us : List Value} {ps : List By} {X : Nat → Prop} (h : PgS W base (.slice (some ⟨g, 0, none⟩) n c) us ps X) : ∀ j u, us[j]? = some u → W.cell? ⟨g, 0 + j, none⟩ = some u := fun j u hj => by
  obtain ⟨g2, c2, e2, hc2, _⟩ := h.own.at hj
  cases e2
  rw [Nat.zero_add]; exact hc2
theorem info_lvs {a b : Value} : (Tryz.prog.info? 47).map (·.size) = some [a, b].length := by kernel_rfl
theorem one_lvs {a1 a2 : Option Addr} {n1 n2 c1 c2 : Nat} : ∀ v ∈ [Value.slice a1 n1 c1, .slice a2 n2 c2], v.oneCell' = true := fun v hv => by
  simp only [List.mem_cons, List.not_mem_nil, or_false] at hv
  rcases hv with rfl | rfl <;> rfl
theorem wpSeq_allocLvs {ops : Array Oper} {Q : Exit → Act → World → Prop} {rest : List Oper} {o : Oper} {a : Act} {w : World} (ho : o.op = .alloc 47) (hw : Region.wanted o (yielded ops a.tmps) = true)
    (h : ∀ g w', NewR [nilV, nilV] 47 w g w' → wpList Tryz.prog ops Q rest (a.put o.dst (.pointer (some ⟨g, 0, none⟩))) w') : wpList Tryz.prog ops Q (o :: rest) a w := by
  refine wpSeq_val _ (w.alloc (.cells [nilV, nilV].toArray 47)) hw ?_ (h _ _ (NewR.of _ _ w))
  unfold execOp
  rw [ho]
  kernel_rfl
def SvR (w : World) (d : Nat) (l : List Lf) (e : Ending) (w' : World) : Prop := ∃ v us, e = .returned (.tuple #[.agg (cb (dig (topPg d l))).toArray, v]) ∧ PgS w' w.heap.size v us (saveL d l) (fun k => k < w.heap.size) ∧ Below w.heap.size w w'
set_option maxRecDepth 100000 in
set_option maxHeartbeats 16000000 in
theorem eSave_step (l : List Lf) (d : Nat) (va vv : Value) (w : World) (hK : KOk w) (hF : Fits l d) (hR : ReadsLf w va vv l) (hl : l.length ≤ 100) (hd : d ≤ 256)
    (ih : d < 256 → ∀ on xa xv W, KOk W → ReadsLf W xa xv (halfL l d on) → Calls Tryz.prog 15 #[.agg #[xa, xv], .int .i64 ((d + 1 : Nat) : Int)] W (SvR W (d + 1) (halfL l d on))) :
    Calls Tryz.prog 15 #[.agg #[va, vv], .int .i64 (d : Int)] w (SvR w d l) := by
  have HK : Hid (KOk w) := hK
  have HF : Hid (Fits l d) := hF
  have HR : Hid (ReadsLf w va vv l) := hR
  have HL : Hid (l.length ≤ 100) := hl
  have HDD : Hid (d ≤ 256) := hd
  have HIH := id ih
  replace ih : Hid True := trivial
  have HIHH : Hid (d < 256 → ∀ on xa xv W, KOk W → ReadsLf W xa xv (halfL l d on) → Calls Tryz.prog 15 #[.agg #[xa, xv], .int .i64 ((d + 1 : Nat) : Int)] W (SvR W (d + 1) (halfL l d on))) := HIH
  clear HIH ih
  obtain ⟨ada, cpa, hva⟩ := hR.1.slice
  obtain ⟨adv, cpv, hvv⟩ := hR.2.slice
  obtain ⟨na, HNA⟩ : ∃ n, Hid (n = (l.map (·.1)).length) := ⟨_, rfl⟩
  obtain ⟨nv, HNV⟩ : ∃ n, Hid (n = (l.map (·.2)).length) := ⟨_, rfl⟩
  rw [← HNA.out] at hva
  rw [← HNV.out] at hvv
  subst hva hvv
  have HWS : Hid ((wholeL d l).length ≤ 2000000000) := whole_small hd hF (by omega)
  clear hK hF hR hl hd
  have HBW : Hid (Below w.heap.size w w) := Below.refl _ _
  go_enter Tryz.func15, Tryz.ntmps15
  have ta0 : Hid True := trivial
  have ta1 : Hid True := trivial
  have ta2 : Hid True := trivial
  have ta3 : Hid True := trivial
  go_upto_region 2 with (first
    | (clear ta0; with_reducible refine wpSeq_boxW 47 (.tmp 0) [Value.slice ada na cpa, .slice adv nv cpv] ?_ ?_ ?_ ?_
       · rfl
       · rfl
       · rfl
       intro g2 wa nn
       have HBA : Hid (Below w.heap.size w wa) := nn.below
       have H2 : Hid (Blk wa g2 [Value.slice ada na cpa, .slice adv nv cpv] 47) := nn.blk
       clear nn)
    | (clear ta1; with_reducible refine wpSeq_allocD ?_ ?_ ?_
       · rfl
       · rfl
       intro g4 w1 nn
       have H4 : Hid (Blk w1 g4 (cb zb32) 40) := nn.blk
       have HG4 : Hid (w.heap.size ≤ g4) := Nat.le_trans HBA.out.size nn.ge
       have HB1 : Hid (Below w.heap.size w w1) := HBA.out.trans (nn.below.mono HBA.out.size)
       replace H2 : Hid (Blk w1 g2 [Value.slice ada na cpa, .slice adv nv cpv] 47) := H2.out.below nn.below H2.out.lt
       clear nn HBA)
    | (clear ta2; with_reducible refine wpSeq_loadW 47 (.tmp 2) g2 0 [Value.slice ada na cpa, .slice adv nv cpv] _ H2.out.range Tryz.underlying47 rfl info_lvs ?_ ?_ ?_ ?_
       · rfl
       · rfl
       · rfl)
    | (clear ta3; go_at_call 30; refine (eWhole_any (256 - d) d (by have := HDD.out; omega) l _ _ _ HF.out (HR.out.below HB1.out) (by have := HL.out; omega) HDD.out).mono ?_; rintro e w2 ⟨vb, rfl, ho, hb⟩
       have HOB : Hid (OwnB w2 w1.heap.size vb (wholeL d l)) := ho
       have HB2 : Hid (Below w1.heap.size w1 w2) := hb
       obtain ⟨ab, cpb, hvb⟩ := ho.formP
       obtain ⟨nb, HNB⟩ : ∃ n, Hid (n = (wholeL d l).length) := ⟨_, rfl⟩
       rw [← HNB.out] at hvb
       subst hvb
       clear ho hb))
  by_cases hs : (wholeL d l).length ≤ 512
  case pos =>
    have hle : (nb : Int) ≤ 512 := by rw [HNB.out]; omega
    have HT : Hid (saveL d l = [wholeL d l] ∧ topPg d l = wholeL d l) := ⟨save_one hs, top_one hs⟩
    clear hs
    obtain ⟨dg, HDG⟩ : ∃ z, Hid (z = dig (wholeL d l)) := ⟨_, rfl⟩
    have HDL : Hid (dg.length = 32) := by show _ = _; rw [HDG.out]; exact len_dig' _
    replace H4 : Hid (Blk w2 g4 (cb zb32) 40) := H4.out.below HB2.out H4.out.lt
    have tb0 : Hid True := trivial
    have tb1 : Hid True := trivial
    have tb2 : Hid True := trivial
    go_wp2_with (first
      | (clear tb0; go_at_call 13; refine (rOf_any _ (wholeL d l) _ HOB.out.reads (by have := HWS.out; omega)).mono ?_; rintro e w3 ⟨rfl, hb⟩
         rw [← HDG.out]
         have HOB3 : Hid (OwnB w3 w1.heap.size (.slice ab nb cpb) (wholeL d l)) := HOB.out.next hb
         have HB3 : Hid (Below w1.heap.size w1 w3) := HB2.out.trans (hb.mono HB2.out.size)
         replace H4 : Hid (Blk w3 g4 (cb zb32) 40) := H4.out.below hb H4.out.lt
         clear hb HOB)
      | (clear tb1; with_reducible refine wpSeq_buildX (.tmp 21) ab nb cpb ?_ ?_ ?_ ?_
         · rfl
         · rfl
         · rfl
         intro g5 w4 hy hge hb
         have HOB4 : Hid (OwnB w4 w1.heap.size (.slice ab nb cpb) (wholeL d l)) := HOB3.out.next hb
         have HLT : Hid (∀ k, (Value.slice ab nb cpb).ownBlock = some k → k < w3.heap.size) := fun k hk => (HOB3.out.ltP k hk).2
         have HG5 : Hid (w3.heap.size ≤ g5) := hge
         have HY : Hid (Blk w4 g5 [.slice ab nb cpb] 49) := hy
         have HB4 : Hid (Below w1.heap.size w1 w4) := HB3.out.trans (hb.mono HB3.out.size)
         replace H4 : Hid (Blk w4 g4 (cb zb32) 40) := H4.out.below hb H4.out.lt
         clear hb hy hge HOB3)
      | (clear tb2; with_reducible refine wpSeq_storeD (.tmp 4) (.tmp 20) g4 zb32 dg zb32_len HDL.out H4.out ?_ ?_ ?_ ?_ ?_
         · rfl
         · rfl
         · rfl
         · rfl
         intro w5 h9
         have HN4 : Hid (Blk w5 g4 (cb dg) 40) := h9.blk
         have HO5 : Hid (Only g4 w4 w5) := h9.only
         clear h9))
    refine bodyPost_ret (results_row_tmp (by rfl) _ _ _ g4 40 (cb dg) _ (.slice (some ⟨g5, 0, none⟩) 1 1) rfl rfl HN4.out Tryz.underlying40 rfl (by rw [cb_len, HDL.out]; exact info_digest)) rfl ?_
    refine ⟨_, [.slice ab nb cpb], by rw [HDG.out, HT.out.2], ?_, HB1.out.trans ((HB4.out.mono HB1.out.size).trans (HO5.out.below HG4.out (Nat.le_trans HB1.out.size HB4.out.size)))⟩
    rw [HT.out.1]
    have hne : ∀ k, (Value.slice ab nb cpb).ownBlock = some k → k ≠ g4 := fun k hk e => HOB4.out.ne_blk H4.out (by decide) (e ▸ hk)
    have h5 : g5 ≠ g4 := fun e => by have h0 := H4.out; have h1 := HY.out; rw [e] at h1; unfold Blk at h0 h1; rw [h0] at h1; simp only [Option.some.injEq, Obj.cells.injEq] at h1; exact absurd h1.2.1 (by decide)
    have hY5 : Blk w5 g5 [.slice ab nb cpb] 49 := HY.out.only HO5.out h5
    exact ⟨blk_own_x hY5 (Nat.le_trans HB1.out.size (Nat.le_trans HB3.out.size HG5.out)), rfl, fun j u hj => by
      match j, hj with
      | 0, hj =>
        cases hj
        exact ⟨HOB4.out.reads.sameP fun k hk => HO5.out.block k (hne k hk) (HOB4.out.ltP k hk).2, fun k hk => ⟨Nat.lt_of_lt_of_le (HOB4.out.ltP k hk).2 HO5.out.size, fun e => by
          have h1 := HLT.out k hk
          have h2 := HG5.out
          simp only [Value.ownBlock, Option.some.injEq] at e
          omega, by have h1 := (HOB4.out.ltP k hk).1; have h2 := HB1.out.size; omega⟩⟩
      | _ + 1, hj => simp at hj⟩
  case neg =>
    have HLG : Hid (512 < (wholeL d l).length) := by show _ < _; omega
    have hle : ¬ (nb : Int) ≤ 512 := by rw [HNB.out]; omega
    have hd : d < 256 := (long_two HF.out HLG.out).2
    have HD : Hid (d < 256) := hd
    have f1 : IntKind.i64.wrap ((d : Int) + 1) = ((d + 1 : Nat) : Int) := by rw [IntKind.wrap_i64]; omega
    obtain ⟨d1, HD1⟩ : ∃ z, Hid (z = d + 1) := ⟨_, rfl⟩
    rw [← HD1.out] at f1
    have HIH : Hid (∀ on xa xv W, KOk W → ReadsLf W xa xv (halfL l d on) → Calls Tryz.prog 15 #[.agg #[xa, xv], .int .i64 (d1 : Int)] W (SvR W d1 (halfL l d on))) := by rw [HD1.out]; exact HIHH.out hd
    clear hs hd HIHH HOB
    obtain ⟨B, HBB⟩ : ∃ z, Hid (z = w1.heap.size) := ⟨_, rfl⟩
    have H4L : Hid (g4 < B ∧ g2 < B ∧ 1 < B) := by rw [HBB.out]; exact ⟨H4.out.lt, H2.out.lt, Nat.lt_of_lt_of_le HK.out.lt HB1.out.size⟩
    have HKK : Hid (∀ W, Below B w1 W → KOk W) := fun W hW => (HK.out.below HB1.out HK.out.lt).below hW H4L.out.2.2
    have H2W : Hid (∀ W, Below B w1 W → Blk W g2 [Value.slice ada na cpa, .slice adv nv cpv] 47) := fun W hW => H2.out.below hW H4L.out.2.1
    have H4W : Hid (∀ W, Below B w1 W → Blk W g4 (cb zb32) 40) := fun W hW => H4.out.below hW H4L.out.1
    have HRW : Hid (∀ W, Below B w1 W → ReadsLf W (.slice ada na cpa) (.slice adv nv cpv) l) := fun W hW => (HR.out.below HB1.out).below (by rw [← HBB.out]; exact hW)
    have HB2' : Hid (Below B w1 w2) := by rw [HBB.out]; exact HB2.out
    clear H2 H4 HR HK
    have tc0 : Hid True := trivial
    go_wp2_with (first
      | (clear tc0; with_reducible refine wpSeq_buildY 2 (.const (.int .u8 2)) ?_ ?_ ?_ ?_
         · rfl
         · rfl
         · rfl
         intro g6 w3 hy hge hb
         have HI0 : Hid (SvI w1 B (.slice (some ⟨g6, 0, none⟩) 1 1) (.slice none 0 0) [] [2] [] w3) := ⟨HB2'.out.trans (hb.mono (by rw [HBB.out]; exact HB2.out.size)), Nat.le_trans (by rw [HBB.out]; exact HB2.out.size) hb.size, blk_own_y hy (Nat.le_trans (by rw [HBB.out]; exact HB2.out.size) hge), PgS.nil _ _ _⟩
         clear hy hge hb HB2 HB2'))
    go_loopw [6, 7, 8] (fun b r i W => ∃ (k : Nat) (ab : Option Addr) (nb cb2 : Nat) (ar : Option Addr) (nr cr : Nat) (usr : List Value), k ≤ 2 ∧ b = .slice ab nb cb2 ∧ r = .slice ar nr cr ∧ i = .int .i64 (k : Int) ∧ Hid (SvI w1 B (.slice ab nb cb2) (.slice ar nr cr) usr (svB d l k) (svP d l k) W)) (fun _ _ i _ => 2 - (intOf i).toNat)
    case atStart => exact ⟨0, some ⟨g6, 0, none⟩, 1, 1, none, 0, 0, [], by omega, rfl, rfl, rfl, HI0.out⟩
    case round =>
      obtain ⟨k, ab2, nb2, cb2, ar, nr, cr, usr, hk, rfl, rfl, rfl, HI⟩ := hrel
      by_cases hlt : k < 2
      case pos =>
        have hlk : (k : Int) < 2 := by omega
        have fk : IntKind.i64.wrap ((k : Int) + 1) = (k : Int) + 1 := by rw [IntKind.wrap_i64]; omega
        obtain ⟨on, HON⟩ : ∃ z, Hid (z = decide (k = 1)) := ⟨_, rfl⟩
        have e1 : ((k : Int) == 1) = on := by rw [HON.out]; by_cases h : k = 1 <;> simp [h]; omega
        obtain ⟨h, HH⟩ : ∃ z, Hid (z = halfL l d on) := ⟨_, rfl⟩
        have HHF : Hid (Fits h d1 ∧ h.length ≤ 100) := by rw [HH.out, HD1.out]; exact ⟨HF.out.half on, Nat.le_trans (half_le l d on) HL.out⟩
        have HNX : Hid (svB d l (k + 1) = svB d l k ++ sidePg d1 h ∧ svP d l (k + 1) = svP d l k ++ restPg d1 h) := by rw [HH.out, HON.out, HD1.out]; exact sv_next d l k hlt
        have HBL : Hid ((svB d l k).length ≤ 131) := sv_len HF.out k
        have HPL : Hid ((svP d l k).length ≤ 51202) := sv_most HF.out HD.out HL.out k
        obtain ⟨bs, HBS⟩ : ∃ z, Hid (z = svB d l k) := ⟨_, rfl⟩
        obtain ⟨psr, HPS⟩ : ∃ z, Hid (z = svP d l k) := ⟨_, rfl⟩
        rw [← HBS.out] at HBL HNX HI
        rw [← HPS.out] at HPL HNX HI
        have td0 : Hid True := trivial
        have td1 : Hid True := trivial
        have td2 : Hid True := trivial
        have td3 : Hid True := trivial
        go_upto_region 10 with (first
          | (clear td0; with_reducible refine wpSeq_loadW 47 (.tmp 2) g2 0 [Value.slice ada na cpa, .slice adv nv cpv] _ (H2W.out _ HI.out.bl).range Tryz.underlying47 rfl info_lvs ?_ ?_ ?_ ?_
             · rfl
             · rfl
             · rfl)
          | (clear td1; go_at_call 31; refine (eHalf_b _ _ l d HD.out on _ (HRW.out _ HI.out.bl) (by have := HL.out; omega)).mono ?_; rintro e w5 ⟨xa, xv, rfl, ho, hb⟩
             rw [← HH.out] at ho
             have hrd := ho.reads
             obtain ⟨axa, cxa, hxa⟩ := hrd.1.slice
             obtain ⟨axv, cxv, hxv⟩ := hrd.2.slice
             obtain ⟨nxa, HXA⟩ : ∃ n, Hid (n = (h.map (·.1)).length) := ⟨_, rfl⟩
             obtain ⟨nxv, HXV⟩ : ∃ n, Hid (n = (h.map (·.2)).length) := ⟨_, rfl⟩
             rw [← HXA.out] at hxa
             rw [← HXV.out] at hxv
             subst hxa hxv
             have HRX : Hid (ReadsLf w5 (.slice axa nxa cxa) (.slice axv nxv cxv) h) := hrd
             replace HI : Hid (SvI w1 B (.slice ab2 nb2 cb2) (.slice ar nr cr) usr bs psr w5) := HI.out.next hb
             clear ho hrd hb)
          | (clear td2; with_reducible refine wpSeq_allocLvs ?_ ?_ ?_
             · rfl
             · rfl
             intro g9 w6 nn
             have HNN : Hid (NewR [nilV, nilV] 47 w5 g9 w6) := nn
             clear nn)
          | (clear td3; with_reducible refine wpSeq_storeRow 47 (.tmp 9) (.tmp 32) g9 [nilV, nilV] [Value.slice axa nxa cxa, .slice axv nxv cxv] HNN.out.blk rfl info_lvs one_lvs ?_ ?_ ?_ ?_ ?_
             · rfl
             · rfl
             · rfl
             · rfl
             intro w7 sr
             have hb : Below w5.heap.size w5 w7 := HNN.out.below.trans (sr.only.below HNN.out.ge HNN.out.below.size)
             have H9 : Hid (Blk w7 g9 [Value.slice axa nxa cxa, .slice axv nxv cxv] 47) := sr.blk
             replace HRX : Hid (ReadsLf w7 (.slice axa nxa cxa) (.slice axv nxv cxv) h) := HRX.out.below hb
             replace HI : Hid (SvI w1 B (.slice ab2 nb2 cb2) (.slice ar nr cr) usr bs psr w7) := HI.out.next hb
             have c9 : w7.cell? ⟨g9, 0, none⟩ = some (.slice axa nxa cxa) := H9.out.cell 0
             clear sr hb HNN))
        by_cases h2 : h.length < 2
        case pos =>
          have hx2 : (nxa : Int) < 2 := by rw [HXA.out, List.length_map]; omega
          have HSD : Hid (sidePg d1 h = wholeL d1 h ∧ restPg d1 h = [] ∧ 0 < (wholeL d1 h).length ∧ (wholeL d1 h).length ≤ 65) := by
            have ho := one_le HHF.out.1.1 h2
            refine ⟨by unfold sidePg; rw [if_pos h2], by unfold restPg; rw [if_pos h2], ?_, ?_⟩ <;> rw [whole_few h2, ho] <;> omega
          clear h2
          have te0 : Hid True := trivial
          have te1 : Hid True := trivial
          have te2 : Hid True := trivial
          go_wp2_with (first
            | (clear te0; with_reducible refine wpSeq_loadW 47 (.tmp 9) g9 0 [Value.slice axa nxa cxa, .slice axv nxv cxv] _ H9.out.range Tryz.underlying47 rfl info_lvs ?_ ?_ ?_ ?_
               · rfl
               · rfl
               · rfl)
            | (clear te1; go_at_call 30; refine (eWhole_any (256 - d1) d1 (by have := HD.out; have := HD1.out; omega) h _ _ _ HHF.out.1 HRX.out (by have := HHF.out.2; omega) (by have := HD.out; have := HD1.out; omega)).mono ?_; rintro e w8 ⟨vw, rfl, ho, hb⟩
               have HRV : Hid (Reads w8 vw (wholeL d1 h)) := ho.reads
               replace HI : Hid (SvI w1 B (.slice ab2 nb2 cb2) (.slice ar nr cr) usr bs psr w8) := HI.out.next hb
               clear ho hb H9 HRX)
            | (clear te2; with_reducible refine wpSeq_appB (.tmp 37) (.tmp 41) B (.slice ab2 nb2 cb2) vw bs (wholeL d1 h) HI.out.b HRV.out HSD.out.2.2.1 (by have := HSD.out.2.2.2; have := HBL.out; omega) HI.out.le ?_ ?_ ?_ ?_ ?_
               · rfl
               · rfl
               · rfl
               · rfl
               intro v9 w9 ho hg
               obtain ⟨a9, c9', hv9⟩ := ho.formP
               obtain ⟨n9, HN9⟩ : ∃ n, Hid (n = (bs ++ wholeL d1 h).length) := ⟨_, rfl⟩
               rw [← HN9.out] at hv9
               subst hv9
               replace HI : Hid (SvI w1 B (.slice a9 n9 c9') (.slice ar nr cr) usr (bs ++ wholeL d1 h) psr w9) := HI.out.appB ho hg
               clear ho hg HRV))
          go_roundw
          case rel => exact ⟨k + 1, a9, n9, c9', ar, nr, cr, usr, by omega, rfl, rfl, by simp, by rw [HNX.out.1, HNX.out.2, HSD.out.1, HSD.out.2.1, List.append_nil]; exact HI.out⟩
          case measure => simp [intOf]; omega
        case neg =>
          have hx2 : ¬ (nxa : Int) < 2 := by rw [HXA.out, List.length_map]; omega
          obtain ⟨dg, HDG⟩ : ∃ z, Hid (z = dig (topPg d1 h)) := ⟨_, rfl⟩
          have HDL : Hid (dg.length = 32) := by show _ = _; rw [HDG.out]; exact len_dig' _
          have HSD : Hid (sidePg d1 h = 3 :: dg ∧ restPg d1 h = saveL d1 h ∧ (saveL d1 h).length ≤ 25601) := by
            refine ⟨by unfold sidePg; rw [if_neg h2, HDG.out], by unfold restPg; rw [if_neg h2], ?_⟩
            have := sv_count HF.out HD.out HL.out on
            rw [← HH.out, ← HD1.out] at this
            unfold restPg at this
            rwa [if_neg h2] at this
          clear h2
          have tf0 : Hid True := trivial
          have tf1 : Hid True := trivial
          have tf2 : Hid True := trivial
          have tf3 : Hid True := trivial
          have tf4 : Hid True := trivial
          have tf5 : Hid True := trivial
          have tf6 : Hid True := trivial
          have tf7 : Hid True := trivial
          go_wp2_with (first
            | (clear tf0; with_reducible refine wpSeq_loadW 47 (.tmp 9) g9 0 [Value.slice axa nxa cxa, .slice axv nxv cxv] _ H9.out.range Tryz.underlying47 rfl info_lvs ?_ ?_ ?_ ?_
               · rfl
               · rfl
               · rfl)
            | (clear tf1; go_at_call 15; refine (HIH.out on _ _ _ (HKK.out _ HI.out.bl) (by rw [← HH.out]; exact HRX.out)).mono ?_; rintro e w8 ⟨vm, usm, rfl, hp, hb⟩
               rw [← HH.out] at hp ⊢
               rw [← HDG.out]
               have hmo := MoI.of HI.out hp
               obtain ⟨gm, cm, hvm, hcm, hce, hon⟩ := hp.row (by rw [save_top]; simp)
               obtain ⟨nm, HNM⟩ : ∃ n, Hid (n = usm.length) := ⟨_, rfl⟩
               rw [← HNM.out] at hvm
               subst hvm
               obtain ⟨Bm, HBM⟩ : ∃ z, Hid (z = w7.heap.size) := ⟨_, rfl⟩
               rw [← HBM.out] at hmo
               have HBB2 : Hid (B ≤ Bm) := by rw [HBM.out]; exact HI.out.le
               have HM : Hid (MoI Bm (.slice ab2 nb2 cb2) (.slice ar nr cr) (.slice (some ⟨gm, 0, none⟩) nm cm) usm (saveL d1 h) w8) := hmo
               replace HI : Hid (SvI w1 B (.slice ab2 nb2 cb2) (.slice ar nr cr) usr bs psr w8) := HI.out.next hb
               have HCM : Hid (nm ≤ cm ∧ ∀ u ∈ usm, u.oneCell' = true) := ⟨by rw [HNM.out]; exact hcm, hon⟩
               clear hmo hp hb hcm hce hon H9 HRX c9)
            | (clear tf2; with_reducible refine wpSeq_allocD ?_ ?_ ?_
               · rfl
               · rfl
               intro g10 w9 nn
               have HNN : Hid (Blk w9 g10 (cb zb32) 40 ∧ w8.heap.size ≤ g10 ∧ Below w8.heap.size w8 w9) := ⟨nn.blk, nn.ge, nn.below⟩
               clear nn)
            | (clear tf3; with_reducible refine wpSeq_storeD (.tmp 10) (.tmp 48) g10 zb32 dg zb32_len HDL.out HNN.out.1 ?_ ?_ ?_ ?_ ?_
               · rfl
               · rfl
               · rfl
               · rfl
               intro w10 h9
               have hb : Below w8.heap.size w8 w10 := HNN.out.2.2.trans (h9.only.below HNN.out.2.1 HNN.out.2.2.size)
               have H10 : Hid (Blk w10 g10 (cb dg) 40) := h9.blk
               replace HI : Hid (SvI w1 B (.slice ab2 nb2 cb2) (.slice ar nr cr) usr bs psr w10) := HI.out.next hb
               replace HM : Hid (MoI Bm (.slice ab2 nb2 cb2) (.slice ar nr cr) (.slice (some ⟨gm, 0, none⟩) nm cm) usm (saveL d1 h) w10) := HM.out.next hb
               clear h9 hb HNN)
            | (clear tf4; with_reducible refine wpSeq_buildY 3 (.const (.int .u8 3)) ?_ ?_ ?_ ?_
               · rfl
               · rfl
               · rfl
               intro g11 w11 hy hge hb
               have HRY : Hid (Reads w11 (.slice (some ⟨g11, 0, none⟩) 1 1) [3]) := blk_reads_y hy
               replace H10 : Hid (Blk w11 g10 (cb dg) 40) := H10.out.below hb H10.out.lt
               replace HI : Hid (SvI w1 B (.slice ab2 nb2 cb2) (.slice ar nr cr) usr bs psr w11) := HI.out.next hb
               replace HM : Hid (MoI Bm (.slice ab2 nb2 cb2) (.slice ar nr cr) (.slice (some ⟨gm, 0, none⟩) nm cm) usm (saveL d1 h) w11) := HM.out.next hb
               clear hy hge hb)
            | (clear tf5; with_reducible refine wpSeq_appB (.tmp 50) (.tmp 51) B (.slice ab2 nb2 cb2) (.slice (some ⟨g11, 0, none⟩) 1 1) bs [3] HI.out.b HRY.out (by decide) (by have := HBL.out; simp; omega) HI.out.le ?_ ?_ ?_ ?_ ?_
               · rfl
               · rfl
               · rfl
               · rfl
               intro v12 w12 ho hg
               obtain ⟨a12, c12, hv12⟩ := ho.formP
               obtain ⟨n12, HN12⟩ : ∃ n : Nat, Hid (n = (bs ++ ([3] : By)).length) := ⟨_, rfl⟩
               rw [← HN12.out] at hv12
               subst hv12
               replace H10 : Hid (Blk w12 g10 (cb dg) 40) := hg.mt.blk H10.out fun e => HI.out.b.ne_blk H10.out (by decide) e
               replace HM : Hid (MoI Bm (.slice a12 n12 c12) (.slice ar nr cr) (.slice (some ⟨gm, 0, none⟩) nm cm) usm (saveL d1 h) w12) := HM.out.appB HI.out.b hg
               replace HI : Hid (SvI w1 B (.slice a12 n12 c12) (.slice ar nr cr) usr (bs ++ [3]) psr w12) := HI.out.appB ho hg
               have HRD : Hid (Reads w12 (.slice (some ⟨g10, 0, none⟩) 32 32) dg) := reads_dig_at HDL.out H10.out.range
               have sd := slice_dig17 g10 0 w12
               clear ho hg HRY H10)
            | (clear tf6; with_reducible refine wpSeq_appB (.tmp 53) (.tmp 54) B (.slice a12 n12 c12) (.slice (some ⟨g10, 0, none⟩) 32 32) (bs ++ [3]) dg HI.out.b HRD.out (by have := HDL.out; omega) (by have := HBL.out; have := HDL.out; simp; omega) HI.out.le ?_ ?_ ?_ ?_ ?_
               · rfl
               · rfl
               · rfl
               · rfl
               intro v13 w13 ho hg
               obtain ⟨a13, c13, hv13⟩ := ho.formP
               obtain ⟨n13, HN13⟩ : ∃ n : Nat, Hid (n = (bs ++ ([3] : By) ++ dg).length) := ⟨_, rfl⟩
               rw [← HN13.out] at hv13
               subst hv13
               replace HM : Hid (MoI Bm (.slice a13 n13 c13) (.slice ar nr cr) (.slice (some ⟨gm, 0, none⟩) nm cm) usm (saveL d1 h) w13) := HM.out.appB HI.out.b hg
               replace HI : Hid (SvI w1 B (.slice a13 n13 c13) (.slice ar nr cr) usr (bs ++ [3] ++ dg) psr w13) := HI.out.appB ho hg
               have HCE : Hid (∀ j u, usm[j]? = some u → w13.cell? ⟨gm, 0 + j, none⟩ = some u) := row_cells HM.out.m
               clear ho hg HRD sd)
            | (clear tf7; with_reducible refine wpSeq_appXs (.tmp 56) (.tmp 57) B (.slice ar nr cr) usr usm gm 0 nm cm HI.out.r.own HNM.out.symm HCM.out.1 HCE.out HCM.out.2 (by have h1 := HI.out.r.len; have h2 := HPL.out; have h3 := HM.out.m.len; have h4 := HSD.out.2.2; have h5 := HNM.out; omega) HI.out.le ?_ ?_ ?_ ?_ ?_
               · rfl
               · rfl
               · rfl
               · rfl
               intro v14 w14 ho hg
               obtain ⟨a14, c14, hv14⟩ := ho.form
               obtain ⟨n14, HN14⟩ : ∃ n, Hid (n = (usr ++ usm).length) := ⟨_, rfl⟩
               rw [← HN14.out] at hv14
               subst hv14
               replace HI : Hid (SvI w1 B (.slice a13 n13 c13) (.slice a14 n14 c14) (usr ++ usm) (bs ++ [3] ++ dg) (psr ++ saveL d1 h) w14) := HI.out.appR ho hg HM.out.m.len (HM.out.good HBB2.out)
               clear ho hg HM HCE))
          go_roundw
          case rel => exact ⟨k + 1, a13, n13, c13, a14, n14, c14, usr ++ usm, by omega, rfl, rfl, by simp, by rw [HNX.out.1, HNX.out.2, HSD.out.1, HSD.out.2.1, show bs ++ 3 :: dg = bs ++ [3] ++ dg by simp]; exact HI.out⟩
          case measure => simp [intOf]; omega
      case neg =>
        have hke : k = 2 := by omega
        subst hke
        have HT : Hid (saveL d l = svB d l 2 :: svP d l 2 ∧ topPg d l = svB d l 2) := ⟨save_more HD.out HLG.out, top_more HD.out HLG.out⟩
        have HPP : Hid (0 < (svP d l 2).length) := sv_some HF.out HLG.out
        have HPL : Hid ((svP d l 2).length ≤ 51202) := sv_most HF.out HD.out HL.out 2
        have HBL : Hid ((svB d l 2).length ≤ 131) := sv_len HF.out 2
        obtain ⟨bs, HBS⟩ : ∃ z, Hid (z = svB d l 2) := ⟨_, rfl⟩
        obtain ⟨psr, HPS⟩ : ∃ z, Hid (z = svP d l 2) := ⟨_, rfl⟩
        rw [← HBS.out] at HBL HT HI
        rw [← HPS.out] at HPL HPP HT HI
        obtain ⟨dg, HDG⟩ : ∃ z, Hid (z = dig bs) := ⟨_, rfl⟩
        have HDL : Hid (dg.length = 32) := by show _ = _; rw [HDG.out]; exact len_dig' _
        obtain ⟨gr, cr2, hvr, hcr, hce, hon⟩ := HI.out.r.row HPP.out
        obtain ⟨nr2, HNR⟩ : ∃ n, Hid (n = usr.length) := ⟨_, rfl⟩
        rw [← HNR.out] at hvr
        simp only [Value.slice.injEq] at hvr
        obtain ⟨rfl, rfl, rfl⟩ := hvr
        have HCM : Hid (nr ≤ cr ∧ ∀ u ∈ usr, u.oneCell' = true) := ⟨by rw [HNR.out]; exact hcr, hon⟩
        clear hcr hce hon
        have HLE : Hid (B ≤ wr.heap.size) := HI.out.le
        have tg0 : Hid True := trivial
        have tg1 : Hid True := trivial
        have tg2 : Hid True := trivial
        have tg3 : Hid True := trivial
        go_wp2_with (first
          | (clear tg0; with_reducible refine wpSeq_buildX (.tmp 59) ab2 nb2 cb2 ?_ ?_ ?_ ?_
             · rfl
             · rfl
             · rfl
             intro g12 w5 hy hge hb
             have HOU : Hid (wr.heap.size ≤ g12 ∧ Blk w5 g12 [.slice ab2 nb2 cb2] 49 ∧ ∀ k, k < wr.heap.size → k ≠ g12) := ⟨hge, hy, fun k hk e => by omega⟩
             have HLB : Hid ((∀ k, (Value.slice ab2 nb2 cb2).ownBlock = some k → k < g12) ∧ ∀ (j : Nat) (u : Value), usr[j]? = some u → ∀ k, u.ownBlock = some k → k < g12) := ⟨fun k hk => Nat.lt_of_lt_of_le (HI.out.b.ltP k hk).2 hge, fun j u hj k hk => Nat.lt_of_lt_of_le ((HI.out.r.good j u hj).2 k hk).1 hge⟩
             replace HI : Hid (SvI w1 B (.slice ab2 nb2 cb2) (.slice (some ⟨gr, 0, none⟩) nr cr) usr bs psr w5) := HI.out.next hb
             have HOP : Hid (PgS w5 B (.slice (some ⟨g12, 0, none⟩) 1 1) [.slice ab2 nb2 cb2] [bs] (fun k => k < B)) := ⟨blk_own_x hy (Nat.le_trans HLE.out hge), rfl, fun j u hj => by
               match j, hj with
               | 0, hj => cases hj; exact ⟨HI.out.b.reads, fun k hk => ⟨(HI.out.b.ltP k hk).2, fun e => by have h1 := HLB.out.1 k hk; simp only [Value.ownBlock, Option.some.injEq] at e; omega, by have h1 := (HI.out.b.ltP k hk).1; omega⟩⟩
               | _ + 1, hj => simp at hj⟩
             clear hy hge hb HOU)
          | (clear tg1; go_at_call 13; refine (rOf_any _ bs _ HI.out.b.reads (by have := HBL.out; omega)).mono ?_; rintro e w6 ⟨rfl, hb⟩
             rw [← HDG.out]
             replace HI : Hid (SvI w1 B (.slice ab2 nb2 cb2) (.slice (some ⟨gr, 0, none⟩) nr cr) usr bs psr w6) := HI.out.next hb
             replace HOP : Hid (PgS w6 B (.slice (some ⟨g12, 0, none⟩) 1 1) [.slice ab2 nb2 cb2] [bs] (fun k => k < B)) := HOP.out.next hb
             have HCE : Hid (∀ j u, usr[j]? = some u → w6.cell? ⟨gr, 0 + j, none⟩ = some u) := row_cells HI.out.r
             clear hb)
          | (clear tg2; with_reducible refine wpSeq_appXs (.tmp 63) (.tmp 64) B (.slice (some ⟨g12, 0, none⟩) 1 1) [.slice ab2 nb2 cb2] usr gr 0 nr cr HOP.out.own HNR.out.symm HCM.out.1 HCE.out HCM.out.2 (by have h1 := HI.out.r.len; have h2 := HPL.out; have h3 := HNR.out; simp; omega) HI.out.le ?_ ?_ ?_ ?_ ?_
             · rfl
             · rfl
             · rfl
             · rfl
             intro v7 w7 ho hg
             have HZ : Hid (PgS w7 B v7 ([.slice ab2 nb2 cb2] ++ usr) ([bs] ++ psr) (fun k => k < B)) := HOP.out.mores ho hg HI.out.r.len fun j u hj => ⟨(HI.out.r.good j u hj).1, fun k hk => ⟨((HI.out.r.good j u hj).2 k hk).1, (fun e => by have h1 := HLB.out.2 j u hj k hk; simp only [Value.ownBlock, Option.some.injEq] at e; omega), fun e => ((HI.out.r.good j u hj).2 k hk).2.2 (Or.inl e)⟩⟩
             have HBZ : Hid (Below B w1 w7) := HI.out.bl.trans (hg.below HI.out.le fun k hk => (HOP.out.own.lt k hk).1)
             have HLZ : Hid (B ≤ w7.heap.size) := Nat.le_trans HI.out.le hg.mt.size
             have H4 : Hid (Blk w7 g4 (cb zb32) 40) := H4W.out _ HBZ.out
             clear ho hg HI HOP HCE)
          | (clear tg3; with_reducible refine wpSeq_storeD (.tmp 4) (.tmp 62) g4 zb32 dg zb32_len HDL.out H4.out ?_ ?_ ?_ ?_ ?_
             · rfl
             · rfl
             · rfl
             · rfl
             intro w8 h9
             have HN4 : Hid (Blk w8 g4 (cb dg) 40) := h9.blk
             have HO8 : Hid (Only g4 w7 w8) := h9.only
             clear h9))
        refine bodyPost_ret (results_row_tmp (by rfl) _ _ _ g4 40 (cb dg) _ v7 rfl rfl HN4.out Tryz.underlying40 rfl (by rw [cb_len, HDL.out]; exact info_digest)) rfl ?_
        have hB1 : w.heap.size ≤ B := by rw [HBB.out]; exact HB1.out.size
        refine ⟨v7, [.slice ab2 nb2 cb2] ++ usr, by rw [HDG.out, HT.out.2], ?_, HB1.out.trans ((HBZ.out.mono hB1).trans (HO8.out.below HG4.out (Nat.le_trans hB1 HLZ.out)))⟩
        rw [HT.out.1]
        exact ((HZ.out.only (show g4 < B from H4L.out.1) (fun e => by have h1 := (HZ.out.own.lt g4 e).1; have h2 := H4L.out.1; omega) HO8.out).weak fun k _ h => by have h1 := h; omega).lower hB1
theorem eSave_any : ∀ (f d : Nat), 256 ≤ d + f → ∀ (l : List Lf) (va vv : Value) (w : World), KOk w → Fits l d → ReadsLf w va vv l → l.length ≤ 100 → d ≤ 256 →
    Calls Tryz.prog 15 #[.agg #[va, vv], .int .i64 (d : Int)] w (SvR w d l) := by
  intro f
  induction f with
  | zero => exact fun d hf l va vv w hK hF hR hl hd => eSave_step l d va vv w hK hF hR hl hd fun h2 => absurd h2 (by omega)
  | succ f ih => exact fun d hf l va vv w hK hF hR hl hd => eSave_step l d va vv w hK hF hR hl hd fun h2 on xa xv W hK hx => ih (d + 1) (by omega) (halfL l d on) xa xv W hK (hF.half on) hx (Nat.le_trans (half_le l d on) hl) h2
end Go.Proofs.YtphmmnffgknkcabGreatDoor
namespace Go.Proofs.YtphmmnffgknkcabGreatDoor
open Go.RowKit
set_option maxRecDepth 100000
theorem wpSeq_idxQ17 {ops : Array Oper} {Q : Exit → Act → World → Prop} {rest : List Oper} {o : Oper} {a : Act} {w : World} (x y : Operand) (b off n c k : Nat) (hk : k < n) (ho : o.op = .indexAddr 26 x y) (hx : a.eval x = .slice (some ⟨b, off, none⟩) n c) (hy : a.eval y = .int .i64 (k : Int)) (hw : Region.wanted o (yielded ops a.tmps) = true)
    (h : wpList Tryz.prog ops Q rest (a.put o.dst (.pointer (some ⟨b, off + k, none⟩))) w) : wpList Tryz.prog ops Q (o :: rest) a w :=
  wpSeq_val _ _ hw (idxQ b off n c k hk _ _ x y ho hx hy w) h
theorem eSave_zero (l : List Lf) (va vv : Value) (w : World) (hK : KOk w) (hF : Fits l 0) (hR : ReadsLf w va vv l) (hl : l.length ≤ 100) : Calls Tryz.prog 15 #[.agg #[va, vv], .int .i64 0] w (SvR w 0 l) :=
  eSave_any 256 0 (by omega) l va vv w hK hF hR hl (by omega)
end Go.Proofs.YtphmmnffgknkcabGreatDoor
namespace Go.Proofs.YtphmmnffgknkcabGreatDoor
open Go.RowKit
set_option maxRecDepth 100000
theorem idxD17 (b off cap n k : Nat) (hk : k < n) (f : Operand → Value) (o : Oper) (x y : Operand) (ho : o.op = .indexAddr 22 x y) (hx : f x = .slice (some ⟨b, off, none⟩) n cap) (hy : f y = .int .i64 (k : Int)) (w : World) :
    (execOp f o).run Tryz.prog w = .ok (.value (.pointer (some ⟨b, off + k * 32, none⟩))) w := by
  have k0 : (0 : Int) ≤ (k : Int) := by omega
  have k1 : (k : Int) < (n : Int) := by omega
  unfold execOp
  rw [ho]
  simp [go_sem, hx, hy, k0, k1, Addr.add_mid]
def Apart17 (ls : List By) : Prop := ∀ i j, i < ls.length → j < i → dig (ls.getD j []) = dig (ls.getD i []) → ls.getD j [] = ls.getD i []
theorem apart_mem {ls : List By} (h : Apart17 ls) : ∀ p ∈ ls, ∀ q ∈ ls, dig p = dig q → p = q := by
  intro p hp q hq he
  obtain ⟨i, hi, rfl⟩ := mem_getD.1 hp
  obtain ⟨j, hj, rfl⟩ := mem_getD.1 hq
  rcases Nat.lt_trichotomy i j with h1 | h1 | h1
  · exact h j i hj h1 he
  · rw [h1]
  · exact (h i j hi h1 he.symm).symm
theorem getD_take {α : Type} (l : List α) (n j : Nat) (z : α) (h : j < n) : (l.take n).getD j z = l.getD j z := by
  rw [List.getD_eq_getElem?_getD, List.getD_eq_getElem?_getD, List.getElem?_take_of_lt h]
theorem apart_more {ls : List By} {i : Nat} (h : Apart17 (ls.take i)) (hn : ∀ j, j < i → dig (ls.getD j []) = dig (ls.getD i []) → ls.getD j [] = ls.getD i []) : Apart17 (ls.take (i + 1)) := by
  intro a b ha hb he
  rw [List.length_take] at ha
  rw [getD_take _ _ _ _ (by omega), getD_take _ _ _ _ (by omega)] at he ⊢
  rcases Nat.lt_or_ge a i with h1 | h1
  · have := h a b (by rw [List.length_take]; omega) hb
    rw [getD_take _ _ _ _ (by omega), getD_take _ _ _ _ (by omega)] at this
    exact this he
  · have : a = i := by omega
    subst this
    exact hn b hb he
set_option maxRecDepth 100000 in
set_option maxHeartbeats 8000000 in
theorem any9_any (vl : Value) (ls : List By) (w : World) (hL : ReadsL w vl ls) (hl : ∀ p ∈ ls, p.length < 140737488355000) (hn : ls.length < 1000000) :
    Calls Tryz.prog 7 #[vl] w fun e w' => ∃ t : Bool, e = .returned (.bool t) ∧ (t = false → Apart17 ls) ∧ Below w.heap.size w w' := by
  have HLS : Hid (∀ p ∈ ls, p.length < 140737488355000) := hl
  obtain ⟨ad, cap, hv, _, _, hx⟩ := hL
  obtain ⟨n, HN⟩ : ∃ n, Hid (n = ls.length) := ⟨_, rfl⟩
  rw [← HN.out] at hv
  subst hv
  have HX : Hid (0 < ls.length → ∃ b off, ad = some ⟨b, off, none⟩ ∧ ∀ j, j < ls.length → ∃ vj, w.cell? ⟨b, off + j, none⟩ = some vj ∧ Reads w vj (ls.getD j [])) := hx
  have HNN : Hid (n < 1000000) := by show _ < _; rw [HN.out]; exact hn
  clear hx hl hn
  go_enter Tryz.func7, Tryz.ntmps7
  go_wp2
  go_loopw [3, 4] (fun v i wr => ∃ (k : Nat) (av : Option Addr) (nv cv : Nat), k ≤ n ∧ v = .slice av nv cv ∧ i = .int .i64 k ∧ Hid (OwnD wr w.heap.size (.slice av nv cv) ((ls.take k).map dig)) ∧ Hid (Apart17 (ls.take k)) ∧ Hid (Below w.heap.size w wr)) (fun _ i _ => n - (intOf i).toNat)
  case atStart => exact ⟨0, none, 0, 0, Nat.zero_le _, rfl, rfl, OwnD.nil _ _, (fun i j hi => by simp at hi), Below.refl _ _⟩
  case round =>
    obtain ⟨i, av, nv, cv, hi, rfl, rfl, HO, HAP, HBW⟩ := hrel
    by_cases hlt : i < n
    case pos =>
      have hli : (i : Int) < (n : Int) := by omega
      have fi : IntKind.i64.wrap ((i : Int) + 1) = (i : Int) + 1 := by rw [IntKind.wrap_i64]; have := HNN.out; omega
      have HIL : Hid (i < ls.length) := by show _ < _; rw [← HN.out]; exact hlt
      obtain ⟨bb, off, rfl, hat⟩ := HX.out (by have := HIL.out; omega)
      have HAT : Hid (∀ j, j < ls.length → ∃ aj nj cj, nj = (ls.getD j []).length ∧ ∀ wx, Below w.heap.size w wx → wx.cell? ⟨bb, off + j, none⟩ = some (.slice aj nj cj) ∧ Reads wx (.slice aj nj cj) (ls.getD j [])) := fun j hj => by
        obtain ⟨vj, hc, hr⟩ := hat j hj
        obtain ⟨aj, cj, rfl, _⟩ := id hr
        exact ⟨aj, _, cj, rfl, fun wx hx => ⟨by rw [hx.cell (p := ⟨bb, off + j, none⟩) (block_lt_of_cell hc)]; exact hc, hr.below hx⟩⟩
      clear hat HX
      obtain ⟨p, HP⟩ : ∃ z, Hid (z = ls.getD i []) := ⟨_, rfl⟩
      obtain ⟨a1, n1, c1, hn1, h1⟩ := HAT.out i HIL.out
      rw [← HP.out] at h1
      have HCE : Hid (∀ wx, Below w.heap.size w wx → wx.cell? ⟨bb, off + i, none⟩ = some (.slice a1 n1 c1)) := fun wx hx => (h1 wx hx).1
      have HRP : Hid (∀ wx, Below w.heap.size w wx → Reads wx (.slice a1 n1 c1) p) := fun wx hx => (h1 wx hx).2
      clear hn1 h1
      have HPL : Hid (p.length < 140737488355000) := HLS.out p (by rw [HP.out, List.getD_eq_getElem?_getD, List.getElem?_eq_getElem HIL.out]; exact List.getElem_mem HIL.out)
      obtain ⟨dp, HDP⟩ : ∃ z, Hid (z = dig p) := ⟨_, rfl⟩
      have HDPL : Hid (dp.length = 32) := by show _ = _; rw [HDP.out]; exact len_dig' _
      obtain ⟨D, HDD⟩ : ∃ z, Hid (z = (ls.take (i + 1)).map dig) := ⟨_, rfl⟩
      have HDS : Hid (D = (ls.take i).map dig ++ [dp]) := by
        show _ = _
        rw [HDD.out, HDP.out, HP.out, List.take_add_one, List.getElem?_eq_getElem HIL.out, List.getD_eq_getElem?_getD, List.getElem?_eq_getElem HIL.out, List.map_append, Option.toList_some, List.map_cons, List.map_nil, Option.getD_some]
      have HDL : Hid (D.length = i + 1) := by show _ = _; rw [HDD.out, List.length_map, List.length_take]; have := HIL.out; omega
      have HDJ : Hid (∀ j, j < i + 1 → D.getD j [] = dig (ls.getD j [])) := fun j hj => by
        rw [HDD.out, List.getD_eq_getElem?_getD, List.getElem?_map, List.getElem?_take_of_lt hj, List.getD_eq_getElem?_getD, List.getElem?_eq_getElem (by have := HIL.out; omega : j < ls.length), Option.map_some, Option.getD_some, Option.getD_some]
      have HTL : Hid (((ls.take i).map dig).length < 2000000) := by show _ < _; rw [List.length_map, List.length_take]; have := HNN.out; omega
      obtain ⟨D0, HD0⟩ : ∃ z, Hid (z = (ls.take i).map dig) := ⟨_, rfl⟩
      rw [← HD0.out] at HO HDS HTL
      have hcw : wr.cell? ⟨bb, off + i, none⟩ = some (.slice a1 n1 c1) := HCE.out wr HBW.out
      have tk0 : Hid True := trivial
      have tk1 : Hid True := trivial
      have tk2 : Hid True := trivial
      have tk3 : Hid True := trivial
      go_wp2_with (first
        | (clear tk0; with_reducible refine wpSeq_idxQ17 (.tmp 13) (.tmp 14) bb off n cap i hlt ?_ ?_ ?_ ?_ ?_
           · rfl
           · rfl
           · rfl
           · rfl
           skip)
        | (clear tk1; go_at_call 13; refine (rOf_big _ p _ (HRP.out _ HBW.out) HPL.out).mono ?_; rintro e w5 ⟨rfl, hb⟩
           rw [← HDP.out]
           replace HO : Hid (OwnD w5 w.heap.size (.slice av nv cv) D0) := HO.out.keep fun j _ hj => hb.block j hj
           replace HBW : Hid (Below w.heap.size w w5) := HBW.out.trans (hb.mono HBW.out.size)
           clear hb)
        | (clear tk2; with_reducible refine wpSeq_buildD (.tmp 17) dp HDPL.out ?_ ?_ ?_ ?_
           · rfl
           · rfl
           · rfl
           intro g8 w8 n8
           replace HO : Hid (OwnD w8 w.heap.size (.slice av nv cv) D0) := HO.out.keep fun j _ hj => n8.below.block j hj
           replace HBW : Hid (Below w.heap.size w w8) := HBW.out.trans (n8.below.mono HBW.out.size)
           have H8 : Hid (Blk w8 g8 (cb dp) 40) := n8.blk
           clear n8)
        | (clear tk3; with_reducible refine wpSeq_appendD (.tmp 12) (.tmp 18) w.heap.size (.slice av nv cv) D0 dp g8 HO.out H8.out HDPL.out HTL.out HBW.out.size ?_ ?_ ?_ ?_ ?_
           · rfl
           · rfl
           · rfl
           · rfl
           intro vv9 wz o9 g9
           have HO9 : Hid (OwnD wz w.heap.size vv9 D) := by rw [HDS.out]; exact o9
           have HBZ : Hid (Below w.heap.size w wz) := HBW.out.trans g9.below
           clear o9 g9 HO H8))
      obtain ⟨bD, oD, cD, hvD, hatD⟩ := HO9.out.readsD.at (by have := HDL.out; omega)
      rw [HDL.out] at hvD
      subst hvD
      have HRD : Hid (∀ W, Below wz.heap.size wz W → ∀ j, j < i + 1 → W.rangeAt bD (oD + j * 32) (cb (D.getD j []))) := fun W hW j hj =>
        rangeAt_below (hatD j (by have := HDL.out; omega)) hW (range_lt (hatD j (by have := HDL.out; omega)) (by rw [cb_len, HDJ.out j hj, len_dig']; omega))
      have HBZZ : Hid (∀ W, Below wz.heap.size wz W → Below w.heap.size w W) := fun W hW => HBZ.out.trans (hW.mono HBZ.out.size)
      have HOK : Hid (∀ W, Below wz.heap.size wz W → OwnD W w.heap.size (.slice (some ⟨bD, oD, none⟩) (i + 1) cD) D) := fun W hW => HO9.out.keep fun j _ hj => hW.block j hj
      clear hatD hcw HO9
      go_loopw [5] (fun q w2 => ∃ k : Nat, k ≤ i ∧ q = .int .i64 k ∧ Hid (∀ j, j < k → dig (ls.getD j []) = dp → ls.getD j [] = p) ∧ Hid (Below wz.heap.size wz w2)) (fun q _ => i - (intOf q).toNat)
      case atStart => exact ⟨0, Nat.zero_le _, rfl, (fun j hj => by omega), Below.refl _ _⟩
      case round =>
        rename World => wq
        obtain ⟨k, hk, rfl, HJ, HBQ⟩ := hrel
        by_cases hki : k < i
        case pos =>
          have hlk : (k : Int) < (i : Int) := by omega
          have fk : IntKind.i64.wrap ((k : Int) + 1) = (k : Int) + 1 := by rw [IntKind.wrap_i64]; have := HNN.out; omega
          obtain ⟨a2, n2, c2, hn2, h2⟩ := HAT.out k (by have := HIL.out; omega)
          obtain ⟨q, HQ⟩ : ∃ z, Hid (z = ls.getD k []) := ⟨_, rfl⟩
          rw [← HQ.out] at h2
          have HC2 : Hid (∀ wx, Below w.heap.size w wx → wx.cell? ⟨bb, off + k, none⟩ = some (.slice a2 n2 c2)) := fun wx hx => (h2 wx hx).1
          have HR2 : Hid (∀ wx, Below w.heap.size w wx → Reads wx (.slice a2 n2 c2) q) := fun wx hx => (h2 wx hx).2
          clear hn2 h2
          obtain ⟨dk, HDK⟩ : ∃ z, Hid (z = dig q) := ⟨_, rfl⟩
          have HDKL : Hid (dk.length = 32) := by show _ = _; rw [HDK.out]; exact len_dig' _
          have HRK : Hid (∀ W, Below wz.heap.size wz W → W.rangeAt bD (oD + k * 32) (cb dk)) := fun W hW => by have := HRD.out W hW k (by omega); rw [HDJ.out k (by omega), ← HQ.out, ← HDK.out] at this; exact this
          have HRI : Hid (∀ W, Below wz.heap.size wz W → W.rangeAt bD (oD + i * 32) (cb dp)) := fun W hW => by have := HRD.out W hW i (by omega); rw [HDJ.out i (by omega), ← HP.out, ← HDP.out] at this; exact this
          obtain ⟨c1b, HCB⟩ : ∃ z, Hid (z = decide (dk = dp)) := ⟨_, rfl⟩
          obtain ⟨c2b, HCC⟩ : ∃ z, Hid (z = decide (q ≠ p)) := ⟨_, rfl⟩
          have HEQ : Hid ((!((strB q).toList == (strB p).toList)) = c2b) := by show _ = _; rw [strB_inj, HCC.out]; by_cases h : q = p <;> simp [h]
          have HNX : Hid ((c1b && c2b) = false → ∀ j, j < k + 1 → dig (ls.getD j []) = dp → ls.getD j [] = p) := fun hf j hj he => by
            rcases Nat.lt_or_ge j k with h1 | h1
            · exact HJ.out j h1 he
            · have : j = k := by omega
              subst this
              rw [← HQ.out] at he ⊢
              rw [HCB.out, HCC.out, decide_eq_true (by rw [HDK.out]; exact he)] at hf
              simpa using hf
          cases c1b with
          | false =>
            have HN2 : Hid (∀ j, j < k + 1 → dig (ls.getD j []) = dp → ls.getD j [] = p) := HNX.out rfl
            go_wp2
            refine wp_region_held_drew (S := fun W => W = wq.drew) (by kernel_rfl) rfl ?_
            intro hS
            have HBQ2 : Hid (Below wz.heap.size wz wq.drew) := HBQ.out.drew
            obtain ⟨y, HY⟩ : ∃ z, z = wq.drew := ⟨_, rfl⟩
            rw [← HY] at HBQ2 hS ⊢
            refine wpAnyH_take (i := 0) (v := .slice (some ⟨bD, oD, none⟩) (i + 1) cD) rfl (by kernel_rfl) (by kernel_rfl) (by kernel_rfl) (fun _ _ _ h => h) (Or.inl ⟨by rfl, fun wx hx => by simp [go_sem]⟩) hS ?_
            simp only [Act.put, List.getElem_toArray, List.getElem_cons_zero, List.setIfInBounds_toArray, List.set_cons_zero, List.set_cons_succ]
            refine wpAnyH_take (i := 1) (v := .int .i64 (k : Int)) rfl (by kernel_rfl) (by kernel_rfl) (by kernel_rfl) (fun _ _ _ h => h) (Or.inl ⟨by rfl, fun wx hx => by simp [go_sem]⟩) hS ?_
            simp only [Act.put, List.getElem_toArray, List.getElem_cons_succ, List.getElem_cons_zero, List.setIfInBounds_toArray, List.set_cons_zero, List.set_cons_succ]
            refine wpAnyH_take (i := 2) (v := .pointer (some ⟨bD, oD + k * 32, none⟩)) rfl (by kernel_rfl) (by kernel_rfl) (by kernel_rfl) (fun _ _ _ h => h) (Or.inl ⟨by rfl, fun wx hx => by exact idxD17 bD oD cD (i + 1) k (by omega) _ _ _ _ rfl rfl rfl _⟩) hS ?_
            simp only [Act.put, List.getElem_toArray, List.getElem_cons_succ, List.getElem_cons_zero, List.setIfInBounds_toArray, List.set_cons_zero, List.set_cons_succ]
            refine wpAnyH_take (i := 3) (v := .agg (cb dk).toArray) rfl (by kernel_rfl) (by kernel_rfl) (by kernel_rfl) (fun _ _ _ h => h) (Or.inl ⟨by rfl, fun wx hx => by (rw [hx]; have hr := HRK.out _ HBQ2.out; exact load_run 40 _ rfl _ _ rfl (cb dk) _ hr Tryz.underlying40 rfl (by rw [cb_len, HDKL.out]; exact info_digest))⟩) hS ?_
            simp only [Act.put, List.getElem_toArray, List.getElem_cons_succ, List.getElem_cons_zero, List.setIfInBounds_toArray, List.set_cons_zero, List.set_cons_succ]
            refine wpAnyH_take (i := 4) (v := .slice (some ⟨bD, oD, none⟩) (i + 1) cD) rfl (by kernel_rfl) (by kernel_rfl) (by kernel_rfl) (fun _ _ _ h => h) (Or.inl ⟨by rfl, fun wx hx => by simp [go_sem]⟩) hS ?_
            simp only [Act.put, List.getElem_toArray, List.getElem_cons_succ, List.getElem_cons_zero, List.setIfInBounds_toArray, List.set_cons_zero, List.set_cons_succ]
            refine wpAnyH_take (i := 5) (v := .int .i64 (i : Int)) rfl (by kernel_rfl) (by kernel_rfl) (by kernel_rfl) (fun _ _ _ h => h) (Or.inl ⟨by rfl, fun wx hx => by simp [go_sem]⟩) hS ?_
            simp only [Act.put, List.getElem_toArray, List.getElem_cons_succ, List.getElem_cons_zero, List.setIfInBounds_toArray, List.set_cons_zero, List.set_cons_succ]
            refine wpAnyH_take (i := 6) (v := .pointer (some ⟨bD, oD + i * 32, none⟩)) rfl (by kernel_rfl) (by kernel_rfl) (by kernel_rfl) (fun _ _ _ h => h) (Or.inl ⟨by rfl, fun wx hx => by exact idxD17 bD oD cD (i + 1) i (by omega) _ _ _ _ rfl rfl rfl _⟩) hS ?_
            simp only [Act.put, List.getElem_toArray, List.getElem_cons_succ, List.getElem_cons_zero, List.setIfInBounds_toArray, List.set_cons_zero, List.set_cons_succ]
            refine wpAnyH_take (i := 7) (v := .agg (cb dp).toArray) rfl (by kernel_rfl) (by kernel_rfl) (by kernel_rfl) (fun _ _ _ h => h) (Or.inl ⟨by rfl, fun wx hx => by (rw [hx]; have hr := HRI.out _ HBQ2.out; exact load_run 40 _ rfl _ _ rfl (cb dp) _ hr Tryz.underlying40 rfl (by rw [cb_len, HDPL.out]; exact info_digest))⟩) hS ?_
            simp only [Act.put, List.getElem_toArray, List.getElem_cons_succ, List.getElem_cons_zero, List.setIfInBounds_toArray, List.set_cons_zero, List.set_cons_succ]
            refine wpAnyH_take (i := 8) (v := .bool false) rfl (by kernel_rfl) (by kernel_rfl) (by kernel_rfl) (fun _ _ _ h => h) (Or.inl ⟨by rfl, fun wx hx => by (have hq := eq_dig dk dp HDKL.out HDPL.out wx; rw [← HCB.out] at hq; simp [go_sem, hq])⟩) hS ?_
            simp only [Act.put, List.getElem_toArray, List.getElem_cons_succ, List.getElem_cons_zero, List.setIfInBounds_toArray, List.set_cons_zero, List.set_cons_succ]
            refine wpAnyH_take (i := 9) (v := .bool false) rfl (by kernel_rfl) (by kernel_rfl) (by kernel_rfl) (fun _ _ _ h => h) (Or.inl ⟨by rfl, fun wx hx => by simp [go_sem]⟩) hS ?_
            simp only [Act.put, List.getElem_toArray, List.getElem_cons_succ, List.getElem_cons_zero, List.setIfInBounds_toArray, List.set_cons_zero, List.set_cons_succ]
            refine wpAnyH_take (i := 10) (v := undef) rfl (by kernel_rfl) (by kernel_rfl) (by kernel_rfl) (fun _ _ _ h => h) (Or.inr ⟨by rfl, rfl⟩) hS ?_
            simp only [Act.put, List.getElem_toArray, List.getElem_cons_succ, List.getElem_cons_zero, List.setIfInBounds_toArray, List.set_cons_zero, List.set_cons_succ]
            refine wpAnyH_take (i := 11) (v := undef) rfl (by kernel_rfl) (by kernel_rfl) (by kernel_rfl) (fun _ _ _ h => h) (Or.inr ⟨by rfl, rfl⟩) hS ?_
            simp only [Act.put, List.getElem_toArray, List.getElem_cons_succ, List.getElem_cons_zero, List.setIfInBounds_toArray, List.set_cons_zero, List.set_cons_succ]
            refine wpAnyH_take (i := 12) (v := undef) rfl (by kernel_rfl) (by kernel_rfl) (by kernel_rfl) (fun _ _ _ h => h) (Or.inr ⟨by rfl, rfl⟩) hS ?_
            simp only [Act.put, List.getElem_toArray, List.getElem_cons_succ, List.getElem_cons_zero, List.setIfInBounds_toArray, List.set_cons_zero, List.set_cons_succ]
            refine wpAnyH_take (i := 13) (v := undef) rfl (by kernel_rfl) (by kernel_rfl) (by kernel_rfl) (fun _ _ _ h => h) (Or.inr ⟨by rfl, rfl⟩) hS ?_
            simp only [Act.put, List.getElem_toArray, List.getElem_cons_succ, List.getElem_cons_zero, List.setIfInBounds_toArray, List.set_cons_zero, List.set_cons_succ]
            refine wpAnyH_take (i := 14) (v := undef) rfl (by kernel_rfl) (by kernel_rfl) (by kernel_rfl) (fun _ _ _ h => h) (Or.inr ⟨by rfl, rfl⟩) hS ?_
            simp only [Act.put, List.getElem_toArray, List.getElem_cons_succ, List.getElem_cons_zero, List.setIfInBounds_toArray, List.set_cons_zero, List.set_cons_succ]
            refine wpAnyH_take (i := 15) (v := undef) rfl (by kernel_rfl) (by kernel_rfl) (by kernel_rfl) (fun _ _ _ h => h) (Or.inr ⟨by rfl, rfl⟩) hS ?_
            simp only [Act.put, List.getElem_toArray, List.getElem_cons_succ, List.getElem_cons_zero, List.setIfInBounds_toArray, List.set_cons_zero, List.set_cons_succ]
            refine wpAnyH_take (i := 16) (v := undef) rfl (by kernel_rfl) (by kernel_rfl) (by kernel_rfl) (fun _ _ _ h => h) (Or.inr ⟨by rfl, rfl⟩) hS ?_
            simp only [Act.put, List.getElem_toArray, List.getElem_cons_succ, List.getElem_cons_zero, List.setIfInBounds_toArray, List.set_cons_zero, List.set_cons_succ]
            refine wpAnyH_take (i := 17) (v := undef) rfl (by kernel_rfl) (by kernel_rfl) (by kernel_rfl) (fun _ _ _ h => h) (Or.inr ⟨by rfl, rfl⟩) hS ?_
            simp only [Act.put, List.getElem_toArray, List.getElem_cons_succ, List.getElem_cons_zero, List.setIfInBounds_toArray, List.set_cons_zero, List.set_cons_succ]
            refine wpAnyH_take (i := 18) (v := undef) rfl (by kernel_rfl) (by kernel_rfl) (by kernel_rfl) (fun _ _ _ h => h) (Or.inr ⟨by rfl, rfl⟩) hS ?_
            simp only [Act.put, List.getElem_toArray, List.getElem_cons_succ, List.getElem_cons_zero, List.setIfInBounds_toArray, List.set_cons_zero, List.set_cons_succ]
            refine wpAnyH_take (i := 19) (v := undef) rfl (by kernel_rfl) (by kernel_rfl) (by kernel_rfl) (fun _ _ _ h => h) (Or.inr ⟨by rfl, rfl⟩) hS ?_
            simp only [Act.put, List.getElem_toArray, List.getElem_cons_succ, List.getElem_cons_zero, List.setIfInBounds_toArray, List.set_cons_zero, List.set_cons_succ]
            refine wpAnyH_take (i := 20) (v := undef) rfl (by kernel_rfl) (by kernel_rfl) (by kernel_rfl) (fun _ _ _ h => h) (Or.inr ⟨by rfl, rfl⟩) hS ?_
            simp only [Act.put, List.getElem_toArray, List.getElem_cons_succ, List.getElem_cons_zero, List.setIfInBounds_toArray, List.set_cons_zero, List.set_cons_succ]
            refine wpAnyH_take (i := 21) (v := .bool false) rfl (by kernel_rfl) (by kernel_rfl) (by kernel_rfl) (fun _ _ _ h => h) (Or.inl ⟨by rfl, fun wx hx => by simp [go_sem]⟩) hS ?_
            simp only [Act.put, List.getElem_toArray, List.getElem_cons_succ, List.getElem_cons_zero, List.setIfInBounds_toArray, List.set_cons_zero, List.set_cons_succ]
            refine wpAnyH_done (by kernel_rfl) ?_ _
            clear hS HY
            go_wp2
            go_roundw
            case rel => exact ⟨k + 1, by omega, by simp, HN2, HBQ2⟩
            case measure => simp [intOf]; omega
          | true =>
            cases c2b with
            | false =>
              have HN2 : Hid (∀ j, j < k + 1 → dig (ls.getD j []) = dp → ls.getD j [] = p) := HNX.out rfl
              go_wp2
              refine wp_region_held_drew (S := fun W => W = wq.drew) (by kernel_rfl) rfl ?_
              intro hS
              have HBQ2 : Hid (Below wz.heap.size wz wq.drew) := HBQ.out.drew
              obtain ⟨y, HY⟩ : ∃ z, z = wq.drew := ⟨_, rfl⟩
              rw [← HY] at HBQ2 hS ⊢
              refine wpAnyH_take (i := 0) (v := .slice (some ⟨bD, oD, none⟩) (i + 1) cD) rfl (by kernel_rfl) (by kernel_rfl) (by kernel_rfl) (fun _ _ _ h => h) (Or.inl ⟨by rfl, fun wx hx => by simp [go_sem]⟩) hS ?_
              simp only [Act.put, List.getElem_toArray, List.getElem_cons_zero, List.setIfInBounds_toArray, List.set_cons_zero, List.set_cons_succ]
              refine wpAnyH_take (i := 1) (v := .int .i64 (k : Int)) rfl (by kernel_rfl) (by kernel_rfl) (by kernel_rfl) (fun _ _ _ h => h) (Or.inl ⟨by rfl, fun wx hx => by simp [go_sem]⟩) hS ?_
              simp only [Act.put, List.getElem_toArray, List.getElem_cons_succ, List.getElem_cons_zero, List.setIfInBounds_toArray, List.set_cons_zero, List.set_cons_succ]
              refine wpAnyH_take (i := 2) (v := .pointer (some ⟨bD, oD + k * 32, none⟩)) rfl (by kernel_rfl) (by kernel_rfl) (by kernel_rfl) (fun _ _ _ h => h) (Or.inl ⟨by rfl, fun wx hx => by exact idxD17 bD oD cD (i + 1) k (by omega) _ _ _ _ rfl rfl rfl _⟩) hS ?_
              simp only [Act.put, List.getElem_toArray, List.getElem_cons_succ, List.getElem_cons_zero, List.setIfInBounds_toArray, List.set_cons_zero, List.set_cons_succ]
              refine wpAnyH_take (i := 3) (v := .agg (cb dk).toArray) rfl (by kernel_rfl) (by kernel_rfl) (by kernel_rfl) (fun _ _ _ h => h) (Or.inl ⟨by rfl, fun wx hx => by (rw [hx]; have hr := HRK.out _ HBQ2.out; exact load_run 40 _ rfl _ _ rfl (cb dk) _ hr Tryz.underlying40 rfl (by rw [cb_len, HDKL.out]; exact info_digest))⟩) hS ?_
              simp only [Act.put, List.getElem_toArray, List.getElem_cons_succ, List.getElem_cons_zero, List.setIfInBounds_toArray, List.set_cons_zero, List.set_cons_succ]
              refine wpAnyH_take (i := 4) (v := .slice (some ⟨bD, oD, none⟩) (i + 1) cD) rfl (by kernel_rfl) (by kernel_rfl) (by kernel_rfl) (fun _ _ _ h => h) (Or.inl ⟨by rfl, fun wx hx => by simp [go_sem]⟩) hS ?_
              simp only [Act.put, List.getElem_toArray, List.getElem_cons_succ, List.getElem_cons_zero, List.setIfInBounds_toArray, List.set_cons_zero, List.set_cons_succ]
              refine wpAnyH_take (i := 5) (v := .int .i64 (i : Int)) rfl (by kernel_rfl) (by kernel_rfl) (by kernel_rfl) (fun _ _ _ h => h) (Or.inl ⟨by rfl, fun wx hx => by simp [go_sem]⟩) hS ?_
              simp only [Act.put, List.getElem_toArray, List.getElem_cons_succ, List.getElem_cons_zero, List.setIfInBounds_toArray, List.set_cons_zero, List.set_cons_succ]
              refine wpAnyH_take (i := 6) (v := .pointer (some ⟨bD, oD + i * 32, none⟩)) rfl (by kernel_rfl) (by kernel_rfl) (by kernel_rfl) (fun _ _ _ h => h) (Or.inl ⟨by rfl, fun wx hx => by exact idxD17 bD oD cD (i + 1) i (by omega) _ _ _ _ rfl rfl rfl _⟩) hS ?_
              simp only [Act.put, List.getElem_toArray, List.getElem_cons_succ, List.getElem_cons_zero, List.setIfInBounds_toArray, List.set_cons_zero, List.set_cons_succ]
              refine wpAnyH_take (i := 7) (v := .agg (cb dp).toArray) rfl (by kernel_rfl) (by kernel_rfl) (by kernel_rfl) (fun _ _ _ h => h) (Or.inl ⟨by rfl, fun wx hx => by (rw [hx]; have hr := HRI.out _ HBQ2.out; exact load_run 40 _ rfl _ _ rfl (cb dp) _ hr Tryz.underlying40 rfl (by rw [cb_len, HDPL.out]; exact info_digest))⟩) hS ?_
              simp only [Act.put, List.getElem_toArray, List.getElem_cons_succ, List.getElem_cons_zero, List.setIfInBounds_toArray, List.set_cons_zero, List.set_cons_succ]
              refine wpAnyH_take (i := 8) (v := .bool true) rfl (by kernel_rfl) (by kernel_rfl) (by kernel_rfl) (fun _ _ _ h => h) (Or.inl ⟨by rfl, fun wx hx => by (have hq := eq_dig dk dp HDKL.out HDPL.out wx; rw [← HCB.out] at hq; simp [go_sem, hq])⟩) hS ?_
              simp only [Act.put, List.getElem_toArray, List.getElem_cons_succ, List.getElem_cons_zero, List.setIfInBounds_toArray, List.set_cons_zero, List.set_cons_succ]
              refine wpAnyH_take (i := 9) (v := .bool true) rfl (by kernel_rfl) (by kernel_rfl) (by kernel_rfl) (fun _ _ _ h => h) (Or.inl ⟨by rfl, fun wx hx => by simp [go_sem]⟩) hS ?_
              simp only [Act.put, List.getElem_toArray, List.getElem_cons_succ, List.getElem_cons_zero, List.setIfInBounds_toArray, List.set_cons_zero, List.set_cons_succ]
              refine wpAnyH_take (i := 10) (v := .slice (some ⟨bb, off, none⟩) n cap) rfl (by kernel_rfl) (by kernel_rfl) (by kernel_rfl) (fun _ _ _ h => h) (Or.inl ⟨by rfl, fun wx hx => by simp [go_sem]⟩) hS ?_
              simp only [Act.put, List.getElem_toArray, List.getElem_cons_succ, List.getElem_cons_zero, List.setIfInBounds_toArray, List.set_cons_zero, List.set_cons_succ]
              refine wpAnyH_take (i := 11) (v := .int .i64 (k : Int)) rfl (by kernel_rfl) (by kernel_rfl) (by kernel_rfl) (fun _ _ _ h => h) (Or.inl ⟨by rfl, fun wx hx => by simp [go_sem]⟩) hS ?_
              simp only [Act.put, List.getElem_toArray, List.getElem_cons_succ, List.getElem_cons_zero, List.setIfInBounds_toArray, List.set_cons_zero, List.set_cons_succ]
              refine wpAnyH_take (i := 12) (v := .pointer (some ⟨bb, off + k, none⟩)) rfl (by kernel_rfl) (by kernel_rfl) (by kernel_rfl) (fun _ _ _ h => h) (Or.inl ⟨by rfl, fun wx hx => by exact idxQ bb off n cap k (by omega) _ _ _ _ rfl rfl rfl _⟩) hS ?_
              simp only [Act.put, List.getElem_toArray, List.getElem_cons_succ, List.getElem_cons_zero, List.setIfInBounds_toArray, List.set_cons_zero, List.set_cons_succ]
              refine wpAnyH_take (i := 13) (v := .slice a2 n2 c2) rfl (by kernel_rfl) (by kernel_rfl) (by kernel_rfl) (fun _ _ _ h => h) (Or.inl ⟨by rfl, fun wx hx => by (rw [hx]; have hc := HC2.out _ (HBZZ.out _ HBQ2.out); simp [go_sem, hc])⟩) hS ?_
              simp only [Act.put, List.getElem_toArray, List.getElem_cons_succ, List.getElem_cons_zero, List.setIfInBounds_toArray, List.set_cons_zero, List.set_cons_succ]
              refine wpAnyH_take (i := 14) (v := .string (strB q)) rfl (by kernel_rfl) (by kernel_rfl) (by kernel_rfl) (fun _ _ _ h => h) (Or.inl ⟨by rfl, fun wx hx => by (rw [hx]; have hc := conv_reads (HR2.out _ (HBZZ.out _ HBQ2.out)); simp [go_sem, hc])⟩) hS ?_
              simp only [Act.put, List.getElem_toArray, List.getElem_cons_succ, List.getElem_cons_zero, List.setIfInBounds_toArray, List.set_cons_zero, List.set_cons_succ]
              refine wpAnyH_take (i := 15) (v := .slice (some ⟨bb, off, none⟩) n cap) rfl (by kernel_rfl) (by kernel_rfl) (by kernel_rfl) (fun _ _ _ h => h) (Or.inl ⟨by rfl, fun wx hx => by simp [go_sem]⟩) hS ?_
              simp only [Act.put, List.getElem_toArray, List.getElem_cons_succ, List.getElem_cons_zero, List.setIfInBounds_toArray, List.set_cons_zero, List.set_cons_succ]
              refine wpAnyH_take (i := 16) (v := .int .i64 (i : Int)) rfl (by kernel_rfl) (by kernel_rfl) (by kernel_rfl) (fun _ _ _ h => h) (Or.inl ⟨by rfl, fun wx hx => by simp [go_sem]⟩) hS ?_
              simp only [Act.put, List.getElem_toArray, List.getElem_cons_succ, List.getElem_cons_zero, List.setIfInBounds_toArray, List.set_cons_zero, List.set_cons_succ]
              refine wpAnyH_take (i := 17) (v := .pointer (some ⟨bb, off + i, none⟩)) rfl (by kernel_rfl) (by kernel_rfl) (by kernel_rfl) (fun _ _ _ h => h) (Or.inl ⟨by rfl, fun wx hx => by exact idxQ bb off n cap i hlt _ _ _ _ rfl rfl rfl _⟩) hS ?_
              simp only [Act.put, List.getElem_toArray, List.getElem_cons_succ, List.getElem_cons_zero, List.setIfInBounds_toArray, List.set_cons_zero, List.set_cons_succ]
              refine wpAnyH_take (i := 18) (v := .slice a1 n1 c1) rfl (by kernel_rfl) (by kernel_rfl) (by kernel_rfl) (fun _ _ _ h => h) (Or.inl ⟨by rfl, fun wx hx => by (rw [hx]; have hc := HCE.out _ (HBZZ.out _ HBQ2.out); simp [go_sem, hc])⟩) hS ?_
              simp only [Act.put, List.getElem_toArray, List.getElem_cons_succ, List.getElem_cons_zero, List.setIfInBounds_toArray, List.set_cons_zero, List.set_cons_succ]
              refine wpAnyH_take (i := 19) (v := .string (strB p)) rfl (by kernel_rfl) (by kernel_rfl) (by kernel_rfl) (fun _ _ _ h => h) (Or.inl ⟨by rfl, fun wx hx => by (rw [hx]; have hc := conv_reads (HRP.out _ (HBZZ.out _ HBQ2.out)); simp [go_sem, hc])⟩) hS ?_
              simp only [Act.put, List.getElem_toArray, List.getElem_cons_succ, List.getElem_cons_zero, List.setIfInBounds_toArray, List.set_cons_zero, List.set_cons_succ]
              refine wpAnyH_take (i := 20) (v := .bool false) rfl (by kernel_rfl) (by kernel_rfl) (by kernel_rfl) (fun _ _ _ h => h) (Or.inl ⟨by rfl, fun wx hx => by (have hs := HEQ.out; simpa [go_sem] using hs)⟩) hS ?_
              simp only [Act.put, List.getElem_toArray, List.getElem_cons_succ, List.getElem_cons_zero, List.setIfInBounds_toArray, List.set_cons_zero, List.set_cons_succ]
              refine wpAnyH_take (i := 21) (v := .bool false) rfl (by kernel_rfl) (by kernel_rfl) (by kernel_rfl) (fun _ _ _ h => h) (Or.inl ⟨by rfl, fun wx hx => by simp [go_sem]⟩) hS ?_
              simp only [Act.put, List.getElem_toArray, List.getElem_cons_succ, List.getElem_cons_zero, List.setIfInBounds_toArray, List.set_cons_zero, List.set_cons_succ]
              refine wpAnyH_done (by kernel_rfl) ?_ _
              clear hS HY
              go_wp2
              go_roundw
              case rel => exact ⟨k + 1, by omega, by simp, HN2, HBQ2⟩
              case measure => simp [intOf]; omega
            | true =>
              go_wp2
              refine wp_region_held_drew (S := fun W => W = wq.drew) (by kernel_rfl) rfl ?_
              intro hS
              have HBQ2 : Hid (Below wz.heap.size wz wq.drew) := HBQ.out.drew
              obtain ⟨y, HY⟩ : ∃ z, z = wq.drew := ⟨_, rfl⟩
              rw [← HY] at HBQ2 hS ⊢
              refine wpAnyH_take (i := 0) (v := .slice (some ⟨bD, oD, none⟩) (i + 1) cD) rfl (by kernel_rfl) (by kernel_rfl) (by kernel_rfl) (fun _ _ _ h => h) (Or.inl ⟨by rfl, fun wx hx => by simp [go_sem]⟩) hS ?_
              simp only [Act.put, List.getElem_toArray, List.getElem_cons_zero, List.setIfInBounds_toArray, List.set_cons_zero, List.set_cons_succ]
              refine wpAnyH_take (i := 1) (v := .int .i64 (k : Int)) rfl (by kernel_rfl) (by kernel_rfl) (by kernel_rfl) (fun _ _ _ h => h) (Or.inl ⟨by rfl, fun wx hx => by simp [go_sem]⟩) hS ?_
              simp only [Act.put, List.getElem_toArray, List.getElem_cons_succ, List.getElem_cons_zero, List.setIfInBounds_toArray, List.set_cons_zero, List.set_cons_succ]
              refine wpAnyH_take (i := 2) (v := .pointer (some ⟨bD, oD + k * 32, none⟩)) rfl (by kernel_rfl) (by kernel_rfl) (by kernel_rfl) (fun _ _ _ h => h) (Or.inl ⟨by rfl, fun wx hx => by exact idxD17 bD oD cD (i + 1) k (by omega) _ _ _ _ rfl rfl rfl _⟩) hS ?_
              simp only [Act.put, List.getElem_toArray, List.getElem_cons_succ, List.getElem_cons_zero, List.setIfInBounds_toArray, List.set_cons_zero, List.set_cons_succ]
              refine wpAnyH_take (i := 3) (v := .agg (cb dk).toArray) rfl (by kernel_rfl) (by kernel_rfl) (by kernel_rfl) (fun _ _ _ h => h) (Or.inl ⟨by rfl, fun wx hx => by (rw [hx]; have hr := HRK.out _ HBQ2.out; exact load_run 40 _ rfl _ _ rfl (cb dk) _ hr Tryz.underlying40 rfl (by rw [cb_len, HDKL.out]; exact info_digest))⟩) hS ?_
              simp only [Act.put, List.getElem_toArray, List.getElem_cons_succ, List.getElem_cons_zero, List.setIfInBounds_toArray, List.set_cons_zero, List.set_cons_succ]
              refine wpAnyH_take (i := 4) (v := .slice (some ⟨bD, oD, none⟩) (i + 1) cD) rfl (by kernel_rfl) (by kernel_rfl) (by kernel_rfl) (fun _ _ _ h => h) (Or.inl ⟨by rfl, fun wx hx => by simp [go_sem]⟩) hS ?_
              simp only [Act.put, List.getElem_toArray, List.getElem_cons_succ, List.getElem_cons_zero, List.setIfInBounds_toArray, List.set_cons_zero, List.set_cons_succ]
              refine wpAnyH_take (i := 5) (v := .int .i64 (i : Int)) rfl (by kernel_rfl) (by kernel_rfl) (by kernel_rfl) (fun _ _ _ h => h) (Or.inl ⟨by rfl, fun wx hx => by simp [go_sem]⟩) hS ?_
              simp only [Act.put, List.getElem_toArray, List.getElem_cons_succ, List.getElem_cons_zero, List.setIfInBounds_toArray, List.set_cons_zero, List.set_cons_succ]
              refine wpAnyH_take (i := 6) (v := .pointer (some ⟨bD, oD + i * 32, none⟩)) rfl (by kernel_rfl) (by kernel_rfl) (by kernel_rfl) (fun _ _ _ h => h) (Or.inl ⟨by rfl, fun wx hx => by exact idxD17 bD oD cD (i + 1) i (by omega) _ _ _ _ rfl rfl rfl _⟩) hS ?_
              simp only [Act.put, List.getElem_toArray, List.getElem_cons_succ, List.getElem_cons_zero, List.setIfInBounds_toArray, List.set_cons_zero, List.set_cons_succ]
              refine wpAnyH_take (i := 7) (v := .agg (cb dp).toArray) rfl (by kernel_rfl) (by kernel_rfl) (by kernel_rfl) (fun _ _ _ h => h) (Or.inl ⟨by rfl, fun wx hx => by (rw [hx]; have hr := HRI.out _ HBQ2.out; exact load_run 40 _ rfl _ _ rfl (cb dp) _ hr Tryz.underlying40 rfl (by rw [cb_len, HDPL.out]; exact info_digest))⟩) hS ?_
              simp only [Act.put, List.getElem_toArray, List.getElem_cons_succ, List.getElem_cons_zero, List.setIfInBounds_toArray, List.set_cons_zero, List.set_cons_succ]
              refine wpAnyH_take (i := 8) (v := .bool true) rfl (by kernel_rfl) (by kernel_rfl) (by kernel_rfl) (fun _ _ _ h => h) (Or.inl ⟨by rfl, fun wx hx => by (have hq := eq_dig dk dp HDKL.out HDPL.out wx; rw [← HCB.out] at hq; simp [go_sem, hq])⟩) hS ?_
              simp only [Act.put, List.getElem_toArray, List.getElem_cons_succ, List.getElem_cons_zero, List.setIfInBounds_toArray, List.set_cons_zero, List.set_cons_succ]
              refine wpAnyH_take (i := 9) (v := .bool true) rfl (by kernel_rfl) (by kernel_rfl) (by kernel_rfl) (fun _ _ _ h => h) (Or.inl ⟨by rfl, fun wx hx => by simp [go_sem]⟩) hS ?_
              simp only [Act.put, List.getElem_toArray, List.getElem_cons_succ, List.getElem_cons_zero, List.setIfInBounds_toArray, List.set_cons_zero, List.set_cons_succ]
              refine wpAnyH_take (i := 10) (v := .slice (some ⟨bb, off, none⟩) n cap) rfl (by kernel_rfl) (by kernel_rfl) (by kernel_rfl) (fun _ _ _ h => h) (Or.inl ⟨by rfl, fun wx hx => by simp [go_sem]⟩) hS ?_
              simp only [Act.put, List.getElem_toArray, List.getElem_cons_succ, List.getElem_cons_zero, List.setIfInBounds_toArray, List.set_cons_zero, List.set_cons_succ]
              refine wpAnyH_take (i := 11) (v := .int .i64 (k : Int)) rfl (by kernel_rfl) (by kernel_rfl) (by kernel_rfl) (fun _ _ _ h => h) (Or.inl ⟨by rfl, fun wx hx => by simp [go_sem]⟩) hS ?_
              simp only [Act.put, List.getElem_toArray, List.getElem_cons_succ, List.getElem_cons_zero, List.setIfInBounds_toArray, List.set_cons_zero, List.set_cons_succ]
              refine wpAnyH_take (i := 12) (v := .pointer (some ⟨bb, off + k, none⟩)) rfl (by kernel_rfl) (by kernel_rfl) (by kernel_rfl) (fun _ _ _ h => h) (Or.inl ⟨by rfl, fun wx hx => by exact idxQ bb off n cap k (by omega) _ _ _ _ rfl rfl rfl _⟩) hS ?_
              simp only [Act.put, List.getElem_toArray, List.getElem_cons_succ, List.getElem_cons_zero, List.setIfInBounds_toArray, List.set_cons_zero, List.set_cons_succ]
              refine wpAnyH_take (i := 13) (v := .slice a2 n2 c2) rfl (by kernel_rfl) (by kernel_rfl) (by kernel_rfl) (fun _ _ _ h => h) (Or.inl ⟨by rfl, fun wx hx => by (rw [hx]; have hc := HC2.out _ (HBZZ.out _ HBQ2.out); simp [go_sem, hc])⟩) hS ?_
              simp only [Act.put, List.getElem_toArray, List.getElem_cons_succ, List.getElem_cons_zero, List.setIfInBounds_toArray, List.set_cons_zero, List.set_cons_succ]
              refine wpAnyH_take (i := 14) (v := .string (strB q)) rfl (by kernel_rfl) (by kernel_rfl) (by kernel_rfl) (fun _ _ _ h => h) (Or.inl ⟨by rfl, fun wx hx => by (rw [hx]; have hc := conv_reads (HR2.out _ (HBZZ.out _ HBQ2.out)); simp [go_sem, hc])⟩) hS ?_
              simp only [Act.put, List.getElem_toArray, List.getElem_cons_succ, List.getElem_cons_zero, List.setIfInBounds_toArray, List.set_cons_zero, List.set_cons_succ]
              refine wpAnyH_take (i := 15) (v := .slice (some ⟨bb, off, none⟩) n cap) rfl (by kernel_rfl) (by kernel_rfl) (by kernel_rfl) (fun _ _ _ h => h) (Or.inl ⟨by rfl, fun wx hx => by simp [go_sem]⟩) hS ?_
              simp only [Act.put, List.getElem_toArray, List.getElem_cons_succ, List.getElem_cons_zero, List.setIfInBounds_toArray, List.set_cons_zero, List.set_cons_succ]
              refine wpAnyH_take (i := 16) (v := .int .i64 (i : Int)) rfl (by kernel_rfl) (by kernel_rfl) (by kernel_rfl) (fun _ _ _ h => h) (Or.inl ⟨by rfl, fun wx hx => by simp [go_sem]⟩) hS ?_
              simp only [Act.put, List.getElem_toArray, List.getElem_cons_succ, List.getElem_cons_zero, List.setIfInBounds_toArray, List.set_cons_zero, List.set_cons_succ]
              refine wpAnyH_take (i := 17) (v := .pointer (some ⟨bb, off + i, none⟩)) rfl (by kernel_rfl) (by kernel_rfl) (by kernel_rfl) (fun _ _ _ h => h) (Or.inl ⟨by rfl, fun wx hx => by exact idxQ bb off n cap i hlt _ _ _ _ rfl rfl rfl _⟩) hS ?_
              simp only [Act.put, List.getElem_toArray, List.getElem_cons_succ, List.getElem_cons_zero, List.setIfInBounds_toArray, List.set_cons_zero, List.set_cons_succ]
              refine wpAnyH_take (i := 18) (v := .slice a1 n1 c1) rfl (by kernel_rfl) (by kernel_rfl) (by kernel_rfl) (fun _ _ _ h => h) (Or.inl ⟨by rfl, fun wx hx => by (rw [hx]; have hc := HCE.out _ (HBZZ.out _ HBQ2.out); simp [go_sem, hc])⟩) hS ?_
              simp only [Act.put, List.getElem_toArray, List.getElem_cons_succ, List.getElem_cons_zero, List.setIfInBounds_toArray, List.set_cons_zero, List.set_cons_succ]
              refine wpAnyH_take (i := 19) (v := .string (strB p)) rfl (by kernel_rfl) (by kernel_rfl) (by kernel_rfl) (fun _ _ _ h => h) (Or.inl ⟨by rfl, fun wx hx => by (rw [hx]; have hc := conv_reads (HRP.out _ (HBZZ.out _ HBQ2.out)); simp [go_sem, hc])⟩) hS ?_
              simp only [Act.put, List.getElem_toArray, List.getElem_cons_succ, List.getElem_cons_zero, List.setIfInBounds_toArray, List.set_cons_zero, List.set_cons_succ]
              refine wpAnyH_take (i := 20) (v := .bool true) rfl (by kernel_rfl) (by kernel_rfl) (by kernel_rfl) (fun _ _ _ h => h) (Or.inl ⟨by rfl, fun wx hx => by (have hs := HEQ.out; simpa [go_sem] using hs)⟩) hS ?_
              simp only [Act.put, List.getElem_toArray, List.getElem_cons_succ, List.getElem_cons_zero, List.setIfInBounds_toArray, List.set_cons_zero, List.set_cons_succ]
              refine wpAnyH_take (i := 21) (v := .bool true) rfl (by kernel_rfl) (by kernel_rfl) (by kernel_rfl) (fun _ _ _ h => h) (Or.inl ⟨by rfl, fun wx hx => by simp [go_sem]⟩) hS ?_
              simp only [Act.put, List.getElem_toArray, List.getElem_cons_succ, List.getElem_cons_zero, List.setIfInBounds_toArray, List.set_cons_zero, List.set_cons_succ]
              refine wpAnyH_done (by kernel_rfl) ?_ _
              clear hS HY
              go_wp2
              go_ret
              exact ⟨true, rfl, (fun h => by cases h), HBZZ.out _ HBQ2.out⟩
        case neg =>
          have hke : k = i := by omega
          subst hke
          have HF2 : Hid (Apart17 (ls.take (k + 1))) := apart_more HAP.out (by rw [← HP.out, ← HDP.out]; exact HJ.out)
          have HF3 : Hid (OwnD wq w.heap.size (.slice (some ⟨bD, oD, none⟩) (k + 1) cD) ((ls.take (k + 1)).map dig)) := by rw [← HDD.out]; exact HOK.out _ HBQ.out
          go_wp2
          go_roundw
          case rel => exact ⟨k + 1, some ⟨bD, oD, none⟩, k + 1, cD, by omega, rfl, by simp, HF3, HF2, HBZZ.out _ HBQ.out⟩
          case measure => simp [intOf]; omega
    case neg =>
      have hke : i = n := by omega
      have HF : Hid (Apart17 ls) := by have h := HAP.out; rw [hke, HN.out, List.take_length] at h; exact h
      subst hke
      go_wp2
      go_ret
      exact ⟨false, rfl, fun _ => HF.out, HBW.out⟩
end Go.Proofs.YtphmmnffgknkcabGreatDoor

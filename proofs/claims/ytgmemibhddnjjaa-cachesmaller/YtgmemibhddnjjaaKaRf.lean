/- The reference's cache: New, behind, without, Get, Put, Drop (layer 16). -/
import Derived.Test.YtgmemibhddnjjaaKaRow
namespace Go.Proofs.Ytgmemibhddnjjaa
open Go.RowKit
set_option maxRecDepth 100000
def kyV (l : List KV) : List Value := l.map (fun p => Value.string p.1)
def vlV (l : List KV) : List Value := l.map (fun p => Value.int .i64 p.2)
/-- the reference's cache: its cells -/
def rcC (C : KaT) (vk vv : Value) : List Value := [.int .i64 (C.most : Int), vk, vv, .int .i64 (C.hits : Int), .int .i64 (C.miss : Int)]
structure RfV (w : World) (C : KaT) (vk vv : Value) : Prop where
  k : RdV 9 w vk (kyV C.l)
  v : RdV 3 w vv (vlV C.l)
structure RfO (w : World) (B : Nat) (l : List KV) (vk vv : Value) : Prop where
  k : OwnR 9 w B vk (kyV l)
  v : OwnR 3 w B vv (vlV l)
theorem info_rc (a b c d e : Value) : (Try.prog.info? 27).map (·.size) = some [a, b, c, d, e].length := by kernel_rfl
theorem res_rc {fn : Func} {p : Tmp} (h : fn.results = #[.cell p 27]) (tmps : Array Value) (w : World) (g : Nat) (a b c d e : Value) (hp : tmps.getD p undef = .pointer (some ⟨g, 0, none⟩)) (hb : Blk w g [a, b, c, d, e] 27) : (results fn tmps).run Try.prog w = .ok (.agg [a, b, c, d, e].toArray) w := by
  have e1 := run_loadVar_mid (P := Try.prog) w g 0 27 [a, b, c, d, e] _ hb.range Try.underlying27 rfl (info_rc a b c d e)
  have hp' : tmps[p]?.getD undef = .pointer (some ⟨g, 0, none⟩) := by simpa using hp
  simp [results, h, hp', asAddr, e1]
set_option maxRecDepth 100000 in
set_option maxHeartbeats 400000 in
theorem kNew_any (w : World) (n : Int) : Calls Try.prog 19 #[.int .i64 n] w fun r w' => r = .returned (.agg (rcC (newC n.toNat) (.slice none 0 0) (.slice none 0 0)).toArray) ∧ Below w.heap.size w w' := by
  go_enter Try.func19, Try.ntmps19
  by_cases h0 : n < 0
  · go_wp2
    refine bodyPost_ret (res_rc rfl _ _ w.heap.size _ _ _ _ _ rfl (Blk.new w [_, _, _, _, _] _)) rfl ⟨?_, below_alloc w _⟩
    have e : n.toNat = 0 := by omega
    rw [e]
    rfl
  · go_wp2
    refine bodyPost_ret (res_rc rfl _ _ w.heap.size _ _ _ _ _ rfl (Blk.new w [_, _, _, _, _] _)) rfl ⟨?_, below_alloc w _⟩
    have e : ((n.toNat : Nat) : Int) = n := by omega
    unfold rcC newC
    rw [e]
    rfl
theorem OwnR.apart {t t' : TypeId} {w w' : World} {B B' : Nat} {v v' : Value} {cs cs' : List Value} (h : OwnR t w B v cs) (h' : OwnR t' w B' v' cs') (ht : t ≠ t') (hg : w.grownBy w' v'.ownBlock) : OwnR t w' B v cs :=
  h.same (fun k ar hh hk => hg.block k (heap_lt hh) (fun e => by
    obtain ⟨_, ⟨rfl, _⟩ | ⟨g, cap, cur, rfl, _, hh', _⟩⟩ := h'
    · cases e
    · simp [Value.ownBlock] at e
      subst e
      rw [hh] at hh'
      simp only [Option.some.injEq, Obj.cells.injEq] at hh'
      exact ht hh'.2.1))
theorem Blk.grownR {t t' : TypeId} {w w' : World} {B g : Nat} {v : Value} {cs cs' : List Value} (h : Blk w g cs t) (h' : OwnR t' w B v cs') (ht : t ≠ t') (hg : w.grownBy w' v.ownBlock) : Blk w' g cs t := by
  have hl := h.lt
  unfold Blk at h ⊢
  rw [hg.block g hl (fun e => ?_)]
  · exact h
  · obtain ⟨_, ⟨rfl, _⟩ | ⟨g', cap, cur, rfl, _, hh', _⟩⟩ := h'
    · cases e
    · simp [Value.ownBlock] at e
      subst e
      rw [h] at hh'
      simp only [Option.some.injEq, Obj.cells.injEq] at hh'
      exact ht hh'.2.1
theorem int1_blk (w : World) (s : Int) : Blk (w.alloc (.cells #[.int .i64 s] 3)) w.heap.size [.int .i64 s] 3 := Blk.new w [.int .i64 s] 3
theorem wpSeq_cellKs {ops : Array Oper} {Q : Exit → Act → World → Prop} {rest : List Oper} {o : Oper} {a : Act} {w : World} (x y : Operand) (g k : Nat) (cs : List Value) (ad : Option Addr) (n c : Nat) (tb : TypeId) (hk : k < cs.length) (hb : Blk w g cs tb) (ho : o.op = .store 24 x y) (hx : a.eval x = .pointer (some ⟨g, k, none⟩)) (hy : a.eval y = .slice ad n c) (hw : Region.wanted o (yielded ops a.tmps) = true)
    (h : ∀ w', Blk w' g (cs.set k (.slice ad n c)) tb → Only g w w' → wpList Try.prog ops Q rest (a.put o.dst undef) w') : wpList Try.prog ops Q (o :: rest) a w := by
  have hc : w.cell? ⟨g, k, none⟩ = some cs[k] := by rw [hb.cell, List.getElem?_eq_getElem hk]
  have hf : w.frozen? ⟨g, k, none⟩ = false := hb.frozen k
  have he : (execOp a.eval o).run Try.prog w = .ok .skip (w.setCell ⟨g, k, none⟩ (.slice ad n c)) := by
    clear h hw
    generalize a.eval = f at hx hy ⊢
    unfold execOp
    rw [ho]
    simp [go_sem, hx, hy, hc, hf]
  unfold wpList
  simp only [hw, if_true]
  left
  unfold Oper.wp
  rw [he, Oper.upon_skip]
  exact h _ (hb.set k _) (Only.setCell (Only.refl g w) k _)
theorem wpSeq_cellIs {ops : Array Oper} {Q : Exit → Act → World → Prop} {rest : List Oper} {o : Oper} {a : Act} {w : World} (x y : Operand) (g k : Nat) (cs : List Value) (ad : Option Addr) (n c : Nat) (tb : TypeId) (hk : k < cs.length) (hb : Blk w g cs tb) (ho : o.op = .store 25 x y) (hx : a.eval x = .pointer (some ⟨g, k, none⟩)) (hy : a.eval y = .slice ad n c) (hw : Region.wanted o (yielded ops a.tmps) = true)
    (h : ∀ w', Blk w' g (cs.set k (.slice ad n c)) tb → Only g w w' → wpList Try.prog ops Q rest (a.put o.dst undef) w') : wpList Try.prog ops Q (o :: rest) a w := by
  have hc : w.cell? ⟨g, k, none⟩ = some cs[k] := by rw [hb.cell, List.getElem?_eq_getElem hk]
  have hf : w.frozen? ⟨g, k, none⟩ = false := hb.frozen k
  have he : (execOp a.eval o).run Try.prog w = .ok .skip (w.setCell ⟨g, k, none⟩ (.slice ad n c)) := by
    clear h hw
    generalize a.eval = f at hx hy ⊢
    unfold execOp
    rw [ho]
    simp [go_sem, hx, hy, hc, hf]
  unfold wpList
  simp only [hw, if_true]
  left
  unfold Oper.wp
  rw [he, Oper.upon_skip]
  exact h _ (hb.set k _) (Only.setCell (Only.refl g w) k _)
def zRc : List Value := [.int .i64 0, .slice none 0 0, .slice none 0 0, .int .i64 0, .int .i64 0]
theorem alloc_rc (f : Operand → Value) (o : Oper) (ho : o.op = .alloc 27) (w : World) : (execOp f o).run Try.prog w = .ok (.value (.pointer (some ⟨w.heap.size, 0, none⟩))) (w.alloc (.cells zRc.toArray 27)) := by
  unfold execOp
  rw [ho]
  kernel_rfl
theorem wpSeq_allocRc {ops : Array Oper} {Q : Exit → Act → World → Prop} {rest : List Oper} {o : Oper} {a : Act} {w : World} (ho : o.op = .alloc 27) (hw : Region.wanted o (yielded ops a.tmps) = true)
    (h : ∀ g w', NewR zRc 27 w g w' → wpList Try.prog ops Q rest (a.put o.dst (.pointer (some ⟨g, 0, none⟩))) w') : wpList Try.prog ops Q (o :: rest) a w :=
  wpSeq_val _ _ hw (alloc_rc _ _ ho _) (h _ _ (NewR.of _ _ w))
theorem OwnR.only {t t' : TypeId} {w w' : World} {B g : Nat} {v : Value} {cs cs' : List Value} (h : OwnR t w B v cs) (hb : Blk w g cs' t') (ht : t ≠ t') (ho : Only g w w') : OwnR t w' B v cs :=
  h.same (fun k ar hh _ => ho.block k (fun e => by
    subst e
    unfold Blk at hb
    rw [hh] at hb
    simp only [Option.some.injEq, Obj.cells.injEq] at hb
    exact ht hb.2.1) (heap_lt hh))
theorem RdV.only {t t' : TypeId} {w w' : World} {g : Nat} {v : Value} {cs cs' : List Value} (h : RdV t w v cs) (hb : Blk w g cs' t') (ht : t ≠ t') (ho : Only g w w') : RdV t w' v cs :=
  h.same (fun k ar hh => ho.block k (fun e => by
    subst e
    unfold Blk at hb
    rw [hh] at hb
    simp only [Option.some.injEq, Obj.cells.injEq] at hb
    exact ht hb.2.1) (heap_lt hh))
theorem load_rc {ops : Array Oper} {Q : Exit → Act → World → Prop} {rest : List Oper} {o : Oper} {a : Act} {w : World} (x : Operand) (g : Nat) (c0 c1 c2 c3 c4 : Value) (hb : Blk w g [c0, c1, c2, c3, c4] 27) (ho : o.op = .load 27 x) (hx : a.eval x = .pointer (some ⟨g, 0, none⟩)) (hw : Region.wanted o (yielded ops a.tmps) = true)
    (h : wpList Try.prog ops Q rest (a.put o.dst (.agg [c0, c1, c2, c3, c4].toArray)) w) : wpList Try.prog ops Q (o :: rest) a w :=
  wpSeq_loadW 27 x g 0 [c0, c1, c2, c3, c4] _ hb.range Try.underlying27 rfl (info_rc _ _ _ _ _) ho hx hw h
set_option maxRecDepth 100000 in
set_option maxHeartbeats 800000 in
theorem kBehind_any {w : World} {B : Nat} {l : List KV} {vk vv : Value} (mo hi ms : Value) (h1 : mo.oneCell' = true) (h2 : hi.oneCell' = true) (h3 : ms.oneCell' = true) (h : RfO w B l vk vv) (hB : B ≤ w.heap.size) (hl : l.length < 1000000) (s : ByteArray) (x : Int) :
    Calls Try.prog 29 #[.agg [mo, vk, vv, hi, ms].toArray, .string s, .int .i64 x] w fun r w' => ∃ vk' vv', r = .returned (.agg [mo, vk', vv', hi, ms].toArray) ∧ RfO w' B (l ++ [(s, x)]) vk' vv' ∧ Below B w w' ∧ ∀ g cs, Blk w g cs 27 → Blk w' g cs 27 := by
  obtain ⟨ak, ck, hk⟩ := h.k.form
  obtain ⟨av, cv, hv⟩ := h.v.form
  obtain ⟨n1, HN1⟩ : ∃ n, Hid (n = (kyV l).length) := ⟨_, rfl⟩
  obtain ⟨n2, HN2⟩ : ∃ n, Hid (n = (vlV l).length) := ⟨_, rfl⟩
  rw [← HN1.out] at hk
  rw [← HN2.out] at hv
  subst hk hv
  have HO : Hid (RfO w B l (.slice ak n1 ck) (.slice av n2 cv)) := h
  have HL1 : Hid ((kyV l).length < 1000000) := by show _ < _; unfold kyV; rw [List.length_map]; exact hl
  have HL2 : Hid ((vlV l).length < 1000000) := by show _ < _; unfold vlV; rw [List.length_map]; exact hl
  have HB : Hid (B ≤ w.heap.size) := hB
  have H1 : Hid (mo.oneCell' = true ∧ hi.oneCell' = true ∧ ms.oneCell' = true) := ⟨h1, h2, h3⟩
  clear h hB hl h1 h2 h3
  go_enter Try.func29, Try.ntmps29
  have tk0 : Hid True := trivial
  have tk1 : Hid True := trivial
  have tk2 : Hid True := trivial
  have tk3 : Hid True := trivial
  have tk4 : Hid True := trivial
  have tk5 : Hid True := trivial
  have tk6 : Hid True := trivial
  have tk7 : Hid True := trivial
  go_wp2_with (first
    | (clear tk0; with_reducible refine wpSeq_boxW 27 (.tmp 0) [mo, .slice ak n1 ck, .slice av n2 cv, hi, ms] ?_ ?_ ?_ ?_
       · rfl
       · rfl
       · rfl
       intro gc y0 nn
       have HC : Hid (Blk y0 gc [mo, .slice ak n1 ck, .slice av n2 cv, hi, ms] 27) := nn.blk
       have HBL : Hid (Below B w y0) := nn.below.mono HB.out
       have HKP : Hid (∀ g cs, Blk w g cs 27 → Blk y0 g cs 27) := fun g cs hb => hb.below nn.below hb.lt
       have HG : Hid (w.heap.size ≤ gc) := nn.ge
       replace HO : Hid (RfO y0 B l (.slice ak n1 ck) (.slice av n2 cv)) := ⟨HO.out.k.below nn.below, HO.out.v.below nn.below⟩
       clear nn)
    | (clear tk1; with_reducible refine wpSeq_allocRc ?_ ?_ ?_
       · rfl
       · rfl
       intro gr y1 nn
       have HR : Hid (Blk y1 gr zRc 27) := nn.blk
       have HGR : Hid (w.heap.size ≤ gr) := Nat.le_trans HBL.out.size nn.ge
       have HNE : Hid (gc ≠ gr) := fun e => absurd HC.out.lt (by have := nn.ge; omega)
       replace HC : Hid (Blk y1 gc [mo, .slice ak n1 ck, .slice av n2 cv, hi, ms] 27) := HC.out.below nn.below HC.out.lt
       replace HO : Hid (RfO y1 B l (.slice ak n1 ck) (.slice av n2 cv)) := ⟨HO.out.k.below nn.below, HO.out.v.below nn.below⟩
       replace HBL : Hid (Below B w y1) := HBL.out.trans (nn.below.mono (Nat.le_trans HB.out HBL.out.size))
       replace HKP : Hid (∀ g cs, Blk w g cs 27 → Blk y1 g cs 27) := fun g cs hb => (HKP.out g cs hb).below nn.below (HKP.out g cs hb).lt
       have c1 : y1.cell? ⟨gc, 1, none⟩ = some (.slice ak n1 ck) := HC.out.cell 1
       clear nn)
    | (clear tk2; at_builtin; refine wpList_appK (.tmp 8) (.tmp 10) B _ s _ y1.heap.size (OwnR.app1 HO.out.k _) (str1_blk y1 s) HL1.out (Nat.le_trans HB.out (Nat.le_trans HBL.out.size (below_alloc y1 _).size)) rfl rfl rfl rfl ?_
       intro v2 y2 ow2 gr2 bl2
       have hO1 : RfO (y1.alloc (.cells #[.string s] 9)) B l (.slice ak n1 ck) (.slice av n2 cv) := ⟨OwnR.app1 HO.out.k _, OwnR.app1 HO.out.v _⟩
       have HOK : Hid (OwnR 9 y2 B v2 (kyV l ++ [.string s])) := ow2
       have HOV : Hid (OwnR 3 y2 B (.slice av n2 cv) (vlV l)) := hO1.v.apart hO1.k (by decide) gr2
       replace HC : Hid (Blk y2 gc [mo, .slice ak n1 ck, .slice av n2 cv, hi, ms] 27) := (HC.out.alloc _).grownR hO1.k (by decide) gr2
       replace HR : Hid (Blk y2 gr zRc 27) := (HR.out.alloc _).grownR hO1.k (by decide) gr2
       replace HBL : Hid (Below B w y2) := (HBL.out.trans ((below_alloc y1 _).mono (Nat.le_trans HB.out HBL.out.size))).trans bl2
       replace HKP : Hid (∀ g cs, Blk w g cs 27 → Blk y2 g cs 27) := fun g cs hb => ((HKP.out g cs hb).alloc _).grownR hO1.k (by decide) gr2
       obtain ⟨a3, c3, hv2⟩ := ow2.form
       obtain ⟨n3, HN3⟩ : ∃ n, Hid (n = (kyV l ++ [Value.string s]).length) := ⟨_, rfl⟩
       rw [← HN3.out] at hv2
       subst hv2
       clear ow2 gr2 bl2 hO1 HO c1)
    | (clear tk3; with_reducible refine wpSeq_cellKs (.tmp 12) (.tmp 11) gc 1 [mo, .slice ak n1 ck, .slice av n2 cv, hi, ms] a3 n3 c3 27 (by simp) HC.out ?_ ?_ ?_ ?_ ?_
       · rfl
       · rfl
       · rfl
       · rfl
       intro y3 b3 o3
       replace HOK : Hid (OwnR 9 y3 B (.slice a3 n3 c3) (kyV l ++ [.string s])) := HOK.out.only HC.out (by decide) o3
       replace HOV : Hid (OwnR 3 y3 B (.slice av n2 cv) (vlV l)) := HOV.out.only HC.out (by decide) o3
       replace HR : Hid (Blk y3 gr zRc 27) := HR.out.only o3 HNE.out.symm
       replace HBL : Hid (Below B w y3) := HBL.out.trans (o3.below (Nat.le_trans HB.out HG.out) (Nat.le_trans HB.out HBL.out.size))
       replace HC : Hid (Blk y3 gc [mo, .slice a3 n3 c3, .slice av n2 cv, hi, ms] 27) := b3
       replace HKP : Hid (∀ g cs, Blk w g cs 27 → Blk y3 g cs 27) := fun g cs hb => (HKP.out g cs hb).only o3 (fun e => absurd hb.lt (by have := HG.out; omega))
       have c2 : y3.cell? ⟨gc, 2, none⟩ = some (.slice av n2 cv) := HC.out.cell 2
       clear b3 o3)
    | (clear tk4; at_builtin; refine wpList_appI (.tmp 14) (.tmp 16) B _ x _ y3.heap.size (OwnR.app1 HOV.out _) (int1_blk y3 x) HL2.out (Nat.le_trans HB.out (Nat.le_trans HBL.out.size (below_alloc y3 _).size)) rfl rfl rfl rfl ?_
       intro v4 y4 ow4 gr4 bl4
       have hO1 := OwnR.app1 HOV.out (.cells #[.int .i64 x] 3)
       replace HOK : Hid (OwnR 9 y4 B (.slice a3 n3 c3) (kyV l ++ [.string s])) := (OwnR.app1 HOK.out _).apart hO1 (by decide) gr4
       replace HC : Hid (Blk y4 gc [mo, .slice a3 n3 c3, .slice av n2 cv, hi, ms] 27) := (HC.out.alloc _).grownR hO1 (by decide) gr4
       replace HR : Hid (Blk y4 gr zRc 27) := (HR.out.alloc _).grownR hO1 (by decide) gr4
       replace HBL : Hid (Below B w y4) := (HBL.out.trans ((below_alloc y3 _).mono (Nat.le_trans HB.out HBL.out.size))).trans bl4
       replace HOV : Hid (OwnR 3 y4 B v4 (vlV l ++ [.int .i64 x])) := ow4
       replace HKP : Hid (∀ g cs, Blk w g cs 27 → Blk y4 g cs 27) := fun g cs hb => ((HKP.out g cs hb).alloc _).grownR hO1 (by decide) gr4
       obtain ⟨a5, c5, hv4⟩ := ow4.form
       obtain ⟨n5, HN5⟩ : ∃ n, Hid (n = (vlV l ++ [Value.int .i64 x]).length) := ⟨_, rfl⟩
       rw [← HN5.out] at hv4
       subst hv4
       clear ow4 gr4 bl4 hO1 c2)
    | (clear tk5; with_reducible refine wpSeq_cellIs (.tmp 18) (.tmp 17) gc 2 [mo, .slice a3 n3 c3, .slice av n2 cv, hi, ms] a5 n5 c5 27 (by simp) HC.out ?_ ?_ ?_ ?_ ?_
       · rfl
       · rfl
       · rfl
       · rfl
       intro y5 b5 o5
       replace HOK : Hid (OwnR 9 y5 B (.slice a3 n3 c3) (kyV l ++ [.string s])) := HOK.out.only HC.out (by decide) o5
       replace HOV : Hid (OwnR 3 y5 B (.slice a5 n5 c5) (vlV l ++ [.int .i64 x])) := HOV.out.only HC.out (by decide) o5
       replace HR : Hid (Blk y5 gr zRc 27) := HR.out.only o5 HNE.out.symm
       replace HBL : Hid (Below B w y5) := HBL.out.trans (o5.below (Nat.le_trans HB.out HG.out) (Nat.le_trans HB.out HBL.out.size))
       replace HC : Hid (Blk y5 gc [mo, .slice a3 n3 c3, .slice a5 n5 c5, hi, ms] 27) := b5
       replace HKP : Hid (∀ g cs, Blk w g cs 27 → Blk y5 g cs 27) := fun g cs hb => (HKP.out g cs hb).only o5 (fun e => absurd hb.lt (by have := HG.out; omega))
       clear b5 o5)
    | (clear tk6; with_reducible refine load_rc (.tmp 3) gc _ _ _ _ _ HC.out ?_ ?_ ?_ ?_
       · rfl
       · rfl
       · rfl)
    | (clear tk7; with_reducible refine wpSeq_storeRow 27 (.tmp 6) (.tmp 19) gr zRc [mo, .slice a3 n3 c3, .slice a5 n5 c5, hi, ms] HR.out rfl (info_rc _ _ _ _ _) ?_ ?_ ?_ ?_ ?_ ?_
       · intro u hu
         simp only [List.mem_cons, List.not_mem_nil, or_false] at hu
         rcases hu with rfl | rfl | rfl | rfl | rfl
         · exact H1.out.1
         · rfl
         · rfl
         · exact H1.out.2.1
         · exact H1.out.2.2
       · rfl
       · rfl
       · rfl
       · rfl
       intro y6 sr
       replace HOK : Hid (OwnR 9 y6 B (.slice a3 n3 c3) (kyV l ++ [.string s])) := HOK.out.only HR.out (by decide) sr.only
       replace HOV : Hid (OwnR 3 y6 B (.slice a5 n5 c5) (vlV l ++ [.int .i64 x])) := HOV.out.only HR.out (by decide) sr.only
       replace HBL : Hid (Below B w y6) := HBL.out.trans (sr.only.below (Nat.le_trans HB.out HGR.out) (Nat.le_trans HB.out HBL.out.size))
       replace HKP : Hid (∀ g cs, Blk w g cs 27 → Blk y6 g cs 27) := fun g cs hb => (HKP.out g cs hb).only sr.only (fun e => absurd hb.lt (by have := HGR.out; omega))
       have HF : Hid (Blk y6 gr [mo, .slice a3 n3 c3, .slice a5 n5 c5, hi, ms] 27) := sr.blk
       clear sr))
  refine bodyPost_ret (res_rc rfl _ _ gr _ _ _ _ _ rfl HF.out) rfl ?_
  refine ⟨_, _, rfl, ⟨?_, ?_⟩, HBL.out, HKP.out⟩
  · have := HOK.out; unfold kyV at this ⊢; rw [List.map_append]; exact this
  · have := HOV.out; unfold vlV at this ⊢; rw [List.map_append]; exact this
end Go.Proofs.Ytgmemibhddnjjaa

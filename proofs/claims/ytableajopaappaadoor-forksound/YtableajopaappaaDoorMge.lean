/- Texts that the proof leans on, one behind the other: The walks of the reference's Pin and Honest (layer 12). What breaks tells: a signed root that is taken by a seed's key, and is not what that key signed, breaks something (layer 12). A slice of signed roots appended whole (layer 12). .. -/
import Derived.Test.YtableajopaappaaDoorMgd
import Derived.Laws.AppendOwnNone
import Derived.Laws.CopyRow
import Derived.Laws.MakeOwn
/- The walks of the reference's Pin and Honest (layer 12). -/
namespace Go.Proofs.YtableajopaappaaDoor
open Go.RowKit Go.Shelf
set_option maxRecDepth 100000
theorem idx32 (b off cap n k : Nat) (hk : k < n) (f : Operand → Value) (o : Oper) (x y : Operand) (ho : o.op = .indexAddr 55 x y) (hx : f x = .slice (some ⟨b, off, none⟩) n cap) (hy : f y = .int .i64 (k : Int)) (w : World) :
    (execOp f o).run Tryd.prog w = .ok (.value (.pointer (some ⟨b, off + k * 32, none⟩))) w := by
  have k0 : (0 : Int) ≤ (k : Int) := by omega
  have k1 : (k : Int) < (n : Int) := by omega
  unfold execOp
  rw [ho]
  simp [go_sem, hx, hy, k0, k1, Addr.add_mid]
structure HnI (w : World) (g2 g6 : Nat) (seed : Bs) (h : HdT) (v : Value) (L : List (SgT × Value)) (W : World) : Prop where
  sd : Blk W g2 (cb seed) 23
  hd : Blk W g6 (hdC h) 50
  own : OwnS W (g6 + 1) v L
  sg : ∀ p ∈ L, OwnB W (g6 + 1) p.2 p.1.2
  bel : Below w.heap.size w W
  lt : g2 < g6
  ge : w.heap.size ≤ g2
theorem HnI.size {w : World} {g2 g6 : Nat} {seed : Bs} {h : HdT} {v : Value} {L : List (SgT × Value)} {W : World} (i : HnI w g2 g6 seed h v L W) : g6 + 1 ≤ W.heap.size := i.hd.lt
theorem HnI.next {w : World} {g2 g6 : Nat} {seed : Bs} {h : HdT} {v : Value} {L : List (SgT × Value)} {W W' : World} (i : HnI w g2 g6 seed h v L W) (hb : Below W.heap.size W W') : HnI w g2 g6 seed h v L W' :=
  ⟨i.sd.below hb i.sd.lt, i.hd.below hb i.hd.lt, i.own.keep fun k _ hk => hb.block k hk, fun p hp => (i.sg p hp).same fun k hk => hb.block k ((i.sg p hp).lt k hk), i.bel.trans (hb.mono i.bel.size), i.lt, i.ge⟩
theorem HnI.drew {w : World} {g2 g6 : Nat} {seed : Bs} {h : HdT} {v : Value} {L : List (SgT × Value)} {W : World} (i : HnI w g2 g6 seed h v L W) : HnI w g2 g6 seed h v L W.drew := i.next (Below.refl _ _).drew
theorem HnI.more {w : World} {g2 g6 : Nat} {seed : Bs} {h : HdT} {v v' sv : Value} {s : SgT} {L : List (SgT × Value)} {W W' : World} (i : HnI w g2 g6 seed h v L W) (hs : OwnB W (g6 + 1) sv s.2) (ho : OwnS W' (g6 + 1) v' (L ++ [(s, sv)])) (hg : Grow (g6 + 1) W v W' v') : HnI w g2 g6 seed h v' (L ++ [(s, sv)]) W' := by
  have up : ∀ {u : Value} {l : Bs}, OwnB W (g6 + 1) u l → OwnB W' (g6 + 1) u l := fun {u l} hv => hv.same fun k hk => hg.other k (hv.apartS i.own k hk) (hv.lt k hk)
  refine ⟨i.sd.below hg.below (by have := i.lt; omega), i.hd.below hg.below (by omega), ho, fun p hp => ?_, i.bel.trans (hg.below.mono (by have := i.lt; have := i.ge; omega)), i.lt, i.ge⟩
  rcases List.mem_append.1 hp with hp | hp
  · exact up (i.sg p hp)
  · rw [List.mem_singleton.1 hp]; exact up hs
theorem HnI.head {w : World} {g2 g6 : Nat} {seed : Bs} {h h' : HdT} {v : Value} {L : List (SgT × Value)} {W W' : World} (i : HnI w g2 g6 seed h v L W) (hs : SetR (hdC h') 50 W g6 W') : HnI w g2 g6 seed h' v L W' :=
  ⟨i.sd.only hs.only (by have := i.lt; omega), hs.blk, i.own.keep fun k hk1 hk2 => hs.only.block k (by omega) hk2, fun p hp => (i.sg p hp).same fun k hk => hs.only.block k (by have := (i.sg p hp).own k hk; omega) ((i.sg p hp).lt k hk), i.bel.trans (hs.only.below (by have := i.lt; have := i.ge; omega) i.bel.size), i.lt, i.ge⟩
theorem HnI.reads {w : World} {g2 g6 : Nat} {seed : Bs} {h : HdT} {v : Value} {L : List (SgT × Value)} {W : World} (i : HnI w g2 g6 seed h v L W) : ReadsS W v (L.map (·.1)) := i.own.readsS fun p hp => (i.sg p hp).reads
theorem dropT {ts : List Bs} {k : Nat} (hk : k < ts.length) : ts.drop k = ts.getD k [] :: ts.drop (k + 1) := by
  have hg : ts.getD k [] = ts[k]'hk := by rw [List.getD_eq_getElem?_getD, List.getElem?_eq_getElem hk]; rfl
  rw [hg, List.getElem_cons_drop]
set_option maxRecDepth 100000 in
set_option maxHeartbeats 8000000 in
theorem qcPin_any (x : List (BitVec 8)) (w : World) (hn : x.length = 32) : Calls Tryd.prog 25 #[.agg (cb x).toArray] w fun e w' => e = .returned (.agg (cb (pubR x 1)).toArray) ∧ Below w.heap.size w w' := by
  obtain ⟨r, HRD⟩ : ∃ r, Hid (r = pubR x 1) := ⟨_, rfl⟩
  have HRL : Hid (r.length = 32) := by show _ = _; rw [HRD.out]; exact len_pubR _ _
  have HC : Hid (∀ W : World, Below w.heap.size w W → Calls Tryd.prog 45 #[.agg (cb x).toArray, .int .u64 1] W fun e w' => e = .returned (.agg (cb r).toArray) ∧ Below W.heap.size W w') := fun W hh => by rw [HRD.out]; exact qlPublic_any x 1 W ⟨hn, by decide⟩
  have HN : Hid (x.length = 32) := hn
  have HBW : Hid (Below w.heap.size w w) := Below.refl _ _
  clear hn
  go_enter Tryd.func25, Tryd.ntmps25
  have tk0 : Hid True := trivial
  have tk1 : Hid True := trivial
  have tk2 : Hid True := trivial
  have tk3 : Hid True := trivial
  have tk4 : Hid True := trivial
  go_wp2_with (first
    | (clear tk0; with_reducible refine wpSeq_boxD (.tmp 0) x ?_ ?_ ?_ ?_
       · rfl
       · rfl
       · rfl
       intro gx y1 nn
       replace HBW : Hid (Below w.heap.size w y1) := HBW.out.trans (nn.below.mono HBW.out.size)
       have HX : Hid (Blk y1 gx (cb x) 23) := nn.blk
       clear nn)
    | (clear tk1; with_reducible refine wpSeq_allocD ?_ ?_ ?_
       · rfl
       · rfl
       intro gr y2 nn
       have HGR : Hid (w.heap.size ≤ gr) := Nat.le_trans HBW.out.size nn.ge
       replace HX : Hid (Blk y2 gx (cb x) 23) := HX.out.below nn.below HX.out.lt
       replace HBW : Hid (Below w.heap.size w y2) := HBW.out.trans (nn.below.mono HBW.out.size)
       have HB : Hid (Blk y2 gr (cb zb32) 23) := nn.blk
       clear nn)
    | (clear tk2; with_reducible refine wpSeq_loadD (.tmp 1) gx x ?_ ?_ ?_ ?_ ?_ ?_
       · exact HN.out
       · exact HX.out
       · rfl
       · rfl
       · rfl)
    | (clear tk3; go_at_call 45; refine (HC.out y2 HBW.out).mono ?_; rintro e y3 ⟨rfl, hbz⟩
       replace HX : Hid (Blk y3 gx (cb x) 23) := HX.out.below hbz HX.out.lt
       replace HB : Hid (Blk y3 gr (cb zb32) 23) := HB.out.below hbz HB.out.lt
       replace HBW : Hid (Below w.heap.size w y3) := HBW.out.trans (hbz.mono HBW.out.size)
       clear hbz )
    | (clear tk4; with_reducible refine wpSeq_storeD (.tmp 2) (.tmp 4) gr zb32 r ?_ ?_ ?_ ?_ ?_ ?_ ?_ ?_
       · rfl
       · exact HRL.out
       · exact HB.out
       · rfl
       · rfl
       · rfl
       · rfl
       intro W9 h9))
  exact bodyPost_ret (v := .agg (cb r).toArray) (results_cell_row (by rfl) _ _ gr 23 _ (0, 0) _ rfl h9.blk Tryd.underlying23 rfl (by rw [List.size_toArray, cb_len, HRL.out]; exact info_digest)) rfl ⟨by rw [HRD.out], HBW.out.trans (h9.only.below HGR.out HBW.out.size)⟩
set_option maxRecDepth 100000 in
set_option maxHeartbeats 8000000 in
theorem qcHonest_any (seed : Bs) (vt : Value) (ts : List Bs) (w : World) (hs : seed.length = 32) (ht : ReadsD w vt ts) (hn : ts.length < 1000) :
    Calls Tryd.prog 26 #[.agg (cb seed).toArray, vt] w fun r w' => ∃ v, r = .returned v ∧ ReadsS w' v (honestR seed (stR (pubR seed 1)) ts) ∧ Below w.heap.size w w' := by
  obtain ⟨⟨ad0, ct, hvt, hq⟩, hq2⟩ := id ht
  clear hq hq2
  obtain ⟨n, HN⟩ : ∃ n, Hid (n = ts.length) := ⟨_, rfl⟩
  rw [← HN.out] at hvt
  subst hvt
  have HRD : Hid (ReadsD w (.slice ad0 n ct) ts) := ht
  have HSL : Hid (seed.length = 32) := hs
  have HIS0 : Hid ((Tryd.prog.info? 23).map (·.size) = some (cb seed).length) := by show _ = _; rw [cb_len, hs]; exact info_digest
  have HNL : Hid (n < 1000) := by show _ < _; rw [HN.out]; exact hn
  obtain ⟨pk, HPK0⟩ : ∃ p, Hid (p = pubR seed 1) := ⟨_, rfl⟩
  have HPK : Hid (pk.length = 32) := by show _ = _; rw [HPK0.out]; exact len_pubR _ _
  have HO0 : Hid (okH (0, zb32, pk)) := okH_mk rfl HPK.out (by decide)
  have HCP : Hid (∀ W : World, Calls Tryd.prog 25 #[.agg (cb seed).toArray] W fun r w' => r = .returned (.agg (cb pk).toArray) ∧ Below W.heap.size W w') := fun W => by rw [HPK0.out]; exact qcPin_any seed W HSL.out
  obtain ⟨R, HR⟩ : ∃ r, Hid (r = honestR seed (0, zb32, pk) ts) := ⟨_, rfl⟩
  have HR0 : Hid (honestR seed (stR (pubR seed 1)) ts = R) := by show _ = _; rw [HR.out, HPK0.out]; rfl
  rw [HR0.out]
  have HBW : Hid (Below w.heap.size w w) := Below.refl _ _
  clear hs ht hn HPK0 HR0
  go_enter Tryd.func26, Tryd.ntmps26
  have tk0 : Hid True := trivial
  have tk1 : Hid True := trivial
  have tk2 : Hid True := trivial
  have tk3 : Hid True := trivial
  have tk4 : Hid True := trivial
  have tk5 : Hid True := trivial
  go_wp2_with (first
    | (clear tk0; with_reducible refine wpSeq_boxW 23 (.tmp 0) (cb seed) ?_ ?_ ?_ ?_
       · rfl
       · rfl
       · rfl
       intro g2 y1 nn
       have HG2 : Hid (w.heap.size ≤ g2) := nn.ge
       replace HBW : Hid (Below w.heap.size w y1) := HBW.out.trans (nn.below.mono HBW.out.size)
       have H2 : Hid (Blk y1 g2 (cb seed) 23) := nn.blk
       clear nn
       skip)
    | (clear tk1; with_reducible refine wpSeq_loadW 23 (.tmp 2) g2 0 (cb seed) _ ?_ Tryd.underlying23 rfl ?_ ?_ ?_ ?_ ?_
       · exact H2.out.range
       · exact HIS0.out
       · rfl
       · rfl
       · rfl)
    | (clear tk2; go_at_call 25; refine (HCP.out y1).mono ?_; rintro e y2 ⟨rfl, hbz⟩
       replace H2 : Hid (Blk y2 g2 (cb seed) 23) := H2.out.below hbz H2.out.lt
       replace HBW : Hid (Below w.heap.size w y2) := HBW.out.trans (hbz.mono HBW.out.size)
       clear hbz )
    | (clear tk3; with_reducible refine wpSeq_build 50 [(2, .tmp 11)] (hdC (0, zb32, pk)) ?_ ?_ ?_ ?_
       · exact (built_head _).trans (fill_hk HPK.out)
       · rfl
       · rfl)
    | (clear tk4; with_reducible refine wpSeq_allocH ?_ ?_ ?_
       · rfl
       · rfl
       intro g6 y3 nn
       have HG6 : Hid (g2 < g6) := Nat.lt_of_lt_of_le H2.out.lt nn.ge)
    | (clear tk5; with_reducible refine wpSeq_storeRow 50 (.tmp 6) (.tmp 12) g6 (hdC zeroH) (hdC (0, zb32, pk)) ?_ ?_ ?_ ?_ ?_ ?_ ?_ ?_ ?_
       · exact nn.blk
       · first | (with_reducible rfl) | rw [len_hdC HO0.out, len_hdC okH_zero]
       · exact info_hdC HO0.out
       · exact hdC_one _
       · rfl
       · rfl
       · rfl
       · rfl
       intro y4 hs
       have hbz := nn.below.trans (hs.only.below nn.ge nn.below.size)
       replace H2 : Hid (Blk y4 g2 (cb seed) 23) := H2.out.below hbz H2.out.lt
       replace HBW : Hid (Below w.heap.size w y4) := HBW.out.trans (hbz.mono HBW.out.size)
       have H6 : Hid (Blk y4 g6 (hdC (0, zb32, pk)) 50) := hs.blk
       clear nn hs hbz))
  have HI0 : Hid (HnI w g2 g6 seed (0, zb32, pk) (.slice none 0 0) [] y4) := ⟨H2.out, H6.out, OwnS.nil _ _, (fun p hp => by cases hp), HBW.out, HG6.out, HG2.out⟩
  clear H2 H6 HBW
  go_loopw [5, 7] (fun u i wr => ∃ (k : Nat) (h : HdT) (uA : Option Addr) (uM uC : Nat) (L : List (SgT × Value)), k ≤ n ∧ i = .int .i64 (k : Int) ∧ u = .slice uA uM uC ∧ Hid (okH h) ∧ Hid (R = L.map (·.1) ++ honestR seed h (ts.drop k) ∧ L.length = k) ∧ Hid (HnI w g2 g6 seed h (.slice uA uM uC) L wr)) (fun _ i _ => n - (intOf i).toNat)
  case atStart => exact ⟨0, (0, zb32, pk), none, 0, 0, [], by omega, rfl, rfl, HO0, ⟨by rw [HR.out]; rfl, rfl⟩, HI0⟩
  case round =>
    obtain ⟨k, h, uA, uM, uC, L, hkn, rfl, rfl, HOH, HPL, HI⟩ := hrel
    clear HI0
    by_cases hlt : k < n
    case neg =>
      have hlk : ¬ ((k : Int) < (n : Int)) := by omega
      have HZ : Hid (R = L.map (·.1)) := by show _ = _; rw [HPL.out.1, List.drop_eq_nil_of_le (by rw [← HN.out]; omega)]; simp [honestR]
      go_wp2
      go_ret
      exact ⟨_, rfl, by rw [HZ.out]; exact HI.out.reads, HI.out.bel⟩
    have hlk : (k : Int) < (n : Int) := by omega
    have f5 : IntKind.i64.wrap ((k : Int) + 1) = (k : Int) + 1 := by rw [IntKind.wrap_i64]; have := HNL.out; omega
    have HLT : Hid (k < ts.length) := by show _ < _; rw [← HN.out]; exact hlt
    obtain ⟨bt0, ot, c1, hv1, hat⟩ := HRD.out.at (Nat.lt_of_le_of_lt (Nat.zero_le _) HLT.out)
    simp only [Value.slice.injEq] at hv1
    obtain ⟨rfl, hn1, rfl⟩ := hv1
    clear hn1
    obtain ⟨tr, HTT⟩ : ∃ t, Hid (t = ts.getD k []) := ⟨_, rfl⟩
    have hr0 := hat k HLT.out
    rw [← HTT.out] at hr0
    have HTL : Hid (tr.length = 32) := by rw [HTT.out]; exact HRD.out.2 _ (mem_getD HLT.out)
    have HTR : Hid (∀ W : World, Below w.heap.size w W → W.rangeAt bt0 (ot + k * 32) (cb tr)) := fun W hh => rangeAt_below hr0 hh (rangeAt_lt hr0 HTL.out)
    obtain ⟨s, HS⟩ : ∃ s, Hid (s = (sealR seed h tr).1) := ⟨_, rfl⟩
    obtain ⟨es, HES⟩ : ∃ s, Hid (s = (sealR seed h tr).2) := ⟨_, rfl⟩
    have HOS : Hid (okS s) := by rw [HS.out]; exact seal_okS seed h tr HOH.out HTL.out
    have HC1 : Hid (∀ W : World, Calls Tryd.prog 46 #[.agg (cb seed).toArray, .agg (hdC h).toArray, .agg (cb tr).toArray] W fun e w' => ∃ ad m c, e = .returned (.tuple #[.agg (sgC s (.slice ad m c)).toArray, .int .i64 es]) ∧ OwnB w' W.heap.size (.slice ad m c) s.2 ∧ Below W.heap.size W w') := fun W => by rw [HS.out, HES.out]; exact qcSeal_own seed tr h W HSL.out HOH.out HTL.out
    have HDK : Hid (R = L.map (·.1) ++ honestR seed h (tr :: ts.drop (k + 1))) := by show _ = _; rw [HPL.out.1, dropT HLT.out, ← HTT.out]
    clear hat hr0
    go_wp2
    go_cut [8, 9] from 19 to 28 (fun a b W => ∃ g8 ad nz cc, a = .pointer (some ⟨g8, 0, none⟩) ∧ b = .int .i64 es ∧ HnI w g2 g6 seed h (.slice uA uM uC) L W ∧ Blk W g8 (sgC s (.slice ad nz cc)) 30 ∧ OwnB W (g6 + 1) (.slice ad nz cc) s.2 ∧ some g8 ≠ (Value.slice uA uM uC).ownBlock)
    case first =>
      refine wp_region_held_drew (S := Over (World.drew wr)) (by kernel_rfl) (Over.refl _) ?_
      intro hS
      replace HI : Hid (HnI w g2 g6 seed h (.slice uA uM uC) L (World.drew wr)) := HI.out.drew
      change wpAnyH _ _ _ _ _ _ _ _ (World.drew wr)
      generalize World.drew wr = y0 at *
      try simp only [Act.put]
      refine wpAnyH_take (i := 0) (v := .agg (cb seed).toArray) rfl (by kernel_rfl) (by kernel_rfl) (by kernel_rfl) (fun _ _ _ h => h) (Or.inl ⟨by rfl, fun wx hx => by exact loadDigest _ g2 seed HSL.out (HI.out.next hx).sd rfl rfl⟩) hS ?_
      simp only [Act.put, List.getElem_toArray, List.getElem_cons_zero, List.setIfInBounds_toArray, List.set_cons_zero, List.set_cons_succ]
      refine wpAnyH_take (i := 1) (v := .agg (hdC h).toArray) rfl (by kernel_rfl) (by kernel_rfl) (by kernel_rfl) (fun _ _ _ h => h) (Or.inl ⟨by rfl, fun wx hx => by exact loadHdAt _ g6 0 h ((HI.out.next hx).hd.hdAt HOH.out) rfl rfl⟩) hS ?_
      simp only [Act.put, List.getElem_toArray, List.getElem_cons_succ, List.getElem_cons_zero, List.setIfInBounds_toArray, List.set_cons_zero, List.set_cons_succ]
      refine wpAnyH_take (i := 2) (v := .slice (some ⟨bt0, ot, none⟩) n ct) rfl (by kernel_rfl) (by kernel_rfl) (by kernel_rfl) (fun _ _ _ h => h) (Or.inl ⟨by rfl, fun wx hx => by simp [go_sem]⟩) hS ?_
      simp only [Act.put, List.getElem_toArray, List.getElem_cons_succ, List.getElem_cons_zero, List.setIfInBounds_toArray, List.set_cons_zero, List.set_cons_succ]
      refine wpAnyH_take (i := 3) (v := .int .i64 (k : Int)) rfl (by kernel_rfl) (by kernel_rfl) (by kernel_rfl) (fun _ _ _ h => h) (Or.inl ⟨by rfl, fun wx hx => by simp [go_sem]⟩) hS ?_
      simp only [Act.put, List.getElem_toArray, List.getElem_cons_succ, List.getElem_cons_zero, List.setIfInBounds_toArray, List.set_cons_zero, List.set_cons_succ]
      refine wpAnyH_take (i := 4) (v := .pointer (some ⟨bt0, ot + k * 32, none⟩)) rfl (by kernel_rfl) (by kernel_rfl) (by kernel_rfl) (fun _ _ _ h => h) (Or.inl ⟨by rfl, fun wx hx => by exact idx32 bt0 ot ct n k hlt _ _ _ _ rfl rfl rfl _⟩) hS ?_
      simp only [Act.put, List.getElem_toArray, List.getElem_cons_succ, List.getElem_cons_zero, List.setIfInBounds_toArray, List.set_cons_zero, List.set_cons_succ]
      refine wpAnyH_take (i := 5) (v := .agg (cb tr).toArray) rfl (by kernel_rfl) (by kernel_rfl) (by kernel_rfl) (fun _ _ _ h => h) (Or.inl ⟨by rfl, fun wx hx => by exact loadDigAt _ bt0 (ot + k * 32) tr HTL.out (HTR.out _ (HI.out.next hx).bel) rfl rfl⟩) hS ?_
      simp only [Act.put, List.getElem_toArray, List.getElem_cons_succ, List.getElem_cons_zero, List.setIfInBounds_toArray, List.set_cons_zero, List.set_cons_succ]
      refine wpAnyH_pair 6 10 (by kernel_rfl) ?_ ?_
      · refine wpOp_en 6 (by rfl) (by rfl) (f := 46) (args := #[.agg (cb seed).toArray, .agg (hdC h).toArray, .agg (cb tr).toArray]) (by simp [go_sem]) (HC1.out _) ?_
        rintro e z1 ⟨ad, nz, cc, rfl, hov, hb⟩
        replace hS := Over.more hS hb
        refine ⟨_, rfl, hS, ?_⟩
        simp only [Act.put, List.getElem_toArray, List.getElem_cons_succ, List.getElem_cons_zero, List.setIfInBounds_toArray, List.set_cons_zero, List.set_cons_succ]
        refine wpAnyH_take (i := 7) (v := .tuple #[.agg (sgC s (.slice ad nz cc)).toArray, .int .i64 es]) rfl (by kernel_rfl) (by kernel_rfl) (by kernel_rfl) (fun _ _ _ h => h) (Or.inl ⟨by rfl, fun wx hx => by simp [go_sem]⟩) hS ?_
        simp only [Act.put, List.getElem_toArray, List.getElem_cons_succ, List.getElem_cons_zero, List.setIfInBounds_toArray, List.set_cons_zero, List.set_cons_succ]
        refine wpAnyH_take (i := 8) (v := .agg (sgC s (.slice ad nz cc)).toArray) rfl (by kernel_rfl) (by kernel_rfl) (by kernel_rfl) (fun _ _ _ h => h) (Or.inl ⟨by rfl, fun wx hx => by simp [go_sem]⟩) hS ?_
        simp only [Act.put, List.getElem_toArray, List.getElem_cons_succ, List.getElem_cons_zero, List.setIfInBounds_toArray, List.set_cons_zero, List.set_cons_succ]
        refine wpAnyH_take (i := 9) (v := .int .i64 es) rfl (by kernel_rfl) (by kernel_rfl) (by kernel_rfl) (fun _ _ _ h => h) (Or.inl ⟨by rfl, fun wx hx => by simp [go_sem]⟩) hS ?_
        simp only [Act.put, List.getElem_toArray, List.getElem_cons_succ, List.getElem_cons_zero, List.setIfInBounds_toArray, List.set_cons_zero, List.set_cons_succ]
        have hb2 := below_alloc z1 (.cells (sgC zeroS (.slice none 0 0)).toArray 30)
        have hba : Blk (z1.alloc (.cells (sgC zeroS (.slice none 0 0)).toArray 30)) z1.heap.size (sgC zeroS (.slice none 0 0)) 30 := Blk.new _ _ _
        have hsz : y0.heap.size ≤ z1.heap.size := Below.size hS
        replace hS := Over.more hS hb2
        refine wpAnyH_step 10 (.pointer (some ⟨z1.heap.size, 0, none⟩)) (z1.alloc (.cells (sgC zeroS (.slice none 0 0)).toArray 30)) (by kernel_rfl) rfl (by rfl) (alloc_sg _ _ rfl _) hS ?_
        simp only [Act.put, List.getElem_toArray, List.getElem_cons_succ, List.getElem_cons_zero, List.setIfInBounds_toArray, List.set_cons_zero, List.set_cons_succ]
        generalize z1.alloc (.cells (sgC zeroS (.slice none 0 0)).toArray 30) = z2 at *
        obtain ⟨ga, HGA⟩ : ∃ z, Hid (z = z1.heap.size) := ⟨_, rfl⟩
        have hgw : y0.heap.size ≤ ga := by rw [HGA.out]; exact hsz
        have hgz : z1.heap.size ≤ ga := by rw [HGA.out]; exact Nat.le_refl _
        rw [← HGA.out] at hba ⊢
        clear HGA hsz hb
        refine wpAnyH_storeRow 11 30 (.tmp 8) (.tmp 27) ga (sgC zeroS (.slice none 0 0)) (sgC s (.slice ad nz cc)) hba (by rw [len_sgC HOS.out, len_sgC okS_zero]) (info_sgC HOS.out _) (sgC_one _ _ _ _) (by kernel_rfl) rfl (by rfl) rfl rfl rfl ?_
        intro yE hs
        have hovE : OwnB yE (g6 + 1) (.slice ad nz cc) s.2 := OwnB.mono (hov.same fun k hk => by rw [hs.only.block k (by have := hov.lt k hk; omega) (Nat.lt_of_lt_of_le (hov.lt k hk) hb2.size), hb2.block k (hov.lt k hk)]) HI.out.size
        replace hS : Over y0 yE := Below.trans hS (hs.only.below hgw (Below.size hS))
        refine ⟨hS, ?_⟩
        simp only [Act.put, List.getElem_toArray, List.getElem_cons_succ, List.getElem_cons_zero]
        refine wpAnyH_take (i := 12) (v := .int .i64 es) rfl (by kernel_rfl) (by kernel_rfl) (by kernel_rfl) (fun _ _ _ h => h) (Or.inl ⟨by rfl, fun wx hx => by simp [go_sem]⟩) hS ?_
        simp only [Act.put, List.getElem_toArray, List.getElem_cons_succ, List.getElem_cons_zero, List.setIfInBounds_toArray, List.set_cons_zero, List.set_cons_succ]
        refine wpAnyH_done (by kernel_rfl) ?_ _
        go_wp2
        go_meet
        case rel => exact ⟨ga, ad, nz, cc, rfl, rfl, HI.out.next hS, hs.blk, hovE, fun e => by have h1 := (HI.out.own.lt ga e.symm).2; omega⟩
      · have hb2 := below_alloc y0 (.cells (sgC zeroS (.slice none 0 0)).toArray 30)
        have hba : Blk (y0.alloc (.cells (sgC zeroS (.slice none 0 0)).toArray 30)) y0.heap.size (sgC zeroS (.slice none 0 0)) 30 := Blk.new _ _ _
        replace hS := Over.more hS hb2
        refine wpOp_vl 10 (.pointer (some ⟨y0.heap.size, 0, none⟩)) (y0.alloc (.cells (sgC zeroS (.slice none 0 0)).toArray 30)) (by rfl) (by rfl) (alloc_sg _ _ rfl _) ⟨hS, ?_⟩
        simp only [Act.put, List.getElem_toArray, List.getElem_cons_succ, List.getElem_cons_zero, List.setIfInBounds_toArray, List.set_cons_zero, List.set_cons_succ]
        clear hb2
        generalize y0.alloc (.cells (sgC zeroS (.slice none 0 0)).toArray 30) = z1 at *
        obtain ⟨ga, HGA⟩ : ∃ z, Hid (z = y0.heap.size) := ⟨_, rfl⟩
        have hgw : y0.heap.size ≤ ga := by rw [HGA.out]; exact Nat.le_refl _
        rw [← HGA.out] at hba ⊢
        clear HGA
        have hgl : ga < z1.heap.size := hba.lt
        have hsz1 : y0.heap.size ≤ z1.heap.size := Below.size hS
        refine wpAnyH_enter 6 (by kernel_rfl) rfl (by rfl) (f := 46) (args := #[.agg (cb seed).toArray, .agg (hdC h).toArray, .agg (cb tr).toArray]) (by simp [go_sem]) (HC1.out _) ?_
        rintro e z2 ⟨ad, nz, cc, rfl, hov, hb⟩
        replace hS := Over.more hS hb
        replace hba := hba.below hb hba.lt
        refine ⟨_, rfl, hS, ?_⟩
        clear hb
        simp only [Act.put, List.getElem_toArray, List.getElem_cons_succ, List.getElem_cons_zero, List.setIfInBounds_toArray, List.set_cons_zero, List.set_cons_succ]
        refine wpAnyH_take (i := 7) (v := .tuple #[.agg (sgC s (.slice ad nz cc)).toArray, .int .i64 es]) rfl (by kernel_rfl) (by kernel_rfl) (by kernel_rfl) (fun _ _ _ h => h) (Or.inl ⟨by rfl, fun wx hx => by simp [go_sem]⟩) hS ?_
        simp only [Act.put, List.getElem_toArray, List.getElem_cons_succ, List.getElem_cons_zero, List.setIfInBounds_toArray, List.set_cons_zero, List.set_cons_succ]
        refine wpAnyH_take (i := 8) (v := .agg (sgC s (.slice ad nz cc)).toArray) rfl (by kernel_rfl) (by kernel_rfl) (by kernel_rfl) (fun _ _ _ h => h) (Or.inl ⟨by rfl, fun wx hx => by simp [go_sem]⟩) hS ?_
        simp only [Act.put, List.getElem_toArray, List.getElem_cons_succ, List.getElem_cons_zero, List.setIfInBounds_toArray, List.set_cons_zero, List.set_cons_succ]
        refine wpAnyH_take (i := 9) (v := .int .i64 es) rfl (by kernel_rfl) (by kernel_rfl) (by kernel_rfl) (fun _ _ _ h => h) (Or.inl ⟨by rfl, fun wx hx => by simp [go_sem]⟩) hS ?_
        simp only [Act.put, List.getElem_toArray, List.getElem_cons_succ, List.getElem_cons_zero, List.setIfInBounds_toArray, List.set_cons_zero, List.set_cons_succ]
        refine wpAnyH_storeRow 11 30 (.tmp 8) (.tmp 27) ga (sgC zeroS (.slice none 0 0)) (sgC s (.slice ad nz cc)) hba (by rw [len_sgC HOS.out, len_sgC okS_zero]) (info_sgC HOS.out _) (sgC_one _ _ _ _) (by kernel_rfl) rfl (by rfl) rfl rfl rfl ?_
        intro yE hs
        have hovE : OwnB yE (g6 + 1) (.slice ad nz cc) s.2 := OwnB.mono (hov.same fun k hk => hs.only.block k (by have := hov.own k hk; omega) (hov.lt k hk)) (Nat.le_trans HI.out.size hsz1)
        replace hS : Over y0 yE := Below.trans hS (hs.only.below hgw (Below.size hS))
        refine ⟨hS, ?_⟩
        simp only [Act.put, List.getElem_toArray, List.getElem_cons_succ, List.getElem_cons_zero]
        refine wpAnyH_take (i := 12) (v := .int .i64 es) rfl (by kernel_rfl) (by kernel_rfl) (by kernel_rfl) (fun _ _ _ h => h) (Or.inl ⟨by rfl, fun wx hx => by simp [go_sem]⟩) hS ?_
        simp only [Act.put, List.getElem_toArray, List.getElem_cons_succ, List.getElem_cons_zero, List.setIfInBounds_toArray, List.set_cons_zero, List.set_cons_succ]
        refine wpAnyH_done (by kernel_rfl) ?_ _
        go_wp2
        go_meet
        case rel => exact ⟨ga, ad, nz, cc, rfl, rfl, HI.out.next hS, hs.blk, hovE, fun e => by have h1 := (HI.out.own.lt ga e.symm).2; omega⟩
    case rest =>
      obtain ⟨g8, ad, nz, cc, rfl, rfl, hI2, hb8, hov, hnr⟩ := hcut
      replace HI : Hid (HnI w g2 g6 seed h (.slice uA uM uC) L wc) := hI2
      have HI8 : Hid (Blk wc g8 (sgC s (.slice ad nz cc)) 30) := hb8
      have HOV : Hid (OwnB wc (g6 + 1) (.slice ad nz cc) s.2) := hov
      have HNR : Hid (some g8 ≠ (Value.slice uA uM uC).ownBlock) := hnr
      have HN86 : Hid (g8 ≠ g6) := fun e => by
        have h1 := hb8
        have h2 := hI2.hd
        rw [e] at h1
        unfold Blk at h1 h2
        rw [h1] at h2
        simp only [Option.some.injEq, Obj.cells.injEq] at h2
        exact absurd h2.2.1 (by decide)
      clear hI2 hb8 hov hnr
      by_cases hes : es = 0
      case neg =>
        have q1 : (es == 0) = false := by rw [beq_eq_false_iff_ne]; exact hes
        have p1 : (es != 0) = true := by rw [bne, q1]; rfl
        have HZ : Hid (R = L.map (·.1)) := by show _ = _; rw [HDK.out, honestR, if_neg (by rw [← HES.out]; exact hes), List.append_nil]
        clear hes
        go_wp2
        go_ret
        exact ⟨_, rfl, by rw [HZ.out]; exact HI.out.reads, HI.out.bel⟩
      case pos =>
        have q1 : (es == 0) = true := by rw [beq_iff_eq]; exact hes
        have p1 : (es != 0) = false := by rw [bne, q1]; rfl
        obtain ⟨ep, HEP⟩ : ∃ c, Hid (c = s.1.1) := ⟨_, rfl⟩
        obtain ⟨nx, HNX⟩ : ∃ c, Hid (c = s.1.2.2.2) := ⟨_, rfl⟩
        obtain ⟨dg, HDG⟩ : ∃ c, Hid (c = dig (rbS s)) := ⟨_, rfl⟩
        obtain ⟨rt, HRT⟩ : ∃ c, Hid (c = rtC s) := ⟨_, rfl⟩
        have HLX : Hid (dg.length = 32 ∧ nx.length = 32) := by rw [HDG.out, HNX.out]; exact ⟨len_dig' _, HOS.out.2.2.1⟩
        have HO2 : Hid (okH (ep, dg, nx)) := okH_mk HLX.out.1 HLX.out.2 (by rw [HEP.out]; exact HOS.out.2.2.2)
        have HC3 : Hid (∀ W : World, Calls Tryd.prog 47 #[.agg rt.toArray] W fun e w' => e = .returned (.agg (cb dg).toArray) ∧ Below W.heap.size W w') := fun W => by rw [HRT.out, HDG.out]; exact hRoot_any s.1.1 s.1.2.1 s.1.2.2.1 s.1.2.2.2 W ⟨HOS.out.1, HOS.out.2.1, HOS.out.2.2.1, HOS.out.2.2.2⟩
        have HPN : Hid (R = (L ++ [(s, Value.slice ad nz cc)]).map (·.1) ++ honestR seed (ep, dg, nx) (ts.drop (k + 1)) ∧ (L ++ [(s, Value.slice ad nz cc)]).length = k + 1) := by
          refine ⟨?_, by rw [List.length_append, HPL.out.2]; rfl⟩
          rw [HDK.out, honestR, if_pos (by rw [← HES.out]; exact hes), ← HS.out, HEP.out, HDG.out, HNX.out, List.map_append, List.append_assoc]
          rfl
        have HLL : Hid (L.length < 1000000) := by show _ < _; rw [HPL.out.2]; have := HNL.out; omega
        clear hes HDG HDK HS HES HC1 HR
        have tk80 : Hid True := trivial
        have tk81 : Hid True := trivial
        have tk82 : Hid True := trivial
        go_upto_region 10 with (first
          | (clear tk80; with_reducible refine wpSeq_loadW 30 (.tmp 8) g8 0 (sgC s (.slice ad nz cc)) _ ?_ Tryd.underlying30 rfl ?_ ?_ ?_ ?_ ?_
             · exact HI8.out.range
             · exact info_sgC HOS.out _
             · rfl
             · rfl
             · rfl)
          | (clear tk81; with_reducible refine wpSeq_buildS (.tmp 33) s (.slice ad nz cc) HOS.out ?_ ?_ ?_ ?_
             · rfl
             · rfl
             · rfl
             intro gq y91 nn
             replace HI : Hid (HnI w g2 g6 seed h (.slice uA uM uC) L y91) := HI.out.next nn.below
             replace HI8 : Hid (Blk y91 g8 (sgC s (.slice ad nz cc)) 30) := HI8.out.below nn.below HI8.out.lt
             replace HOV : Hid (OwnB y91 (g6 + 1) (.slice ad nz cc) s.2) := HOV.out.same fun k hk => nn.below.block k (HOV.out.lt k hk)
             have HGQ : Hid (Blk y91 gq (sgC s (.slice ad nz cc)) 30) := nn.blk
             clear nn)
          | (clear tk82; with_reducible refine wpSeq_appendSg (.tmp 32) (.tmp 34) (g6 + 1) (.slice uA uM uC) L s ad nz cc gq HI.out.own HGQ.out HOS.out HLL.out HI.out.size ?_ ?_ ?_ ?_ ?_
             · rfl
             · rfl
             · rfl
             · rfl
             intro v9 y92 hown hgr
             have HI2 : Hid (HnI w g2 g6 seed h v9 (L ++ [(s, (.slice ad nz cc))]) y92) := HI.out.more HOV.out hown hgr
             have HK8 : Hid (∃ sv, SgAt y92 g8 0 s sv) := by
               have hne : some g8 ≠ (Value.slice uA uM uC).ownBlock := HNR.out
               have hb : y92.heap[g8]? = y91.heap[g8]? := hgr.other g8 hne HI8.out.lt
               refine ⟨(.slice ad nz cc), ?_⟩
               have h1 := HI8.out.sgAt HOS.out
               exact ⟨fun j v hj => by rw [← h1.all j v hj]; exact World.cell?_of_block hb, h1.ok⟩
             clear hown hgr HI HGQ HI8 HOV))
        obtain ⟨sv, HS8⟩ : ∃ sv, Hid (SgAt y92 g8 0 s sv) := HK8.out
        clear HK8
        refine wp_region_held_drew (S := Only g6 (World.drew y92)) (by kernel_rfl) (Only.refl _ _) ?_
        intro hS
        replace HI2 : Hid (HnI w g2 g6 seed h v9 (L ++ [(s, (.slice ad nz cc))]) (World.drew y92)) := HI2.out.drew
        replace HS8 : Hid (SgAt (World.drew y92) g8 0 s sv) := ⟨HS8.out.all, HS8.out.ok⟩
        change wpAnyH _ _ _ _ _ _ _ _ (World.drew y92)
        generalize World.drew y92 = y7 at *
        try simp only [Act.put]
        refine wpAnyH_take (i := 0) (v := .pointer (some ⟨g8, 0, none⟩)) rfl (by kernel_rfl) (by kernel_rfl) (by kernel_rfl) (fun _ _ _ h => h) (Or.inl ⟨by rfl, fun wx hx => by simp [go_sem]⟩) hS ?_
        simp only [Act.put, List.getElem_toArray, List.getElem_cons_zero, List.setIfInBounds_toArray, List.set_cons_zero, List.set_cons_succ]
        refine wpAnyH_take (i := 1) (v := .pointer (some ⟨g8, 0, none⟩)) rfl (by kernel_rfl) (by kernel_rfl) (by kernel_rfl) (fun _ _ _ h => h) (Or.inl ⟨by rfl, fun wx hx => by simp [go_sem]⟩) hS ?_
        simp only [Act.put, List.getElem_toArray, List.getElem_cons_succ, List.getElem_cons_zero, List.setIfInBounds_toArray, List.set_cons_zero, List.set_cons_succ]
        refine wpAnyH_take (i := 2) (v := .int .u64 (ep : Int)) rfl (by kernel_rfl) (by kernel_rfl) (by kernel_rfl) (fun _ _ _ h => h) (Or.inl ⟨by rfl, fun wx hx => by (have cm : wx.cell? ⟨g8, 0, none⟩ = some (.int .u64 (ep : Int)) := by rw [HEP.out]; exact (HS8.out.only hx HN86.out).ep); simp [go_sem, cm]⟩) hS ?_
        simp only [Act.put, List.getElem_toArray, List.getElem_cons_succ, List.getElem_cons_zero, List.setIfInBounds_toArray, List.set_cons_zero, List.set_cons_succ]
        refine wpAnyH_take (i := 3) (v := .pointer (some ⟨g8, 0, none⟩)) rfl (by kernel_rfl) (by kernel_rfl) (by kernel_rfl) (fun _ _ _ h => h) (Or.inl ⟨by rfl, fun wx hx => by simp [go_sem]⟩) hS ?_
        simp only [Act.put, List.getElem_toArray, List.getElem_cons_succ, List.getElem_cons_zero, List.setIfInBounds_toArray, List.set_cons_zero, List.set_cons_succ]
        refine wpAnyH_take (i := 4) (v := .agg rt.toArray) rfl (by kernel_rfl) (by kernel_rfl) (by kernel_rfl) (fun _ _ _ h => h) (Or.inl ⟨by rfl, fun wx hx => by rw [HRT.out]; exact loadRtAt _ g8 0 s HOS.out (HS8.out.only hx HN86.out).root rfl rfl⟩) hS ?_
        simp only [Act.put, List.getElem_toArray, List.getElem_cons_succ, List.getElem_cons_zero, List.setIfInBounds_toArray, List.set_cons_zero, List.set_cons_succ]
        refine wpAnyH_take (i := 6) (v := .pointer (some ⟨g8, 0, none⟩)) rfl (by kernel_rfl) (by kernel_rfl) (by kernel_rfl) (fun _ _ _ h => h) (Or.inl ⟨by rfl, fun wx hx => by simp [go_sem]⟩) hS ?_
        simp only [Act.put, List.getElem_toArray, List.getElem_cons_succ, List.getElem_cons_zero, List.setIfInBounds_toArray, List.set_cons_zero, List.set_cons_succ]
        refine wpAnyH_take (i := 7) (v := .pointer (some ⟨g8, 65, none⟩)) rfl (by kernel_rfl) (by kernel_rfl) (by kernel_rfl) (fun _ _ _ h => h) (Or.inl ⟨by rfl, fun wx hx => by simp [go_sem]⟩) hS ?_
        simp only [Act.put, List.getElem_toArray, List.getElem_cons_succ, List.getElem_cons_zero, List.setIfInBounds_toArray, List.set_cons_zero, List.set_cons_succ]
        refine wpAnyH_take (i := 8) (v := .agg (cb nx).toArray) rfl (by kernel_rfl) (by kernel_rfl) (by kernel_rfl) (fun _ _ _ h => h) (Or.inl ⟨by rfl, fun wx hx => by exact loadDigAt _ g8 65 nx HLX.out.2 (by rw [HNX.out]; exact (HS8.out.only hx HN86.out).next) rfl rfl⟩) hS ?_
        simp only [Act.put, List.getElem_toArray, List.getElem_cons_succ, List.getElem_cons_zero, List.setIfInBounds_toArray, List.set_cons_zero, List.set_cons_succ]
        refine wpAnyH_enter 5 (by kernel_rfl) rfl (by rfl) (f := 47) (args := #[.agg rt.toArray]) (by simp [go_sem]) (HC3.out _) ?_
        rintro e y8 ⟨rfl, hbq⟩
        replace hS := hS.still hbq
        replace HI2 : Hid (HnI w g2 g6 seed h v9 (L ++ [(s, Value.slice ad nz cc)]) y8) := HI2.out.next hbq
        refine ⟨_, rfl, hS, ?_⟩
        clear hbq
        simp only [Act.put, List.getElem_toArray, List.getElem_cons_succ, List.getElem_cons_zero, List.setIfInBounds_toArray, List.set_cons_zero, List.set_cons_succ]
        refine wpAnyH_take (i := 9) (v := .agg (hdC (ep, dg, nx)).toArray) rfl (by kernel_rfl) (by kernel_rfl) (by kernel_rfl) (fun _ _ _ h => h) (Or.inl ⟨by rfl, fun wx hx => by refine build_op _ _ 50 [(0, .tmp 38), (1, .tmp 41), (2, .tmp 44)] rfl _ ?_ _; exact (built_head _).trans (fill_hd HLX.out.1 HLX.out.2)⟩) hS ?_
        simp only [Act.put, List.getElem_toArray, List.getElem_cons_succ, List.getElem_cons_zero, List.setIfInBounds_toArray, List.set_cons_zero, List.set_cons_succ]
        refine wpAnyH_storeRow 10 50 (.tmp 6) (.tmp 45) g6 (hdC h) (hdC (ep, dg, nx)) HI2.out.hd (by rw [len_hdC HO2.out, len_hdC HOH.out]) (info_hdC HO2.out) (hdC_one _) (by kernel_rfl) rfl (by rfl) rfl rfl rfl ?_
        intro y9 hs
        replace hS := hS.trans hs.only
        refine ⟨hS, ?_⟩
        simp only [Act.put, List.getElem_toArray, List.getElem_cons_succ, List.getElem_cons_zero]
        refine wpAnyH_done (by kernel_rfl) ?_ _
        have HI3 : Hid (HnI w g2 g6 seed (ep, dg, nx) v9 (L ++ [(s, Value.slice ad nz cc)]) y9) := HI2.out.head hs
        obtain ⟨wA, wC, hw9⟩ := HI3.out.own.slice
        obtain ⟨wM, HWM⟩ : ∃ m, Hid (m = (L ++ [(s, Value.slice ad nz cc)]).length) := ⟨_, rfl⟩
        rw [← HWM.out] at hw9
        subst hw9
        clear hS hs HI2
        go_wp2
        go_roundw
        case rel => exact ⟨k + 1, (ep, dg, nx), wA, wM, wC, _, by omega, by simp, rfl, HO2, HPN, HI3⟩
        case measure => simp [intOf]; omega
end Go.Proofs.YtableajopaappaaDoor
/- What breaks tells: a signed root that is taken by a seed's key, and is not what that key signed, breaks something (layer 12). -/
namespace Go.Proofs.YtableajopaappaaDoor
open Go.RowKit Go.Shelf
set_option maxRecDepth 100000
theorem cut64 (bs offs cps k : Nat) (hk : k < 256) (hc : 16384 ≤ cps) (a : Act) (o : Oper) (x lo : Operand) (w : World) {hi : Operand} (ho : o.op = .slice 28 x (some lo) (some hi) none) (hx : a.eval x = .slice (some ⟨bs, offs, none⟩) 16384 cps) (hlo : a.eval lo = .int .i64 (64 * (k : Int))) (hhi : a.eval hi = .int .i64 (64 * (k : Int) + 32)) :
    (execOp a.eval o).run Tryd.prog w = .ok (.value (.slice (some ⟨bs, offs + 32 * (2 * k), none⟩) 32 (cps - 32 * (2 * k)))) w := by
  have e1 : 64 * (k : Int) = ((32 * (2 * k) : Nat) : Int) := by omega
  have e2 : 64 * (k : Int) + 32 = ((32 * (2 * k) + 32 : Nat) : Int) := by omega
  rw [e1] at hlo
  rw [e2] at hhi
  unfold execOp
  rw [ho]
  simp only [hx, hlo, hhi, Option.map_some, Option.map_none, Sem.run_bind, cut_run bs offs 16384 cps (32 * (2 * k)) 32 (by decide) (by omega) hc w]
  rfl
theorem form16 {sg : List (BitVec 8)} (h : sg.length = 16384) {W : World} {v : Value} (hr : Reads W v sg) : ∃ bs offs cps, v = .slice (some ⟨bs, offs, none⟩) 16384 cps ∧ 16384 ≤ cps := by
  obtain ⟨ad, cp, hv, hc, _, hx⟩ := hr
  obtain ⟨bs, offs, rfl, _⟩ := hx (by omega)
  rw [h] at hv hc
  exact ⟨bs, offs, cp, hv, hc⟩
theorem wpSeq_neS {ops : Array Oper} {Q : Exit → Act → World → Prop} {rest : List Oper} {o : Oper} {a : Act} {w : World} (x y : Operand) (p q : ByteArray) (c : Bool) (hc : (!(p.toList == q.toList)) = c) (ho : o.op = .binOp .neq 9 x y 9) (hx : a.eval x = .string p) (hy : a.eval y = .string q) (hw : Region.wanted o (yielded ops a.tmps) = true)
    (h : wpList Tryd.prog ops Q rest (a.put o.dst (.bool c)) w) : wpList Tryd.prog ops Q (o :: rest) a w := by
  refine wpSeq_val _ w hw ?_ h
  clear h hw
  generalize a.eval = f at hx hy ⊢
  unfold execOp
  rw [ho]
  subst hc
  simp [go_sem, hx, hy]
structure BrI (w : World) (g4 g7 g13 g14 : Nat) (seed : Bs) (csg : List Value) (dw d : Bs) (W : World) : Prop where
  a : Blk W g4 (cb seed) 23
  b : Blk W g7 csg 30
  c : Blk W g13 (cb dw) 23
  d : Blk W g14 (cb d) 23
  bel : Below w.heap.size w W
set_option maxRecDepth 100000 in
set_option maxHeartbeats 8000000 in
theorem breaks12_any (seed : Bs) (key : Nat) (vw : Value) (was : Bs) (s : SgT) (vs : Value) (w : World) (hs : seed.length = 32) (hk : key < 18446744073709551616) (hw : Reads w vw was) (hwl : was.length ≤ 1000) (os : okS s) (hr : Reads w vs s.2) (hne : was ≠ rbS s) (hck : checkE (pubR seed key) (rbS s) s.2 = 0) :
    Calls Tryd.prog 28 #[.agg (cb seed).toArray, .int .u64 (key : Int), vw, .agg (sgC s vs).toArray] w fun r w' => r = .returned (.bool true) ∧ Below w.heap.size w w' := by
  obtain ⟨hsl, hop, htx⟩ := taken_tells hck
  obtain ⟨bs, offs, cps, hvs, hcps⟩ := form16 hsl hr
  subst hvs
  obtain ⟨aw, cw, hvw, hqw⟩ := id hw
  clear hqw
  obtain ⟨nw, HNW⟩ : ∃ n, Hid (n = was.length) := ⟨_, rfl⟩
  rw [← HNW.out] at hvw
  subst hvw
  have HSD : Hid (seed.length = 32) := hs
  have HKL : Hid (key < 18446744073709551616) := hk
  have HSL : Hid (s.2.length = 16384) := hsl
  have HCPS : Hid (16384 ≤ cps) := hcps
  have HVW : Hid (Reads w (.slice aw nw cw) was) := hw
  have HVS : Hid (Reads w (.slice (some ⟨bs, offs, none⟩) 16384 cps) s.2) := hr
  have HVS0 : Hid (Reads w (.slice (some ⟨bs, offs, none⟩) 16384 cps) s.2) := hr
  have HBW : Hid (Below w.heap.size w w) := Below.refl _ _
  have HIS : Hid ((Tryd.prog.info? 23).map (·.size) = some (cb seed).length) := by show _ = _; rw [cb_len, hs]; exact info_digest
  obtain ⟨csg, HCSG⟩ : ∃ c, Hid (c = sgC s (.slice (some ⟨bs, offs, none⟩) 16384 cps)) := ⟨_, rfl⟩
  rw [← HCSG.out]
  obtain ⟨rt, HRT⟩ : ∃ c, Hid (c = rtC s) := ⟨_, rfl⟩
  have HIR : Hid ((Tryd.prog.info? 27).map (·.size) = some rt.length) := by show _ = _; rw [HRT.out]; exact info_rtC os
  have HRG : Hid (∀ (W : World) (g : Nat), Blk W g csg 30 → W.rangeAt g 0 rt) := fun W g hg => by rw [HCSG.out] at hg; rw [HRT.out]; exact (hg.sgAt os).root
  have HCS : Hid (∀ (W : World) (g : Nat), Blk W g csg 30 → W.cell? ⟨g, 97, none⟩ = some (.slice (some ⟨bs, offs, none⟩) 16384 cps)) := fun W g hg => by rw [HCSG.out] at hg; have h := (hg.sgAt os).sig; rwa [Nat.zero_add] at h
  obtain ⟨rb, HRB⟩ : ∃ c, Hid (c = rbS s) := ⟨_, rfl⟩
  rw [← HRB.out] at hop htx hne
  have HLB : Hid (rb.length = 105) := by show _ = _; rw [HRB.out]; exact len_rbS os
  obtain ⟨d, HDD⟩ : ∃ c, Hid (c = dig rb) := ⟨_, rfl⟩
  obtain ⟨dw, HDDW⟩ : ∃ c, Hid (c = dig was) := ⟨_, rfl⟩
  have HDL : Hid (d.length = 32) := by show _ = _; rw [HDD.out]; exact len_dig' _
  have HDW : Hid (dw.length = 32) := by show _ = _; rw [HDDW.out]; exact len_dig' _
  have HID : Hid ((Tryd.prog.info? 23).map (·.size) = some (cb d).length) := by show _ = _; rw [cb_len, HDL.out]; exact info_digest
  have HIDW : Hid ((Tryd.prog.info? 23).map (·.size) = some (cb dw).length) := by show _ = _; rw [cb_len, HDW.out]; exact info_digest
  obtain ⟨t, HTD⟩ : ∃ c, Hid (c = openR (bt (dig rb)) s.2 256) := ⟨_, rfl⟩
  obtain ⟨tt, HTT⟩ : ∃ c, Hid (c = textR (partB seed key) 256) := ⟨_, rfl⟩
  rw [← HTD.out, ← HTT.out] at hop htx
  rw [← HDD.out] at htx
  obtain ⟨r, HRD⟩ : ∃ c, Hid (c = dig tt) := ⟨_, rfl⟩
  have HRL : Hid (r.length = 32) := by show _ = _; rw [HRD.out]; exact len_dig' _
  have HTX0 : Hid (t = tt → ∀ j, j < 256 → dig (blk32 s.2 (2 * j)) = dig (partB seed key j (bt d j))) := htx
  have hq2 : ∀ wx : World, (Op.equalIn 10000 23 (.agg (cb r).toArray) (.agg (cb r).toArray)).run Tryd.prog wx = .ok true wx := fun wx => eq_dig_same r HRL.out wx
  have hol : openL rb s.2 = t ∧ openE s.2 = 0 := by rw [openL, openE, if_pos hsl, if_pos hsl, HTD.out]; exact ⟨rfl, rfl⟩
  have HC1 : Hid (∀ W : World, Calls Tryd.prog 27 #[.agg rt.toArray] W fun e w' => ∃ v, e = .returned v ∧ Reads w' v rb ∧ Below W.heap.size W w') := fun W => by rw [HRT.out, HRB.out]; exact rRoot_any _ _ _ _ W ⟨os.1, os.2.1, os.2.2.1, os.2.2.2⟩
  have HCW : Hid (∀ W : World, Reads W (.slice aw nw cw) was → Calls Tryd.prog 50 #[(.slice aw nw cw)] W fun e w' => e = .returned (.agg (cb dw).toArray) ∧ Below W.heap.size W w') := fun W hv => by rw [HDDW.out]; exact rOf_any _ was W hv (by omega)
  have HCB : Hid (∀ (W : World) (v : Value), Reads W v rb → Calls Tryd.prog 50 #[v] W fun e w' => e = .returned (.agg (cb d).toArray) ∧ Below W.heap.size W w') := fun W v hv => by rw [HDD.out]; exact rOf_any v rb W hv (by rw [HLB.out]; omega)
  have HCO : Hid (∀ (W : World) (v : Value), Reads W v rb → Reads W (.slice (some ⟨bs, offs, none⟩) 16384 cps) s.2 → Calls Tryd.prog 51 #[v, (.slice (some ⟨bs, offs, none⟩) 16384 cps)] W fun e w' => ∃ u, e = .returned (.tuple #[u, .int .i64 0]) ∧ Reads w' u t ∧ Below W.heap.size W w') := fun W v hv hv2 => by
    have h := qlOpened_any v _ rb s.2 W hv hv2 (by rw [HLB.out]; omega)
    unfold OpenA at h
    rw [hol.1, hol.2] at h
    exact h
  have HCT : Hid (∀ W : World, Calls Tryd.prog 52 #[.agg (cb seed).toArray, .int .u64 (key : Int)] W fun e w' => ∃ v, e = .returned v ∧ Reads w' v tt ∧ Below W.heap.size W w') := fun W => by rw [HTT.out]; exact qlText_any seed key W ⟨HSD.out, HKL.out⟩
  have htl : tt.length = 16385 := by rw [HTT.out, len_textR]
  have htl2 : t.length < 140737488350000 := by rw [HTD.out, len_openR _ (by rw [hsl]; decide)]; decide
  have HCt : Hid (∀ (W : World) (v : Value), Reads W v t → Calls Tryd.prog 50 #[v] W fun e w' => e = .returned (.agg (cb r).toArray) ∧ Below W.heap.size W w') := fun W v hv => by rw [HRD.out, ← hop]; exact rOf_any v t W hv htl2
  have HCtt : Hid (∀ (W : World) (v : Value), Reads W v tt → Calls Tryd.prog 50 #[v] W fun e w' => e = .returned (.agg (cb r).toArray) ∧ Below W.heap.size W w') := fun W v hv => by rw [HRD.out]; exact rOf_any v tt W hv (by rw [htl]; omega)
  have HC8 : Hid (∀ (W : World) (k : Nat), k < 256 → Calls Tryd.prog 53 #[.agg (cb d).toArray, .int .i64 (k : Int)] W fun e w' => e = .returned (.bool (bt d k)) ∧ Below W.heap.size W w') := fun W k hk => by rw [← bit_nat d k hk]; exact sBit_any d HDL.out (k : Int) W
  have HC9 : Hid (∀ (W : World) (k : Nat), k < 256 → Calls Tryd.prog 53 #[.agg (cb dw).toArray, .int .i64 (k : Int)] W fun e w' => e = .returned (.bool (bt dw k)) ∧ Below W.heap.size W w') := fun W k hk => by rw [← bit_nat dw k hk]; exact sBit_any dw HDW.out (k : Int) W
  have HWB : Hid ((!((strB was).toList == (strB rb).toList)) = true) := by show _ = _; rw [strB_inj, decide_eq_false hne]; rfl
  clear hs hk hw hwl os hr hne hck hsl hop htx hcps hol htl htl2 HRB HTD HTT HRD HCSG HRT HDD HDDW
  by_cases hn0 : nw = 0
  case pos =>
    have hw0 : ¬ ((0 : Int) < (nw : Int)) := by omega
    have HNO : Hid (∀ k, k = 0 → ¬ k < 256 → False) := fun k hk hlt => by omega
    clear hn0
    by_cases htt : t = tt
    case neg =>
      have HXY : Hid ((!((strB t).toList == (strB tt).toList)) = true) := by show _ = _; rw [strB_inj, decide_eq_false htt]; rfl
      clear htt
      go_enter Tryd.func28, Tryd.ntmps28
      have tk0 : Hid True := trivial
      have tk1 : Hid True := trivial
      have tk2 : Hid True := trivial
      have tk3 : Hid True := trivial
      have tk4 : Hid True := trivial
      have tk5 : Hid True := trivial
      have tk6 : Hid True := trivial
      have tk7 : Hid True := trivial
      have tk8 : Hid True := trivial
      have tk9 : Hid True := trivial
      go_wp2_with (first
        | (clear tk0; with_reducible refine wpSeq_boxW 23 (.tmp 0) (cb seed) ?_ ?_ ?_ ?_
           · rfl
           · rfl
           · rfl
           intro g4 y1 nn
           replace HVW : Hid (Reads y1 (.slice aw nw cw) was) := HVW.out.below nn.below
           replace HVS : Hid (Reads y1 (.slice (some ⟨bs, offs, none⟩) 16384 cps) s.2) := HVS.out.below nn.below
           replace HBW : Hid (Below w.heap.size w y1) := HBW.out.trans (nn.below.mono HBW.out.size)
           have HG4 : Hid (Blk y1 g4 (cb seed) 23) := nn.blk
           clear nn
           skip)
        | (clear tk1; with_reducible refine wpSeq_boxW 30 (.tmp 3) csg ?_ ?_ ?_ ?_
           · rfl
           · rfl
           · rfl
           intro g7 y2 nn
           replace HG4 : Hid (Blk y2 g4 (cb seed) 23) := HG4.out.below nn.below HG4.out.lt
           replace HVW : Hid (Reads y2 (.slice aw nw cw) was) := HVW.out.below nn.below
           replace HVS : Hid (Reads y2 (.slice (some ⟨bs, offs, none⟩) 16384 cps) s.2) := HVS.out.below nn.below
           replace HBW : Hid (Below w.heap.size w y2) := HBW.out.trans (nn.below.mono HBW.out.size)
           have HG7 : Hid (Blk y2 g7 csg 30) := nn.blk
           clear nn
           have c97 : (y2).cell? ⟨g7, 97, none⟩ = some (.slice (some ⟨bs, offs, none⟩) 16384 cps) := HCS.out _ _ HG7.out
           skip)
        | (clear tk2; with_reducible refine wpSeq_loadW 27 (.tmp 19) g7 0 rt _ ?_ Tryd.underlying27 rfl ?_ ?_ ?_ ?_ ?_
           · exact (HRG.out _ _ HG7.out)
           · exact HIR.out
           · rfl
           · rfl
           · rfl)
        | (clear tk3; go_at_call 27; refine (HC1.out y2).mono ?_; rintro e y3 ⟨vb0, rfl, hvb, hbz⟩
           clear c97
           replace HG4 : Hid (Blk y3 g4 (cb seed) 23) := HG4.out.below hbz HG4.out.lt
           replace HG7 : Hid (Blk y3 g7 csg 30) := HG7.out.below hbz HG7.out.lt
           replace HVW : Hid (Reads y3 (.slice aw nw cw) was) := HVW.out.below hbz
           replace HVS : Hid (Reads y3 (.slice (some ⟨bs, offs, none⟩) 16384 cps) s.2) := HVS.out.below hbz
           replace HBW : Hid (Below w.heap.size w y3) := HBW.out.trans (hbz.mono HBW.out.size)
           have c97 : (y3).cell? ⟨g7, 97, none⟩ = some (.slice (some ⟨bs, offs, none⟩) 16384 cps) := HCS.out _ _ HG7.out
           obtain ⟨ab, nb, cbb, hvv⟩ := hvb.form
           subst hvv
           have HVB : Hid (Reads y3 (.slice ab nb cbb) rb) := hvb
           clear hbz hvb)
        | (clear tk4; go_at_call 51; refine (HCO.out y3 _ HVB.out HVS.out).mono ?_; rintro e y4 ⟨v10, rfl, hr10, hbz⟩
           clear c97
           replace HG4 : Hid (Blk y4 g4 (cb seed) 23) := HG4.out.below hbz HG4.out.lt
           replace HG7 : Hid (Blk y4 g7 csg 30) := HG7.out.below hbz HG7.out.lt
           replace HVW : Hid (Reads y4 (.slice aw nw cw) was) := HVW.out.below hbz
           replace HVS : Hid (Reads y4 (.slice (some ⟨bs, offs, none⟩) 16384 cps) s.2) := HVS.out.below hbz
           replace HVB : Hid (Reads y4 (.slice ab nb cbb) rb) := HVB.out.below hbz
           replace HBW : Hid (Below w.heap.size w y4) := HBW.out.trans (hbz.mono HBW.out.size)
           have c97 : (y4).cell? ⟨g7, 97, none⟩ = some (.slice (some ⟨bs, offs, none⟩) 16384 cps) := HCS.out _ _ HG7.out
           have H10 : Hid (Reads y4 v10 t) := hr10
           clear hbz hr10)
        | (clear tk5; with_reducible refine wpSeq_loadW 23 (.tmp 4) g4 0 (cb seed) _ ?_ Tryd.underlying23 rfl ?_ ?_ ?_ ?_ ?_
           · exact HG4.out.range
           · exact HIS.out
           · rfl
           · rfl
           · rfl)
        | (clear tk6; go_at_call 52; refine (HCT.out y4).mono ?_; rintro e y5 ⟨v12, rfl, hr12, hbz⟩
           clear c97
           replace HG4 : Hid (Blk y5 g4 (cb seed) 23) := HG4.out.below hbz HG4.out.lt
           replace HG7 : Hid (Blk y5 g7 csg 30) := HG7.out.below hbz HG7.out.lt
           replace HVW : Hid (Reads y5 (.slice aw nw cw) was) := HVW.out.below hbz
           replace HVS : Hid (Reads y5 (.slice (some ⟨bs, offs, none⟩) 16384 cps) s.2) := HVS.out.below hbz
           replace HVB : Hid (Reads y5 (.slice ab nb cbb) rb) := HVB.out.below hbz
           replace H10 : Hid (Reads y5 v10 t) := H10.out.below hbz
           replace HBW : Hid (Below w.heap.size w y5) := HBW.out.trans (hbz.mono HBW.out.size)
           have c97 : (y5).cell? ⟨g7, 97, none⟩ = some (.slice (some ⟨bs, offs, none⟩) 16384 cps) := HCS.out _ _ HG7.out
           have H12 : Hid (Reads y5 v12 tt) := hr12
           have hc10 := conv_reads H10.out
           have hc12 := conv_reads H12.out
           clear hbz hr12)
        | (clear tk7; with_reducible refine wpSeq_neS (.tmp 50) (.tmp 52) (strB t) (strB tt) true ?_ ?_ ?_ ?_ ?_ ?_
           · exact HXY.out
           · rfl
           · rfl
           · rfl
           · rfl
           clear hc10 hc12)
        | (clear tk8; go_at_call 50; refine (HCt.out y5 _ H10.out).mono ?_; rintro e y6 ⟨rfl, hbz⟩
           clear c97
           replace HG4 : Hid (Blk y6 g4 (cb seed) 23) := HG4.out.below hbz HG4.out.lt
           replace HG7 : Hid (Blk y6 g7 csg 30) := HG7.out.below hbz HG7.out.lt
           replace HVW : Hid (Reads y6 (.slice aw nw cw) was) := HVW.out.below hbz
           replace HVS : Hid (Reads y6 (.slice (some ⟨bs, offs, none⟩) 16384 cps) s.2) := HVS.out.below hbz
           replace HVB : Hid (Reads y6 (.slice ab nb cbb) rb) := HVB.out.below hbz
           replace H10 : Hid (Reads y6 v10 t) := H10.out.below hbz
           replace H12 : Hid (Reads y6 v12 tt) := H12.out.below hbz
           replace HBW : Hid (Below w.heap.size w y6) := HBW.out.trans (hbz.mono HBW.out.size)
           have c97 : (y6).cell? ⟨g7, 97, none⟩ = some (.slice (some ⟨bs, offs, none⟩) 16384 cps) := HCS.out _ _ HG7.out
           clear hbz )
        | (clear tk9; go_at_call 50; refine (HCtt.out y6 _ H12.out).mono ?_; rintro e y7 ⟨rfl, hbz⟩
           clear c97
           replace HG4 : Hid (Blk y7 g4 (cb seed) 23) := HG4.out.below hbz HG4.out.lt
           replace HG7 : Hid (Blk y7 g7 csg 30) := HG7.out.below hbz HG7.out.lt
           replace HVW : Hid (Reads y7 (.slice aw nw cw) was) := HVW.out.below hbz
           replace HVS : Hid (Reads y7 (.slice (some ⟨bs, offs, none⟩) 16384 cps) s.2) := HVS.out.below hbz
           replace HVB : Hid (Reads y7 (.slice ab nb cbb) rb) := HVB.out.below hbz
           replace H10 : Hid (Reads y7 v10 t) := H10.out.below hbz
           replace H12 : Hid (Reads y7 v12 tt) := H12.out.below hbz
           replace HBW : Hid (Below w.heap.size w y7) := HBW.out.trans (hbz.mono HBW.out.size)
           have c97 : (y7).cell? ⟨g7, 97, none⟩ = some (.slice (some ⟨bs, offs, none⟩) 16384 cps) := HCS.out _ _ HG7.out
           clear hbz ))
      go_ret
      exact ⟨rfl, HBW.out⟩
    case pos =>
      have HXY : Hid ((!((strB t).toList == (strB tt).toList)) = false) := by show _ = _; rw [strB_inj, decide_eq_true htt]; rfl
      have HTX : Hid (∀ j, j < 256 → dig (blk32 s.2 (2 * j)) = dig (partB seed key j (bt d j))) := HTX0.out htt
      clear htt HTX0
      go_enter Tryd.func28, Tryd.ntmps28
      have tk0 : Hid True := trivial
      have tk1 : Hid True := trivial
      have tk2 : Hid True := trivial
      have tk3 : Hid True := trivial
      have tk4 : Hid True := trivial
      have tk5 : Hid True := trivial
      have tk6 : Hid True := trivial
      have tk7 : Hid True := trivial
      have tk8 : Hid True := trivial
      have tk9 : Hid True := trivial
      have tk10 : Hid True := trivial
      have tk11 : Hid True := trivial
      have tk12 : Hid True := trivial
      have tk13 : Hid True := trivial
      go_wp2_with (first
        | (clear tk0; with_reducible refine wpSeq_boxW 23 (.tmp 0) (cb seed) ?_ ?_ ?_ ?_
           · rfl
           · rfl
           · rfl
           intro g4 y1 nn
           replace HVW : Hid (Reads y1 (.slice aw nw cw) was) := HVW.out.below nn.below
           replace HVS : Hid (Reads y1 (.slice (some ⟨bs, offs, none⟩) 16384 cps) s.2) := HVS.out.below nn.below
           replace HBW : Hid (Below w.heap.size w y1) := HBW.out.trans (nn.below.mono HBW.out.size)
           have HG4 : Hid (Blk y1 g4 (cb seed) 23) := nn.blk
           clear nn
           skip)
        | (clear tk1; with_reducible refine wpSeq_boxW 30 (.tmp 3) csg ?_ ?_ ?_ ?_
           · rfl
           · rfl
           · rfl
           intro g7 y2 nn
           replace HG4 : Hid (Blk y2 g4 (cb seed) 23) := HG4.out.below nn.below HG4.out.lt
           replace HVW : Hid (Reads y2 (.slice aw nw cw) was) := HVW.out.below nn.below
           replace HVS : Hid (Reads y2 (.slice (some ⟨bs, offs, none⟩) 16384 cps) s.2) := HVS.out.below nn.below
           replace HBW : Hid (Below w.heap.size w y2) := HBW.out.trans (nn.below.mono HBW.out.size)
           have HG7 : Hid (Blk y2 g7 csg 30) := nn.blk
           clear nn
           have c97 : (y2).cell? ⟨g7, 97, none⟩ = some (.slice (some ⟨bs, offs, none⟩) 16384 cps) := HCS.out _ _ HG7.out
           skip)
        | (clear tk2; with_reducible refine wpSeq_loadW 27 (.tmp 19) g7 0 rt _ ?_ Tryd.underlying27 rfl ?_ ?_ ?_ ?_ ?_
           · exact (HRG.out _ _ HG7.out)
           · exact HIR.out
           · rfl
           · rfl
           · rfl)
        | (clear tk3; go_at_call 27; refine (HC1.out y2).mono ?_; rintro e y3 ⟨vb0, rfl, hvb, hbz⟩
           clear c97
           replace HG4 : Hid (Blk y3 g4 (cb seed) 23) := HG4.out.below hbz HG4.out.lt
           replace HG7 : Hid (Blk y3 g7 csg 30) := HG7.out.below hbz HG7.out.lt
           replace HVW : Hid (Reads y3 (.slice aw nw cw) was) := HVW.out.below hbz
           replace HVS : Hid (Reads y3 (.slice (some ⟨bs, offs, none⟩) 16384 cps) s.2) := HVS.out.below hbz
           replace HBW : Hid (Below w.heap.size w y3) := HBW.out.trans (hbz.mono HBW.out.size)
           have c97 : (y3).cell? ⟨g7, 97, none⟩ = some (.slice (some ⟨bs, offs, none⟩) 16384 cps) := HCS.out _ _ HG7.out
           obtain ⟨ab, nb, cbb, hvv⟩ := hvb.form
           subst hvv
           have HVB : Hid (Reads y3 (.slice ab nb cbb) rb) := hvb
           clear hbz hvb)
        | (clear tk4; go_at_call 51; refine (HCO.out y3 _ HVB.out HVS.out).mono ?_; rintro e y4 ⟨v10, rfl, hr10, hbz⟩
           clear c97
           replace HG4 : Hid (Blk y4 g4 (cb seed) 23) := HG4.out.below hbz HG4.out.lt
           replace HG7 : Hid (Blk y4 g7 csg 30) := HG7.out.below hbz HG7.out.lt
           replace HVW : Hid (Reads y4 (.slice aw nw cw) was) := HVW.out.below hbz
           replace HVS : Hid (Reads y4 (.slice (some ⟨bs, offs, none⟩) 16384 cps) s.2) := HVS.out.below hbz
           replace HVB : Hid (Reads y4 (.slice ab nb cbb) rb) := HVB.out.below hbz
           replace HBW : Hid (Below w.heap.size w y4) := HBW.out.trans (hbz.mono HBW.out.size)
           have c97 : (y4).cell? ⟨g7, 97, none⟩ = some (.slice (some ⟨bs, offs, none⟩) 16384 cps) := HCS.out _ _ HG7.out
           have H10 : Hid (Reads y4 v10 t) := hr10
           clear hbz hr10)
        | (clear tk5; with_reducible refine wpSeq_loadW 23 (.tmp 4) g4 0 (cb seed) _ ?_ Tryd.underlying23 rfl ?_ ?_ ?_ ?_ ?_
           · exact HG4.out.range
           · exact HIS.out
           · rfl
           · rfl
           · rfl)
        | (clear tk6; go_at_call 52; refine (HCT.out y4).mono ?_; rintro e y5 ⟨v12, rfl, hr12, hbz⟩
           clear c97
           replace HG4 : Hid (Blk y5 g4 (cb seed) 23) := HG4.out.below hbz HG4.out.lt
           replace HG7 : Hid (Blk y5 g7 csg 30) := HG7.out.below hbz HG7.out.lt
           replace HVW : Hid (Reads y5 (.slice aw nw cw) was) := HVW.out.below hbz
           replace HVS : Hid (Reads y5 (.slice (some ⟨bs, offs, none⟩) 16384 cps) s.2) := HVS.out.below hbz
           replace HVB : Hid (Reads y5 (.slice ab nb cbb) rb) := HVB.out.below hbz
           replace H10 : Hid (Reads y5 v10 t) := H10.out.below hbz
           replace HBW : Hid (Below w.heap.size w y5) := HBW.out.trans (hbz.mono HBW.out.size)
           have c97 : (y5).cell? ⟨g7, 97, none⟩ = some (.slice (some ⟨bs, offs, none⟩) 16384 cps) := HCS.out _ _ HG7.out
           have H12 : Hid (Reads y5 v12 tt) := hr12
           have hc10 := conv_reads H10.out
           have hc12 := conv_reads H12.out
           clear hbz hr12)
        | (clear tk7; with_reducible refine wpSeq_neS (.tmp 50) (.tmp 52) (strB t) (strB tt) false ?_ ?_ ?_ ?_ ?_ ?_
           · exact HXY.out
           · rfl
           · rfl
           · rfl
           · rfl
           clear hc10 hc12)
        | (clear tk8; go_at_call 50; refine (HCW.out y5 HVW.out).mono ?_; rintro e y6 ⟨rfl, hbz⟩
           clear c97
           replace HG4 : Hid (Blk y6 g4 (cb seed) 23) := HG4.out.below hbz HG4.out.lt
           replace HG7 : Hid (Blk y6 g7 csg 30) := HG7.out.below hbz HG7.out.lt
           replace HVW : Hid (Reads y6 (.slice aw nw cw) was) := HVW.out.below hbz
           replace HVS : Hid (Reads y6 (.slice (some ⟨bs, offs, none⟩) 16384 cps) s.2) := HVS.out.below hbz
           replace HVB : Hid (Reads y6 (.slice ab nb cbb) rb) := HVB.out.below hbz
           replace H10 : Hid (Reads y6 v10 t) := H10.out.below hbz
           replace H12 : Hid (Reads y6 v12 tt) := H12.out.below hbz
           replace HBW : Hid (Below w.heap.size w y6) := HBW.out.trans (hbz.mono HBW.out.size)
           have c97 : (y6).cell? ⟨g7, 97, none⟩ = some (.slice (some ⟨bs, offs, none⟩) 16384 cps) := HCS.out _ _ HG7.out
           clear hbz )
        | (clear tk9; go_at_call 50; refine (HCB.out y6 _ HVB.out).mono ?_; rintro e y7 ⟨rfl, hbz⟩
           clear c97
           replace HG4 : Hid (Blk y7 g4 (cb seed) 23) := HG4.out.below hbz HG4.out.lt
           replace HG7 : Hid (Blk y7 g7 csg 30) := HG7.out.below hbz HG7.out.lt
           replace HVW : Hid (Reads y7 (.slice aw nw cw) was) := HVW.out.below hbz
           replace HVS : Hid (Reads y7 (.slice (some ⟨bs, offs, none⟩) 16384 cps) s.2) := HVS.out.below hbz
           replace HVB : Hid (Reads y7 (.slice ab nb cbb) rb) := HVB.out.below hbz
           replace H10 : Hid (Reads y7 v10 t) := H10.out.below hbz
           replace H12 : Hid (Reads y7 v12 tt) := H12.out.below hbz
           replace HBW : Hid (Below w.heap.size w y7) := HBW.out.trans (hbz.mono HBW.out.size)
           have c97 : (y7).cell? ⟨g7, 97, none⟩ = some (.slice (some ⟨bs, offs, none⟩) 16384 cps) := HCS.out _ _ HG7.out
           clear hbz )
        | (clear tk10; with_reducible refine wpSeq_allocD ?_ ?_ ?_
           · rfl
           · rfl
           intro g13 y8 nn
           have HW13P : Hid (w.heap.size ≤ g13) := Nat.le_trans HBW.out.size nn.ge
           have HLg13 : Hid (g4 < g13 ∧ g7 < g13) := ⟨Nat.lt_of_lt_of_le HG4.out.lt nn.ge, Nat.lt_of_lt_of_le HG7.out.lt nn.ge⟩
           clear c97
           replace HG4 : Hid (Blk y8 g4 (cb seed) 23) := HG4.out.below nn.below HG4.out.lt
           replace HG7 : Hid (Blk y8 g7 csg 30) := HG7.out.below nn.below HG7.out.lt
           replace HVW : Hid (Reads y8 (.slice aw nw cw) was) := HVW.out.below nn.below
           replace HVS : Hid (Reads y8 (.slice (some ⟨bs, offs, none⟩) 16384 cps) s.2) := HVS.out.below nn.below
           replace HVB : Hid (Reads y8 (.slice ab nb cbb) rb) := HVB.out.below nn.below
           replace H10 : Hid (Reads y8 v10 t) := H10.out.below nn.below
           replace H12 : Hid (Reads y8 v12 tt) := H12.out.below nn.below
           replace HBW : Hid (Below w.heap.size w y8) := HBW.out.trans (nn.below.mono HBW.out.size)
           have c97 : (y8).cell? ⟨g7, 97, none⟩ = some (.slice (some ⟨bs, offs, none⟩) 16384 cps) := HCS.out _ _ HG7.out
           have H13 : Hid (Blk y8 g13 (cb zb32) 23) := nn.blk
           have HW13 : Hid (w.heap.size ≤ g13) := HW13P.out
           clear nn)
        | (clear tk11; with_reducible refine wpSeq_allocD ?_ ?_ ?_
           · rfl
           · rfl
           intro g14 y9 nn
           have HLg14 : Hid (g4 < g14 ∧ g7 < g14 ∧ g13 < g14) := ⟨Nat.lt_of_lt_of_le HG4.out.lt nn.ge, Nat.lt_of_lt_of_le HG7.out.lt nn.ge, Nat.lt_of_lt_of_le H13.out.lt nn.ge⟩
           clear c97
           replace HG4 : Hid (Blk y9 g4 (cb seed) 23) := HG4.out.below nn.below HG4.out.lt
           replace HG7 : Hid (Blk y9 g7 csg 30) := HG7.out.below nn.below HG7.out.lt
           replace H13 : Hid (Blk y9 g13 (cb zb32) 23) := H13.out.below nn.below H13.out.lt
           replace HVW : Hid (Reads y9 (.slice aw nw cw) was) := HVW.out.below nn.below
           replace HVS : Hid (Reads y9 (.slice (some ⟨bs, offs, none⟩) 16384 cps) s.2) := HVS.out.below nn.below
           replace HVB : Hid (Reads y9 (.slice ab nb cbb) rb) := HVB.out.below nn.below
           replace H10 : Hid (Reads y9 v10 t) := H10.out.below nn.below
           replace H12 : Hid (Reads y9 v12 tt) := H12.out.below nn.below
           replace HBW : Hid (Below w.heap.size w y9) := HBW.out.trans (nn.below.mono HBW.out.size)
           have c97 : (y9).cell? ⟨g7, 97, none⟩ = some (.slice (some ⟨bs, offs, none⟩) 16384 cps) := HCS.out _ _ HG7.out
           have H14 : Hid (Blk y9 g14 (cb zb32) 23) := nn.blk
           clear nn)
        | (clear tk12; with_reducible refine wpSeq_storeD (.tmp 13) (.tmp 60) g13 zb32 dw ?_ ?_ ?_ ?_ ?_ ?_ ?_ ?_
           · rfl
           · exact HDW.out
           · exact H13.out
           · rfl
           · rfl
           · rfl
           · rfl
           intro y10 hs
           have HNG : Hid (g4 < g13 ∧ g7 < g13 ∧ g4 < g14 ∧ g7 < g14 ∧ g13 < g14 ∧ w.heap.size ≤ g13) := ⟨HLg13.out.1, HLg13.out.2, HLg14.out.1, HLg14.out.2.1, HLg14.out.2.2, HW13.out⟩
           clear c97
           replace HG4 : Hid (Blk y10 g4 (cb seed) 23) := HG4.out.only hs.only (by have := HNG.out; omega)
           replace HG7 : Hid (Blk y10 g7 csg 30) := HG7.out.only hs.only (by have := HNG.out; omega)
           replace H14 : Hid (Blk y10 g14 (cb zb32) 23) := H14.out.only hs.only (by have := HNG.out; omega)
           clear HVW
           clear HVS
           clear HVB
           clear H10
           clear H12
           replace H13 : Hid (Blk y10 g13 (cb dw) 23) := hs.blk
           replace HBW : Hid (Below w.heap.size w y10) := HBW.out.trans (hs.only.below (by have := HNG.out; omega) HBW.out.size)
           clear hs HNG)
        | (clear tk13; with_reducible refine wpSeq_storeD (.tmp 14) (.tmp 62) g14 zb32 d ?_ ?_ ?_ ?_ ?_ ?_ ?_ ?_
           · rfl
           · exact HDL.out
           · exact H14.out
           · rfl
           · rfl
           · rfl
           · rfl
           intro y11 hs
           have HNG : Hid (g4 < g13 ∧ g7 < g13 ∧ g4 < g14 ∧ g7 < g14 ∧ g13 < g14 ∧ w.heap.size ≤ g13) := ⟨HLg13.out.1, HLg13.out.2, HLg14.out.1, HLg14.out.2.1, HLg14.out.2.2, HW13.out⟩
           replace HG4 : Hid (Blk y11 g4 (cb seed) 23) := HG4.out.only hs.only (by have := HNG.out; omega)
           replace HG7 : Hid (Blk y11 g7 csg 30) := HG7.out.only hs.only (by have := HNG.out; omega)
           replace H13 : Hid (Blk y11 g13 (cb dw) 23) := H13.out.only hs.only (by have := HNG.out; omega)
           replace H14 : Hid (Blk y11 g14 (cb d) 23) := hs.blk
           replace HBW : Hid (Below w.heap.size w y11) := HBW.out.trans (hs.only.below (by have := HNG.out; omega) HBW.out.size)
           clear hs HNG))
      have HI0 : Hid (BrI w g4 g7 g13 g14 seed csg dw d y11) := ⟨HG4.out, HG7.out, H13.out, H14.out, HBW.out⟩
      clear HG4 HG7 H13 H14 HBW
      go_loopw [15] (fun i wr => ∃ k : Nat, k ≤ 256 ∧ i = .int .i64 (k : Int) ∧ Hid (k = 0) ∧ Hid (BrI w g4 g7 g13 g14 seed csg dw d wr)) (fun i _ => 256 - (intOf i).toNat)
      case atStart => exact ⟨0, by omega, rfl, rfl, HI0⟩
      case round =>
        obtain ⟨k, hkn, rfl, HPK, HI⟩ := hrel
        clear HI0
        by_cases hlt : k < 256
        case neg => exact (HNO.out k HPK.out hlt).elim
        have hi : (k : Int) < 256 := by omega
        have f5 : IntKind.i64.wrap ((k : Int) + 1) = (k : Int) + 1 := by rw [IntKind.wrap_i64]; omega
        have f6 : IntKind.i64.wrap (64 * (k : Int)) = 64 * (k : Int) := by rw [IntKind.wrap_i64]; omega
        have f7 : IntKind.i64.wrap (64 * (k : Int) + 32) = 64 * (k : Int) + 32 := by rw [IntKind.wrap_i64]; omega
        have HG4 : Hid (Blk wr g4 (cb seed) 23) := HI.out.a
        have HG7 : Hid (Blk wr g7 csg 30) := HI.out.b
        have H13 : Hid (Blk wr g13 (cb dw) 23) := HI.out.c
        have H14 : Hid (Blk wr g14 (cb d) 23) := HI.out.d
        have HBW : Hid (Below w.heap.size w wr) := HI.out.bel
        cases hoo : bt d k with
        | true =>
          obtain ⟨q, HQ⟩ : ∃ q, Hid (q = dig (blk32 s.2 (2 * k))) := ⟨_, rfl⟩
          have HQL : Hid (q.length = 32) := by show _ = _; rw [HQ.out]; exact len_dig' _
          have hq : ∀ wx : World, (Op.equalIn 10000 23 (.agg (cb q).toArray) (.agg (cb q).toArray)).run Tryd.prog wx = .ok true wx := fun wx => eq_dig_same q HQL.out wx
          obtain ⟨pp, HPP⟩ : ∃ p, Hid (p = partB seed key k (bt d k)) := ⟨_, rfl⟩
          have HPPL : Hid (pp.length = 32) := by show _ = _; rw [HPP.out]; exact len_partB _ _ _ _
          have HQP : Hid (q = dig pp) := by show _ = _; rw [HQ.out, HPP.out]; exact HTX.out k hlt
          have HR1 : Hid (∀ (W : World) (v : Value), Reads W v (blk32 s.2 (2 * k)) → Calls Tryd.prog 50 #[v] W fun e w' => e = .returned (.agg (cb q).toArray) ∧ Below W.heap.size W w') := fun W v hv => by rw [HQ.out]; exact rOf_any v _ W hv (by rw [len_blk32 (by have := HSL.out; omega)]; omega)
          have HR2 : Hid (∀ (W : World) (v : Value), Reads W v pp → Calls Tryd.prog 50 #[v] W fun e w' => e = .returned (.agg (cb q).toArray) ∧ Below W.heap.size W w') := fun W v hv => by rw [HQP.out]; exact rOf_any v _ W hv (by rw [HPPL.out]; omega)
          have HKY : Hid (∀ W : World, Calls Tryd.prog 54 #[.agg (cb seed).toArray, .int .u64 (key : Int), .int .i64 (k : Int), .int .i64 1] W fun e w' => e = .returned (.agg (cb pp).toArray) ∧ Below W.heap.size W w') := fun W => by
            rw [HPP.out, hoo]; exact rKeyOf_any seed key _ (k : Int) (1 : Int) W (key_place k hlt 1 (by omega)) ⟨HSD.out, HKL.out, by (split <;> omega)⟩
          clear HI
          have tk40 : Hid True := trivial
          have tk41 : Hid True := trivial
          have tk42 : Hid True := trivial
          have tk43 : Hid True := trivial
          have tk44 : Hid True := trivial
          have tk45 : Hid True := trivial
          go_upto_region 20 with (first
            | (clear tk40; with_reducible refine wpSeq_loadW 23 (.tmp 14) g14 0 (cb d) _ ?_ Tryd.underlying23 rfl ?_ ?_ ?_ ?_ ?_
               · exact H14.out.range
               · exact HID.out
               · rfl
               · rfl
               · rfl)
            | (clear tk41; go_at_call 53; refine (HC8.out wr k hlt).mono ?_; rintro e y41 ⟨rfl, hbz⟩
               replace HG4 : Hid (Blk y41 g4 (cb seed) 23) := HG4.out.below hbz HG4.out.lt
               replace HG7 : Hid (Blk y41 g7 csg 30) := HG7.out.below hbz HG7.out.lt
               replace H13 : Hid (Blk y41 g13 (cb dw) 23) := H13.out.below hbz H13.out.lt
               replace H14 : Hid (Blk y41 g14 (cb d) 23) := H14.out.below hbz H14.out.lt
               replace HBW : Hid (Below w.heap.size w y41) := HBW.out.trans (hbz.mono HBW.out.size)
               rw [hoo]
               clear hbz )
            | (clear tk42; with_reducible refine wpSeq_loadW 23 (.tmp 4) g4 0 (cb seed) _ ?_ Tryd.underlying23 rfl ?_ ?_ ?_ ?_ ?_
               · exact HG4.out.range
               · exact HIS.out
               · rfl
               · rfl
               · rfl)
            | (clear tk43; go_at_call 54; refine (HKY.out y41).mono ?_; rintro e y42 ⟨rfl, hbz⟩
               replace HG4 : Hid (Blk y42 g4 (cb seed) 23) := HG4.out.below hbz HG4.out.lt
               replace HG7 : Hid (Blk y42 g7 csg 30) := HG7.out.below hbz HG7.out.lt
               replace H13 : Hid (Blk y42 g13 (cb dw) 23) := H13.out.below hbz H13.out.lt
               replace H14 : Hid (Blk y42 g14 (cb d) 23) := H14.out.below hbz H14.out.lt
               replace HBW : Hid (Below w.heap.size w y42) := HBW.out.trans (hbz.mono HBW.out.size)
               clear hbz )
            | (clear tk44; with_reducible refine wpSeq_allocD ?_ ?_ ?_
               · rfl
               · rfl
               intro g18 y43 nn)
            | (clear tk45; with_reducible refine wpSeq_storeD (.tmp 18) (.tmp 85) g18 zb32 pp ?_ ?_ ?_ ?_ ?_ ?_ ?_ ?_
               · rfl
               · exact HPPL.out
               · exact nn.blk
               · rfl
               · rfl
               · rfl
               · rfl
               intro y44 hs
               have hbz := nn.below.trans (hs.only.below nn.ge nn.below.size)
               replace HG4 : Hid (Blk y44 g4 (cb seed) 23) := HG4.out.below hbz HG4.out.lt
               replace HG7 : Hid (Blk y44 g7 csg 30) := HG7.out.below hbz HG7.out.lt
               replace H13 : Hid (Blk y44 g13 (cb dw) 23) := H13.out.below hbz H13.out.lt
               replace H14 : Hid (Blk y44 g14 (cb d) 23) := H14.out.below hbz H14.out.lt
               replace HBW : Hid (Below w.heap.size w y44) := HBW.out.trans (hbz.mono HBW.out.size)
               have H18 : Hid (Blk y44 g18 (cb pp) 23) := hs.blk
               clear nn hs hbz))
          refine wp_region_held_drew (S := Over (World.drew y44)) (by kernel_rfl) (Over.refl _) ?_
          intro hS
          replace HG7 : Hid (Blk (World.drew y44) g7 csg 30) := HG7.out.drew
          replace H18 : Hid (Blk (World.drew y44) g18 (cb pp) 23) := H18.out.drew
          replace HBW : Hid (Below w.heap.size w (World.drew y44)) := HBW.out.drew
          change wpAnyH _ _ _ _ _ _ _ _ (World.drew y44)
          generalize World.drew y44 = y0 at *
          try simp only [Act.put, List.setIfInBounds_toArray, List.set_cons_zero, List.set_cons_succ]
          refine wpAnyH_take (i := 0) (v := .pointer (some ⟨g7, 97, none⟩)) rfl (by kernel_rfl) (by kernel_rfl) (by kernel_rfl) (fun _ _ _ h => h) (Or.inl ⟨by rfl, fun wx hx => by simp [go_sem]⟩) hS ?_
          simp only [Act.put, List.getElem_toArray, List.getElem_cons_zero, List.setIfInBounds_toArray, List.set_cons_zero, List.set_cons_succ]
          refine wpAnyH_take (i := 1) (v := .slice (some ⟨bs, offs, none⟩) 16384 cps) rfl (by kernel_rfl) (by kernel_rfl) (by kernel_rfl) (fun _ _ _ h => h) (Or.inl ⟨by rfl, fun wx hx => by (have hc : wx.cell? ⟨g7, 97, none⟩ = some (.slice (some ⟨bs, offs, none⟩) 16384 cps) := HCS.out _ _ (HG7.out.below hx HG7.out.lt)); simp [go_sem, hc]⟩) hS ?_
          simp only [Act.put, List.getElem_toArray, List.getElem_cons_succ, List.getElem_cons_zero, List.setIfInBounds_toArray, List.set_cons_zero, List.set_cons_succ]
          refine wpAnyH_take (i := 2) (v := .int .i64 (k : Int)) rfl (by kernel_rfl) (by kernel_rfl) (by kernel_rfl) (fun _ _ _ h => h) (Or.inl ⟨by rfl, fun wx hx => by simp [go_sem]⟩) hS ?_
          simp only [Act.put, List.getElem_toArray, List.getElem_cons_succ, List.getElem_cons_zero, List.setIfInBounds_toArray, List.set_cons_zero, List.set_cons_succ]
          refine wpAnyH_take (i := 3) (v := .int .i64 (64 * (k : Int))) rfl (by kernel_rfl) (by kernel_rfl) (by kernel_rfl) (fun _ _ _ h => h) (Or.inl ⟨by rfl, fun wx hx => by simp [go_sem, f6]⟩) hS ?_
          simp only [Act.put, List.getElem_toArray, List.getElem_cons_succ, List.getElem_cons_zero, List.setIfInBounds_toArray, List.set_cons_zero, List.set_cons_succ]
          refine wpAnyH_take (i := 4) (v := .int .i64 (k : Int)) rfl (by kernel_rfl) (by kernel_rfl) (by kernel_rfl) (fun _ _ _ h => h) (Or.inl ⟨by rfl, fun wx hx => by simp [go_sem]⟩) hS ?_
          simp only [Act.put, List.getElem_toArray, List.getElem_cons_succ, List.getElem_cons_zero, List.setIfInBounds_toArray, List.set_cons_zero, List.set_cons_succ]
          refine wpAnyH_take (i := 5) (v := .int .i64 (64 * (k : Int))) rfl (by kernel_rfl) (by kernel_rfl) (by kernel_rfl) (fun _ _ _ h => h) (Or.inl ⟨by rfl, fun wx hx => by simp [go_sem, f6]⟩) hS ?_
          simp only [Act.put, List.getElem_toArray, List.getElem_cons_succ, List.getElem_cons_zero, List.setIfInBounds_toArray, List.set_cons_zero, List.set_cons_succ]
          refine wpAnyH_take (i := 6) (v := .int .i64 (64 * (k : Int) + 32)) rfl (by kernel_rfl) (by kernel_rfl) (by kernel_rfl) (fun _ _ _ h => h) (Or.inl ⟨by rfl, fun wx hx => by simp [go_sem, f7]⟩) hS ?_
          simp only [Act.put, List.getElem_toArray, List.getElem_cons_succ, List.getElem_cons_zero, List.setIfInBounds_toArray, List.set_cons_zero, List.set_cons_succ]
          refine wpAnyH_take (i := 7) (v := .slice (some ⟨bs, offs + 32 * (2 * k), none⟩) 32 (cps - 32 * (2 * k))) rfl (by kernel_rfl) (by kernel_rfl) (by kernel_rfl) (fun _ _ _ h => h) (Or.inl ⟨by rfl, fun wx hx => by exact cut64 bs offs cps k hlt HCPS.out _ _ _ _ wx rfl rfl rfl rfl⟩) hS ?_
          simp only [Act.put, List.getElem_toArray, List.getElem_cons_succ, List.getElem_cons_zero, List.setIfInBounds_toArray, List.set_cons_zero, List.set_cons_succ]
          refine wpAnyH_take (i := 9) (v := .slice (some ⟨g18, 0, none⟩) 32 32) rfl (by kernel_rfl) (by kernel_rfl) (by kernel_rfl) (fun _ _ _ h => h) (Or.inl ⟨by rfl, fun wx hx => by simp [execOp, Act.eval, slice_dig]⟩) hS ?_
          simp only [Act.put, List.getElem_toArray, List.getElem_cons_succ, List.getElem_cons_zero, List.setIfInBounds_toArray, List.set_cons_zero, List.set_cons_succ]
          refine wpAnyH_enter 8 (by kernel_rfl) rfl (by rfl) (f := 50) (args := #[.slice (some ⟨bs, offs + 32 * (2 * k), none⟩) 32 (cps - 32 * (2 * k))]) (by simp [go_sem]) (HR1.out _ _ ((HVS0.out.below (HBW.out.trans (Below.mono hS HBW.out.size))).cut (2 * k) (by have := HSL.out; omega))) ?_
          rintro e z1 ⟨rfl, hb⟩
          replace hS := Over.more hS hb
          refine ⟨_, rfl, hS, ?_⟩
          clear hb 
          simp only [Act.put, List.getElem_toArray, List.getElem_cons_succ, List.getElem_cons_zero, List.setIfInBounds_toArray, List.set_cons_zero, List.set_cons_succ]
          refine wpAnyH_enter 10 (by kernel_rfl) rfl (by rfl) (f := 50) (args := #[.slice (some ⟨g18, 0, none⟩) 32 32]) (by simp [go_sem]) (HR2.out _ _ ((H18.out.below hS H18.out.lt).reads HPPL.out.symm (by rw [HPPL.out]; exact Nat.le_refl _))) ?_
          rintro e z2 ⟨rfl, hb⟩
          replace hS := Over.more hS hb
          refine ⟨_, rfl, hS, ?_⟩
          clear hb 
          simp only [Act.put, List.getElem_toArray, List.getElem_cons_succ, List.getElem_cons_zero, List.setIfInBounds_toArray, List.set_cons_zero, List.set_cons_succ]
          refine wpAnyH_take (i := 11) (v := .bool true) rfl (by kernel_rfl) (by kernel_rfl) (by kernel_rfl) (fun _ _ _ h => h) (Or.inl ⟨by rfl, fun wx hx => by simp [go_sem, hq]⟩) hS ?_
          simp only [Act.put, List.getElem_toArray, List.getElem_cons_succ, List.getElem_cons_zero, List.setIfInBounds_toArray, List.set_cons_zero, List.set_cons_succ]
          refine wpAnyH_take (i := 12) (v := .bool true) rfl (by kernel_rfl) (by kernel_rfl) (by kernel_rfl) (fun _ _ _ h => h) (Or.inl ⟨by rfl, fun wx hx => by simp [go_sem]⟩) hS ?_
          simp only [Act.put, List.getElem_toArray, List.getElem_cons_succ, List.getElem_cons_zero, List.setIfInBounds_toArray, List.set_cons_zero, List.set_cons_succ]
          refine wpAnyH_done (by kernel_rfl) ?_ _
          go_wp2
          go_ret
          exact ⟨rfl, HBW.out.trans (Below.mono hS HBW.out.size)⟩
        | false =>
          obtain ⟨q, HQ⟩ : ∃ q, Hid (q = dig (blk32 s.2 (2 * k))) := ⟨_, rfl⟩
          have HQL : Hid (q.length = 32) := by show _ = _; rw [HQ.out]; exact len_dig' _
          have hq : ∀ wx : World, (Op.equalIn 10000 23 (.agg (cb q).toArray) (.agg (cb q).toArray)).run Tryd.prog wx = .ok true wx := fun wx => eq_dig_same q HQL.out wx
          obtain ⟨pp, HPP⟩ : ∃ p, Hid (p = partB seed key k (bt d k)) := ⟨_, rfl⟩
          have HPPL : Hid (pp.length = 32) := by show _ = _; rw [HPP.out]; exact len_partB _ _ _ _
          have HQP : Hid (q = dig pp) := by show _ = _; rw [HQ.out, HPP.out]; exact HTX.out k hlt
          have HR1 : Hid (∀ (W : World) (v : Value), Reads W v (blk32 s.2 (2 * k)) → Calls Tryd.prog 50 #[v] W fun e w' => e = .returned (.agg (cb q).toArray) ∧ Below W.heap.size W w') := fun W v hv => by rw [HQ.out]; exact rOf_any v _ W hv (by rw [len_blk32 (by have := HSL.out; omega)]; omega)
          have HR2 : Hid (∀ (W : World) (v : Value), Reads W v pp → Calls Tryd.prog 50 #[v] W fun e w' => e = .returned (.agg (cb q).toArray) ∧ Below W.heap.size W w') := fun W v hv => by rw [HQP.out]; exact rOf_any v _ W hv (by rw [HPPL.out]; omega)
          have HKY : Hid (∀ W : World, Calls Tryd.prog 54 #[.agg (cb seed).toArray, .int .u64 (key : Int), .int .i64 (k : Int), .int .i64 0] W fun e w' => e = .returned (.agg (cb pp).toArray) ∧ Below W.heap.size W w') := fun W => by
            rw [HPP.out, hoo]; exact rKeyOf_any seed key _ (k : Int) (0 : Int) W (key_place k hlt 0 (by omega)) ⟨HSD.out, HKL.out, by (split <;> omega)⟩
          clear HI
          have tk40 : Hid True := trivial
          have tk41 : Hid True := trivial
          have tk42 : Hid True := trivial
          have tk43 : Hid True := trivial
          have tk44 : Hid True := trivial
          have tk45 : Hid True := trivial
          go_upto_region 20 with (first
            | (clear tk40; with_reducible refine wpSeq_loadW 23 (.tmp 14) g14 0 (cb d) _ ?_ Tryd.underlying23 rfl ?_ ?_ ?_ ?_ ?_
               · exact H14.out.range
               · exact HID.out
               · rfl
               · rfl
               · rfl)
            | (clear tk41; go_at_call 53; refine (HC8.out wr k hlt).mono ?_; rintro e y41 ⟨rfl, hbz⟩
               replace HG4 : Hid (Blk y41 g4 (cb seed) 23) := HG4.out.below hbz HG4.out.lt
               replace HG7 : Hid (Blk y41 g7 csg 30) := HG7.out.below hbz HG7.out.lt
               replace H13 : Hid (Blk y41 g13 (cb dw) 23) := H13.out.below hbz H13.out.lt
               replace H14 : Hid (Blk y41 g14 (cb d) 23) := H14.out.below hbz H14.out.lt
               replace HBW : Hid (Below w.heap.size w y41) := HBW.out.trans (hbz.mono HBW.out.size)
               rw [hoo]
               clear hbz )
            | (clear tk42; with_reducible refine wpSeq_loadW 23 (.tmp 4) g4 0 (cb seed) _ ?_ Tryd.underlying23 rfl ?_ ?_ ?_ ?_ ?_
               · exact HG4.out.range
               · exact HIS.out
               · rfl
               · rfl
               · rfl)
            | (clear tk43; go_at_call 54; refine (HKY.out y41).mono ?_; rintro e y42 ⟨rfl, hbz⟩
               replace HG4 : Hid (Blk y42 g4 (cb seed) 23) := HG4.out.below hbz HG4.out.lt
               replace HG7 : Hid (Blk y42 g7 csg 30) := HG7.out.below hbz HG7.out.lt
               replace H13 : Hid (Blk y42 g13 (cb dw) 23) := H13.out.below hbz H13.out.lt
               replace H14 : Hid (Blk y42 g14 (cb d) 23) := H14.out.below hbz H14.out.lt
               replace HBW : Hid (Below w.heap.size w y42) := HBW.out.trans (hbz.mono HBW.out.size)
               clear hbz )
            | (clear tk44; with_reducible refine wpSeq_allocD ?_ ?_ ?_
               · rfl
               · rfl
               intro g18 y43 nn)
            | (clear tk45; with_reducible refine wpSeq_storeD (.tmp 18) (.tmp 85) g18 zb32 pp ?_ ?_ ?_ ?_ ?_ ?_ ?_ ?_
               · rfl
               · exact HPPL.out
               · exact nn.blk
               · rfl
               · rfl
               · rfl
               · rfl
               intro y44 hs
               have hbz := nn.below.trans (hs.only.below nn.ge nn.below.size)
               replace HG4 : Hid (Blk y44 g4 (cb seed) 23) := HG4.out.below hbz HG4.out.lt
               replace HG7 : Hid (Blk y44 g7 csg 30) := HG7.out.below hbz HG7.out.lt
               replace H13 : Hid (Blk y44 g13 (cb dw) 23) := H13.out.below hbz H13.out.lt
               replace H14 : Hid (Blk y44 g14 (cb d) 23) := H14.out.below hbz H14.out.lt
               replace HBW : Hid (Below w.heap.size w y44) := HBW.out.trans (hbz.mono HBW.out.size)
               have H18 : Hid (Blk y44 g18 (cb pp) 23) := hs.blk
               clear nn hs hbz))
          refine wp_region_held_drew (S := Over (World.drew y44)) (by kernel_rfl) (Over.refl _) ?_
          intro hS
          replace HG7 : Hid (Blk (World.drew y44) g7 csg 30) := HG7.out.drew
          replace H18 : Hid (Blk (World.drew y44) g18 (cb pp) 23) := H18.out.drew
          replace HBW : Hid (Below w.heap.size w (World.drew y44)) := HBW.out.drew
          change wpAnyH _ _ _ _ _ _ _ _ (World.drew y44)
          generalize World.drew y44 = y0 at *
          try simp only [Act.put, List.setIfInBounds_toArray, List.set_cons_zero, List.set_cons_succ]
          refine wpAnyH_take (i := 0) (v := .pointer (some ⟨g7, 97, none⟩)) rfl (by kernel_rfl) (by kernel_rfl) (by kernel_rfl) (fun _ _ _ h => h) (Or.inl ⟨by rfl, fun wx hx => by simp [go_sem]⟩) hS ?_
          simp only [Act.put, List.getElem_toArray, List.getElem_cons_zero, List.setIfInBounds_toArray, List.set_cons_zero, List.set_cons_succ]
          refine wpAnyH_take (i := 1) (v := .slice (some ⟨bs, offs, none⟩) 16384 cps) rfl (by kernel_rfl) (by kernel_rfl) (by kernel_rfl) (fun _ _ _ h => h) (Or.inl ⟨by rfl, fun wx hx => by (have hc : wx.cell? ⟨g7, 97, none⟩ = some (.slice (some ⟨bs, offs, none⟩) 16384 cps) := HCS.out _ _ (HG7.out.below hx HG7.out.lt)); simp [go_sem, hc]⟩) hS ?_
          simp only [Act.put, List.getElem_toArray, List.getElem_cons_succ, List.getElem_cons_zero, List.setIfInBounds_toArray, List.set_cons_zero, List.set_cons_succ]
          refine wpAnyH_take (i := 2) (v := .int .i64 (k : Int)) rfl (by kernel_rfl) (by kernel_rfl) (by kernel_rfl) (fun _ _ _ h => h) (Or.inl ⟨by rfl, fun wx hx => by simp [go_sem]⟩) hS ?_
          simp only [Act.put, List.getElem_toArray, List.getElem_cons_succ, List.getElem_cons_zero, List.setIfInBounds_toArray, List.set_cons_zero, List.set_cons_succ]
          refine wpAnyH_take (i := 3) (v := .int .i64 (64 * (k : Int))) rfl (by kernel_rfl) (by kernel_rfl) (by kernel_rfl) (fun _ _ _ h => h) (Or.inl ⟨by rfl, fun wx hx => by simp [go_sem, f6]⟩) hS ?_
          simp only [Act.put, List.getElem_toArray, List.getElem_cons_succ, List.getElem_cons_zero, List.setIfInBounds_toArray, List.set_cons_zero, List.set_cons_succ]
          refine wpAnyH_take (i := 4) (v := .int .i64 (k : Int)) rfl (by kernel_rfl) (by kernel_rfl) (by kernel_rfl) (fun _ _ _ h => h) (Or.inl ⟨by rfl, fun wx hx => by simp [go_sem]⟩) hS ?_
          simp only [Act.put, List.getElem_toArray, List.getElem_cons_succ, List.getElem_cons_zero, List.setIfInBounds_toArray, List.set_cons_zero, List.set_cons_succ]
          refine wpAnyH_take (i := 5) (v := .int .i64 (64 * (k : Int))) rfl (by kernel_rfl) (by kernel_rfl) (by kernel_rfl) (fun _ _ _ h => h) (Or.inl ⟨by rfl, fun wx hx => by simp [go_sem, f6]⟩) hS ?_
          simp only [Act.put, List.getElem_toArray, List.getElem_cons_succ, List.getElem_cons_zero, List.setIfInBounds_toArray, List.set_cons_zero, List.set_cons_succ]
          refine wpAnyH_take (i := 6) (v := .int .i64 (64 * (k : Int) + 32)) rfl (by kernel_rfl) (by kernel_rfl) (by kernel_rfl) (fun _ _ _ h => h) (Or.inl ⟨by rfl, fun wx hx => by simp [go_sem, f7]⟩) hS ?_
          simp only [Act.put, List.getElem_toArray, List.getElem_cons_succ, List.getElem_cons_zero, List.setIfInBounds_toArray, List.set_cons_zero, List.set_cons_succ]
          refine wpAnyH_take (i := 7) (v := .slice (some ⟨bs, offs + 32 * (2 * k), none⟩) 32 (cps - 32 * (2 * k))) rfl (by kernel_rfl) (by kernel_rfl) (by kernel_rfl) (fun _ _ _ h => h) (Or.inl ⟨by rfl, fun wx hx => by exact cut64 bs offs cps k hlt HCPS.out _ _ _ _ wx rfl rfl rfl rfl⟩) hS ?_
          simp only [Act.put, List.getElem_toArray, List.getElem_cons_succ, List.getElem_cons_zero, List.setIfInBounds_toArray, List.set_cons_zero, List.set_cons_succ]
          refine wpAnyH_take (i := 9) (v := .slice (some ⟨g18, 0, none⟩) 32 32) rfl (by kernel_rfl) (by kernel_rfl) (by kernel_rfl) (fun _ _ _ h => h) (Or.inl ⟨by rfl, fun wx hx => by simp [execOp, Act.eval, slice_dig]⟩) hS ?_
          simp only [Act.put, List.getElem_toArray, List.getElem_cons_succ, List.getElem_cons_zero, List.setIfInBounds_toArray, List.set_cons_zero, List.set_cons_succ]
          refine wpAnyH_enter 8 (by kernel_rfl) rfl (by rfl) (f := 50) (args := #[.slice (some ⟨bs, offs + 32 * (2 * k), none⟩) 32 (cps - 32 * (2 * k))]) (by simp [go_sem]) (HR1.out _ _ ((HVS0.out.below (HBW.out.trans (Below.mono hS HBW.out.size))).cut (2 * k) (by have := HSL.out; omega))) ?_
          rintro e z1 ⟨rfl, hb⟩
          replace hS := Over.more hS hb
          refine ⟨_, rfl, hS, ?_⟩
          clear hb 
          simp only [Act.put, List.getElem_toArray, List.getElem_cons_succ, List.getElem_cons_zero, List.setIfInBounds_toArray, List.set_cons_zero, List.set_cons_succ]
          refine wpAnyH_enter 10 (by kernel_rfl) rfl (by rfl) (f := 50) (args := #[.slice (some ⟨g18, 0, none⟩) 32 32]) (by simp [go_sem]) (HR2.out _ _ ((H18.out.below hS H18.out.lt).reads HPPL.out.symm (by rw [HPPL.out]; exact Nat.le_refl _))) ?_
          rintro e z2 ⟨rfl, hb⟩
          replace hS := Over.more hS hb
          refine ⟨_, rfl, hS, ?_⟩
          clear hb 
          simp only [Act.put, List.getElem_toArray, List.getElem_cons_succ, List.getElem_cons_zero, List.setIfInBounds_toArray, List.set_cons_zero, List.set_cons_succ]
          refine wpAnyH_take (i := 11) (v := .bool true) rfl (by kernel_rfl) (by kernel_rfl) (by kernel_rfl) (fun _ _ _ h => h) (Or.inl ⟨by rfl, fun wx hx => by simp [go_sem, hq]⟩) hS ?_
          simp only [Act.put, List.getElem_toArray, List.getElem_cons_succ, List.getElem_cons_zero, List.setIfInBounds_toArray, List.set_cons_zero, List.set_cons_succ]
          refine wpAnyH_take (i := 12) (v := .bool true) rfl (by kernel_rfl) (by kernel_rfl) (by kernel_rfl) (fun _ _ _ h => h) (Or.inl ⟨by rfl, fun wx hx => by simp [go_sem]⟩) hS ?_
          simp only [Act.put, List.getElem_toArray, List.getElem_cons_succ, List.getElem_cons_zero, List.setIfInBounds_toArray, List.set_cons_zero, List.set_cons_succ]
          refine wpAnyH_done (by kernel_rfl) ?_ _
          go_wp2
          go_ret
          exact ⟨rfl, HBW.out.trans (Below.mono hS HBW.out.size)⟩
  case neg =>
    have hw0 : (0 : Int) < (nw : Int) := by omega
    clear hn0
    by_cases hdd : dw = d
    · have hqd : ∀ wx : World, (Op.equalIn 10000 23 (.agg (cb dw).toArray) (.agg (cb d).toArray)).run Tryd.prog wx = .ok true wx := fun wx => by rw [eq_dig dw d HDW.out HDL.out wx, decide_eq_true hdd]
      clear hdd
      go_enter Tryd.func28, Tryd.ntmps28
      have tk0 : Hid True := trivial
      have tk1 : Hid True := trivial
      have tk2 : Hid True := trivial
      have tk3 : Hid True := trivial
      have tk4 : Hid True := trivial
      have tk5 : Hid True := trivial
      have tk6 : Hid True := trivial
      go_wp2_with (first
        | (clear tk0; with_reducible refine wpSeq_boxW 23 (.tmp 0) (cb seed) ?_ ?_ ?_ ?_
           · rfl
           · rfl
           · rfl
           intro g4 y1 nn
           replace HVW : Hid (Reads y1 (.slice aw nw cw) was) := HVW.out.below nn.below
           replace HVS : Hid (Reads y1 (.slice (some ⟨bs, offs, none⟩) 16384 cps) s.2) := HVS.out.below nn.below
           replace HBW : Hid (Below w.heap.size w y1) := HBW.out.trans (nn.below.mono HBW.out.size)
           have HG4 : Hid (Blk y1 g4 (cb seed) 23) := nn.blk
           clear nn
           skip)
        | (clear tk1; with_reducible refine wpSeq_boxW 30 (.tmp 3) csg ?_ ?_ ?_ ?_
           · rfl
           · rfl
           · rfl
           intro g7 y2 nn
           replace HG4 : Hid (Blk y2 g4 (cb seed) 23) := HG4.out.below nn.below HG4.out.lt
           replace HVW : Hid (Reads y2 (.slice aw nw cw) was) := HVW.out.below nn.below
           replace HVS : Hid (Reads y2 (.slice (some ⟨bs, offs, none⟩) 16384 cps) s.2) := HVS.out.below nn.below
           replace HBW : Hid (Below w.heap.size w y2) := HBW.out.trans (nn.below.mono HBW.out.size)
           have HG7 : Hid (Blk y2 g7 csg 30) := nn.blk
           clear nn
           have c97 : (y2).cell? ⟨g7, 97, none⟩ = some (.slice (some ⟨bs, offs, none⟩) 16384 cps) := HCS.out _ _ HG7.out
           skip)
        | (clear tk2; with_reducible refine wpSeq_loadW 27 (.tmp 19) g7 0 rt _ ?_ Tryd.underlying27 rfl ?_ ?_ ?_ ?_ ?_
           · exact (HRG.out _ _ HG7.out)
           · exact HIR.out
           · rfl
           · rfl
           · rfl)
        | (clear tk3; go_at_call 27; refine (HC1.out y2).mono ?_; rintro e y3 ⟨vb0, rfl, hvb, hbz⟩
           clear c97
           replace HG4 : Hid (Blk y3 g4 (cb seed) 23) := HG4.out.below hbz HG4.out.lt
           replace HG7 : Hid (Blk y3 g7 csg 30) := HG7.out.below hbz HG7.out.lt
           replace HVW : Hid (Reads y3 (.slice aw nw cw) was) := HVW.out.below hbz
           replace HVS : Hid (Reads y3 (.slice (some ⟨bs, offs, none⟩) 16384 cps) s.2) := HVS.out.below hbz
           replace HBW : Hid (Below w.heap.size w y3) := HBW.out.trans (hbz.mono HBW.out.size)
           have c97 : (y3).cell? ⟨g7, 97, none⟩ = some (.slice (some ⟨bs, offs, none⟩) 16384 cps) := HCS.out _ _ HG7.out
           obtain ⟨ab, nb, cbb, hvv⟩ := hvb.form
           subst hvv
           have HVB : Hid (Reads y3 (.slice ab nb cbb) rb) := hvb
           clear hbz hvb)
        | (clear tk4; go_at_call 50; refine (HCW.out y3 HVW.out).mono ?_; rintro e y4 ⟨rfl, hbz⟩
           clear c97
           replace HG4 : Hid (Blk y4 g4 (cb seed) 23) := HG4.out.below hbz HG4.out.lt
           replace HG7 : Hid (Blk y4 g7 csg 30) := HG7.out.below hbz HG7.out.lt
           replace HVW : Hid (Reads y4 (.slice aw nw cw) was) := HVW.out.below hbz
           replace HVS : Hid (Reads y4 (.slice (some ⟨bs, offs, none⟩) 16384 cps) s.2) := HVS.out.below hbz
           replace HVB : Hid (Reads y4 (.slice ab nb cbb) rb) := HVB.out.below hbz
           replace HBW : Hid (Below w.heap.size w y4) := HBW.out.trans (hbz.mono HBW.out.size)
           have c97 : (y4).cell? ⟨g7, 97, none⟩ = some (.slice (some ⟨bs, offs, none⟩) 16384 cps) := HCS.out _ _ HG7.out
           clear hbz )
        | (clear tk5; go_at_call 50; refine (HCB.out y4 _ HVB.out).mono ?_; rintro e y5 ⟨rfl, hbz⟩
           clear c97
           replace HG4 : Hid (Blk y5 g4 (cb seed) 23) := HG4.out.below hbz HG4.out.lt
           replace HG7 : Hid (Blk y5 g7 csg 30) := HG7.out.below hbz HG7.out.lt
           replace HVW : Hid (Reads y5 (.slice aw nw cw) was) := HVW.out.below hbz
           replace HVS : Hid (Reads y5 (.slice (some ⟨bs, offs, none⟩) 16384 cps) s.2) := HVS.out.below hbz
           replace HVB : Hid (Reads y5 (.slice ab nb cbb) rb) := HVB.out.below hbz
           replace HBW : Hid (Below w.heap.size w y5) := HBW.out.trans (hbz.mono HBW.out.size)
           have c97 : (y5).cell? ⟨g7, 97, none⟩ = some (.slice (some ⟨bs, offs, none⟩) 16384 cps) := HCS.out _ _ HG7.out
           clear hbz 
           have hcw := conv_reads HVW.out
           have hcb := conv_reads HVB.out)
        | (clear tk6; with_reducible refine wpSeq_neS (.tmp 33) (.tmp 35) (strB was) (strB rb) true ?_ ?_ ?_ ?_ ?_ ?_
           · exact HWB.out
           · rfl
           · rfl
           · rfl
           · rfl
           clear hcw hcb))
      go_ret
      exact ⟨rfl, HBW.out⟩
    · have hqd : ∀ wx : World, (Op.equalIn 10000 23 (.agg (cb dw).toArray) (.agg (cb d).toArray)).run Tryd.prog wx = .ok false wx := fun wx => by rw [eq_dig dw d HDW.out HDL.out wx, decide_eq_false hdd]
      have HNO : Hid (∀ k, (∀ j, j < k → bt dw j = bt d j) → ¬ k < 256 → False) := fun k hk hlt => by
        obtain ⟨j, hj, hb⟩ := some_bit HDW.out HDL.out hdd
        exact hb (hk j (by omega))
      clear hdd
      by_cases htt : t = tt
      case neg =>
        have HXY : Hid ((!((strB t).toList == (strB tt).toList)) = true) := by show _ = _; rw [strB_inj, decide_eq_false htt]; rfl
        clear htt
        go_enter Tryd.func28, Tryd.ntmps28
        have tk0 : Hid True := trivial
        have tk1 : Hid True := trivial
        have tk2 : Hid True := trivial
        have tk3 : Hid True := trivial
        have tk4 : Hid True := trivial
        have tk5 : Hid True := trivial
        have tk6 : Hid True := trivial
        have tk7 : Hid True := trivial
        have tk8 : Hid True := trivial
        have tk9 : Hid True := trivial
        have tk10 : Hid True := trivial
        have tk11 : Hid True := trivial
        go_wp2_with (first
          | (clear tk0; with_reducible refine wpSeq_boxW 23 (.tmp 0) (cb seed) ?_ ?_ ?_ ?_
             · rfl
             · rfl
             · rfl
             intro g4 y1 nn
             replace HVW : Hid (Reads y1 (.slice aw nw cw) was) := HVW.out.below nn.below
             replace HVS : Hid (Reads y1 (.slice (some ⟨bs, offs, none⟩) 16384 cps) s.2) := HVS.out.below nn.below
             replace HBW : Hid (Below w.heap.size w y1) := HBW.out.trans (nn.below.mono HBW.out.size)
             have HG4 : Hid (Blk y1 g4 (cb seed) 23) := nn.blk
             clear nn
             skip)
          | (clear tk1; with_reducible refine wpSeq_boxW 30 (.tmp 3) csg ?_ ?_ ?_ ?_
             · rfl
             · rfl
             · rfl
             intro g7 y2 nn
             replace HG4 : Hid (Blk y2 g4 (cb seed) 23) := HG4.out.below nn.below HG4.out.lt
             replace HVW : Hid (Reads y2 (.slice aw nw cw) was) := HVW.out.below nn.below
             replace HVS : Hid (Reads y2 (.slice (some ⟨bs, offs, none⟩) 16384 cps) s.2) := HVS.out.below nn.below
             replace HBW : Hid (Below w.heap.size w y2) := HBW.out.trans (nn.below.mono HBW.out.size)
             have HG7 : Hid (Blk y2 g7 csg 30) := nn.blk
             clear nn
             have c97 : (y2).cell? ⟨g7, 97, none⟩ = some (.slice (some ⟨bs, offs, none⟩) 16384 cps) := HCS.out _ _ HG7.out
             skip)
          | (clear tk2; with_reducible refine wpSeq_loadW 27 (.tmp 19) g7 0 rt _ ?_ Tryd.underlying27 rfl ?_ ?_ ?_ ?_ ?_
             · exact (HRG.out _ _ HG7.out)
             · exact HIR.out
             · rfl
             · rfl
             · rfl)
          | (clear tk3; go_at_call 27; refine (HC1.out y2).mono ?_; rintro e y3 ⟨vb0, rfl, hvb, hbz⟩
             clear c97
             replace HG4 : Hid (Blk y3 g4 (cb seed) 23) := HG4.out.below hbz HG4.out.lt
             replace HG7 : Hid (Blk y3 g7 csg 30) := HG7.out.below hbz HG7.out.lt
             replace HVW : Hid (Reads y3 (.slice aw nw cw) was) := HVW.out.below hbz
             replace HVS : Hid (Reads y3 (.slice (some ⟨bs, offs, none⟩) 16384 cps) s.2) := HVS.out.below hbz
             replace HBW : Hid (Below w.heap.size w y3) := HBW.out.trans (hbz.mono HBW.out.size)
             have c97 : (y3).cell? ⟨g7, 97, none⟩ = some (.slice (some ⟨bs, offs, none⟩) 16384 cps) := HCS.out _ _ HG7.out
             obtain ⟨ab, nb, cbb, hvv⟩ := hvb.form
             subst hvv
             have HVB : Hid (Reads y3 (.slice ab nb cbb) rb) := hvb
             clear hbz hvb)
          | (clear tk4; go_at_call 50; refine (HCW.out y3 HVW.out).mono ?_; rintro e y4 ⟨rfl, hbz⟩
             clear c97
             replace HG4 : Hid (Blk y4 g4 (cb seed) 23) := HG4.out.below hbz HG4.out.lt
             replace HG7 : Hid (Blk y4 g7 csg 30) := HG7.out.below hbz HG7.out.lt
             replace HVW : Hid (Reads y4 (.slice aw nw cw) was) := HVW.out.below hbz
             replace HVS : Hid (Reads y4 (.slice (some ⟨bs, offs, none⟩) 16384 cps) s.2) := HVS.out.below hbz
             replace HVB : Hid (Reads y4 (.slice ab nb cbb) rb) := HVB.out.below hbz
             replace HBW : Hid (Below w.heap.size w y4) := HBW.out.trans (hbz.mono HBW.out.size)
             have c97 : (y4).cell? ⟨g7, 97, none⟩ = some (.slice (some ⟨bs, offs, none⟩) 16384 cps) := HCS.out _ _ HG7.out
             clear hbz )
          | (clear tk5; go_at_call 50; refine (HCB.out y4 _ HVB.out).mono ?_; rintro e y5 ⟨rfl, hbz⟩
             clear c97
             replace HG4 : Hid (Blk y5 g4 (cb seed) 23) := HG4.out.below hbz HG4.out.lt
             replace HG7 : Hid (Blk y5 g7 csg 30) := HG7.out.below hbz HG7.out.lt
             replace HVW : Hid (Reads y5 (.slice aw nw cw) was) := HVW.out.below hbz
             replace HVS : Hid (Reads y5 (.slice (some ⟨bs, offs, none⟩) 16384 cps) s.2) := HVS.out.below hbz
             replace HVB : Hid (Reads y5 (.slice ab nb cbb) rb) := HVB.out.below hbz
             replace HBW : Hid (Below w.heap.size w y5) := HBW.out.trans (hbz.mono HBW.out.size)
             have c97 : (y5).cell? ⟨g7, 97, none⟩ = some (.slice (some ⟨bs, offs, none⟩) 16384 cps) := HCS.out _ _ HG7.out
             clear hbz )
          | (clear tk6; go_at_call 51; refine (HCO.out y5 _ HVB.out HVS.out).mono ?_; rintro e y6 ⟨v10, rfl, hr10, hbz⟩
             clear c97
             replace HG4 : Hid (Blk y6 g4 (cb seed) 23) := HG4.out.below hbz HG4.out.lt
             replace HG7 : Hid (Blk y6 g7 csg 30) := HG7.out.below hbz HG7.out.lt
             replace HVW : Hid (Reads y6 (.slice aw nw cw) was) := HVW.out.below hbz
             replace HVS : Hid (Reads y6 (.slice (some ⟨bs, offs, none⟩) 16384 cps) s.2) := HVS.out.below hbz
             replace HVB : Hid (Reads y6 (.slice ab nb cbb) rb) := HVB.out.below hbz
             replace HBW : Hid (Below w.heap.size w y6) := HBW.out.trans (hbz.mono HBW.out.size)
             have c97 : (y6).cell? ⟨g7, 97, none⟩ = some (.slice (some ⟨bs, offs, none⟩) 16384 cps) := HCS.out _ _ HG7.out
             have H10 : Hid (Reads y6 v10 t) := hr10
             clear hbz hr10)
          | (clear tk7; with_reducible refine wpSeq_loadW 23 (.tmp 4) g4 0 (cb seed) _ ?_ Tryd.underlying23 rfl ?_ ?_ ?_ ?_ ?_
             · exact HG4.out.range
             · exact HIS.out
             · rfl
             · rfl
             · rfl)
          | (clear tk8; go_at_call 52; refine (HCT.out y6).mono ?_; rintro e y7 ⟨v12, rfl, hr12, hbz⟩
             clear c97
             replace HG4 : Hid (Blk y7 g4 (cb seed) 23) := HG4.out.below hbz HG4.out.lt
             replace HG7 : Hid (Blk y7 g7 csg 30) := HG7.out.below hbz HG7.out.lt
             replace HVW : Hid (Reads y7 (.slice aw nw cw) was) := HVW.out.below hbz
             replace HVS : Hid (Reads y7 (.slice (some ⟨bs, offs, none⟩) 16384 cps) s.2) := HVS.out.below hbz
             replace HVB : Hid (Reads y7 (.slice ab nb cbb) rb) := HVB.out.below hbz
             replace H10 : Hid (Reads y7 v10 t) := H10.out.below hbz
             replace HBW : Hid (Below w.heap.size w y7) := HBW.out.trans (hbz.mono HBW.out.size)
             have c97 : (y7).cell? ⟨g7, 97, none⟩ = some (.slice (some ⟨bs, offs, none⟩) 16384 cps) := HCS.out _ _ HG7.out
             have H12 : Hid (Reads y7 v12 tt) := hr12
             have hc10 := conv_reads H10.out
             have hc12 := conv_reads H12.out
             clear hbz hr12)
          | (clear tk9; with_reducible refine wpSeq_neS (.tmp 50) (.tmp 52) (strB t) (strB tt) true ?_ ?_ ?_ ?_ ?_ ?_
             · exact HXY.out
             · rfl
             · rfl
             · rfl
             · rfl
             clear hc10 hc12)
          | (clear tk10; go_at_call 50; refine (HCt.out y7 _ H10.out).mono ?_; rintro e y8 ⟨rfl, hbz⟩
             clear c97
             replace HG4 : Hid (Blk y8 g4 (cb seed) 23) := HG4.out.below hbz HG4.out.lt
             replace HG7 : Hid (Blk y8 g7 csg 30) := HG7.out.below hbz HG7.out.lt
             replace HVW : Hid (Reads y8 (.slice aw nw cw) was) := HVW.out.below hbz
             replace HVS : Hid (Reads y8 (.slice (some ⟨bs, offs, none⟩) 16384 cps) s.2) := HVS.out.below hbz
             replace HVB : Hid (Reads y8 (.slice ab nb cbb) rb) := HVB.out.below hbz
             replace H10 : Hid (Reads y8 v10 t) := H10.out.below hbz
             replace H12 : Hid (Reads y8 v12 tt) := H12.out.below hbz
             replace HBW : Hid (Below w.heap.size w y8) := HBW.out.trans (hbz.mono HBW.out.size)
             have c97 : (y8).cell? ⟨g7, 97, none⟩ = some (.slice (some ⟨bs, offs, none⟩) 16384 cps) := HCS.out _ _ HG7.out
             clear hbz )
          | (clear tk11; go_at_call 50; refine (HCtt.out y8 _ H12.out).mono ?_; rintro e y9 ⟨rfl, hbz⟩
             clear c97
             replace HG4 : Hid (Blk y9 g4 (cb seed) 23) := HG4.out.below hbz HG4.out.lt
             replace HG7 : Hid (Blk y9 g7 csg 30) := HG7.out.below hbz HG7.out.lt
             replace HVW : Hid (Reads y9 (.slice aw nw cw) was) := HVW.out.below hbz
             replace HVS : Hid (Reads y9 (.slice (some ⟨bs, offs, none⟩) 16384 cps) s.2) := HVS.out.below hbz
             replace HVB : Hid (Reads y9 (.slice ab nb cbb) rb) := HVB.out.below hbz
             replace H10 : Hid (Reads y9 v10 t) := H10.out.below hbz
             replace H12 : Hid (Reads y9 v12 tt) := H12.out.below hbz
             replace HBW : Hid (Below w.heap.size w y9) := HBW.out.trans (hbz.mono HBW.out.size)
             have c97 : (y9).cell? ⟨g7, 97, none⟩ = some (.slice (some ⟨bs, offs, none⟩) 16384 cps) := HCS.out _ _ HG7.out
             clear hbz ))
        go_ret
        exact ⟨rfl, HBW.out⟩
      case pos =>
        have HXY : Hid ((!((strB t).toList == (strB tt).toList)) = false) := by show _ = _; rw [strB_inj, decide_eq_true htt]; rfl
        have HTX : Hid (∀ j, j < 256 → dig (blk32 s.2 (2 * j)) = dig (partB seed key j (bt d j))) := HTX0.out htt
        clear htt HTX0
        go_enter Tryd.func28, Tryd.ntmps28
        have tk0 : Hid True := trivial
        have tk1 : Hid True := trivial
        have tk2 : Hid True := trivial
        have tk3 : Hid True := trivial
        have tk4 : Hid True := trivial
        have tk5 : Hid True := trivial
        have tk6 : Hid True := trivial
        have tk7 : Hid True := trivial
        have tk8 : Hid True := trivial
        have tk9 : Hid True := trivial
        have tk10 : Hid True := trivial
        have tk11 : Hid True := trivial
        have tk12 : Hid True := trivial
        have tk13 : Hid True := trivial
        have tk14 : Hid True := trivial
        have tk15 : Hid True := trivial
        go_wp2_with (first
          | (clear tk0; with_reducible refine wpSeq_boxW 23 (.tmp 0) (cb seed) ?_ ?_ ?_ ?_
             · rfl
             · rfl
             · rfl
             intro g4 y1 nn
             replace HVW : Hid (Reads y1 (.slice aw nw cw) was) := HVW.out.below nn.below
             replace HVS : Hid (Reads y1 (.slice (some ⟨bs, offs, none⟩) 16384 cps) s.2) := HVS.out.below nn.below
             replace HBW : Hid (Below w.heap.size w y1) := HBW.out.trans (nn.below.mono HBW.out.size)
             have HG4 : Hid (Blk y1 g4 (cb seed) 23) := nn.blk
             clear nn
             skip)
          | (clear tk1; with_reducible refine wpSeq_boxW 30 (.tmp 3) csg ?_ ?_ ?_ ?_
             · rfl
             · rfl
             · rfl
             intro g7 y2 nn
             replace HG4 : Hid (Blk y2 g4 (cb seed) 23) := HG4.out.below nn.below HG4.out.lt
             replace HVW : Hid (Reads y2 (.slice aw nw cw) was) := HVW.out.below nn.below
             replace HVS : Hid (Reads y2 (.slice (some ⟨bs, offs, none⟩) 16384 cps) s.2) := HVS.out.below nn.below
             replace HBW : Hid (Below w.heap.size w y2) := HBW.out.trans (nn.below.mono HBW.out.size)
             have HG7 : Hid (Blk y2 g7 csg 30) := nn.blk
             clear nn
             have c97 : (y2).cell? ⟨g7, 97, none⟩ = some (.slice (some ⟨bs, offs, none⟩) 16384 cps) := HCS.out _ _ HG7.out
             skip)
          | (clear tk2; with_reducible refine wpSeq_loadW 27 (.tmp 19) g7 0 rt _ ?_ Tryd.underlying27 rfl ?_ ?_ ?_ ?_ ?_
             · exact (HRG.out _ _ HG7.out)
             · exact HIR.out
             · rfl
             · rfl
             · rfl)
          | (clear tk3; go_at_call 27; refine (HC1.out y2).mono ?_; rintro e y3 ⟨vb0, rfl, hvb, hbz⟩
             clear c97
             replace HG4 : Hid (Blk y3 g4 (cb seed) 23) := HG4.out.below hbz HG4.out.lt
             replace HG7 : Hid (Blk y3 g7 csg 30) := HG7.out.below hbz HG7.out.lt
             replace HVW : Hid (Reads y3 (.slice aw nw cw) was) := HVW.out.below hbz
             replace HVS : Hid (Reads y3 (.slice (some ⟨bs, offs, none⟩) 16384 cps) s.2) := HVS.out.below hbz
             replace HBW : Hid (Below w.heap.size w y3) := HBW.out.trans (hbz.mono HBW.out.size)
             have c97 : (y3).cell? ⟨g7, 97, none⟩ = some (.slice (some ⟨bs, offs, none⟩) 16384 cps) := HCS.out _ _ HG7.out
             obtain ⟨ab, nb, cbb, hvv⟩ := hvb.form
             subst hvv
             have HVB : Hid (Reads y3 (.slice ab nb cbb) rb) := hvb
             clear hbz hvb)
          | (clear tk4; go_at_call 50; refine (HCW.out y3 HVW.out).mono ?_; rintro e y4 ⟨rfl, hbz⟩
             clear c97
             replace HG4 : Hid (Blk y4 g4 (cb seed) 23) := HG4.out.below hbz HG4.out.lt
             replace HG7 : Hid (Blk y4 g7 csg 30) := HG7.out.below hbz HG7.out.lt
             replace HVW : Hid (Reads y4 (.slice aw nw cw) was) := HVW.out.below hbz
             replace HVS : Hid (Reads y4 (.slice (some ⟨bs, offs, none⟩) 16384 cps) s.2) := HVS.out.below hbz
             replace HVB : Hid (Reads y4 (.slice ab nb cbb) rb) := HVB.out.below hbz
             replace HBW : Hid (Below w.heap.size w y4) := HBW.out.trans (hbz.mono HBW.out.size)
             have c97 : (y4).cell? ⟨g7, 97, none⟩ = some (.slice (some ⟨bs, offs, none⟩) 16384 cps) := HCS.out _ _ HG7.out
             clear hbz )
          | (clear tk5; go_at_call 50; refine (HCB.out y4 _ HVB.out).mono ?_; rintro e y5 ⟨rfl, hbz⟩
             clear c97
             replace HG4 : Hid (Blk y5 g4 (cb seed) 23) := HG4.out.below hbz HG4.out.lt
             replace HG7 : Hid (Blk y5 g7 csg 30) := HG7.out.below hbz HG7.out.lt
             replace HVW : Hid (Reads y5 (.slice aw nw cw) was) := HVW.out.below hbz
             replace HVS : Hid (Reads y5 (.slice (some ⟨bs, offs, none⟩) 16384 cps) s.2) := HVS.out.below hbz
             replace HVB : Hid (Reads y5 (.slice ab nb cbb) rb) := HVB.out.below hbz
             replace HBW : Hid (Below w.heap.size w y5) := HBW.out.trans (hbz.mono HBW.out.size)
             have c97 : (y5).cell? ⟨g7, 97, none⟩ = some (.slice (some ⟨bs, offs, none⟩) 16384 cps) := HCS.out _ _ HG7.out
             clear hbz )
          | (clear tk6; go_at_call 51; refine (HCO.out y5 _ HVB.out HVS.out).mono ?_; rintro e y6 ⟨v10, rfl, hr10, hbz⟩
             clear c97
             replace HG4 : Hid (Blk y6 g4 (cb seed) 23) := HG4.out.below hbz HG4.out.lt
             replace HG7 : Hid (Blk y6 g7 csg 30) := HG7.out.below hbz HG7.out.lt
             replace HVW : Hid (Reads y6 (.slice aw nw cw) was) := HVW.out.below hbz
             replace HVS : Hid (Reads y6 (.slice (some ⟨bs, offs, none⟩) 16384 cps) s.2) := HVS.out.below hbz
             replace HVB : Hid (Reads y6 (.slice ab nb cbb) rb) := HVB.out.below hbz
             replace HBW : Hid (Below w.heap.size w y6) := HBW.out.trans (hbz.mono HBW.out.size)
             have c97 : (y6).cell? ⟨g7, 97, none⟩ = some (.slice (some ⟨bs, offs, none⟩) 16384 cps) := HCS.out _ _ HG7.out
             have H10 : Hid (Reads y6 v10 t) := hr10
             clear hbz hr10)
          | (clear tk7; with_reducible refine wpSeq_loadW 23 (.tmp 4) g4 0 (cb seed) _ ?_ Tryd.underlying23 rfl ?_ ?_ ?_ ?_ ?_
             · exact HG4.out.range
             · exact HIS.out
             · rfl
             · rfl
             · rfl)
          | (clear tk8; go_at_call 52; refine (HCT.out y6).mono ?_; rintro e y7 ⟨v12, rfl, hr12, hbz⟩
             clear c97
             replace HG4 : Hid (Blk y7 g4 (cb seed) 23) := HG4.out.below hbz HG4.out.lt
             replace HG7 : Hid (Blk y7 g7 csg 30) := HG7.out.below hbz HG7.out.lt
             replace HVW : Hid (Reads y7 (.slice aw nw cw) was) := HVW.out.below hbz
             replace HVS : Hid (Reads y7 (.slice (some ⟨bs, offs, none⟩) 16384 cps) s.2) := HVS.out.below hbz
             replace HVB : Hid (Reads y7 (.slice ab nb cbb) rb) := HVB.out.below hbz
             replace H10 : Hid (Reads y7 v10 t) := H10.out.below hbz
             replace HBW : Hid (Below w.heap.size w y7) := HBW.out.trans (hbz.mono HBW.out.size)
             have c97 : (y7).cell? ⟨g7, 97, none⟩ = some (.slice (some ⟨bs, offs, none⟩) 16384 cps) := HCS.out _ _ HG7.out
             have H12 : Hid (Reads y7 v12 tt) := hr12
             have hc10 := conv_reads H10.out
             have hc12 := conv_reads H12.out
             clear hbz hr12)
          | (clear tk9; with_reducible refine wpSeq_neS (.tmp 50) (.tmp 52) (strB t) (strB tt) false ?_ ?_ ?_ ?_ ?_ ?_
             · exact HXY.out
             · rfl
             · rfl
             · rfl
             · rfl
             clear hc10 hc12)
          | (clear tk10; go_at_call 50; refine (HCW.out y7 HVW.out).mono ?_; rintro e y8 ⟨rfl, hbz⟩
             clear c97
             replace HG4 : Hid (Blk y8 g4 (cb seed) 23) := HG4.out.below hbz HG4.out.lt
             replace HG7 : Hid (Blk y8 g7 csg 30) := HG7.out.below hbz HG7.out.lt
             replace HVW : Hid (Reads y8 (.slice aw nw cw) was) := HVW.out.below hbz
             replace HVS : Hid (Reads y8 (.slice (some ⟨bs, offs, none⟩) 16384 cps) s.2) := HVS.out.below hbz
             replace HVB : Hid (Reads y8 (.slice ab nb cbb) rb) := HVB.out.below hbz
             replace H10 : Hid (Reads y8 v10 t) := H10.out.below hbz
             replace H12 : Hid (Reads y8 v12 tt) := H12.out.below hbz
             replace HBW : Hid (Below w.heap.size w y8) := HBW.out.trans (hbz.mono HBW.out.size)
             have c97 : (y8).cell? ⟨g7, 97, none⟩ = some (.slice (some ⟨bs, offs, none⟩) 16384 cps) := HCS.out _ _ HG7.out
             clear hbz )
          | (clear tk11; go_at_call 50; refine (HCB.out y8 _ HVB.out).mono ?_; rintro e y9 ⟨rfl, hbz⟩
             clear c97
             replace HG4 : Hid (Blk y9 g4 (cb seed) 23) := HG4.out.below hbz HG4.out.lt
             replace HG7 : Hid (Blk y9 g7 csg 30) := HG7.out.below hbz HG7.out.lt
             replace HVW : Hid (Reads y9 (.slice aw nw cw) was) := HVW.out.below hbz
             replace HVS : Hid (Reads y9 (.slice (some ⟨bs, offs, none⟩) 16384 cps) s.2) := HVS.out.below hbz
             replace HVB : Hid (Reads y9 (.slice ab nb cbb) rb) := HVB.out.below hbz
             replace H10 : Hid (Reads y9 v10 t) := H10.out.below hbz
             replace H12 : Hid (Reads y9 v12 tt) := H12.out.below hbz
             replace HBW : Hid (Below w.heap.size w y9) := HBW.out.trans (hbz.mono HBW.out.size)
             have c97 : (y9).cell? ⟨g7, 97, none⟩ = some (.slice (some ⟨bs, offs, none⟩) 16384 cps) := HCS.out _ _ HG7.out
             clear hbz )
          | (clear tk12; with_reducible refine wpSeq_allocD ?_ ?_ ?_
             · rfl
             · rfl
             intro g13 y10 nn
             have HW13P : Hid (w.heap.size ≤ g13) := Nat.le_trans HBW.out.size nn.ge
             have HLg13 : Hid (g4 < g13 ∧ g7 < g13) := ⟨Nat.lt_of_lt_of_le HG4.out.lt nn.ge, Nat.lt_of_lt_of_le HG7.out.lt nn.ge⟩
             clear c97
             replace HG4 : Hid (Blk y10 g4 (cb seed) 23) := HG4.out.below nn.below HG4.out.lt
             replace HG7 : Hid (Blk y10 g7 csg 30) := HG7.out.below nn.below HG7.out.lt
             replace HVW : Hid (Reads y10 (.slice aw nw cw) was) := HVW.out.below nn.below
             replace HVS : Hid (Reads y10 (.slice (some ⟨bs, offs, none⟩) 16384 cps) s.2) := HVS.out.below nn.below
             replace HVB : Hid (Reads y10 (.slice ab nb cbb) rb) := HVB.out.below nn.below
             replace H10 : Hid (Reads y10 v10 t) := H10.out.below nn.below
             replace H12 : Hid (Reads y10 v12 tt) := H12.out.below nn.below
             replace HBW : Hid (Below w.heap.size w y10) := HBW.out.trans (nn.below.mono HBW.out.size)
             have c97 : (y10).cell? ⟨g7, 97, none⟩ = some (.slice (some ⟨bs, offs, none⟩) 16384 cps) := HCS.out _ _ HG7.out
             have H13 : Hid (Blk y10 g13 (cb zb32) 23) := nn.blk
             have HW13 : Hid (w.heap.size ≤ g13) := HW13P.out
             clear nn)
          | (clear tk13; with_reducible refine wpSeq_allocD ?_ ?_ ?_
             · rfl
             · rfl
             intro g14 y11 nn
             have HLg14 : Hid (g4 < g14 ∧ g7 < g14 ∧ g13 < g14) := ⟨Nat.lt_of_lt_of_le HG4.out.lt nn.ge, Nat.lt_of_lt_of_le HG7.out.lt nn.ge, Nat.lt_of_lt_of_le H13.out.lt nn.ge⟩
             clear c97
             replace HG4 : Hid (Blk y11 g4 (cb seed) 23) := HG4.out.below nn.below HG4.out.lt
             replace HG7 : Hid (Blk y11 g7 csg 30) := HG7.out.below nn.below HG7.out.lt
             replace H13 : Hid (Blk y11 g13 (cb zb32) 23) := H13.out.below nn.below H13.out.lt
             replace HVW : Hid (Reads y11 (.slice aw nw cw) was) := HVW.out.below nn.below
             replace HVS : Hid (Reads y11 (.slice (some ⟨bs, offs, none⟩) 16384 cps) s.2) := HVS.out.below nn.below
             replace HVB : Hid (Reads y11 (.slice ab nb cbb) rb) := HVB.out.below nn.below
             replace H10 : Hid (Reads y11 v10 t) := H10.out.below nn.below
             replace H12 : Hid (Reads y11 v12 tt) := H12.out.below nn.below
             replace HBW : Hid (Below w.heap.size w y11) := HBW.out.trans (nn.below.mono HBW.out.size)
             have c97 : (y11).cell? ⟨g7, 97, none⟩ = some (.slice (some ⟨bs, offs, none⟩) 16384 cps) := HCS.out _ _ HG7.out
             have H14 : Hid (Blk y11 g14 (cb zb32) 23) := nn.blk
             clear nn)
          | (clear tk14; with_reducible refine wpSeq_storeD (.tmp 13) (.tmp 60) g13 zb32 dw ?_ ?_ ?_ ?_ ?_ ?_ ?_ ?_
             · rfl
             · exact HDW.out
             · exact H13.out
             · rfl
             · rfl
             · rfl
             · rfl
             intro y12 hs
             have HNG : Hid (g4 < g13 ∧ g7 < g13 ∧ g4 < g14 ∧ g7 < g14 ∧ g13 < g14 ∧ w.heap.size ≤ g13) := ⟨HLg13.out.1, HLg13.out.2, HLg14.out.1, HLg14.out.2.1, HLg14.out.2.2, HW13.out⟩
             clear c97
             replace HG4 : Hid (Blk y12 g4 (cb seed) 23) := HG4.out.only hs.only (by have := HNG.out; omega)
             replace HG7 : Hid (Blk y12 g7 csg 30) := HG7.out.only hs.only (by have := HNG.out; omega)
             replace H14 : Hid (Blk y12 g14 (cb zb32) 23) := H14.out.only hs.only (by have := HNG.out; omega)
             clear HVW
             clear HVS
             clear HVB
             clear H10
             clear H12
             replace H13 : Hid (Blk y12 g13 (cb dw) 23) := hs.blk
             replace HBW : Hid (Below w.heap.size w y12) := HBW.out.trans (hs.only.below (by have := HNG.out; omega) HBW.out.size)
             clear hs HNG)
          | (clear tk15; with_reducible refine wpSeq_storeD (.tmp 14) (.tmp 62) g14 zb32 d ?_ ?_ ?_ ?_ ?_ ?_ ?_ ?_
             · rfl
             · exact HDL.out
             · exact H14.out
             · rfl
             · rfl
             · rfl
             · rfl
             intro y13 hs
             have HNG : Hid (g4 < g13 ∧ g7 < g13 ∧ g4 < g14 ∧ g7 < g14 ∧ g13 < g14 ∧ w.heap.size ≤ g13) := ⟨HLg13.out.1, HLg13.out.2, HLg14.out.1, HLg14.out.2.1, HLg14.out.2.2, HW13.out⟩
             replace HG4 : Hid (Blk y13 g4 (cb seed) 23) := HG4.out.only hs.only (by have := HNG.out; omega)
             replace HG7 : Hid (Blk y13 g7 csg 30) := HG7.out.only hs.only (by have := HNG.out; omega)
             replace H13 : Hid (Blk y13 g13 (cb dw) 23) := H13.out.only hs.only (by have := HNG.out; omega)
             replace H14 : Hid (Blk y13 g14 (cb d) 23) := hs.blk
             replace HBW : Hid (Below w.heap.size w y13) := HBW.out.trans (hs.only.below (by have := HNG.out; omega) HBW.out.size)
             clear hs HNG))
        have HI0 : Hid (BrI w g4 g7 g13 g14 seed csg dw d y13) := ⟨HG4.out, HG7.out, H13.out, H14.out, HBW.out⟩
        clear HG4 HG7 H13 H14 HBW
        go_loopw [15] (fun i wr => ∃ k : Nat, k ≤ 256 ∧ i = .int .i64 (k : Int) ∧ Hid (∀ j, j < k → bt dw j = bt d j) ∧ Hid (BrI w g4 g7 g13 g14 seed csg dw d wr)) (fun i _ => 256 - (intOf i).toNat)
        case atStart => exact ⟨0, by omega, rfl, fun j hj => absurd hj (Nat.not_lt_zero j), HI0⟩
        case round =>
          obtain ⟨k, hkn, rfl, HPK, HI⟩ := hrel
          clear HI0
          by_cases hlt : k < 256
          case neg => exact (HNO.out k HPK.out hlt).elim
          have hi : (k : Int) < 256 := by omega
          have f5 : IntKind.i64.wrap ((k : Int) + 1) = (k : Int) + 1 := by rw [IntKind.wrap_i64]; omega
          have f6 : IntKind.i64.wrap (64 * (k : Int)) = 64 * (k : Int) := by rw [IntKind.wrap_i64]; omega
          have f7 : IntKind.i64.wrap (64 * (k : Int) + 32) = 64 * (k : Int) + 32 := by rw [IntKind.wrap_i64]; omega
          have HG4 : Hid (Blk wr g4 (cb seed) 23) := HI.out.a
          have HG7 : Hid (Blk wr g7 csg 30) := HI.out.b
          have H13 : Hid (Blk wr g13 (cb dw) 23) := HI.out.c
          have H14 : Hid (Blk wr g14 (cb d) 23) := HI.out.d
          have HBW : Hid (Below w.heap.size w wr) := HI.out.bel
          cases hoo : bt d k with
          | true =>
            cases hww : bt dw k with
            | true =>
              have HP2 : Hid (∀ j, j < k + 1 → bt dw j = bt d j) := fun j hj => by
                by_cases hjk : j = k
                · rw [hjk, hoo, hww]
                · exact HPK.out j (by omega)
              clear HI
              have tk40 : Hid True := trivial
              have tk41 : Hid True := trivial
              have tk42 : Hid True := trivial
              have tk43 : Hid True := trivial
              go_wp2_with (first
                | (clear tk40; with_reducible refine wpSeq_loadW 23 (.tmp 14) g14 0 (cb d) _ ?_ Tryd.underlying23 rfl ?_ ?_ ?_ ?_ ?_
                   · exact H14.out.range
                   · exact HID.out
                   · rfl
                   · rfl
                   · rfl)
                | (clear tk41; go_at_call 53; refine (HC8.out wr k hlt).mono ?_; rintro e y41 ⟨rfl, hbz⟩
                   replace HG4 : Hid (Blk y41 g4 (cb seed) 23) := HG4.out.below hbz HG4.out.lt
                   replace HG7 : Hid (Blk y41 g7 csg 30) := HG7.out.below hbz HG7.out.lt
                   replace H13 : Hid (Blk y41 g13 (cb dw) 23) := H13.out.below hbz H13.out.lt
                   replace H14 : Hid (Blk y41 g14 (cb d) 23) := H14.out.below hbz H14.out.lt
                   replace HBW : Hid (Below w.heap.size w y41) := HBW.out.trans (hbz.mono HBW.out.size)
                   rw [hoo]
                   clear hbz )
                | (clear tk42; with_reducible refine wpSeq_loadW 23 (.tmp 13) g13 0 (cb dw) _ ?_ Tryd.underlying23 rfl ?_ ?_ ?_ ?_ ?_
                   · exact H13.out.range
                   · exact HIDW.out
                   · rfl
                   · rfl
                   · rfl)
                | (clear tk43; go_at_call 53; refine (HC9.out y41 k hlt).mono ?_; rintro e y42 ⟨rfl, hbz⟩
                   replace HG4 : Hid (Blk y42 g4 (cb seed) 23) := HG4.out.below hbz HG4.out.lt
                   replace HG7 : Hid (Blk y42 g7 csg 30) := HG7.out.below hbz HG7.out.lt
                   replace H13 : Hid (Blk y42 g13 (cb dw) 23) := H13.out.below hbz H13.out.lt
                   replace H14 : Hid (Blk y42 g14 (cb d) 23) := H14.out.below hbz H14.out.lt
                   replace HBW : Hid (Below w.heap.size w y42) := HBW.out.trans (hbz.mono HBW.out.size)
                   rw [hww]
                   clear hbz ))
              go_roundw
              case rel => exact ⟨k + 1, by omega, by simp, HP2, ⟨HG4.out, HG7.out, H13.out, H14.out, HBW.out⟩⟩
              case measure => simp [intOf]; omega
            | false =>
              obtain ⟨q, HQ⟩ : ∃ q, Hid (q = dig (blk32 s.2 (2 * k))) := ⟨_, rfl⟩
              have HQL : Hid (q.length = 32) := by show _ = _; rw [HQ.out]; exact len_dig' _
              have hq : ∀ wx : World, (Op.equalIn 10000 23 (.agg (cb q).toArray) (.agg (cb q).toArray)).run Tryd.prog wx = .ok true wx := fun wx => eq_dig_same q HQL.out wx
              obtain ⟨pp, HPP⟩ : ∃ p, Hid (p = partB seed key k (bt d k)) := ⟨_, rfl⟩
              have HPPL : Hid (pp.length = 32) := by show _ = _; rw [HPP.out]; exact len_partB _ _ _ _
              have HQP : Hid (q = dig pp) := by show _ = _; rw [HQ.out, HPP.out]; exact HTX.out k hlt
              have HR1 : Hid (∀ (W : World) (v : Value), Reads W v (blk32 s.2 (2 * k)) → Calls Tryd.prog 50 #[v] W fun e w' => e = .returned (.agg (cb q).toArray) ∧ Below W.heap.size W w') := fun W v hv => by rw [HQ.out]; exact rOf_any v _ W hv (by rw [len_blk32 (by have := HSL.out; omega)]; omega)
              have HR2 : Hid (∀ (W : World) (v : Value), Reads W v pp → Calls Tryd.prog 50 #[v] W fun e w' => e = .returned (.agg (cb q).toArray) ∧ Below W.heap.size W w') := fun W v hv => by rw [HQP.out]; exact rOf_any v _ W hv (by rw [HPPL.out]; omega)
              have HKY : Hid (∀ W : World, Calls Tryd.prog 54 #[.agg (cb seed).toArray, .int .u64 (key : Int), .int .i64 (k : Int), .int .i64 1] W fun e w' => e = .returned (.agg (cb pp).toArray) ∧ Below W.heap.size W w') := fun W => by
                rw [HPP.out, hoo]; exact rKeyOf_any seed key _ (k : Int) (1 : Int) W (key_place k hlt 1 (by omega)) ⟨HSD.out, HKL.out, by (split <;> omega)⟩
              clear HI
              have tk40 : Hid True := trivial
              have tk41 : Hid True := trivial
              have tk42 : Hid True := trivial
              have tk43 : Hid True := trivial
              have tk44 : Hid True := trivial
              have tk45 : Hid True := trivial
              have tk46 : Hid True := trivial
              have tk47 : Hid True := trivial
              go_upto_region 20 with (first
                | (clear tk40; with_reducible refine wpSeq_loadW 23 (.tmp 14) g14 0 (cb d) _ ?_ Tryd.underlying23 rfl ?_ ?_ ?_ ?_ ?_
                   · exact H14.out.range
                   · exact HID.out
                   · rfl
                   · rfl
                   · rfl)
                | (clear tk41; go_at_call 53; refine (HC8.out wr k hlt).mono ?_; rintro e y41 ⟨rfl, hbz⟩
                   replace HG4 : Hid (Blk y41 g4 (cb seed) 23) := HG4.out.below hbz HG4.out.lt
                   replace HG7 : Hid (Blk y41 g7 csg 30) := HG7.out.below hbz HG7.out.lt
                   replace H13 : Hid (Blk y41 g13 (cb dw) 23) := H13.out.below hbz H13.out.lt
                   replace H14 : Hid (Blk y41 g14 (cb d) 23) := H14.out.below hbz H14.out.lt
                   replace HBW : Hid (Below w.heap.size w y41) := HBW.out.trans (hbz.mono HBW.out.size)
                   rw [hoo]
                   clear hbz )
                | (clear tk42; with_reducible refine wpSeq_loadW 23 (.tmp 13) g13 0 (cb dw) _ ?_ Tryd.underlying23 rfl ?_ ?_ ?_ ?_ ?_
                   · exact H13.out.range
                   · exact HIDW.out
                   · rfl
                   · rfl
                   · rfl)
                | (clear tk43; go_at_call 53; refine (HC9.out y41 k hlt).mono ?_; rintro e y42 ⟨rfl, hbz⟩
                   replace HG4 : Hid (Blk y42 g4 (cb seed) 23) := HG4.out.below hbz HG4.out.lt
                   replace HG7 : Hid (Blk y42 g7 csg 30) := HG7.out.below hbz HG7.out.lt
                   replace H13 : Hid (Blk y42 g13 (cb dw) 23) := H13.out.below hbz H13.out.lt
                   replace H14 : Hid (Blk y42 g14 (cb d) 23) := H14.out.below hbz H14.out.lt
                   replace HBW : Hid (Below w.heap.size w y42) := HBW.out.trans (hbz.mono HBW.out.size)
                   rw [hww]
                   clear hbz )
                | (clear tk44; with_reducible refine wpSeq_loadW 23 (.tmp 4) g4 0 (cb seed) _ ?_ Tryd.underlying23 rfl ?_ ?_ ?_ ?_ ?_
                   · exact HG4.out.range
                   · exact HIS.out
                   · rfl
                   · rfl
                   · rfl)
                | (clear tk45; go_at_call 54; refine (HKY.out y42).mono ?_; rintro e y43 ⟨rfl, hbz⟩
                   replace HG4 : Hid (Blk y43 g4 (cb seed) 23) := HG4.out.below hbz HG4.out.lt
                   replace HG7 : Hid (Blk y43 g7 csg 30) := HG7.out.below hbz HG7.out.lt
                   replace H13 : Hid (Blk y43 g13 (cb dw) 23) := H13.out.below hbz H13.out.lt
                   replace H14 : Hid (Blk y43 g14 (cb d) 23) := H14.out.below hbz H14.out.lt
                   replace HBW : Hid (Below w.heap.size w y43) := HBW.out.trans (hbz.mono HBW.out.size)
                   clear hbz )
                | (clear tk46; with_reducible refine wpSeq_allocD ?_ ?_ ?_
                   · rfl
                   · rfl
                   intro g18 y44 nn)
                | (clear tk47; with_reducible refine wpSeq_storeD (.tmp 18) (.tmp 85) g18 zb32 pp ?_ ?_ ?_ ?_ ?_ ?_ ?_ ?_
                   · rfl
                   · exact HPPL.out
                   · exact nn.blk
                   · rfl
                   · rfl
                   · rfl
                   · rfl
                   intro y45 hs
                   have hbz := nn.below.trans (hs.only.below nn.ge nn.below.size)
                   replace HG4 : Hid (Blk y45 g4 (cb seed) 23) := HG4.out.below hbz HG4.out.lt
                   replace HG7 : Hid (Blk y45 g7 csg 30) := HG7.out.below hbz HG7.out.lt
                   replace H13 : Hid (Blk y45 g13 (cb dw) 23) := H13.out.below hbz H13.out.lt
                   replace H14 : Hid (Blk y45 g14 (cb d) 23) := H14.out.below hbz H14.out.lt
                   replace HBW : Hid (Below w.heap.size w y45) := HBW.out.trans (hbz.mono HBW.out.size)
                   have H18 : Hid (Blk y45 g18 (cb pp) 23) := hs.blk
                   clear nn hs hbz))
              refine wp_region_held_drew (S := Over (World.drew y45)) (by kernel_rfl) (Over.refl _) ?_
              intro hS
              replace HG7 : Hid (Blk (World.drew y45) g7 csg 30) := HG7.out.drew
              replace H18 : Hid (Blk (World.drew y45) g18 (cb pp) 23) := H18.out.drew
              replace HBW : Hid (Below w.heap.size w (World.drew y45)) := HBW.out.drew
              change wpAnyH _ _ _ _ _ _ _ _ (World.drew y45)
              generalize World.drew y45 = y0 at *
              try simp only [Act.put, List.setIfInBounds_toArray, List.set_cons_zero, List.set_cons_succ]
              refine wpAnyH_take (i := 0) (v := .pointer (some ⟨g7, 97, none⟩)) rfl (by kernel_rfl) (by kernel_rfl) (by kernel_rfl) (fun _ _ _ h => h) (Or.inl ⟨by rfl, fun wx hx => by simp [go_sem]⟩) hS ?_
              simp only [Act.put, List.getElem_toArray, List.getElem_cons_zero, List.setIfInBounds_toArray, List.set_cons_zero, List.set_cons_succ]
              refine wpAnyH_take (i := 1) (v := .slice (some ⟨bs, offs, none⟩) 16384 cps) rfl (by kernel_rfl) (by kernel_rfl) (by kernel_rfl) (fun _ _ _ h => h) (Or.inl ⟨by rfl, fun wx hx => by (have hc : wx.cell? ⟨g7, 97, none⟩ = some (.slice (some ⟨bs, offs, none⟩) 16384 cps) := HCS.out _ _ (HG7.out.below hx HG7.out.lt)); simp [go_sem, hc]⟩) hS ?_
              simp only [Act.put, List.getElem_toArray, List.getElem_cons_succ, List.getElem_cons_zero, List.setIfInBounds_toArray, List.set_cons_zero, List.set_cons_succ]
              refine wpAnyH_take (i := 2) (v := .int .i64 (k : Int)) rfl (by kernel_rfl) (by kernel_rfl) (by kernel_rfl) (fun _ _ _ h => h) (Or.inl ⟨by rfl, fun wx hx => by simp [go_sem]⟩) hS ?_
              simp only [Act.put, List.getElem_toArray, List.getElem_cons_succ, List.getElem_cons_zero, List.setIfInBounds_toArray, List.set_cons_zero, List.set_cons_succ]
              refine wpAnyH_take (i := 3) (v := .int .i64 (64 * (k : Int))) rfl (by kernel_rfl) (by kernel_rfl) (by kernel_rfl) (fun _ _ _ h => h) (Or.inl ⟨by rfl, fun wx hx => by simp [go_sem, f6]⟩) hS ?_
              simp only [Act.put, List.getElem_toArray, List.getElem_cons_succ, List.getElem_cons_zero, List.setIfInBounds_toArray, List.set_cons_zero, List.set_cons_succ]
              refine wpAnyH_take (i := 4) (v := .int .i64 (k : Int)) rfl (by kernel_rfl) (by kernel_rfl) (by kernel_rfl) (fun _ _ _ h => h) (Or.inl ⟨by rfl, fun wx hx => by simp [go_sem]⟩) hS ?_
              simp only [Act.put, List.getElem_toArray, List.getElem_cons_succ, List.getElem_cons_zero, List.setIfInBounds_toArray, List.set_cons_zero, List.set_cons_succ]
              refine wpAnyH_take (i := 5) (v := .int .i64 (64 * (k : Int))) rfl (by kernel_rfl) (by kernel_rfl) (by kernel_rfl) (fun _ _ _ h => h) (Or.inl ⟨by rfl, fun wx hx => by simp [go_sem, f6]⟩) hS ?_
              simp only [Act.put, List.getElem_toArray, List.getElem_cons_succ, List.getElem_cons_zero, List.setIfInBounds_toArray, List.set_cons_zero, List.set_cons_succ]
              refine wpAnyH_take (i := 6) (v := .int .i64 (64 * (k : Int) + 32)) rfl (by kernel_rfl) (by kernel_rfl) (by kernel_rfl) (fun _ _ _ h => h) (Or.inl ⟨by rfl, fun wx hx => by simp [go_sem, f7]⟩) hS ?_
              simp only [Act.put, List.getElem_toArray, List.getElem_cons_succ, List.getElem_cons_zero, List.setIfInBounds_toArray, List.set_cons_zero, List.set_cons_succ]
              refine wpAnyH_take (i := 7) (v := .slice (some ⟨bs, offs + 32 * (2 * k), none⟩) 32 (cps - 32 * (2 * k))) rfl (by kernel_rfl) (by kernel_rfl) (by kernel_rfl) (fun _ _ _ h => h) (Or.inl ⟨by rfl, fun wx hx => by exact cut64 bs offs cps k hlt HCPS.out _ _ _ _ wx rfl rfl rfl rfl⟩) hS ?_
              simp only [Act.put, List.getElem_toArray, List.getElem_cons_succ, List.getElem_cons_zero, List.setIfInBounds_toArray, List.set_cons_zero, List.set_cons_succ]
              refine wpAnyH_take (i := 9) (v := .slice (some ⟨g18, 0, none⟩) 32 32) rfl (by kernel_rfl) (by kernel_rfl) (by kernel_rfl) (fun _ _ _ h => h) (Or.inl ⟨by rfl, fun wx hx => by simp [execOp, Act.eval, slice_dig]⟩) hS ?_
              simp only [Act.put, List.getElem_toArray, List.getElem_cons_succ, List.getElem_cons_zero, List.setIfInBounds_toArray, List.set_cons_zero, List.set_cons_succ]
              refine wpAnyH_enter 8 (by kernel_rfl) rfl (by rfl) (f := 50) (args := #[.slice (some ⟨bs, offs + 32 * (2 * k), none⟩) 32 (cps - 32 * (2 * k))]) (by simp [go_sem]) (HR1.out _ _ ((HVS0.out.below (HBW.out.trans (Below.mono hS HBW.out.size))).cut (2 * k) (by have := HSL.out; omega))) ?_
              rintro e z1 ⟨rfl, hb⟩
              replace hS := Over.more hS hb
              refine ⟨_, rfl, hS, ?_⟩
              clear hb 
              simp only [Act.put, List.getElem_toArray, List.getElem_cons_succ, List.getElem_cons_zero, List.setIfInBounds_toArray, List.set_cons_zero, List.set_cons_succ]
              refine wpAnyH_enter 10 (by kernel_rfl) rfl (by rfl) (f := 50) (args := #[.slice (some ⟨g18, 0, none⟩) 32 32]) (by simp [go_sem]) (HR2.out _ _ ((H18.out.below hS H18.out.lt).reads HPPL.out.symm (by rw [HPPL.out]; exact Nat.le_refl _))) ?_
              rintro e z2 ⟨rfl, hb⟩
              replace hS := Over.more hS hb
              refine ⟨_, rfl, hS, ?_⟩
              clear hb 
              simp only [Act.put, List.getElem_toArray, List.getElem_cons_succ, List.getElem_cons_zero, List.setIfInBounds_toArray, List.set_cons_zero, List.set_cons_succ]
              refine wpAnyH_take (i := 11) (v := .bool true) rfl (by kernel_rfl) (by kernel_rfl) (by kernel_rfl) (fun _ _ _ h => h) (Or.inl ⟨by rfl, fun wx hx => by simp [go_sem, hq]⟩) hS ?_
              simp only [Act.put, List.getElem_toArray, List.getElem_cons_succ, List.getElem_cons_zero, List.setIfInBounds_toArray, List.set_cons_zero, List.set_cons_succ]
              refine wpAnyH_take (i := 12) (v := .bool true) rfl (by kernel_rfl) (by kernel_rfl) (by kernel_rfl) (fun _ _ _ h => h) (Or.inl ⟨by rfl, fun wx hx => by simp [go_sem]⟩) hS ?_
              simp only [Act.put, List.getElem_toArray, List.getElem_cons_succ, List.getElem_cons_zero, List.setIfInBounds_toArray, List.set_cons_zero, List.set_cons_succ]
              refine wpAnyH_done (by kernel_rfl) ?_ _
              go_wp2
              go_ret
              exact ⟨rfl, HBW.out.trans (Below.mono hS HBW.out.size)⟩
          | false =>
            cases hww : bt dw k with
            | false =>
              have HP2 : Hid (∀ j, j < k + 1 → bt dw j = bt d j) := fun j hj => by
                by_cases hjk : j = k
                · rw [hjk, hoo, hww]
                · exact HPK.out j (by omega)
              clear HI
              have tk40 : Hid True := trivial
              have tk41 : Hid True := trivial
              have tk42 : Hid True := trivial
              have tk43 : Hid True := trivial
              go_wp2_with (first
                | (clear tk40; with_reducible refine wpSeq_loadW 23 (.tmp 14) g14 0 (cb d) _ ?_ Tryd.underlying23 rfl ?_ ?_ ?_ ?_ ?_
                   · exact H14.out.range
                   · exact HID.out
                   · rfl
                   · rfl
                   · rfl)
                | (clear tk41; go_at_call 53; refine (HC8.out wr k hlt).mono ?_; rintro e y41 ⟨rfl, hbz⟩
                   replace HG4 : Hid (Blk y41 g4 (cb seed) 23) := HG4.out.below hbz HG4.out.lt
                   replace HG7 : Hid (Blk y41 g7 csg 30) := HG7.out.below hbz HG7.out.lt
                   replace H13 : Hid (Blk y41 g13 (cb dw) 23) := H13.out.below hbz H13.out.lt
                   replace H14 : Hid (Blk y41 g14 (cb d) 23) := H14.out.below hbz H14.out.lt
                   replace HBW : Hid (Below w.heap.size w y41) := HBW.out.trans (hbz.mono HBW.out.size)
                   rw [hoo]
                   clear hbz )
                | (clear tk42; with_reducible refine wpSeq_loadW 23 (.tmp 13) g13 0 (cb dw) _ ?_ Tryd.underlying23 rfl ?_ ?_ ?_ ?_ ?_
                   · exact H13.out.range
                   · exact HIDW.out
                   · rfl
                   · rfl
                   · rfl)
                | (clear tk43; go_at_call 53; refine (HC9.out y41 k hlt).mono ?_; rintro e y42 ⟨rfl, hbz⟩
                   replace HG4 : Hid (Blk y42 g4 (cb seed) 23) := HG4.out.below hbz HG4.out.lt
                   replace HG7 : Hid (Blk y42 g7 csg 30) := HG7.out.below hbz HG7.out.lt
                   replace H13 : Hid (Blk y42 g13 (cb dw) 23) := H13.out.below hbz H13.out.lt
                   replace H14 : Hid (Blk y42 g14 (cb d) 23) := H14.out.below hbz H14.out.lt
                   replace HBW : Hid (Below w.heap.size w y42) := HBW.out.trans (hbz.mono HBW.out.size)
                   rw [hww]
                   clear hbz ))
              go_roundw
              case rel => exact ⟨k + 1, by omega, by simp, HP2, ⟨HG4.out, HG7.out, H13.out, H14.out, HBW.out⟩⟩
              case measure => simp [intOf]; omega
            | true =>
              obtain ⟨q, HQ⟩ : ∃ q, Hid (q = dig (blk32 s.2 (2 * k))) := ⟨_, rfl⟩
              have HQL : Hid (q.length = 32) := by show _ = _; rw [HQ.out]; exact len_dig' _
              have hq : ∀ wx : World, (Op.equalIn 10000 23 (.agg (cb q).toArray) (.agg (cb q).toArray)).run Tryd.prog wx = .ok true wx := fun wx => eq_dig_same q HQL.out wx
              obtain ⟨pp, HPP⟩ : ∃ p, Hid (p = partB seed key k (bt d k)) := ⟨_, rfl⟩
              have HPPL : Hid (pp.length = 32) := by show _ = _; rw [HPP.out]; exact len_partB _ _ _ _
              have HQP : Hid (q = dig pp) := by show _ = _; rw [HQ.out, HPP.out]; exact HTX.out k hlt
              have HR1 : Hid (∀ (W : World) (v : Value), Reads W v (blk32 s.2 (2 * k)) → Calls Tryd.prog 50 #[v] W fun e w' => e = .returned (.agg (cb q).toArray) ∧ Below W.heap.size W w') := fun W v hv => by rw [HQ.out]; exact rOf_any v _ W hv (by rw [len_blk32 (by have := HSL.out; omega)]; omega)
              have HR2 : Hid (∀ (W : World) (v : Value), Reads W v pp → Calls Tryd.prog 50 #[v] W fun e w' => e = .returned (.agg (cb q).toArray) ∧ Below W.heap.size W w') := fun W v hv => by rw [HQP.out]; exact rOf_any v _ W hv (by rw [HPPL.out]; omega)
              have HKY : Hid (∀ W : World, Calls Tryd.prog 54 #[.agg (cb seed).toArray, .int .u64 (key : Int), .int .i64 (k : Int), .int .i64 0] W fun e w' => e = .returned (.agg (cb pp).toArray) ∧ Below W.heap.size W w') := fun W => by
                rw [HPP.out, hoo]; exact rKeyOf_any seed key _ (k : Int) (0 : Int) W (key_place k hlt 0 (by omega)) ⟨HSD.out, HKL.out, by (split <;> omega)⟩
              clear HI
              have tk40 : Hid True := trivial
              have tk41 : Hid True := trivial
              have tk42 : Hid True := trivial
              have tk43 : Hid True := trivial
              have tk44 : Hid True := trivial
              have tk45 : Hid True := trivial
              have tk46 : Hid True := trivial
              have tk47 : Hid True := trivial
              go_upto_region 20 with (first
                | (clear tk40; with_reducible refine wpSeq_loadW 23 (.tmp 14) g14 0 (cb d) _ ?_ Tryd.underlying23 rfl ?_ ?_ ?_ ?_ ?_
                   · exact H14.out.range
                   · exact HID.out
                   · rfl
                   · rfl
                   · rfl)
                | (clear tk41; go_at_call 53; refine (HC8.out wr k hlt).mono ?_; rintro e y41 ⟨rfl, hbz⟩
                   replace HG4 : Hid (Blk y41 g4 (cb seed) 23) := HG4.out.below hbz HG4.out.lt
                   replace HG7 : Hid (Blk y41 g7 csg 30) := HG7.out.below hbz HG7.out.lt
                   replace H13 : Hid (Blk y41 g13 (cb dw) 23) := H13.out.below hbz H13.out.lt
                   replace H14 : Hid (Blk y41 g14 (cb d) 23) := H14.out.below hbz H14.out.lt
                   replace HBW : Hid (Below w.heap.size w y41) := HBW.out.trans (hbz.mono HBW.out.size)
                   rw [hoo]
                   clear hbz )
                | (clear tk42; with_reducible refine wpSeq_loadW 23 (.tmp 13) g13 0 (cb dw) _ ?_ Tryd.underlying23 rfl ?_ ?_ ?_ ?_ ?_
                   · exact H13.out.range
                   · exact HIDW.out
                   · rfl
                   · rfl
                   · rfl)
                | (clear tk43; go_at_call 53; refine (HC9.out y41 k hlt).mono ?_; rintro e y42 ⟨rfl, hbz⟩
                   replace HG4 : Hid (Blk y42 g4 (cb seed) 23) := HG4.out.below hbz HG4.out.lt
                   replace HG7 : Hid (Blk y42 g7 csg 30) := HG7.out.below hbz HG7.out.lt
                   replace H13 : Hid (Blk y42 g13 (cb dw) 23) := H13.out.below hbz H13.out.lt
                   replace H14 : Hid (Blk y42 g14 (cb d) 23) := H14.out.below hbz H14.out.lt
                   replace HBW : Hid (Below w.heap.size w y42) := HBW.out.trans (hbz.mono HBW.out.size)
                   rw [hww]
                   clear hbz )
                | (clear tk44; with_reducible refine wpSeq_loadW 23 (.tmp 4) g4 0 (cb seed) _ ?_ Tryd.underlying23 rfl ?_ ?_ ?_ ?_ ?_
                   · exact HG4.out.range
                   · exact HIS.out
                   · rfl
                   · rfl
                   · rfl)
                | (clear tk45; go_at_call 54; refine (HKY.out y42).mono ?_; rintro e y43 ⟨rfl, hbz⟩
                   replace HG4 : Hid (Blk y43 g4 (cb seed) 23) := HG4.out.below hbz HG4.out.lt
                   replace HG7 : Hid (Blk y43 g7 csg 30) := HG7.out.below hbz HG7.out.lt
                   replace H13 : Hid (Blk y43 g13 (cb dw) 23) := H13.out.below hbz H13.out.lt
                   replace H14 : Hid (Blk y43 g14 (cb d) 23) := H14.out.below hbz H14.out.lt
                   replace HBW : Hid (Below w.heap.size w y43) := HBW.out.trans (hbz.mono HBW.out.size)
                   clear hbz )
                | (clear tk46; with_reducible refine wpSeq_allocD ?_ ?_ ?_
                   · rfl
                   · rfl
                   intro g18 y44 nn)
                | (clear tk47; with_reducible refine wpSeq_storeD (.tmp 18) (.tmp 85) g18 zb32 pp ?_ ?_ ?_ ?_ ?_ ?_ ?_ ?_
                   · rfl
                   · exact HPPL.out
                   · exact nn.blk
                   · rfl
                   · rfl
                   · rfl
                   · rfl
                   intro y45 hs
                   have hbz := nn.below.trans (hs.only.below nn.ge nn.below.size)
                   replace HG4 : Hid (Blk y45 g4 (cb seed) 23) := HG4.out.below hbz HG4.out.lt
                   replace HG7 : Hid (Blk y45 g7 csg 30) := HG7.out.below hbz HG7.out.lt
                   replace H13 : Hid (Blk y45 g13 (cb dw) 23) := H13.out.below hbz H13.out.lt
                   replace H14 : Hid (Blk y45 g14 (cb d) 23) := H14.out.below hbz H14.out.lt
                   replace HBW : Hid (Below w.heap.size w y45) := HBW.out.trans (hbz.mono HBW.out.size)
                   have H18 : Hid (Blk y45 g18 (cb pp) 23) := hs.blk
                   clear nn hs hbz))
              refine wp_region_held_drew (S := Over (World.drew y45)) (by kernel_rfl) (Over.refl _) ?_
              intro hS
              replace HG7 : Hid (Blk (World.drew y45) g7 csg 30) := HG7.out.drew
              replace H18 : Hid (Blk (World.drew y45) g18 (cb pp) 23) := H18.out.drew
              replace HBW : Hid (Below w.heap.size w (World.drew y45)) := HBW.out.drew
              change wpAnyH _ _ _ _ _ _ _ _ (World.drew y45)
              generalize World.drew y45 = y0 at *
              try simp only [Act.put, List.setIfInBounds_toArray, List.set_cons_zero, List.set_cons_succ]
              refine wpAnyH_take (i := 0) (v := .pointer (some ⟨g7, 97, none⟩)) rfl (by kernel_rfl) (by kernel_rfl) (by kernel_rfl) (fun _ _ _ h => h) (Or.inl ⟨by rfl, fun wx hx => by simp [go_sem]⟩) hS ?_
              simp only [Act.put, List.getElem_toArray, List.getElem_cons_zero, List.setIfInBounds_toArray, List.set_cons_zero, List.set_cons_succ]
              refine wpAnyH_take (i := 1) (v := .slice (some ⟨bs, offs, none⟩) 16384 cps) rfl (by kernel_rfl) (by kernel_rfl) (by kernel_rfl) (fun _ _ _ h => h) (Or.inl ⟨by rfl, fun wx hx => by (have hc : wx.cell? ⟨g7, 97, none⟩ = some (.slice (some ⟨bs, offs, none⟩) 16384 cps) := HCS.out _ _ (HG7.out.below hx HG7.out.lt)); simp [go_sem, hc]⟩) hS ?_
              simp only [Act.put, List.getElem_toArray, List.getElem_cons_succ, List.getElem_cons_zero, List.setIfInBounds_toArray, List.set_cons_zero, List.set_cons_succ]
              refine wpAnyH_take (i := 2) (v := .int .i64 (k : Int)) rfl (by kernel_rfl) (by kernel_rfl) (by kernel_rfl) (fun _ _ _ h => h) (Or.inl ⟨by rfl, fun wx hx => by simp [go_sem]⟩) hS ?_
              simp only [Act.put, List.getElem_toArray, List.getElem_cons_succ, List.getElem_cons_zero, List.setIfInBounds_toArray, List.set_cons_zero, List.set_cons_succ]
              refine wpAnyH_take (i := 3) (v := .int .i64 (64 * (k : Int))) rfl (by kernel_rfl) (by kernel_rfl) (by kernel_rfl) (fun _ _ _ h => h) (Or.inl ⟨by rfl, fun wx hx => by simp [go_sem, f6]⟩) hS ?_
              simp only [Act.put, List.getElem_toArray, List.getElem_cons_succ, List.getElem_cons_zero, List.setIfInBounds_toArray, List.set_cons_zero, List.set_cons_succ]
              refine wpAnyH_take (i := 4) (v := .int .i64 (k : Int)) rfl (by kernel_rfl) (by kernel_rfl) (by kernel_rfl) (fun _ _ _ h => h) (Or.inl ⟨by rfl, fun wx hx => by simp [go_sem]⟩) hS ?_
              simp only [Act.put, List.getElem_toArray, List.getElem_cons_succ, List.getElem_cons_zero, List.setIfInBounds_toArray, List.set_cons_zero, List.set_cons_succ]
              refine wpAnyH_take (i := 5) (v := .int .i64 (64 * (k : Int))) rfl (by kernel_rfl) (by kernel_rfl) (by kernel_rfl) (fun _ _ _ h => h) (Or.inl ⟨by rfl, fun wx hx => by simp [go_sem, f6]⟩) hS ?_
              simp only [Act.put, List.getElem_toArray, List.getElem_cons_succ, List.getElem_cons_zero, List.setIfInBounds_toArray, List.set_cons_zero, List.set_cons_succ]
              refine wpAnyH_take (i := 6) (v := .int .i64 (64 * (k : Int) + 32)) rfl (by kernel_rfl) (by kernel_rfl) (by kernel_rfl) (fun _ _ _ h => h) (Or.inl ⟨by rfl, fun wx hx => by simp [go_sem, f7]⟩) hS ?_
              simp only [Act.put, List.getElem_toArray, List.getElem_cons_succ, List.getElem_cons_zero, List.setIfInBounds_toArray, List.set_cons_zero, List.set_cons_succ]
              refine wpAnyH_take (i := 7) (v := .slice (some ⟨bs, offs + 32 * (2 * k), none⟩) 32 (cps - 32 * (2 * k))) rfl (by kernel_rfl) (by kernel_rfl) (by kernel_rfl) (fun _ _ _ h => h) (Or.inl ⟨by rfl, fun wx hx => by exact cut64 bs offs cps k hlt HCPS.out _ _ _ _ wx rfl rfl rfl rfl⟩) hS ?_
              simp only [Act.put, List.getElem_toArray, List.getElem_cons_succ, List.getElem_cons_zero, List.setIfInBounds_toArray, List.set_cons_zero, List.set_cons_succ]
              refine wpAnyH_take (i := 9) (v := .slice (some ⟨g18, 0, none⟩) 32 32) rfl (by kernel_rfl) (by kernel_rfl) (by kernel_rfl) (fun _ _ _ h => h) (Or.inl ⟨by rfl, fun wx hx => by simp [execOp, Act.eval, slice_dig]⟩) hS ?_
              simp only [Act.put, List.getElem_toArray, List.getElem_cons_succ, List.getElem_cons_zero, List.setIfInBounds_toArray, List.set_cons_zero, List.set_cons_succ]
              refine wpAnyH_enter 8 (by kernel_rfl) rfl (by rfl) (f := 50) (args := #[.slice (some ⟨bs, offs + 32 * (2 * k), none⟩) 32 (cps - 32 * (2 * k))]) (by simp [go_sem]) (HR1.out _ _ ((HVS0.out.below (HBW.out.trans (Below.mono hS HBW.out.size))).cut (2 * k) (by have := HSL.out; omega))) ?_
              rintro e z1 ⟨rfl, hb⟩
              replace hS := Over.more hS hb
              refine ⟨_, rfl, hS, ?_⟩
              clear hb 
              simp only [Act.put, List.getElem_toArray, List.getElem_cons_succ, List.getElem_cons_zero, List.setIfInBounds_toArray, List.set_cons_zero, List.set_cons_succ]
              refine wpAnyH_enter 10 (by kernel_rfl) rfl (by rfl) (f := 50) (args := #[.slice (some ⟨g18, 0, none⟩) 32 32]) (by simp [go_sem]) (HR2.out _ _ ((H18.out.below hS H18.out.lt).reads HPPL.out.symm (by rw [HPPL.out]; exact Nat.le_refl _))) ?_
              rintro e z2 ⟨rfl, hb⟩
              replace hS := Over.more hS hb
              refine ⟨_, rfl, hS, ?_⟩
              clear hb 
              simp only [Act.put, List.getElem_toArray, List.getElem_cons_succ, List.getElem_cons_zero, List.setIfInBounds_toArray, List.set_cons_zero, List.set_cons_succ]
              refine wpAnyH_take (i := 11) (v := .bool true) rfl (by kernel_rfl) (by kernel_rfl) (by kernel_rfl) (fun _ _ _ h => h) (Or.inl ⟨by rfl, fun wx hx => by simp [go_sem, hq]⟩) hS ?_
              simp only [Act.put, List.getElem_toArray, List.getElem_cons_succ, List.getElem_cons_zero, List.setIfInBounds_toArray, List.set_cons_zero, List.set_cons_succ]
              refine wpAnyH_take (i := 12) (v := .bool true) rfl (by kernel_rfl) (by kernel_rfl) (by kernel_rfl) (fun _ _ _ h => h) (Or.inl ⟨by rfl, fun wx hx => by simp [go_sem]⟩) hS ?_
              simp only [Act.put, List.getElem_toArray, List.getElem_cons_succ, List.getElem_cons_zero, List.setIfInBounds_toArray, List.set_cons_zero, List.set_cons_succ]
              refine wpAnyH_done (by kernel_rfl) ?_ _
              go_wp2
              go_ret
              exact ⟨rfl, HBW.out.trans (Below.mono hS HBW.out.size)⟩
end Go.Proofs.YtableajopaappaaDoor
/- A slice of signed roots appended whole (layer 12). -/
namespace Go.Proofs.YtableajopaappaaDoor
open Go.RowKit Go.Shelf
set_option maxRecDepth 100000
theorem rows_of (w : World) (b : Nat) : ∀ (l : List SgT) (off : Nat), (∀ j, j < l.length → ∃ vs, SgAt w b (off + j * 98) (l.getD j zeroS) vs ∧ Reads w vs (l.getD j zeroS).2) →
    ∃ T : List (SgT × Value), T.map (·.1) = l ∧ (∀ p ∈ T, Reads w p.2 p.1.2 ∧ okS p.1) ∧ ∀ j u, (flatS T)[j]? = some u → w.cell? ⟨b, off + j, none⟩ = some u
  | [], off, _ => ⟨[], rfl, (fun p hp => by cases hp), fun j u hj => by simp [flatS] at hj⟩
  | s :: l, off, h => by
    obtain ⟨v0, h0, r0⟩ := h 0 (by simp)
    rw [Nat.zero_mul, Nat.add_zero] at h0
    obtain ⟨T, e, hp, hc⟩ := rows_of w b l (off + 98) (fun j hj => by
      obtain ⟨v, h1, h2⟩ := h (j + 1) (by simpa using hj)
      exact ⟨v, by rw [show off + 98 + j * 98 = off + (j + 1) * 98 by omega]; exact h1, h2⟩)
    refine ⟨(s, v0) :: T, by rw [List.map_cons, e], fun p hpp => ?_, fun j u hj => ?_⟩
    · rcases List.mem_cons.1 hpp with rfl | hpp
      · exact ⟨r0, h0.ok⟩
      · exact hp p hpp
    · have e2 : flatS ((s, v0) :: T) = sgC s v0 ++ flatS T := by simp [flatS]
      rw [e2] at hj
      have hl : (sgC s v0).length = 98 := len_sgC h0.ok v0
      by_cases hj98 : j < 98
      · rw [List.getElem?_append_left (by omega)] at hj
        exact h0.all j u hj
      · rw [List.getElem?_append_right (by omega), hl] at hj
        have := hc (j - 98) u hj
        rwa [show off + 98 + (j - 98) = off + j by omega] at this
theorem flatS_len : ∀ (T : List (SgT × Value)), (∀ p ∈ T, okS p.1) → (flatS T).length = T.length * 98
  | [], _ => rfl
  | p :: T, h => by
    have e2 : flatS (p :: T) = sgC p.1 p.2 ++ flatS T := by simp [flatS]
    rw [e2, List.length_append, len_sgC (h p (by simp)), flatS_len T (fun q hq => h q (by simp [hq])), List.length_cons]
    omega
theorem flatS_one : ∀ (T : List (SgT × Value)), (∀ p ∈ T, p.2.oneCell' = true) → ∀ u ∈ flatS T, u.oneCell' = true
  | [], _ => fun u hu => by simp [flatS] at hu
  | p :: T, h => fun u hu => by
    have e2 : flatS (p :: T) = sgC p.1 p.2 ++ flatS T := by simp [flatS]
    rw [e2, List.mem_append] at hu
    rcases hu with hu | hu
    · rw [sgC_eq, List.mem_append, List.mem_singleton] at hu
      rcases hu with hu | rfl
      · exact rtC_one _ u hu
      · exact h p (by simp)
    · exact flatS_one T (fun q hq => h q (by simp [hq])) u hu
theorem Reads.one {w : World} {v : Value} {l : Bs} (h : Reads w v l) : v.oneCell' = true := by
  obtain ⟨a, n, c, rfl⟩ := h.form
  rfl
/-- all signed roots of a slice behind nothing -/
theorem wpSeq_appendTr {ops : Array Oper} {Q : Exit → Act → World → Prop} {rest : List Oper} {o : Oper} {a : Act} {w : World} (s x : Operand) (base : Nat) (l : List SgT) (ad : Option Addr) (n c : Nat) (hr : ReadsS w (.slice ad n c) l) (hl : l.length < 1000000) (hbase : base ≤ w.heap.size)
    (ho : o.op = .call { callee := .builtin .append, args := #[s, x], argTypes := #[24, 24] }) (hs : a.eval s = .slice none 0 0) (hx : a.eval x = .slice ad n c) (hgd : o.guard = none)
    (h : ∀ v' w' T, T.map (·.1) = l → (∀ p ∈ T, Reads w p.2 p.1.2) → OwnS w' base v' T → Below base w w' → wpList Tryd.prog ops Q rest (a.put o.dst v') w') : wpList Tryd.prog ops Q (o :: rest) a w := by
  obtain ⟨i0, hi, hz0, hz1, hz2⟩ := info_parts Tryd.infos3
  obtain ⟨⟨ad', c', hv, hc, hn, hat⟩, hok⟩ := id hr
  simp only [Value.slice.injEq] at hv
  obtain ⟨rfl, rfl, rfl⟩ := hv
  cases ad with
  | none =>
    have h0 : l = [] := List.eq_nil_of_length_eq_zero (by have := hn rfl; omega)
    subst h0
    have hc0 := hn rfl
    subst hc0
    exact wpList_append_own_none hgd s x 24 ho base 30 i0 98 Tryd.underlying24 hi (.slice none 0 0) 0 [] hs (World.ownsRow_nil _ _ _ _) hx (h (.slice none 0 0) w [] rfl (fun p hp => by cases hp) (OwnS.nil _ _) (Below.refl _ _))
  | some ad =>
    obtain ⟨T, e, hp, hcell⟩ : ∃ T : List (SgT × Value), T.map (·.1) = l ∧ (∀ p ∈ T, Reads w p.2 p.1.2 ∧ okS p.1) ∧ ∀ j u, (flatS T)[j]? = some u → w.cell? (ad.add j) = some u := by
      by_cases hp : 0 < l.length
      · obtain ⟨b, off, hb, hy⟩ := hat hp
        simp only [Option.some.injEq] at hb
        subst hb
        obtain ⟨T, e, h1, h2⟩ := rows_of w b l off hy
        exact ⟨T, e, h1, fun j u hj => by rw [Addr.add_mid]; exact h2 j u hj⟩
      · have h0 : l = [] := List.eq_nil_of_length_eq_zero (by omega)
        subst h0
        exact ⟨[], rfl, (fun p hp => by cases hp), fun j u hj => by simp [flatS] at hj⟩
    have hTl : T.length = l.length := by rw [← e, List.length_map]
    refine wpList_append_own_at w hgd s x 24 ho base 30 i0 (.agg (sgC zeroS (.slice none 0 0)).toArray) 98 128 Tryd.underlying24 hi hz0 hz1 hz2 (by show (sgC zeroS (.slice none 0 0)).toArray.size = 98; rw [List.size_toArray]; exact len_sgC okS_zero _) (by decide) (.slice none 0 0) 0 [] hs (World.ownsRow_nil _ _ _ _) ad l.length c (flatS T) hx (by rw [flatS_len T (fun p h => (hp p h).2), hTl]) hcell (flatS_one T (fun p h => (hp p h).1.one)) (by unfold maxLen; omega) (by omega) hbase ?_
    intro v' w' h2 h3 _ _
    refine h v' w' T e (fun p h => (hp p h).1) ⟨?_, fun p h => (hp p h).2⟩ ((Below.refl _ _).grown h3 hbase (fun k hk => by simp [Value.ownBlock] at hk))
    rw [hTl]
    rw [Nat.zero_add, List.nil_append] at h2
    exact h2
end Go.Proofs.YtableajopaappaaDoor
/- A made row of signed roots: made, copied into, stored into, read (layer 12). -/
namespace Go.Proofs.YtableajopaappaaDoor
open Go.RowKit Go.Shelf
set_option maxRecDepth 100000
/-- the block g holds the signed roots L, one behind the other -/
structure RowS (w : World) (g : Nat) (L : List (SgT × Value)) : Prop where
  blk : Blk w g (flatS L) 30
  ok : ∀ p ∈ L, okS p.1
theorem RowS.below {w w' : World} {g : Nat} {L : List (SgT × Value)} (h : RowS w g L) (hb : Below w.heap.size w w') : RowS w' g L := ⟨h.blk.below hb h.blk.lt, h.ok⟩
theorem RowS.only {w w' : World} {g g' : Nat} {L : List (SgT × Value)} (h : RowS w g L) (ho : Only g' w w') (hne : g ≠ g') : RowS w' g L := ⟨h.blk.only ho hne, h.ok⟩
theorem RowS.drew {w : World} {g : Nat} {L : List (SgT × Value)} (h : RowS w g L) : RowS w.drew g L := ⟨h.blk.drew, h.ok⟩
theorem RowS.lt {w : World} {g : Nat} {L : List (SgT × Value)} (h : RowS w g L) : g < w.heap.size := h.blk.lt
def zeroL (n : Nat) : List (SgT × Value) := List.replicate n (zeroS, .slice none 0 0)
theorem zeroL_ok (n : Nat) : ∀ p ∈ zeroL n, okS p.1 := fun p hp => by rw [(List.mem_replicate.1 hp).2]; exact okS_zero
theorem len_zeroL (n : Nat) : (zeroL n).length = n := List.length_replicate
theorem flatS_cut (A B : List (SgT × Value)) : flatS (A ++ B) = flatS A ++ flatS B := by simp [flatS]
/-- the signed root at a place -/
theorem RowS.at {w : World} {g : Nat} {L : List (SgT × Value)} (h : RowS w g L) {k : Nat} {p : SgT × Value} (hk : L[k]? = some p) : SgAt w g (k * 98) p.1 p.2 :=
  ⟨fun i v hv => by rw [h.blk.cell]; exact flatS_at h.ok k i p v hk hv, h.ok p (List.mem_of_getElem? hk)⟩
/-- a beginning, as a slice -/
theorem RowS.readsS {w : World} {g : Nat} {L : List (SgT × Value)} (h : RowS w g L) (m : Nat) (hm : m ≤ L.length) (c : Nat) (hc : m ≤ c) (hr : ∀ p ∈ L.take m, Reads w p.2 p.1.2) : ReadsS w (.slice (some ⟨g, 0, none⟩) m c) ((L.take m).map (·.1)) := by
  have hl : ((L.take m).map (·.1)).length = m := by rw [List.length_map, List.length_take]; omega
  refine ⟨⟨_, c, by rw [hl], by rw [hl]; exact hc, (fun e => by cases e), fun _ => ⟨g, 0, rfl, fun j hj => ?_⟩⟩, fun s hs => ?_⟩
  · rw [hl] at hj
    have hjl : j < L.length := by omega
    have e : ((L.take m).map (·.1)).getD j zeroS = (L[j]).1 := by
      rw [List.getD_eq_getElem?_getD, List.getElem?_map, List.getElem?_take_of_lt hj, List.getElem?_eq_getElem hjl]
      rfl
    rw [e, Nat.zero_add]
    refine ⟨(L[j]).2, h.at (List.getElem?_eq_getElem hjl), hr _ ?_⟩
    have : (L.take m)[j]? = some L[j] := by rw [List.getElem?_take_of_lt hj, List.getElem?_eq_getElem hjl]
    exact List.mem_of_getElem? this
  · obtain ⟨p, hp, rfl⟩ := List.mem_map.1 hs
    exact h.ok p (List.mem_of_mem_take hp)
theorem flatS_zero (n : Nat) : (flatS (zeroL n)).length = n * 98 := by rw [flatS_len _ (zeroL_ok n), len_zeroL]
/-- what a made slice's cells are -/
theorem madeS (n : Nat) : madeCells (Value.cells (.agg (sgC zeroS (.slice none 0 0)).toArray)) (n * 98) = (flatS (zeroL n)).toArray := by
  apply Array.ext
  · rw [size_madeCells, List.size_toArray, flatS_zero]
  · intro j h1 h2
    rw [size_madeCells] at h1
    have hz : (Value.cells (.agg (sgC zeroS (.slice none 0 0)).toArray)).size = 98 := by
      show (sgC zeroS (.slice none 0 0)).toArray.size = 98
      rw [List.size_toArray]
      exact len_sgC okS_zero _
    have hj : j = (j / 98) * 98 + j % 98 := by omega
    have hq : j / 98 < n := by omega
    have hm : j % 98 < (sgC zeroS (.slice none 0 0)).length := by rw [len_sgC okS_zero]; omega
    have e1 := flatS_at (zeroL_ok n) (j / 98) (j % 98) (zeroS, .slice none 0 0) ((sgC zeroS (.slice none 0 0))[j % 98]) (by rw [zeroL, List.getElem?_replicate, if_pos hq]) (List.getElem?_eq_getElem hm)
    rw [← hj] at e1
    have e2 : (flatS (zeroL n)).toArray[j] = (sgC zeroS (.slice none 0 0))[j % 98] := by
      rw [List.getElem_toArray]
      exact Option.some.inj ((List.getElem?_eq_getElem _).symm.trans e1)
    rw [e2]
    simp only [madeCells, Array.getElem_map, Array.getElem_range, hz]
    show (sgC zeroS (.slice none 0 0)).toArray[j % 98]! = _
    rw [getElem!_pos _ _ (by rw [List.size_toArray]; exact hm), List.getElem_toArray]
theorem make_sg (f : Operand → Value) (o : Oper) (x y : Operand) (n : Nat) (hn : n ≤ 1000000) (ho : o.op = .makeSlice 24 x y) (hx : f x = .int .i64 (n : Int)) (hy : f y = .int .i64 (n : Int)) (w : World) :
    (execOp f o).run Tryd.prog w = .ok (.value (.slice (some ⟨w.heap.size, 0, none⟩) n n)) (w.alloc (.cells (flatS (zeroL n)).toArray 30)) := by
  obtain ⟨i0, hi, hz, hs, hby⟩ := info_parts Tryd.infos3
  have hr := run_make (P := Tryd.prog) w 24 30 i0 _ Tryd.underlying24 hi hz .i64 .i64 (n : Int) (n : Int) (by omega) (Int.le_refl _) (by rw [hby]; omega) (by omega)
  rw [Int.toNat_natCast, hs, madeS] at hr
  unfold execOp
  rw [ho]
  simp only [hx, hy, Sem.run_bind, hr, Result.andThen_ok, Sem.run_pure]
theorem wpSeq_makeS {ops : Array Oper} {Q : Exit → Act → World → Prop} {rest : List Oper} {o : Oper} {a : Act} {w : World} (x y : Operand) (n : Nat) (hn : n ≤ 1000000) (ho : o.op = .makeSlice 24 x y) (hx : a.eval x = .int .i64 (n : Int)) (hy : a.eval y = .int .i64 (n : Int)) (hw : Region.wanted o (yielded ops a.tmps) = true)
    (h : ∀ g w', w.heap.size ≤ g → RowS w' g (zeroL n) → Below w.heap.size w w' → wpList Tryd.prog ops Q rest (a.put o.dst (.slice (some ⟨g, 0, none⟩) n n)) w') : wpList Tryd.prog ops Q (o :: rest) a w :=
  wpSeq_val _ _ hw (make_sg _ o x y n hn ho hx hy w) (h _ _ (Nat.le_refl _) ⟨Blk.new _ _ _, zeroL_ok n⟩ (below_alloc _ _))
/-- a signed root stored at a place of a row -/
theorem RowS.put {w w' : World} {g k : Nat} {L : List (SgT × Value)} {s : SgT} {ad : Option Addr} {n c : Nat} (h : RowS w g L) (hk : k < L.length) (os : okS s) (hr : SetR (flatS (L.take k) ++ (sgC s (.slice ad n c) ++ flatS (L.drop (k + 1)))) 30 w g w') : RowS w' g (L.set k (s, .slice ad n c)) := by
  have e : L.set k (s, .slice ad n c) = L.take k ++ ((s, Value.slice ad n c) :: L.drop (k + 1)) := by rw [List.set_eq_take_append_cons_drop, if_pos hk]
  refine ⟨?_, fun p hp => ?_⟩
  · rw [e, flatS_cut]
    have e2 : flatS ((s, Value.slice ad n c) :: L.drop (k + 1)) = sgC s (.slice ad n c) ++ flatS (L.drop (k + 1)) := by simp [flatS]
    rw [e2]
    exact hr.blk
  · rw [e] at hp
    rcases List.mem_append.1 hp with hp | hp
    · exact h.ok p (List.mem_of_mem_take hp)
    · rcases List.mem_cons.1 hp with rfl | hp
      · exact os
      · exact h.ok p (List.mem_of_mem_drop hp)
theorem RowS.parts {w : World} {g k : Nat} {L : List (SgT × Value)} (h : RowS w g L) (hk : k < L.length) : Blk w g (flatS (L.take k) ++ (sgC (L[k]).1 (L[k]).2 ++ flatS (L.drop (k + 1)))) 30 ∧ (flatS (L.take k)).length = k * 98 := by
  have e : L = L.take k ++ (L[k] :: L.drop (k + 1)) := by rw [List.getElem_cons_drop, List.take_append_drop]
  have e2 : flatS L = flatS (L.take k) ++ (sgC (L[k]).1 (L[k]).2 ++ flatS (L.drop (k + 1))) := by
    conv => lhs; rw [e]
    rw [flatS_cut]
    congr 1
  refine ⟨by rw [← e2]; exact h.blk, ?_⟩
  rw [flatS_len _ (fun p hp => h.ok p (List.mem_of_mem_take hp)), List.length_take]
  congr 1
  omega
theorem wpSeq_storeRowS {ops : Array Oper} {Q : Exit → Act → World → Prop} {rest : List Oper} {o : Oper} {a : Act} {w : World} (x y : Operand) (g k : Nat) (L : List (SgT × Value)) (s : SgT) (ad : Option Addr) (n c : Nat) (h : RowS w g L) (hk : k < L.length) (os : okS s) (ho : o.op = .store 30 x y) (hx : a.eval x = .pointer (some ⟨g, k * 98, none⟩)) (hy : a.eval y = .agg (sgC s (.slice ad n c)).toArray) (hgd : o.guard = none)
    (hh : ∀ w', RowS w' g (L.set k (s, .slice ad n c)) → Only g w w' → wpList Tryd.prog ops Q rest (a.put o.dst undef) w') : wpList Tryd.prog ops Q (o :: rest) a w :=
  wpSeq_storeSgAt x y g (k * 98) (flatS (L.take k)) (sgC (L[k]).1 (L[k]).2) (flatS (L.drop (k + 1))) (sgC s (.slice ad n c)) 30 (h.parts hk).1 (h.parts hk).2 (len_sgC (h.ok _ (List.getElem_mem hk)) _) (len_sgC os _) (sgC_one _ _ _ _) ho hx hy hgd (fun w' hr => hh w' (h.put hk os hr) hr.only)
end Go.Proofs.YtableajopaappaaDoor
/- Rows of signed roots that are copied into from a place on; rows of texts that are made and stored into (layer 12). -/
namespace Go.Proofs.YtableajopaappaaDoor
open Go.RowKit Go.Shelf
set_option maxRecDepth 100000
theorem flatS_take {L : List (SgT × Value)} (h : ∀ p ∈ L, okS p.1) (k : Nat) (hk : k ≤ L.length) : (flatS L).take (k * 98) = flatS (L.take k) := by
  have e : flatS L = flatS (L.take k) ++ flatS (L.drop k) := by rw [← flatS_cut, List.take_append_drop]
  have hl : (flatS (L.take k)).length = k * 98 := by rw [flatS_len _ (fun p hp => h p (List.mem_of_mem_take hp)), List.length_take, Nat.min_eq_left hk]
  conv => lhs; rw [e]
  rw [← hl, List.take_left]
theorem flatS_drop {L : List (SgT × Value)} (h : ∀ p ∈ L, okS p.1) (k : Nat) (hk : k ≤ L.length) : (flatS L).drop (k * 98) = flatS (L.drop k) := by
  have e : flatS L = flatS (L.take k) ++ flatS (L.drop k) := by rw [← flatS_cut, List.take_append_drop]
  have hl : (flatS (L.take k)).length = k * 98 := by rw [flatS_len _ (fun p hp => h p (List.mem_of_mem_take hp)), List.length_take, Nat.min_eq_left hk]
  conv => lhs; rw [e]
  rw [← hl, List.drop_left]
/-- signed roots copied into a row, from place k on -/
theorem run_copyK (w : World) (ty : TypeId) (g k dLen dCap : Nat) (a : Addr) (sLen sCap : Nat) (L T : List (SgT × Value)) (h : RowS w g L) (hT : ∀ p ∈ T, okS p.1) (h1 : ∀ p ∈ T, p.2.oneCell' = true) (hd : k + dLen = L.length) (hm : Nat.min sLen dLen = T.length)
    (hsrc : ∀ j v, (flatS T)[j]? = some v → w.cell? (a.add j) = some v) :
    ∃ w', (Builtin.copy_ #[24, 24] ty #[.slice (some ⟨g, k * 98, none⟩) dLen dCap, .slice (some a) sLen sCap]).run Tryd.prog w = .ok (goInt T.length) w' ∧ RowS w' g (L.take k ++ T ++ L.drop (k + T.length)) ∧ Only g w w' := by
  obtain ⟨i0, hi, hz, hsz, _⟩ := info_parts Tryd.infos3
  have hle : T.length ≤ dLen := by rw [← hm]; exact Nat.min_le_right _ _
  have hl := run_loadCells_list (P := Tryd.prog) w a (flatS T) hsrc
  have hTl := flatS_len T hT
  have hLl := flatS_len L h.ok
  have hg : w.heap[g]? = some (.cells (flatS L).toArray 30 (0, 0)) := h.blk
  have hst := run_storeCells_at Tryd.prog g (k * 98) 30 (flatS T) 0 (flatS L).toArray w hg (by rw [List.size_toArray, hTl, hLl]; omega) (flatS_one T h1)
  have hn : (flatS T).length = Nat.min sLen dLen * 98 := by rw [hTl, hm]
  refine ⟨w.setRow g ((flatS L).toArray.toList.take (k * 98 + 0) ++ flatS T ++ (flatS L).toArray.toList.drop (k * 98 + 0 + (flatS T).length)).toArray, ?_, ⟨?_, ?_⟩, ?_⟩
  rotate_left
  · have e : (flatS L).toArray.toList.take (k * 98 + 0) ++ flatS T ++ (flatS L).toArray.toList.drop (k * 98 + 0 + (flatS T).length) = flatS (L.take k ++ T ++ L.drop (k + T.length)) := by
      rw [flatS_cut, flatS_cut, hTl, Nat.add_zero, ← Nat.add_mul, List.toList_toArray, flatS_take h.ok k (by omega), flatS_drop h.ok (k + T.length) (by omega)]
    show (w.setRow g _).heap[g]? = _
    rw [setRow_heap w g (flatS L).toArray _ 30 (0, 0) hg, e]
  · intro p hp
    rcases List.mem_append.1 hp with hp | hp
    · rcases List.mem_append.1 hp with hp | hp
      · exact h.ok p (List.mem_of_mem_take hp)
      · exact hT p hp
    · exact h.ok p (List.mem_of_mem_drop hp)
  · exact ⟨rfl, rfl, rfl, Nat.le_of_eq (size_setRow _ _ _).symm, fun k hk _ => setRow_other _ _ _ _ hk⟩
  · rw [← hm]
    simp [Builtin.copy_, run_underlying Tryd.underlying24, Builtin.lenOf, Builtin.firstCells, sizeOf, typeInfo, hi, hsz, ← hn, hl, hst]
theorem copyK_op (f : Operand → Value) (o : Oper) (d s : Operand) (ho : o.op = .call { callee := .builtin .copy, args := #[d, s], argTypes := #[24, 24] }) (w : World) (g k dLen dCap : Nat) (a : Addr) (sLen sCap : Nat) (L T : List (SgT × Value)) (h : RowS w g L) (hT : ∀ p ∈ T, okS p.1) (h1 : ∀ p ∈ T, p.2.oneCell' = true) (hd : k + dLen = L.length) (hm : Nat.min sLen dLen = T.length)
    (hsrc : ∀ j v, (flatS T)[j]? = some v → w.cell? (a.add j) = some v) (hx : f d = .slice (some ⟨g, k * 98, none⟩) dLen dCap) (hy : f s = .slice (some a) sLen sCap) :
    ∃ w', (execOp f o).run Tryd.prog w = .ok (.value (.int .i64 (T.length : Int))) w' ∧ RowS w' g (L.take k ++ T ++ L.drop (k + T.length)) ∧ Only g w w' := by
  obtain ⟨w', hrun, h2, h3⟩ := run_copyK w o.type g k dLen dCap a sLen sCap L T h hT h1 hd hm hsrc
  refine ⟨w', ?_, h2, h3⟩
  unfold execOp
  simp only [ho, resolve, invoke, builtin, Sem.run_bind, Sem.run_pure, Result.andThen_ok, List.map_toArray, List.map_cons, List.map_nil, hx, hy, hrun]
  rfl
theorem wpAnyH_copyK {md : Region.Mode} {ops : Array Oper} {Q : Exit → Act → World → Prop} {S : World → Prop} {fuel : Nat} {listed : Array Bool} {ac : Act} {w : World} (i : Nat) {oi : Oper} (d s : Operand) (g k dLen dCap : Nat) (a : Addr) (sLen sCap : Nat) (L T : List (SgT × Value)) (h : RowS w g L) (hT : ∀ p ∈ T, okS p.1) (h1 : ∀ p ∈ T, p.2.oneCell' = true) (hd : k + dLen = L.length) (hm : Nat.min sLen dLen = T.length)
    (hsrc : ∀ j v, (flatS T)[j]? = some v → w.cell? (a.add j) = some v) (hr : Region.ready md ops listed = [i]) (hi : ops[i]? = some oi) (hw : Region.wanted oi (yielded ops ac.tmps) = true) (ho : oi.op = .call { callee := .builtin .copy, args := #[d, s], argTypes := #[24, 24] }) (hx : ac.eval d = .slice (some ⟨g, k * 98, none⟩) dLen dCap) (hy : ac.eval s = .slice (some a) sLen sCap)
    (hh : ∀ w', RowS w' g (L.take k ++ T ++ L.drop (k + T.length)) → Only g w w' → S w' ∧ wpAnyH Tryd.prog md ops Q S fuel (listed.setIfInBounds i true) (ac.put oi.dst (.int .i64 (T.length : Int))) w') : wpAnyH Tryd.prog md ops Q S (fuel + 1) listed ac w := by
  obtain ⟨w', hrun, h2, h3⟩ := copyK_op ac.eval oi d s ho w g k dLen dCap a sLen sCap L T h hT h1 hd hm hsrc hx hy
  obtain ⟨hS, h4⟩ := hh w' h2 h3
  exact wpAnyH_step i _ w' hr hi hw hrun hS h4
/-- a slice of signed roots, as it was at an earlier world, copied to the front of a row: as many as have room -/
theorem wpSeq_copyW {ops : Array Oper} {Q : Exit → Act → World → Prop} {rest : List Oper} {o : Oper} {a : Act} {w : World} (w0 : World) (d s : Operand) (g N cap m : Nat) (L : List (SgT × Value)) (l : List SgT) (ad : Option Addr) (n c : Nat) (h : RowS w g L) (hd : N = L.length) (hr : ReadsS w0 (.slice ad n c) l) (hb0 : Below w0.heap.size w0 w) (hm : Nat.min l.length L.length = m)
    (ho : o.op = .call { callee := .builtin .copy, args := #[d, s], argTypes := #[24, 24] }) (hx : a.eval d = .slice (some ⟨g, 0, none⟩) N cap) (hy : a.eval s = .slice ad n c) (hgd : o.guard = none)
    (hh : ∀ w' T, T.map (·.1) = l.take m → (∀ p ∈ T, Reads w0 p.2 p.1.2) → RowS w' g (T ++ L.drop m) → Only g w w' → wpList Tryd.prog ops Q rest (a.put o.dst (.int .i64 (m : Int))) w') : wpList Tryd.prog ops Q (o :: rest) a w := by
  obtain ⟨⟨ad', c', hv, hc, hn, hat⟩, hok⟩ := id hr
  simp only [Value.slice.injEq] at hv
  obtain ⟨rfl, rfl, rfl⟩ := hv
  refine wpList_plain hgd fun K hK => ?_
  cases ad with
  | none =>
    have h0 : l = [] := List.eq_nil_of_length_eq_zero (by have := hn rfl; omega)
    subst h0
    have hc0 := hn rfl
    subst hc0
    have hm0 : m = 0 := by rw [← hm]; exact Nat.zero_min _
    subst hm0
    have hrun := run_copy_nil (P := Tryd.prog) w 24 24 o.type 30 ⟨g, 0, none⟩ N cap Tryd.underlying24 (by rw [info_signed]; rfl)
    unfold Oper.wp execOp
    simp only [ho, resolve, invoke, builtin, Sem.run_bind, Sem.run_pure, Result.andThen_ok, List.map_toArray, List.map_cons, List.map_nil, hx, hy, List.length_nil, hrun]
    exact hK _ _ (hh w [] rfl (fun p hp => by cases hp) (by simpa using h) (Only.refl _ _))
  | some ad =>
    obtain ⟨T, e, hp, hcell⟩ : ∃ T : List (SgT × Value), T.map (·.1) = l ∧ (∀ p ∈ T, Reads w0 p.2 p.1.2 ∧ okS p.1) ∧ ∀ j u, (flatS T)[j]? = some u → w.cell? (ad.add j) = some u := by
      by_cases hp : 0 < l.length
      · obtain ⟨b, off, hb, hyy⟩ := hat hp
        simp only [Option.some.injEq] at hb
        subst hb
        obtain ⟨T, e, h1, h2⟩ := rows_of w0 b l off hyy
        exact ⟨T, e, h1, fun j u hj => by rw [Addr.add_mid, Below.cell hb0 (block_lt_of_cell (h2 j u hj))]; exact h2 j u hj⟩
      · have h0 : l = [] := List.eq_nil_of_length_eq_zero (by omega)
        subst h0
        exact ⟨[], rfl, (fun p hp => by cases hp), fun j u hj => by simp [flatS] at hj⟩
    have hTl : T.length = l.length := by rw [← e, List.length_map]
    have hmT : m ≤ T.length := by rw [hTl, ← hm]; exact Nat.min_le_left _ _
    have hTm : (T.take m).length = m := by rw [List.length_take, Nat.min_eq_left hmT]
    have hcut : ∀ j u, (flatS (T.take m))[j]? = some u → (flatS T)[j]? = some u := fun j u hj => by
      rw [← flatS_take (fun p h => (hp p h).2) m hmT, List.getElem?_take] at hj
      split at hj
      · exact hj
      · cases hj
    obtain ⟨w', hrun, h1, h2⟩ := run_copyK w o.type g 0 N cap ad l.length c L (T.take m) h (fun p h => (hp p (List.mem_of_mem_take h)).2) (fun p h => (hp p (List.mem_of_mem_take h)).1.one) (by omega) (by rw [hTm, hd]; exact hm) (fun j u hj => hcell j u (hcut j u hj))
    rw [hTm] at hrun h1
    rw [Nat.zero_mul] at hrun
    rw [List.take_zero, List.nil_append, Nat.zero_add] at h1
    unfold Oper.wp execOp
    simp only [ho, resolve, invoke, builtin, Sem.run_bind, Sem.run_pure, Result.andThen_ok, List.map_toArray, List.map_cons, List.map_nil, hx, hy, hrun]
    exact hK _ _ (hh w' (T.take m) (by rw [List.map_take, e]) (fun p h => (hp p (List.mem_of_mem_take h)).1) h1 h2)
/-- a row copied to the front of another one: as many as have room -/
theorem wpSeq_copyR {ops : Array Oper} {Q : Exit → Act → World → Prop} {rest : List Oper} {o : Oper} {a : Act} {w : World} (d s : Operand) (g gs N M cap c m : Nat) (L Ls : List (SgT × Value)) (h : RowS w g L) (hs : RowS w gs Ls) (h1 : ∀ p ∈ Ls, p.2.oneCell' = true) (hd : N = L.length) (hM : M = Ls.length) (hm : Nat.min M N = m)
    (ho : o.op = .call { callee := .builtin .copy, args := #[d, s], argTypes := #[24, 24] }) (hx : a.eval d = .slice (some ⟨g, 0, none⟩) N cap) (hy : a.eval s = .slice (some ⟨gs, 0, none⟩) M c) (hgd : o.guard = none)
    (hh : ∀ w', RowS w' g (Ls.take m ++ L.drop m) → Only g w w' → wpList Tryd.prog ops Q rest (a.put o.dst (.int .i64 (m : Int))) w') : wpList Tryd.prog ops Q (o :: rest) a w := by
  refine wpList_plain hgd fun K hK => ?_
  have hmT : m ≤ Ls.length := by rw [← hM, ← hm]; exact Nat.min_le_left _ _
  have hTm : (Ls.take m).length = m := by rw [List.length_take, Nat.min_eq_left hmT]
  have hcut : ∀ j u, (flatS (Ls.take m))[j]? = some u → (flatS Ls)[j]? = some u := fun j u hj => by
    rw [← flatS_take hs.ok m hmT, List.getElem?_take] at hj
    split at hj
    · exact hj
    · cases hj
  obtain ⟨w', hrun, h2, h3⟩ := run_copyK w o.type g 0 N cap ⟨gs, 0, none⟩ M c L (Ls.take m) h (fun p h => hs.ok p (List.mem_of_mem_take h)) (fun p h => h1 p (List.mem_of_mem_take h)) (by omega) (by rw [hTm]; exact hm) (fun j u hj => by rw [Addr.add_mid, Nat.zero_add, hs.blk.cell]; exact hcut j u hj)
  rw [hTm] at hrun h2
  rw [Nat.zero_mul] at hrun
  rw [List.take_zero, List.nil_append, Nat.zero_add] at h2
  unfold Oper.wp execOp
  simp only [ho, resolve, invoke, builtin, Sem.run_bind, Sem.run_pure, Result.andThen_ok, List.map_toArray, List.map_cons, List.map_nil, hx, hy, hrun]
  exact hK _ _ (hh w' h2 h3)
/-- a cut of a row's last two -/
theorem drop2_op (f : Operand → Value) (o : Oper) (x lo : Operand) (ho : o.op = .slice 24 x (some lo) none none) (g k : Nat) (hx : f x = .slice (some ⟨g, 0, none⟩) (k + 2) (k + 2)) (hk : f lo = .int .i64 (k : Int)) (w : World) :
    (execOp f o).run Tryd.prog w = .ok (.value (.slice (some ⟨g, k * 98, none⟩) 2 2)) w := by
  have h := dropS_op f o x lo ho (some ⟨g, 0, none⟩) (k + 2) (k + 2) k hx hk (by omega) w
  have e : dropA (some ⟨g, 0, none⟩) k (k + 2) = some ⟨g, k * 98, none⟩ := by
    rw [dropA, if_neg (by omega), Option.map_some, Addr.add_mid, Nat.zero_add]
  rw [e, Nat.add_sub_cancel_left] at h
  exact h
theorem zeroL_drop (n k : Nat) : (zeroL n).drop k = zeroL (n - k) := by rw [zeroL, List.drop_replicate]; rfl
/-- a made row of texts -/
theorem Tryd.infosT : (Tryd.prog.info? 28).map (fun i => (i.zero, i.size, i.bytes)) = some (some (.slice none 0 0), 1, 24) := by kernel_rfl
def nilL (n : Nat) : List Value := List.replicate n (.slice none 0 0)
theorem len_nilL (n : Nat) : (nilL n).length = n := List.length_replicate
theorem madeT (n : Nat) : madeCells (Value.cells (.slice none 0 0)) (n * 1) = (nilL n).toArray := by
  apply Array.ext
  · rw [size_madeCells, List.size_toArray, len_nilL, Nat.mul_one]
  · intro j h1 h2
    have e2 : (nilL n).toArray[j] = .slice none 0 0 := by rw [List.getElem_toArray]; exact List.getElem_replicate _
    rw [e2]
    simp only [madeCells, Array.getElem_map, Array.getElem_range]
    have hz : j % (Value.cells (.slice none 0 0)).size = 0 := Nat.mod_one j
    rw [hz]
    rfl
theorem make_tx (f : Operand → Value) (o : Oper) (x y : Operand) (n : Nat) (hn : n ≤ 1000000) (ho : o.op = .makeSlice 64 x y) (hx : f x = .int .i64 (n : Int)) (hy : f y = .int .i64 (n : Int)) (w : World) :
    (execOp f o).run Tryd.prog w = .ok (.value (.slice (some ⟨w.heap.size, 0, none⟩) n n)) (w.alloc (.cells (nilL n).toArray 28)) := by
  obtain ⟨i0, hi, hz, hs, hby⟩ := info_parts Tryd.infosT
  have hr := run_make (P := Tryd.prog) w 64 28 i0 _ Tryd.underlying64 hi hz .i64 .i64 (n : Int) (n : Int) (by omega) (Int.le_refl _) (by rw [hby]; omega) (by omega)
  rw [Int.toNat_natCast, hs, madeT] at hr
  unfold execOp
  rw [ho]
  simp only [hx, hy, Sem.run_bind, hr, Result.andThen_ok, Sem.run_pure]
/-- the block g holds the texts xs, and room for n in all; the texts lie behind it -/
structure RowT (w : World) (g n : Nat) (us : List Value) (xs : List Bs) : Prop where
  blk : Blk w g (us ++ nilL (n - us.length)) 28
  good : GoodT w (g + 1) us xs
  le : us.length ≤ n
theorem RowT.next {w w' : World} {g n : Nat} {us : List Value} {xs : List Bs} (h : RowT w g n us xs) (hb : Below w.heap.size w w') : RowT w' g n us xs :=
  ⟨h.blk.below hb h.blk.lt, ⟨h.good.1, fun j u hj => (h.good.2 j u hj).same fun k hk => hb.block k ((h.good.2 j u hj).lt k hk)⟩, h.le⟩
theorem RowT.len {w : World} {g n : Nat} {us : List Value} {xs : List Bs} (h : RowT w g n us xs) : us.length = xs.length := h.good.1
theorem RowT.lt {w : World} {g n : Nat} {us : List Value} {xs : List Bs} (h : RowT w g n us xs) : g < w.heap.size := h.blk.lt
theorem RowT.put {w : World} {g n k : Nat} {us : List Value} {xs : List Bs} {u : Value} {t : Bs} (h : RowT w g n us xs) (hk : us.length = k) (hn : k < n) (hu : OwnB w (g + 1) u t) : RowT (w.setCell ⟨g, k, none⟩ u) g n (us ++ [u]) (xs ++ [t]) := by
  have o6 : Only g w (w.setCell ⟨g, k, none⟩ u) := Only.setCell (Only.refl g w) k _
  have up : ∀ x t, OwnB w (g + 1) x t → OwnB (w.setCell ⟨g, k, none⟩ u) (g + 1) x t := fun x t hx => hx.same fun j hj => o6.block j (by have := hx.own j hj; omega) (hx.lt j hj)
  refine ⟨?_, ⟨by rw [List.length_append, List.length_append, h.good.1]; rfl, fun j x hj => ?_⟩, by rw [List.length_append, List.length_singleton]; omega⟩
  · have h1 := h.blk.set k u
    have e : (us ++ nilL (n - us.length)).set k u = us ++ [u] ++ nilL (n - (us ++ [u]).length) := by
      rw [← hk, List.set_append_right _ _ (Nat.le_refl _), Nat.sub_self, List.length_append, List.length_singleton]
      obtain ⟨m, hm⟩ : ∃ m, n - us.length = m + 1 := ⟨n - us.length - 1, by omega⟩
      rw [hm, show n - (us.length + 1) = m by omega, nilL, List.replicate_succ, List.set_cons_zero, List.append_assoc]
      rfl
    rw [e] at h1
    exact h1
  · by_cases hjl : j < us.length
    · rw [List.getElem?_append_left hjl] at hj
      have h1 := h.good.2 j x hj
      have h2 : (xs ++ [t]).getD j [] = xs.getD j [] := by
        rw [List.getD_eq_getElem?_getD, List.getD_eq_getElem?_getD, List.getElem?_append_left (by rw [← h.good.1]; exact hjl)]
      rw [h2]
      exact up _ _ h1
    · rw [List.getElem?_append_right (by omega)] at hj
      have hj0 : j = us.length := by
        have := (List.getElem?_eq_some_iff.1 hj).1
        simp at this
        omega
      subst hj0
      simp at hj
      subst hj
      have h2 : (xs ++ [t]).getD us.length [] = t := by
        rw [List.getD_eq_getElem?_getD, h.good.1, List.getElem?_append_right (Nat.le_refl _), Nat.sub_self]
        rfl
      rw [h2]
      exact up _ _ hu
theorem RowT.readsL {w : World} {g n : Nat} {us : List Value} {xs : List Bs} (h : RowT w g n us xs) (hn : xs.length = n) : ReadsL w (.slice (some ⟨g, 0, none⟩) n n) xs := by
  refine ⟨some ⟨g, 0, none⟩, n, by rw [hn], by omega, (fun e => by cases e), fun _ => ⟨g, 0, rfl, fun j hj => ?_⟩⟩
  have hju : j < us.length := by rw [h.good.1]; exact hj
  refine ⟨us[j], ?_, (h.good.2 j us[j] (List.getElem?_eq_getElem hju)).reads⟩
  rw [h.blk.cell, Nat.zero_add, List.getElem?_append_left hju, List.getElem?_eq_getElem hju]
theorem wpSeq_makeT {ops : Array Oper} {Q : Exit → Act → World → Prop} {rest : List Oper} {o : Oper} {a : Act} {w : World} (x y : Operand) (n : Nat) (hn : n ≤ 1000000) (ho : o.op = .makeSlice 64 x y) (hx : a.eval x = .int .i64 (n : Int)) (hy : a.eval y = .int .i64 (n : Int)) (hw : Region.wanted o (yielded ops a.tmps) = true)
    (h : ∀ g w', w.heap.size ≤ g → RowT w' g n [] [] → Below w.heap.size w w' → wpList Tryd.prog ops Q rest (a.put o.dst (.slice (some ⟨g, 0, none⟩) n n)) w') : wpList Tryd.prog ops Q (o :: rest) a w :=
  wpSeq_val _ _ hw (make_tx _ o x y n hn ho hx hy w) (h _ _ (Nat.le_refl _) ⟨Blk.new _ _ _, ⟨rfl, fun j u hj => by simp at hj⟩, Nat.zero_le _⟩ (below_alloc _ _))
theorem wpSeq_storeT {ops : Array Oper} {Q : Exit → Act → World → Prop} {rest : List Oper} {o : Oper} {a : Act} {w : World} (x y : Operand) (g k : Nat) (cs : List Value) (ad : Option Addr) (n c : Nat) (hk : k < cs.length) (hb : Blk w g cs 28) (ho : o.op = .store 28 x y) (hx : a.eval x = .pointer (some ⟨g, k, none⟩)) (hy : a.eval y = .slice ad n c) (hw : Region.wanted o (yielded ops a.tmps) = true)
    (h : ∀ w', w' = w.setCell ⟨g, k, none⟩ (.slice ad n c) → wpList Tryd.prog ops Q rest (a.put o.dst undef) w') : wpList Tryd.prog ops Q (o :: rest) a w := by
  have hc : w.cell? ⟨g, k, none⟩ = some cs[k] := by rw [hb.cell, List.getElem?_eq_getElem hk]
  have hf : w.frozen? ⟨g, k, none⟩ = false := hb.frozen k
  have he : (execOp a.eval o).run Tryd.prog w = .ok .skip (w.setCell ⟨g, k, none⟩ (.slice ad n c)) := by
    clear h hw
    generalize a.eval = f at hx hy ⊢
    unfold execOp
    rw [ho]
    simp [go_sem, hx, hy, hc, hf]
  unfold wpList
  simp only [hw, if_true]
  left
  unfold Oper.wp
  rw [he, Oper.upon_skip]
  exact h _ rfl
/-- the signed roots L, room for n in all, in block g; their signatures lie behind it -/
structure RrI (y1 : World) (g n : Nat) (rs : List SgT) (L : List (SgT × Value)) (W : World) : Prop where
  bel : Below y1.heap.size y1 W
  row : RowS W g (L ++ zeroL (n - L.length))
  sg : ∀ p ∈ L, OwnB W (g + 1) p.2 p.1.2
  eq : L.map (·.1) = rs
  le : L.length ≤ n
  ge : y1.heap.size ≤ g
theorem RrI.next {y1 : World} {g n : Nat} {rs : List SgT} {L : List (SgT × Value)} {W W' : World} (h : RrI y1 g n rs L W) (hb : Below W.heap.size W W') : RrI y1 g n rs L W' :=
  ⟨h.bel.trans (hb.mono h.bel.size), h.row.below hb, fun p hp => (h.sg p hp).same fun k hk => hb.block k ((h.sg p hp).lt k hk), h.eq, h.le, h.ge⟩
theorem RrI.len {y1 : World} {g n : Nat} {rs : List SgT} {L : List (SgT × Value)} {W : World} (h : RrI y1 g n rs L W) : L.length = rs.length := by rw [← h.eq, List.length_map]
theorem RrI.room {y1 : World} {g n : Nat} {rs : List SgT} {L : List (SgT × Value)} {W : World} (h : RrI y1 g n rs L W) : (L ++ zeroL (n - L.length)).length = n := by
  rw [List.length_append, len_zeroL]
  have := h.le
  omega
theorem RrI.put {y1 : World} {g n k : Nat} {rs : List SgT} {L : List (SgT × Value)} {s : SgT} {sv : Value} {W W' : World} (h : RrI y1 g n rs L W) (hk : rs.length = k) (hn : k < n) (hs : OwnB W (g + 1) sv s.2) (hr : RowS W' g ((L ++ zeroL (n - L.length)).set k (s, sv))) (ho : Only g W W') : RrI y1 g n (rs ++ [s]) (L ++ [(s, sv)]) W' := by
  have hl := h.len
  have up : ∀ {v : Value} {l : Bs}, OwnB W (g + 1) v l → OwnB W' (g + 1) v l := fun {v l} hv => hv.same fun j hj => ho.block j (by have := hv.own j hj; omega) (hv.lt j hj)
  refine ⟨h.bel.trans (ho.below h.ge h.bel.size), ?_, fun p hp => ?_, by rw [List.map_append, h.eq]; rfl, by rw [List.length_append, List.length_singleton]; omega, h.ge⟩
  · have e : (L ++ zeroL (n - L.length)).set k (s, sv) = L ++ [(s, sv)] ++ zeroL (n - (L ++ [(s, sv)]).length) := by
      rw [← hk, ← hl, List.set_append_right _ _ (Nat.le_refl _), Nat.sub_self, List.length_append, List.length_singleton]
      obtain ⟨m, hm⟩ : ∃ m, n - L.length = m + 1 := ⟨n - L.length - 1, by omega⟩
      rw [hm, show n - (L.length + 1) = m by omega, zeroL, List.replicate_succ, List.set_cons_zero, List.append_assoc]
      rfl
    rw [e] at hr
    exact hr
  · rcases List.mem_append.1 hp with hp | hp
    · exact up (h.sg p hp)
    · rw [List.mem_singleton.1 hp]; exact up hs
theorem RrI.readsS {y1 : World} {g n : Nat} {rs : List SgT} {L : List (SgT × Value)} {W : World} (h : RrI y1 g n rs L W) (hn : rs.length = n) : ReadsS W (.slice (some ⟨g, 0, none⟩) n n) rs := by
  have hl := h.len
  have e0 : L ++ zeroL (n - L.length) = L := by rw [hl, hn, Nat.sub_self]; exact List.append_nil _
  have hr := h.row
  rw [e0] at hr
  have h2 := hr.readsS n (by omega) n (Nat.le_refl _) (fun p hp => (h.sg p (List.mem_of_mem_take hp)).reads)
  rw [List.take_of_length_le (by omega), h.eq] at h2
  exact h2
def zeroP : SgT × Value := (zeroS, .slice none 0 0)
theorem getD_map1 (L : List (SgT × Value)) (k : Nat) : (L.map (·.1)).getD k zeroS = (L.getD k zeroP).1 := by
  rw [List.getD_eq_getElem?_getD, List.getD_eq_getElem?_getD, List.getElem?_map]
  cases L[k]? <;> rfl
theorem getP_mem {L : List (SgT × Value)} {k : Nat} (hk : k < L.length) : L.getD k zeroP ∈ L ∧ L[k]? = some (L.getD k zeroP) := by
  have e : L.getD k zeroP = L[k] := by rw [List.getD_eq_getElem?_getD, List.getElem?_eq_getElem hk]; rfl
  rw [e]
  exact ⟨List.getElem_mem hk, List.getElem?_eq_getElem hk⟩
theorem evL_map (L : List (SgT × Value)) (n : Nat) (hn : L.length = n) : evL (L.map (·.1)) = ((L.take (n - 2)).map (·.1), (L.getD (n - 2) zeroP).1, (L.getD (n - 1) zeroP).1) := by
  rw [evL, List.length_map, hn, getD_map1, getD_map1, List.map_take]
/-- evidence made of such a row -/
theorem RrI.ev {y1 : World} {g n : Nat} {rs : List SgT} {L : List (SgT × Value)} {W W' : World} {g4 : Nat} (h : RrI y1 g n rs L W) (hn : rs.length = n) (h2 : 2 ≤ n) (up : ∀ {v : Value} {l : Bs}, OwnB W (g + 1) v l → OwnB W' (g + 1) v l) (hr : RowS W' g4 (L.take (n - 2))) :
    EvB W' (evL rs) (evC (evL rs) (.slice (some ⟨g4, 0, none⟩) (n - 2) (n - 2)) (L.getD (n - 2) zeroP).2 (L.getD (n - 1) zeroP).2) := by
  have hl : L.length = n := by rw [h.len, hn]
  have ok : ∀ p ∈ L, okS p.1 := fun p hp => h.row.ok p (List.mem_append.2 (Or.inl hp))
  have ma := (getP_mem (L := L) (k := n - 2) (by omega)).1
  have mb := (getP_mem (L := L) (k := n - 1) (by omega)).1
  rw [← h.eq, evL_map L n hl]
  refine EvIs.evB ⟨?_, (up (h.sg _ ma)).reads, (up (h.sg _ mb)).reads, ok _ ma, ok _ mb⟩
  have hlt : (L.take (n - 2)).length = n - 2 := by rw [List.length_take]; omega
  have h3 := hr.readsS (n - 2) (by omega) (n - 2) (Nat.le_refl _) (fun p hp => (up (h.sg p (List.mem_of_mem_take (List.mem_of_mem_take hp)))).reads)
  rw [List.take_of_length_le (by omega)] at h3
  exact h3
theorem readE_len (b : Bs) : (readE b).1.length < 1000000 := by
  unfold readE
  cases h : readF b with
  | none => show (0 : Nat) < _; decide
  | some e =>
    have h1 := ((readF_iff b e).1 h).1.1
    show e.1.length < _
    omega
theorem accept_read {pin b : Bs} (h : readX b = 0) : acceptF pin b = checkF pin (readE b) := by
  unfold readX at h
  unfold acceptF readE
  cases hr : readF b with
  | none => rw [hr] at h; cases h
  | some e => rfl
theorem accept_none {pin b : Bs} (h : readX b ≠ 0) : acceptF pin b = readX b := by
  unfold readX at h ⊢
  unfold acceptF
  cases hr : readF b with
  | none => rfl
  | some e => rw [hr] at h; exact absurd rfl h
/-- evidence whose memory is the call's own -/
def EvF (w0 w : World) (e : EvT) (cs : List Value) : Prop := ∀ W : World, (∀ j, w0.heap.size ≤ j → j < w.heap.size → W.heap[j]? = w.heap[j]?) → EvB W e cs
theorem EvF.evB {w0 w : World} {e : EvT} {cs : List Value} (h : EvF w0 w e cs) : EvB w e cs := h w fun _ _ _ => rfl
theorem RowS.same {w w' : World} {g : Nat} {L : List (SgT × Value)} (h : RowS w g L) (he : w'.heap[g]? = w.heap[g]?) : RowS w' g L := by
  refine ⟨?_, h.ok⟩
  have hb := h.blk
  unfold Blk at hb ⊢
  rw [he, hb]
theorem wpSeq_min12 {ops : Array Oper} {Q : Exit → Act → World → Prop} {rest : List Oper} {o : Oper} {a : Act} {w : World} (x y : Operand) (n m l : Nat) (hl : l = min n m) (ho : o.op = .call { callee := .builtin .min, args := #[x, y], argTypes := #[3, 3] }) (hx : a.eval x = .int .i64 (n : Int)) (hy : a.eval y = .int .i64 (m : Int)) (hw : Region.wanted o (yielded ops a.tmps) = true)
    (h : wpList Tryd.prog ops Q rest (a.put o.dst (.int .i64 (l : Int))) w) : wpList Tryd.prog ops Q (o :: rest) a w := by
  refine wpSeq_val _ w hw ?_ h
  clear h hw
  generalize a.eval = f at hx hy ⊢
  unfold execOp
  rw [ho]
  first
    | (simp [go_sem, hx, hy]; omega)
    | (simp [go_sem, hx, hy]; split <;> omega)
    | (by_cases hmn : m < n <;> simp [go_sem, hx, hy, hmn] <;> omega)
end Go.Proofs.YtableajopaappaaDoor
/- The walks of fork's next and Check (layer 12). -/
namespace Go.Proofs.YtableajopaappaaDoor
open Go.RowKit Go.Shelf
set_option maxRecDepth 100000
set_option maxRecDepth 100000 in
set_option maxHeartbeats 8000000 in
theorem fkNext_any (h : HdT) (s : SgT) (vs : Value) (w : World) (hK : KOk w) (oh : okH h) (os : okS s) (hr : Reads w vs s.2) :
    Calls Tryd.prog 29 #[.agg (hdC h).toArray, .agg (sgC s vs).toArray] w fun r w' => r = .returned (.bool (decide ((followR h s).2 = 0))) ∧ Below w.heap.size w w' := by
  obtain ⟨ch, HCH⟩ : ∃ c, Hid (c = hdC h) := ⟨_, rfl⟩
  obtain ⟨csg, HCS⟩ : ∃ c, Hid (c = sgC s vs) := ⟨_, rfl⟩
  obtain ⟨hf, HHF⟩ : ∃ c, Hid (c = (followR h s).1) := ⟨_, rfl⟩
  obtain ⟨ef, HEF⟩ : ∃ c, Hid (c = (followR h s).2) := ⟨_, rfl⟩
  have HOF : Hid (okH hf) := by rw [HHF.out]; exact follow_okH h s os
  have HIH : Hid ((Tryd.prog.info? 50).map (·.size) = some ch.length) := by show _ = _; rw [HCH.out]; exact info_hdC oh
  have HIS : Hid ((Tryd.prog.info? 30).map (·.size) = some csg.length) := by show _ = _; rw [HCS.out]; exact info_sgC os vs
  have HC : Hid (∀ W : World, Below w.heap.size w W → Calls Tryd.prog 44 #[.agg ch.toArray, .agg csg.toArray] W fun e w' => e = .returned (.tuple #[.agg (hdC hf).toArray, .int .i64 ef]) ∧ Below W.heap.size W w') := fun W hh => by rw [HCH.out, HCS.out, HHF.out, HEF.out]; exact chFollow_any h s vs W (hK.below hh hK.lt) oh os (hr.below hh)
  have HBW : Hid (Below w.heap.size w w) := Below.refl _ _
  rw [← HCH.out, ← HCS.out, ← HEF.out]
  clear hK oh os hr HHF HEF HCH HCS
  by_cases he : ef = 0
  · have q1 : (ef == 0) = true := by rw [beq_iff_eq]; exact he
    have HZ : Hid (decide (ef = 0) = true) := decide_eq_true he
    clear he
    go_enter Tryd.func29, Tryd.ntmps29
    have tk0 : Hid True := trivial
    have tk1 : Hid True := trivial
    have tk2 : Hid True := trivial
    have tk3 : Hid True := trivial
    have tk4 : Hid True := trivial
    have tk5 : Hid True := trivial
    have tk6 : Hid True := trivial
    go_wp2_with (first
      | (clear tk0; with_reducible refine wpSeq_boxW 50 (.tmp 0) ch ?_ ?_ ?_ ?_
         · rfl
         · rfl
         · rfl
         intro g2 y1 nn
         replace HBW : Hid (Below w.heap.size w y1) := HBW.out.trans (nn.below.mono HBW.out.size)
         have H2 : Hid (Blk y1 g2 ch 50) := nn.blk
         clear nn
         skip)
      | (clear tk1; with_reducible refine wpSeq_boxW 30 (.tmp 1) csg ?_ ?_ ?_ ?_
         · rfl
         · rfl
         · rfl
         intro g3 y2 nn
         replace H2 : Hid (Blk y2 g2 ch 50) := H2.out.below nn.below H2.out.lt
         replace HBW : Hid (Below w.heap.size w y2) := HBW.out.trans (nn.below.mono HBW.out.size)
         have H3 : Hid (Blk y2 g3 csg 30) := nn.blk
         clear nn
         skip)
      | (clear tk2; with_reducible refine wpSeq_loadW 50 (.tmp 2) g2 0 ch _ ?_ Tryd.underlying50 rfl ?_ ?_ ?_ ?_ ?_
         · exact H2.out.range
         · exact HIH.out
         · rfl
         · rfl
         · rfl)
      | (clear tk3; with_reducible refine wpSeq_loadW 30 (.tmp 3) g3 0 csg _ ?_ Tryd.underlying30 rfl ?_ ?_ ?_ ?_ ?_
         · exact H3.out.range
         · exact HIS.out
         · rfl
         · rfl
         · rfl)
      | (clear tk4; go_at_call 44; refine (HC.out y2 HBW.out).mono ?_; rintro e y3 ⟨rfl, hbz⟩
         replace H2 : Hid (Blk y3 g2 ch 50) := H2.out.below hbz H2.out.lt
         replace H3 : Hid (Blk y3 g3 csg 30) := H3.out.below hbz H3.out.lt
         replace HBW : Hid (Below w.heap.size w y3) := HBW.out.trans (hbz.mono HBW.out.size)
         clear hbz )
      | (clear tk5; with_reducible refine wpSeq_allocH ?_ ?_ ?_
         · rfl
         · rfl
         intro g5 y4 nn)
      | (clear tk6; with_reducible refine wpSeq_storeRow 50 (.tmp 5) (.tmp 11) g5 (hdC zeroH) (hdC hf) ?_ ?_ ?_ ?_ ?_ ?_ ?_ ?_ ?_
         · exact nn.blk
         · first | (with_reducible rfl) | rw [len_hdC HOF.out, len_hdC okH_zero]
         · exact info_hdC HOF.out
         · exact hdC_one _
         · rfl
         · rfl
         · rfl
         · rfl
         intro y5 hs
         have hbz := nn.below.trans (hs.only.below nn.ge nn.below.size)
         replace H2 : Hid (Blk y5 g2 ch 50) := H2.out.below hbz H2.out.lt
         replace H3 : Hid (Blk y5 g3 csg 30) := H3.out.below hbz H3.out.lt
         replace HBW : Hid (Below w.heap.size w y5) := HBW.out.trans (hbz.mono HBW.out.size)
         have H5 : Hid (Blk y5 g5 (hdC hf) 50) := hs.blk
         clear nn hs hbz))
    go_ret
    exact ⟨by rw [HZ.out]; rfl, HBW.out⟩
  · have q1 : (ef == 0) = false := by rw [beq_eq_false_iff_ne]; exact he
    have HZ : Hid (decide (ef = 0) = false) := decide_eq_false he
    clear he
    go_enter Tryd.func29, Tryd.ntmps29
    have tk0 : Hid True := trivial
    have tk1 : Hid True := trivial
    have tk2 : Hid True := trivial
    have tk3 : Hid True := trivial
    have tk4 : Hid True := trivial
    have tk5 : Hid True := trivial
    have tk6 : Hid True := trivial
    go_wp2_with (first
      | (clear tk0; with_reducible refine wpSeq_boxW 50 (.tmp 0) ch ?_ ?_ ?_ ?_
         · rfl
         · rfl
         · rfl
         intro g2 y1 nn
         replace HBW : Hid (Below w.heap.size w y1) := HBW.out.trans (nn.below.mono HBW.out.size)
         have H2 : Hid (Blk y1 g2 ch 50) := nn.blk
         clear nn
         skip)
      | (clear tk1; with_reducible refine wpSeq_boxW 30 (.tmp 1) csg ?_ ?_ ?_ ?_
         · rfl
         · rfl
         · rfl
         intro g3 y2 nn
         replace H2 : Hid (Blk y2 g2 ch 50) := H2.out.below nn.below H2.out.lt
         replace HBW : Hid (Below w.heap.size w y2) := HBW.out.trans (nn.below.mono HBW.out.size)
         have H3 : Hid (Blk y2 g3 csg 30) := nn.blk
         clear nn
         skip)
      | (clear tk2; with_reducible refine wpSeq_loadW 50 (.tmp 2) g2 0 ch _ ?_ Tryd.underlying50 rfl ?_ ?_ ?_ ?_ ?_
         · exact H2.out.range
         · exact HIH.out
         · rfl
         · rfl
         · rfl)
      | (clear tk3; with_reducible refine wpSeq_loadW 30 (.tmp 3) g3 0 csg _ ?_ Tryd.underlying30 rfl ?_ ?_ ?_ ?_ ?_
         · exact H3.out.range
         · exact HIS.out
         · rfl
         · rfl
         · rfl)
      | (clear tk4; go_at_call 44; refine (HC.out y2 HBW.out).mono ?_; rintro e y3 ⟨rfl, hbz⟩
         replace H2 : Hid (Blk y3 g2 ch 50) := H2.out.below hbz H2.out.lt
         replace H3 : Hid (Blk y3 g3 csg 30) := H3.out.below hbz H3.out.lt
         replace HBW : Hid (Below w.heap.size w y3) := HBW.out.trans (hbz.mono HBW.out.size)
         clear hbz )
      | (clear tk5; with_reducible refine wpSeq_allocH ?_ ?_ ?_
         · rfl
         · rfl
         intro g5 y4 nn)
      | (clear tk6; with_reducible refine wpSeq_storeRow 50 (.tmp 5) (.tmp 11) g5 (hdC zeroH) (hdC hf) ?_ ?_ ?_ ?_ ?_ ?_ ?_ ?_ ?_
         · exact nn.blk
         · first | (with_reducible rfl) | rw [len_hdC HOF.out, len_hdC okH_zero]
         · exact info_hdC HOF.out
         · exact hdC_one _
         · rfl
         · rfl
         · rfl
         · rfl
         intro y5 hs
         have hbz := nn.below.trans (hs.only.below nn.ge nn.below.size)
         replace H2 : Hid (Blk y5 g2 ch 50) := H2.out.below hbz H2.out.lt
         replace H3 : Hid (Blk y5 g3 csg 30) := H3.out.below hbz H3.out.lt
         replace HBW : Hid (Below w.heap.size w y5) := HBW.out.trans (hbz.mono HBW.out.size)
         have H5 : Hid (Blk y5 g5 (hdC hf) 50) := hs.blk
         clear nn hs hbz))
    go_ret
    exact ⟨by rw [HZ.out]; rfl, HBW.out⟩
set_option maxRecDepth 100000 in
set_option maxHeartbeats 8000000 in
theorem fkCheck_any (pin : List (BitVec 8)) (e : EvT) (cs : List Value) (w : World) (hK : KOk w) (hp : pin.length = 32) (hE : EvB w e cs) (hn : e.1.length < 1000000) :
    Calls Tryd.prog 11 #[.agg (cb pin).toArray, .agg cs.toArray] w fun r w' => r = .returned (.int .i64 (checkF pin e)) ∧ Below w.heap.size w w' := by
  obtain ⟨vt, va, vb, hcs, he⟩ := hE.open
  subst hcs
  obtain ⟨adt, ct, hvt⟩ := he.tr.form
  obtain ⟨ada, na, ca, hva⟩ := he.a.form
  obtain ⟨adb, nb, cc, hvb⟩ := he.b.form
  obtain ⟨nt, HNT⟩ : ∃ n, Hid (n = e.1.length) := ⟨_, rfl⟩
  rw [← HNT.out] at hvt
  subst hvt hva hvb
  obtain ⟨cev, HCE⟩ : ∃ c, Hid (c = evC e (.slice adt nt ct) (.slice ada na ca) (.slice adb nb cc)) := ⟨_, rfl⟩
  rw [← HCE.out]
  have HEV : Hid (EvIs w e (.slice adt nt ct) (.slice ada na ca) (.slice adb nb cc)) := he
  have HIE : Hid ((Tryd.prog.info? 32).map (·.size) = some cev.length) := by show _ = _; rw [HCE.out]; exact info_evC he.oa he.ob _ _ _
  have HAT : Hid (∀ (W : World) (g : Nat), Blk W g cev 32 → EvAt W g 0 e (.slice adt nt ct) (.slice ada na ca) (.slice adb nb cc)) := fun W g hg => by rw [HCE.out] at hg; exact hg.evAt HEV.out.oa HEV.out.ob
  obtain ⟨csa, HSA⟩ : ∃ c, Hid (c = sgC e.2.1 (.slice ada na ca)) := ⟨_, rfl⟩
  obtain ⟨csb, HSB⟩ : ∃ c, Hid (c = sgC e.2.2 (.slice adb nb cc)) := ⟨_, rfl⟩
  have HIS : Hid ((Tryd.prog.info? 30).map (·.size) = some csa.length ∧ (Tryd.prog.info? 30).map (·.size) = some csb.length) := by rw [HSA.out, HSB.out]; exact ⟨info_sgC HEV.out.oa _, info_sgC HEV.out.ob _⟩
  have HRG : Hid (∀ (W : World) (g : Nat), Blk W g cev 32 → W.rangeAt g 1 csa ∧ W.rangeAt g 99 csb) := fun W g hg => by rw [HSA.out, HSB.out]; have h := HAT.out W g hg; refine ⟨?_, ?_⟩; have := h.a.all; rwa [Nat.zero_add] at this; have := h.b.all; rwa [Nat.zero_add] at this
  clear he
  have HPL : Hid (pin.length = 32) := hp
  have HIP : Hid ((Tryd.prog.info? 23).map (·.size) = some (cb pin).length) := by show _ = _; rw [cb_len, hp]; exact info_digest
  have HN : Hid (e.1.length < 1000000) := hn
  have HBW : Hid (Below w.heap.size w w) := Below.refl _ _
  clear hn hp
  have HKW : Hid (∀ W : World, Below w.heap.size w W → KOk W) := fun W hh => hK.below hh hK.lt
  have HCS : Hid (∀ W : World, Calls Tryd.prog 24 #[.agg (cb pin).toArray] W fun r w' => r = .returned (.agg (hdC (0, zb32, pin)).toArray) ∧ Below W.heap.size W w') := fun W => chStart_any pin W HPL.out
  clear hK hE
  obtain ⟨h1, HH1⟩ : ∃ h, Hid (h = (walkR (stR pin) e.1).1) := ⟨_, rfl⟩
  obtain ⟨k1, HK1⟩ : ∃ h, Hid (h = ((walkR (stR pin) e.1).2.1 : Int)) := ⟨_, rfl⟩
  obtain ⟨a1, HA1⟩ : ∃ h, Hid (h = (walkR (stR pin) e.1).2.2) := ⟨_, rfl⟩
  have HO1 : Hid (okH h1) := by rw [HH1.out]; exact walk_okH _ _ (okH_mk rfl HPL.out (by decide)) HEV.out.tr.2
  obtain ⟨hA, HHA⟩ : ∃ h, Hid (h = (followR h1 e.2.1).1) := ⟨_, rfl⟩
  obtain ⟨eA, HEA⟩ : ∃ h, Hid (h = (followR h1 e.2.1).2) := ⟨_, rfl⟩
  obtain ⟨hB, HHB⟩ : ∃ h, Hid (h = (followR h1 e.2.2).1) := ⟨_, rfl⟩
  obtain ⟨eB, HEB⟩ : ∃ h, Hid (h = (followR h1 e.2.2).2) := ⟨_, rfl⟩
  have HOA : Hid (okH hA ∧ okH hB) := by rw [HHA.out, HHB.out]; exact ⟨follow_okH _ _ HEV.out.oa, follow_okH _ _ HEV.out.ob⟩
  obtain ⟨r, HRR⟩ : ∃ r, Hid (r = decide (e.2.1.1 = e.2.2.1)) := ⟨_, rfl⟩
  have HFR : Hid (checkF pin e = if a1 = 0 ∧ eA = 0 ∧ eB = 0 ∧ r = false then 0 else 15) := by
    show _ = _
    unfold checkF
    rw [HRR.out, HEA.out, HEB.out, HA1.out, HH1.out]
    simp only [ne_eq, decide_eq_false_iff_not]
  have HC1 : Hid (∀ W : World, Below w.heap.size w W → Calls Tryd.prog 23 #[.agg (hdC (0, zb32, pin)).toArray, .slice adt nt ct] W fun e w' => e = .returned (.tuple #[.agg (hdC h1).toArray, .int .i64 k1, .int .i64 a1]) ∧ Below W.heap.size W w') := fun W hh => by rw [HH1.out, HK1.out, HA1.out]; exact by rw [HNT.out]; exact chWalk_any _ _ _ W (fun W h s vs hK oh os hr => chFollow_any h s vs W hK oh os hr) (HKW.out W hh) (okH_mk rfl HPL.out (by decide)) (by rw [← HNT.out]; exact HEV.out.tr.below hh) HN.out
  have HC2 : Hid (∀ W : World, Below w.heap.size w W → Calls Tryd.prog 29 #[.agg (hdC h1).toArray, .agg csa.toArray] W fun e w' => e = .returned (.bool (decide (eA = 0))) ∧ Below W.heap.size W w') := fun W hh => by rw [HEA.out, HSA.out]; exact fkNext_any _ e.2.1 _ W (HKW.out W hh) HO1.out HEV.out.oa (HEV.out.a.below hh)
  have HC3 : Hid (∀ W : World, Below w.heap.size w W → Calls Tryd.prog 29 #[.agg (hdC h1).toArray, .agg csb.toArray] W fun e w' => e = .returned (.bool (decide (eB = 0))) ∧ Below W.heap.size W w') := fun W hh => by rw [HEB.out, HSB.out]; exact fkNext_any _ e.2.2 _ W (HKW.out W hh) HO1.out HEV.out.ob (HEV.out.b.below hh)
  obtain ⟨rta, HRTA⟩ : ∃ c, Hid (c = rtC e.2.1) := ⟨_, rfl⟩
  obtain ⟨rtb, HRTB⟩ : ∃ c, Hid (c = rtC e.2.2) := ⟨_, rfl⟩
  have HIR : Hid ((Tryd.prog.info? 27).map (·.size) = some rta.length ∧ (Tryd.prog.info? 27).map (·.size) = some rtb.length) := by rw [HRTA.out, HRTB.out]; exact ⟨info_rtC HEV.out.oa, info_rtC HEV.out.ob⟩
  have HRT : Hid (∀ (W : World) (g : Nat), Blk W g cev 32 → W.rangeAt g 1 rta ∧ W.rangeAt g 99 rtb) := fun W g hg => by rw [HRTA.out, HRTB.out]; have h := HAT.out W g hg; refine ⟨?_, ?_⟩; have := h.a.root; rwa [Nat.zero_add] at this; have := h.b.root; rwa [Nat.zero_add] at this
  have heq : ∀ wx : World, (Op.equalIn 10000 27 (.agg rta.toArray) (.agg rtb.toArray)).run Tryd.prog wx = .ok r wx := fun wx => by rw [HRTA.out, HRTB.out, HRR.out]; exact eq_rt _ _ HEV.out.oa HEV.out.ob wx
  clear HHA HEA HHB HEB HRR HA1 HK1 HH1 HRTA HRTB
  cases r with
  | true =>
    have HZ : Hid (checkF pin e = 15) := by show _ = _; rw [HFR.out, if_neg (fun k => by cases k.2.2.2)]
    go_enter Tryd.func11, Tryd.ntmps11
    have tk0 : Hid True := trivial
    have tk1 : Hid True := trivial
    have tk2 : Hid True := trivial
    have tk3 : Hid True := trivial
    go_wp2_with (first
      | (clear tk0; with_reducible refine wpSeq_boxW 23 (.tmp 0) (cb pin) ?_ ?_ ?_ ?_
         · rfl
         · rfl
         · rfl
         intro g2 y1 nn
         replace HBW : Hid (Below w.heap.size w y1) := HBW.out.trans (nn.below.mono HBW.out.size)
         have HG2 : Hid (Blk y1 g2 (cb pin) 23) := nn.blk
         clear nn
         skip)
      | (clear tk1; with_reducible refine wpSeq_boxW 32 (.tmp 1) cev ?_ ?_ ?_ ?_
         · rfl
         · rfl
         · rfl
         intro g3 y2 nn
         replace HG2 : Hid (Blk y2 g2 (cb pin) 23) := HG2.out.below nn.below HG2.out.lt
         replace HBW : Hid (Below w.heap.size w y2) := HBW.out.trans (nn.below.mono HBW.out.size)
         have HG3 : Hid (Blk y2 g3 cev 32) := nn.blk
         clear nn
         skip)
      | (clear tk2; with_reducible refine wpSeq_loadW 27 (.tmp 9) g3 1 rta _ ?_ Tryd.underlying27 rfl ?_ ?_ ?_ ?_ ?_
         · exact (HRT.out _ _ HG3.out).1
         · exact HIR.out.1
         · rfl
         · rfl
         · rfl)
      | (clear tk3; with_reducible refine wpSeq_loadW 27 (.tmp 12) g3 99 rtb _ ?_ Tryd.underlying27 rfl ?_ ?_ ?_ ?_ ?_
         · exact (HRT.out _ _ HG3.out).2
         · exact HIR.out.2
         · rfl
         · rfl
         · rfl))
    go_ret
    exact ⟨by rw [HZ.out]; rfl, HBW.out⟩
  | false =>
    go_enter Tryd.func11, Tryd.ntmps11
    have tk0 : Hid True := trivial
    have tk1 : Hid True := trivial
    have tk2 : Hid True := trivial
    have tk3 : Hid True := trivial
    go_upto_region 3 with (first
      | (clear tk0; with_reducible refine wpSeq_boxW 23 (.tmp 0) (cb pin) ?_ ?_ ?_ ?_
         · rfl
         · rfl
         · rfl
         intro g2 y1 nn
         replace HBW : Hid (Below w.heap.size w y1) := HBW.out.trans (nn.below.mono HBW.out.size)
         have HG2 : Hid (Blk y1 g2 (cb pin) 23) := nn.blk
         clear nn
         skip)
      | (clear tk1; with_reducible refine wpSeq_boxW 32 (.tmp 1) cev ?_ ?_ ?_ ?_
         · rfl
         · rfl
         · rfl
         intro g3 y2 nn
         replace HG2 : Hid (Blk y2 g2 (cb pin) 23) := HG2.out.below nn.below HG2.out.lt
         replace HBW : Hid (Below w.heap.size w y2) := HBW.out.trans (nn.below.mono HBW.out.size)
         have HG3 : Hid (Blk y2 g3 cev 32) := nn.blk
         clear nn
         skip)
      | (clear tk2; with_reducible refine wpSeq_loadW 27 (.tmp 9) g3 1 rta _ ?_ Tryd.underlying27 rfl ?_ ?_ ?_ ?_ ?_
         · exact (HRT.out _ _ HG3.out).1
         · exact HIR.out.1
         · rfl
         · rfl
         · rfl)
      | (clear tk3; with_reducible refine wpSeq_loadW 27 (.tmp 12) g3 99 rtb _ ?_ Tryd.underlying27 rfl ?_ ?_ ?_ ?_ ?_
         · exact (HRT.out _ _ HG3.out).2
         · exact HIR.out.2
         · rfl
         · rfl
         · rfl))
    go_cut [5, 6, 7] from 8 to 39 (fun a b c W => ∃ g5, a = .pointer (some ⟨g5, 0, none⟩) ∧ b = .int .i64 k1 ∧ c = .int .i64 a1 ∧ Blk W g5 (hdC h1) 50 ∧ Blk W g3 cev 32 ∧ Below w.heap.size w W)
    case first =>
      refine wp_region_held_drew (S := Over (World.drew y2)) (by kernel_rfl) (Over.refl _) ?_
      intro hS
      replace HG2 : Hid (Blk (World.drew y2) g2 (cb pin) 23) := HG2.out.drew
      replace HG3 : Hid (Blk (World.drew y2) g3 cev 32) := HG3.out.drew
      replace HBW : Hid (Below w.heap.size w (World.drew y2)) := HBW.out.drew
      change wpAnyH _ _ _ _ _ _ _ _ (World.drew y2)
      generalize World.drew y2 = y0 at *
      try simp only [Act.put, List.setIfInBounds_toArray, List.set_cons_zero, List.set_cons_succ]
      refine wpAnyH_take (i := 0) (v := .agg (cb pin).toArray) rfl (by kernel_rfl) (by kernel_rfl) (by kernel_rfl) (fun _ _ _ h => h) (Or.inl ⟨by rfl, fun wx hx => by exact loadDigest _ g2 pin HPL.out (HG2.out.below hx HG2.out.lt) rfl rfl⟩) hS ?_
      simp only [Act.put, List.getElem_toArray, List.getElem_cons_zero, List.setIfInBounds_toArray, List.set_cons_zero, List.set_cons_succ]
      refine wpAnyH_take (i := 2) (v := .pointer (some ⟨g3, 0, none⟩)) rfl (by kernel_rfl) (by kernel_rfl) (by kernel_rfl) (fun _ _ _ h => h) (Or.inl ⟨by rfl, fun wx hx => by simp [go_sem]⟩) hS ?_
      simp only [Act.put, List.getElem_toArray, List.getElem_cons_succ, List.getElem_cons_zero, List.setIfInBounds_toArray, List.set_cons_zero, List.set_cons_succ]
      refine wpAnyH_take (i := 3) (v := .slice adt nt ct) rfl (by kernel_rfl) (by kernel_rfl) (by kernel_rfl) (fun _ _ _ h => h) (Or.inl ⟨by rfl, fun wx hx => by (have hc : wx.cell? ⟨g3, 0, none⟩ = some (.slice adt nt ct) := (HAT.out _ _ (HG3.out.below hx HG3.out.lt)).tr); simp [go_sem, hc]⟩) hS ?_
      simp only [Act.put, List.getElem_toArray, List.getElem_cons_succ, List.getElem_cons_zero, List.setIfInBounds_toArray, List.set_cons_zero, List.set_cons_succ]
      refine wpAnyH_pair 1 9 (by kernel_rfl) ?_ ?_
      · refine wpOp_en 1 (by rfl) (by rfl) (f := 24) (args := #[.agg (cb pin).toArray]) (by simp [go_sem]) (HCS.out _) ?_
        rintro e z1 ⟨rfl, hb⟩
        replace hS := Over.more hS hb
        refine ⟨_, rfl, hS, ?_⟩
        clear hb
        simp only [Act.put, List.getElem_toArray, List.getElem_cons_succ, List.getElem_cons_zero, List.setIfInBounds_toArray, List.set_cons_zero, List.set_cons_succ]
        refine wpAnyH_pair 4 9 (by kernel_rfl) ?_ ?_
        · refine wpOp_en 4 (by rfl) (by rfl) (f := 23) (args := #[.agg (hdC (0, zb32, pin)).toArray, .slice adt nt ct]) (by simp [go_sem]) (HC1.out _ (HBW.out.trans (Below.mono hS HBW.out.size))) ?_
          rintro e z2 ⟨rfl, hb⟩
          replace hS := Over.more hS hb
          refine ⟨_, rfl, hS, ?_⟩
          clear hb
          simp only [Act.put, List.getElem_toArray, List.getElem_cons_succ, List.getElem_cons_zero, List.setIfInBounds_toArray, List.set_cons_zero, List.set_cons_succ]
          refine wpAnyH_take (i := 5) (v := .tuple #[.agg (hdC h1).toArray, .int .i64 k1, .int .i64 a1]) rfl (by kernel_rfl) (by kernel_rfl) (by kernel_rfl) (fun _ _ _ h => h) (Or.inl ⟨by rfl, fun wx hx => by simp [go_sem]⟩) hS ?_
          simp only [Act.put, List.getElem_toArray, List.getElem_cons_succ, List.getElem_cons_zero, List.setIfInBounds_toArray, List.set_cons_zero, List.set_cons_succ]
          refine wpAnyH_take (i := 6) (v := .agg (hdC h1).toArray) rfl (by kernel_rfl) (by kernel_rfl) (by kernel_rfl) (fun _ _ _ h => h) (Or.inl ⟨by rfl, fun wx hx => by simp [go_sem]⟩) hS ?_
          simp only [Act.put, List.getElem_toArray, List.getElem_cons_succ, List.getElem_cons_zero, List.setIfInBounds_toArray, List.set_cons_zero, List.set_cons_succ]
          refine wpAnyH_take (i := 7) (v := .int .i64 k1) rfl (by kernel_rfl) (by kernel_rfl) (by kernel_rfl) (fun _ _ _ h => h) (Or.inl ⟨by rfl, fun wx hx => by simp [go_sem]⟩) hS ?_
          simp only [Act.put, List.getElem_toArray, List.getElem_cons_succ, List.getElem_cons_zero, List.setIfInBounds_toArray, List.set_cons_zero, List.set_cons_succ]
          refine wpAnyH_take (i := 8) (v := .int .i64 a1) rfl (by kernel_rfl) (by kernel_rfl) (by kernel_rfl) (fun _ _ _ h => h) (Or.inl ⟨by rfl, fun wx hx => by simp [go_sem]⟩) hS ?_
          simp only [Act.put, List.getElem_toArray, List.getElem_cons_succ, List.getElem_cons_zero, List.setIfInBounds_toArray, List.set_cons_zero, List.set_cons_succ]
          have hb := below_alloc z2 (.cells (hdC zeroH).toArray 50)
          have hba : Blk (z2.alloc (.cells (hdC zeroH).toArray 50)) z2.heap.size (hdC zeroH) 50 := Blk.new _ _ _
          have hsz : y0.heap.size ≤ z2.heap.size := Below.size hS
          replace hS := Over.more hS hb
          refine wpAnyH_step 9 (.pointer (some ⟨z2.heap.size, 0, none⟩)) (z2.alloc (.cells (hdC zeroH).toArray 50)) (by kernel_rfl) rfl (by rfl) (alloc_hd _ _ rfl _) hS ?_
          simp only [Act.put, List.getElem_toArray, List.getElem_cons_succ, List.getElem_cons_zero, List.setIfInBounds_toArray, List.set_cons_zero, List.set_cons_succ]
          clear hb
          generalize z2.alloc (.cells (hdC zeroH).toArray 50) = z3 at *
          obtain ⟨ga, HGA⟩ : ∃ z, Hid (z = z2.heap.size) := ⟨_, rfl⟩
          have hgw : y0.heap.size ≤ ga := by rw [HGA.out]; exact hsz
          rw [← HGA.out] at hba ⊢
          clear HGA hsz
          refine wpAnyH_storeRow 10 50 (.tmp 5) (.tmp 21) ga (hdC zeroH) (hdC h1) hba (by rw [len_hdC HO1.out, len_hdC okH_zero]) (info_hdC HO1.out) (hdC_one _) (by kernel_rfl) rfl (by rfl) rfl rfl rfl ?_
          intro yE hs
          replace hS : Over y0 yE := Below.trans hS (hs.only.below hgw (Below.size hS))
          refine ⟨hS, ?_⟩
          simp only [Act.put, List.getElem_toArray, List.getElem_cons_succ, List.getElem_cons_zero]
          refine wpAnyH_take (i := 11) (v := .int .i64 k1) rfl (by kernel_rfl) (by kernel_rfl) (by kernel_rfl) (fun _ _ _ h => h) (Or.inl ⟨by rfl, fun wx hx => by simp [go_sem]⟩) hS ?_
          simp only [Act.put, List.getElem_toArray, List.getElem_cons_succ, List.getElem_cons_zero, List.setIfInBounds_toArray, List.set_cons_zero, List.set_cons_succ]
          refine wpAnyH_take (i := 12) (v := .int .i64 a1) rfl (by kernel_rfl) (by kernel_rfl) (by kernel_rfl) (fun _ _ _ h => h) (Or.inl ⟨by rfl, fun wx hx => by simp [go_sem]⟩) hS ?_
          simp only [Act.put, List.getElem_toArray, List.getElem_cons_succ, List.getElem_cons_zero, List.setIfInBounds_toArray, List.set_cons_zero, List.set_cons_succ]
          refine wpAnyH_done (by kernel_rfl) ?_ _
          go_wp2
          go_meet
          case rel => exact ⟨ga, rfl, rfl, rfl, hs.blk, HG3.out.below hS HG3.out.lt, HBW.out.trans (Below.mono hS HBW.out.size)⟩
        · have hb := below_alloc z1 (.cells (hdC zeroH).toArray 50)
          have hba : Blk (z1.alloc (.cells (hdC zeroH).toArray 50)) z1.heap.size (hdC zeroH) 50 := Blk.new _ _ _
          have hsz : y0.heap.size ≤ z1.heap.size := Below.size hS
          replace hS := Over.more hS hb
          refine wpOp_vl 9 (.pointer (some ⟨z1.heap.size, 0, none⟩)) (z1.alloc (.cells (hdC zeroH).toArray 50)) (by rfl) (by rfl) (alloc_hd _ _ rfl _) ⟨hS, ?_⟩
          simp only [Act.put, List.getElem_toArray, List.getElem_cons_succ, List.getElem_cons_zero, List.setIfInBounds_toArray, List.set_cons_zero, List.set_cons_succ]
          clear hb
          generalize z1.alloc (.cells (hdC zeroH).toArray 50) = z4 at *
          obtain ⟨ga, HGA⟩ : ∃ z, Hid (z = z1.heap.size) := ⟨_, rfl⟩
          have hgw : y0.heap.size ≤ ga := by rw [HGA.out]; exact hsz
          rw [← HGA.out] at hba ⊢
          clear HGA hsz
          refine wpAnyH_enter 4 (by kernel_rfl) rfl (by rfl) (f := 23) (args := #[.agg (hdC (0, zb32, pin)).toArray, .slice adt nt ct]) (by simp [go_sem]) (HC1.out _ (HBW.out.trans (Below.mono hS HBW.out.size))) ?_
          rintro e z5 ⟨rfl, hb⟩
          replace hS := Over.more hS hb
          replace hba := hba.below hb hba.lt
          refine ⟨_, rfl, hS, ?_⟩
          clear hb
          simp only [Act.put, List.getElem_toArray, List.getElem_cons_succ, List.getElem_cons_zero, List.setIfInBounds_toArray, List.set_cons_zero, List.set_cons_succ]
          refine wpAnyH_take (i := 5) (v := .tuple #[.agg (hdC h1).toArray, .int .i64 k1, .int .i64 a1]) rfl (by kernel_rfl) (by kernel_rfl) (by kernel_rfl) (fun _ _ _ h => h) (Or.inl ⟨by rfl, fun wx hx => by simp [go_sem]⟩) hS ?_
          simp only [Act.put, List.getElem_toArray, List.getElem_cons_succ, List.getElem_cons_zero, List.setIfInBounds_toArray, List.set_cons_zero, List.set_cons_succ]
          refine wpAnyH_take (i := 6) (v := .agg (hdC h1).toArray) rfl (by kernel_rfl) (by kernel_rfl) (by kernel_rfl) (fun _ _ _ h => h) (Or.inl ⟨by rfl, fun wx hx => by simp [go_sem]⟩) hS ?_
          simp only [Act.put, List.getElem_toArray, List.getElem_cons_succ, List.getElem_cons_zero, List.setIfInBounds_toArray, List.set_cons_zero, List.set_cons_succ]
          refine wpAnyH_take (i := 7) (v := .int .i64 k1) rfl (by kernel_rfl) (by kernel_rfl) (by kernel_rfl) (fun _ _ _ h => h) (Or.inl ⟨by rfl, fun wx hx => by simp [go_sem]⟩) hS ?_
          simp only [Act.put, List.getElem_toArray, List.getElem_cons_succ, List.getElem_cons_zero, List.setIfInBounds_toArray, List.set_cons_zero, List.set_cons_succ]
          refine wpAnyH_take (i := 8) (v := .int .i64 a1) rfl (by kernel_rfl) (by kernel_rfl) (by kernel_rfl) (fun _ _ _ h => h) (Or.inl ⟨by rfl, fun wx hx => by simp [go_sem]⟩) hS ?_
          simp only [Act.put, List.getElem_toArray, List.getElem_cons_succ, List.getElem_cons_zero, List.setIfInBounds_toArray, List.set_cons_zero, List.set_cons_succ]
          refine wpAnyH_storeRow 10 50 (.tmp 5) (.tmp 21) ga (hdC zeroH) (hdC h1) hba (by rw [len_hdC HO1.out, len_hdC okH_zero]) (info_hdC HO1.out) (hdC_one _) (by kernel_rfl) rfl (by rfl) rfl rfl rfl ?_
          intro yE hs
          replace hS : Over y0 yE := Below.trans hS (hs.only.below hgw (Below.size hS))
          refine ⟨hS, ?_⟩
          simp only [Act.put, List.getElem_toArray, List.getElem_cons_succ, List.getElem_cons_zero]
          refine wpAnyH_take (i := 11) (v := .int .i64 k1) rfl (by kernel_rfl) (by kernel_rfl) (by kernel_rfl) (fun _ _ _ h => h) (Or.inl ⟨by rfl, fun wx hx => by simp [go_sem]⟩) hS ?_
          simp only [Act.put, List.getElem_toArray, List.getElem_cons_succ, List.getElem_cons_zero, List.setIfInBounds_toArray, List.set_cons_zero, List.set_cons_succ]
          refine wpAnyH_take (i := 12) (v := .int .i64 a1) rfl (by kernel_rfl) (by kernel_rfl) (by kernel_rfl) (fun _ _ _ h => h) (Or.inl ⟨by rfl, fun wx hx => by simp [go_sem]⟩) hS ?_
          simp only [Act.put, List.getElem_toArray, List.getElem_cons_succ, List.getElem_cons_zero, List.setIfInBounds_toArray, List.set_cons_zero, List.set_cons_succ]
          refine wpAnyH_done (by kernel_rfl) ?_ _
          go_wp2
          go_meet
          case rel => exact ⟨ga, rfl, rfl, rfl, hs.blk, HG3.out.below hS HG3.out.lt, HBW.out.trans (Below.mono hS HBW.out.size)⟩
      · have hb := below_alloc y0 (.cells (hdC zeroH).toArray 50)
        have hba : Blk (y0.alloc (.cells (hdC zeroH).toArray 50)) y0.heap.size (hdC zeroH) 50 := Blk.new _ _ _
        have hsz : y0.heap.size ≤ y0.heap.size := Below.size hS
        replace hS := Over.more hS hb
        refine wpOp_vl 9 (.pointer (some ⟨y0.heap.size, 0, none⟩)) (y0.alloc (.cells (hdC zeroH).toArray 50)) (by rfl) (by rfl) (alloc_hd _ _ rfl _) ⟨hS, ?_⟩
        simp only [Act.put, List.getElem_toArray, List.getElem_cons_succ, List.getElem_cons_zero, List.setIfInBounds_toArray, List.set_cons_zero, List.set_cons_succ]
        clear hb
        generalize y0.alloc (.cells (hdC zeroH).toArray 50) = z6 at *
        obtain ⟨ga, HGA⟩ : ∃ z, Hid (z = y0.heap.size) := ⟨_, rfl⟩
        have hgw : y0.heap.size ≤ ga := by rw [HGA.out]; exact hsz
        rw [← HGA.out] at hba ⊢
        clear HGA hsz
        refine wpAnyH_enter 1 (by kernel_rfl) rfl (by rfl) (f := 24) (args := #[.agg (cb pin).toArray]) (by simp [go_sem]) (HCS.out _) ?_
        rintro e z7 ⟨rfl, hb⟩
        replace hS := Over.more hS hb
        replace hba := hba.below hb hba.lt
        refine ⟨_, rfl, hS, ?_⟩
        clear hb
        simp only [Act.put, List.getElem_toArray, List.getElem_cons_succ, List.getElem_cons_zero, List.setIfInBounds_toArray, List.set_cons_zero, List.set_cons_succ]
        refine wpAnyH_enter 4 (by kernel_rfl) rfl (by rfl) (f := 23) (args := #[.agg (hdC (0, zb32, pin)).toArray, .slice adt nt ct]) (by simp [go_sem]) (HC1.out _ (HBW.out.trans (Below.mono hS HBW.out.size))) ?_
        rintro e z8 ⟨rfl, hb⟩
        replace hS := Over.more hS hb
        replace hba := hba.below hb hba.lt
        refine ⟨_, rfl, hS, ?_⟩
        clear hb
        simp only [Act.put, List.getElem_toArray, List.getElem_cons_succ, List.getElem_cons_zero, List.setIfInBounds_toArray, List.set_cons_zero, List.set_cons_succ]
        refine wpAnyH_take (i := 5) (v := .tuple #[.agg (hdC h1).toArray, .int .i64 k1, .int .i64 a1]) rfl (by kernel_rfl) (by kernel_rfl) (by kernel_rfl) (fun _ _ _ h => h) (Or.inl ⟨by rfl, fun wx hx => by simp [go_sem]⟩) hS ?_
        simp only [Act.put, List.getElem_toArray, List.getElem_cons_succ, List.getElem_cons_zero, List.setIfInBounds_toArray, List.set_cons_zero, List.set_cons_succ]
        refine wpAnyH_take (i := 6) (v := .agg (hdC h1).toArray) rfl (by kernel_rfl) (by kernel_rfl) (by kernel_rfl) (fun _ _ _ h => h) (Or.inl ⟨by rfl, fun wx hx => by simp [go_sem]⟩) hS ?_
        simp only [Act.put, List.getElem_toArray, List.getElem_cons_succ, List.getElem_cons_zero, List.setIfInBounds_toArray, List.set_cons_zero, List.set_cons_succ]
        refine wpAnyH_take (i := 7) (v := .int .i64 k1) rfl (by kernel_rfl) (by kernel_rfl) (by kernel_rfl) (fun _ _ _ h => h) (Or.inl ⟨by rfl, fun wx hx => by simp [go_sem]⟩) hS ?_
        simp only [Act.put, List.getElem_toArray, List.getElem_cons_succ, List.getElem_cons_zero, List.setIfInBounds_toArray, List.set_cons_zero, List.set_cons_succ]
        refine wpAnyH_take (i := 8) (v := .int .i64 a1) rfl (by kernel_rfl) (by kernel_rfl) (by kernel_rfl) (fun _ _ _ h => h) (Or.inl ⟨by rfl, fun wx hx => by simp [go_sem]⟩) hS ?_
        simp only [Act.put, List.getElem_toArray, List.getElem_cons_succ, List.getElem_cons_zero, List.setIfInBounds_toArray, List.set_cons_zero, List.set_cons_succ]
        refine wpAnyH_storeRow 10 50 (.tmp 5) (.tmp 21) ga (hdC zeroH) (hdC h1) hba (by rw [len_hdC HO1.out, len_hdC okH_zero]) (info_hdC HO1.out) (hdC_one _) (by kernel_rfl) rfl (by rfl) rfl rfl rfl ?_
        intro yE hs
        replace hS : Over y0 yE := Below.trans hS (hs.only.below hgw (Below.size hS))
        refine ⟨hS, ?_⟩
        simp only [Act.put, List.getElem_toArray, List.getElem_cons_succ, List.getElem_cons_zero]
        refine wpAnyH_take (i := 11) (v := .int .i64 k1) rfl (by kernel_rfl) (by kernel_rfl) (by kernel_rfl) (fun _ _ _ h => h) (Or.inl ⟨by rfl, fun wx hx => by simp [go_sem]⟩) hS ?_
        simp only [Act.put, List.getElem_toArray, List.getElem_cons_succ, List.getElem_cons_zero, List.setIfInBounds_toArray, List.set_cons_zero, List.set_cons_succ]
        refine wpAnyH_take (i := 12) (v := .int .i64 a1) rfl (by kernel_rfl) (by kernel_rfl) (by kernel_rfl) (fun _ _ _ h => h) (Or.inl ⟨by rfl, fun wx hx => by simp [go_sem]⟩) hS ?_
        simp only [Act.put, List.getElem_toArray, List.getElem_cons_succ, List.getElem_cons_zero, List.setIfInBounds_toArray, List.set_cons_zero, List.set_cons_succ]
        refine wpAnyH_done (by kernel_rfl) ?_ _
        go_wp2
        go_meet
        case rel => exact ⟨ga, rfl, rfl, rfl, hs.blk, HG3.out.below hS HG3.out.lt, HBW.out.trans (Below.mono hS HBW.out.size)⟩
    case rest =>
      obtain ⟨g5, rfl, rfl, rfl, hb5, hb3, hbw⟩ := hcut
      have H5 : Hid (Blk wc g5 (hdC h1) 50) := hb5
      replace HG3 : Hid (Blk wc g3 cev 32) := hb3
      replace HBW : Hid (Below w.heap.size w wc) := hbw
      clear hb5 hb3 hbw HG2
      by_cases ha1 : a1 = 0
      case neg =>
        have qa1 : (a1 == 0) = false := by rw [beq_eq_false_iff_ne]; exact ha1
        have pa1 : (a1 != 0) = true := by rw [bne, qa1]; rfl
        have HZ : Hid (checkF pin e = 15) := by show _ = _; rw [HFR.out, if_neg (fun k => ha1 k.1)]
        clear ha1
        go_wp2
        go_ret
        exact ⟨by rw [HZ.out]; rfl, HBW.out⟩
      case pos =>
        have qa1 : (a1 == 0) = true := by rw [beq_iff_eq]; exact ha1
        have pa1 : (a1 != 0) = false := by rw [bne, qa1]; rfl
        by_cases heA : eA = 0
        case neg =>
          have DA : Hid (decide (eA = 0) = false) := decide_eq_false heA
          have HZ : Hid (checkF pin e = 15) := by show _ = _; rw [HFR.out, if_neg (fun k => heA k.2.1)]
          clear ha1 heA
          have tk40 : Hid True := trivial
          have tk41 : Hid True := trivial
          have tk42 : Hid True := trivial
          go_wp2_with (first
            | (clear tk40; with_reducible refine wpSeq_loadW 50 (.tmp 5) g5 0 (hdC h1) _ ?_ Tryd.underlying50 rfl ?_ ?_ ?_ ?_ ?_
               · exact H5.out.range
               · exact (info_hdC HO1.out)
               · rfl
               · rfl
               · rfl)
            | (clear tk41; with_reducible refine wpSeq_loadW 30 (.tmp 28) g3 1 csa _ ?_ Tryd.underlying30 rfl ?_ ?_ ?_ ?_ ?_
               · exact (HRG.out _ _ HG3.out).1
               · exact HIS.out.1
               · rfl
               · rfl
               · rfl)
            | (clear tk42; go_at_call 29; refine (HC2.out wc HBW.out).mono ?_; rintro e y41 ⟨rfl, hbz⟩
               replace H5 : Hid (Blk y41 g5 (hdC h1) 50) := H5.out.below hbz H5.out.lt
               replace HG3 : Hid (Blk y41 g3 cev 32) := HG3.out.below hbz HG3.out.lt
               replace HBW : Hid (Below w.heap.size w y41) := HBW.out.trans (hbz.mono HBW.out.size)
               rw [DA.out]
               clear hbz ))
          go_ret
          exact ⟨by rw [HZ.out]; rfl, HBW.out⟩
        case pos =>
          have DA : Hid (decide (eA = 0) = true) := decide_eq_true heA
          by_cases heB : eB = 0
          case neg =>
            have DB : Hid (decide (eB = 0) = false) := decide_eq_false heB
            have HZ : Hid (checkF pin e = 15) := by show _ = _; rw [HFR.out, if_neg (fun k => heB k.2.2.1)]
            clear ha1 heA heB
            have tk40 : Hid True := trivial
            have tk41 : Hid True := trivial
            have tk42 : Hid True := trivial
            have tk43 : Hid True := trivial
            have tk44 : Hid True := trivial
            have tk45 : Hid True := trivial
            go_wp2_with (first
              | (clear tk40; with_reducible refine wpSeq_loadW 50 (.tmp 5) g5 0 (hdC h1) _ ?_ Tryd.underlying50 rfl ?_ ?_ ?_ ?_ ?_
                 · exact H5.out.range
                 · exact (info_hdC HO1.out)
                 · rfl
                 · rfl
                 · rfl)
              | (clear tk41; with_reducible refine wpSeq_loadW 30 (.tmp 28) g3 1 csa _ ?_ Tryd.underlying30 rfl ?_ ?_ ?_ ?_ ?_
                 · exact (HRG.out _ _ HG3.out).1
                 · exact HIS.out.1
                 · rfl
                 · rfl
                 · rfl)
              | (clear tk42; go_at_call 29; refine (HC2.out wc HBW.out).mono ?_; rintro e y41 ⟨rfl, hbz⟩
                 replace H5 : Hid (Blk y41 g5 (hdC h1) 50) := H5.out.below hbz H5.out.lt
                 replace HG3 : Hid (Blk y41 g3 cev 32) := HG3.out.below hbz HG3.out.lt
                 replace HBW : Hid (Below w.heap.size w y41) := HBW.out.trans (hbz.mono HBW.out.size)
                 rw [DA.out]
                 clear hbz )
              | (clear tk43; with_reducible refine wpSeq_loadW 50 (.tmp 5) g5 0 (hdC h1) _ ?_ Tryd.underlying50 rfl ?_ ?_ ?_ ?_ ?_
                 · exact H5.out.range
                 · exact (info_hdC HO1.out)
                 · rfl
                 · rfl
                 · rfl)
              | (clear tk44; with_reducible refine wpSeq_loadW 30 (.tmp 35) g3 99 csb _ ?_ Tryd.underlying30 rfl ?_ ?_ ?_ ?_ ?_
                 · exact (HRG.out _ _ HG3.out).2
                 · exact HIS.out.2
                 · rfl
                 · rfl
                 · rfl)
              | (clear tk45; go_at_call 29; refine (HC3.out y41 HBW.out).mono ?_; rintro e y42 ⟨rfl, hbz⟩
                 replace H5 : Hid (Blk y42 g5 (hdC h1) 50) := H5.out.below hbz H5.out.lt
                 replace HG3 : Hid (Blk y42 g3 cev 32) := HG3.out.below hbz HG3.out.lt
                 replace HBW : Hid (Below w.heap.size w y42) := HBW.out.trans (hbz.mono HBW.out.size)
                 rw [DB.out]
                 clear hbz ))
            go_ret
            exact ⟨by rw [HZ.out]; rfl, HBW.out⟩
          case pos =>
            have DB : Hid (decide (eB = 0) = true) := decide_eq_true heB
            have HZ : Hid (checkF pin e = 0) := by show _ = _; rw [HFR.out, if_pos ⟨ha1, heA, heB, rfl⟩]
            clear ha1 heA heB
            have tk40 : Hid True := trivial
            have tk41 : Hid True := trivial
            have tk42 : Hid True := trivial
            have tk43 : Hid True := trivial
            have tk44 : Hid True := trivial
            have tk45 : Hid True := trivial
            go_wp2_with (first
              | (clear tk40; with_reducible refine wpSeq_loadW 50 (.tmp 5) g5 0 (hdC h1) _ ?_ Tryd.underlying50 rfl ?_ ?_ ?_ ?_ ?_
                 · exact H5.out.range
                 · exact (info_hdC HO1.out)
                 · rfl
                 · rfl
                 · rfl)
              | (clear tk41; with_reducible refine wpSeq_loadW 30 (.tmp 28) g3 1 csa _ ?_ Tryd.underlying30 rfl ?_ ?_ ?_ ?_ ?_
                 · exact (HRG.out _ _ HG3.out).1
                 · exact HIS.out.1
                 · rfl
                 · rfl
                 · rfl)
              | (clear tk42; go_at_call 29; refine (HC2.out wc HBW.out).mono ?_; rintro e y41 ⟨rfl, hbz⟩
                 replace H5 : Hid (Blk y41 g5 (hdC h1) 50) := H5.out.below hbz H5.out.lt
                 replace HG3 : Hid (Blk y41 g3 cev 32) := HG3.out.below hbz HG3.out.lt
                 replace HBW : Hid (Below w.heap.size w y41) := HBW.out.trans (hbz.mono HBW.out.size)
                 rw [DA.out]
                 clear hbz )
              | (clear tk43; with_reducible refine wpSeq_loadW 50 (.tmp 5) g5 0 (hdC h1) _ ?_ Tryd.underlying50 rfl ?_ ?_ ?_ ?_ ?_
                 · exact H5.out.range
                 · exact (info_hdC HO1.out)
                 · rfl
                 · rfl
                 · rfl)
              | (clear tk44; with_reducible refine wpSeq_loadW 30 (.tmp 35) g3 99 csb _ ?_ Tryd.underlying30 rfl ?_ ?_ ?_ ?_ ?_
                 · exact (HRG.out _ _ HG3.out).2
                 · exact HIS.out.2
                 · rfl
                 · rfl
                 · rfl)
              | (clear tk45; go_at_call 29; refine (HC3.out y41 HBW.out).mono ?_; rintro e y42 ⟨rfl, hbz⟩
                 replace H5 : Hid (Blk y42 g5 (hdC h1) 50) := H5.out.below hbz H5.out.lt
                 replace HG3 : Hid (Blk y42 g3 cev 32) := HG3.out.below hbz HG3.out.lt
                 replace HBW : Hid (Below w.heap.size w y42) := HBW.out.trans (hbz.mono HBW.out.size)
                 rw [DB.out]
                 clear hbz ))
            go_ret
            exact ⟨by rw [HZ.out]; rfl, HBW.out⟩
end Go.Proofs.YtableajopaappaaDoor

/- The walks of record's readBinding, readRequest and readSigned. -/
import Derived.Test.YtldbcglakeggaaaRecNK
namespace Go.Proofs.Ytldbcglakeggaaa
open Go.RowKit
def bindS (l : List (BitVec 8)) : Option ((List (BitVec 8) × List (BitVec 8) × Nat) × List (BitVec 8)) :=
  match nkS l with
  | none => none
  | some ((nm, ky), r) =>
    match readNum r with
    | none => none
    | some (sr, r2) => some ((nm, ky, sr), r2)
theorem bindS_none {l : List (BitVec 8)} (h : nkS l = none) : bindS l = none := by unfold bindS; rw [h]
theorem bindS_no {l nm ky r : List (BitVec 8)} (h : nkS l = some ((nm, ky), r)) (h2 : readNum r = none) : bindS l = none := by unfold bindS; rw [h]; simp only [h2]
theorem bindS_some {l nm ky r r2 : List (BitVec 8)} {sr : Nat} (h : nkS l = some ((nm, ky), r)) (h2 : readNum r = some (sr, r2)) : bindS l = some ((nm, ky, sr), r2) := by unfold bindS; rw [h]; simp only [h2]
theorem nkS_pos {l : List (BitVec 8)} {p} (h : nkS l = some p) : 0 < l.length := by
  cases l with
  | nil => simp [nkS, readText, readNum, decNum] at h
  | cons x y => simp
theorem bindS_nil : bindS [] = none := by decide
theorem num_lt {l r : List (BitVec 8)} {n : Nat} (h : readNum l = some (n, r)) : n < 18446744073709551616 := ((readNum_iff _ _ _).1 h).1
def reqS (l : List (BitVec 8)) : Option ((Nat × List (BitVec 8) × List (BitVec 8) × List (BitVec 8)) × List (BitVec 8)) :=
  match readCount 2 l with
  | none => none
  | some (k, r) =>
    if k < 1 then none else
    match nkS r with
    | none => none
    | some ((nm, ky), r2) =>
      match authR k r2 with
      | none => none
      | some (au, r3) => some ((k, nm, ky, au), r3)
theorem reqS_none {l : List (BitVec 8)} (h : readCount 2 l = none) : reqS l = none := by unfold reqS; rw [h]
theorem reqS_low {l r : List (BitVec 8)} {k : Nat} (h : readCount 2 l = some (k, r)) (hk : k < 1) : reqS l = none := by unfold reqS; rw [h]; simp only [if_pos hk]
theorem reqS_nk {l r : List (BitVec 8)} {k : Nat} (h : readCount 2 l = some (k, r)) (h2 : nkS r = none) : reqS l = none := by
  unfold reqS
  rw [h]
  simp only [h2]
  split <;> rfl
theorem reqS_is {l r nm ky r2 : List (BitVec 8)} {k : Nat} (h : readCount 2 l = some (k, r)) (hk : ¬ k < 1) (h2 : nkS r = some ((nm, ky), r2)) : reqS l = match authR k r2 with
      | none => none
      | some (au, r3) => some ((k, nm, ky, au), r3) := by unfold reqS; rw [h]; simp only [if_neg hk, h2]
theorem reqS_nil : reqS [] = none := by decide
theorem signedR_nil : signedR [] = none := by decide
theorem reqV_put {kd : Int} {nm : List (BitVec 8)} {vk : Value} {au d : List (BitVec 8)} (ha : au.length = 32) (hd : d.length = 32) {w : World} {g : Nat} {t : TypeId} (h : Blk w g (reqV kd nm vk au) t) : Blk (w.setCells g 3 (cb d)) g (reqV kd nm vk d) t := by
  have h2 := setCells_eq g (cb d) 3 w (reqV kd nm vk au) t h (by simp only [reqV, List.length_cons, cb_len, ha, hd]; omega)
  have e : (reqV kd nm vk au).take 3 ++ cb d ++ (reqV kd nm vk au).drop (3 + (cb d).length) = reqV kd nm vk d := by
    rw [cb_len, hd]
    unfold reqV
    simp only [List.take_succ_cons, List.take_zero, List.drop_succ_cons, List.cons_append, List.nil_append]
    rw [List.drop_eq_nil_of_le (by rw [cb_len, ha]; omega), List.append_nil]
  rwa [e] at h2
theorem cell_len {a : List Value} {n : Nat} {v : Value} {b : List Value} (h : a.length = n) : (a ++ (v :: b))[n]? = some v := by subst h; simp
theorem Blk.mid {w : World} {g off : Nat} {A B B2 C : List Value} {t : TypeId} (h : Blk w g (A ++ (B ++ C)) t) (hl : B2.length = B.length) (ho : A.length = off) : Blk (w.setCells g off B2) g (A ++ (B2 ++ C)) t := by
  subst ho
  have h2 := setCells_eq g B2 A.length w _ t h (by simp only [List.length_append]; omega)
  have e : (A ++ (B ++ C)).take A.length ++ B2 ++ (A ++ (B ++ C)).drop (A.length + B2.length) = A ++ (B2 ++ C) := by
    rw [List.take_left, ← List.drop_drop, List.drop_left, hl, List.drop_left, List.append_assoc]
  rwa [e] at h2
theorem sgnV_x {ep : Nat} {x y z x2 : List (BitVec 8)} {vs : Value} {w : World} {g : Nat} {t : TypeId} (h : Blk w g (sgnV ep x y z vs) t) (hx : x.length = 32) (h2 : x2.length = 32) : Blk (w.setCells g 1 (cb x2)) g (sgnV ep x2 y z vs) t :=
  Blk.mid (A := [.int .u64 (ep : Int)]) (B := cb x) (C := cb y ++ (cb z ++ [vs])) h (by rw [cb_len, cb_len, hx, h2]) rfl
theorem sgnV_y {ep : Nat} {x y z y2 : List (BitVec 8)} {vs : Value} {w : World} {g : Nat} {t : TypeId} (h : Blk w g (sgnV ep x y z vs) t) (hx : x.length = 32) (hy : y.length = 32) (h2 : y2.length = 32) : Blk (w.setCells g 33 (cb y2)) g (sgnV ep x y2 z vs) t := by
  have e : ∀ u, sgnV ep x u z vs = (.int .u64 (ep : Int) :: cb x) ++ (cb u ++ (cb z ++ [vs])) := fun u => by simp only [sgnV, List.cons_append]
  rw [e] at h ⊢
  exact h.mid (by rw [cb_len, cb_len, hy, h2]) (by rw [List.length_cons, cb_len, hx])
theorem sgnV_z {ep : Nat} {x y z z2 : List (BitVec 8)} {vs : Value} {w : World} {g : Nat} {t : TypeId} (h : Blk w g (sgnV ep x y z vs) t) (hx : x.length = 32) (hy : y.length = 32) (hz : z.length = 32) (h2 : z2.length = 32) : Blk (w.setCells g 65 (cb z2)) g (sgnV ep x y z2 vs) t := by
  have e : ∀ u, sgnV ep x y u vs = (.int .u64 (ep : Int) :: (cb x ++ cb y)) ++ (cb u ++ [vs]) := fun u => by simp only [sgnV, List.cons_append, List.append_assoc]
  rw [e] at h ⊢
  exact h.mid (by rw [cb_len, cb_len, hz, h2]) (by rw [List.length_cons, List.length_append, cb_len, cb_len, hx, hy])
theorem sgnV_split (ep : Nat) (x y z : List (BitVec 8)) (vs : Value) : sgnV ep x y z vs = (.int .u64 (ep : Int) :: (cb x ++ (cb y ++ cb z))) ++ [vs] := by simp only [sgnV, List.cons_append, List.append_assoc]
theorem sgnV_len {ep : Nat} {x y z : List (BitVec 8)} (hx : x.length = 32) (hy : y.length = 32) (hz : z.length = 32) : (Value.int .u64 (ep : Int) :: (cb x ++ (cb y ++ cb z))).length = 97 := by simp only [List.length_cons, List.length_append, cb_len, hx, hy, hz]
theorem sgnV_sig {ep : Nat} {x y z : List (BitVec 8)} {vs v2 : Value} {w : World} {g : Nat} {t : TypeId} (h : Blk w g (sgnV ep x y z vs) t) (hx : x.length = 32) (hy : y.length = 32) (hz : z.length = 32) : Blk (w.setCell ⟨g, 97, none⟩ v2) g (sgnV ep x y z v2) t := by
  rw [sgnV_split] at h ⊢
  have h2 := h.set 97 v2
  rwa [List.set_append_right _ _ (by rw [sgnV_len hx hy hz]; omega), sgnV_len hx hy hz] at h2
theorem sgnV_last {ep : Nat} {x y z : List (BitVec 8)} {vs : Value} {w : World} {g : Nat} {t : TypeId} (h : Blk w g (sgnV ep x y z vs) t) (hx : x.length = 32) (hy : y.length = 32) (hz : z.length = 32) : w.cell? ⟨g, 97, none⟩ = some vs := by
  rw [h.cell, sgnV_split]
  exact cell_len (sgnV_len hx hy hz)
theorem sgnV_total {ep : Nat} {x y z : List (BitVec 8)} {vs : Value} (hx : x.length = 32) (hy : y.length = 32) (hz : z.length = 32) : (sgnV ep x y z vs).length = 98 := by rw [sgnV_split, List.length_append, sgnV_len hx hy hz]; rfl
theorem nil_of {α : Type} {f : List (BitVec 8) → Option (α × List (BitVec 8))} (h : f [] = none) {l r : List (BitVec 8)} {a : α} (hl : f l = some (a, r)) : 0 < l.length := by
  cases l with
  | nil => rw [h] at hl; cases hl
  | cons x y => simp
theorem cut32_len {l a r : List (BitVec 8)} (h : cut 32 l = some (a, r)) : a.length = 32 := ((codes_cut 32 _ _ _).1 h).1
theorem len0 : zb32.length = 32 := len_zb32
set_option maxRecDepth 100000 in
set_option maxHeartbeats 2000000 in
theorem readBinding_one : OneDoes bindK 46 bindS := by
  intro gr gi v l w h
  have HVB : Hid (0 < l.length → ∀ k, v.ownBlock = some k → k < w.heap.size) := h.byt.inB
  have HGI : Hid (gi < w.heap.size) := h.inp.lt
  have HNK : Hid (Nk w gr gi v v l 25 bindK.z (w.alloc (.cells bindK.z.toArray 25))) := ⟨h.below (below_alloc _ _), Only.of_below (below_alloc _ _), rfl, Blk.new _ _ _, h.rd.lt, h.inp.lt⟩
  clear h
  go_enter Try.func46, Try.ntmps46
  go_wp2_with fail
  change Calls _ _ _ (w.alloc (.cells bindK.z.toArray 25)) _
  generalize w.alloc (.cells bindK.z.toArray 25) = w0 at *
  refine (readNK_any gr gi v l w0 HNK.out.rd).mono ?_
  rintro e w1 (⟨⟨nm, ky⟩, r, va, v2, hc, rfl, ⟨vk, rfl, hown⟩, hrd, ho, hob⟩ | ⟨hc, hT⟩)
  case inr =>
    have HD : Hid (RdDoes gr gi v w (bindS l) (fun a w' v => ∃ cs : List Value, v = .agg cs.toArray ∧ bindK.G w' w.heap.size a cs) (thrown gi) w1) := Or.inr ⟨bindS_none hc, Threw.after HNK.out.onl (hT.eq ▸ hT)⟩
    obtain rfl := hT.eq
    unfold thrown at HD ⊢
    clear hT
    go_wp2
    exact ⟨rfl, HD.out⟩
  have HS1 : Hid (nkS l = some ((nm, ky), r)) := hc
  have HVV : Hid (∀ k, v.ownBlock = some k → k < w.heap.size) := HVB.out (nkS_pos hc)
  have H8 : OwnB w1 (w.heap.size + 1) vk ky := hown.mono HNK.out.res.lt
  have HVK : Hid (∀ k, vk.ownBlock = some k → w.heap.size < k ∧ k < w1.heap.size) := fun k hk => ⟨H8.own k hk, H8.lt k hk⟩
  have hNK1 := HNK.out.call hrd ho hob
  have hNK2 := hNK1.below (below_alloc w1 (.cells bindK.z.toArray 25))
  have HGL : Hid (w.heap.size < w1.heap.size) := hNK1.res.lt
  have HG2 : Hid (Blk (w1.alloc (.cells bindK.z.toArray 25)) w1.heap.size bindK.z 25) := Blk.new _ _ _
  have hat2 : At w1.heap.size (w1.alloc (.cells bindK.z.toArray 25)) ((w1.alloc (.cells bindK.z.toArray 25)).setCells w1.heap.size 0 (bindV nm vk 0)) := At.setCells _ _ _ (At.refl _ _)
  have HNK3 : Hid _ := hNK2.at hat2 HGL.out HVV.out
  have HG3 : Hid (Blk ((w1.alloc (.cells bindK.z.toArray 25)).setCells w1.heap.size 0 (bindV nm vk 0)) w1.heap.size (bindV nm vk 0) 25) := HG2.out.whole _ rfl
  have H83 : Hid (OwnB ((w1.alloc (.cells bindK.z.toArray 25)).setCells w1.heap.size 0 (bindV nm vk 0)) (w.heap.size + 1) vk ky) := (H8.below (below_alloc _ _) (Nat.le_refl _)).same (fun k hk => hat2.block k (by have := (HVK.out k hk).2; omega))
  have H1V : Hid (vk.oneCell' = true) := H8.one
  clear hown hrd ho hob hc H8 hNK1 hNK2 hat2 HNK
  go_wp2_with (first | (refine wpSeq_val (.pointer (some ⟨w1.heap.size, 0, none⟩)) (w1.alloc (.cells bindK.z.toArray 25)) (by rfl) (allocBinding _ _ rfl _) ?_) | (refine wpList_store_mid rfl 25 _ _ rfl w1.heap.size 0 (bindV nm vk 0).toArray rfl rfl (HG2.out.there 0 _ (by simp [bindK, bindV])) (by kernel_rfl) (all_oneCell_toArray (bindV_one H1V.out)) ?_))
  clear HG2
  have HNK := HNK3
  clear HNK3
  change Calls _ _ _ ((w1.alloc (.cells bindK.z.toArray 25)).setCells w1.heap.size 0 (bindV nm vk 0)) _
  generalize (w1.alloc (.cells bindK.z.toArray 25)).setCells w1.heap.size 0 (bindV nm vk 0) = w3 at *
  generalize w1.heap.size = ga at *
  refine (crnum_any gr gi v2 r w3 HNK.out.rd).mono ?_
  rintro e w4 (⟨sr, r2, va2, v3, hc, rfl, rfl, hrd, ho, hob⟩ | ⟨hc, hT⟩)
  case inr =>
    have HD : Hid (RdDoes gr gi v w (bindS l) (fun a w' v => ∃ cs : List Value, v = .agg cs.toArray ∧ bindK.G w' w.heap.size a cs) (thrown gi) w4) := Or.inr ⟨bindS_no HS1.out hc, Threw.after HNK.out.onl (hT.eq ▸ hT)⟩
    obtain rfl := hT.eq
    unfold thrown at HD ⊢
    clear hT
    go_wp2
    exact ⟨rfl, HD.out⟩
  have HSP : Hid (bindS l = some ((nm, ky, sr), r2)) := bindS_some HS1.out hc
  have HSR : Hid (sr < 18446744073709551616) := num_lt hc
  have hG4 : Blk w4 ga (bindV nm vk 0) 25 := HG3.out.only ho (by have := HGL.out; have := HGI.out; omega)
  have c2 : w4.cell? ⟨ga, 2, none⟩ = some (.int .u64 0) := hG4.cell 2
  have f2 : w4.frozen? ⟨ga, 2, none⟩ = false := hG4.frozen 2
  have hat : At ga w4 (w4.setCell ⟨ga, 2, none⟩ (.int .u64 (sr : Int))) := (At.refl _ _).setCell _ _
  have HGA : Hid (Blk (w4.setCell ⟨ga, 2, none⟩ (.int .u64 (sr : Int))) ga (bindV nm vk sr) 25) := hG4.set 2 _
  have H8 : Hid (OwnB (w4.setCell ⟨ga, 2, none⟩ (.int .u64 (sr : Int))) (w.heap.size + 1) vk ky) := (H83.out.onlyK ho (by have := HGI.out; omega)).same (fun k hk => hat.block k (by have := (HVK.out k hk).2; omega))
  have HNK5 : Hid _ := (HNK.out.call hrd ho hob).at hat HGL.out HVV.out
  clear HNK hrd ho hob hc hG4 hat H83 HG3
  have HNK := HNK5
  clear HNK5
  obtain ⟨w5, HW5⟩ : ∃ x, Hid (x = w4.setCell ⟨ga, 2, none⟩ (.int .u64 (sr : Int))) := ⟨_, rfl⟩
  rw [← HW5.out] at HGA H8 HNK
  have HRES : Hid (Blk w5 w.heap.size bindK.z 25) := HNK.out.res
  have HGG : Hid (bindK.G w5 (w.heap.size + 1) (nm, ky, sr) (bindV nm vk sr)) := ⟨vk, rfl, H8.out, HSR.out⟩
  have HI : Hid ((Try.prog.info? 25).map (·.size) = some ((bindV nm vk sr)).length) := by have := bindK_ok.size HGG.out; rw [List.size_toArray] at this; exact this
  have H1 : Hid (((bindV nm vk sr)).toArray.all (·.oneCell') = true) := all_oneCell_toArray (bindK_ok.one HGG.out)
  have HLN : Hid (((bindV nm vk sr)).length = bindK.z.length) := bindK_ok.len HGG.out
  obtain ⟨cs, HCS⟩ : ∃ cs, Hid (cs = (bindV nm vk sr)) := ⟨_, rfl⟩
  rw [← HCS.out] at HGA HGG HI H1 HLN
  clear HCS
  clear H8
  go_wp2_with (first | (refine wpSeq_val (.agg cs.toArray) _ (by rfl) (load_run 25 _ rfl ga 0 rfl cs _ (HW5.out ▸ HGA.out.range) Try.underlying25 rfl HI.out) ?_) | (refine wpList_store_mid rfl 25 _ _ rfl w.heap.size 0 cs.toArray rfl rfl (HW5.out ▸ HRES.out.there 0 _ (by rw [List.size_toArray, HLN.out]; omega)) (by rw [List.size_toArray]; exact HI.out) H1.out ?_))
  rw [← HW5.out]
  have hat : At w.heap.size w5 (w5.setCells w.heap.size 0 cs) := At.setCells _ _ _ (At.refl _ _)
  have hB6 : Blk (w5.setCells w.heap.size 0 cs) w.heap.size cs 25 := HRES.out.whole cs HLN.out
  refine bodyPost_ret (v := .agg cs.toArray) (results_cell_row (by rfl) _ _ w.heap.size 25 _ (0, 0) _ rfl hB6 Try.underlying25 rfl (by rw [List.size_toArray]; exact HI.out)) rfl (Or.inl ⟨(nm, ky, sr), r2, _, _, HSP.out, rfl, ⟨_, rfl, ?_⟩, ?_, ?_, HNK.out.ob⟩)
  · exact bindK_ok.mono (bindK_ok.same HGG.out fun k h1 _ => hat.block k (by omega)) (Nat.le_succ _)
  · exact HNK.out.rdAt hat (Nat.le_refl _) HVV.out
  · exact HNK.out.onlAt hat (Nat.le_refl _)
set_option maxRecDepth 100000 in
set_option maxHeartbeats 2000000 in
theorem readSigned_one : OneDoes sgnK 55 signedR := by
  intro gr gi v l w h
  have HVB : Hid (0 < l.length → ∀ k, v.ownBlock = some k → k < w.heap.size) := h.byt.inB
  have HGI : Hid (gi < w.heap.size) := h.inp.lt
  have HNK : Hid (Nk w gr gi v v l 42 sgnK.z (w.alloc (.cells sgnK.z.toArray 42))) := ⟨h.below (below_alloc _ _), Only.of_below (below_alloc _ _), rfl, Blk.new _ _ _, h.rd.lt, h.inp.lt⟩
  clear h
  go_enter Try.func55, Try.ntmps55
  go_wp2_with fail
  have HNK0 : Hid (Nk w gr gi v v l 42 sgnK.z ((w.alloc (.cells sgnK.z.toArray 42)).alloc (.cells sgnK.z.toArray 42))) := HNK.out.below (below_alloc _ _)
  have HGA : Hid (Blk ((w.alloc (.cells sgnK.z.toArray 42)).alloc (.cells sgnK.z.toArray 42)) (w.heap.size + 1) (sgnV 0 zb32 zb32 zb32 nilV) 42) := Blk.new_at (by simp) _ _
  have HSZ : Hid (w.heap.size + 2 ≤ ((w.alloc (.cells sgnK.z.toArray 42)).alloc (.cells sgnK.z.toArray 42)).heap.size) := by show _ ≤ _; simp
  clear HNK
  have HNK := HNK0
  clear HNK0
  change Calls _ _ _ ((w.alloc (.cells sgnK.z.toArray 42)).alloc (.cells sgnK.z.toArray 42)) _
  generalize (w.alloc (.cells sgnK.z.toArray 42)).alloc (.cells sgnK.z.toArray 42) = w0 at *
  obtain ⟨ga, HGE⟩ : ∃ x, Hid (x = w.heap.size + 1) := ⟨_, rfl⟩
  have HGL : Hid (w.heap.size < ga) := by show _ < _; rw [HGE.out]; omega
  rw [← HGE.out] at HGA ⊢
  refine (crnum_any gr gi v l w0 HNK.out.rd).mono ?_
  rintro e w1 (⟨ep, r1, va1, v1, hc, rfl, rfl, hrd, ho, hob⟩ | ⟨hc, hT⟩)
  case inr =>
    have HD : Hid (RdDoes gr gi v w (signedR l) (fun a w' v => ∃ cs : List Value, v = .agg cs.toArray ∧ sgnK.G w' w.heap.size a cs) (thrown gi) w1) := Or.inr ⟨thenR_none hc, Threw.after HNK.out.onl (hT.eq ▸ hT)⟩
    obtain rfl := hT.eq
    unfold thrown at HD ⊢
    clear hT
    go_wp2
    exact ⟨rfl, HD.out⟩
  have HS1 : Hid (readNum l = some (ep, r1)) := hc
  have HVV : Hid (∀ k, v.ownBlock = some k → k < w.heap.size) := HVB.out (nil_of rfl hc)
  have HEP : Hid (ep < 18446744073709551616) := num_lt hc
  have hGA := HGA.out.only ho (by have := HGL.out; have := HGI.out; omega)
  have hat : At ga w1 (w1.setCell ⟨ga, 0, none⟩ (.int .u64 (ep : Int))) := (At.refl _ _).setCell _ _
  have HGB : Hid (Blk (w1.setCell ⟨ga, 0, none⟩ (.int .u64 (ep : Int))) ga (sgnV ep zb32 zb32 zb32 nilV) 42) := hGA.set 0 _
  have HNK2 : Hid _ := (HNK.out.call hrd ho hob).at hat HGL.out HVV.out
  have HSZ2 : Hid (w.heap.size + 2 ≤ (w1.setCell ⟨ga, 0, none⟩ (.int .u64 (ep : Int))).heap.size) := by show _ ≤ _; rw [hat.size]; exact Nat.le_trans HSZ.out ho.size
  have c0 : w1.cell? ⟨ga, 0, none⟩ = some (.int .u64 0) := hGA.cell 0
  have f0 : w1.frozen? ⟨ga, 0, none⟩ = false := hGA.frozen 0
  clear HNK HGA HSZ hrd ho hob hc hGA hat
  have HNK := HNK2
  have HGA := HGB
  have HSZ := HSZ2
  clear HNK2 HGB HSZ2
  go_wp2_with fail
  clear c0 f0
  generalize w1.setCell ⟨ga, 0, none⟩ (.int .u64 (ep : Int)) = w2 at *
  refine (crdigest_any gr gi v1 r1 w2 HNK.out.rd).mono ?_
  rintro e w3 (⟨x, r2, va2, v2, hc, rfl, rfl, hrd, ho, hob⟩ | ⟨hc, hT⟩)
  case inr =>
    have HD : Hid (RdDoes gr gi v w (signedR l) (fun a w' v => ∃ cs : List Value, v = .agg cs.toArray ∧ sgnK.G w' w.heap.size a cs) (thrown gi) w3) := Or.inr ⟨thenR_no HS1.out (thenR_none hc), Threw.after HNK.out.onl (hT.eq ▸ hT)⟩
    obtain rfl := hT.eq
    unfold thrown at HD ⊢
    clear hT
    go_wp2
    exact ⟨rfl, HD.out⟩
  have HS2 : Hid (cut 32 r1 = some (x, r2)) := hc
  have HDL : Hid (x.length = 32) := cut32_len hc
  have hGA := HGA.out.only ho (by have := HGL.out; have := HGI.out; omega)
  have hat : At ga w3 (w3.setCells ga 1 (cb x)) := At.setCells _ _ _ (At.refl _ _)
  have HGB : Hid (Blk (w3.setCells ga 1 (cb x)) ga (sgnV ep x zb32 zb32 nilV) 42) := sgnV_x hGA len0 HDL.out
  have HNK2 : Hid _ := (HNK.out.call hrd ho hob).at hat HGL.out HVV.out
  have HSZ2 : Hid (w.heap.size + 2 ≤ (w3.setCells ga 1 (cb x)).heap.size) := by show _ ≤ _; rw [hat.size]; exact Nat.le_trans HSZ.out ho.size
  have HT : Hid (w3.there ga 1 (cb x).toArray.size) := hGA.there 1 _ (by rw [List.size_toArray, cb_len, HDL.out, sgnV_total len0 len0 len0]; omega)
  have HIZ : Hid ((Try.prog.info? 28).map (·.size) = some (cb x).toArray.size) := by show _ = _; rw [List.size_toArray, cb_len, HDL.out]; exact Try.infodig
  clear HNK HGA HSZ hrd ho hob hc hGA hat
  have HNK := HNK2
  have HGA := HGB
  have HSZ := HSZ2
  clear HNK2 HGB HSZ2
  go_wp2_with (refine wpList_store_mid rfl 28 _ _ rfl ga 1 (cb x).toArray rfl rfl HT.out HIZ.out (all_oneCell_toArray (cb_one x)) ?_)
  have HX := HDL
  clear HT HIZ HDL
  change Calls _ _ _ (w3.setCells ga 1 (cb x)) _
  generalize w3.setCells ga 1 (cb x) = w4 at *
  refine (crdigest_any gr gi v2 r2 w4 HNK.out.rd).mono ?_
  rintro e w5 (⟨y, r3, va3, v3, hc, rfl, rfl, hrd, ho, hob⟩ | ⟨hc, hT⟩)
  case inr =>
    have HD : Hid (RdDoes gr gi v w (signedR l) (fun a w' v => ∃ cs : List Value, v = .agg cs.toArray ∧ sgnK.G w' w.heap.size a cs) (thrown gi) w5) := Or.inr ⟨thenR_no HS1.out (thenR_no HS2.out (thenR_none hc)), Threw.after HNK.out.onl (hT.eq ▸ hT)⟩
    obtain rfl := hT.eq
    unfold thrown at HD ⊢
    clear hT
    go_wp2
    exact ⟨rfl, HD.out⟩
  have HS3 : Hid (cut 32 r2 = some (y, r3)) := hc
  have HDL : Hid (y.length = 32) := cut32_len hc
  have hGA := HGA.out.only ho (by have := HGL.out; have := HGI.out; omega)
  have hat : At ga w5 (w5.setCells ga 33 (cb y)) := At.setCells _ _ _ (At.refl _ _)
  have HGB : Hid (Blk (w5.setCells ga 33 (cb y)) ga (sgnV ep x y zb32 nilV) 42) := sgnV_y hGA HX.out len0 HDL.out
  have HNK2 : Hid _ := (HNK.out.call hrd ho hob).at hat HGL.out HVV.out
  have HSZ2 : Hid (w.heap.size + 2 ≤ (w5.setCells ga 33 (cb y)).heap.size) := by show _ ≤ _; rw [hat.size]; exact Nat.le_trans HSZ.out ho.size
  have HT : Hid (w5.there ga 33 (cb y).toArray.size) := hGA.there 33 _ (by rw [List.size_toArray, cb_len, HDL.out, sgnV_total HX.out len0 len0]; omega)
  have HIZ : Hid ((Try.prog.info? 28).map (·.size) = some (cb y).toArray.size) := by show _ = _; rw [List.size_toArray, cb_len, HDL.out]; exact Try.infodig
  clear HNK HGA HSZ hrd ho hob hc hGA hat
  have HNK := HNK2
  have HGA := HGB
  have HSZ := HSZ2
  clear HNK2 HGB HSZ2
  go_wp2_with (refine wpList_store_mid rfl 28 _ _ rfl ga 33 (cb y).toArray rfl rfl HT.out HIZ.out (all_oneCell_toArray (cb_one y)) ?_)
  have HY := HDL
  clear HT HIZ HDL
  change Calls _ _ _ (w5.setCells ga 33 (cb y)) _
  generalize w5.setCells ga 33 (cb y) = w6 at *
  refine (crdigest_any gr gi v3 r3 w6 HNK.out.rd).mono ?_
  rintro e w7 (⟨z, r4, va4, v4, hc, rfl, rfl, hrd, ho, hob⟩ | ⟨hc, hT⟩)
  case inr =>
    have HD : Hid (RdDoes gr gi v w (signedR l) (fun a w' v => ∃ cs : List Value, v = .agg cs.toArray ∧ sgnK.G w' w.heap.size a cs) (thrown gi) w7) := Or.inr ⟨thenR_no HS1.out (thenR_no HS2.out (thenR_no HS3.out (thenR_none hc))), Threw.after HNK.out.onl (hT.eq ▸ hT)⟩
    obtain rfl := hT.eq
    unfold thrown at HD ⊢
    clear hT
    go_wp2
    exact ⟨rfl, HD.out⟩
  have HS4 : Hid (cut 32 r3 = some (z, r4)) := hc
  have HDL : Hid (z.length = 32) := cut32_len hc
  have hGA := HGA.out.only ho (by have := HGL.out; have := HGI.out; omega)
  have hat : At ga w7 (w7.setCells ga 65 (cb z)) := At.setCells _ _ _ (At.refl _ _)
  have HGB : Hid (Blk (w7.setCells ga 65 (cb z)) ga (sgnV ep x y z nilV) 42) := sgnV_z hGA HX.out HY.out len0 HDL.out
  have HNK2 : Hid _ := (HNK.out.call hrd ho hob).at hat HGL.out HVV.out
  have HSZ2 : Hid (w.heap.size + 2 ≤ (w7.setCells ga 65 (cb z)).heap.size) := by show _ ≤ _; rw [hat.size]; exact Nat.le_trans HSZ.out ho.size
  have HT : Hid (w7.there ga 65 (cb z).toArray.size) := hGA.there 65 _ (by rw [List.size_toArray, cb_len, HDL.out, sgnV_total HX.out HY.out len0]; omega)
  have HIZ : Hid ((Try.prog.info? 28).map (·.size) = some (cb z).toArray.size) := by show _ = _; rw [List.size_toArray, cb_len, HDL.out]; exact Try.infodig
  clear HNK HGA HSZ hrd ho hob hc hGA hat
  have HNK := HNK2
  have HGA := HGB
  have HSZ := HSZ2
  clear HNK2 HGB HSZ2
  go_wp2_with (refine wpList_store_mid rfl 28 _ _ rfl ga 65 (cb z).toArray rfl rfl HT.out HIZ.out (all_oneCell_toArray (cb_one z)) ?_)
  have HZ := HDL
  clear HT HIZ HDL
  change Calls _ _ _ (w7.setCells ga 65 (cb z)) _
  generalize w7.setCells ga 65 (cb z) = w8 at *
  refine (crtext_any gr gi v4 r4 w8 HNK.out.rd).mono ?_
  rintro e w10 (⟨sg, r9, va9, v9, hc, rfl, hown, hrd, ho, hob⟩ | ⟨hc, hT⟩)
  case inr =>
    have HD : Hid (RdDoes gr gi v w (signedR l) (fun a w' v => ∃ cs : List Value, v = .agg cs.toArray ∧ sgnK.G w' w.heap.size a cs) (thrown gi) w10) := Or.inr ⟨thenR_no HS1.out (thenR_no HS2.out (thenR_no HS3.out (thenR_no HS4.out (hc)))), Threw.after HNK.out.onl (hT.eq ▸ hT)⟩
    obtain rfl := hT.eq
    unfold thrown at HD ⊢
    clear hT
    go_wp2
    exact ⟨rfl, HD.out⟩
  have HSP : Hid (signedR l = some ((ep, x, y, z, sg), r9)) := thenR_some HS1.out (thenR_some HS2.out (thenR_some HS3.out (thenR_some HS4.out hc)))
  have h8 : OwnB w10 (w.heap.size + 2) va9 sg := hown.mono HSZ.out
  have hGA := HGA.out.only ho (by have := HGL.out; have := HGI.out; omega)
  have c9 : w10.cell? ⟨ga, 97, none⟩ = some nilV := sgnV_last hGA HX.out HY.out HZ.out
  have f9 : w10.frozen? ⟨ga, 97, none⟩ = false := hGA.frozen 97
  have hat : At ga w10 (w10.setCell ⟨ga, 97, none⟩ va9) := (At.refl _ _).setCell _ _
  have HGB : Hid (Blk (w10.setCell ⟨ga, 97, none⟩ va9) ga (sgnV ep x y z va9) 42) := sgnV_sig hGA HX.out HY.out HZ.out
  have H8 : Hid (OwnB (w10.setCell ⟨ga, 97, none⟩ va9) (w.heap.size + 1) va9 sg) := (h8.same (fun k hk => hat.block k (by have := h8.own k hk; have := HGE.out; omega))).mono (by omega)
  have HNK2 : Hid _ := (HNK.out.call hrd ho hob).at hat HGL.out HVV.out
  clear HNK HGA hrd ho hob hc hGA hat
  have HNK := HNK2
  have HGA := HGB
  clear HNK2 HGB
  unfold nilV at c9
  obtain ⟨ad9, cp9, hv9, _, _, _⟩ := id hown.reads
  obtain ⟨n9, HN9⟩ : ∃ n, Hid (n = sg.length) := ⟨_, rfl⟩
  rw [← HN9.out] at hv9
  subst hv9
  clear hown h8 HSZ
  obtain ⟨w5, HW5⟩ : ∃ x, Hid (x = w10.setCell ⟨ga, 97, none⟩ (.slice ad9 n9 cp9)) := ⟨_, rfl⟩
  rw [← HW5.out] at HGA H8 HNK
  have HRES : Hid (Blk w5 w.heap.size sgnK.z 42) := HNK.out.res
  have HGG : Hid (sgnK.G w5 (w.heap.size + 1) (ep, x, y, z, sg) (sgnV ep x y z (.slice ad9 n9 cp9))) := ⟨_, rfl, H8.out, HX.out, HY.out, HZ.out, HEP.out⟩
  have HI : Hid ((Try.prog.info? 42).map (·.size) = some ((sgnV ep x y z (.slice ad9 n9 cp9))).length) := by have := sgnK_ok.size HGG.out; rw [List.size_toArray] at this; exact this
  have H1 : Hid (((sgnV ep x y z (.slice ad9 n9 cp9))).toArray.all (·.oneCell') = true) := all_oneCell_toArray (sgnK_ok.one HGG.out)
  have HLN : Hid (((sgnV ep x y z (.slice ad9 n9 cp9))).length = sgnK.z.length) := sgnK_ok.len HGG.out
  obtain ⟨cs, HCS⟩ : ∃ cs, Hid (cs = (sgnV ep x y z (.slice ad9 n9 cp9))) := ⟨_, rfl⟩
  rw [← HCS.out] at HGA HGG HI H1 HLN
  clear HCS
  clear H8
  go_wp2_with (first | (refine wpSeq_val (.agg cs.toArray) _ (by rfl) (load_run 42 _ rfl ga 0 rfl cs _ (HW5.out ▸ HGA.out.range) Try.underlying42 rfl HI.out) ?_) | (refine wpList_store_mid rfl 42 _ _ rfl w.heap.size 0 cs.toArray rfl rfl (HW5.out ▸ HRES.out.there 0 _ (by rw [List.size_toArray, HLN.out]; omega)) (by rw [List.size_toArray]; exact HI.out) H1.out ?_))
  rw [← HW5.out]
  have hat : At w.heap.size w5 (w5.setCells w.heap.size 0 cs) := At.setCells _ _ _ (At.refl _ _)
  have hB6 : Blk (w5.setCells w.heap.size 0 cs) w.heap.size cs 42 := HRES.out.whole cs HLN.out
  refine bodyPost_ret (v := .agg cs.toArray) (results_cell_row (by rfl) _ _ w.heap.size 42 _ (0, 0) _ rfl hB6 Try.underlying42 rfl (by rw [List.size_toArray]; exact HI.out)) rfl (Or.inl ⟨(ep, x, y, z, sg), r9, _, _, HSP.out, rfl, ⟨_, rfl, ?_⟩, ?_, ?_, HNK.out.ob⟩)
  · exact sgnK_ok.mono (sgnK_ok.same HGG.out fun k h1 _ => hat.block k (by omega)) (Nat.le_succ _)
  · exact HNK.out.rdAt hat (Nat.le_refl _) HVV.out
  · exact HNK.out.onlAt hat (Nat.le_refl _)
end Go.Proofs.Ytldbcglakeggaaa

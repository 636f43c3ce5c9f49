/- The walk of the statement RecordReads. -/
import Derived.Test.YtldbcglakeggaaaRecFp
import Derived.Test.YtldbcglakeggaaaRecBk
namespace Go.Proofs.Ytldbcglakeggaaa
open Go.RowKit
/-- what a reading handed out: the thing, or the zero and the error -/
def Got {α : Type} (K : Kd α) (o : Option α) (W : World) (b : Nat) (cs : List Value) (en : Int) : Prop := (∃ a, o = some a ∧ en = 0 ∧ K.G W b a cs) ∨ (o = none ∧ en = 3 ∧ cs = K.z)
theorem got_of {α : Type} {K : Kd α} {w w' : World} {o : Option α} {e : Ending} (h : RdRes K w o e w') : ∃ cs en, e = .returned (.tuple #[.agg (cs : List Value).toArray, .int .i64 en]) ∧ Got K o w' w.heap.size cs en ∧ Below w.heap.size w w' := by
  rcases h with ⟨hb, ⟨a, cs, ho, rfl, hG⟩ | ⟨ho, rfl⟩⟩
  · exact ⟨cs, 0, rfl, Or.inl ⟨a, ho, rfl, hG⟩, hb⟩
  · exact ⟨K.z, 3, rfl, Or.inr ⟨ho, rfl, rfl⟩, hb⟩
theorem Got.len {α : Type} {K : Kd α} (hK : KdOk K) {o : Option α} {W : World} {b : Nat} {cs : List Value} {en : Int} (h : Got K o W b cs en) : cs.length = K.z.length := by
  rcases h with ⟨a, _, _, hG⟩ | ⟨_, _, rfl⟩
  · exact hK.len hG
  · rfl
theorem Got.one {α : Type} {K : Kd α} (hK : KdOk K) {o : Option α} {W : World} {b : Nat} {cs : List Value} {en : Int} (h : Got K o W b cs en) : cs.toArray.all (·.oneCell') = true := by
  rcases h with ⟨a, _, _, hG⟩ | ⟨_, _, rfl⟩
  · exact all_oneCell_toArray (hK.one hG)
  · exact all_oneCell_toArray hK.zone
theorem Got.info {α : Type} {K : Kd α} (hK : KdOk K) {o : Option α} {W : World} {b : Nat} {cs : List Value} {en : Int} (h : Got K o W b cs en) : (Try.prog.info? K.ty).map (·.size) = some cs.length := by
  rw [h.len hK]
  exact hK.info
theorem Got.next {α : Type} {K : Kd α} (hK : KdOk K) {o : Option α} {W W' : World} {b : Nat} {cs : List Value} {en : Int} (h : Got K o W b cs en) (hb : Below W.heap.size W W') : Got K o W' b cs en := by
  rcases h with ⟨a, h1, h2, hG⟩ | h
  · exact Or.inl ⟨a, h1, h2, hK.below hG hb⟩
  · exact Or.inr h
theorem Got.en {α : Type} {K : Kd α} {o : Option α} {W W' : World} {b b' : Nat} {cs cs' : List Value} {en en' : Int} (h : Got K o W b cs en) (h' : Got K o W' b' cs' en') : en' = en := by
  rcases h with ⟨a, h1, h2, _⟩ | ⟨h1, h2, _⟩
  · rcases h' with ⟨a', _, h3, _⟩ | ⟨h3, _, _⟩
    · rw [h2, h3]
    · rw [h1] at h3; cases h3
  · rcases h' with ⟨a', h3, _, _⟩ | ⟨_, h3, _⟩
    · rw [h1] at h3; cases h3
    · rw [h2, h3]
theorem reads_nil (W : World) : Reads W nilV [] := (OwnB.nil W 0).reads
theorem readsD_nil (W : World) : ReadsD W nilV [] := (OwnD.nil W 0).readsD
/-- the bytes, and what was ahead -/
structure LS (w : World) (vb : Value) (l : List (BitVec 8)) (W : World) : Prop where
  rd : Reads W vb l
  bel : Below w.heap.size w W
theorem LS.next {w W W' : World} {vb : Value} {l : List (BitVec 8)} (h : LS w vb l W) (hb : Below W.heap.size W W') : LS w vb l W' := ⟨h.rd.below hb, h.bel.trans (hb.mono h.bel.size)⟩
theorem gotSameBinding {o : Option _} {W : World} {b b' : Nat} {cs cs' : List Value} {en en' : Int} (h : Got bindK o W b cs en) (h' : Got bindK o W b' cs' en') : Calls Try.prog 25 #[.agg cs.toArray, .agg cs'.toArray] W fun e w' => e = .returned (.bool true) ∧ Below W.heap.size W w' := by
  rcases h with ⟨a, hs, _, hG⟩ | ⟨hs, _, rfl⟩
  · rcases h' with ⟨a', hs', _, hG'⟩ | ⟨hs', _, _⟩
    · rw [hs] at hs'
      cases hs'
      obtain ⟨vk, rfl, h1, _⟩ := hG
      obtain ⟨vk2, rfl, h2, _⟩ := hG'
      have hh := sameBinding_any a.1 a.1 a.2.1 a.2.1 _ _ a.2.2 a.2.2 W h1.reads h2.reads
      rwa [decide_eq_true (by simp)] at hh
    · rw [hs] at hs'; cases hs'
  · rcases h' with ⟨a', hs', _, hG'⟩ | ⟨_, _, rfl⟩
    · rw [hs] at hs'; cases hs'
    · have hh := sameBinding_any [] [] [] [] nilV nilV 0 0 W (reads_nil W) (reads_nil W)
      rwa [decide_eq_true (by simp)] at hh
theorem gotSameRequest {o : Option _} {W : World} {b b' : Nat} {cs cs' : List Value} {en en' : Int} (h : Got reqK o W b cs en) (h' : Got reqK o W b' cs' en') : Calls Try.prog 28 #[.agg cs.toArray, .agg cs'.toArray] W fun e w' => e = .returned (.bool true) ∧ Below W.heap.size W w' := by
  rcases h with ⟨a, hs, _, hG⟩ | ⟨hs, _, rfl⟩
  · rcases h' with ⟨a', hs', _, hG'⟩ | ⟨hs', _, _⟩
    · rw [hs] at hs'
      cases hs'
      obtain ⟨vk, rfl, h1, hx, _⟩ := hG
      obtain ⟨vk2, rfl, h2, _⟩ := hG'
      have hh := sameReq_any (a.1 : Int) (a.1 : Int) a.2.1 a.2.1 a.2.2.1 a.2.2.1 a.2.2.2 a.2.2.2 _ _ W hx hx h1.reads h2.reads
      rwa [decide_eq_true (by simp)] at hh
    · rw [hs] at hs'; cases hs'
  · rcases h' with ⟨a', hs', _, hG'⟩ | ⟨_, _, rfl⟩
    · rw [hs] at hs'; cases hs'
    · have hh := sameReq_any 0 0 [] [] [] [] zb32 zb32 nilV nilV W len0 len0 (reads_nil W) (reads_nil W)
      rwa [decide_eq_true (by simp)] at hh
theorem gotSameSigned {o : Option _} {W : World} {b b' : Nat} {cs cs' : List Value} {en en' : Int} (h : Got sgnK o W b cs en) (h' : Got sgnK o W b' cs' en') : Calls Try.prog 31 #[.agg cs.toArray, .agg cs'.toArray] W fun e w' => e = .returned (.bool true) ∧ Below W.heap.size W w' := by
  rcases h with ⟨a, hs, _, hG⟩ | ⟨hs, _, rfl⟩
  · rcases h' with ⟨a', hs', _, hG'⟩ | ⟨hs', _, _⟩
    · rw [hs] at hs'
      cases hs'
      obtain ⟨vk, rfl, h1, hx, hy, hz, _⟩ := hG
      obtain ⟨vk2, rfl, h2, _⟩ := hG'
      have hh := sameSgn_any a.1 a.1 a.2.1 a.2.2.1 a.2.2.2.1 a.2.1 a.2.2.1 a.2.2.2.1 a.2.2.2.2 a.2.2.2.2 _ _ W ⟨hx, hy, hz⟩ ⟨hx, hy, hz⟩ h1.reads h2.reads
      rwa [decide_eq_true (by simp)] at hh
    · rw [hs] at hs'; cases hs'
  · rcases h' with ⟨a', hs', _, hG'⟩ | ⟨_, _, rfl⟩
    · rw [hs] at hs'; cases hs'
    · have hh := sameSgn_any 0 0 zb32 zb32 zb32 zb32 zb32 zb32 [] [] nilV nilV W ⟨len0, len0, len0⟩ ⟨len0, len0, len0⟩ (reads_nil W) (reads_nil W)
      rwa [decide_eq_true (by simp)] at hh
theorem gotSameProof {o : Option _} {W : World} {b b' : Nat} {cs cs' : List Value} {en en' : Int} (h : Got prfK o W b cs en) (h' : Got prfK o W b' cs' en') : Calls Try.prog 34 #[.agg cs.toArray, .agg cs'.toArray] W fun e w' => e = .returned (.bool true) ∧ Below W.heap.size W w' := by
  rcases h with ⟨a, hs, _, hG⟩ | ⟨hs, _, rfl⟩
  · rcases h' with ⟨a', hs', _, hG'⟩ | ⟨hs', _, _⟩
    · rw [hs] at hs'
      cases hs'
      obtain ⟨vk, rfl, h1, hx, hy, _, hd⟩ := hG
      obtain ⟨vk2, rfl, h2, _⟩ := hG'
      have hh := samePrf_any a.2.1 a.2.1 (a.2.2.1 : Int) (a.2.2.1 : Int) a.2.2.2.1 a.2.2.2.2 a.2.2.2.1 a.2.2.2.2 _ _ W ⟨hx, hy⟩ ⟨hx, hy⟩ h1.readsD h2.readsD (by omega)
      rwa [decide_eq_true (by simp)] at hh
    · rw [hs] at hs'; cases hs'
  · rcases h' with ⟨a', hs', _, hG'⟩ | ⟨_, _, rfl⟩
    · rw [hs] at hs'; cases hs'
    · have hh := samePrf_any [] [] 0 0 zb32 zb32 zb32 zb32 nilV nilV W ⟨len0, len0⟩ ⟨len0, len0⟩ (readsD_nil W) (readsD_nil W) (by decide)
      rwa [decide_eq_true (by simp)] at hh
set_option maxRecDepth 100000 in
set_option maxHeartbeats 8000000 in
theorem reads_law (vb : Value) (l : List (BitVec 8)) (w : World) (hb : Reads w vb l) (hl : l.length ≤ 9223372036854775807) :
    Calls Try.prog 5 #[vb] w fun e w' => e = .returned (.bool true) ∧ Below w.heap.size w w' := by
  have HL : Hid (l.length ≤ 9223372036854775807) := hl
  have HS : Hid (LS w vb l w) := ⟨hb, Below.refl _ _⟩
  clear hb hl
  go_enter Try.func5, Try.ntmps5
  go_wp2_with fail
  refine (rdBinding_any readBinding_one bindS_nil vb l w HS.out.rd).mono ?_
  intro e a0 hres
  obtain ⟨cs1, en, rfl, hg, hb1⟩ := got_of hres
  replace HS : Hid (LS w vb l a0) := HS.out.next hb1
  obtain ⟨bb1, HBB⟩ : ∃ x, Hid (x = w.heap.size) := ⟨_, rfl⟩
  rw [← HBB.out] at hg
  have HGT1 : Hid (Got bindK (whole (bindS l)) a0 bb1 cs1 en) := hg
  have HI1 : Hid ((Try.prog.info? 25).map (·.size) = some cs1.length) := hg.info bindK_ok
  have H11 : Hid (cs1.toArray.all (·.oneCell') = true) := hg.one bindK_ok
  have HLN1 : Hid (cs1.length = bindK.z.length) := hg.len bindK_ok
  clear hg hb1 hres HBB
  go_wp2_with (first
    | (with_reducible refine wpSeq_allocK allocBinding ?_ ?_ ?_
       · rfl
       · rfl
       skip)
    | (with_reducible refine wpList_store_mid ?_ 25 (.tmp 3) (.tmp 16) ?_ a0.heap.size 0 cs1.toArray ?_ ?_ ((Blk.new a0 bindK.z 25).there 0 _ (by rw [List.size_toArray, HLN1.out]; omega)) (by rw [List.size_toArray]; exact HI1.out) H11.out ?_
       · rfl
       · rfl
       · rfl
       · rfl
       change wpList _ _ _ _ _ ((a0.alloc (.cells bindK.z.toArray 25)).setCells a0.heap.size 0 cs1)
       have HGA1 : Hid (Blk ((a0.alloc (.cells bindK.z.toArray 25)).setCells a0.heap.size 0 cs1) a0.heap.size cs1 25) := (Blk.new a0 bindK.z 25).whole cs1 HLN1.out
       have HBX : Hid (Below a0.heap.size a0 ((a0.alloc (.cells bindK.z.toArray 25)).setCells a0.heap.size 0 cs1)) := Below.setCells _ (Nat.le_refl _) _ _ _ (below_alloc _ _)
       replace HGT1 : Hid (Got bindK (whole (bindS l)) ((a0.alloc (.cells bindK.z.toArray 25)).setCells a0.heap.size 0 cs1) bb1 cs1 en) := HGT1.out.next bindK_ok HBX.out
       replace HS : Hid (LS w vb l ((a0.alloc (.cells bindK.z.toArray 25)).setCells a0.heap.size 0 cs1)) := HS.out.next HBX.out
       clear HBX
       generalize (a0.alloc (.cells bindK.z.toArray 25)).setCells a0.heap.size 0 cs1 = x1Binding at *
       generalize a0.heap.size = g1 at *))
  refine (rfRdBinding_any vb l x1Binding HS.out.rd HL.out).mono ?_
  intro e b0 hres
  obtain ⟨cs2, en2, rfl, hg, hb1⟩ := got_of hres
  obtain rfl := HGT1.out.en hg
  replace HS : Hid (LS w vb l b0) := HS.out.next hb1
  replace HGT1 : Hid (Got bindK (whole (bindS l)) b0 bb1 cs1 en2) := HGT1.out.next bindK_ok hb1
  replace HGA1 : Hid (Blk b0 g1 cs1 25) := HGA1.out.below hb1 HGA1.out.lt
  obtain ⟨bb2, HBB⟩ : ∃ x, Hid (x = x1Binding.heap.size) := ⟨_, rfl⟩
  rw [← HBB.out] at hg
  have HGT2 : Hid (Got bindK (whole (bindS l)) b0 bb2 cs2 en2) := hg
  have HI2 : Hid ((Try.prog.info? 25).map (·.size) = some cs2.length) := hg.info bindK_ok
  have H12 : Hid (cs2.toArray.all (·.oneCell') = true) := hg.one bindK_ok
  have HLN2 : Hid (cs2.length = bindK.z.length) := hg.len bindK_ok
  clear hg hb1 hres HBB
  go_wp2_with (first
    | (with_reducible refine wpSeq_allocK allocBinding ?_ ?_ ?_
       · rfl
       · rfl
       skip)
    | (with_reducible refine wpList_store_mid ?_ 25 (.tmp 5) (.tmp 21) ?_ b0.heap.size 0 cs2.toArray ?_ ?_ ((Blk.new b0 bindK.z 25).there 0 _ (by rw [List.size_toArray, HLN2.out]; omega)) (by rw [List.size_toArray]; exact HI2.out) H12.out ?_
       · rfl
       · rfl
       · rfl
       · rfl
       change wpList _ _ _ _ _ ((b0.alloc (.cells bindK.z.toArray 25)).setCells b0.heap.size 0 cs2)
       have HGA2 : Hid (Blk ((b0.alloc (.cells bindK.z.toArray 25)).setCells b0.heap.size 0 cs2) b0.heap.size cs2 25) := (Blk.new b0 bindK.z 25).whole cs2 HLN2.out
       have HBX : Hid (Below b0.heap.size b0 ((b0.alloc (.cells bindK.z.toArray 25)).setCells b0.heap.size 0 cs2)) := Below.setCells _ (Nat.le_refl _) _ _ _ (below_alloc _ _)
       replace HGT1 : Hid (Got bindK (whole (bindS l)) ((b0.alloc (.cells bindK.z.toArray 25)).setCells b0.heap.size 0 cs2) bb1 cs1 en2) := HGT1.out.next bindK_ok HBX.out
       replace HGT2 : Hid (Got bindK (whole (bindS l)) ((b0.alloc (.cells bindK.z.toArray 25)).setCells b0.heap.size 0 cs2) bb2 cs2 en2) := HGT2.out.next bindK_ok HBX.out
       replace HGA1 : Hid (Blk ((b0.alloc (.cells bindK.z.toArray 25)).setCells b0.heap.size 0 cs2) g1 cs1 25) := HGA1.out.below HBX.out HGA1.out.lt
       replace HS : Hid (LS w vb l ((b0.alloc (.cells bindK.z.toArray 25)).setCells b0.heap.size 0 cs2)) := HS.out.next HBX.out
       clear HBX
       generalize (b0.alloc (.cells bindK.z.toArray 25)).setCells b0.heap.size 0 cs2 = x2Binding at *
       generalize b0.heap.size = g2 at *)
    | (with_reducible refine wpSeq_loadK 25 (.tmp 3) ?_ ?_ g1 ?_ cs1 _ HGA1.out Try.underlying25 ?_ HI1.out ?_
       · with_reducible rfl
       · rfl
       · rfl
       · rfl)
    | (with_reducible refine wpSeq_loadK 25 (.tmp 5) ?_ ?_ g2 ?_ cs2 _ HGA2.out Try.underlying25 ?_ HI2.out ?_
       · with_reducible rfl
       · rfl
       · rfl
       · rfl))
  refine (gotSameBinding HGT1.out HGT2.out).mono ?_
  rintro e c0 ⟨rfl, hb1⟩
  replace HS : Hid (LS w vb l c0) := HS.out.next hb1
  clear hb1 HGT1 HGT2 HGA1 HGA2 HI1 HI2 H11 H12 HLN1 HLN2
  go_wp2_with fail
  refine (rdRequest_any readRequest_one reqS_nil vb l c0 HS.out.rd).mono ?_
  intro e a1 hres
  obtain ⟨cs1, en, rfl, hg, hb1⟩ := got_of hres
  replace HS : Hid (LS w vb l a1) := HS.out.next hb1
  obtain ⟨bb1, HBB⟩ : ∃ x, Hid (x = c0.heap.size) := ⟨_, rfl⟩
  rw [← HBB.out] at hg
  have HGT1 : Hid (Got reqK (whole (reqS l)) a1 bb1 cs1 en) := hg
  have HI1 : Hid ((Try.prog.info? 38).map (·.size) = some cs1.length) := hg.info reqK_ok
  have H11 : Hid (cs1.toArray.all (·.oneCell') = true) := hg.one reqK_ok
  have HLN1 : Hid (cs1.length = reqK.z.length) := hg.len reqK_ok
  clear hg hb1 hres HBB
  go_wp2_with (first
    | (with_reducible refine wpSeq_allocK allocRequest ?_ ?_ ?_
       · rfl
       · rfl
       skip)
    | (with_reducible refine wpList_store_mid ?_ 38 (.tmp 7) (.tmp 35) ?_ a1.heap.size 0 cs1.toArray ?_ ?_ ((Blk.new a1 reqK.z 38).there 0 _ (by rw [List.size_toArray, HLN1.out]; omega)) (by rw [List.size_toArray]; exact HI1.out) H11.out ?_
       · rfl
       · rfl
       · rfl
       · rfl
       change wpList _ _ _ _ _ ((a1.alloc (.cells reqK.z.toArray 38)).setCells a1.heap.size 0 cs1)
       have HGA1 : Hid (Blk ((a1.alloc (.cells reqK.z.toArray 38)).setCells a1.heap.size 0 cs1) a1.heap.size cs1 38) := (Blk.new a1 reqK.z 38).whole cs1 HLN1.out
       have HBX : Hid (Below a1.heap.size a1 ((a1.alloc (.cells reqK.z.toArray 38)).setCells a1.heap.size 0 cs1)) := Below.setCells _ (Nat.le_refl _) _ _ _ (below_alloc _ _)
       replace HGT1 : Hid (Got reqK (whole (reqS l)) ((a1.alloc (.cells reqK.z.toArray 38)).setCells a1.heap.size 0 cs1) bb1 cs1 en) := HGT1.out.next reqK_ok HBX.out
       replace HS : Hid (LS w vb l ((a1.alloc (.cells reqK.z.toArray 38)).setCells a1.heap.size 0 cs1)) := HS.out.next HBX.out
       clear HBX
       generalize (a1.alloc (.cells reqK.z.toArray 38)).setCells a1.heap.size 0 cs1 = x1Request at *
       generalize a1.heap.size = g1 at *))
  refine (rfRdRequest_any vb l x1Request HS.out.rd HL.out).mono ?_
  intro e b1 hres
  obtain ⟨cs2, en2, rfl, hg, hb1⟩ := got_of hres
  obtain rfl := HGT1.out.en hg
  replace HS : Hid (LS w vb l b1) := HS.out.next hb1
  replace HGT1 : Hid (Got reqK (whole (reqS l)) b1 bb1 cs1 en2) := HGT1.out.next reqK_ok hb1
  replace HGA1 : Hid (Blk b1 g1 cs1 38) := HGA1.out.below hb1 HGA1.out.lt
  obtain ⟨bb2, HBB⟩ : ∃ x, Hid (x = x1Request.heap.size) := ⟨_, rfl⟩
  rw [← HBB.out] at hg
  have HGT2 : Hid (Got reqK (whole (reqS l)) b1 bb2 cs2 en2) := hg
  have HI2 : Hid ((Try.prog.info? 38).map (·.size) = some cs2.length) := hg.info reqK_ok
  have H12 : Hid (cs2.toArray.all (·.oneCell') = true) := hg.one reqK_ok
  have HLN2 : Hid (cs2.length = reqK.z.length) := hg.len reqK_ok
  clear hg hb1 hres HBB
  go_wp2_with (first
    | (with_reducible refine wpSeq_allocK allocRequest ?_ ?_ ?_
       · rfl
       · rfl
       skip)
    | (with_reducible refine wpList_store_mid ?_ 38 (.tmp 8) (.tmp 40) ?_ b1.heap.size 0 cs2.toArray ?_ ?_ ((Blk.new b1 reqK.z 38).there 0 _ (by rw [List.size_toArray, HLN2.out]; omega)) (by rw [List.size_toArray]; exact HI2.out) H12.out ?_
       · rfl
       · rfl
       · rfl
       · rfl
       change wpList _ _ _ _ _ ((b1.alloc (.cells reqK.z.toArray 38)).setCells b1.heap.size 0 cs2)
       have HGA2 : Hid (Blk ((b1.alloc (.cells reqK.z.toArray 38)).setCells b1.heap.size 0 cs2) b1.heap.size cs2 38) := (Blk.new b1 reqK.z 38).whole cs2 HLN2.out
       have HBX : Hid (Below b1.heap.size b1 ((b1.alloc (.cells reqK.z.toArray 38)).setCells b1.heap.size 0 cs2)) := Below.setCells _ (Nat.le_refl _) _ _ _ (below_alloc _ _)
       replace HGT1 : Hid (Got reqK (whole (reqS l)) ((b1.alloc (.cells reqK.z.toArray 38)).setCells b1.heap.size 0 cs2) bb1 cs1 en2) := HGT1.out.next reqK_ok HBX.out
       replace HGT2 : Hid (Got reqK (whole (reqS l)) ((b1.alloc (.cells reqK.z.toArray 38)).setCells b1.heap.size 0 cs2) bb2 cs2 en2) := HGT2.out.next reqK_ok HBX.out
       replace HGA1 : Hid (Blk ((b1.alloc (.cells reqK.z.toArray 38)).setCells b1.heap.size 0 cs2) g1 cs1 38) := HGA1.out.below HBX.out HGA1.out.lt
       replace HS : Hid (LS w vb l ((b1.alloc (.cells reqK.z.toArray 38)).setCells b1.heap.size 0 cs2)) := HS.out.next HBX.out
       clear HBX
       generalize (b1.alloc (.cells reqK.z.toArray 38)).setCells b1.heap.size 0 cs2 = x2Request at *
       generalize b1.heap.size = g2 at *)
    | (with_reducible refine wpSeq_loadK 38 (.tmp 7) ?_ ?_ g1 ?_ cs1 _ HGA1.out Try.underlying38 ?_ HI1.out ?_
       · with_reducible rfl
       · rfl
       · rfl
       · rfl)
    | (with_reducible refine wpSeq_loadK 38 (.tmp 8) ?_ ?_ g2 ?_ cs2 _ HGA2.out Try.underlying38 ?_ HI2.out ?_
       · with_reducible rfl
       · rfl
       · rfl
       · rfl))
  refine (gotSameRequest HGT1.out HGT2.out).mono ?_
  rintro e c1 ⟨rfl, hb1⟩
  replace HS : Hid (LS w vb l c1) := HS.out.next hb1
  clear hb1 HGT1 HGT2 HGA1 HGA2 HI1 HI2 H11 H12 HLN1 HLN2
  go_wp2_with fail
  refine (rdSigned_any readSigned_one signedR_nil vb l c1 HS.out.rd).mono ?_
  intro e a2 hres
  obtain ⟨cs1, en, rfl, hg, hb1⟩ := got_of hres
  replace HS : Hid (LS w vb l a2) := HS.out.next hb1
  obtain ⟨bb1, HBB⟩ : ∃ x, Hid (x = c1.heap.size) := ⟨_, rfl⟩
  rw [← HBB.out] at hg
  have HGT1 : Hid (Got sgnK (whole (signedR l)) a2 bb1 cs1 en) := hg
  have HI1 : Hid ((Try.prog.info? 42).map (·.size) = some cs1.length) := hg.info sgnK_ok
  have H11 : Hid (cs1.toArray.all (·.oneCell') = true) := hg.one sgnK_ok
  have HLN1 : Hid (cs1.length = sgnK.z.length) := hg.len sgnK_ok
  clear hg hb1 hres HBB
  go_wp2_with (first
    | (with_reducible refine wpSeq_allocK allocSigned ?_ ?_ ?_
       · rfl
       · rfl
       skip)
    | (with_reducible refine wpList_store_mid ?_ 42 (.tmp 9) (.tmp 54) ?_ a2.heap.size 0 cs1.toArray ?_ ?_ ((Blk.new a2 sgnK.z 42).there 0 _ (by rw [List.size_toArray, HLN1.out]; omega)) (by rw [List.size_toArray]; exact HI1.out) H11.out ?_
       · rfl
       · rfl
       · rfl
       · rfl
       change wpList _ _ _ _ _ ((a2.alloc (.cells sgnK.z.toArray 42)).setCells a2.heap.size 0 cs1)
       have HGA1 : Hid (Blk ((a2.alloc (.cells sgnK.z.toArray 42)).setCells a2.heap.size 0 cs1) a2.heap.size cs1 42) := (Blk.new a2 sgnK.z 42).whole cs1 HLN1.out
       have HBX : Hid (Below a2.heap.size a2 ((a2.alloc (.cells sgnK.z.toArray 42)).setCells a2.heap.size 0 cs1)) := Below.setCells _ (Nat.le_refl _) _ _ _ (below_alloc _ _)
       replace HGT1 : Hid (Got sgnK (whole (signedR l)) ((a2.alloc (.cells sgnK.z.toArray 42)).setCells a2.heap.size 0 cs1) bb1 cs1 en) := HGT1.out.next sgnK_ok HBX.out
       replace HS : Hid (LS w vb l ((a2.alloc (.cells sgnK.z.toArray 42)).setCells a2.heap.size 0 cs1)) := HS.out.next HBX.out
       clear HBX
       generalize (a2.alloc (.cells sgnK.z.toArray 42)).setCells a2.heap.size 0 cs1 = x1Signed at *
       generalize a2.heap.size = g1 at *))
  refine (rfRdSigned_any vb l x1Signed HS.out.rd HL.out).mono ?_
  intro e b2 hres
  obtain ⟨cs2, en2, rfl, hg, hb1⟩ := got_of hres
  obtain rfl := HGT1.out.en hg
  replace HS : Hid (LS w vb l b2) := HS.out.next hb1
  replace HGT1 : Hid (Got sgnK (whole (signedR l)) b2 bb1 cs1 en2) := HGT1.out.next sgnK_ok hb1
  replace HGA1 : Hid (Blk b2 g1 cs1 42) := HGA1.out.below hb1 HGA1.out.lt
  obtain ⟨bb2, HBB⟩ : ∃ x, Hid (x = x1Signed.heap.size) := ⟨_, rfl⟩
  rw [← HBB.out] at hg
  have HGT2 : Hid (Got sgnK (whole (signedR l)) b2 bb2 cs2 en2) := hg
  have HI2 : Hid ((Try.prog.info? 42).map (·.size) = some cs2.length) := hg.info sgnK_ok
  have H12 : Hid (cs2.toArray.all (·.oneCell') = true) := hg.one sgnK_ok
  have HLN2 : Hid (cs2.length = sgnK.z.length) := hg.len sgnK_ok
  clear hg hb1 hres HBB
  go_wp2_with (first
    | (with_reducible refine wpSeq_allocK allocSigned ?_ ?_ ?_
       · rfl
       · rfl
       skip)
    | (with_reducible refine wpList_store_mid ?_ 42 (.tmp 10) (.tmp 59) ?_ b2.heap.size 0 cs2.toArray ?_ ?_ ((Blk.new b2 sgnK.z 42).there 0 _ (by rw [List.size_toArray, HLN2.out]; omega)) (by rw [List.size_toArray]; exact HI2.out) H12.out ?_
       · rfl
       · rfl
       · rfl
       · rfl
       change wpList _ _ _ _ _ ((b2.alloc (.cells sgnK.z.toArray 42)).setCells b2.heap.size 0 cs2)
       have HGA2 : Hid (Blk ((b2.alloc (.cells sgnK.z.toArray 42)).setCells b2.heap.size 0 cs2) b2.heap.size cs2 42) := (Blk.new b2 sgnK.z 42).whole cs2 HLN2.out
       have HBX : Hid (Below b2.heap.size b2 ((b2.alloc (.cells sgnK.z.toArray 42)).setCells b2.heap.size 0 cs2)) := Below.setCells _ (Nat.le_refl _) _ _ _ (below_alloc _ _)
       replace HGT1 : Hid (Got sgnK (whole (signedR l)) ((b2.alloc (.cells sgnK.z.toArray 42)).setCells b2.heap.size 0 cs2) bb1 cs1 en2) := HGT1.out.next sgnK_ok HBX.out
       replace HGT2 : Hid (Got sgnK (whole (signedR l)) ((b2.alloc (.cells sgnK.z.toArray 42)).setCells b2.heap.size 0 cs2) bb2 cs2 en2) := HGT2.out.next sgnK_ok HBX.out
       replace HGA1 : Hid (Blk ((b2.alloc (.cells sgnK.z.toArray 42)).setCells b2.heap.size 0 cs2) g1 cs1 42) := HGA1.out.below HBX.out HGA1.out.lt
       replace HS : Hid (LS w vb l ((b2.alloc (.cells sgnK.z.toArray 42)).setCells b2.heap.size 0 cs2)) := HS.out.next HBX.out
       clear HBX
       generalize (b2.alloc (.cells sgnK.z.toArray 42)).setCells b2.heap.size 0 cs2 = x2Signed at *
       generalize b2.heap.size = g2 at *)
    | (with_reducible refine wpSeq_loadK 42 (.tmp 9) ?_ ?_ g1 ?_ cs1 _ HGA1.out Try.underlying42 ?_ HI1.out ?_
       · with_reducible rfl
       · rfl
       · rfl
       · rfl)
    | (with_reducible refine wpSeq_loadK 42 (.tmp 10) ?_ ?_ g2 ?_ cs2 _ HGA2.out Try.underlying42 ?_ HI2.out ?_
       · with_reducible rfl
       · rfl
       · rfl
       · rfl))
  refine (gotSameSigned HGT1.out HGT2.out).mono ?_
  rintro e c2 ⟨rfl, hb1⟩
  replace HS : Hid (LS w vb l c2) := HS.out.next hb1
  clear hb1 HGT1 HGT2 HGA1 HGA2 HI1 HI2 H11 H12 HLN1 HLN2
  go_wp2_with fail
  refine (rdProof_any readProof_one proofR_nil vb l c2 HS.out.rd).mono ?_
  intro e a3 hres
  obtain ⟨cs1, en, rfl, hg, hb1⟩ := got_of hres
  replace HS : Hid (LS w vb l a3) := HS.out.next hb1
  obtain ⟨bb1, HBB⟩ : ∃ x, Hid (x = c2.heap.size) := ⟨_, rfl⟩
  rw [← HBB.out] at hg
  have HGT1 : Hid (Got prfK (whole (proofR l)) a3 bb1 cs1 en) := hg
  have HI1 : Hid ((Try.prog.info? 30).map (·.size) = some cs1.length) := hg.info prfK_ok
  have H11 : Hid (cs1.toArray.all (·.oneCell') = true) := hg.one prfK_ok
  have HLN1 : Hid (cs1.length = prfK.z.length) := hg.len prfK_ok
  clear hg hb1 hres HBB
  go_wp2_with (first
    | (with_reducible refine wpSeq_allocK allocProof ?_ ?_ ?_
       · rfl
       · rfl
       skip)
    | (with_reducible refine wpList_store_mid ?_ 30 (.tmp 11) (.tmp 73) ?_ a3.heap.size 0 cs1.toArray ?_ ?_ ((Blk.new a3 prfK.z 30).there 0 _ (by rw [List.size_toArray, HLN1.out]; omega)) (by rw [List.size_toArray]; exact HI1.out) H11.out ?_
       · rfl
       · rfl
       · rfl
       · rfl
       change wpList _ _ _ _ _ ((a3.alloc (.cells prfK.z.toArray 30)).setCells a3.heap.size 0 cs1)
       have HGA1 : Hid (Blk ((a3.alloc (.cells prfK.z.toArray 30)).setCells a3.heap.size 0 cs1) a3.heap.size cs1 30) := (Blk.new a3 prfK.z 30).whole cs1 HLN1.out
       have HBX : Hid (Below a3.heap.size a3 ((a3.alloc (.cells prfK.z.toArray 30)).setCells a3.heap.size 0 cs1)) := Below.setCells _ (Nat.le_refl _) _ _ _ (below_alloc _ _)
       replace HGT1 : Hid (Got prfK (whole (proofR l)) ((a3.alloc (.cells prfK.z.toArray 30)).setCells a3.heap.size 0 cs1) bb1 cs1 en) := HGT1.out.next prfK_ok HBX.out
       replace HS : Hid (LS w vb l ((a3.alloc (.cells prfK.z.toArray 30)).setCells a3.heap.size 0 cs1)) := HS.out.next HBX.out
       clear HBX
       generalize (a3.alloc (.cells prfK.z.toArray 30)).setCells a3.heap.size 0 cs1 = x1Proof at *
       generalize a3.heap.size = g1 at *))
  refine (rfRdProof_any vb l x1Proof HS.out.rd HL.out).mono ?_
  intro e b3 hres
  obtain ⟨cs2, en2, rfl, hg, hb1⟩ := got_of hres
  obtain rfl := HGT1.out.en hg
  replace HS : Hid (LS w vb l b3) := HS.out.next hb1
  replace HGT1 : Hid (Got prfK (whole (proofR l)) b3 bb1 cs1 en2) := HGT1.out.next prfK_ok hb1
  replace HGA1 : Hid (Blk b3 g1 cs1 30) := HGA1.out.below hb1 HGA1.out.lt
  obtain ⟨bb2, HBB⟩ : ∃ x, Hid (x = x1Proof.heap.size) := ⟨_, rfl⟩
  rw [← HBB.out] at hg
  have HGT2 : Hid (Got prfK (whole (proofR l)) b3 bb2 cs2 en2) := hg
  have HI2 : Hid ((Try.prog.info? 30).map (·.size) = some cs2.length) := hg.info prfK_ok
  have H12 : Hid (cs2.toArray.all (·.oneCell') = true) := hg.one prfK_ok
  have HLN2 : Hid (cs2.length = prfK.z.length) := hg.len prfK_ok
  clear hg hb1 hres HBB
  go_wp2_with (first
    | (with_reducible refine wpSeq_allocK allocProof ?_ ?_ ?_
       · rfl
       · rfl
       skip)
    | (with_reducible refine wpList_store_mid ?_ 30 (.tmp 12) (.tmp 78) ?_ b3.heap.size 0 cs2.toArray ?_ ?_ ((Blk.new b3 prfK.z 30).there 0 _ (by rw [List.size_toArray, HLN2.out]; omega)) (by rw [List.size_toArray]; exact HI2.out) H12.out ?_
       · rfl
       · rfl
       · rfl
       · rfl
       change wpList _ _ _ _ _ ((b3.alloc (.cells prfK.z.toArray 30)).setCells b3.heap.size 0 cs2)
       have HGA2 : Hid (Blk ((b3.alloc (.cells prfK.z.toArray 30)).setCells b3.heap.size 0 cs2) b3.heap.size cs2 30) := (Blk.new b3 prfK.z 30).whole cs2 HLN2.out
       have HBX : Hid (Below b3.heap.size b3 ((b3.alloc (.cells prfK.z.toArray 30)).setCells b3.heap.size 0 cs2)) := Below.setCells _ (Nat.le_refl _) _ _ _ (below_alloc _ _)
       replace HGT1 : Hid (Got prfK (whole (proofR l)) ((b3.alloc (.cells prfK.z.toArray 30)).setCells b3.heap.size 0 cs2) bb1 cs1 en2) := HGT1.out.next prfK_ok HBX.out
       replace HGT2 : Hid (Got prfK (whole (proofR l)) ((b3.alloc (.cells prfK.z.toArray 30)).setCells b3.heap.size 0 cs2) bb2 cs2 en2) := HGT2.out.next prfK_ok HBX.out
       replace HGA1 : Hid (Blk ((b3.alloc (.cells prfK.z.toArray 30)).setCells b3.heap.size 0 cs2) g1 cs1 30) := HGA1.out.below HBX.out HGA1.out.lt
       replace HS : Hid (LS w vb l ((b3.alloc (.cells prfK.z.toArray 30)).setCells b3.heap.size 0 cs2)) := HS.out.next HBX.out
       clear HBX
       generalize (b3.alloc (.cells prfK.z.toArray 30)).setCells b3.heap.size 0 cs2 = x2Proof at *
       generalize b3.heap.size = g2 at *)
    | (with_reducible refine wpSeq_loadK 30 (.tmp 11) ?_ ?_ g1 ?_ cs1 _ HGA1.out Try.underlying30 ?_ HI1.out ?_
       · with_reducible rfl
       · rfl
       · rfl
       · rfl)
    | (with_reducible refine wpSeq_loadK 30 (.tmp 12) ?_ ?_ g2 ?_ cs2 _ HGA2.out Try.underlying30 ?_ HI2.out ?_
       · with_reducible rfl
       · rfl
       · rfl
       · rfl))
  refine (gotSameProof HGT1.out HGT2.out).mono ?_
  rintro e c3 ⟨rfl, hb1⟩
  replace HS : Hid (LS w vb l c3) := HS.out.next hb1
  clear hb1 HGT1 HGT2 HGA1 HGA2 HI1 HI2 H11 H12 HLN1 HLN2
  go_wp2_with fail
  refine (rworks_any c3).mono ?_
  rintro e wz ⟨rfl, hb1⟩
  replace HS : Hid (LS w vb l wz) := HS.out.next hb1
  clear hb1
  go_wp2
  go_ret
  exact ⟨rfl, HS.out.bel⟩
end Go.Proofs.Ytldbcglakeggaaa

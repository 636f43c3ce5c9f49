/- The walk of slices.Insert at bytes, where what is put in lies in a block of its own: what stood ahead, what is put in, what stood behind. -/
import Derived.Test.YtldbcglakeggaaaNums
import Derived.Shelf.Spec.SlicesInsertGrow
namespace Go.Proofs.Ytldbcglakeggaaa
open Go.RowKit
theorem overlaps_no (w : World) (b vb x y m vc lb kb : Nat) (cs vs : List Value) (tA tB : TypeId) (hne : vb ≠ b) (hv : Blk w vb vs tA) (hb : Blk w b cs tB) (hc : cs ≠ []) :
    (callFunc 72 #[.slice (some ⟨vb, x, none⟩) m vc, .slice (some ⟨b, y, none⟩) lb kb]).run Try.prog w = .ok (.value (.bool false)) w := by
  have hz : ∀ w, (Go.sizeOf 5).run Try.prog w = .ok 1 w := fun w => by kernel_rfl
  have sa : w.shape? vb = some (tA, vs.length) := by have h := hv; unfold Blk at h; simp [World.shape?, h]
  have sb : w.shape? b = some (tB, cs.length) := by have h := hb; unfold Blk at h; simp [World.shape?, h]
  rw [run_callFunc_extern Try.func72 (by kernel_rfl) (by kernel_rfl) (by kernel_rfl) (e := Extern.SlicesOverlaps.overlaps #[22, 22] #[4]) (by kernel_rfl),
    Lib.run_overlaps_apart w 22 4 5 Try.underlying22 1 hz ⟨vb, x, none⟩ ⟨b, y, none⟩ m vc lb kb hne tA tB vs.length cs.length sa sb (by simpa using hc) (hv.frozen _) (hv.frozen _)]
  rfl
set_option maxHeartbeats 4000000 in
set_option maxRecDepth 100000 in
/-- there is room: in place -/
theorem ins_shift (b n c i vb m vc : Nat) (cs vs cur vcur : List Value) (w : World) (hi : i < n) (hm : 0 < m) (hroom : n + m ≤ c) (hc63 : c ≤ 9223372036854775807) (hvb : vb ≠ b)
    (hcl : cs.length = n) (hvl : vs.length = m) (hB : Blk w b cur 5) (hV : Blk w vb vcur 5) (hcap : cur.length = c) (hcs : cur.take n = cs) (hvs : vcur.take m = vs) (h1c : ∀ v ∈ cs, v.oneCell' = true) (h1v : ∀ v ∈ vs, v.oneCell' = true) :
    Calls Try.prog 59 #[.slice (some ⟨b, 0, none⟩) n c, .int .i64 i, .slice (some ⟨vb, 0, none⟩) m vc] w fun e w' =>
      e = .returned (.slice (some ⟨b, 0, none⟩) (n + m) c) ∧ w' = (w.drew.setCells b (i + m) (cs.drop i)).setCells b i vs := by
  have mixed : Try.prog.follows Departure.mixedOrders = true := by kernel_rfl
  have hz1 : ¬ ((m : Int) = 0) := by omega
  have hz2 : ¬ ((i : Int) = (n : Int)) := by omega
  have hsz : (Try.prog.info? 5).map (·.size) = some 1 := by kernel_rfl
  have hov : ∀ lb kb, (callFunc 72 #[.slice (some ⟨vb, 0, none⟩) m vc, .slice (some ⟨b, i + m, none⟩) lb kb]).run Try.prog w = .ok (.value (.bool false)) w := fun lb kb => overlaps_no w b vb 0 (i + m) m vc lb kb cur vcur _ _ hvb hV hB (by intro h; subst h; simp at hcap; omega)
  have hdl : (cs.drop i).length = n - i := by rw [List.length_drop, hcl]
  have hcc : ∀ j v, cs[j]? = some v → w.cell? ⟨b, j, none⟩ = some v := fun j v hj => by
    rw [hB.cell, ← hj, ← hcs, List.getElem?_take_of_lt (by have := (List.getElem?_eq_some_iff.1 hj).1; omega)]
  have hvv : ∀ j v, vs[j]? = some v → w.cell? ⟨vb, j, none⟩ = some v := fun j v hj => by
    rw [hV.cell, ← hj, ← hvs, List.getElem?_take_of_lt (by have := (List.getElem?_eq_some_iff.1 hj).1; omega)]
  have hsp : ∀ j, j < n + m → (w.cell? ⟨b, j, none⟩).isSome = true := fun j hj => by rw [hB.cell, List.getElem?_eq_getElem (by omega)]; rfl
  have hfz : ∀ j, w.frozen? ⟨b, j, none⟩ = false := fun j => hB.frozen j
  have hw1 : IntKind.i64.wrap ((i : Int) + (m : Int)) = (i : Int) + (m : Int) := by rw [IntKind.wrap_i64]; omega
  have hb1 : (0 : Int) ≤ (i : Int) + (m : Int) := by omega
  have hin : i ≤ n := by omega
  have htn : ((i : Int) + (m : Int)).toNat = i + m := by omega
  have hb2 : ¬ (c = i + m) := by omega
  have hb3 : (i : Int) ≤ (n : Int) + (m : Int) := by omega
  have hb4 : ¬ (c = i) := by omega
  have hcp1 : ∀ ty dc sc, (Builtin.copy_ #[22, 22] ty #[.slice (some ⟨b, i + m, none⟩) (n + m - (i + m)) dc, .slice (some ⟨b, i, none⟩) (n + m - i) sc]).run Try.prog w.drew = .ok (goInt (cs.drop i).length) (w.drew.setCells b (i + m) (cs.drop i)) := fun ty dc sc =>
    run_copy_cells w.drew _ _ ty 5 b (i + m) (n + m - (i + m)) dc ⟨b, i, none⟩ (n + m - i) sc (cs.drop i) Try.underlying22 hsz (by rw [hdl]; simp only [Nat.min_def]; split <;> omega)
      (fun j v hj => by rw [Addr.add_lit]; exact hcc (i + j) v (by rwa [List.getElem?_drop] at hj))
      (fun j hj => hsp _ (by omega)) (fun j hj => hfz _) (fun v hv => h1c v (List.mem_of_mem_drop hv))
  obtain ⟨W1, hW1⟩ : ∃ W1, W1 = w.drew.setCells b (i + m) (cs.drop i) := ⟨_, rfl⟩
  have hsp1 : ∀ k, k < n + m → (W1.cell? ⟨b, k, none⟩).isSome = true := fun k hk => by
    rw [hW1]
    exact isSome_setCells b (cs.drop i) (i + m) w.drew (fun j hj => hsp (i + m + j) (by omega)) k (hsp k hk)
  have hcp2 : ∀ (W : World), (∀ x, W.cell? x = W1.cell? x) → (∀ x, W.frozen? x = W1.frozen? x) → ∀ ty dc, (Builtin.copy_ #[22, 22] ty #[.slice (some ⟨b, i, none⟩) (n + m - i) dc, .slice (some ⟨vb, 0, none⟩) m vc]).run Try.prog W = .ok (goInt vs.length) (W.setCells b i vs) := fun W hWc hWf ty dc =>
    run_copy_cells W _ _ ty 5 b i (n + m - i) dc ⟨vb, 0, none⟩ m vc vs Try.underlying22 hsz (by rw [hvl]; simp only [Nat.min_def]; split <;> omega)
      (fun j v hj => by
        rw [Addr.add_lit, hWc, hW1, World.cell?_setCells_out b _ _ _ _ (fun h _ => absurd h hvb), Nat.zero_add]
        exact hvv j v hj)
      (fun j hj => by rw [hWc]; exact hsp1 _ (by omega)) (fun j hj => by rw [hWf, hW1, World.frozen?_setCells]; exact hfz _) h1v
  rw [← hW1] at hcp1
  clear hcs hvs
  go_enter Try.func59, Try.ntmps59
  go_wp2_with (simp only [hov])
  go_region_law_o (refine step_copy_runI rfl _ _ 22 22 rfl _ _ (by simp [Act.eval, Act.put]) (by simp [Act.eval, Act.put]) (hcp1 _ _ _) ?_)
  go_wp2_with (at_builtin; refine wpList_copy_runI _ rfl _ _ 22 22 rfl _ _ rfl rfl (hcp2 _ (fun _ => rfl) (fun _ => rfl) _ _) ?_)
  go_ret
  first | exact ⟨rfl, rfl⟩ | exact ⟨rfl, by rw [hW1]⟩
set_option maxHeartbeats 4000000 in
set_option maxRecDepth 100000 in
/-- there is no room: a new row -/
theorem ins_grow (b n c i vb m vc : Nat) (cs vs cur vcur : List Value) (w : World) (hi : i < n) (hm : 0 < m) (hnc : n ≤ c) (hroom : c < n + m) (hbig : n + m ≤ 140737488355328)
    (hcl : cs.length = n) (hvl : vs.length = m) (hB : Blk w b cur 5) (hV : Blk w vb vcur 5) (hcs : cur.take n = cs) (hvs : vcur.take m = vs) (h1c : ∀ v ∈ cs, v.oneCell' = true) (h1v : ∀ v ∈ vs, v.oneCell' = true) :
    Calls Try.prog 59 #[.slice (some ⟨b, 0, none⟩) n c, .int .i64 i, .slice (some ⟨vb, 0, none⟩) m vc] w fun e w' =>
      ∃ (G : Nat) (row : List Value), e = .returned (.slice (some ⟨w.heap.size, 0, none⟩) (n + m) G) ∧ n + m ≤ G ∧ G ≤ maxLen ∧ row.length = G ∧ row.take i = cs.take i ∧
      w' = (((w.alloc (.cells row.toArray 5)).drew.setCells w.heap.size i vs).drew).setCells w.heap.size (i + m) (cs.drop i) := by
  have mixed : Try.prog.follows Departure.mixedOrders = true := by kernel_rfl
  obtain ⟨i0, hi0, hz0, hzs, hzb⟩ := info_parts Try.infob
  have hz1 : ¬ ((m : Int) = 0) := by omega
  have hz2 : ¬ ((i : Int) = (n : Int)) := by omega
  have hz3 : (c : Int) < (n : Int) + (m : Int) := by omega
  have hsz : (Try.prog.info? 5).map (·.size) = some 1 := by kernel_rfl
  have hcc : ∀ j v, cs[j]? = some v → w.cell? ⟨b, j, none⟩ = some v := fun j v hj => by
    rw [hB.cell, ← hj, ← hcs, List.getElem?_take_of_lt (by have := (List.getElem?_eq_some_iff.1 hj).1; omega)]
  have hvv : ∀ j v, vs[j]? = some v → w.cell? ⟨vb, j, none⟩ = some v := fun j v hj => by
    rw [hV.cell, ← hj, ← hvs, List.getElem?_take_of_lt (by have := (List.getElem?_eq_some_iff.1 hj).1; omega)]
  have hbw : b < w.heap.size := hB.lt
  have hvw : vb < w.heap.size := hV.lt
  have hkk : (n : Int) + (m : Int) - (i : Int) = ((n + m - i : Nat) : Int) := by omega
  have hik : i + (n + m - i) = n + m := by omega
  have hold : (Builtin.firstCells i0.size i (.slice (some ⟨b, 0, none⟩) i c)).run Try.prog w.drew = .ok (cs.take i).toArray w.drew := by
    rw [hzs]
    exact run_firstCells_some w.drew 1 i ⟨b, 0, none⟩ i c (cs.take i) (by rw [List.length_take]; omega) (fun j v hj => by
      rw [Addr.add_lit, Nat.zero_add]
      rw [List.getElem?_take] at hj
      split at hj
      · exact hcc j v hj
      · cases hj)
  have hrz : ∀ ty, (Builtin.append_ #[22, 3] ty #[.slice (some ⟨b, 0, none⟩) i c, .int .i64 ((n : Int) + (m : Int) - (i : Int))]).run Try.prog w =
      .ok (.slice (some ⟨w.heap.size, 0, none⟩) (n + m) (grownCap w (n + m) c 5)) (w.drew.alloc (.cells ((cs.take i).toArray ++ Builtin.zeroCells (Value.int .u8 0).cells (n + m - i) ++ Builtin.zeroCells (Value.int .u8 0).cells (grownCap w (n + m) c 5 - (n + m))) 5)) := fun ty => by
    have h := Lib.run_append_grow_zeros w 22 3 ty 5 i0 _ .i64 .i64 Try.underlying22 Try.underlying3 hi0 hz0 (some ⟨b, 0, none⟩) i c (cs.take i) hold (n + m - i) (by omega) (by omega) (by omega) (by omega) (by rw [hzb]; omega) (by rw [hzb, hik]; exact growslice_fits hroom (by omega))
    rw [hik] at h
    rw [hkk]
    exact h
  obtain ⟨G, hG⟩ : ∃ G, G = grownCap w (n + m) c 5 := ⟨_, rfl⟩
  have hGn : n + m ≤ G := by rw [hG]; exact grownCap_ge w _ _ _
  have hGm : G ≤ maxLen := by rw [hG]; exact grownCap_le_maxLen w (n + m) c 5 (by unfold maxLen; omega)
  obtain ⟨ROW, hROW⟩ : ∃ ROW : Array Value, ROW = (cs.take i).toArray ++ Builtin.zeroCells (Value.int .u8 0).cells (n + m - i) ++ Builtin.zeroCells (Value.int .u8 0).cells (G - (n + m)) := ⟨_, rfl⟩
  rw [← hG] at hrz
  rw [← hROW] at hrz
  have hRs : ROW.size = G := by
    have hzc : ∀ k, (Builtin.zeroCells (Value.int .u8 0).cells k).size = k := fun k => by simp [Builtin.zeroCells, Value.cells]
    rw [hROW, Array.size_append, Array.size_append, hzc, hzc, List.size_toArray, List.length_take]
    omega
  have hRt : ROW.toList.take i = cs.take i := by
    rw [hROW]
    simp only [Array.toList_append, List.append_assoc]
    rw [List.take_append_of_le_length (by rw [List.length_take]; omega), List.take_take, Nat.min_self]
  obtain ⟨W1, hW1⟩ : ∃ W1, W1 = w.drew.alloc (.cells ROW 5) := ⟨_, rfl⟩
  rw [← hW1] at hrz
  have hN : ∀ j, j < n + m → (W1.cell? ⟨w.heap.size, j, none⟩).isSome = true := fun j hj => by
    rw [hW1, World.cell?_alloc_at (w := w.drew) ROW _ w.heap.size j rfl, Array.getElem?_eq_getElem (by omega)]; rfl
  have hNf : ∀ j, W1.frozen? ⟨w.heap.size, j, none⟩ = false := fun j => by rw [hW1]; exact World.frozen?_alloc_at (w := w.drew) ROW _ w.heap.size j rfl
  have hOb : ∀ j v, w.cell? ⟨b, j, none⟩ = some v → W1.cell? ⟨b, j, none⟩ = some v := fun j v h => by rw [hW1, World.cell?_alloc_past (w := w.drew) _ b j hbw]; exact h
  have hOv : ∀ j v, w.cell? ⟨vb, j, none⟩ = some v → W1.cell? ⟨vb, j, none⟩ = some v := fun j v h => by rw [hW1, World.cell?_alloc_past (w := w.drew) _ vb j hvw]; exact h
  have hcpA : ∀ (W : World), (∀ x, W.cell? x = W1.cell? x) → (∀ x, W.frozen? x = W1.frozen? x) → ∀ ty dc, (Builtin.copy_ #[22, 22] ty #[.slice (some ⟨w.heap.size, i, none⟩) (n + m - i) dc, .slice (some ⟨vb, 0, none⟩) m vc]).run Try.prog W = .ok (goInt vs.length) (W.setCells w.heap.size i vs) := fun W hWc hWf ty dc =>
    run_copy_cells W _ _ ty 5 w.heap.size i (n + m - i) dc ⟨vb, 0, none⟩ m vc vs Try.underlying22 hsz (by rw [hvl]; simp only [Nat.min_def]; split <;> omega)
      (fun j v hj => by rw [Addr.add_lit, hWc, Nat.zero_add]; exact hOv _ v (hvv j v hj))
      (fun j hj => by rw [hWc]; exact hN _ (by omega)) (fun j hj => by rw [hWf]; exact hNf _) h1v
  have hG63 : G ≤ 9223372036854775807 := by unfold maxLen at hGm; omega
  have hGi : ¬ (G = i) := by omega
  have hGim : ¬ (G = i + m) := by omega
  have hci : ¬ (c = i) := by omega
  have hbN : b ≠ w.heap.size := by omega
  have hdl : (cs.drop i).length = n - i := by rw [List.length_drop, hcl]
  have hcpB : ∀ (W : World), (∀ x, W.cell? x = (W1.setCells w.heap.size i vs).cell? x) → (∀ x, W.frozen? x = (W1.setCells w.heap.size i vs).frozen? x) → ∀ ty dc sc, (Builtin.copy_ #[22, 22] ty #[.slice (some ⟨w.heap.size, i + m, none⟩) (n + m - (i + m)) dc, .slice (some ⟨b, i, none⟩) (n - i) sc]).run Try.prog W = .ok (goInt (cs.drop i).length) (W.setCells w.heap.size (i + m) (cs.drop i)) := fun W hWc hWf ty dc sc =>
    run_copy_cells W _ _ ty 5 w.heap.size (i + m) (n + m - (i + m)) dc ⟨b, i, none⟩ (n - i) sc (cs.drop i) Try.underlying22 hsz (by rw [hdl]; simp only [Nat.min_def]; split <;> omega)
      (fun j v hj => by
        rw [Addr.add_lit, hWc, World.cell?_setCells_out _ _ _ _ _ (fun h _ => absurd h hbN)]
        exact hOb _ v (hcc (i + j) v (by rwa [List.getElem?_drop] at hj)))
      (fun j hj => by rw [hWc]; exact isSome_setCells _ _ _ _ (fun t ht => hN _ (by omega)) _ (hN _ (by omega)))
      (fun j hj => by rw [hWf, World.frozen?_setCells]; exact hNf _) (fun v hv => h1c v (List.mem_of_mem_drop hv))
  subst hW1
  have hE1 : ∀ x, ((w.alloc (.cells ROW 5)).drew).cell? x = (w.drew.alloc (.cells ROW 5)).cell? x := fun x => rfl
  have hE2 : ∀ x, ((w.alloc (.cells ROW 5)).drew).frozen? x = (w.drew.alloc (.cells ROW 5)).frozen? x := fun x => rfl
  have hF1 : ∀ x, (((w.alloc (.cells ROW 5)).drew.setCells w.heap.size i vs).drew).cell? x = ((w.drew.alloc (.cells ROW 5)).setCells w.heap.size i vs).cell? x := fun x => rfl
  have hF2 : ∀ x, (((w.alloc (.cells ROW 5)).drew.setCells w.heap.size i vs).drew).frozen? x = ((w.drew.alloc (.cells ROW 5)).setCells w.heap.size i vs).frozen? x := fun x => rfl
  have hw1 : IntKind.i64.wrap ((i : Int) + (m : Int)) = (i : Int) + (m : Int) := by rw [IntKind.wrap_i64]; omega
  have hb1 : (0 : Int) ≤ (i : Int) + (m : Int) := by omega
  have hin : i ≤ n := by omega
  have htn : ((i : Int) + (m : Int)).toNat = i + m := by omega
  have hb3 : (i : Int) ≤ (n : Int) := by omega
  have HRR : Hid (ROW.size = G ∧ ROW.toList.take i = cs.take i) := ⟨hRs, hRt⟩
  clear hkk hik hold hROW hG hRs hRt hcs hvs hi0 hz0 hzs hzb
  go_enter Try.func59, Try.ntmps59
  go_wp2_with (first
    | (at_builtin; refine Lib.wpList_append_run _ rfl _ _ _ _ rfl _ _ rfl rfl _ _ (hrz _) ?_)
    | (at_builtin; refine wpList_copy_runI _ rfl _ _ 22 22 rfl _ _ rfl rfl (hcpA _ hE1 hE2 _ _) ?_)
    | (at_builtin; refine wpList_copy_runI _ rfl _ _ 22 22 rfl _ _ rfl rfl (hcpB _ (fun _ => rfl) (fun _ => rfl) _ _ _) ?_))
  go_region_law_o (refine step_copy_runI rfl _ _ 22 22 rfl (.slice (some ⟨w.heap.size, i + m, none⟩) (n + m - (i + m)) (G - (i + m))) (.slice (some ⟨b, i, none⟩) (n - i) (c - i)) (by simp [Act.eval, Act.put]) (by simp [Act.eval, Act.put]) (hcpB _ hF1 hF2 3 (G - (i + m)) (c - i)) ?_)
  go_wp2
  go_ret
  exact ⟨G, ROW.toList, rfl, hGn, hGm, by simpa using HRR.out.1, HRR.out.2, rfl⟩
theorem put_two {w : World} {b : Nat} {cur : List Value} {t : TypeId} (hB : Blk w b cur t) (x y : List Value) (i : Nat) (hl : i + x.length + y.length ≤ cur.length) :
    Blk ((w.setCells b (i + x.length) y).setCells b i x) b (cur.take i ++ x ++ y ++ cur.drop (i + x.length + y.length)) t := by
  have h1 := setCells_eq b y (i + x.length) w cur t hB (by omega)
  have h2 := setCells_eq b x i _ _ t h1 (by simp; omega)
  have e : (cur.take (i + x.length) ++ y ++ cur.drop (i + x.length + y.length)).take i ++ x ++ (cur.take (i + x.length) ++ y ++ cur.drop (i + x.length + y.length)).drop (i + x.length) = cur.take i ++ x ++ y ++ cur.drop (i + x.length + y.length) := by
    have e1 : (cur.take (i + x.length)).length = i + x.length := by rw [List.length_take]; omega
    rw [List.append_assoc (cur.take (i + x.length)), List.take_append_of_le_length (by omega), List.take_take, Nat.min_eq_left (by omega), List.drop_append_of_le_length (by omega), List.drop_of_length_le (by omega), List.nil_append]
    simp
  rw [e] at h2; exact h2
theorem put_two' {w : World} {b : Nat} {cur : List Value} {t : TypeId} (hB : Blk w b cur t) (x y : List Value) (i : Nat) (hl : i + x.length + y.length ≤ cur.length) :
    Blk (((w.setCells b i x).drew).setCells b (i + x.length) y) b (cur.take i ++ x ++ y ++ cur.drop (i + x.length + y.length)) t := by
  have h1 := setCells_eq b x i w cur t hB (by omega)
  have h2 := setCells_eq b y (i + x.length) _ _ t h1.drew (by simp; omega)
  have e : (cur.take i ++ x ++ cur.drop (i + x.length)).take (i + x.length) ++ y ++ (cur.take i ++ x ++ cur.drop (i + x.length)).drop (i + x.length + y.length) = cur.take i ++ x ++ y ++ cur.drop (i + x.length + y.length) := by
    have e1 : (cur.take i ++ x).length = i + x.length := by rw [List.length_append, List.length_take]; omega
    rw [List.take_append_of_le_length (by omega), List.take_of_length_le (by omega), List.drop_append, List.drop_of_length_le (by omega), List.nil_append, e1, List.drop_drop]
    congr 2
    omega
  rw [e] at h2; exact h2
theorem cb_app (a b : List (BitVec 8)) : cb (a ++ b) = cb a ++ cb b := by simp [cb]
theorem cb_drop (a : List (BitVec 8)) (k : Nat) : (cb a).drop k = cb (a.drop k) := by simp [cb]
theorem cb_take (a : List (BitVec 8)) (k : Nat) : (cb a).take k = cb (a.take k) := by simp [cb]
theorem OwnB.of_blk {w : World} {base b : Nat} {row : List Value} {l : List (BitVec 8)} {c : Nat} (h : Blk w b row 5) (hb : base ≤ b) (hc : row.length = c) (hm : c ≤ maxLen) (hl : l.length ≤ c) (ht : row.take l.length = cb l) : OwnB w base (.slice (some ⟨b, 0, none⟩) l.length c) l :=
  ⟨by rw [cb_len]; omega, Or.inr ⟨b, c, row.toArray, rfl, hb, h, hl, hm, by simpa using hc, by simpa using ht⟩⟩
set_option maxHeartbeats 1000000 in
theorem ins_any (base bv : Nat) (s v : Value) (l t e : List (BitVec 8)) (w : World) (hs : OwnB w base s (l ++ t)) (hv : OwnB w bv v e) (hsep : ∀ k, s.ownBlock = some k → k < bv) (he : e ≠ []) (hbase : base ≤ bv) (hbv : bv ≤ w.heap.size) (hlen : l.length + t.length + e.length ≤ 140737488355328) :
    Calls Try.prog 59 #[s, .int .i64 (l.length : Int), v] w fun en w' => ∃ v', en = .returned v' ∧ OwnB w' base v' (l ++ (e ++ t)) ∧ Below base w w' := by
  have hm : 0 < e.length := List.length_pos_iff.2 he
  have hR := hv.reads
  have HS : Hid (OwnB w base s (l ++ t)) := hs
  obtain ⟨hv1, hv2⟩ := hv
  rcases hv2 with ⟨rfl, h0⟩ | ⟨vb, vc, vcur, rfl, hvg, hvh, hvc, hvm, hvs, hvt⟩
  · omega
  have HV : Blk w vb vcur.toList 5 := hvh
  rw [Nat.mul_one] at hvs hvt
  by_cases ht : t = []
  · subst ht
    rw [List.append_nil] at hs HS
    have HRV : Hid (Reads w (.slice (some ⟨vb, 0, none⟩) e.length vc) e) := hR
    have hz1 : ¬ ((e.length : Int) = 0) := by omega
    obtain ⟨ad, cap, rfl, hcap, _, _⟩ := id hs.reads
    have hcb : cap ≤ maxLen := by
      obtain ⟨_, h2⟩ := hs
      rcases h2 with ⟨h, _⟩ | ⟨g, cc, cur, h, _, _, _, h3, _⟩
      · simp only [Value.slice.injEq] at h; omega
      · simp only [Value.slice.injEq] at h; omega
    unfold maxLen at hcb
    clear hs hR hvh HV hvs hvt hv1 hsep
    obtain ⟨m, HM⟩ : ∃ m, Hid (m = e.length) := ⟨_, rfl⟩
    obtain ⟨n, HNN⟩ : ∃ n, Hid (n = l.length) := ⟨_, rfl⟩
    rw [← HM.out] at hm hlen hz1 hvc HRV
    rw [← HM.out]
    rw [← HNN.out] at hlen hcap HS
    rw [← HNN.out]
    have HB : Hid (base ≤ w.heap.size) := Nat.le_trans hbase hbv
    clear hvm hvg
    rw [List.append_nil]
    have HLN : Hid (l.length + e.length ≤ 140737488355328) := by show _ ≤ _; rw [← HM.out, ← HNN.out]; simp at hlen; omega
    by_cases hcn : cap = n
    · subst hcn
      go_enter Try.func59, Try.ntmps59
      go_wp2_with (at_builtin; refine wpList_appendB rfl _ _ rfl base _ l rfl HS.out _ e rfl HRV.out HLN.out HB.out ?_; intro v2 w2 hown2 hb2 _)
      go_ret
      exact ⟨_, rfl, hown2, hb2⟩
    · go_enter Try.func59, Try.ntmps59
      go_wp2_with (at_builtin; refine wpList_appendB rfl _ _ rfl base _ l rfl HS.out _ e rfl HRV.out HLN.out HB.out ?_; intro v2 w2 hown2 hb2 _)
      go_ret
      exact ⟨_, rfl, hown2, hb2⟩
  · have htl : 0 < t.length := List.length_pos_iff.2 ht
    obtain ⟨hs1, hs2⟩ := hs
    rcases hs2 with ⟨rfl, h0⟩ | ⟨b, c, cur, rfl, hg, hh, hc, hcm, hcs, hct⟩
    · rw [List.length_append] at h0; omega
    have HB : Blk w b cur.toList 5 := hh
    rw [Nat.mul_one] at hcs hct
    have hlt : b < bv := hsep b rfl
    have hne : vb ≠ b := by omega
    have hmx : maxLen = 9223372036854775807 := rfl
    by_cases hroom : (l ++ t).length + e.length ≤ c
    · refine (ins_shift b (l ++ t).length c l.length vb e.length vc (cb (l ++ t)) (cb e) cur.toList vcur.toList w (by rw [List.length_append]; omega) hm hroom (by omega) hne (cb_len _) (cb_len _) HB HV (by simpa using hcs) hct hvt (cb_one _) (cb_one _)).mono ?_
      rintro en w' ⟨rfl, rfl⟩
      have hd : (cb (l ++ t)).drop l.length = cb t := by rw [cb_drop, List.drop_left]
      rw [hd]
      have hcl : cur.toList.length = c := by simpa using hcs
      have hk := put_two HB.drew (cb e) (cb t) l.length (by rw [cb_len, cb_len, hcl]; rw [List.length_append] at hroom; omega)
      rw [cb_len] at hk
      have hb' : Below base w ((w.drew.setCells b (l.length + e.length) (cb t)).setCells b l.length (cb e)) := Below.setCells _ hg _ _ _ (Below.setCells _ hg _ _ _ (Below.refl _ _).drew)
      refine ⟨_, rfl, ?_, hb'⟩
      have := OwnB.of_blk (base := base) (l := l ++ (e ++ t)) hk hg (c := c) (by rw [List.length_append] at hroom; simp only [List.length_append, List.length_take, List.length_drop, cb_len, hcl]; omega) hcm (by simp; simp at hroom; omega) (by
        have e1 : cur.toList.take l.length = cb l := by
          have := congrArg (List.take l.length) hct
          rw [List.take_take, Nat.min_eq_left (by simp), cb_take, List.take_left] at this
          exact this
        rw [e1, List.take_append_of_le_length (by simp only [List.length_append, cb_len]; omega), List.take_of_length_le (by simp only [List.length_append, cb_len]; omega), cb_app, cb_app, List.append_assoc])
      have e2 : (l ++ (e ++ t)).length = (l ++ t).length + e.length := by simp; omega
      rw [e2] at this
      exact this
    · refine (ins_grow b (l ++ t).length c l.length vb e.length vc (cb (l ++ t)) (cb e) cur.toList vcur.toList w (by rw [List.length_append]; omega) hm hc (by omega) (by rw [List.length_append]; omega) (cb_len _) (cb_len _) HB HV hct hvt (cb_one _) (cb_one _)).mono ?_
      rintro en w' ⟨G, row, rfl, hG1, hG2, hG3, hG4, rfl⟩
      have hd : (cb (l ++ t)).drop l.length = cb t := by rw [cb_drop, List.drop_left]
      rw [hd]
      have hN := Blk.new w row 5
      have hk := put_two' hN.drew (cb e) (cb t) l.length (by rw [cb_len, cb_len, hG3]; rw [List.length_append] at hG1; omega)
      rw [cb_len] at hk
      have hwb : base ≤ w.heap.size := Nat.le_trans hbase hbv
      have hb' : Below base w (((w.alloc (.cells row.toArray 5)).drew.setCells w.heap.size l.length (cb e)).drew.setCells w.heap.size (l.length + e.length) (cb t)) := Below.setCells _ hwb _ _ _ (Below.setCells _ hwb _ _ _ ((Below.refl _ _).alloc hwb _).drew).drew
      refine ⟨_, rfl, ?_, hb'⟩
      have := OwnB.of_blk (base := base) (l := l ++ (e ++ t)) hk hwb (c := G) (by simp [cb_len, hG3]; rw [List.length_append] at hG1; omega) hG2 (by simp; simp at hG1; omega) (by
        have e1 : row.take l.length = cb l := by rw [hG4, cb_take, List.take_left]
        rw [e1, List.take_append_of_le_length (by simp only [List.length_append, cb_len]; omega), List.take_of_length_le (by simp only [List.length_append, cb_len]; omega), cb_app, cb_app, List.append_assoc])
      have e2 : (l ++ (e ++ t)).length = (l ++ t).length + e.length := by simp; omega
      rw [e2] at this
      exact this
end Go.Proofs.Ytldbcglakeggaaa

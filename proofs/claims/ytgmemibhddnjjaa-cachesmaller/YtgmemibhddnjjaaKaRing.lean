/- The walk of the cache's link; the row of things behind unlink and link (layer 16). -/
import Derived.Test.YtgmemibhddnjjaaKaUn
namespace Go.Proofs.Ytgmemibhddnjjaa
open Go.RowKit
set_option maxRecDepth 100000
set_option maxRecDepth 100000 in
set_option maxHeartbeats 400000 in
theorem link_n {w : World} {g x : Nat} {most n h ms : Int} {M K V : Value} {f : Option Nat} (hg : Blk w g [.int .i64 most, .int .i64 n, M, ptK f, .pointer none, .int .i64 h, .int .i64 ms] 56) (hx : Blk w x [K, V, .pointer none, .pointer none] 58)
    (h1 : 0 ≤ n) (h2 : n < 4611686018427387904) :
    Calls Try.prog 25 #[.pointer (some ⟨g, 0, none⟩), .pointer (some ⟨x, 0, none⟩)] w fun r w' => r = .returned (.tuple #[]) ∧ Blk w' g [.int .i64 most, .int .i64 (n + 1), M, .pointer (some ⟨x, 0, none⟩), .pointer (some ⟨x, 0, none⟩), .int .i64 h, .int .i64 ms] 56 ∧ Blk w' x [K, V, .pointer none, .pointer none] 58 ∧ OnlyL [g, x] w w' := by
  have HG : Hid (Blk w g [.int .i64 most, .int .i64 n, M, ptK f, .pointer none, .int .i64 h, .int .i64 ms] 56) := hg
  have HX : Hid (Blk w x [K, V, .pointer none, .pointer none] 58) := hx
  have ngx : g ≠ x := neTK hg hx (by decide)
  have nxg : x ≠ g := ngx.symm
  have c1 : w.cell? ⟨g, 1, none⟩ = some (.int .i64 n) := hg.cell 1
  have f1 : w.frozen? ⟨g, 1, none⟩ = false := hg.frozen 1
  have c3 : w.cell? ⟨g, 3, none⟩ = some (ptK f) := hg.cell 3
  have f3 : w.frozen? ⟨g, 3, none⟩ = false := hg.frozen 3
  have c4 : w.cell? ⟨g, 4, none⟩ = some (.pointer none) := hg.cell 4
  have f4 : w.frozen? ⟨g, 4, none⟩ = false := hg.frozen 4
  have d2 : w.cell? ⟨x, 2, none⟩ = some (.pointer none) := hx.cell 2
  have e2 : w.frozen? ⟨x, 2, none⟩ = false := hx.frozen 2
  have q1 : IntKind.i64.wrap (n + 1) = n + 1 := by rw [IntKind.wrap_i64]; omega
  clear hg hx h1 h2
  go_enter Try.func25, Try.ntmps25
  go_wp2
  refine bodyPost_end (results_none rfl _ _ _) rfl ?_
  exact ⟨rfl, (((((HG.out).other _ _ ngx).set 3 _).set 4 _).set 1 _), (((((HX.out).set 2 _).other _ _ nxg).other _ _ nxg).other _ _ nxg), (((((OnlyL.refl _ _).set (by simp) _ _).set (by simp) _ _).set (by simp) _ _).set (by simp) _ _)⟩
set_option maxRecDepth 100000 in
set_option maxHeartbeats 400000 in
theorem link_s {w : World} {g x y : Nat} {most n h ms : Int} {M K V Ky Vy Cy : Value} {f : Option Nat} (hg : Blk w g [.int .i64 most, .int .i64 n, M, ptK f, .pointer (some ⟨y, 0, none⟩), .int .i64 h, .int .i64 ms] 56) (hx : Blk w x [K, V, .pointer none, .pointer none] 58)
    (hy : Blk w y [Ky, Vy, Cy, .pointer none] 58) (nxy : x ≠ y) (h1 : 0 ≤ n) (h2 : n < 4611686018427387904) :
    Calls Try.prog 25 #[.pointer (some ⟨g, 0, none⟩), .pointer (some ⟨x, 0, none⟩)] w fun r w' => r = .returned (.tuple #[]) ∧ Blk w' g [.int .i64 most, .int .i64 (n + 1), M, ptK f, .pointer (some ⟨x, 0, none⟩), .int .i64 h, .int .i64 ms] 56 ∧ Blk w' x [K, V, .pointer (some ⟨y, 0, none⟩), .pointer none] 58 ∧ Blk w' y [Ky, Vy, Cy, .pointer (some ⟨x, 0, none⟩)] 58 ∧ OnlyL [g, x, y] w w' := by
  have HG : Hid (Blk w g [.int .i64 most, .int .i64 n, M, ptK f, .pointer (some ⟨y, 0, none⟩), .int .i64 h, .int .i64 ms] 56) := hg
  have HX : Hid (Blk w x [K, V, .pointer none, .pointer none] 58) := hx
  have HY : Hid (Blk w y [Ky, Vy, Cy, .pointer none] 58) := hy
  have ngx : g ≠ x := neTK hg hx (by decide)
  have nxg : x ≠ g := ngx.symm
  have ngy : g ≠ y := neTK hg hy (by decide)
  have nyg : y ≠ g := ngy.symm
  have nyx : y ≠ x := nxy.symm
  have c1 : w.cell? ⟨g, 1, none⟩ = some (.int .i64 n) := hg.cell 1
  have f1 : w.frozen? ⟨g, 1, none⟩ = false := hg.frozen 1
  have c4 : w.cell? ⟨g, 4, none⟩ = some (.pointer (some ⟨y, 0, none⟩)) := hg.cell 4
  have f4 : w.frozen? ⟨g, 4, none⟩ = false := hg.frozen 4
  have d2 : w.cell? ⟨x, 2, none⟩ = some (.pointer none) := hx.cell 2
  have e2 : w.frozen? ⟨x, 2, none⟩ = false := hx.frozen 2
  have d3 : w.cell? ⟨y, 3, none⟩ = some (.pointer none) := hy.cell 3
  have e3 : w.frozen? ⟨y, 3, none⟩ = false := hy.frozen 3
  have q1 : IntKind.i64.wrap (n + 1) = n + 1 := by rw [IntKind.wrap_i64]; omega
  clear hg hx hy h1 h2
  go_enter Try.func25, Try.ntmps25
  go_wp2
  refine bodyPost_end (results_none rfl _ _ _) rfl ?_
  exact ⟨rfl, (((((HG.out).other _ _ ngx).other _ _ ngy).set 4 _).set 1 _), (((((HX.out).set 2 _).other _ _ nxy).other _ _ nxg).other _ _ nxg), (((((HY.out).other _ _ nyx).set 3 _).other _ _ nyg).other _ _ nyg), (((((OnlyL.refl _ _).set (by simp) _ _).set (by simp) _ _).set (by simp) _ _).set (by simp) _ _)⟩
def firstK (T : List ThT) : Option Nat := (T[0]?).map (·.1)
def lastK (T : List ThT) : Option Nat := (T[T.length - 1]?).map (·.1)
/-- the row of things -/
structure Ring (w : World) (g m mo h ms : Nat) (T : List ThT) : Prop where
  me : Blk w g (caC mo T.length m (firstK T) (lastK T) h ms) 56
  th : ∀ i x, T[i]? = some x → Blk w x.1 (thC x.2 (prvK T i) (nxtK T i)) 58
  nd : (T.map (·.1)).Nodup
theorem nd_idx {T : List ThT} (h : (T.map (·.1)).Nodup) {i j : Nat} {x y : ThT} (hi : T[i]? = some x) (hj : T[j]? = some y) (e : x.1 = y.1) : i = j := by
  have h1 : (T.map (·.1))[i]? = some x.1 := by rw [List.getElem?_map, hi]; rfl
  have h2 : (T.map (·.1))[j]? = some x.1 := by rw [List.getElem?_map, hj, e]; rfl
  have hl : i < (T.map (·.1)).length := (List.getElem?_eq_some_iff.1 h1).1
  exact (List.getElem?_inj hl h).1 (h1.trans h2.symm)
theorem get_lt {T : List ThT} {i : Nat} {x : ThT} (h : T[i]? = some x) : i < T.length := (List.getElem?_eq_some_iff.1 h).1
theorem Ring.erase {w w' : World} {g m mo h ms : Nat} {T : List ThT} (R : Ring w g m mo h ms T) {i : Nat} {x : ThT} (hi : T[i]? = some x)
    (hg : Blk w' g (caC mo (T.length - 1) m (if prvK T i = none then nxtK T i else firstK T) (if nxtK T i = none then prvK T i else lastK T) h ms) 56)
    (ha : ∀ y, 0 < i → T[i - 1]? = some y → Blk w' y.1 (thC y.2 (prvK T (i - 1)) (nxtK T i)) 58)
    (hb : ∀ y, T[i + 1]? = some y → Blk w' y.1 (thC y.2 (prvK T i) (nxtK T (i + 1))) 58)
    (ho : ∀ k, k ≠ g → k ≠ x.1 → prvK T i ≠ some k → nxtK T i ≠ some k → w'.heap[k]? = w.heap[k]?) : Ring w' g m mo h ms (T.eraseIdx i) := by
  have hl := get_lt hi
  have E : ∀ j, (T.eraseIdx i)[j]? = if j < i then T[j]? else T[j + 1]? := fun j => by rw [List.getElem?_eraseIdx]
  have EL : (T.eraseIdx i).length = T.length - 1 := List.length_eraseIdx_of_lt hl
  refine ⟨?_, ?_, R.nd.sublist ((List.eraseIdx_sublist _ _).map _)⟩
  · have e1 : firstK (T.eraseIdx i) = if prvK T i = none then nxtK T i else firstK T := by
      unfold firstK prvK nxtK
      rw [E]
      by_cases h0 : i = 0
      · subst h0; simp
      · rw [if_pos (by omega), if_neg h0, List.getElem?_eq_getElem (show i - 1 < T.length by omega)]; simp
    have e2 : lastK (T.eraseIdx i) = if nxtK T i = none then prvK T i else lastK T := by
      unfold lastK prvK nxtK
      rw [EL, E]
      by_cases h0 : i + 1 = T.length
      · rw [List.getElem?_eq_none (show T.length ≤ i + 1 by omega)]
        simp only [Option.map_none, if_true]
        by_cases h1 : i = 0
        · rw [if_pos h1, if_neg (by omega), List.getElem?_eq_none (by omega)]; rfl
        · rw [if_neg h1, if_pos (by omega), show T.length - 1 - 1 = i - 1 by omega]
      · rw [List.getElem?_eq_getElem (show i + 1 < T.length by omega), if_neg (show ¬ (T.length - 1 - 1 < i) by omega), show T.length - 1 - 1 + 1 = T.length - 1 by omega]
        simp
    rw [EL, e1, e2]
    exact hg
  · intro j y hy
    rw [E] at hy
    -- blocks that are neither of the four
    have stay : ∀ q z, T[q]? = some z → q ≠ i → q + 1 ≠ i → q ≠ i + 1 → Blk w' z.1 (thC z.2 (prvK T q) (nxtK T q)) 58 := by
      intro q z hq n1 n2 n3
      have hB := R.th q z hq
      have hh : w'.heap[z.1]? = w.heap[z.1]? := by
        refine ho z.1 (neTK hB R.me (by decide)) (fun e => n1 (nd_idx R.nd hq hi e)) ?_ ?_
        · unfold prvK
          intro e
          by_cases h0 : i = 0
          · rw [if_pos h0] at e; cases e
          · rw [if_neg h0] at e
            obtain ⟨u, hu, e2⟩ := Option.map_eq_some_iff.1 e
            have := nd_idx R.nd hq hu e2.symm
            omega
        · unfold nxtK
          intro e
          obtain ⟨u, hu, e2⟩ := Option.map_eq_some_iff.1 e
          exact n3 (nd_idx R.nd hq hu e2.symm)
      unfold Blk at hB ⊢
      rw [hh]
      exact hB
    by_cases c1 : j < i
    · rw [if_pos c1] at hy
      by_cases c2 : j + 1 = i
      · subst c2
        have := ha y (by omega) hy
        have e1 : prvK (T.eraseIdx (j + 1)) j = prvK T j := by
          unfold prvK; rw [E]; by_cases h0 : j = 0
          · rw [if_pos h0, if_pos h0]
          · rw [if_neg h0, if_neg h0, if_pos (by omega)]
        have e2 : nxtK (T.eraseIdx (j + 1)) j = nxtK T (j + 1) := by unfold nxtK; rw [E, if_neg (by omega)]
        rw [e1, e2]
        exact this
      · have e1 : prvK (T.eraseIdx i) j = prvK T j := by
          unfold prvK; rw [E]; by_cases h0 : j = 0
          · rw [if_pos h0, if_pos h0]
          · rw [if_neg h0, if_neg h0, if_pos (by omega)]
        have e2 : nxtK (T.eraseIdx i) j = nxtK T j := by unfold nxtK; rw [E, if_pos (by omega)]
        rw [e1, e2]
        exact stay j y hy (by omega) c2 (by omega)
    · rw [if_neg c1] at hy
      by_cases c2 : j = i
      · subst c2
        have e1 : prvK (T.eraseIdx j) j = prvK T j := by
          unfold prvK; rw [E]; by_cases h0 : j = 0
          · rw [if_pos h0, if_pos h0]
          · rw [if_neg h0, if_neg h0, if_pos (by omega)]
        have e2 : nxtK (T.eraseIdx j) j = nxtK T (j + 1) := by unfold nxtK; rw [E, if_neg (by omega)]
        rw [e1, e2]
        exact hb y hy
      · have e1 : prvK (T.eraseIdx i) j = prvK T (j + 1) := by
          unfold prvK; rw [E, if_neg (show ¬ j = 0 by omega), if_neg (show ¬ j + 1 = 0 by omega), if_neg (show ¬ j - 1 < i by omega), show j - 1 + 1 = j + 1 - 1 by omega]
        have e2 : nxtK (T.eraseIdx i) j = nxtK T (j + 1) := by unfold nxtK; rw [E, if_neg (by omega)]
        rw [e1, e2]
        exact stay (j + 1) y hy (by omega) (by omega) (by omega)
theorem sub1 {g x : Nat} {S : List Nat} (h : x ∈ S) : ∀ k ∈ [g, x], k ∈ g :: S := fun k hk => by
  simp only [List.mem_cons, List.not_mem_nil, or_false] at hk ⊢
  rcases hk with rfl | rfl
  · exact Or.inl rfl
  · exact Or.inr h
theorem sub2 {g x y : Nat} {S : List Nat} (h : x ∈ S) (h2 : y ∈ S) : ∀ k ∈ [g, x, y], k ∈ g :: S := fun k hk => by
  simp only [List.mem_cons, List.not_mem_nil, or_false] at hk ⊢
  rcases hk with rfl | rfl | rfl
  · exact Or.inl rfl
  · exact Or.inr h
  · exact Or.inr h2
theorem sub3 {g x y z : Nat} {S : List Nat} (h : x ∈ S) (h2 : y ∈ S) (h3 : z ∈ S) : ∀ k ∈ [g, x, y, z], k ∈ g :: S := fun k hk => by
  simp only [List.mem_cons, List.not_mem_nil, or_false] at hk ⊢
  rcases hk with rfl | rfl | rfl | rfl
  · exact Or.inl rfl
  · exact Or.inr h
  · exact Or.inr h2
  · exact Or.inr h3
theorem unlink_any {w : World} {g m mo h ms : Nat} {T : List ThT} (R : Ring w g m mo h ms T) {i : Nat} {x : ThT} (hi : T[i]? = some x) (hn : T.length < 4611686018427387904) :
    Calls Try.prog 24 #[.pointer (some ⟨g, 0, none⟩), .pointer (some ⟨x.1, 0, none⟩)] w fun r w' => r = .returned (.tuple #[]) ∧ Ring w' g m mo h ms (T.eraseIdx i) ∧ Blk w' x.1 (thC x.2 none none) 58 ∧ OnlyL (g :: T.map (·.1)) w w' := by
  have hl := get_lt hi
  have hx := R.th i x hi
  have hg := R.me
  have mx : x.1 ∈ T.map (·.1) := List.mem_map.2 ⟨x, List.mem_of_getElem? hi, rfl⟩
  have h1 : (1 : Int) ≤ (T.length : Int) := by omega
  have h2 : (T.length : Int) < 4611686018427387904 := by omega
  have ec : (T.length : Int) - 1 = ((T.length - 1 : Nat) : Int) := by omega
  have HA : ∀ ya, prvK T i = some ya → ∃ y, 0 < i ∧ T[i - 1]? = some y ∧ y.1 = ya ∧ Blk w ya (thC y.2 (prvK T (i - 1)) (some x.1)) 58 ∧ x.1 ≠ ya ∧ ya ∈ T.map (·.1) := by
    intro ya e
    unfold prvK at e
    by_cases h0 : i = 0
    · rw [if_pos h0] at e; cases e
    · rw [if_neg h0] at e
      obtain ⟨y, hy, e2⟩ := Option.map_eq_some_iff.1 e
      have := R.th _ y hy
      rw [show nxtK T (i - 1) = some x.1 by unfold nxtK; rw [show i - 1 + 1 = i by omega, hi]; rfl] at this
      refine ⟨y, by omega, hy, e2, by rw [← e2]; exact this, fun e3 => ?_, List.mem_map.2 ⟨y, List.mem_of_getElem? hy, e2⟩⟩
      have := nd_idx R.nd hi hy (e3.trans e2.symm)
      omega
  have HB : ∀ yb, nxtK T i = some yb → ∃ y, T[i + 1]? = some y ∧ y.1 = yb ∧ Blk w yb (thC y.2 (some x.1) (nxtK T (i + 1))) 58 ∧ x.1 ≠ yb ∧ yb ∈ T.map (·.1) := by
    intro yb e
    obtain ⟨y, hy, e2⟩ := Option.map_eq_some_iff.1 e
    have := R.th _ y hy
    rw [show prvK T (i + 1) = some x.1 by unfold prvK; rw [if_neg (by omega), show i + 1 - 1 = i by omega, hi]; rfl] at this
    refine ⟨y, hy, e2, by rw [← e2]; exact this, fun e3 => ?_, List.mem_map.2 ⟨y, List.mem_of_getElem? hy, e2⟩⟩
    have := nd_idx R.nd hi hy (e3.trans e2.symm)
    omega
  have HN : ∀ y, nxtK T i = none → T[i + 1]? = some y → False := fun y e hy => by unfold nxtK at e; rw [hy] at e; cases e
  have HP : ∀ y, prvK T i = none → 0 < i → T[i - 1]? = some y → False := fun y e h0 hy => by unfold prvK at e; rw [if_neg (by omega), hy] at e; cases e
  have big : ∀ {L : List Nat} {w' : World}, OnlyL L w w' → (∀ k ∈ L, k ∈ g :: T.map (·.1)) → OnlyL (g :: T.map (·.1)) w w' := fun o s => ⟨o.os, o.tape, o.output, o.size, fun k hk => o.block k (fun e => hk (s k e))⟩
  cases ea : prvK T i with
  | none =>
    cases eb : nxtK T i with
    | none =>
      rw [ea, eb] at hx
      refine (unlink_nn hg hx h1 h2).mono ?_
      rintro e w' ⟨rfl, b1, b2, o⟩
      refine ⟨rfl, R.erase hi ?_ ?_ ?_ ?_, b2, big o (sub1 mx)⟩
      · rw [ec] at b1; rw [ea, eb]; exact b1
      · intro y h0 hy; exact (HP y ea h0 hy).elim
      · intro y hy; exact (HN y eb hy).elim
      · intro k n1 n2 _ _; exact o.block k (by simp [n1, n2])
    | some yb =>
      obtain ⟨y, hy, e2, hB, nb, mb⟩ := HB yb eb
      rw [ea, eb] at hx
      refine (unlink_ns hg hx hB nb h1 h2).mono ?_
      rintro e w' ⟨rfl, b1, b2, b3, o⟩
      refine ⟨rfl, R.erase hi ?_ ?_ ?_ ?_, b2, big o (sub2 mx mb)⟩
      · rw [ec] at b1; rw [ea, eb]; exact b1
      · intro z h0 hz; exact (HP z ea h0 hz).elim
      · intro z hz
        rw [hy] at hz; cases hz
        rw [e2, ea]; exact b3
      · intro k n1 n2 _ n4; exact o.block k (by rw [eb] at n4; simp [n1, n2]; exact fun e => n4 (by rw [e]))
  | some ya =>
    obtain ⟨z, h0, hz, ez, hA, na, ma⟩ := HA ya ea
    cases eb : nxtK T i with
    | none =>
      rw [ea, eb] at hx
      refine (unlink_sn hg hx hA na h1 h2).mono ?_
      rintro e w' ⟨rfl, b1, b2, b3, o⟩
      refine ⟨rfl, R.erase hi ?_ ?_ ?_ ?_, b2, big o (sub2 mx ma)⟩
      · rw [ec] at b1; rw [ea, eb]; exact b1
      · intro u _ hu
        rw [hz] at hu; cases hu
        rw [ez, eb]; exact b3
      · intro u hu; exact (HN u eb hu).elim
      · intro k n1 n2 n3 _; exact o.block k (by rw [ea] at n3; simp [n1, n2]; exact fun e => n3 (by rw [e]))
    | some yb =>
      obtain ⟨y, hy, e2, hB, nb, mb⟩ := HB yb eb
      have nab : ya ≠ yb := fun e => by
        have := nd_idx R.nd hz hy (ez.trans (e.trans e2.symm))
        omega
      rw [ea, eb] at hx
      refine (unlink_ss hg hx hA na hB nb nab h1 h2).mono ?_
      rintro e w' ⟨rfl, b1, b2, b3, b4, o⟩
      refine ⟨rfl, R.erase hi ?_ ?_ ?_ ?_, b2, big o (sub3 mx ma mb)⟩
      · rw [ec] at b1; rw [ea, eb]; exact b1
      · intro u _ hu
        rw [hz] at hu; cases hu
        rw [ez, eb]; exact b3
      · intro u hu
        rw [hy] at hu; cases hu
        rw [e2, ea]; exact b4
      · intro k n1 n2 n3 n4; exact o.block k (by rw [ea] at n3; rw [eb] at n4; simp [n1, n2]; exact ⟨fun e => n3 (by rw [e]), fun e => n4 (by rw [e])⟩)
theorem link_any {w : World} {g m mo h ms : Nat} {T : List ThT} (R : Ring w g m mo h ms T) {x : ThT} (hx : Blk w x.1 (thC x.2 none none) 58) (hm : x.1 ∉ T.map (·.1)) (hn : T.length < 4611686018427387904) :
    Calls Try.prog 25 #[.pointer (some ⟨g, 0, none⟩), .pointer (some ⟨x.1, 0, none⟩)] w fun r w' => r = .returned (.tuple #[]) ∧ Ring w' g m mo h ms (T ++ [x]) ∧ OnlyL (g :: (T ++ [x]).map (·.1)) w w' := by
  have hg := R.me
  have nd' : ((T ++ [x]).map (·.1)).Nodup := by
    rw [List.map_append, List.nodup_append]
    exact ⟨R.nd, by simp, fun a ha b hb e => by simp at hb; subst hb; subst e; exact hm ha⟩
  have mx : x.1 ∈ (T ++ [x]).map (·.1) := List.mem_map.2 ⟨x, by simp, rfl⟩
  have h1 : (0 : Int) ≤ (T.length : Int) := by omega
  have h2 : (T.length : Int) < 4611686018427387904 := by omega
  have big : ∀ {L : List Nat} {w' : World}, OnlyL L w w' → (∀ k ∈ L, k ∈ g :: (T ++ [x]).map (·.1)) → OnlyL (g :: (T ++ [x]).map (·.1)) w w' := fun o s => ⟨o.os, o.tape, o.output, o.size, fun k hk => o.block k (fun e => hk (s k e))⟩
  have el : lastK (T ++ [x]) = some x.1 := by
    unfold lastK
    rw [List.length_append, List.length_singleton, Nat.add_sub_cancel, List.getElem?_append_right (Nat.le_refl _), Nat.sub_self]
    rfl
  have elen : (((T ++ [x]).length : Nat) : Int) = (T.length : Int) + 1 := by rw [List.length_append]; rfl
  cases e0 : lastK T with
  | none =>
    have hT : T = [] := by
      unfold lastK at e0
      rw [Option.map_eq_none_iff, List.getElem?_eq_none_iff] at e0
      exact List.eq_nil_of_length_eq_zero (by omega)
    subst hT
    refine (link_n (f := firstK []) hg hx h1 h2).mono ?_
    rintro e w' ⟨rfl, b1, b2, o⟩
    refine ⟨rfl, ⟨b1, ?_, nd'⟩, big o (sub1 mx)⟩
    intro i y hy
    cases i with
    | zero => simp at hy; subst hy; exact b2
    | succ i => simp at hy
  | some yl =>
    obtain ⟨y, hy, e2⟩ := Option.map_eq_some_iff.1 (show (T[T.length - 1]?).map (·.1) = some yl from e0)
    have hp := get_lt hy
    have hY := R.th _ y hy
    rw [show nxtK T (T.length - 1) = none by unfold nxtK; rw [List.getElem?_eq_none (by omega)]; rfl, e2] at hY
    have my : yl ∈ T.map (·.1) := List.mem_map.2 ⟨y, List.mem_of_getElem? hy, e2⟩
    have nxy : x.1 ≠ yl := fun e => hm (e ▸ my)
    have my2 : yl ∈ (T ++ [x]).map (·.1) := by rw [List.map_append]; exact List.mem_append_left _ my
    rw [e0] at hg
    refine (link_s (f := firstK T) hg hx hY nxy h1 h2).mono ?_
    rintro e w' ⟨rfl, b1, b2, b3, o⟩
    have EA : ∀ j, j < T.length → (T ++ [x])[j]? = T[j]? := fun j hj => List.getElem?_append_left hj
    have EP : ∀ j, j ≤ T.length → prvK (T ++ [x]) j = prvK T j := fun j hj => by
      unfold prvK
      by_cases h0 : j = 0
      · rw [if_pos h0, if_pos h0]
      · rw [if_neg h0, if_neg h0, EA _ (by omega)]
    refine ⟨rfl, ⟨?_, ?_, nd'⟩, big o (sub2 mx my2)⟩
    · have ef : firstK (T ++ [x]) = firstK T := by unfold firstK; rw [EA 0 (by omega)]
      rw [caC, ef, el, elen]
      exact b1
    · intro i z hz
      by_cases c1 : i = T.length
      · subst c1
        rw [List.getElem?_append_right (Nat.le_refl _), Nat.sub_self] at hz
        simp at hz
        subst hz
        rw [EP _ (Nat.le_refl _)]
        have e3 : prvK T T.length = some yl := by unfold prvK; rw [if_neg (by omega), hy]; exact congrArg some e2
        have e4 : nxtK (T ++ [x]) T.length = none := by unfold nxtK; rw [List.getElem?_eq_none (by simp)]; rfl
        rw [e3, e4]
        exact b2
      · have hi : i < T.length := by
          have := get_lt hz
          rw [List.length_append, List.length_singleton] at this
          omega
        rw [EA i hi] at hz
        rw [EP i (by omega)]
        by_cases c2 : i = T.length - 1
        · subst c2
          rw [hy] at hz
          cases hz
          have e4 : nxtK (T ++ [x]) (T.length - 1) = some x.1 := by unfold nxtK; rw [show T.length - 1 + 1 = T.length by omega, List.getElem?_append_right (Nat.le_refl _), Nat.sub_self]; rfl
          rw [e4, e2]
          exact b3
        · have e4 : nxtK (T ++ [x]) i = nxtK T i := by unfold nxtK; rw [EA _ (by omega)]
          rw [e4]
          have hB := R.th i z hz
          refine o.blk hB ?_
          simp only [List.mem_cons, List.not_mem_nil, or_false, not_or]
          refine ⟨neTK hB R.me (by decide), fun e => hm (e ▸ List.mem_map.2 ⟨z, List.mem_of_getElem? hz, rfl⟩), fun e => ?_⟩
          exact c2 (nd_idx R.nd hz hy (e.trans e2.symm))
end Go.Proofs.Ytgmemibhddnjjaa

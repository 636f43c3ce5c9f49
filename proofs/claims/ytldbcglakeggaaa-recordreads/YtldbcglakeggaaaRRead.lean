/- The walks of codec.Read and of what it defers: what is thrown is caught. -/
import Derived.Test.YtldbcglakeggaaaRText
namespace Go.Proofs.Ytldbcglakeggaaa
open Go.RowKit
set_option maxRecDepth 100000 in
set_option maxHeartbeats 1000000 in
theorem catch_threw (gin ge gi : Nat) (v : Value) (x : Int) (w : World) (ad : Option Addr) (n c : Nat) (hv : v = .slice ad n c) (hin : Blk w gin [.pointer (some ⟨gi, 0, none⟩)] 100) (hi : Blk w gi [v, .bool true, .bool true] 102) (he : Blk w ge [.int .i64 x] 31) :
    CallsD Try.prog 74 #[.pointer (some ⟨gin, 0, none⟩), .pointer (some ⟨ge, 0, none⟩)] (.panicking [{ v := .iface 100 (.pointer (some ⟨gi, 0, none⟩)), recovered := false }]) w fun e u' w' =>
      e = .returned (.tuple #[]) ∧ u' = .panicking [{ v := .iface 100 (.pointer (some ⟨gi, 0, none⟩)), recovered := true }] ∧ w' = (w.setCells gi 0 [.slice none 0 0, .bool false, .bool false]).setCell ⟨ge, 0, none⟩ (.int .i64 3) := by
  subst hv
  have ci : w.cell? ⟨gin, 0, none⟩ = some (.pointer (some ⟨gi, 0, none⟩)) := hin.cell 0
  have c2 : w.cell? ⟨gi, 2, none⟩ = some (.bool true) := hi.cell 2
  have c0 : w.cell? ⟨gi, 0, none⟩ = some (.slice ad n c) := hi.cell 0
  have c1 : w.cell? ⟨gi, 1, none⟩ = some (.bool true) := hi.cell 1
  have f0 : w.frozen? ⟨gi, 0, none⟩ = false := hi.frozen 0
  have f1 : w.frozen? ⟨gi, 1, none⟩ = false := hi.frozen 1
  have f2 : w.frozen? ⟨gi, 2, none⟩ = false := hi.frozen 2
  have ce : w.cell? ⟨ge, 0, none⟩ = some (.int .i64 x) := he.cell 0
  have fe : w.frozen? ⟨ge, 0, none⟩ = false := he.frozen 0
  have hge : ge ≠ gi := by
    intro h
    subst h
    unfold Blk at he hi
    rw [he] at hi
    simp at hi
  have hta : ∀ (pv : Value) (w : World), (Instr.typeAssert (.iface 100 pv) 20 100 true).run Try.prog w = .ok (.tuple #[pv, .bool true]) w := fun _ _ => by kernel_rfl
  have hnot : ∀ (x : Bool) (w : World), (Op.unary .not (.bool x)).run Try.prog w = .ok (.bool (!x)) w := fun _ _ => rfl
  refine callsD_of_wpS Try.func74 rfl fun c₀ cs hu => ?_
  simp only [Try.ntmps74, List.size_toArray, List.length_cons, List.length_nil, Nat.reduceAdd, Nat.reduceSub, Array.replicate_succ, Array.replicate_zero, List.push_toArray, List.append_toArray, List.nil_append, List.cons_append]
  apply wpS_seq
  refine wpS_of_wp ?_
  go_wp2
  simp only [Exit.thenS]
  apply wpS_seq
  refine wpS_of_wp ?_
  go_wp2
  simp only [Exit.thenS]
  apply wpS_seq
  refine wpS_of_wp ?_
  go_wp2
  simp only [Exit.thenS]
  apply wpS_seq
  apply wpS_region
  simp [wpOpsS, go_sem, recoverD, hu, Exit.thenS]
  refine wpS_of_wp ?_
  go_wp2
  exact ⟨rfl, _, rfl, _, results_none rfl _ _ _, rfl, rfl, rfl⟩
set_option maxRecDepth 100000 in
set_option maxHeartbeats 1000000 in
theorem catch_idle (gin ge gi : Nat) (v : Value) (x : Int) (w : World) (ad : Option Addr) (n c : Nat) (hv : v = .slice ad n c) (hin : Blk w gin [.pointer (some ⟨gi, 0, none⟩)] 100) (hi : Blk w gi [v, .bool true, .bool false] 102) (he : Blk w ge [.int .i64 x] 31) :
    CallsD Try.prog 74 #[.pointer (some ⟨gin, 0, none⟩), .pointer (some ⟨ge, 0, none⟩)] .returning w fun e u' w' =>
      e = .returned (.tuple #[]) ∧ u' = .returning ∧ w' = if n = 0 then ((w.setCells gi 0 [.slice none 0 0, .bool false, .bool false]).setCell ⟨ge, 0, none⟩ (.int .i64 3)).setCell ⟨ge, 0, none⟩ (.int .i64 0) else (w.setCells gi 0 [.slice none 0 0, .bool false, .bool false]).setCell ⟨ge, 0, none⟩ (.int .i64 3) := by
  subst hv
  have ci : w.cell? ⟨gin, 0, none⟩ = some (.pointer (some ⟨gi, 0, none⟩)) := hin.cell 0
  have c2 : w.cell? ⟨gi, 2, none⟩ = some (.bool false) := hi.cell 2
  have c0 : w.cell? ⟨gi, 0, none⟩ = some (.slice ad n c) := hi.cell 0
  have c1 : w.cell? ⟨gi, 1, none⟩ = some (.bool true) := hi.cell 1
  have f0 : w.frozen? ⟨gi, 0, none⟩ = false := hi.frozen 0
  have f1 : w.frozen? ⟨gi, 1, none⟩ = false := hi.frozen 1
  have f2 : w.frozen? ⟨gi, 2, none⟩ = false := hi.frozen 2
  have ce : w.cell? ⟨ge, 0, none⟩ = some (.int .i64 x) := he.cell 0
  have fe : w.frozen? ⟨ge, 0, none⟩ = false := he.frozen 0
  have hge : ge ≠ gi := by
    intro h
    subst h
    unfold Blk at he hi
    rw [he] at hi
    simp at hi
  have hnot : ∀ (x : Bool) (w : World), (Op.unary .not (.bool x)).run Try.prog w = .ok (.bool (!x)) w := fun _ _ => rfl
  by_cases hn : n = 0
  · subst hn
    rw [if_pos rfl]
    refine callsD_of_wpS Try.func74 rfl fun c₀ cs hu => ?_
    simp only [Try.ntmps74, List.size_toArray, List.length_cons, List.length_nil, Nat.reduceAdd, Nat.reduceSub, Array.replicate_succ, Array.replicate_zero, List.push_toArray, List.append_toArray, List.nil_append, List.cons_append]
    apply wpS_seq
    refine wpS_of_wp ?_
    go_wp2
    simp only [Exit.thenS]
    apply wpS_seq
    refine wpS_of_wp ?_
    go_wp2
    simp only [Exit.thenS]
    apply wpS_seq
    refine wpS_of_wp ?_
    go_wp2
    simp only [Exit.thenS]
    apply wpS_seq
    apply wpS_region
    simp [wpOpsS, go_sem, recoverD, hu, Exit.thenS]
    refine wpS_of_wp ?_
    go_wp2
    exact ⟨rfl, _, rfl, _, results_none rfl _ _ _, rfl, hu, rfl⟩
  · rw [if_neg hn]
    have hn2 : ¬ ((n : Int) = 0) := by omega
    refine callsD_of_wpS Try.func74 rfl fun c₀ cs hu => ?_
    simp only [Try.ntmps74, List.size_toArray, List.length_cons, List.length_nil, Nat.reduceAdd, Nat.reduceSub, Array.replicate_succ, Array.replicate_zero, List.push_toArray, List.append_toArray, List.nil_append, List.cons_append]
    apply wpS_seq
    refine wpS_of_wp ?_
    go_wp2
    simp only [Exit.thenS]
    apply wpS_seq
    refine wpS_of_wp ?_
    go_wp2
    simp only [Exit.thenS]
    apply wpS_seq
    refine wpS_of_wp ?_
    go_wp2
    simp only [Exit.thenS]
    apply wpS_seq
    apply wpS_region
    simp [wpOpsS, go_sem, recoverD, hu, Exit.thenS]
    refine wpS_of_wp ?_
    go_wp2
    exact ⟨rfl, _, rfl, _, results_none rfl _ _ _, rfl, hu, rfl⟩
/-- what a reading by f comes to: the new blocks of Read (from H on) are as they were, but for the input; f came back, or threw -/
structure Does (H : Nat) (A : List (BitVec 8) → World → Prop) (B : World → Prop) (w1 : World) (e : Ending) (w2 : World) : Prop where
  size : w1.heap.size ≤ w2.heap.size
  kept : ∀ k, H ≤ k → k < H + 4 → k ≠ H + 1 → w2.heap[k]? = w1.heap[k]?
  way : (e = .returned (.tuple #[]) ∧ ∃ v2 l2, Rd w2 (H + 3) (H + 1) v2 l2 ∧ A l2 w2) ∨ (e = thrown (H + 1) ∧ (∃ v ad n c, v = .slice ad n c ∧ Blk w2 (H + 1) [v, .bool true, .bool true] 102) ∧ B w2)
/-- the world w' is w but for the blocks from H to H + 3 -/
structure Past (H : Nat) (w w' : World) : Prop where
  os : w'.os = w.os
  tape : w'.tape = w.tape
  output : w'.output = w.output
  size : w'.heap.size = w.heap.size
  block : ∀ k, k < H ∨ H + 4 ≤ k → w'.heap[k]? = w.heap[k]?
theorem Past.refl (H : Nat) (w : World) : Past H w w := ⟨rfl, rfl, rfl, rfl, fun _ _ => rfl⟩
theorem Past.setCell {H : Nat} {w w' : World} (h : Past H w w') (a : Addr) (ha : H ≤ a.block ∧ a.block < H + 4) (v : Value) : Past H w (w'.setCell a v) :=
  ⟨h.os, h.tape, h.output, by have := h.size; simp [World.setCell]; omega, fun k hk => (Below.heap_setCell _ _ _ _ (by omega)).trans (h.block k hk)⟩
set_option maxRecDepth 100000 in
set_option maxHeartbeats 1000000 in
theorem read_any (F : Nat) (caps : Array Value) (vb : Value) (l : List (BitVec 8)) (A : List (BitVec 8) → World → Prop) (B : World → Prop) (w : World) (hb : Reads w vb l) (hen : ∀ xs w, (callFunc F xs).run Try.prog w = .ok (.enter F xs) w)
    (hf : ∀ w1, w1.heap.size = w.heap.size + 4 → Below w.heap.size w w1 → Rd w1 (w.heap.size + 3) (w.heap.size + 1) vb l → Calls Try.prog F (#[.pointer (some ⟨w.heap.size + 3, 0, none⟩)] ++ caps) w1 (Does w.heap.size A B w1)) :
    Calls Try.prog 60 #[vb, .func (.func F) #[] caps] w fun e w' => ∃ w2, Past w.heap.size w2 w' ∧ ((∃ l2, A l2 w2 ∧ e = .returned (.int .i64 (if l2 = [] then 0 else 3))) ∨ (B w2 ∧ e = .returned (.int .i64 3))) := by
  have hmf : ∀ (fn : Fn) (first cap : Array Value) (w : World), (Instr.makeFunc fn first cap).run Try.prog w = .ok (.func fn first cap) w := fun _ _ _ _ => rfl
  have HF : Hid (∀ w1, w1.heap.size = w.heap.size + 4 → Below w.heap.size w w1 → Rd w1 (w.heap.size + 3) (w.heap.size + 1) vb l → Calls Try.prog F (#[.pointer (some ⟨w.heap.size + 3, 0, none⟩)] ++ caps) w1 (Does w.heap.size A B w1)) := hf
  have HB : Hid (Reads w vb l) := hb
  obtain ⟨ad, cap, rfl, _, _, _⟩ := id hb
  obtain ⟨n, HN⟩ : ∃ n, Hid (n = l.length) := ⟨_, rfl⟩
  rw [← HN.out] at HF HB ⊢
  have HE : Hid (∀ xs w, (callFunc F xs).run Try.prog w = .ok (.enter F xs) w) := hen
  clear hb hf hen
  have hB1 : Below w.heap.size w ((((w.alloc (.cells #[.int .i64 0] 31)).alloc (.cells #[.slice ad n cap, .bool true, .bool false] 102)).alloc (.cells #[.pointer (some ⟨w.heap.size + 1, 0, none⟩)] 100)).alloc (.cells #[.pointer (some ⟨w.heap.size + 1, 0, none⟩)] 104)) :=
    ((((Below.refl _ _).alloc (Nat.le_refl _) _).alloc (by simp) _).alloc (by simp; omega) _).alloc (by simp; omega) _
  have g0 : Blk ((((w.alloc (.cells #[.int .i64 0] 31)).alloc (.cells #[.slice ad n cap, .bool true, .bool false] 102)).alloc (.cells #[.pointer (some ⟨w.heap.size + 1, 0, none⟩)] 100)).alloc (.cells #[.pointer (some ⟨w.heap.size + 1, 0, none⟩)] 104)) w.heap.size [.int .i64 0] 31 := (((Blk.new w [.int .i64 0] 31).alloc _).alloc _).alloc _
  have g1 : Blk ((((w.alloc (.cells #[.int .i64 0] 31)).alloc (.cells #[.slice ad n cap, .bool true, .bool false] 102)).alloc (.cells #[.pointer (some ⟨w.heap.size + 1, 0, none⟩)] 100)).alloc (.cells #[.pointer (some ⟨w.heap.size + 1, 0, none⟩)] 104)) (w.heap.size + 1) [.slice ad n cap, .bool true, .bool false] 102 := ((Blk.new_at (w := w.alloc (.cells #[.int .i64 0] 31)) (by simp) [.slice ad n cap, .bool true, .bool false] 102).alloc _).alloc _
  have g2 : Blk ((((w.alloc (.cells #[.int .i64 0] 31)).alloc (.cells #[.slice ad n cap, .bool true, .bool false] 102)).alloc (.cells #[.pointer (some ⟨w.heap.size + 1, 0, none⟩)] 100)).alloc (.cells #[.pointer (some ⟨w.heap.size + 1, 0, none⟩)] 104)) (w.heap.size + 2) [.pointer (some ⟨w.heap.size + 1, 0, none⟩)] 100 := (Blk.new_at (w := (w.alloc (.cells #[.int .i64 0] 31)).alloc (.cells #[.slice ad n cap, .bool true, .bool false] 102)) (by simp) [.pointer (some ⟨w.heap.size + 1, 0, none⟩)] 100).alloc _
  have g3 : Blk ((((w.alloc (.cells #[.int .i64 0] 31)).alloc (.cells #[.slice ad n cap, .bool true, .bool false] 102)).alloc (.cells #[.pointer (some ⟨w.heap.size + 1, 0, none⟩)] 100)).alloc (.cells #[.pointer (some ⟨w.heap.size + 1, 0, none⟩)] 104)) (w.heap.size + 3) [.pointer (some ⟨w.heap.size + 1, 0, none⟩)] 104 := Blk.new_at (w := ((w.alloc (.cells #[.int .i64 0] 31)).alloc (.cells #[.slice ad n cap, .bool true, .bool false] 102)).alloc (.cells #[.pointer (some ⟨w.heap.size + 1, 0, none⟩)] 100)) (by simp) [.pointer (some ⟨w.heap.size + 1, 0, none⟩)] 104
  have hrd := HF.out _ (by simp) hB1 ⟨g3, g1, HB.out.below hB1⟩
  have HC : Hid (Calls Try.prog F (#[.pointer (some ⟨w.heap.size + 3, 0, none⟩)] ++ caps) ((((w.alloc (.cells #[.int .i64 0] 31)).alloc (.cells #[.slice ad n cap, .bool true, .bool false] 102)).alloc (.cells #[.pointer (some ⟨w.heap.size + 1, 0, none⟩)] 100)).alloc (.cells #[.pointer (some ⟨w.heap.size + 1, 0, none⟩)] 104)) (fun e w2 => Does w.heap.size A B ((((w.alloc (.cells #[.int .i64 0] 31)).alloc (.cells #[.slice ad n cap, .bool true, .bool false] 102)).alloc (.cells #[.pointer (some ⟨w.heap.size + 1, 0, none⟩)] 100)).alloc (.cells #[.pointer (some ⟨w.heap.size + 1, 0, none⟩)] 104)) e w2)) := hrd
  have HG0 : Hid (Blk _ w.heap.size [.int .i64 0] 31) := g0
  have HG2 : Hid (Blk _ (w.heap.size + 2) [.pointer (some ⟨w.heap.size + 1, 0, none⟩)] 100) := g2
  clear hrd g0 g1 g2 g3 hB1 HF
  go_enter_defers Try.func60, Try.ntmps60
  go_wp2_with fail
  rw [HE.out, Oper.upon_enter]
  generalize World.alloc _ (.cells #[.pointer (some ⟨w.heap.size + 1, 0, none⟩)] 104) = w1 at *
  refine Calls.mono HC.out ?_
  intro e w2 hD
  have e0 : Blk w2 w.heap.size [.int .i64 0] 31 := by
    have := HG0.out; unfold Blk at this ⊢; rw [hD.kept _ (by omega) (by omega) (by omega)]; exact this
  have e2 : Blk w2 (w.heap.size + 2) [.pointer (some ⟨w.heap.size + 1, 0, none⟩)] 100 := by
    have := HG2.out; unfold Blk at this ⊢; rw [hD.kept _ (by omega) (by omega) (by omega)]; exact this
  rcases hD.way with ⟨rfl, v2, l2, hrd2, hA⟩ | ⟨rfl, ⟨v, ad2, n2, c2, hv2, hbad⟩, hBB⟩
  · have ce : w2.cell? ⟨w.heap.size, 0, none⟩ = some (.int .i64 0) := e0.cell 0
    have fe : w2.frozen? ⟨w.heap.size, 0, none⟩ = false := e0.frozen 0
    obtain ⟨ad2, c2, hv2⟩ := hrd2.slice
    have HB2 : Hid (Blk w2 (w.heap.size + 1) [v2, .bool true, .bool false] 102) := hrd2.inp
    have HE2 : Hid (Blk w2 (w.heap.size + 2) [.pointer (some ⟨w.heap.size + 1, 0, none⟩)] 100) := e2
    have HE0 : Hid (Blk w2 w.heap.size [.int .i64 0] 31) := e0
    have HV2 : Hid (v2 = .slice ad2 l2.length c2) := hv2
    have HAA : Hid (A l2 w2) := hA
    clear hrd2 e0 e2 hv2 hD hA HC HG0 HG2
    go_wp2
    refine leaves_cons (f := 74) (args := #[.pointer (some ⟨w.heap.size + 2, 0, none⟩), .pointer (some ⟨w.heap.size, 0, none⟩)]) (by simp) (by simp [go_sem]) ?_
    refine (catch_idle (w.heap.size + 2) w.heap.size (w.heap.size + 1) v2 0 _ ad2 l2.length c2 HV2.out (HE2.out.other _ _ (by simp)) (HB2.out.other _ _ (by simp)) (by simpa using HE0.out.set 0 (.int .i64 0))).mono ?_
    rintro e u' w'' ⟨rfl, rfl, hw⟩
    obtain ⟨hc, hP⟩ : w''.cell? ⟨w.heap.size, 0, none⟩ = some (.int .i64 (if l2 = [] then 0 else 3)) ∧ Past w.heap.size w2 w'' := by
      have h1 : Past w.heap.size w2 ((w2.setCell ⟨w.heap.size, 0, none⟩ (.int .i64 0)).setCells (w.heap.size + 1) 0 [.slice none 0 0, .bool false, .bool false]) := ((((Past.refl _ _).setCell _ (by simp) _).setCell _ (by simp) _).setCell _ (by simp) _).setCell _ (by simp) _
      have hE : Blk ((w2.setCell ⟨w.heap.size, 0, none⟩ (.int .i64 0)).setCells (w.heap.size + 1) 0 [.slice none 0 0, .bool false, .bool false]) w.heap.size [.int .i64 0] 31 := Blk.others _ _ _ _ (by simpa using HE0.out.set 0 (.int .i64 0)) (by omega)
      by_cases h0 : l2 = []
      · subst h0
        rw [if_pos (by rfl)] at hw
        rw [if_pos rfl]
        subst hw
        exact ⟨by rw [((hE.set 0 (.int .i64 3)).set 0 (.int .i64 0)).cell]; rfl, (h1.setCell _ (by simp) _).setCell _ (by simp) _⟩
      · rw [if_neg (by simpa using h0)] at hw
        rw [if_neg h0]
        subst hw
        exact ⟨by rw [(hE.set 0 (.int .i64 3)).cell]; rfl, h1.setCell _ (by simp) _⟩
    clear hw
    have HFin : Hid (∃ w2, Past w.heap.size w2 w'' ∧ ((∃ l2', A l2' w2 ∧ Ending.returned (.int .i64 (if l2 = [] then 0 else 3)) = Ending.returned (.int .i64 (if l2' = [] then 0 else 3))) ∨ (B w2 ∧ Ending.returned (.int .i64 (if l2 = [] then 0 else 3)) = .returned (.int .i64 3)))) := ⟨w2, hP, Or.inl ⟨l2, HAA.out, rfl⟩⟩
    generalize (if l2 = [] then (0 : Int) else 3) = x at hc HFin
    clear hP
    simp [Leaves, settle, results, Try.results60, go_sem, hc]
    simpa using HFin.out
  · have HE2 : Hid (Blk w2 (w.heap.size + 2) [.pointer (some ⟨w.heap.size + 1, 0, none⟩)] 100) := e2
    have HE0 : Hid (Blk w2 w.heap.size [.int .i64 0] 31) := e0
    clear e0 e2 hD HC HG0 HG2
    unfold thrown
    go_wp2
    refine leaves_cons (f := 74) (args := #[.pointer (some ⟨w.heap.size + 2, 0, none⟩), .pointer (some ⟨w.heap.size, 0, none⟩)]) (by simp) (by simp [go_sem]) ?_
    refine (catch_threw (w.heap.size + 2) w.heap.size (w.heap.size + 1) v 0 _ ad2 n2 c2 hv2 HE2.out hbad HE0.out).mono ?_
    rintro e u' w'' ⟨rfl, rfl, hw⟩
    obtain ⟨hc, hP⟩ : w''.cell? ⟨w.heap.size, 0, none⟩ = some (.int .i64 3) ∧ Past w.heap.size w2 w'' := by
      have h1 : Past w.heap.size w2 (w2.setCells (w.heap.size + 1) 0 [.slice none 0 0, .bool false, .bool false]) := (((Past.refl _ _).setCell _ (by simp) _).setCell _ (by simp) _).setCell _ (by simp) _
      have hE : Blk (w2.setCells (w.heap.size + 1) 0 [.slice none 0 0, .bool false, .bool false]) w.heap.size [.int .i64 0] 31 := Blk.others _ _ _ _ HE0.out (by omega)
      subst hw
      exact ⟨by rw [(hE.set 0 (.int .i64 3)).cell]; rfl, h1.setCell _ (by simp) _⟩
    clear hw
    have HFin : Hid (∃ w2, Past w.heap.size w2 w'' ∧ ((∃ l2', A l2' w2 ∧ Ending.returned (.int .i64 3) = Ending.returned (.int .i64 (if l2' = [] then 0 else 3))) ∨ (B w2 ∧ Ending.returned (.int .i64 3) = .returned (.int .i64 3)))) := ⟨w2, hP, Or.inr ⟨hBB, rfl⟩⟩
    clear hP
    simp [Leaves, settle, results, Try.results60, go_sem, hc]
    simpa using HFin.out
end Go.Proofs.Ytldbcglakeggaaa

/- Texts that the proof leans on, one behind the other: slices.Chunk over bytes, and the function that it hands out: it yields all sectors, in order (layer 14). Plain: logs that are begun, opened again, and appended to (layer 14). What journal's functions must do; the statements' own fresh and works (layer 14). .. -/
import Derived.Test.YteklnooagjkclaaGreatDoorMxb
import Derived.RangeFuncBound
import Derived.RangeFuncCalls
import Derived.RangeFuncFrom
import Derived.RangeFuncLeaves
import Derived.Shelf.Abstract
import Derived.TacticsInMore
import Derived.Lib.SlBytesConst
import Derived.Deep.CutRange
import Derived.Test.YteklnooagjkclaaGreatDoorMxa
import Derived.Lib.Strings
import Derived.Shelf.Spec.SlicesInsertGrow
/- slices.Chunk over bytes, and the function that it hands out: it yields all sectors, in order (layer 14). -/
namespace Go.Proofs.YteklnooagjkclaaGreatDoor
open Go.RowKit Go.Shelf
set_option maxRecDepth 100000
attribute [local go_sem] Oper.semAt_some
theorem wpSeqIn_val {F : Fence} {n : Nat} {P : Program} {ops : Array Oper} {Q : Exit → Act → World → Prop} {rest : List Oper} {o : Oper} {a : Act} {w : World} (v : Value) (w' : World) (hw : Region.wanted o (yielded ops a.tmps) = true) (hd : ∀ c, o.op ≠ .defer c) (hab : o.about P w a.eval = none)
    (he : (execOp a.eval o).run P w = .ok (.value v) w') (h : wpListIn F n P ops Q rest (a.put o.dst v) w') : wpListIn F n P ops Q (o :: rest) a w := by
  unfold wpListIn
  simp only [hw, if_true]
  unfold Oper.wpIn
  refine ⟨fun f hf => (by rw [hab] at hf; cases hf), ?_⟩
  rw [Oper.semAt_eq _ _ _ hd, he]
  exact h
/-- a new block of one cell -/
structure NewC (v : Value) (t : TypeId) (w : World) (g : Nat) (w' : World) : Prop where
  ge : w.heap.size ≤ g
  blk : Blk w' g [v] t
  below : Below w.heap.size w w'
theorem NewC.of (v : Value) (t : TypeId) (w : World) : NewC v t w w.heap.size (w.alloc (.cells #[v] t)) := ⟨Nat.le_refl _, Blk.new w [v] t, below_alloc w _⟩
theorem blk_own {β : Type} (g : Nat) (cs : β → List Value) (t : TypeId) : Own (fun (s : β) W => Blk W g (cs s) t) := fun s X Y row hs hg hr => by
  have hs' : X.heap[g]? = some (.cells (cs s).toArray t (0, 0)) := hs
  show Y.heap[g]? = some (.cells (cs s).toArray t (0, 0))
  rw [hg.block g (Array.getElem?_eq_some_iff.1 hs').1 (fun e => ?_)]
  · exact hs'
  · obtain ⟨o, ho, hc⟩ := hr g e.symm
    rw [hs'] at ho; cases ho; cases hc
theorem Blk.put {W : World} {g : Nat} {cs : List Value} {t : TypeId} (h : Blk W g cs t) {D : Nat} {o o' : Obj} (hD : W.heap[D]? = some o) (ho : o.isCells = false) : Blk (W.putObj D o') g cs t :=
  blk_own (β := Unit) g (fun _ => cs) t () W _ (some D) h (grownBy_putObj' W D o') (fun r e => by cases e; exact ⟨o, hD, ho⟩)
/-- what stands below n₀ stays, but blocks of R -/
structure KpJ (n₀ : Nat) (R : Nat → Prop) (X Y : World) : Prop where
  os : Y.os = X.os
  tape : Y.tape = X.tape
  output : Y.output = X.output
  size : X.heap.size ≤ Y.heap.size
  block : ∀ k, k < n₀ → ¬ R k → Y.heap[k]? = X.heap[k]?
theorem KpJ.refl (n₀ : Nat) (R : Nat → Prop) (X : World) : KpJ n₀ R X X := ⟨rfl, rfl, rfl, Nat.le_refl _, fun _ _ _ => rfl⟩
theorem KpJ.trans {n₀ : Nat} {R : Nat → Prop} {X Y Z : World} (h : KpJ n₀ R X Y) (k : KpJ n₀ R Y Z) : KpJ n₀ R X Z := ⟨k.os.trans h.os, k.tape.trans h.tape, k.output.trans h.output, Nat.le_trans h.size k.size, fun i hi hr => (k.block i hi hr).trans (h.block i hi hr)⟩
theorem KpJ.blk {n₀ : Nat} {R : Nat → Prop} {X Y : World} (h : KpJ n₀ R X Y) {g : Nat} {cs : List Value} {t : TypeId} (hb : Blk X g cs t) (hg : g < n₀) (hr : ¬ R g) : Blk Y g cs t := by
  unfold Blk at hb ⊢
  rw [h.block g hg hr]
  exact hb
theorem KpJ.below {n₀ : Nat} {R : Nat → Prop} {X Y : World} (h : Below X.heap.size X Y) (hn : n₀ ≤ X.heap.size) : KpJ n₀ R X Y := ⟨h.os, h.tape, h.output, h.size, fun k hk _ => h.block k (Nat.lt_of_lt_of_le hk hn)⟩
theorem KpJ.put {n₀ : Nat} {R : Nat → Prop} {w : World} (hn : n₀ ≤ w.heap.size) (W : World) (l : Nat) (o o' : Obj) (hl : w.heap.size ≤ l) (h : W.heap[l]? = some o) (_ : o.isCells = false) (_ : o.isWalk = false) : KpJ n₀ R W (W.putObj l o') :=
  ⟨(grownBy_putObj' W l o').os, (grownBy_putObj' W l o').tape, (grownBy_putObj' W l o').output, (grownBy_putObj' W l o').size, fun k hk _ => (grownBy_putObj' W l o').block k (by have := (Array.getElem?_eq_some_iff.1 h).1; omega) (fun e => by cases e; omega)⟩
theorem KpJ.mut {R : Nat → Prop} {X Y : World} (h : KpJ X.heap.size R X Y) : Mut R X Y := ⟨h.os, h.tape, h.output, h.size, h.block⟩
theorem box_any (f : Operand → Value) (o : Oper) (ty : TypeId) (x : Operand) (v : Value) (h1 : v.cells = #[v]) (ho : o.op = .box ty x) (hx : f x = v) (w : World) : (execOp f o).run Tryz.prog w = .ok (.value (.pointer (some ⟨w.heap.size, 0, none⟩))) (w.alloc (.cells #[v] ty)) := by
  unfold execOp
  rw [ho]
  simp only [hx]
  show (do let a ← newRow ty v.cells; pure (Next.value (.pointer (some a)))).run Tryz.prog w = _
  rw [h1]
  rfl
set_option maxRecDepth 100000 in
set_option maxHeartbeats 8000000 in
theorem chunk_any (ad : Option Addr) (n c : Nat) (w : World) : Calls Tryz.prog 128 #[.slice ad n c, .int .i64 64] w fun e w' => ∃ gs gn, e = .returned (.func (.func 149) #[] #[.pointer (some ⟨gs, 0, none⟩), .pointer (some ⟨gn, 0, none⟩)]) ∧ Blk w' gs [.slice ad n c] 23 ∧ Blk w' gn [.int .i64 64] 3 ∧ w.heap.size ≤ gs ∧ w.heap.size ≤ gn ∧ Below w.heap.size w w' := by
  go_enter Tryz.func128, Tryz.ntmps128
  go_wp2
  go_ret
  have h1 := below_alloc w (.cells #[.slice ad n c] 23)
  have h2 := below_alloc (w.alloc (.cells #[.slice ad n c] 23)) (.cells #[.int .i64 64] 3)
  have h3 := Blk.new (w.alloc (.cells #[.slice ad n c] 23)) [.int .i64 64] 3
  have h4 := h1.size
  rw [show (w.alloc (.cells #[.slice ad n c] 23)).heap.size = w.heap.size + 1 by simp] at h3 h4
  exact ⟨_, _, rfl, (Blk.new w [.slice ad n c] 23).below h2 (Blk.new w [.slice ad n c] 23).lt, h3, Nat.le_refl _, h4, h1.trans (h2.mono h1.size)⟩
theorem run_min (f : Operand → Value) (o : Oper) (x y : Operand) (n m l : Nat) (hl : l = min n m) (ho : o.op = .call { callee := .builtin .min, args := #[x, y], argTypes := #[3, 3] }) (hx : f x = .int .i64 (n : Int)) (hy : f y = .int .i64 (m : Int)) (w : World) : (execOp f o).run Tryz.prog w = .ok (.value (.int .i64 (l : Int))) w := by
  unfold execOp
  rw [ho]
  first
    | (simp [go_sem, hx, hy]; omega)
    | (simp [go_sem, hx, hy]; split <;> omega)
    | (by_cases hmn : m < n <;> simp [go_sem, hx, hy, hmn] <;> omega)
theorem cutMax (b off n c l m : Nat) (hm : 0 < m) (hn : l + m ≤ n) (hc : n ≤ c) (H : Int) (hH : H = ((l + m : Nat) : Int)) (f : Operand → Value) (o : Oper) (x lo hi mx : Operand) (ho : o.op = .slice 23 x (some lo) (some hi) (some mx)) (hx : f x = .slice (some ⟨b, off, none⟩) n c) (hlo : f lo = .int .i64 (l : Int)) (hhi : f hi = .int .i64 H) (hmx : f mx = .int .i64 H) (w : World) :
    (execOp f o).run Tryz.prog w = .ok (.value (.slice (some ⟨b, off + l, none⟩) m m)) w := by
  subst hH
  have hs : (sizeOf 5).run Tryz.prog w = .ok 1 w := by kernel_rfl
  unfold execOp
  rw [ho]
  simp only [hx, hlo, hhi, hmx, Option.map_some, Sem.run_bind]
  rw [run_sliceAt_slice w 23 _ _ _ _ (by kernel_rfl), run_slice_lhm w 23 _ _ _ (by kernel_rfl) .i64 .i64 .i64 _ _ _ (by omega) (by omega) (by omega) (by omega)]
  rw [show Tryz.prog.elem 23 = 5 from by kernel_rfl, hs]
  simp only [Result.andThen_ok, sliced, Int.toNat_natCast, Nat.mul_one]
  rw [show l + m - l = m by omega, if_neg (by omega)]
  simp [Addr.add_mid]
theorem wpSeqIn_cutMax {F : Fence} {n : Nat} {ops : Array Oper} {Q : Exit → Act → World → Prop} {rest : List Oper} {o : Oper} {a : Act} {w : World} (x lo hi mx : Operand) (b off N c l m : Nat) (H : Int) (hm : 0 < m) (hn : l + m ≤ N) (hc : N ≤ c) (hH : H = ((l + m : Nat) : Int)) (ho : o.op = .slice 23 x (some lo) (some hi) (some mx)) (hx : a.eval x = .slice (some ⟨b, off, none⟩) N c) (hlo : a.eval lo = .int .i64 (l : Int)) (hhi : a.eval hi = .int .i64 H) (hmx : a.eval mx = .int .i64 H) (hw : Region.wanted o (yielded ops a.tmps) = true)
    (h : wpListIn F n Tryz.prog ops Q rest (a.put o.dst (.slice (some ⟨b, off + l, none⟩) m m)) w) : wpListIn F n Tryz.prog ops Q (o :: rest) a w :=
  wpSeqIn_val _ _ hw (by rw [ho]; intro c hc; cases hc) (by simp [Oper.about, ho]) (cutMax b off N c l m hm hn hc H hH _ o x lo hi mx ho hx hlo hhi hmx w) h
/-- the k-th sector of a slice -/
def chV : Value → Nat → Value
  | .slice (some a) _ _, k => .slice (some ⟨a.block, a.off + 64 * k, none⟩) 64 64
  | _, _ => .slice none 0 0
abbrev encsC (v : Value) (m : Nat) (k : Fin m) : Array Value := #[chV v k.val]
/-- the first k places -/
def frs (m k : Nat) : List (Fin m) := (List.finRange m).take k
theorem frs_snoc (m k : Nat) (hk : k < m) : frs m k ++ [⟨k, hk⟩] = frs m (k + 1) := by
  rw [frs, frs, List.take_add_one]
  congr 1
  simp [hk]
theorem frs_val (m k : Nat) (hk : k ≤ m) : (frs m k).map Fin.val = List.range k := by
  rw [frs, List.map_take]
  have e : (List.finRange m).map Fin.val = List.range m := by
    apply List.ext_getElem
    · simp
    · intro i h1 h2
      simp
  rw [e, List.take_range, Nat.min_eq_left hk]
theorem frs_len (m k : Nat) (hk : k ≤ m) : (frs m k).length = k := by
  have := congrArg List.length (frs_val m k hk)
  rw [List.length_map, List.length_range] at this
  exact this
set_option maxRecDepth 100000 in
set_option maxHeartbeats 8000000 in
theorem chunk_stops (n : Nat) {n₀ : Nat} {R : Nat → Prop} {gs gn : Nat} {ad : Option Addr} {N c m : Nat} (hN : N = 64 * m) (hm : m ≤ 100000) (w : World) (hn : n₀ ≤ w.heap.size) (hst : ∀ W, KpJ n₀ R w W → ∃ r, r.length = N ∧ Reads W (.slice ad N c) r) (hB : Blk w gs [.slice ad N c] 23) (hC : Blk w gn [.int .i64 64] 3) (hgs : gs < n₀ ∧ ¬ R gs) (hgn : gn < n₀ ∧ ¬ R gn) :
    SeqStopsK Fence.wide n Tryz.prog 149 #[.pointer (some ⟨gs, 0, none⟩), .pointer (some ⟨gn, 0, none⟩)] (encsC (.slice ad N c) m) (KpJ n₀ R) (fun xs => xs = frs m m) (fun xs => ∃ k, k ≤ m ∧ xs = frs m k) m w := fun lab J Jx W hW hJ hJx hY h0 => by
  have HST : Hid (∀ W, KpJ n₀ R w W → ∃ r, r.length = N ∧ Reads W (.slice ad N c) r) := hst
  have HKW : Hid (KpJ n₀ R w W) := KpJ.below hW hn
  have HBS : Hid (∀ W, KpJ n₀ R w W → Blk W gs [.slice ad N c] 23 ∧ Blk W gn [.int .i64 64] 3) := fun W h => ⟨h.blk hB hgs.1 hgs.2, h.blk hC hgn.1 hgn.2⟩
  have HN : Hid (N = 64 * m ∧ m ≤ 100000) := ⟨hN, hm⟩
  have HY : Aside (∀ pre x W1, J pre W1 → pre.length < m → YieldAt Fence.wide (n - 1) Tryz.prog lab (encsC (.slice ad N c) m x) W1 fun e W' => (e = .returned (.bool true) ∧ J (pre ++ [x]) W' ∧ KpJ n₀ R W1 W') ∨ (e = .returned (.bool false) ∧ Jx (pre ++ [x]) W')) := hY
  have HJ0 : Hid (J (frs m 0) W) := h0
  have HJA : Hid (∀ s X, J s X → J s X.drew) := fun s X hs => hJ s X X.drew none hs ⟨rfl, rfl, rfl, Nat.le_refl _, fun _ _ _ => rfl⟩ (fun r e => by cases e)
  clear hB hC hW hY h0 hJ hJx hst hN hm
  refine callsIn_wide.2 ?_
  simp only [List.append_toArray, List.cons_append, List.nil_append]
  go_enter Tryz.func149, Tryz.ntmps149
  go_wp2
  go_loopw [4] (fun i wr => ∃ k : Nat, k ≤ m ∧ i = .int .i64 ((64 * k : Nat) : Int) ∧ Hid (J (frs m k) wr) ∧ Hid (KpJ n₀ R w wr)) (fun i _ => 64 * m - (intOf i).toNat)
  case atStart => exact ⟨0, Nat.zero_le _, rfl, HJ0, HKW⟩
  case round =>
    clear HJ0 HKW
    obtain ⟨k, hk, rfl, HJK, HKP⟩ := hrel
    have c0 : wr.cell? ⟨gs, 0, none⟩ = some (.slice ad N c) := (HBS.out wr HKP.out).1.cell 0
    by_cases hlt : k < m
    case neg =>
      obtain rfl : k = m := by omega
      have hlk : ¬ (((64 * k : Nat) : Int) < (N : Int)) := by have := HN.out; omega
      go_wp2
      go_end0
      first
        | exact ⟨⟨_, rfl⟩, .inl ⟨_, rfl, HJK.out⟩⟩
        | exact ⟨⟨_, rfl⟩, .inl HJK.out⟩
    case pos =>
      obtain ⟨p, HP⟩ : ∃ p, Hid (p = 64 * k) := ⟨_, rfl⟩
      obtain ⟨p2, HP2⟩ : ∃ q, Hid (q = p + 64) := ⟨_, rfl⟩
      obtain ⟨q, HQ⟩ : ∃ q, Hid (q = N - p) := ⟨_, rfl⟩
      rw [← HP.out]
      have hpn : p + 64 ≤ N ∧ p2 < 10000000 := by have h1 := HN.out; have h2 := HP.out; have h3 := HP2.out; omega
      obtain ⟨r, hrl, hrd⟩ := HST.out wr HKP.out
      obtain ⟨b, off, had⟩ : ∃ b off, ad = some ⟨b, off, none⟩ := by
        obtain ⟨_, _, hv, _, _, hps⟩ := hrd
        simp only [Value.slice.injEq] at hv
        obtain ⟨b, off, h1, _⟩ := hps (by omega)
        exact ⟨b, off, by rw [hv.1]; exact h1⟩
      subst had
      have HCT : Hid (p < N ∧ N ≤ c ∧ p + 64 ≤ N ∧ (p2 : Int) = ((p + 64 : Nat) : Int) ∧ 64 = min 64 (N - p)) := ⟨by omega, (reads_nc hrd).2, hpn.1, by rw [HP2.out], by omega⟩
      have hlk : (p : Int) < (N : Int) := by omega
      have f1 : IntKind.i64.wrap ((p : Int) + 64) = (p2 : Int) := aJ HP2.out (by omega)
      clear hrd hrl hpn
      go_upto_region 3 with fail
      clear c0
      refine wp_region_held_drew (S := fun wx => Blk wx gs [.slice (some ⟨b, off, none⟩) N c] 23 ∧ Blk wx gn [.int .i64 64] 3) (by kernel_rfl) ⟨(HBS.out wr HKP.out).1.drew, (HBS.out wr HKP.out).2.drew⟩ ?_
      intro hS
      refine wpAnyH_take (i := 0) (v := .int .i64 64) rfl (by kernel_rfl) (by kernel_rfl) (by kernel_rfl) (fun _ _ _ h => h) (Or.inl ⟨by rfl, fun wx hx => by (have c0 : wx.cell? ⟨gn, 0, none⟩ = some (.int .i64 64) := hx.2.cell 0; simp [go_sem, c0])⟩) hS ?_
      simp only [Act.put, List.getElem_toArray, List.getElem_cons_zero, List.setIfInBounds_toArray, List.set_cons_zero, List.set_cons_succ]
      refine wpAnyH_take (i := 1) (v := .slice (some ⟨b, off, none⟩) N c) rfl (by kernel_rfl) (by kernel_rfl) (by kernel_rfl) (fun _ _ _ h => h) (Or.inl ⟨by rfl, fun wx hx => by (have c0 : wx.cell? ⟨gs, 0, none⟩ = some (.slice (some ⟨b, off, none⟩) N c) := hx.1.cell 0; simp [go_sem, c0])⟩) hS ?_
      simp only [Act.put, List.getElem_toArray, List.getElem_cons_succ, List.getElem_cons_zero, List.setIfInBounds_toArray, List.set_cons_zero, List.set_cons_succ]
      refine wpAnyH_take (i := 2) (v := .int .i64 (p : Int)) rfl (by kernel_rfl) (by kernel_rfl) (by kernel_rfl) (fun _ _ _ h => h) (Or.inl ⟨by rfl, fun wx hx => by simp [go_sem]⟩) hS ?_
      simp only [Act.put, List.getElem_toArray, List.getElem_cons_succ, List.getElem_cons_zero, List.setIfInBounds_toArray, List.set_cons_zero, List.set_cons_succ]
      refine wpAnyH_take (i := 3) (v := .slice (some ⟨b, off + p, none⟩) (N - p) (c - p)) rfl (by kernel_rfl) (by kernel_rfl) (by kernel_rfl) (fun _ _ _ h => h) (Or.inl ⟨by rfl, fun wx hx => by exact cutFrom b off N c p HCT.out.1 HCT.out.2.1 _ _ (.tmp 14) (.tmp 15) rfl rfl rfl _⟩) hS ?_
      simp only [Act.put, List.getElem_toArray, List.getElem_cons_succ, List.getElem_cons_zero, List.setIfInBounds_toArray, List.set_cons_zero, List.set_cons_succ]
      refine wpAnyH_take (i := 4) (v := .int .i64 ((N - p : Nat) : Int)) rfl (by kernel_rfl) (by kernel_rfl) (by kernel_rfl) (fun _ _ _ h => h) (Or.inl ⟨by rfl, fun wx hx => by simp [go_sem]⟩) hS ?_
      simp only [Act.put, List.getElem_toArray, List.getElem_cons_succ, List.getElem_cons_zero, List.setIfInBounds_toArray, List.set_cons_zero, List.set_cons_succ]
      refine wpAnyH_take (i := 5) (v := .int .i64 64) rfl (by kernel_rfl) (by kernel_rfl) (by kernel_rfl) (fun _ _ _ h => h) (Or.inl ⟨by rfl, fun wx hx => by exact run_min _ _ (.tmp 13) (.tmp 17) 64 (N - p) 64 HCT.out.2.2.2.2 rfl rfl rfl _⟩) hS ?_
      simp only [Act.put, List.getElem_toArray, List.getElem_cons_succ, List.getElem_cons_zero, List.setIfInBounds_toArray, List.set_cons_zero, List.set_cons_succ]
      refine wpAnyH_take (i := 6) (v := .int .i64 64) rfl (by kernel_rfl) (by kernel_rfl) (by kernel_rfl) (fun _ _ _ h => h) (Or.inl ⟨by rfl, fun wx hx => by simp [go_sem]⟩) hS ?_
      simp only [Act.put, List.getElem_toArray, List.getElem_cons_succ, List.getElem_cons_zero, List.setIfInBounds_toArray, List.set_cons_zero, List.set_cons_succ]
      refine wpAnyH_done (by kernel_rfl) ?_ _
      clear hS
      have HKD : Hid (KpJ n₀ R w wr.drew) := ⟨HKP.out.os, HKP.out.tape, HKP.out.output, HKP.out.size, HKP.out.block⟩
      have c0 : wr.drew.cell? ⟨gs, 0, none⟩ = some (.slice (some ⟨b, off, none⟩) N c) := (HBS.out _ HKD.out).1.cell 0
      obtain ⟨fn, tmps, assign, body, hy, hR⟩ := HY.out (frs m k) ⟨k, hlt⟩ wr.drew (HJA.out _ _ HJK.out) (by rw [frs_len m k hk]; exact hlt)
      rw [frs_snoc] at hR
      dsimp only [encsC, chV] at hy
      rw [← HP.out] at hy
      clear HJK
      go_upto_region 4 with fail
      refine (wpIn_wide (n := n)).1 ?_
      gi_wp2_with (first
        | (with_reducible refine wpSeqIn_cutMax (.tmp 20) (.tmp 21) (.tmp 24) (.tmp 27) b off N c p 64 (p2 : Int) (by decide) HCT.out.2.2.1 HCT.out.2.1 HCT.out.2.2.2.1 ?_ ?_ ?_ ?_ ?_ ?_ ?_
           · rfl
           · rfl
           · rfl
           · rfl
           · rfl
           · rfl))
      refine ⟨fun h => (nomatch h), ?_⟩
      refine hR.mono ?_
      clear hR hy c0
      rintro e W3 (⟨rfl, hJ3, hk3⟩ | ⟨rfl, hJx3⟩)
      · have HJ3 : Hid (J (frs m (k + 1)) W3) := hJ3
        have HK3 : Hid (KpJ n₀ R w W3) := HKD.out.trans hk3
        have c1 : W3.cell? ⟨gn, 0, none⟩ = some (.int .i64 64) := (HBS.out _ HK3.out).2.cell 0
        clear hJ3 hk3
        gi_wp2
        go_wp2
        go_roundw
        case rel => exact ⟨k + 1, by omega, by rw [HP2.out, HP.out]; rfl, HJ3, HK3⟩
        case measure => simp only [intOf]; have := HP2.out; have := HP.out; have := HN.out; omega
      · gi_wp2
        go_wp2
        refine bodyPost_ret (results_none rfl _ _ _) rfl ?_
        exact ⟨⟨_, rfl⟩, .inr ⟨_, ⟨k + 1, by omega, rfl⟩, hJx3⟩⟩
end Go.Proofs.YteklnooagjkclaaGreatDoor
/- Plain: logs that are begun, opened again, and appended to (layer 14). -/
namespace Go.Proofs.YteklnooagjkclaaGreatDoor
open Go.RowKit
set_option maxRecDepth 100000
theorem gen_zero (n : Nat) : genH (List.replicate n 0) = 0 := by
  unfold genH
  rw [if_pos]
  left
  rw [List.drop_replicate, List.take_replicate]
  have : ∀ m, rdNum (List.replicate m 0) = 0 := rd_zero
  exact this _
theorem half_zero (n k : Nat) : halfB (List.replicate n 0) k = List.replicate (min (halfN (List.replicate n (0 : BitVec 8))) (n - k * halfN (List.replicate n (0 : BitVec 8)))) 0 := by
  rw [halfB, List.drop_replicate, List.take_replicate]
theorem pick_zero (n : Nat) : pickB (List.replicate n 0) = (0, 0) := by
  unfold pickB
  rw [half_zero, half_zero, gen_zero, gen_zero]
  rfl
/-- a new disk, opened -/
theorem open_zero {m : Nat} (h1 : 8 ≤ m) (h2 : m ≤ 16384) : openX (zeroD m) = 0 ∧ (openS (zeroD m)).2 = ⟨0, 1, []⟩ ∧ Log (openD (zeroD m)) ⟨0, 1, []⟩ ∧ sizeD (openD (zeroD m)) = m := by
  have hl : (List.replicate (64 * m) (0 : BitVec 8)).length = 64 * m := List.length_replicate
  have hp := pick_zero (64 * m)
  have hJ : (openS (zeroD m)).2 = ⟨0, 1, []⟩ := by
    rw [zeroD_load]
    unfold openS
    rw [dump_idle, hp, if_pos rfl]
  obtain ⟨a, b, c, _⟩ := Log.open (s := List.replicate (64 * m) 0) (by rw [hl]; omega) (by rw [hl]; omega) (by rw [hp]; decide)
  rw [← zeroD_load, hJ] at b
  rw [← zeroD_load] at a c
  refine ⟨a, hJ, b, ?_⟩
  rw [c, hl]
  omega
theorem Log.read {D : DkT} {J : JnT} (h : Log D J) : readJ (dumpD D) = (J.gen, J.l) := by
  rw [h.idle, dump_idle]
  exact h.good.read
theorem Log.fits {D : DkT} {J : JnT} (h : Log D J) : 1 + secL J.l ≤ hsD D := by
  have h1 := h.good.size
  have h2 := halfN_eq D.safe
  have h3 := sizeL_eq J.l
  show _ ≤ D.safe.length / 64 / 2
  omega
/-- what the statements' own list is behind an append, and the answer -/
theorem app_ref (D : DkT) (J : JnT) (x : Bs) : (appE J D x = 0 ↔ chkX x ≠ 1 ∧ sizeL (J.l ++ [x]) + 64 ≤ 64 * (sizeD D / 2)) := by
  have h3 := sizeL_eq J.l
  rw [sizeL_snoc]
  unfold appE hsD
  by_cases hc : chkX x = 1
  · rw [if_pos hc]
    exact ⟨(fun e => by cases e), fun e => absurd hc e.1⟩
  · rw [if_neg hc]
    by_cases hs : sizeD D / 2 < 1 + secL J.l + secR x.length
    · rw [if_pos hs]
      exact ⟨(fun e => by cases e), fun e => by omega⟩
    · rw [if_neg hs]
      exact ⟨fun _ => ⟨hc, by omega⟩, fun _ => rfl⟩
end Go.Proofs.YteklnooagjkclaaGreatDoor
/- What journal's functions must do; the statements' own fresh and works (layer 14). -/
namespace Go.Proofs.YteklnooagjkclaaGreatDoor
open Go.RowKit
set_option maxRecDepth 100000
/-- blocks of either -/
def Un (P Q : Nat → Prop) : Nat → Prop := fun k => P k ∨ Q k
/-- a log and its disk that calls are made of -/
structure okJ (D : DkT) (J : JnT) : Prop where
  wt : D.wait = []
  lo : 8 ≤ sizeD D
  hi : sizeD D ≤ 100
  k1 : J.k ≤ 1
  g1 : 1 ≤ J.gen
  g2 : J.gen < 9223372036854775809
  fit : 1 + secL J.l ≤ hsD D
  ne : ∀ x ∈ J.l, x ≠ []
/-- a disk at block gd in blocks of P, and its log at block lg in blocks of Q -/
structure Pk (Lg : World → Nat → (Nat → Prop) → Nat → Nat → JnT → Prop) (w : World) (gd lg : Nat) (P Q : Nat → Prop) (D : DkT) (J : JnT) : Prop where
  dk : DkIs w gd P D
  lg : Lg w lg Q gd (sizeD D) J
  ap : ∀ k, Q k → ¬ P k
theorem DkIs.lt14 {w : World} {g : Nat} {P : Nat → Prop} {D : DkT} (h : DkIs w g P D) : ∀ k, P k → k < w.heap.size := fun k hk => by
  obtain ⟨gs, vw, fu, lf, hm, rfl⟩ := h
  exact hm.lt k hk
theorem Log.okJ {D : DkT} {J : JnT} (h : Log D J) (h1 : 8 ≤ sizeD D) (h2 : sizeD D ≤ 100) (h3 : J.gen < 9223372036854775809) : okJ D J :=
  ⟨by rw [h.idle]; rfl, h1, h2, h.good.hk, h.good.g1, h3, h.fits, fun x hx => (h.good.ne x hx).1⟩
def jn0 : JnT := ⟨0, 1, []⟩
/-- a text of one byte, of a constant: it stays whatever other blocks become -/
theorem wpSeq_constN {ops : Array Oper} {Q : Exit → Act → World → Prop} {rest : List Oper} {o : Oper} {a : Act} (x : Operand) (W : World) (c : BitVec 8) (v : Value) (hv : v = .int .u8 (c.toNat : Int)) (ho : o.op = .convert 23 23 x) (hx : a.eval x = .slice (some ⟨W.heap.size, 0, none⟩) 1 1) (hw : Region.wanted o (yielded ops a.tmps) = true)
    (h : ∀ g w', W.heap.size ≤ g → (∀ (P : Nat → Prop), ¬ P g → Sta P w' (fun X => Reads X (.slice (some ⟨g, 0, none⟩) 1 1) [c])) → Below W.heap.size W w' → wpList Tryz.prog ops Q rest (a.put o.dst (.slice (some ⟨g, 0, none⟩) 1 1)) w') : wpList Tryz.prog ops Q (o :: rest) a (W.alloc (.cells #[v] 5)) := by
  subst hv
  have hr := Go.Lib.run_convert_bytes_const (P := Tryz.prog) W 23 5 #[.int .u8 (c.toNat : Int)] 1 1 Tryz.underlying23 Tryz.underlying5
  refine wpSeq_val (.slice (some ⟨W.heap.size, 0, none⟩) 1 1) (W.alloc (.cells #[.int .u8 (c.toNat : Int)] 5 (1, 2))) hw ?_ (h W.heap.size (W.alloc (.cells #[.int .u8 (c.toNat : Int)] 5 (1, 2))) (Nat.le_refl _) (fun P hP X hX => ?_) (below_alloc _ _))
  · unfold execOp
    rw [ho]
    simp only [hx, Sem.run_bind]
    rw [hr]
    rfl
  · refine ⟨_, 1, rfl, Nat.le_refl _, (fun h => by cases h), fun _ => ⟨_, 0, rfl, fun j hj => ?_⟩⟩
    have hj0 : j = 0 := by simp at hj; exact hj
    subst hj0
    have hb := hX.block W.heap.size (by simp) hP
    unfold World.cell?
    rw [hb, heap_alloc_new W _]
    rfl
end Go.Proofs.YteklnooagjkclaaGreatDoor
/- The walk of journal's put, as it landed: sectors written in order, and synced (layer 14). -/
namespace Go.Proofs.YteklnooagjkclaaGreatDoor
open Go.RowKit Go.Shelf
set_option maxRecDepth 100000
attribute [local go_sem] Oper.semAt_some
def wrF (gd : Nat) : Value := .func (.func 89) #[.pointer (some ⟨gd, 0, none⟩)] #[]
def syF (gd : Nat) : Value := .func (.func 90) #[.pointer (some ⟨gd, 0, none⟩)] #[]
/-- a log's cells -/
def lgC (gd hs : Nat) (fl : Int) (k gen : Nat) (vr : Value) (u : Nat) : List Value := [wrF gd, syF gd, .int .i64 (hs : Int), .int .i64 fl, .int .i64 (k : Int), .int .u64 (gen : Int), vr, .int .i64 (u : Int)]
theorem secs_at : ∀ (m s : Nat) (r : Bs) (j : Nat), j < m → (secsOf s m r)[j]? = some (s + j, (r.drop (64 * j)).take 64)
  | 0, _, _, _, h => absurd h (by omega)
  | m + 1, s, r, 0, _ => by simp [secsOf]
  | m + 1, s, r, j + 1, h => by
    rw [secsOf, List.getElem?_cons_succ, secs_at m (s + 1) (r.drop 64) j (by omega), List.drop_drop]
    congr 2
    · omega
    · congr 2; omega
theorem secs_take (m s : Nat) (r : Bs) {j : Nat} (h : j < m) : (secsOf s m r).take (j + 1) = (secsOf s m r).take j ++ [(s + j, (r.drop (64 * j)).take 64)] := by
  rw [List.take_add_one, secs_at m s r j h]
  rfl
theorem put_wait (D : DkT) (i : Int) (b : Bs) : (putD13 D i b).wait.length ≤ D.wait.length + 1 := by
  unfold putD13
  split
  · omega
  split
  · omega
  split
  · omega
  · simp
/-- the writes of sectors, in some order -/
def wsN (at_ : Nat) (r : Bs) (l : List Nat) : List (Nat × Bs) := l.mapIdx fun j z => (at_ + j, (r.drop (64 * z)).take 64)
theorem wsN_snoc (at_ : Nat) (r : Bs) (l : List Nat) (z : Nat) : wsN at_ r (l ++ [z]) = wsN at_ r l ++ [(at_ + l.length, (r.drop (64 * z)).take 64)] := by simp [wsN]
theorem wsN_range (at_ m : Nat) (r : Bs) : ∀ k, k ≤ m → wsN at_ r (List.range k) = (secsOf at_ m r).take k
  | 0, _ => by simp [wsN]
  | k + 1, h => by rw [List.range_succ, wsN_snoc, wsN_range at_ m r k (by omega), secs_take m at_ r (by omega), List.length_range]
/-- writes that were done -/
def RunTo (D : DkT) (L : List (Nat × Bs)) (D' : DkT) : Prop := ∀ rest, runJ D (L.map some ++ rest) = runJ D' rest
theorem RunTo.zero (D : DkT) : RunTo D [] D := fun _ => rfl
theorem RunTo.next {D D' : DkT} {L : List (Nat × Bs)} (h : RunTo D L D') {p : Nat × Bs} (hx : putX13 D' (p.1 : Int) p.2 = 0) : RunTo D (L ++ [p]) (putD13 D' (p.1 : Int) p.2) := fun rest => by
  rw [List.map_append, List.append_assoc, h]
  show runJ D' (some p :: rest) = _
  rw [runJ, if_pos hx]
theorem RunTo.stop {D D' : DkT} {L : List (Nat × Bs)} (h : RunTo D L D') {p : Nat × Bs} (hx : putX13 D' (p.1 : Int) p.2 ≠ 0) (t : List (Option (Nat × Bs))) : runJ D ((L ++ [p]).map some ++ t) = (putD13 D' (p.1 : Int) p.2, putX13 D' (p.1 : Int) p.2) := by
  rw [List.map_append, List.append_assoc, h]
  show runJ D' (some p :: t) = _
  rw [runJ, if_neg hx]
theorem DkIs.cells {w : World} {g : Nat} {P : Nat → Prop} {D : DkT} (h : DkIs w g P D) : ∀ k, P k → ∃ cs t, w.heap[k]? = some (.cells cs t (0, 0)) := by
  obtain ⟨gs, vw, fu, lf, hm, rfl⟩ := h
  intro k hk
  rcases hk with rfl | rfl | hk
  · exact ⟨_, _, hm.me⟩
  · exact ⟨_, _, hm.sf⟩
  · rcases hm.wt with ⟨_, ⟨e, _⟩ | ⟨g2, cap2, cur2, e, _, hh2, _⟩⟩
    · rw [e] at hk; cases hk
    · rw [e] at hk
      have e2 : g2 = k := by simpa [Value.ownBlock] using hk
      rw [← e2]
      exact ⟨_, _, hh2⟩
theorem DkIs.same14 {w w' : World} {g : Nat} {P : Nat → Prop} {D : DkT} (h : DkIs w g P D) (hs : ∀ k, P k → w'.heap[k]? = w.heap[k]?) : DkIs w' g P D := by
  obtain ⟨gs, vw, fu, lf, hm, rfl⟩ := h
  exact ⟨gs, vw, fu, lf, hm.same hs, rfl⟩
theorem DkIs.own14 {X Y : World} {g : Nat} {P : Nat → Prop} {D : DkT} {row : Option Nat} (h : DkIs X g P D) (hg : X.grownBy Y row) (hr : ∀ r, row = some r → ∃ o : Obj, X.heap[r]? = some o ∧ o.isCells = false) : DkIs Y g P D := by
  refine h.same14 fun k hk => ?_
  obtain ⟨cs, t, hc⟩ := h.cells k hk
  refine hg.block k (Array.getElem?_eq_some_iff.1 hc).1 (fun e => ?_)
  obtain ⟨o, ho, hn⟩ := hr k e.symm
  rw [hc] at ho
  cases ho
  cases hn
theorem keeps_mut {Q : Nat → Prop} {X Y : World} (h : Mut Q X Y) (hc : ∀ k, Q k → ∃ cs t, X.heap[k]? = some (.cells cs t (0, 0))) : KeepsOthers X Y :=
  ⟨h.size, fun k o hk ho => by
    rw [h.block k (Array.getElem?_eq_some_iff.1 hk).1 (fun hq => ?_)]
    · exact hk
    · obtain ⟨cs, t, h2⟩ := hc k hq
      rw [hk] at h2
      cases h2
      cases ho⟩
/-- a region that is not left but by its end -/
def onlyNormal (Q : Exit → Act → World → Prop) : Exit → Act → World → Prop
  | .normal, a, w => Q .normal a w
  | _, _, _ => False
theorem wp_normal {c : Code} {Q : Exit → Act → World → Prop} {a : Act} {w : World} (h : c.wp Tryz.prog (onlyNormal Q) a w) : c.wp Tryz.prog Q a w :=
  wp_mono h (fun e a w h => by cases e <;> first | exact h | exact h.elim)
/-- what is changed by put -/
def puR (P : Nat → Prop) (lg g4 g6 : Nat) : Nat → Prop := fun k => P k ∨ k = lg ∨ k = g4 ∨ k = g6
/-- put's own memory, and the disk, behind j writes -/
structure PuI (v1 : World) (gd lg g3 g4 g6 : Nat) (P : Nat → Prop) (lc : Int → List Value) (D : DkT) (at_ m : Nat) (r : Bs) (fl : Int) (an : Nat) (rs : Int) (P' : Nat → Prop) (D' : DkT) (W : World) : Prop where
  dk : DkIs W gd P' D'
  gr : Grew v1 P P'
  lb : Blk W lg (lc fl) 144
  b3 : Blk W g3 [.pointer (some ⟨lg, 0, none⟩)] 96
  b4 : Blk W g4 [.int .i64 (an : Int)] 3
  b6 : Blk W g6 [.int .i64 rs] 26
  mv : Mut (puR P lg g4 g6) v1 W
theorem PuI.own {v1 : World} {gd lg g3 g4 g6 : Nat} {P : Nat → Prop} {lc : Int → List Value} {D : DkT} {at_ m : Nat} {r : Bs} {fl : Int} {an : Nat} {rs : Int} {P' : Nat → Prop} {D' : DkT} {X Y : World} {row : Option Nat} (h : PuI v1 gd lg g3 g4 g6 P lc D at_ m r fl an rs P' D' X) (hg : X.grownBy Y row) (hr : ∀ x, row = some x → v1.heap.size ≤ x ∧ ∃ o : Obj, X.heap[x]? = some o ∧ o.isCells = false) : PuI v1 gd lg g3 g4 g6 P lc D at_ m r fl an rs P' D' Y :=
  ⟨h.dk.own14 hg (fun x e => (hr x e).2), h.gr, blk_own (β := Unit) lg (fun _ => lc fl) _ () X Y row h.lb hg (fun x e => (hr x e).2), blk_own (β := Unit) g3 (fun _ => [.pointer (some ⟨lg, 0, none⟩)]) _ () X Y row h.b3 hg (fun x e => (hr x e).2), blk_own (β := Unit) g4 (fun _ => [.int .i64 (an : Int)]) _ () X Y row h.b4 hg (fun x e => (hr x e).2), blk_own (β := Unit) g6 (fun _ => [.int .i64 rs]) _ () X Y row h.b6 hg (fun x e => (hr x e).2),
    ⟨hg.os.trans h.mv.os, hg.tape.trans h.mv.tape, hg.output.trans h.mv.output, Nat.le_trans h.mv.size hg.size, fun k hk hn => (hg.block k (Nat.lt_of_lt_of_le hk h.mv.size) (fun e => by have := (hr k e.symm).1; omega)).trans (h.mv.block k hk hn)⟩⟩
/-- the loop so far -/
def PuJ (v1 : World) (gd lg g3 g4 g6 : Nat) (P : Nat → Prop) (lc : Int → List Value) (D : DkT) (at_ m : Nat) (r : Bs) (pre : List (Fin m)) (W : World) : Prop :=
  ∃ P' D', PuI v1 gd lg g3 g4 g6 P lc D at_ m r 0 (at_ + pre.length) 0 P' D' W ∧ RunTo D (wsN at_ r (pre.map Fin.val)) D' ∧ D'.wait.length ≤ D.wait.length + pre.length
/-- the loop left by an error -/
def PuX (v1 : World) (gd lg g3 g4 g6 : Nat) (P : Nat → Prop) (lc : Int → List Value) (D : DkT) (at_ m : Nat) (r : Bs) (c : Code) (pre : List (Fin m)) (W : World) : Prop :=
  c = .ret ∧ ∃ P' D' an x, PuI v1 gd lg g3 g4 g6 P lc D at_ m r x an x P' D' W ∧ ∀ t, runJ D ((wsN at_ r (pre.map Fin.val)).map some ++ t) = (D', x)
theorem wpSeq_box1 {ops : Array Oper} {Q : Exit → Act → World → Prop} {rest : List Oper} {o : Oper} {a : Act} {w : World} (ty : TypeId) (x : Operand) (v : Value) (h1 : v.cells = #[v]) (ho : o.op = .box ty x) (hx : a.eval x = v) (hw : Region.wanted o (yielded ops a.tmps) = true)
    (h : ∀ g w', NewC v ty w g w' → wpList Tryz.prog ops Q rest (a.put o.dst (.pointer (some ⟨g, 0, none⟩))) w') : wpList Tryz.prog ops Q (o :: rest) a w :=
  wpSeq_val _ _ hw (box_any _ _ ty x v h1 ho hx w) (h _ _ (NewC.of v ty w))
theorem wpSeq_allocEr {ops : Array Oper} {Q : Exit → Act → World → Prop} {rest : List Oper} {o : Oper} {a : Act} {w : World} (ho : o.op = .alloc 26) (hw : Region.wanted o (yielded ops a.tmps) = true)
    (h : ∀ g w', NewC (.int .i64 0) 26 w g w' → wpList Tryz.prog ops Q rest (a.put o.dst (.pointer (some ⟨g, 0, none⟩))) w') : wpList Tryz.prog ops Q (o :: rest) a w :=
  wpSeq_val _ _ hw (by unfold execOp; rw [ho]; kernel_rfl) (h _ _ (NewC.of (.int .i64 0) 26 w))
theorem chunk_reads {W : World} {ad : Option Addr} {N c m : Nat} {r : Bs} (h : Reads W (.slice ad N c) r) (hr : r.length = 64 * m) {k : Nat} (hk : k < m) : Reads W (chV (.slice ad N c) k) ((r.drop (64 * k)).take 64) := by
  obtain ⟨_, _, hv, _, _, hps⟩ := id h
  simp only [Value.slice.injEq] at hv
  obtain ⟨b, off, h1, _⟩ := hps (by omega)
  rw [← hv.1] at h1
  subst h1
  exact h.cutJ (64 * k) 64 64 (by omega) (Nat.le_refl _)
set_option maxRecDepth 100000 in
set_option maxHeartbeats 8000000 in
theorem jPut_any {w : World} {gd lg : Nat} {P : Nat → Prop} {D : DkT} (hs k gen u at_ m : Nat) (vr v : Value) (r : Bs) (hdk : DkIs w gd P D) (hlb : Blk w lg (lgC gd hs 0 k gen vr u) 144) (hnp : ¬ P lg) (hrl : r.length = 64 * m) (hm : m ≤ 100) (ha : at_ ≤ 100) (hwt : D.wait.length + m ≤ 200) (hst : Sta (Un P (fun x => x = lg)) w (fun W => Reads W v r)) :
    Calls Tryz.prog 102 #[.pointer (some ⟨lg, 0, none⟩), .int .i64 (at_ : Int), v] w fun e w' => e = .returned (.int .i64 (runJ D ((secsOf at_ m r).map some ++ [none])).2) ∧ ∃ P', DkIs w' gd P' (runJ D ((secsOf at_ m r).map some ++ [none])).1 ∧ Blk w' lg (lgC gd hs (runJ D ((secsOf at_ m r).map some ++ [none])).2 k gen vr u) 144 ∧ Mut (Un P (fun x => x = lg)) w w' ∧ Grew w P P' := by
  obtain ⟨DX, xX, HX⟩ : ∃ D2 x, Hid (runJ D ((secsOf at_ m r).map some ++ [none]) = (D2, x)) := ⟨(runJ D ((secsOf at_ m r).map some ++ [none])).1, (runJ D ((secsOf at_ m r).map some ++ [none])).2, rfl⟩
  rw [HX.out]
  show Calls Tryz.prog 102 _ w fun e w' => e = .returned (.int .i64 xX) ∧ ∃ P', DkIs w' gd P' DX ∧ Blk w' lg (lgC gd hs xX k gen vr u) 144 ∧ Mut (Un P (fun x => x = lg)) w w' ∧ Grew w P P'
  obtain ⟨N, HN⟩ : ∃ N, Hid (N = r.length) := ⟨_, rfl⟩
  obtain ⟨ad, c, hv⟩ : ∃ a c, v = .slice a N c := by obtain ⟨a, c, hv, _⟩ := hst.now; rw [← HN.out] at hv; exact ⟨a, c, hv⟩
  subst hv
  obtain ⟨lc, HLC⟩ : ∃ lc : Int → List Value, Hid (∀ x, lc x = lgC gd hs x k gen vr u) := ⟨fun x => lgC gd hs x k gen vr u, fun _ => rfl⟩
  have HLB : Hid (Blk w lg (lc 0) 144) := by rw [HLC.out]; exact hlb
  have HDK : Hid (DkIs w gd P D) := hdk
  have HNP : Hid (¬ P lg) := hnp
  have HBD : Hid (r.length = 64 * m ∧ m ≤ 100 ∧ at_ ≤ 100 ∧ D.wait.length + m ≤ 200) := ⟨hrl, hm, ha, hwt⟩
  have HST : Hid (Sta (Un P (fun x => x = lg)) w (fun W => Reads W (.slice ad N c) r)) := hst
  have cF : ∀ W, Blk W lg (lc 0) 144 → W.cell? ⟨lg, 3, none⟩ = some (.int .i64 0) := fun W h => by rw [HLC.out] at h; exact h.cell 3
  have HCF : Hid (∀ W x, Blk W lg (lc x) 144 → W.cell? ⟨lg, 0, none⟩ = some (wrF gd) ∧ W.cell? ⟨lg, 1, none⟩ = some (syF gd) ∧ W.cell? ⟨lg, 3, none⟩ = some (.int .i64 x) ∧ W.frozen? ⟨lg, 3, none⟩ = false) := fun W x h => by rw [HLC.out] at h; exact ⟨h.cell 0, h.cell 1, h.cell 3, h.frozen 3⟩
  have HSF : Hid (∀ W x y, Blk W lg (lc x) 144 → Blk (W.setCell ⟨lg, 3, none⟩ (.int .i64 y)) lg (lc y) 144) := fun W x y h => by rw [HLC.out] at h ⊢; exact h.set 3 _
  clear cF
  clear hdk hlb hnp hrl hm ha hwt hst
  refine (callsIn_wide (n := 4)).1 ?_
  refine callsIn_of_wp_marks Tryz.func102 rfl trivial ?_ rfl
  simp only [Tryz.ntmps102, List.size_toArray, List.length_cons, List.length_nil, Nat.reduceAdd, Nat.reduceSub, Array.replicate_succ, Array.replicate_zero, List.push_toArray, List.append_toArray, List.nil_append, List.cons_append]
  refine wpIn_wide.2 ?_
  have tk0 : Hid True := trivial
  have tk1 : Hid True := trivial
  have tk2 : Hid True := trivial
  have tk3 : Hid True := trivial
  go_wp2_with (first
    | (clear tk0; with_reducible refine wpSeq_box1 96 (.tmp 0) (.pointer (some ⟨lg, 0, none⟩)) rfl ?_ ?_ ?_ ?_
       · rfl
       · rfl
       · rfl
       intro g3 y1 nn
       have HN1 : Hid (NewC (.pointer (some ⟨lg, 0, none⟩)) 96 w g3 y1) := nn
       clear nn)
    | (clear tk1; with_reducible refine wpSeq_box1 3 (.tmp 1) (.int .i64 (at_ : Int)) rfl ?_ ?_ ?_ ?_
       · rfl
       · rfl
       · rfl
       intro g4 y2 nn
       have HN2 : Hid (NewC (.int .i64 (at_ : Int)) 3 y1 g4 y2) := nn
       clear nn)
    | (clear tk2; with_reducible refine wpSeq_allocEr ?_ ?_ ?_
       · rfl
       · rfl
       intro g6 y3 nn
       have hb3 : Below w.heap.size w y3 := HN1.out.below.trans ((HN2.out.below.mono HN1.out.below.size).trans (nn.below.mono (Nat.le_trans HN1.out.below.size HN2.out.below.size)))
       have h3 : Blk y2 g3 [.pointer (some ⟨lg, 0, none⟩)] 96 := HN1.out.blk.below HN2.out.below HN1.out.blk.lt
       have HB3 : Hid (Blk y3 g3 [.pointer (some ⟨lg, 0, none⟩)] 96) := h3.below nn.below h3.lt
       have HB4 : Hid (Blk y3 g4 [.int .i64 (at_ : Int)] 3) := HN2.out.blk.below nn.below HN2.out.blk.lt
       have HB6 : Hid (Blk y3 g6 [.int .i64 0] 26) := nn.blk
       have HGE : Hid (w.heap.size ≤ g3 ∧ w.heap.size ≤ g4 ∧ w.heap.size ≤ g6) := ⟨HN1.out.ge, Nat.le_trans HN1.out.below.size HN2.out.ge, Nat.le_trans (Nat.le_trans HN1.out.below.size HN2.out.below.size) nn.ge⟩
       have HBW : Hid (Below w.heap.size w y3) := hb3
       have HL3 : Hid (Blk y3 lg (lc 0) 144) := HLB.out.below hb3 HLB.out.lt
       have c3 : y3.cell? ⟨g3, 0, none⟩ = some (.pointer (some ⟨lg, 0, none⟩)) := HB3.out.cell 0
       have cF : y3.cell? ⟨lg, 3, none⟩ = some (.int .i64 0) := (HCF.out y3 0 HL3.out).2.2.1
       clear nn hb3 h3 HN1 HN2)
    | (clear tk3; go_at_call 128; refine (chunk_any ad N c _).mono ?_; rintro e0 v1 ⟨gs, gn, rfl, hs1, hs2, hg1, hg2, hz⟩
       have hl4 : g4 < y3.heap.size := HB4.out.lt
       replace HB3 : Hid (Blk v1 g3 [.pointer (some ⟨lg, 0, none⟩)] 96) := HB3.out.below hz HB3.out.lt
       replace HB4 : Hid (Blk v1 g4 [.int .i64 (at_ : Int)] 3) := HB4.out.below hz HB4.out.lt
       replace HB6 : Hid (Blk v1 g6 [.int .i64 0] 26) := HB6.out.below hz HB6.out.lt
       replace HL3 : Hid (Blk v1 lg (lc 0) 144) := HL3.out.below hz HL3.out.lt
       have HS1 : Hid (Blk v1 gs [.slice ad N c] 23 ∧ Blk v1 gn [.int .i64 64] 3 ∧ g4 ≠ gs ∧ g4 ≠ gn ∧ g6 ≠ gs ∧ g6 ≠ gn ∧ w.heap.size ≤ gs ∧ w.heap.size ≤ gn) := ⟨hs1, hs2, HB4.out.neT hs1 (by decide), by omega, HB6.out.neT hs1 (by decide), HB6.out.neT hs2 (by decide), Nat.le_trans HBW.out.size hg1, Nat.le_trans HBW.out.size hg2⟩
       replace HBW : Hid (Below w.heap.size w v1) := HBW.out.trans (hz.mono HBW.out.size)
       clear hz hs1 hs2 hg1 hg2 c3 cF hl4))
  have HLT : Hid (∀ k, P k → k < w.heap.size) := HDK.out.lt14
  have HLG : Hid (lg < w.heap.size) := HLB.out.lt
  have HNQ : Hid (∀ P0, Grew v1 P P0 → ¬ P0 lg ∧ ¬ P0 g3 ∧ ¬ P0 g4 ∧ ¬ P0 g6) := fun P0 hg => by
    have hs := HBW.out.size
    have hge := HGE.out
    have l3 := HB3.out.lt
    have l4 := HB4.out.lt
    have l6 := HB6.out.lt
    have hl := HLG.out
    refine ⟨fun h => ?_, fun h => ?_, fun h => ?_, fun h => ?_⟩
    · rcases hg _ h with h | h
      · exact HNP.out h
      · omega
    · rcases hg _ h with h | h
      · have := HLT.out _ h; omega
      · omega
    · rcases hg _ h with h | h
      · have := HLT.out _ h; omega
      · omega
    · rcases hg _ h with h | h
      · have := HLT.out _ h; omega
      · omega
  have HRM : Hid (∀ W, Mut (puR P lg g4 g6) v1 W → Mut (Un P (fun x => x = lg)) w W) := fun W h => ⟨h.os.trans HBW.out.os, h.tape.trans HBW.out.tape, h.output.trans HBW.out.output, Nat.le_trans HBW.out.size h.size, fun k hk hn => (h.block k (Nat.lt_of_lt_of_le hk HBW.out.size) (fun hr => by
    have hge := HGE.out
    rcases hr with hr | hr | hr | hr
    · exact hn (Or.inl hr)
    · exact hn (Or.inr hr)
    · omega
    · omega)).trans (HBW.out.block k hk)⟩
  have HTX : Hid (∀ W, Mut (puR P lg g4 g6) v1 W → Reads W (.slice ad N c) r) := fun W h => HST.out W (HRM.out W h)
  have HV0 : Hid (PuI v1 gd lg g3 g4 g6 P lc D at_ m r 0 at_ 0 P D v1) := ⟨HDK.out.same14 (fun k hk => HBW.out.block k (HLT.out k hk)), Grew.refl _ _, HL3.out, HB3.out, HB4.out, HB6.out, Mut.refl _ _⟩
  have HNS : Hid (¬ puR P lg g4 g6 gs ∧ ¬ puR P lg g4 g6 gn) := by
    have h1 := HS1.out
    have h2 := HLG.out
    refine ⟨fun h => ?_, fun h => ?_⟩
    · rcases h with h | h | h | h
      · have := HLT.out _ h; omega
      · omega
      · exact h1.2.2.1 h.symm
      · exact h1.2.2.2.2.1 h.symm
    · rcases h with h | h | h | h
      · have := HLT.out _ h; omega
      · omega
      · exact h1.2.2.2.1 h.symm
      · exact h1.2.2.2.2.2.1 h.symm
  refine (wpIn_wide (n := 4)).1 ?_
  refine wpIn_rangeFunc_ownF (F := Fence.wide) (α := Fin m) rfl (by omega) (gf := 149) (lb := #[.pointer (some ⟨gs, 0, none⟩), .pointer (some ⟨gn, 0, none⟩)]) rfl trivial (enters_of Tryz.func149 (by kernel_rfl) rfl)
    (chunk_stops 3 (n₀ := v1.heap.size) (R := puR P lg g4 g6) (ad := ad) (N := N) (c := c) (m := m) (HN.out.trans HBD.out.1) (Nat.le_trans HBD.out.2.1 (by decide)) v1 (Nat.le_refl _) (fun W h => ⟨r, HN.out.symm, HTX.out W h.mut⟩) HS1.out.1 HS1.out.2.1 ⟨HS1.out.1.lt, HNS.out.1⟩ ⟨HS1.out.2.1.lt, HNS.out.2⟩)
    KpJ.trans (fun W l o o' h1 h2 h3 h4 => KpJ.put (w := v1) (Nat.le_refl _) W l o o' h1 h2 h3 h4) (Below.refl _ _) (fun _ => rfl)
    (PuJ v1 gd lg g3 g4 g6 P lc D at_ m r) (PuX v1 gd lg g3 g4 g6 P lc D at_ m r)
    (fun s X Y row hs hg hr => by
      obtain ⟨P', D', h1, h2⟩ := hs
      exact ⟨P', D', h1.own hg hr, h2⟩)
    (fun c s X Y row hs hg hr => by
      obtain ⟨e, P', D', an, x, h1, h2⟩ := hs
      exact ⟨e, P', D', an, x, h1.own hg hr, h2⟩)
    ⟨P, D, HV0.out, RunTo.zero D, Nat.le_refl _⟩
    (fun z => { tmps := #[.pointer (some ⟨lg, 0, none⟩), .int .i64 (at_ : Int), .slice ad N c, .pointer (some ⟨g3, 0, none⟩), .pointer (some ⟨g4, 0, none⟩), undef, .pointer (some ⟨g6, 0, none⟩), chV (.slice ad N c) z.val, .pointer (some ⟨lg, 0, none⟩), .pointer (some ⟨lg, 0, none⟩), .pointer (some ⟨lg, 3, none⟩), .int .i64 0, .bool false, undef, undef, undef, undef, .slice ad N c, .func (.func 149) #[] #[.pointer (some ⟨gs, 0, none⟩), .pointer (some ⟨gn, 0, none⟩)], chV (.slice ad N c) z.val, undef, undef, undef, undef, undef, undef, undef, undef, undef, undef, undef, undef, undef, undef, undef, undef, undef, undef, undef, undef, undef, undef, undef, undef, undef, undef, undef, undef, undef, undef, undef, undef, undef], defers := [] }) ?assign ?body ?done ?stop
  case assign =>
    intro l z W K hK
    gi_wp2
    exact hK
  case body =>
    rintro lab pre z W ⟨P', D', hi, hrun, hwt⟩ hlen
    obtain ⟨an, HAN⟩ : ∃ an, Hid (an = at_ + pre.length) := ⟨_, rfl⟩
    obtain ⟨b, HB⟩ : ∃ b, Hid (b = (r.drop (64 * z.val)).take 64) := ⟨_, rfl⟩
    obtain ⟨x, HXX⟩ : ∃ x, Hid (x = putX13 D' (an : Int) b) := ⟨_, rfl⟩
    rw [← HAN.out] at hi
    have HI : Hid (PuI v1 gd lg g3 g4 g6 P lc D at_ m r 0 an 0 P' D' W) := hi
    have HRN : Hid (RunTo D (wsN at_ r (pre.map Fin.val)) D') := hrun
    have HWT : Hid (D'.wait.length ≤ D.wait.length + pre.length ∧ pre.length < m) := ⟨hwt, hlen⟩
    have HPU : Hid (∀ k, k < v1.heap.size → P' k → puR P lg g4 g6 k) := fun k hk h => (hi.gr k h).elim Or.inl (fun h2 => absurd h2 (by omega))
    have HCH : Hid (Sta P' W.drew (fun Y => Reads Y (chV (.slice ad N c) z.val) b)) := fun Y hY => by
      rw [HB.out]
      exact chunk_reads (HTX.out Y ((hi.mv.drew).trans HPU.out hY)) HBD.out.1 z.isLt
    have HWC : Hid (Calls Tryz.prog 89 #[.pointer (some ⟨gd, 0, none⟩), .int .i64 (an : Int), chV (.slice ad N c) z.val] W.drew fun e w' => ∃ P2, e = .returned (.int .i64 x) ∧ DkIs w' gd P2 (putD13 D' (an : Int) b) ∧ Mut P' W.drew w' ∧ Grew W.drew P' P2) := by
      rw [HXX.out]
      exact dkWrite_any (an : Int) _ b (hi.dk.same14 (w' := W.drew) (fun _ _ => rfl)) (by have h1 := HBD.out.2.2.2; omega) HCH.out
    clear hi hrun hwt hlen
    gi_wp2_with fail
    refine wpIn_round_held (S := fun wx => Blk wx g3 [.pointer (some ⟨lg, 0, none⟩)] 96 ∧ Blk wx g4 [.int .i64 (an : Int)] 3 ∧ wx.cell? ⟨lg, 0, none⟩ = some (wrF gd)) (by kernel_rfl) (by kernel_rfl) (by rintro ⟨_, _, h⟩; exact h) ⟨HI.out.b3.drew, HI.out.b4.drew, (HCF.out W 0 HI.out.lb).1⟩ ?_
    intro hS
    refine wpAnyH_take (i := 0) (v := .pointer (some ⟨lg, 0, none⟩)) rfl (by kernel_rfl) (by kernel_rfl) (by kernel_rfl) (fun _ _ _ h => h) (Or.inl ⟨by rfl, fun wx hx => by (have c0 : wx.cell? ⟨g3, 0, none⟩ = some (.pointer (some ⟨lg, 0, none⟩)) := hx.1.cell 0; simp [go_sem, c0])⟩) hS ?_
    simp only [Act.put, List.getElem_toArray, List.getElem_cons_zero, List.setIfInBounds_toArray, List.set_cons_zero, List.set_cons_succ]
    refine wpAnyH_take (i := 1) (v := .pointer (some ⟨lg, 0, none⟩)) rfl (by kernel_rfl) (by kernel_rfl) (by kernel_rfl) (fun _ _ _ h => h) (Or.inl ⟨by rfl, fun wx hx => by (have c0 : wx.cell? ⟨g3, 0, none⟩ = some (.pointer (some ⟨lg, 0, none⟩)) := hx.1.cell 0; simp [go_sem, c0])⟩) hS ?_
    simp only [Act.put, List.getElem_toArray, List.getElem_cons_succ, List.getElem_cons_zero, List.setIfInBounds_toArray, List.set_cons_zero, List.set_cons_succ]
    refine wpAnyH_take (i := 2) (v := .pointer (some ⟨lg, 0, none⟩)) rfl (by kernel_rfl) (by kernel_rfl) (by kernel_rfl) (fun _ _ _ h => h) (Or.inl ⟨by rfl, fun wx hx => by simp [go_sem]⟩) hS ?_
    simp only [Act.put, List.getElem_toArray, List.getElem_cons_succ, List.getElem_cons_zero, List.setIfInBounds_toArray, List.set_cons_zero, List.set_cons_succ]
    refine wpAnyH_take (i := 3) (v := .pointer (some ⟨lg, 0, none⟩)) rfl (by kernel_rfl) (by kernel_rfl) (by kernel_rfl) (fun _ _ _ h => h) (Or.inl ⟨by rfl, fun wx hx => by simp [go_sem]⟩) hS ?_
    simp only [Act.put, List.getElem_toArray, List.getElem_cons_succ, List.getElem_cons_zero, List.setIfInBounds_toArray, List.set_cons_zero, List.set_cons_succ]
    refine wpAnyH_take (i := 4) (v := wrF gd) rfl (by kernel_rfl) (by kernel_rfl) (by kernel_rfl) (fun _ _ _ h => h) (Or.inl ⟨by rfl, fun wx hx => by simp [go_sem, hx.2.2]⟩) hS ?_
    simp only [Act.put, List.getElem_toArray, List.getElem_cons_succ, List.getElem_cons_zero, List.setIfInBounds_toArray, List.set_cons_zero, List.set_cons_succ]
    refine wpAnyH_take (i := 5) (v := .int .i64 (an : Int)) rfl (by kernel_rfl) (by kernel_rfl) (by kernel_rfl) (fun _ _ _ h => h) (Or.inl ⟨by rfl, fun wx hx => by (have c0 : wx.cell? ⟨g4, 0, none⟩ = some (.int .i64 (an : Int)) := hx.2.1.cell 0; simp [go_sem, c0])⟩) hS ?_
    simp only [Act.put, List.getElem_toArray, List.getElem_cons_succ, List.getElem_cons_zero, List.setIfInBounds_toArray, List.set_cons_zero, List.set_cons_succ]
    refine wpAnyH_take (i := 6) (v := chV (.slice ad N c) z.val) rfl (by kernel_rfl) (by kernel_rfl) (by kernel_rfl) (fun _ _ _ h => h) (Or.inl ⟨by rfl, fun wx hx => by simp [go_sem]⟩) hS ?_
    simp only [Act.put, List.getElem_toArray, List.getElem_cons_succ, List.getElem_cons_zero, List.setIfInBounds_toArray, List.set_cons_zero, List.set_cons_succ]
    refine wpAnyH_enter 7 (by kernel_rfl) rfl (by rfl) (f := 89) (args := #[.pointer (some ⟨gd, 0, none⟩), .int .i64 (an : Int), chV (.slice ad N c) z.val]) (by simp [go_sem, wrF]) HWC.out ?_
    rintro e0 W2 ⟨P2, rfl, hd2, hm2, hg2⟩
    have hgr2 : Grew v1 P P2 := HI.out.gr.trans HI.out.mv.size hg2
    obtain ⟨n1, n3, n4, n6⟩ := HNQ.out P' HI.out.gr
    have HL2 : Hid (Blk W2 lg (lc 0) 144) := hm2.blk HI.out.lb.drew n1
    have HB32 : Hid (Blk W2 g3 [.pointer (some ⟨lg, 0, none⟩)] 96) := hm2.blk HI.out.b3.drew n3
    have HB42 : Hid (Blk W2 g4 [.int .i64 (an : Int)] 3) := hm2.blk HI.out.b4.drew n4
    have HB62 : Hid (Blk W2 g6 [.int .i64 0] 26) := hm2.blk HI.out.b6.drew n6
    obtain ⟨f1, f2, f3, f4⟩ := HCF.out W2 0 HL2.out
    replace hS : Blk W2 g3 [.pointer (some ⟨lg, 0, none⟩)] 96 ∧ Blk W2 g4 [.int .i64 (an : Int)] 3 ∧ W2.cell? ⟨lg, 0, none⟩ = some (wrF gd) := ⟨HB32.out, HB42.out, f1⟩
    refine ⟨_, rfl, hS, ?_⟩
    simp only [Act.put, List.getElem_toArray, List.getElem_cons_succ, List.getElem_cons_zero, List.setIfInBounds_toArray, List.set_cons_zero, List.set_cons_succ]
    refine wpAnyH_take (i := 8) (v := .pointer (some ⟨lg, 0, none⟩)) rfl (by kernel_rfl) (by kernel_rfl) (by kernel_rfl) (fun _ _ _ h => h) (Or.inl ⟨by rfl, fun wx hx => by simp [go_sem]⟩) hS ?_
    simp only [Act.put, List.getElem_toArray, List.getElem_cons_succ, List.getElem_cons_zero, List.setIfInBounds_toArray, List.set_cons_zero, List.set_cons_succ]
    refine wpAnyH_take (i := 9) (v := .pointer (some ⟨lg, 3, none⟩)) rfl (by kernel_rfl) (by kernel_rfl) (by kernel_rfl) (fun _ _ _ h => h) (Or.inl ⟨by rfl, fun wx hx => by simp [go_sem]⟩) hS ?_
    simp only [Act.put, List.getElem_toArray, List.getElem_cons_succ, List.getElem_cons_zero, List.setIfInBounds_toArray, List.set_cons_zero, List.set_cons_succ]
    obtain ⟨W3, HW3⟩ : ∃ y, Hid (y = W2.setCell ⟨lg, 3, none⟩ (.int .i64 x)) := ⟨_, rfl⟩
    have ho3 : Only lg W2 W3 := by rw [HW3.out]; exact Only.setCell (Only.refl _ _) _ _
    have hl3 : Blk W3 lg (lc x) 144 := by rw [HW3.out]; exact HSF.out W2 0 x HL2.out
    have hne3 : g3 ≠ lg := by have h1 := HGE.out; have h2 := HLG.out; omega
    have hne4 : g4 ≠ lg := by have h1 := HGE.out; have h2 := HLG.out; omega
    have hne6 : g6 ≠ lg := by have h1 := HGE.out; have h2 := HLG.out; omega
    replace hS : Blk W3 g3 [.pointer (some ⟨lg, 0, none⟩)] 96 ∧ Blk W3 g4 [.int .i64 (an : Int)] 3 ∧ W3.cell? ⟨lg, 0, none⟩ = some (wrF gd) := ⟨HB32.out.only ho3 hne3, HB42.out.only ho3 hne4, (HCF.out W3 x hl3).1⟩
    refine wpAnyH_skip 10 W3 (by kernel_rfl) rfl (by rfl) (by rw [HW3.out]; simp [go_sem, f3, f4]) hS ?_
    simp only [Act.put]
    refine wpAnyH_done (by kernel_rfl) ?_ _
    obtain ⟨m1, m3, m4, m6⟩ := HNQ.out P2 hgr2
    have HD3 : Hid (DkIs W3 gd P2 (putD13 D' (an : Int) b)) := hd2.same14 (fun k hk => ho3.block k (fun e => m1 (e ▸ hk)) (hd2.lt14 k hk))
    have HM3 : Hid (Mut (puR P' lg g4 g6) W W3) := ((mut_drew (puR P' lg g4 g6) W).trans (fun _ _ h => h) ((Mut.refl (puR P' lg g4 g6) W.drew).trans (fun _ _ h => Or.inl h) hm2)).trans (fun _ _ h => h) (ho3.mut (Or.inr (Or.inl rfl)))
    have HL3x : Hid (Blk W3 lg (lc x) 144) := hl3
    have HB33 : Hid (Blk W3 g3 [.pointer (some ⟨lg, 0, none⟩)] 96) := hS.1
    have HB43 : Hid (Blk W3 g4 [.int .i64 (an : Int)] 3) := hS.2.1
    have HB63 : Hid (Blk W3 g6 [.int .i64 0] 26) := HB62.out.only ho3 hne6
    have HG3 : Hid (Grew v1 P P2) := hgr2
    have HKC : Hid (∀ k, puR P' lg g4 g6 k → ∃ cs t, W.heap[k]? = some (.cells cs t (0, 0))) := fun k hk => by
      rcases hk with hk | rfl | rfl | rfl
      · exact HI.out.dk.cells k hk
      · exact ⟨_, _, HI.out.lb⟩
      · exact ⟨_, _, HI.out.b4⟩
      · exact ⟨_, _, HI.out.b6⟩
    have HPQ : Hid (∀ k, k < v1.heap.size → puR P' lg g4 g6 k → puR P lg g4 g6 k) := fun k hk h => by
      rcases h with h | h
      · exact HPU.out k hk h
      · exact Or.inr h
    have c3 : W3.cell? ⟨g3, 0, none⟩ = some (.pointer (some ⟨lg, 0, none⟩)) := hS.1.cell 0
    have c4 : W3.cell? ⟨g4, 0, none⟩ = some (.int .i64 (an : Int)) := hS.2.1.cell 0
    have d4 : W3.frozen? ⟨g4, 0, none⟩ = false := hS.2.1.frozen 0
    have c6 : W3.cell? ⟨g6, 0, none⟩ = some (.int .i64 0) := HB63.out.cell 0
    have d6 : W3.frozen? ⟨g6, 0, none⟩ = false := HB63.out.frozen 0
    have cF : W3.cell? ⟨lg, 3, none⟩ = some (.int .i64 x) := (HCF.out W3 x hl3).2.2.1
    have fan : IntKind.i64.wrap ((an : Int) + 1) = ((an + 1 : Nat) : Int) := by rw [IntKind.wrap_i64]; have h1 := HAN.out; have h2 := HBD.out; have h3 := HWT.out; omega
    have HLEN : Hid (an + 1 = at_ + (pre ++ [z]).length) := by show _ = _; rw [HAN.out, List.length_append]; rfl
    clear hS hl3 hne3 hne4 hne6 ho3 m1 m3 m4 m6 n1 n3 n4 n6 hd2 hm2 hg2 hgr2 f1 f2 f3 f4 HW3 HWC HCH
    have n34 : g3 ≠ g4 := HB33.out.neT HB43.out (by decide)
    have n64 : g6 ≠ g4 := HB63.out.neT HB43.out (by decide)
    have nl4 : lg ≠ g4 := HL3x.out.neT HB43.out (by decide)
    have n36 : g3 ≠ g6 := HB33.out.neT HB63.out (by decide)
    have nl6 : lg ≠ g6 := HL3x.out.neT HB63.out (by decide)
    have HWS : Hid (wsN at_ r ((pre ++ [z]).map Fin.val) = wsN at_ r (pre.map Fin.val) ++ [(an, b)]) := by
      show _ = _
      rw [List.map_append, List.map_cons, List.map_nil, wsN_snoc, List.length_map, HAN.out, HB.out]
    have HNE : Hid (g3 ≠ g4 ∧ g6 ≠ g4 ∧ lg ≠ g4 ∧ g3 ≠ g6 ∧ lg ≠ g6) := ⟨n34, n64, nl4, n36, nl6⟩
    clear n34 n64 nl4 n36 nl6
    by_cases hx0 : x = 0
    case pos =>
      subst hx0
      gi_wp2
      obtain ⟨W4, HW4⟩ : ∃ y, Hid (y = W3.setCell ⟨g4, 0, none⟩ (.int .i64 ((an : Int) + 1))) := ⟨_, rfl⟩
      have ho4 : Only g4 W3 W4 := by rw [HW4.out]; exact Only.setCell (Only.refl _ _) _ _
      have hb4 : Blk W4 g4 [.int .i64 ((at_ + (pre ++ [z]).length : Nat) : Int)] 3 := by rw [HW4.out, ← HLEN.out]; exact HB43.out.set 0 _
      rw [← HW4.out]
      have HM4 : Mut (puR P' lg g4 g6) W W4 := HM3.out.trans (fun _ _ h => h) (ho4.mut (Or.inr (Or.inr (Or.inl rfl))))
      obtain ⟨m1, m3, m4, m6⟩ := HNQ.out P2 HG3.out
      refine ⟨keeps_mut HM4 HKC.out, ⟨HM4.os, HM4.tape, HM4.output, HM4.size, fun k hk hn => HM4.block k (Nat.lt_of_lt_of_le hk HI.out.mv.size) (fun h => hn (HPQ.out k hk h))⟩, P2, putD13 D' (an : Int) b, ⟨HD3.out.same14 (fun k hk => ho4.block k (fun e => m4 (e ▸ hk)) (HD3.out.lt14 k hk)), HG3.out, HL3x.out.only ho4 HNE.out.2.2.1, HB33.out.only ho4 HNE.out.1, hb4, HB63.out.only ho4 HNE.out.2.1, HI.out.mv.trans HPQ.out HM4⟩, ?_, ?_⟩
      · rw [HWS.out]
        exact HRN.out.next (p := (an, b)) HXX.out.symm
      · have h1 := put_wait D' (an : Int) b
        have h2 := HWT.out.1
        rw [List.length_append]
        show _ ≤ D.wait.length + (pre.length + 1)
        omega
    case neg =>
      have q1 : (x != 0) = true := by rw [bne_iff_ne]; exact hx0
      gi_wp2
      obtain ⟨W4, HW4⟩ : ∃ y, Hid (y = W3.setCell ⟨g6, 0, none⟩ (.int .i64 x)) := ⟨_, rfl⟩
      have ho4 : Only g6 W3 W4 := by rw [HW4.out]; exact Only.setCell (Only.refl _ _) _ _
      have hb6 : Blk W4 g6 [.int .i64 x] 26 := by rw [HW4.out]; exact HB63.out.set 0 _
      rw [← HW4.out]
      have HM4 : Mut (puR P' lg g4 g6) W W4 := HM3.out.trans (fun _ _ h => h) (ho4.mut (Or.inr (Or.inr (Or.inr rfl))))
      obtain ⟨m1, m3, m4, m6⟩ := HNQ.out P2 HG3.out
      refine ⟨keeps_mut HM4 HKC.out, rfl, P2, putD13 D' (an : Int) b, an, x, ⟨HD3.out.same14 (fun k hk => ho4.block k (fun e => m6 (e ▸ hk)) (HD3.out.lt14 k hk)), HG3.out, HL3x.out.only ho4 HNE.out.2.2.2.2, HB33.out.only ho4 HNE.out.2.2.2.1, HB43.out.only ho4 (Ne.symm HNE.out.2.1), hb6, HI.out.mv.trans HPQ.out HM4⟩, fun t => ?_⟩
      rw [HWS.out, HXX.out]
      exact HRN.out.stop (p := (an, b)) (by rw [← HXX.out]; exact hx0) t
  case done =>
    rintro Dd xs W hD hxs ⟨P', D', hi, hrun, hwt⟩ hK
    subst hxs
    rw [frs_val m m (Nat.le_refl _), wsN_range at_ m r m (Nat.le_refl _), List.take_of_length_le (by rw [secs_len]; exact Nat.le_refl _)] at hrun
    rw [frs_len m m (Nat.le_refl _)] at hwt hi
    have HXE : Hid (DX = syncD13 D' ∧ xX = syncX13 D') := by
      have h := HX.out
      rw [hrun, runJ] at h
      by_cases h0 : syncX13 D' = 0
      · rw [if_pos h0, runJ] at h
        exact ⟨(congrArg Prod.fst h).symm, by rw [h0]; exact (congrArg Prod.snd h).symm⟩
      · rw [if_neg h0] at h
        exact ⟨(congrArg Prod.fst h).symm, (congrArg Prod.snd h).symm⟩
    have HI : Hid (PuI v1 gd lg g3 g4 g6 P lc D at_ m r 0 (at_ + m) 0 P' D' W) := hi
    have HSC : Hid (Calls Tryz.prog 90 #[.pointer (some ⟨gd, 0, none⟩)] W.drew fun e w' => ∃ P2, e = .returned (.int .i64 xX) ∧ DkIs w' gd P2 DX ∧ Mut P' W.drew w' ∧ Grew W.drew P' P2) := by
      rw [HXE.out.1, HXE.out.2]
      exact dkSync_any (hi.dk.same14 (w' := W.drew) (fun _ _ => rfl)) (by have h1 := HBD.out.2.2.2; omega)
    have HPQ : Hid (∀ k, k < v1.heap.size → puR P' lg g4 g6 k → puR P lg g4 g6 k) := fun k hk h => by
      rcases h with h | h
      · exact (hi.gr k h).elim Or.inl (fun h2 => absurd h2 (by omega))
      · exact Or.inr h
    have HKD : Hid (W.heap[Dd]? = some (.deferred (some []))) := hK
    have HKG : Hid (v1.heap.size ≤ Dd) := hD
    clear hi hrun hwt hK hD
    gi_wp2_with fail
    go_wp2_with fail
    refine wp_normal ?_
    refine wp_region_held_drew (S := fun wx => Blk wx g3 [.pointer (some ⟨lg, 0, none⟩)] 96 ∧ wx.cell? ⟨lg, 1, none⟩ = some (syF gd)) (by kernel_rfl) ⟨HI.out.b3.drew, (HCF.out W 0 HI.out.lb).2.1⟩ ?_
    intro hS
    refine wpAnyH_take (i := 0) (v := .pointer (some ⟨lg, 0, none⟩)) rfl (by kernel_rfl) (by kernel_rfl) (by kernel_rfl) (fun _ _ _ h => h) (Or.inl ⟨by rfl, fun wx hx => by (have c0 : wx.cell? ⟨g3, 0, none⟩ = some (.pointer (some ⟨lg, 0, none⟩)) := hx.1.cell 0; simp [go_sem, c0])⟩) hS ?_
    simp only [Act.put, List.getElem_toArray, List.getElem_cons_zero, List.setIfInBounds_toArray, List.set_cons_zero, List.set_cons_succ]
    refine wpAnyH_take (i := 1) (v := .pointer (some ⟨lg, 0, none⟩)) rfl (by kernel_rfl) (by kernel_rfl) (by kernel_rfl) (fun _ _ _ h => h) (Or.inl ⟨by rfl, fun wx hx => by (have c0 : wx.cell? ⟨g3, 0, none⟩ = some (.pointer (some ⟨lg, 0, none⟩)) := hx.1.cell 0; simp [go_sem, c0])⟩) hS ?_
    simp only [Act.put, List.getElem_toArray, List.getElem_cons_succ, List.getElem_cons_zero, List.setIfInBounds_toArray, List.set_cons_zero, List.set_cons_succ]
    refine wpAnyH_take (i := 2) (v := .pointer (some ⟨lg, 0, none⟩)) rfl (by kernel_rfl) (by kernel_rfl) (by kernel_rfl) (fun _ _ _ h => h) (Or.inl ⟨by rfl, fun wx hx => by simp [go_sem]⟩) hS ?_
    simp only [Act.put, List.getElem_toArray, List.getElem_cons_succ, List.getElem_cons_zero, List.setIfInBounds_toArray, List.set_cons_zero, List.set_cons_succ]
    refine wpAnyH_take (i := 3) (v := .pointer (some ⟨lg, 1, none⟩)) rfl (by kernel_rfl) (by kernel_rfl) (by kernel_rfl) (fun _ _ _ h => h) (Or.inl ⟨by rfl, fun wx hx => by simp [go_sem]⟩) hS ?_
    simp only [Act.put, List.getElem_toArray, List.getElem_cons_succ, List.getElem_cons_zero, List.setIfInBounds_toArray, List.set_cons_zero, List.set_cons_succ]
    refine wpAnyH_take (i := 4) (v := syF gd) rfl (by kernel_rfl) (by kernel_rfl) (by kernel_rfl) (fun _ _ _ h => h) (Or.inl ⟨by rfl, fun wx hx => by simp [go_sem, hx.2]⟩) hS ?_
    simp only [Act.put, List.getElem_toArray, List.getElem_cons_succ, List.getElem_cons_zero, List.setIfInBounds_toArray, List.set_cons_zero, List.set_cons_succ]
    refine wpAnyH_enter 5 (by kernel_rfl) rfl (by rfl) (f := 90) (args := #[.pointer (some ⟨gd, 0, none⟩)]) (by simp [go_sem, syF]) HSC.out ?_
    rintro e0 W2 ⟨P2, rfl, hd2, hm2, hg2⟩
    have hgr2 : Grew v1 P P2 := HI.out.gr.trans HI.out.mv.size hg2
    obtain ⟨n1, n3, n4, n6⟩ := HNQ.out P' HI.out.gr
    have HL2 : Hid (Blk W2 lg (lc 0) 144) := hm2.blk HI.out.lb.drew n1
    have HB32 : Hid (Blk W2 g3 [.pointer (some ⟨lg, 0, none⟩)] 96) := hm2.blk HI.out.b3.drew n3
    have HB62 : Hid (Blk W2 g6 [.int .i64 0] 26) := hm2.blk HI.out.b6.drew n6
    have HK2 : Hid (W2.heap[Dd]? = some (.deferred (some []))) := (keeps_mut hm2 (fun k hk => HI.out.dk.cells k hk)).same Dd _ HKD.out rfl
    obtain ⟨f1, f2, f3, f4⟩ := HCF.out W2 0 HL2.out
    replace hS : Blk W2 g3 [.pointer (some ⟨lg, 0, none⟩)] 96 ∧ W2.cell? ⟨lg, 1, none⟩ = some (syF gd) := ⟨HB32.out, f2⟩
    refine ⟨_, rfl, hS, ?_⟩
    simp only [Act.put, List.getElem_toArray, List.getElem_cons_succ, List.getElem_cons_zero, List.setIfInBounds_toArray, List.set_cons_zero, List.set_cons_succ]
    refine wpAnyH_take (i := 6) (v := .pointer (some ⟨lg, 0, none⟩)) rfl (by kernel_rfl) (by kernel_rfl) (by kernel_rfl) (fun _ _ _ h => h) (Or.inl ⟨by rfl, fun wx hx => by simp [go_sem]⟩) hS ?_
    simp only [Act.put, List.getElem_toArray, List.getElem_cons_succ, List.getElem_cons_zero, List.setIfInBounds_toArray, List.set_cons_zero, List.set_cons_succ]
    refine wpAnyH_take (i := 7) (v := .pointer (some ⟨lg, 3, none⟩)) rfl (by kernel_rfl) (by kernel_rfl) (by kernel_rfl) (fun _ _ _ h => h) (Or.inl ⟨by rfl, fun wx hx => by simp [go_sem]⟩) hS ?_
    simp only [Act.put, List.getElem_toArray, List.getElem_cons_succ, List.getElem_cons_zero, List.setIfInBounds_toArray, List.set_cons_zero, List.set_cons_succ]
    obtain ⟨W3, HW3⟩ : ∃ y, Hid (y = W2.setCell ⟨lg, 3, none⟩ (.int .i64 xX)) := ⟨_, rfl⟩
    have ho3 : Only lg W2 W3 := by rw [HW3.out]; exact Only.setCell (Only.refl _ _) _ _
    have hl3 : Blk W3 lg (lc xX) 144 := by rw [HW3.out]; exact HSF.out W2 0 xX HL2.out
    have hne3 : g3 ≠ lg := by have h1 := HGE.out; have h2 := HLG.out; omega
    have hne6 : g6 ≠ lg := by have h1 := HGE.out; have h2 := HLG.out; omega
    replace hS : Blk W3 g3 [.pointer (some ⟨lg, 0, none⟩)] 96 ∧ W3.cell? ⟨lg, 1, none⟩ = some (syF gd) := ⟨HB32.out.only ho3 hne3, (HCF.out W3 xX hl3).2.1⟩
    refine wpAnyH_skip 8 W3 (by kernel_rfl) rfl (by rfl) (by rw [HW3.out]; simp [go_sem, f3, f4]) hS ?_
    simp only [Act.put]
    refine wpAnyH_done (by kernel_rfl) ?_ _
    obtain ⟨m1, m3, m4, m6⟩ := HNQ.out P2 hgr2
    have HD3 : Hid (DkIs W3 gd P2 DX) := hd2.same14 (fun k hk => ho3.block k (fun e => m1 (e ▸ hk)) (hd2.lt14 k hk))
    have HM3 : Hid (Mut (puR P' lg g4 g6) W W3) := ((mut_drew (puR P' lg g4 g6) W).trans (fun _ _ h => h) ((Mut.refl (puR P' lg g4 g6) W.drew).trans (fun _ _ h => Or.inl h) hm2)).trans (fun _ _ h => h) (ho3.mut (Or.inr (Or.inl rfl)))
    have HL3x : Hid (Blk W3 lg (lc xX) 144) := hl3
    have HB63 : Hid (Blk W3 g6 [.int .i64 0] 26) := HB62.out.only ho3 hne6
    have HG3 : Hid (Grew v1 P P2) := hgr2
    have HK3 : Hid (W3.heap[Dd]? = some (.deferred (some []))) := by
      show _ = _
      rw [ho3.block Dd (by have h1 := HKG.out; have h2 := HLG.out; have h3 := HBW.out.size; omega) (Array.getElem?_eq_some_iff.1 HK2.out).1]
      exact HK2.out
    have c3 : W3.cell? ⟨g3, 0, none⟩ = some (.pointer (some ⟨lg, 0, none⟩)) := hS.1.cell 0
    have c6 : W3.cell? ⟨g6, 0, none⟩ = some (.int .i64 0) := HB63.out.cell 0
    have d6 : W3.frozen? ⟨g6, 0, none⟩ = false := HB63.out.frozen 0
    have cF : W3.cell? ⟨lg, 3, none⟩ = some (.int .i64 xX) := (HCF.out W3 xX hl3).2.2.1
    clear hS hl3 hne3 hne6 ho3 m1 m3 m4 n1 n3 n4 n6 hd2 hm2 hg2 hgr2 f1 f2 f3 f4 HW3 HSC
    simp only [onlyNormal]
    go_wp2
    obtain ⟨W4, HW4⟩ : ∃ y, Hid (y = W3.setCell ⟨g6, 0, none⟩ (.int .i64 xX)) := ⟨_, rfl⟩
    have ho4 : Only g6 W3 W4 := by rw [HW4.out]; exact Only.setCell (Only.refl _ _) _ _
    have hb6 : Blk W4 g6 [.int .i64 xX] 26 := by rw [HW4.out]; exact HB63.out.set 0 _
    have nl6 : lg ≠ g6 := HL3x.out.neT HB63.out (by decide)
    have hk4 : W4.heap[Dd]? = some (.deferred (some [])) := by
      rw [ho4.block Dd (fun e => by have h := HB63.out; unfold Blk at h; rw [← e, HK3.out] at h; cases h) (Array.getElem?_eq_some_iff.1 HK3.out).1]
      exact HK3.out
    rw [← HW4.out]
    have HM4 : Mut (puR P lg g4 g6) v1 W4 := HI.out.mv.trans HPQ.out (HM3.out.trans (fun _ _ h => h) (ho4.mut (Or.inr (Or.inr (Or.inr rfl)))))
    refine ⟨by simp, .inl ⟨_, _, rfl, run_takeDeferred hk4, ?_⟩⟩
    have hc5 := (hb6.put hk4 rfl (o' := .deferred none)).cell 0
    have hgp := grownBy_putObj' W4 Dd (.deferred none)
    have hd5 : DkIs (W4.putObj Dd (.deferred none)) gd P2 DX := (HD3.out.same14 (w' := W4) (fun k hk => ho4.block k (fun e => m6 (e ▸ hk)) (HD3.out.lt14 k hk))).own14 hgp (fun x e => by cases e; exact ⟨_, hk4, rfl⟩)
    have hl5 : Blk (W4.putObj Dd (.deferred none)) lg (lc xX) 144 := (HL3x.out.only ho4 nl6).put hk4 rfl
    have hm5 : Mut (puR P lg g4 g6) v1 (W4.putObj Dd (.deferred none)) := ⟨hgp.os.trans HM4.os, hgp.tape.trans HM4.tape, hgp.output.trans HM4.output, Nat.le_trans HM4.size hgp.size, fun k hk hn => (hgp.block k (Nat.lt_of_lt_of_le hk HM4.size) (fun e => by cases e; have := HKG.out; omega)).trans (HM4.block k hk hn)⟩
    refine ⟨.int .i64 xX, ?_, rfl, P2, hd5, by rw [← HLC.out]; exact hl5, HRM.out _ hm5, fun k hk => (HG3.out k hk).imp id (fun h => Nat.le_trans HBW.out.size h)⟩
    simp at hc5
    simp [results, Tryz.f102, go_sem, hc5]
  case stop =>
    rintro Dd cc pre W hD ⟨kk, hk, rfl⟩ ⟨rfl, P', D', an, x, hi, hrun⟩ hK
    rw [frs_val m kk hk, wsN_range at_ m r kk hk] at hrun
    have hxe : D' = DX ∧ x = xX := by
      have h1 := hrun (((secsOf at_ m r).drop kk).map some ++ [none])
      rw [← List.append_assoc, ← List.map_append, List.take_append_drop, HX.out] at h1
      exact ⟨(congrArg Prod.fst h1).symm, (congrArg Prod.snd h1).symm⟩
    obtain ⟨rfl, rfl⟩ := hxe
    have HI : Hid (PuI v1 gd lg g3 g4 g6 P lc D at_ m r x an x P' D' W) := hi
    have HKD : Hid (W.heap[Dd]? = some (.deferred (some []))) := hK
    have HKG : Hid (v1.heap.size ≤ Dd) := hD
    clear hi hrun hK hD
    gi_wp2
    refine ⟨by simp, .inl ⟨_, _, rfl, run_takeDeferred HKD.out, ?_⟩⟩
    have hc5 := (HI.out.b6.put HKD.out rfl (o' := .deferred none)).cell 0
    have hI5 : PuI v1 gd lg g3 g4 g6 P lc D at_ m r x an x P' D' (W.putObj Dd (.deferred none)) := HI.out.own (grownBy_putObj' W Dd (.deferred none)) (fun x e => by cases e; exact ⟨HKG.out, _, HKD.out, rfl⟩)
    refine ⟨.int .i64 x, ?_, rfl, P', hI5.dk, by rw [← HLC.out]; exact hI5.lb, HRM.out _ hI5.mv, fun k hk => (hI5.gr k hk).imp id (fun h => Nat.le_trans HBW.out.size h)⟩
    simp at hc5
    simp [results, Tryz.f102, go_sem, hc5]
end Go.Proofs.YteklnooagjkclaaGreatDoor
/- The walks of journal's copies, All, Gen, Room and fit, as they landed (layer 14). -/
namespace Go.Proofs.YteklnooagjkclaaGreatDoor
open Go.RowKit
set_option maxRecDepth 100000
def nilL (n : Nat) : List Value := List.replicate n (.slice none 0 0)
/-- the block g holds the texts xs, and room for n in all; the texts lie behind it -/
structure RowJ (w : World) (g n : Nat) (us : List Value) (xs : List Bs) : Prop where
  blk : Blk w g (us ++ nilL (n - us.length)) 23
  len : us.length = xs.length
  good : ∀ j u, us[j]? = some u → OwnB w (g + 1) u (xs.getD j [])
  le : us.length ≤ n
theorem RowJ.next {w w' : World} {g n : Nat} {us : List Value} {xs : List Bs} (h : RowJ w g n us xs) (hb : Below w.heap.size w w') : RowJ w' g n us xs :=
  ⟨h.blk.below hb h.blk.lt, h.len, fun j u hj => (h.good j u hj).sameJ fun k hk => hb.block k ((h.good j u hj).ltJ k hk).2, h.le⟩
theorem RowJ.put {w : World} {g n k : Nat} {us : List Value} {xs : List Bs} {u : Value} {t : Bs} (h : RowJ w g n us xs) (hk : us.length = k) (hn : k < n) (hu : OwnB w (g + 1) u t) : RowJ (w.setCell ⟨g, k, none⟩ u) g n (us ++ [u]) (xs ++ [t]) := by
  have o6 : Only g w (w.setCell ⟨g, k, none⟩ u) := Only.setCell (Only.refl g w) k _
  have up : ∀ x t, OwnB w (g + 1) x t → OwnB (w.setCell ⟨g, k, none⟩ u) (g + 1) x t := fun x t hx => hx.sameJ fun j hj => o6.block j (by have := (hx.ltJ j hj).1; omega) (hx.ltJ j hj).2
  refine ⟨?_, by rw [List.length_append, List.length_append, h.len]; rfl, fun j x hj => ?_, by rw [List.length_append, List.length_singleton]; omega⟩
  · have h1 := h.blk.set k u
    have e : (us ++ nilL (n - us.length)).set k u = us ++ [u] ++ nilL (n - (us ++ [u]).length) := by
      rw [← hk, List.set_append_right _ _ (Nat.le_refl _), Nat.sub_self, List.length_append, List.length_singleton]
      obtain ⟨m, hm⟩ : ∃ m, n - us.length = m + 1 := ⟨n - us.length - 1, by omega⟩
      rw [hm, show n - (us.length + 1) = m by omega, nilL, List.replicate_succ, List.set_cons_zero, List.append_assoc]
      rfl
    rw [e] at h1
    exact h1
  · by_cases hjl : j < us.length
    · rw [List.getElem?_append_left hjl] at hj
      have h1 := h.good j x hj
      have h2 : (xs ++ [t]).getD j [] = xs.getD j [] := by
        rw [List.getD_eq_getElem?_getD, List.getD_eq_getElem?_getD, List.getElem?_append_left (by rw [← h.len]; exact hjl)]
      rw [h2]
      exact up _ _ h1
    · rw [List.getElem?_append_right (by omega)] at hj
      have hj0 : j = us.length := by
        have := (List.getElem?_eq_some_iff.1 hj).1
        simp at this
        omega
      subst hj0
      simp at hj
      subst hj
      have h2 : (xs ++ [t]).getD us.length [] = t := by
        rw [List.getD_eq_getElem?_getD, h.len, List.getElem?_append_right (Nat.le_refl _), Nat.sub_self]
        rfl
      rw [h2]
      exact up _ _ hu
theorem RowJ.tx {w : World} {g n base : Nat} {us : List Value} {xs : List Bs} (h : RowJ w g n us xs) (hn : us.length = n) (hb : base ≤ g) (hm : n ≤ 1000000) (hw : base ≤ w.heap.size) : TxJ base (.slice (some ⟨g, 0, none⟩) n n) us xs w := by
  refine ⟨?_, h.len, fun j u hj => ownB_lower (h.good j u hj) (by omega), hw⟩
  have hb2 := h.blk
  rw [hn, Nat.sub_self, nilL, List.replicate_zero, List.append_nil] at hb2
  subst hn
  exact ⟨by rw [Nat.mul_one], Or.inr ⟨g, us.length, us.toArray, rfl, hb, hb2, Nat.le_refl _, by unfold maxLen; omega, by simp, by simp⟩⟩
set_option maxRecDepth 100000 in
set_option maxHeartbeats 8000000 in
theorem jRoom_any {gd hs k gen u lg : Nat} {fl : Int} {vr : Value} {w : World} (hlb : Blk w lg (lgC gd hs fl k gen vr u) 144) (hu : u ≤ hs) (hh : hs < 1000000) : Calls Tryz.prog 78 #[.pointer (some ⟨lg, 0, none⟩)] w fun e w' => e = .returned (.int .i64 ((min 1048576 (64 * (hs - u) - 57) : Nat) : Int)) ∧ Below w.heap.size w w' := by
  have HLB : Hid (Blk w lg (lgC gd hs fl k gen vr u) 144) := hlb
  obtain ⟨m, HM⟩ : ∃ m, Hid (m = hs - u) := ⟨_, rfl⟩
  have f1 : IntKind.i64.wrap ((hs : Int) - (u : Int)) = (m : Int) := by rw [IntKind.wrap_i64]; have := HM.out; omega
  rw [← HM.out]
  obtain ⟨r, HR⟩ : ∃ r, Hid (r = min 1048576 (64 * m - 57)) := ⟨_, rfl⟩
  have HC : Hid (∀ W, Calls Tryz.prog 99 #[.int .i64 (m : Int)] W fun e w' => e = .returned (.int .i64 (r : Int)) ∧ w' = W) := fun W => by rw [HR.out]; exact jRoom1_any m (by have := HM.out; omega) W
  rw [← HR.out]
  clear hlb hu hh
  go_enter Tryz.func78, Tryz.ntmps78
  go_upto_region 1 with fail
  refine wp_region_held_drew (S := fun wx => Blk wx lg (lgC gd hs fl k gen vr u) 144) (by kernel_rfl) HLB.out.drew ?_
  intro hS
  refine wpAnyH_take (i := 0) (v := .pointer (some ⟨lg, 0, none⟩)) rfl (by kernel_rfl) (by kernel_rfl) (by kernel_rfl) (fun _ _ _ h => h) (Or.inl ⟨by rfl, fun wx hx => by simp [go_sem]⟩) hS ?_
  simp only [Act.put, List.getElem_toArray, List.getElem_cons_zero, List.setIfInBounds_toArray, List.set_cons_zero, List.set_cons_succ]
  refine wpAnyH_take (i := 1) (v := .pointer (some ⟨lg, 0, none⟩)) rfl (by kernel_rfl) (by kernel_rfl) (by kernel_rfl) (fun _ _ _ h => h) (Or.inl ⟨by rfl, fun wx hx => by simp [go_sem]⟩) hS ?_
  simp only [Act.put, List.getElem_toArray, List.getElem_cons_succ, List.getElem_cons_zero, List.setIfInBounds_toArray, List.set_cons_zero, List.set_cons_succ]
  refine wpAnyH_take (i := 2) (v := .pointer (some ⟨lg, 2, none⟩)) rfl (by kernel_rfl) (by kernel_rfl) (by kernel_rfl) (fun _ _ _ h => h) (Or.inl ⟨by rfl, fun wx hx => by simp [go_sem]⟩) hS ?_
  simp only [Act.put, List.getElem_toArray, List.getElem_cons_succ, List.getElem_cons_zero, List.setIfInBounds_toArray, List.set_cons_zero, List.set_cons_succ]
  refine wpAnyH_take (i := 3) (v := .int .i64 (hs : Int)) rfl (by kernel_rfl) (by kernel_rfl) (by kernel_rfl) (fun _ _ _ h => h) (Or.inl ⟨by rfl, fun wx hx => by (have c0 : wx.cell? ⟨lg, 2, none⟩ = some (.int .i64 (hs : Int)) := hx.cell 2; simp [go_sem, c0])⟩) hS ?_
  simp only [Act.put, List.getElem_toArray, List.getElem_cons_succ, List.getElem_cons_zero, List.setIfInBounds_toArray, List.set_cons_zero, List.set_cons_succ]
  refine wpAnyH_take (i := 4) (v := .pointer (some ⟨lg, 0, none⟩)) rfl (by kernel_rfl) (by kernel_rfl) (by kernel_rfl) (fun _ _ _ h => h) (Or.inl ⟨by rfl, fun wx hx => by simp [go_sem]⟩) hS ?_
  simp only [Act.put, List.getElem_toArray, List.getElem_cons_succ, List.getElem_cons_zero, List.setIfInBounds_toArray, List.set_cons_zero, List.set_cons_succ]
  refine wpAnyH_take (i := 5) (v := .pointer (some ⟨lg, 0, none⟩)) rfl (by kernel_rfl) (by kernel_rfl) (by kernel_rfl) (fun _ _ _ h => h) (Or.inl ⟨by rfl, fun wx hx => by simp [go_sem]⟩) hS ?_
  simp only [Act.put, List.getElem_toArray, List.getElem_cons_succ, List.getElem_cons_zero, List.setIfInBounds_toArray, List.set_cons_zero, List.set_cons_succ]
  refine wpAnyH_take (i := 6) (v := .pointer (some ⟨lg, 4, none⟩)) rfl (by kernel_rfl) (by kernel_rfl) (by kernel_rfl) (fun _ _ _ h => h) (Or.inl ⟨by rfl, fun wx hx => by simp [go_sem]⟩) hS ?_
  simp only [Act.put, List.getElem_toArray, List.getElem_cons_succ, List.getElem_cons_zero, List.setIfInBounds_toArray, List.set_cons_zero, List.set_cons_succ]
  refine wpAnyH_take (i := 7) (v := .pointer (some ⟨lg, 7, none⟩)) rfl (by kernel_rfl) (by kernel_rfl) (by kernel_rfl) (fun _ _ _ h => h) (Or.inl ⟨by rfl, fun wx hx => by simp [go_sem]⟩) hS ?_
  simp only [Act.put, List.getElem_toArray, List.getElem_cons_succ, List.getElem_cons_zero, List.setIfInBounds_toArray, List.set_cons_zero, List.set_cons_succ]
  refine wpAnyH_take (i := 8) (v := .int .i64 (u : Int)) rfl (by kernel_rfl) (by kernel_rfl) (by kernel_rfl) (fun _ _ _ h => h) (Or.inl ⟨by rfl, fun wx hx => by (have c0 : wx.cell? ⟨lg, 7, none⟩ = some (.int .i64 (u : Int)) := hx.cell 7; simp [go_sem, c0])⟩) hS ?_
  simp only [Act.put, List.getElem_toArray, List.getElem_cons_succ, List.getElem_cons_zero, List.setIfInBounds_toArray, List.set_cons_zero, List.set_cons_succ]
  refine wpAnyH_take (i := 9) (v := .int .i64 (m : Int)) rfl (by kernel_rfl) (by kernel_rfl) (by kernel_rfl) (fun _ _ _ h => h) (Or.inl ⟨by rfl, fun wx hx => by simp [go_sem, f1]⟩) hS ?_
  simp only [Act.put, List.getElem_toArray, List.getElem_cons_succ, List.getElem_cons_zero, List.setIfInBounds_toArray, List.set_cons_zero, List.set_cons_succ]
  refine wpAnyH_enter 10 (by kernel_rfl) rfl (by rfl) (f := 99) (args := #[.int .i64 (m : Int)]) (by simp [go_sem]) (HC.out _) ?_
  rintro e0 y1 ⟨rfl, hy1⟩
  subst hy1
  refine ⟨_, rfl, hS, ?_⟩
  simp only [Act.put, List.getElem_toArray, List.getElem_cons_succ, List.getElem_cons_zero, List.setIfInBounds_toArray, List.set_cons_zero, List.set_cons_succ]
  refine wpAnyH_take (i := 11) (v := .int .i64 (r : Int)) rfl (by kernel_rfl) (by kernel_rfl) (by kernel_rfl) (fun _ _ _ h => h) (Or.inl ⟨by rfl, fun wx hx => by simp [go_sem]⟩) hS ?_
  simp only [Act.put, List.getElem_toArray, List.getElem_cons_succ, List.getElem_cons_zero, List.setIfInBounds_toArray, List.set_cons_zero, List.set_cons_succ]
  refine wpAnyH_done (by kernel_rfl) ?_ _
  go_wp2
  go_ret
  exact ⟨rfl, (Below.refl _ _).drew⟩
end Go.Proofs.YteklnooagjkclaaGreatDoor
/- The walks of journal's begin and next, as they landed (layer 14). -/
namespace Go.Proofs.YteklnooagjkclaaGreatDoor
open Go.RowKit
set_option maxRecDepth 100000
theorem Blk.seg {w : World} {g off : Nat} {A B B2 C : List Value} {t : TypeId} (h : Blk w g (A ++ (B ++ C)) t) (hl : B2.length = B.length) (ho : A.length = off) : Blk (w.setCells g off B2) g (A ++ (B2 ++ C)) t := by
  subst ho
  have h2 := setCells_eq g B2 A.length w _ t h (by simp only [List.length_append]; omega)
  have e : (A ++ (B ++ C)).take A.length ++ B2 ++ (A ++ (B ++ C)).drop (A.length + B2.length) = A ++ (B2 ++ C) := by
    rw [List.take_left, ← List.drop_drop, List.drop_left, hl, List.drop_left, List.append_assoc]
  rwa [e] at h2
theorem run_two : ∀ (a b : List (Option (Nat × Bs))) (D : DkT), runJ D (a ++ b) = if (runJ D a).2 = 0 then runJ (runJ D a).1 b else runJ D a
  | [], b, D => by simp [runJ]
  | some p :: a, b, D => by
    rw [List.cons_append, runJ, runJ]
    by_cases h : putX13 D (p.1 : Int) p.2 = 0
    · rw [if_pos h, if_pos h, run_two a b]
    · rw [if_neg h, if_neg h, if_neg h]
  | none :: a, b, D => by
    rw [List.cons_append, runJ, runJ]
    by_cases h : syncX13 D = 0
    · rw [if_pos h, if_pos h, run_two a b]
    · rw [if_neg h, if_neg h, if_neg h]
theorem sync_wait {D : DkT} (h : syncX13 D = 0) : (syncD13 D).wait = [] := by
  unfold syncX13 at h
  unfold syncD13
  by_cases h1 : D.down
  · rw [if_pos h1] at h; cases h
  rw [if_neg h1] at h ⊢
  by_cases h2 : D.left = 0
  · rw [if_pos h2] at h; cases h
  rw [if_neg h2]
theorem seg_wait : ∀ (l : List (Nat × Bs)) (D : DkT), (runJ D (l.map some ++ [none])).2 = 0 → (runJ D (l.map some ++ [none])).1.wait = []
  | [], D, h => by
    rw [List.map_nil, List.nil_append, runJ] at h ⊢
    by_cases h1 : syncX13 D = 0
    · rw [if_pos h1, runJ]; exact sync_wait h1
    · rw [if_neg h1] at h; exact absurd h h1
  | p :: l, D, h => by
    rw [List.map_cons, List.cons_append, runJ] at h ⊢
    by_cases h1 : putX13 D (p.1 : Int) p.2 = 0
    · rw [if_pos h1] at h ⊢; exact seg_wait l _ h
    · rw [if_neg h1] at h; exact absurd h h1
theorem run_size : ∀ (l : List (Option (Nat × Bs))) (D : DkT), okD D → sizeD (runJ D l).1 = sizeD D ∧ okD (runJ D l).1
  | [], _, h => ⟨rfl, h⟩
  | some p :: l, D, h => by
    have e : sizeD (putD13 D (p.1 : Int) p.2) = sizeD D := by rw [sizeD, size_put]; rfl
    rw [runJ]
    by_cases h1 : putX13 D (p.1 : Int) p.2 = 0
    · rw [if_pos h1]
      have h2 := run_size l _ (h.put (p.1 : Int) p.2)
      exact ⟨h2.1.trans e, h2.2⟩
    · rw [if_neg h1]; exact ⟨e, h.put _ _⟩
  | none :: l, D, h => by
    rw [runJ]
    by_cases h1 : syncX13 D = 0
    · rw [if_pos h1]
      have h2 := run_size l _ h.sync
      exact ⟨h2.1.trans (size_sync h), h2.2⟩
    · rw [if_neg h1]; exact ⟨size_sync h, h.sync⟩
/-- the j-th of three steps to begin anew: where, how many sectors, what -/
def stA (hs k : Nat) (j : Nat) : Nat := if j = 1 then k * hs + 1 else k * hs
def stM (hs : Nat) (l : List Bs) (j : Nat) : Nat := if j = 0 then hs else if j = 1 then secL l else 1
def stR (hs gen : Nat) (l : List Bs) (j : Nat) : Bs := if j = 0 then List.replicate (64 * hs) 0 else if j = 1 then recsB gen 0 l else headB gen
def stS (hs k gen : Nat) (l : List Bs) (j : Nat) : List (Option (Nat × Bs)) := (secsOf (stA hs k j) (stM hs l j) (stR hs gen l j)).map some ++ [none]
/-- what is left to do from the j-th step on -/
def stL (hs k gen : Nat) (l : List Bs) : Nat → List (Option (Nat × Bs))
  | 0 => stS hs k gen l 0 ++ (stS hs k gen l 1 ++ stS hs k gen l 2)
  | 1 => stS hs k gen l 1 ++ stS hs k gen l 2
  | 2 => stS hs k gen l 2
  | _ => []
theorem stL_anew (hs k gen : Nat) (l : List Bs) : anewS hs k gen l = stL hs k gen l 0 := by
  simp [anewS, stL, stS, stA, stM, stR]
theorem stL_step (hs k gen : Nat) (l : List Bs) {j : Nat} (hj : j < 3) : stL hs k gen l j = stS hs k gen l j ++ stL hs k gen l (j + 1) := by
  match j, hj with
  | 0, _ => rfl
  | 1, _ => rfl
  | 2, _ => simp [stL]
theorem len_stR (hs gen : Nat) (l : List Bs) {j : Nat} (hj : j < 3) : (stR hs gen l j).length = 64 * stM hs l j := by
  match j, hj with
  | 0, _ => simp [stR, stM]
  | 1, _ => show (recsB gen 0 l).length = 64 * secL l; rw [len_recsB, sizeL_eq]
  | 2, _ => show (headB gen).length = 64 * 1; rw [len_headB]
theorem stM_le {hs : Nat} {l : List Bs} (h : 1 + secL l ≤ hs) (j : Nat) : stM hs l j ≤ hs := by
  unfold stM
  split
  · omega
  · split <;> omega
theorem recsB_take (gen : Nat) {l : List Bs} {k : Nat} (hk : k < l.length) : recsB gen 0 (l.take (k + 1)) = recsB gen 0 (l.take k) ++ recB gen k (l.getD k []) := by
  rw [List.take_add_one, List.getElem?_eq_getElem hk, List.getD_eq_getElem?_getD, List.getElem?_eq_getElem hk]
  show recsB gen 0 (l.take k ++ [l[k]]) = _
  rw [recsB_snoc, List.length_take, Nat.min_eq_left (by omega), Nat.zero_add]
  rfl
/-- three steps' cells -/
def stC (a0 a1 a2 : Nat) (t0 t1 t2 : Value) : List Value := [.int .i64 (a0 : Int), t0, .int .i64 (a1 : Int), t1, .int .i64 (a2 : Int), t2]
theorem len_st (x y z u : Value) : [x, y].length = [z, u].length := rfl
theorem st_one (a : Int) (ad : Option Addr) (n c : Nat) : ∀ v ∈ [Value.int .i64 a, .slice ad n c], v.oneCell' = true := by
  intro v hv
  simp only [List.mem_cons, List.not_mem_nil, or_false] at hv
  rcases hv with rfl | rfl <;> rfl
theorem idxSt (b k : Nat) (hk : k < 3) (f : Operand → Value) (o : Oper) (x y : Operand) (ho : o.op = .indexAddr 163 x y) (hx : f x = .slice (some ⟨b, 0, none⟩) 3 3) (hy : f y = .int .i64 (k : Int)) (w : World) : (execOp f o).run Tryz.prog w = .ok (.value (.pointer (some ⟨b, 2 * k, none⟩))) w := by
  unfold execOp
  rw [ho]
  simp only [hx, hy]
  obtain rfl | rfl | rfl : k = 0 ∨ k = 1 ∨ k = 2 := by omega
  · kernel_rfl
  · kernel_rfl
  · kernel_rfl
theorem built_ct4 (a b u : Int) (ad : Option Addr) (n c : Nat) (ps : List (Nat × Value)) (h : ps = [(0, .int .i64 a), (1, .int .u64 b), (2, .slice ad n c), (3, .int .i64 u)]) : Tryz.prog.built 138 ps = some #[.int .i64 a, .int .u64 b, .slice ad n c, .int .i64 u] := by subst h; kernel_rfl
theorem make_zs (f : Operand → Value) (o : Oper) (x : Operand) (n : Nat) (hn : n < 281474976710600) (ho : o.op = .makeSlice 23 x x) (hx : f x = .int .i64 (n : Int)) (w : World) : (execOp f o).run Tryz.prog w = .ok (.value (.slice (some ⟨w.heap.size, 0, none⟩) n n)) (w.alloc (.cells (cb (List.replicate n 0)).toArray 5)) := by
  have hr := make_cap n n (Nat.le_refl _) hn w
  unfold execOp
  rw [ho]
  simp only [hx, Sem.run_bind, hr, Result.andThen_ok, Sem.run_pure]
/-- what a log has, stored whole -/
theorem wpSeq_storeCt {ops : Array Oper} {Q : Exit → Act → World → Prop} {rest : List Oper} {o : Oper} {a : Act} {w : World} (x y : Operand) (lg gd hs : Nat) (fl : Int) (k gen u k' gen' u' : Nat) (vr : Value) (ad : Option Addr) (n c : Nat) (hb : Blk w lg (lgC gd hs fl k gen vr u) 144)
    (ho : o.op = .store 138 x y) (hx : a.eval x = .pointer (some ⟨lg, 4, none⟩)) (hy : a.eval y = .agg (ctC k' gen' (.slice ad n c) u').toArray) (hgd : o.guard = none)
    (h : ∀ w', Blk w' lg (lgC gd hs fl k' gen' (.slice ad n c) u') 144 → Only lg w w' → wpList Tryz.prog ops Q rest (a.put o.dst undef) w') : wpList Tryz.prog ops Q (o :: rest) a w :=
  wpList_store_mid hgd 138 x y ho lg 4 _ hx hy (hb.there 4 _ (by simp [lgC, ctC])) (by rw [List.size_toArray]; exact size_ct) (all_oneCell_toArray (ct_one _ _ _ _ _ _))
    (by rw [List.toList_toArray]; exact h _ (Blk.seg (A := [wrF gd, syF gd, .int .i64 (hs : Int), .int .i64 fl]) (B := ctC k gen vr u) (C := []) hb rfl rfl) (Only.setCells _ _ _ (Only.refl lg w)))
/-- the loop of the three steps -/
structure BgI (W0 : World) (gd lg : Nat) (P : Nat → Prop) (lc : List Value) (D : DkT) (L : List (Option (Nat × Bs))) (P' : Nat → Prop) (D' : DkT) (R' : List (Option (Nat × Bs))) (W : World) : Prop where
  dk : DkIs W gd P' D'
  gr : Grew W0 P P'
  lb : Blk W lg lc 144
  mv : Mut (Un P (fun x => x = lg)) W0 W
  wt : D'.wait = []
  run : runJ D L = runJ D' R'
end Go.Proofs.YteklnooagjkclaaGreatDoor
/- The walks of journal's next, Append and Restart, as they landed (layer 14). -/
namespace Go.Proofs.YteklnooagjkclaaGreatDoor
open Go.RowKit
set_option maxRecDepth 100000
/-- the next generation's number -/
def gN (gen : Nat) : Nat := (gen + 1) % 18446744073709551616
theorem gN_eq {gen : Nat} (h : gen + 1 < 18446744073709551616) : gN gen = gen + 1 := Nat.mod_eq_of_lt h
theorem gN_lt (gen : Nat) : gN gen < 18446744073709551616 := Nat.mod_lt _ (by decide)
/-- a log in memory: its cells, its records' row and texts -/
structure LgM (w : World) (lg gd n : Nat) (vr : Value) (us : List Value) (J : JnT) : Prop where
  lb : Blk w lg (lgC gd (n / 2) 0 J.k J.gen vr (1 + secL J.l)) 144
  tx : TxJ 0 vr us J.l w
def lgQ (lg : Nat) (vr : Value) (us : List Value) : Nat → Prop := fun k => k = lg ∨ vr.ownBlock = some k ∨ ∃ u ∈ us, u.ownBlock = some k
/-- the log J of the disk of n sectors at block gd lies at block lg, in blocks of Q alone -/
def LgJ (w : World) (lg : Nat) (Q : Nat → Prop) (gd n : Nat) (J : JnT) : Prop := ∃ vr us, LgM w lg gd n vr us J ∧ Q = lgQ lg vr us
theorem LgM.lt {w : World} {lg gd n : Nat} {vr : Value} {us : List Value} {J : JnT} (h : LgM w lg gd n vr us J) : ∀ k, lgQ lg vr us k → k < w.heap.size := fun k hk => by
  rcases hk with rfl | hk | ⟨u, hu, hk⟩
  · exact h.lb.lt
  · exact (h.tx.own.lt k hk).2
  · obtain ⟨i, hi, rfl⟩ := List.getElem_of_mem hu
    exact ((h.tx.good i _ (List.getElem?_eq_getElem hi)).ltJ k hk).2
theorem TxJ.sameQ {base : Nat} {v : Value} {us : List Value} {xs : List Bs} {w w' : World} (h : TxJ base v us xs w) (hs : w.heap.size ≤ w'.heap.size) (hv : ∀ k, v.ownBlock = some k → w'.heap[k]? = w.heap[k]?) (hu : ∀ u ∈ us, ∀ k, u.ownBlock = some k → w'.heap[k]? = w.heap[k]?) : TxJ base v us xs w' :=
  ⟨h.own.same hv, h.len, fun j u hj => (h.good j u hj).sameJ (hu u (List.mem_of_getElem? hj)), Nat.le_trans h.ge hs⟩
theorem LgM.same {w w' : World} {lg gd n : Nat} {vr : Value} {us : List Value} {J : JnT} (h : LgM w lg gd n vr us J) (hs : w.heap.size ≤ w'.heap.size) (hq : ∀ k, lgQ lg vr us k → w'.heap[k]? = w.heap[k]?) : LgM w' lg gd n vr us J :=
  ⟨blk_same h.lb (hq lg (Or.inl rfl)), h.tx.sameQ hs (fun k hk => hq k (Or.inr (Or.inl hk))) (fun u hu k hk => hq k (Or.inr (Or.inr ⟨u, hu, hk⟩)))⟩
theorem ownB_ne_lg {w : World} {base lg : Nat} {u : Value} {t : Bs} {cs : List Value} (h : OwnB w base u t) (hb : Blk w lg cs 144) : u.ownBlock ≠ some lg := fun e => by
  rcases h with ⟨_, ⟨rfl, _⟩ | ⟨g2, cap2, cur2, rfl, _, hh2, _⟩⟩
  · cases e
  have e2 : g2 = lg := by simpa [Value.ownBlock] using e
  unfold Blk at hb
  rw [← e2, hh2] at hb
  simp only [Option.some.injEq, Obj.cells.injEq] at hb
  exact absurd hb.2.1 (by decide)
theorem ownX_ne_lg {w : World} {base lg : Nat} {v : Value} {us : List Value} {cs : List Value} (h : OwnX w base v us) (hb : Blk w lg cs 144) : v.ownBlock ≠ some lg := fun e => by
  rcases h with ⟨_, ⟨rfl, _⟩ | ⟨g2, cap2, cur2, rfl, _, hh2, _⟩⟩
  · cases e
  have e2 : g2 = lg := by simpa [Value.ownBlock] using e
  unfold Blk at hb
  rw [← e2, hh2] at hb
  simp only [Option.some.injEq, Obj.cells.injEq] at hb
  exact absurd hb.2.1 (by decide)
theorem DkIs.typ {w : World} {g : Nat} {P : Nat → Prop} {D : DkT} (h : DkIs w g P D) : ∀ k, P k → ∃ cs t, w.heap[k]? = some (.cells cs t (0, 0)) ∧ t ≠ 23 ∧ t ≠ 5 ∧ t ≠ 144 := by
  obtain ⟨gs, vw, fu, lf, hm, rfl⟩ := h
  intro k hk
  rcases hk with rfl | rfl | hk
  · exact ⟨_, _, hm.me, by decide, by decide, by decide⟩
  · exact ⟨_, _, hm.sf, by decide, by decide, by decide⟩
  · rcases hm.wt with ⟨_, ⟨e, _⟩ | ⟨g2, cap2, cur2, e, _, hh2, _⟩⟩
    · rw [e] at hk; cases hk
    · rw [e] at hk
      have e2 : g2 = k := by simpa [Value.ownBlock] using hk
      rw [← e2]
      exact ⟨_, _, hh2, by decide, by decide, by decide⟩
/-- a disk and a log are apart by the types of their blocks -/
theorem pk_ap {w : World} {gd lg n : Nat} {P : Nat → Prop} {D : DkT} {vr : Value} {us : List Value} {J : JnT} (hd : DkIs w gd P D) (hm : LgM w lg gd n vr us J) : ∀ z, lgQ lg vr us z → ¬ P z := fun z hz hp => by
  obtain ⟨cs, t, h1, h2, h3, h4⟩ := hd.typ z hp
  rcases hz with rfl | hz | ⟨u, hu, hz⟩
  · have hb := hm.lb
    unfold Blk at hb
    rw [h1] at hb
    simp only [Option.some.injEq, Obj.cells.injEq] at hb
    exact h4 hb.2.1
  · rcases hm.tx.own with ⟨_, ⟨rfl, _⟩ | ⟨g2, cap2, cur2, rfl, _, hh2, _⟩⟩
    · cases hz
    have e2 : g2 = z := by simpa [Value.ownBlock] using hz
    rw [e2, h1] at hh2
    simp only [Option.some.injEq, Obj.cells.injEq] at hh2
    exact h2 hh2.2.1
  · obtain ⟨i, hi, rfl⟩ := List.getElem_of_mem hu
    rcases hm.tx.good i _ (List.getElem?_eq_getElem hi) with ⟨_, ⟨e, _⟩ | ⟨g2, cap2, cur2, e, _, hh2, _⟩⟩
    · rw [e] at hz; cases hz
    rw [e] at hz
    have e2 : g2 = z := by simpa [Value.ownBlock] using hz
    rw [e2, h1] at hh2
    simp only [Option.some.injEq, Obj.cells.injEq] at hh2
    exact h3 hh2.2.1
theorem run_err : ∀ (L : List (Option (Nat × Bs))) (D : DkT), okD D → (∀ p, some p ∈ L → p.1 < sizeD D ∧ p.2.length = 64) → (runJ D L).2 = 0 ∨ (runJ D L).2 = 14
  | [], _, _, _ => Or.inl rfl
  | some p :: L, D, hd, h => by
    have hp := h p (List.mem_cons_self ..)
    have hh : ¬ (hasD D (p.1 : Int) = false) := by rw [hasD_not]; exact fun e => e ⟨by omega, by omega⟩
    have e : putX13 D (p.1 : Int) p.2 = 0 ∨ putX13 D (p.1 : Int) p.2 = 14 := by
      unfold putX13
      by_cases h1 : D.down = true
      · rw [if_pos h1]; exact Or.inr rfl
      rw [if_neg h1, if_neg hh, if_neg (by rw [hp.2]; decide)]
      by_cases h2 : D.left = 0
      · rw [if_pos h2]; exact Or.inr rfl
      · rw [if_neg h2]; exact Or.inl rfl
    rw [runJ]
    by_cases h1 : putX13 D (p.1 : Int) p.2 = 0
    · rw [if_pos h1]
      exact run_err L _ (hd.put _ _) (fun q hq => by rw [show sizeD (putD13 D (p.1 : Int) p.2) = sizeD D by rw [sizeD, size_put]; rfl]; exact h q (List.mem_cons_of_mem _ hq))
    · rw [if_neg h1]; exact e
  | none :: L, D, hd, h => by
    have e : syncX13 D = 0 ∨ syncX13 D = 14 := by
      unfold syncX13
      split
      · exact Or.inr rfl
      split
      · exact Or.inr rfl
      · exact Or.inl rfl
    rw [runJ]
    by_cases h1 : syncX13 D = 0
    · rw [if_pos h1]
      exact run_err L _ hd.sync (fun q hq => by rw [size_sync hd]; exact h q (List.mem_cons_of_mem _ hq))
    · rw [if_neg h1]; exact e
theorem room_iff {hs u n : Nat} (h0 : 0 < n) (h1 : n ≤ 1048576) (hu : u ≤ hs) (hh : hs < 10000) : min 1048576 (64 * (hs - u) - 57) < n ↔ hs < u + secR n := by
  unfold secR
  omega
theorem Sta.weak {P Q : Nat → Prop} {w : World} {X : World → Prop} (h : Sta P w X) (hq : ∀ k, k < w.heap.size → Q k → P k) : Sta Q w X := fun w' m => h w' ⟨m.os, m.tape, m.output, m.size, fun k hk hn => m.block k hk (fun h2 => hn (hq k hk h2))⟩
theorem lg_set {w : World} {lg gd hs k gen u : Nat} {fl : Int} {vr : Value} (v : Value) (h : Blk w lg (lgC gd hs fl k gen vr u) 144) : Blk (w.setCell ⟨lg, 6, none⟩ v) lg (lgC gd hs fl k gen v u) 144 := h.set 6 v
theorem lg_setU {w : World} {lg gd hs k gen u : Nat} {fl : Int} {vr : Value} (u' : Nat) (h : Blk w lg (lgC gd hs fl k gen vr u) 144) : Blk (w.setCell ⟨lg, 7, none⟩ (.int .i64 (u' : Int))) lg (lgC gd hs fl k gen vr u') 144 := h.set 7 _
set_option maxRecDepth 100000 in
set_option maxHeartbeats 8000000 in
theorem jAppend_any {w : World} {gd lg : Nat} {P Q : Nat → Prop} {D : DkT} {J : JnT} (v : Value) (x : Bs) (hK : KOk w) (hp : Pk LgJ w gd lg P Q D J) (hok : okJ D J) (hxl : x.length ≤ 100000) (hst : Sta (Un P Q) w (fun W => Reads W v x)) :
    Calls Tryz.prog 79 #[.pointer (some ⟨lg, 0, none⟩), v] w fun e w' => e = .returned (.int .i64 (appX J D x)) ∧ ∃ P' Q', DkIs w' gd P' (appD J D x) ∧ Mut (Un P Q) w w' ∧ Grew w (Un P Q) (Un P' Q') ∧ (appX J D x ≠ 14 → Pk LgJ w' gd lg P' Q' (appD J D x) (appJ J D x)) := by
  obtain ⟨vr, us, hm, hQ⟩ := id hp.lg
  obtain ⟨nx, HNX⟩ : ∃ m, Hid (m = x.length) := ⟨_, rfl⟩
  obtain ⟨ax, cx, hv⟩ : ∃ a c, v = .slice a nx c := by obtain ⟨a, c, hv, _⟩ := hst.now; rw [← HNX.out] at hv; exact ⟨a, c, hv⟩
  subst hv
  obtain ⟨hs, HHS⟩ : ∃ m, Hid (m = sizeD D / 2) := ⟨_, rfl⟩
  obtain ⟨u, HU⟩ : ∃ m, Hid (m = 1 + secL J.l) := ⟨_, rfl⟩
  obtain ⟨k, HKK⟩ : ∃ m, Hid (m = J.k) := ⟨_, rfl⟩
  obtain ⟨gen, HGN⟩ : ∃ m, Hid (m = J.gen) := ⟨_, rfl⟩
  obtain ⟨kn, HKN⟩ : ∃ m, Hid (m = J.l.length) := ⟨_, rfl⟩
  obtain ⟨xa, xc, hvr⟩ := hm.tx.form
  rw [← HKN.out] at hvr
  subst hvr
  have hlb := hm.lb
  rw [← HHS.out, ← HU.out, ← HKK.out, ← HGN.out] at hlb
  have HLB : Hid (Blk w lg (lgC gd hs 0 k gen (.slice xa kn xc) u) 144) := hlb
  have HTX : Hid (TxJ 0 (.slice xa kn xc) us J.l w) := hm.tx
  have HDK : Hid (DkIs w gd P D) := hp.dk
  have HQQ : Hid (Q = lgQ lg (.slice xa kn xc) us) := hQ
  have HAP : Hid (∀ k, Q k → ¬ P k) := hp.ap
  have HK : Hid (KOk w) := hK
  have HRD : Hid (Sta (Un P Q) w (fun W => Reads W (.slice ax nx cx) x)) := hst
  have HPP : Hid (Pk LgJ w gd lg P Q D J) := hp
  have hfit := hok.fit
  have hsl := sizeL_ge J.l
  rw [sizeL_eq] at hsl
  have hhd : hsD D = hs := HHS.out.symm
  rw [hhd, ← HU.out] at hfit
  have HBD : Hid (u ≤ hs ∧ hs ≤ 50 ∧ k ≤ 1 ∧ gen < 18446744073709551616 ∧ kn < 1000 ∧ nx ≤ 100000 ∧ 4 ≤ hs ∧ D.wait = [] ∧ sizeD D ≤ 100) := ⟨hfit, by have h1 := HHS.out; have h2 := hok.hi; omega, by rw [HKK.out]; exact hok.k1, by have h1 := hok.g2; rw [HGN.out]; omega, by have h1 := HKN.out; have h2 := HU.out; have h3 := hok.hi; have h4 := HHS.out; omega, by rw [HNX.out]; exact hxl, by have h1 := HHS.out; have h2 := hok.lo; omega, hok.wt, hok.hi⟩
  have HCK : Hid (∀ W, Below w.heap.size w W → Calls Tryz.prog 100 #[.slice ax nx cx] W fun e w' => e = .returned (.int .i64 (chkX x)) ∧ w' = W) := fun W hW => jCheck_any _ x W (hst.now.below hW)
  have HEE : Hid (appE J D x = if chkX x = 1 then 1 else if hs < u + secR nx then 13 else 0) := by show _ = _; rw [appE, hhd, HU.out, HNX.out]
  clear hK hok hxl hst hm hQ hlb hfit hhd hp hsl
  obtain ⟨cc, HCC⟩ : ∃ z, Hid (z = chkX x) := ⟨_, rfl⟩
  rw [← HCC.out] at HCK HEE
  have HCO : Hid (cc = 0 ∨ cc = 1) := by rw [HCC.out]; exact chk_or x
  by_cases hc1 : cc = 1
  case pos =>
    subst hc1
    have hE : appE J D x = 1 := by rw [HEE.out, if_pos rfl]
    have hX : appX J D x = 1 := by rw [appX, if_neg (by rw [hE]; decide), hE]
    have hD : appD J D x = D := by rw [appD, if_neg (by rw [hE]; decide)]
    have hJ : appJ J D x = J := by rw [appJ, if_neg (by rw [hE]; decide)]
    rw [hX, hD, hJ]
    clear hE hX hD hJ
    go_enter Tryz.func79, Tryz.ntmps79
    have tk0 : Hid True := trivial
    go_wp2_with (first
      | (clear tk0; go_at_call 100; refine (HCK.out _ (Below.refl _ _)).mono ?_; rintro e0 y1 ⟨rfl, hy1⟩; subst hy1))
    go_ret
    refine ⟨rfl, P, Q, HPP.out.dk, Mut.refl _ _, Grew.refl _ _, ?_⟩
    first | exact fun _ => HPP.out | exact HPP.out
  obtain rfl : cc = 0 := HCO.out.elim id (fun h => absurd h hc1)
  have HNN : Hid (0 < nx ∧ nx ≤ 1048576) := by
    have h := HCC.out.symm
    unfold chkX at h
    by_cases h3 : x.length = 0 ∨ 1048576 < x.length
    · rw [if_pos h3] at h; cases h
    · rw [← HNX.out] at h3
      exact ⟨by omega, by omega⟩
  obtain ⟨rm, HRM⟩ : ∃ m, Hid (m = min 1048576 (64 * (hs - u) - 57)) := ⟨_, rfl⟩
  have HRO : Hid (∀ W, Blk W lg (lgC gd hs 0 k gen (.slice xa kn xc) u) 144 → Calls Tryz.prog 78 #[.pointer (some ⟨lg, 0, none⟩)] W fun e w' => e = .returned (.int .i64 (rm : Int)) ∧ Below W.heap.size W w') := fun W hW => by
    rw [HRM.out]
    exact jRoom_any hW HBD.out.1 (by have := HBD.out; omega)
  have HRI : Hid (rm < nx ↔ hs < u + secR nx) := by rw [HRM.out]; exact room_iff HNN.out.1 HNN.out.2 HBD.out.1 (by have := HBD.out; omega)
  by_cases hno : hs < u + secR nx
  case pos =>
    have hE : appE J D x = 13 := by rw [HEE.out, if_neg (by decide), if_pos hno]
    have hX : appX J D x = 13 := by rw [appX, if_neg (by rw [hE]; decide), hE]
    have hD : appD J D x = D := by rw [appD, if_neg (by rw [hE]; decide)]
    have hJ : appJ J D x = J := by rw [appJ, if_neg (by rw [hE]; decide)]
    rw [hX, hD, hJ]
    have q1 : (rm : Int) < (nx : Int) := by have := HRI.out.2 hno; omega
    clear hE hX hD hJ hno hc1
    go_enter Tryz.func79, Tryz.ntmps79
    have tk0 : Hid True := trivial
    have tk1 : Hid True := trivial
    go_wp2_with (first
      | (clear tk0; go_at_call 100; refine (HCK.out _ (Below.refl _ _)).mono ?_; rintro e0 y1 ⟨rfl, hy1⟩; subst hy1)
      | (clear tk1; go_at_call 78; refine (HRO.out _ HLB.out).mono ?_; rintro e0 y2 ⟨rfl, hz⟩
         have HBW : Hid (Below y1.heap.size y1 y2) := hz
         clear hz))
    go_ret
    have hpk : Pk LgJ y2 gd lg P Q D J := ⟨HPP.out.dk.same14 (fun x hx => HBW.out.block x (HPP.out.dk.lt14 x hx)), by
      obtain ⟨vr, us, hm, hQ⟩ := HPP.out.lg
      exact ⟨vr, us, hm.same HBW.out.size (fun x hx => HBW.out.block x (hm.lt x hx)), hQ⟩, HPP.out.ap⟩
    refine ⟨rfl, P, Q, hpk.dk, mut_below HBW.out _, Grew.refl _ _, ?_⟩
    first | exact fun _ => hpk | exact hpk
  case neg =>
    have hE : appE J D x = 0 := by rw [HEE.out, if_neg (by decide), if_neg hno]
    have q1 : ¬ ((rm : Int) < (nx : Int)) := by have := (not_congr HRI.out).2 hno; omega
    obtain ⟨sx, HSX⟩ : ∃ m, Hid (m = secR nx) := ⟨_, rfl⟩
    obtain ⟨at_, HAT⟩ : ∃ m, Hid (m = k * hs + u) := ⟨_, rfl⟩
    obtain ⟨kh, HKH⟩ : ∃ m, Hid (m = k * hs) := ⟨_, rfl⟩
    obtain ⟨rb, HRB⟩ : ∃ r, Hid (r = recB gen kn x) := ⟨_, rfl⟩
    obtain ⟨rl, HRL⟩ : ∃ m, Hid (m = rb.length) := ⟨_, rfl⟩
    have HRL2 : Hid (rl = 64 * sx) := by show _ = _; rw [HRL.out, HRB.out, len_recB, HSX.out, HNX.out]
    have hkh : kh ≤ hs := by rw [HKH.out]; rcases Nat.le_one_iff_eq_zero_or_eq_one.1 HBD.out.2.2.1 with e | e <;> rw [e] <;> omega
    have HSB : Hid (u + sx ≤ hs ∧ at_ ≤ 100 ∧ at_ = kh + u ∧ kh ≤ 50) := ⟨by rw [HSX.out]; omega, by have h1 := HBD.out; have h2 := HAT.out; have h3 := HKH.out; omega, by rw [HAT.out, HKH.out], by have := HBD.out; omega⟩
    have HSG : Hid (appS (hsD D) J.k J.gen J.l x = (secsOf at_ sx rb).map some ++ [none]) := by
      show _ = _
      rw [appS, show hsD D = hs from HHS.out.symm, ← HKK.out, ← HGN.out, ← HKN.out, ← HU.out, ← HAT.out, ← HNX.out, ← HSX.out, ← HRB.out]
    obtain ⟨DX, xX, HX⟩ : ∃ D2 z, Hid (runJ D ((secsOf at_ sx rb).map some ++ [none]) = (D2, z)) := ⟨(runJ D ((secsOf at_ sx rb).map some ++ [none])).1, (runJ D ((secsOf at_ sx rb).map some ++ [none])).2, rfl⟩
    have hX : appX J D x = xX := by rw [appX, if_pos hE, HSG.out, HX.out]
    have hD : appD J D x = DX := by rw [appD, if_pos hE, HSG.out, HX.out]
    have hJ : appJ J D x = ⟨J.k, J.gen, J.l ++ [x]⟩ := by rw [appJ, if_pos hE]
    have HOKD : Hid (okD D) := by obtain ⟨_, _, _, _, hm, _⟩ := HDK.out; exact hm.ok
    have HER : Hid ((xX = 0 ∨ xX = 14) ∧ sizeD DX = sizeD D) := by
      have h1 := run_err ((secsOf at_ sx rb).map some ++ [none]) D HOKD.out (fun p hp => by
        rw [List.mem_append] at hp
        rcases hp with hp | hp
        · rw [List.mem_map] at hp
          obtain ⟨q, hq, e⟩ := hp
          cases e
          exact secs_mem (n := sizeD D) sx at_ rb (by rw [← HRL.out, HRL2.out]) (by have h2 := HSB.out; have h3 := HHS.out; have h4 := HKH.out; have h5 := hkh; omega) p hq
        · simp at hp)
      have h2 := (run_size ((secsOf at_ sx rb).map some ++ [none]) D HOKD.out).1
      rw [HX.out] at h1 h2
      exact ⟨h1, h2⟩
    rw [hX, hD, hJ]
    have f1 : IntKind.u64.wrap (kn : Int) = (kn : Int) := uJ (by have := HBD.out; omega)
    have f2 : IntKind.i64.wrap ((k : Int) * (hs : Int)) = (kh : Int) := mJ HKH.out (by have := HBD.out; omega)
    have f3 : IntKind.i64.wrap ((kh : Int) + (u : Int)) = (at_ : Int) := aJ HSB.out.2.2.1 (by have := HSB.out; omega)
    obtain ⟨u2, HU2⟩ : ∃ m, Hid (m = u + sx) := ⟨_, rfl⟩
    have f4 : IntKind.i64.wrap ((u : Int) + (sx : Int)) = (u2 : Int) := aJ HU2.out (by have h1 := HU2.out; have h2 := HSB.out; have h3 := HBD.out; omega)
    have HLT : Hid (∀ k, Un P Q k → k < w.heap.size) := fun k hk => hk.elim (HDK.out.lt14 k) (fun h => by
      obtain ⟨vr, us, hm, hQ⟩ := HPP.out.lg
      rw [hQ] at h
      exact hm.lt k h)
    have HQL : Hid (Q lg) := by rw [HQQ.out]; exact Or.inl rfl
    have HUN : Hid (∀ k, Un P (fun z => z = lg) k → Un P Q k) := fun k hk => hk.elim Or.inl (fun e => Or.inr (by rw [e]; exact HQL.out))
    have HNP : Hid (¬ P lg) := HAP.out lg HQL.out
    clear hE hX hD hJ hno hc1 hkh HEE HRI
    go_enter Tryz.func79, Tryz.ntmps79
    have tk0 : Hid True := trivial
    have tk1 : Hid True := trivial
    go_upto_region 6 with (first
      | (clear tk0; go_at_call 100; refine (HCK.out _ (Below.refl _ _)).mono ?_; rintro e0 y1 ⟨rfl, hy1⟩; subst hy1)
      | (clear tk1; go_at_call 78; refine (HRO.out _ HLB.out).mono ?_; rintro e0 y2 ⟨rfl, hz⟩
         have HBW : Hid (Below y1.heap.size y1 y2) := hz
         clear hz))
    have HD2 : Hid (Below y1.heap.size y1 y2.drew) := HBW.out.drew
    have HL2 : Hid (Blk y2.drew lg (lgC gd hs 0 k gen (.slice xa kn xc) u) 144) := HLB.out.below HD2.out HLB.out.lt
    refine wp_region_held_drew (S := fun wx => Blk wx lg (lgC gd hs 0 k gen (.slice xa kn xc) u) 144) (by kernel_rfl) HL2.out ?_
    intro hS
    refine wpAnyH_take (i := 0) (v := .pointer (some ⟨lg, 0, none⟩)) rfl (by kernel_rfl) (by kernel_rfl) (by kernel_rfl) (fun _ _ _ h => h) (Or.inl ⟨by rfl, fun wx hx => by simp [go_sem]⟩) hS ?_
    simp only [Act.put, List.getElem_toArray, List.getElem_cons_zero, List.setIfInBounds_toArray, List.set_cons_zero, List.set_cons_succ]
    refine wpAnyH_take (i := 1) (v := .pointer (some ⟨lg, 0, none⟩)) rfl (by kernel_rfl) (by kernel_rfl) (by kernel_rfl) (fun _ _ _ h => h) (Or.inl ⟨by rfl, fun wx hx => by simp [go_sem]⟩) hS ?_
    simp only [Act.put, List.getElem_toArray, List.getElem_cons_succ, List.getElem_cons_zero, List.setIfInBounds_toArray, List.set_cons_zero, List.set_cons_succ]
    refine wpAnyH_take (i := 2) (v := .pointer (some ⟨lg, 4, none⟩)) rfl (by kernel_rfl) (by kernel_rfl) (by kernel_rfl) (fun _ _ _ h => h) (Or.inl ⟨by rfl, fun wx hx => by simp [go_sem]⟩) hS ?_
    simp only [Act.put, List.getElem_toArray, List.getElem_cons_succ, List.getElem_cons_zero, List.setIfInBounds_toArray, List.set_cons_zero, List.set_cons_succ]
    refine wpAnyH_take (i := 3) (v := .pointer (some ⟨lg, 5, none⟩)) rfl (by kernel_rfl) (by kernel_rfl) (by kernel_rfl) (fun _ _ _ h => h) (Or.inl ⟨by rfl, fun wx hx => by simp [go_sem]⟩) hS ?_
    simp only [Act.put, List.getElem_toArray, List.getElem_cons_succ, List.getElem_cons_zero, List.setIfInBounds_toArray, List.set_cons_zero, List.set_cons_succ]
    refine wpAnyH_take (i := 4) (v := .int .u64 (gen : Int)) rfl (by kernel_rfl) (by kernel_rfl) (by kernel_rfl) (fun _ _ _ h => h) (Or.inl ⟨by rfl, fun wx hx => by (have c0 : wx.cell? ⟨lg, 5, none⟩ = some (.int .u64 (gen : Int)) := hx.cell 5; simp [go_sem, c0])⟩) hS ?_
    simp only [Act.put, List.getElem_toArray, List.getElem_cons_succ, List.getElem_cons_zero, List.setIfInBounds_toArray, List.set_cons_zero, List.set_cons_succ]
    refine wpAnyH_take (i := 5) (v := .pointer (some ⟨lg, 0, none⟩)) rfl (by kernel_rfl) (by kernel_rfl) (by kernel_rfl) (fun _ _ _ h => h) (Or.inl ⟨by rfl, fun wx hx => by simp [go_sem]⟩) hS ?_
    simp only [Act.put, List.getElem_toArray, List.getElem_cons_succ, List.getElem_cons_zero, List.setIfInBounds_toArray, List.set_cons_zero, List.set_cons_succ]
    refine wpAnyH_take (i := 6) (v := .pointer (some ⟨lg, 0, none⟩)) rfl (by kernel_rfl) (by kernel_rfl) (by kernel_rfl) (fun _ _ _ h => h) (Or.inl ⟨by rfl, fun wx hx => by simp [go_sem]⟩) hS ?_
    simp only [Act.put, List.getElem_toArray, List.getElem_cons_succ, List.getElem_cons_zero, List.setIfInBounds_toArray, List.set_cons_zero, List.set_cons_succ]
    refine wpAnyH_take (i := 7) (v := .pointer (some ⟨lg, 4, none⟩)) rfl (by kernel_rfl) (by kernel_rfl) (by kernel_rfl) (fun _ _ _ h => h) (Or.inl ⟨by rfl, fun wx hx => by simp [go_sem]⟩) hS ?_
    simp only [Act.put, List.getElem_toArray, List.getElem_cons_succ, List.getElem_cons_zero, List.setIfInBounds_toArray, List.set_cons_zero, List.set_cons_succ]
    refine wpAnyH_take (i := 8) (v := .pointer (some ⟨lg, 6, none⟩)) rfl (by kernel_rfl) (by kernel_rfl) (by kernel_rfl) (fun _ _ _ h => h) (Or.inl ⟨by rfl, fun wx hx => by simp [go_sem]⟩) hS ?_
    simp only [Act.put, List.getElem_toArray, List.getElem_cons_succ, List.getElem_cons_zero, List.setIfInBounds_toArray, List.set_cons_zero, List.set_cons_succ]
    refine wpAnyH_take (i := 9) (v := .slice xa kn xc) rfl (by kernel_rfl) (by kernel_rfl) (by kernel_rfl) (fun _ _ _ h => h) (Or.inl ⟨by rfl, fun wx hx => by (have c0 : wx.cell? ⟨lg, 6, none⟩ = some (.slice xa kn xc) := hx.cell 6; simp [go_sem, c0])⟩) hS ?_
    simp only [Act.put, List.getElem_toArray, List.getElem_cons_succ, List.getElem_cons_zero, List.setIfInBounds_toArray, List.set_cons_zero, List.set_cons_succ]
    refine wpAnyH_take (i := 10) (v := .int .i64 (kn : Int)) rfl (by kernel_rfl) (by kernel_rfl) (by kernel_rfl) (fun _ _ _ h => h) (Or.inl ⟨by rfl, fun wx hx => by simp [go_sem]⟩) hS ?_
    simp only [Act.put, List.getElem_toArray, List.getElem_cons_succ, List.getElem_cons_zero, List.setIfInBounds_toArray, List.set_cons_zero, List.set_cons_succ]
    refine wpAnyH_take (i := 11) (v := .int .u64 (kn : Int)) rfl (by kernel_rfl) (by kernel_rfl) (by kernel_rfl) (fun _ _ _ h => h) (Or.inl ⟨by rfl, fun wx hx => by simp [go_sem, f1]⟩) hS ?_
    simp only [Act.put, List.getElem_toArray, List.getElem_cons_succ, List.getElem_cons_zero, List.setIfInBounds_toArray, List.set_cons_zero, List.set_cons_succ]
    refine wpAnyH_take (i := 12) (v := .slice ax nx cx) rfl (by kernel_rfl) (by kernel_rfl) (by kernel_rfl) (fun _ _ _ h => h) (Or.inl ⟨by rfl, fun wx hx => by simp [go_sem]⟩) hS ?_
    simp only [Act.put, List.getElem_toArray, List.getElem_cons_succ, List.getElem_cons_zero, List.setIfInBounds_toArray, List.set_cons_zero, List.set_cons_succ]
    refine wpAnyH_enter 13 (by kernel_rfl) rfl (by rfl) (f := 101) (args := #[.int .u64 (gen : Int), .int .u64 (kn : Int), .slice ax nx cx]) (by simp [go_sem]) (jRecord_own gen kn HBD.out.2.2.2.1 (by have := HBD.out; omega) _ x (by rw [← HNX.out]; have := HBD.out; omega) _ (HK.out.below HD2.out HK.out.lt) (HRD.out.now.below HD2.out)) ?_
    rintro e0 y3 ⟨v3, rfl, ho3, hz3⟩
    rw [← HRB.out] at ho3
    obtain ⟨a3, c3, hv3⟩ := ownB_form ho3
    rw [← HRL.out] at hv3
    subst hv3
    replace hS : Blk y3 lg (lgC gd hs 0 k gen (.slice xa kn xc) u) 144 := HL2.out.below hz3 HL2.out.lt
    refine ⟨_, rfl, hS, ?_⟩
    simp only [Act.put, List.getElem_toArray, List.getElem_cons_succ, List.getElem_cons_zero, List.setIfInBounds_toArray, List.set_cons_zero, List.set_cons_succ]
    refine wpAnyH_take (i := 14) (v := .slice a3 rl c3) rfl (by kernel_rfl) (by kernel_rfl) (by kernel_rfl) (fun _ _ _ h => h) (Or.inl ⟨by rfl, fun wx hx => by simp [go_sem]⟩) hS ?_
    simp only [Act.put, List.getElem_toArray, List.getElem_cons_succ, List.getElem_cons_zero, List.setIfInBounds_toArray, List.set_cons_zero, List.set_cons_succ]
    refine wpAnyH_done (by kernel_rfl) ?_ _
    have HB3 : Hid (Below y1.heap.size y1 y3) := HD2.out.trans (hz3.mono HD2.out.size)
    have HO3 : Hid (Sta (Un P Q) y3 (fun W => Reads W (.slice a3 rl c3) rb)) := (ho3.st (P := Un P Q) (fun z hz => Nat.lt_of_lt_of_le (HLT.out z hz) HD2.out.size))
    clear hS ho3 hz3 HL2 HD2 HBW
    go_upto_region 7 with fail
    have HD4 : Hid (Below y1.heap.size y1 y3.drew) := HB3.out.drew
    have HL4 : Hid (Blk y3.drew lg (lgC gd hs 0 k gen (.slice xa kn xc) u) 144) := HLB.out.below HD4.out HLB.out.lt
    have HPC : Hid (Calls Tryz.prog 102 #[.pointer (some ⟨lg, 0, none⟩), .int .i64 (at_ : Int), .slice a3 rl c3] y3.drew fun e w' => e = .returned (.int .i64 xX) ∧ ∃ P', DkIs w' gd P' DX ∧ Blk w' lg (lgC gd hs xX k gen (.slice xa kn xc) u) 144 ∧ Mut (Un P (fun z => z = lg)) y3.drew w' ∧ Grew y3.drew P P') := by
      have h1 := jPut_any (w := y3.drew) (gd := gd) (lg := lg) (P := P) (D := D) hs k gen u at_ sx (.slice xa kn xc) (.slice a3 rl c3) rb (HDK.out.same14 (fun z hz => HD4.out.block z (HDK.out.lt14 z hz))) HL4.out HNP.out (by rw [← HRL.out, HRL2.out]) (by have h2 := HSB.out; have h3 := HBD.out; omega) HSB.out.2.1 (by rw [HBD.out.2.2.2.2.2.2.2.1]; show 0 + sx ≤ 200; have h2 := HSB.out; have h3 := HBD.out; omega) ((HO3.out.below ((Below.refl _ _).drew)).weak (fun z _ h => HUN.out z h))
      rw [HX.out] at h1
      exact h1
    refine wp_region_held_drew (S := fun wx => wx.cell? ⟨lg, 4, none⟩ = some (.int .i64 (k : Int)) ∧ wx.cell? ⟨lg, 2, none⟩ = some (.int .i64 (hs : Int)) ∧ wx.cell? ⟨lg, 7, none⟩ = some (.int .i64 (u : Int))) (by kernel_rfl) ⟨HL4.out.cell 4, HL4.out.cell 2, HL4.out.cell 7⟩ ?_
    intro hS
    refine wpAnyH_take (i := 0) (v := .pointer (some ⟨lg, 0, none⟩)) rfl (by kernel_rfl) (by kernel_rfl) (by kernel_rfl) (fun _ _ _ h => h) (Or.inl ⟨by rfl, fun wx hx => by simp [go_sem]⟩) hS ?_
    simp only [Act.put, List.getElem_toArray, List.getElem_cons_zero, List.setIfInBounds_toArray, List.set_cons_zero, List.set_cons_succ]
    refine wpAnyH_take (i := 1) (v := .pointer (some ⟨lg, 0, none⟩)) rfl (by kernel_rfl) (by kernel_rfl) (by kernel_rfl) (fun _ _ _ h => h) (Or.inl ⟨by rfl, fun wx hx => by simp [go_sem]⟩) hS ?_
    simp only [Act.put, List.getElem_toArray, List.getElem_cons_succ, List.getElem_cons_zero, List.setIfInBounds_toArray, List.set_cons_zero, List.set_cons_succ]
    refine wpAnyH_take (i := 2) (v := .pointer (some ⟨lg, 0, none⟩)) rfl (by kernel_rfl) (by kernel_rfl) (by kernel_rfl) (fun _ _ _ h => h) (Or.inl ⟨by rfl, fun wx hx => by simp [go_sem]⟩) hS ?_
    simp only [Act.put, List.getElem_toArray, List.getElem_cons_succ, List.getElem_cons_zero, List.setIfInBounds_toArray, List.set_cons_zero, List.set_cons_succ]
    refine wpAnyH_take (i := 3) (v := .pointer (some ⟨lg, 4, none⟩)) rfl (by kernel_rfl) (by kernel_rfl) (by kernel_rfl) (fun _ _ _ h => h) (Or.inl ⟨by rfl, fun wx hx => by simp [go_sem]⟩) hS ?_
    simp only [Act.put, List.getElem_toArray, List.getElem_cons_succ, List.getElem_cons_zero, List.setIfInBounds_toArray, List.set_cons_zero, List.set_cons_succ]
    refine wpAnyH_take (i := 4) (v := .pointer (some ⟨lg, 4, none⟩)) rfl (by kernel_rfl) (by kernel_rfl) (by kernel_rfl) (fun _ _ _ h => h) (Or.inl ⟨by rfl, fun wx hx => by simp [go_sem]⟩) hS ?_
    simp only [Act.put, List.getElem_toArray, List.getElem_cons_succ, List.getElem_cons_zero, List.setIfInBounds_toArray, List.set_cons_zero, List.set_cons_succ]
    refine wpAnyH_take (i := 5) (v := .int .i64 (k : Int)) rfl (by kernel_rfl) (by kernel_rfl) (by kernel_rfl) (fun _ _ _ h => h) (Or.inl ⟨by rfl, fun wx hx => by simp [go_sem, hx.1]⟩) hS ?_
    simp only [Act.put, List.getElem_toArray, List.getElem_cons_succ, List.getElem_cons_zero, List.setIfInBounds_toArray, List.set_cons_zero, List.set_cons_succ]
    refine wpAnyH_take (i := 6) (v := .pointer (some ⟨lg, 0, none⟩)) rfl (by kernel_rfl) (by kernel_rfl) (by kernel_rfl) (fun _ _ _ h => h) (Or.inl ⟨by rfl, fun wx hx => by simp [go_sem]⟩) hS ?_
    simp only [Act.put, List.getElem_toArray, List.getElem_cons_succ, List.getElem_cons_zero, List.setIfInBounds_toArray, List.set_cons_zero, List.set_cons_succ]
    refine wpAnyH_take (i := 7) (v := .pointer (some ⟨lg, 0, none⟩)) rfl (by kernel_rfl) (by kernel_rfl) (by kernel_rfl) (fun _ _ _ h => h) (Or.inl ⟨by rfl, fun wx hx => by simp [go_sem]⟩) hS ?_
    simp only [Act.put, List.getElem_toArray, List.getElem_cons_succ, List.getElem_cons_zero, List.setIfInBounds_toArray, List.set_cons_zero, List.set_cons_succ]
    refine wpAnyH_take (i := 8) (v := .pointer (some ⟨lg, 2, none⟩)) rfl (by kernel_rfl) (by kernel_rfl) (by kernel_rfl) (fun _ _ _ h => h) (Or.inl ⟨by rfl, fun wx hx => by simp [go_sem]⟩) hS ?_
    simp only [Act.put, List.getElem_toArray, List.getElem_cons_succ, List.getElem_cons_zero, List.setIfInBounds_toArray, List.set_cons_zero, List.set_cons_succ]
    refine wpAnyH_take (i := 9) (v := .int .i64 (hs : Int)) rfl (by kernel_rfl) (by kernel_rfl) (by kernel_rfl) (fun _ _ _ h => h) (Or.inl ⟨by rfl, fun wx hx => by simp [go_sem, hx.2.1]⟩) hS ?_
    simp only [Act.put, List.getElem_toArray, List.getElem_cons_succ, List.getElem_cons_zero, List.setIfInBounds_toArray, List.set_cons_zero, List.set_cons_succ]
    refine wpAnyH_take (i := 10) (v := .int .i64 (kh : Int)) rfl (by kernel_rfl) (by kernel_rfl) (by kernel_rfl) (fun _ _ _ h => h) (Or.inl ⟨by rfl, fun wx hx => by simp [go_sem, f2]⟩) hS ?_
    simp only [Act.put, List.getElem_toArray, List.getElem_cons_succ, List.getElem_cons_zero, List.setIfInBounds_toArray, List.set_cons_zero, List.set_cons_succ]
    refine wpAnyH_take (i := 11) (v := .pointer (some ⟨lg, 0, none⟩)) rfl (by kernel_rfl) (by kernel_rfl) (by kernel_rfl) (fun _ _ _ h => h) (Or.inl ⟨by rfl, fun wx hx => by simp [go_sem]⟩) hS ?_
    simp only [Act.put, List.getElem_toArray, List.getElem_cons_succ, List.getElem_cons_zero, List.setIfInBounds_toArray, List.set_cons_zero, List.set_cons_succ]
    refine wpAnyH_take (i := 12) (v := .pointer (some ⟨lg, 0, none⟩)) rfl (by kernel_rfl) (by kernel_rfl) (by kernel_rfl) (fun _ _ _ h => h) (Or.inl ⟨by rfl, fun wx hx => by simp [go_sem]⟩) hS ?_
    simp only [Act.put, List.getElem_toArray, List.getElem_cons_succ, List.getElem_cons_zero, List.setIfInBounds_toArray, List.set_cons_zero, List.set_cons_succ]
    refine wpAnyH_take (i := 13) (v := .pointer (some ⟨lg, 4, none⟩)) rfl (by kernel_rfl) (by kernel_rfl) (by kernel_rfl) (fun _ _ _ h => h) (Or.inl ⟨by rfl, fun wx hx => by simp [go_sem]⟩) hS ?_
    simp only [Act.put, List.getElem_toArray, List.getElem_cons_succ, List.getElem_cons_zero, List.setIfInBounds_toArray, List.set_cons_zero, List.set_cons_succ]
    refine wpAnyH_take (i := 14) (v := .pointer (some ⟨lg, 7, none⟩)) rfl (by kernel_rfl) (by kernel_rfl) (by kernel_rfl) (fun _ _ _ h => h) (Or.inl ⟨by rfl, fun wx hx => by simp [go_sem]⟩) hS ?_
    simp only [Act.put, List.getElem_toArray, List.getElem_cons_succ, List.getElem_cons_zero, List.setIfInBounds_toArray, List.set_cons_zero, List.set_cons_succ]
    refine wpAnyH_take (i := 15) (v := .int .i64 (u : Int)) rfl (by kernel_rfl) (by kernel_rfl) (by kernel_rfl) (fun _ _ _ h => h) (Or.inl ⟨by rfl, fun wx hx => by simp [go_sem, hx.2.2]⟩) hS ?_
    simp only [Act.put, List.getElem_toArray, List.getElem_cons_succ, List.getElem_cons_zero, List.setIfInBounds_toArray, List.set_cons_zero, List.set_cons_succ]
    refine wpAnyH_take (i := 16) (v := .int .i64 (at_ : Int)) rfl (by kernel_rfl) (by kernel_rfl) (by kernel_rfl) (fun _ _ _ h => h) (Or.inl ⟨by rfl, fun wx hx => by simp [go_sem, f3]⟩) hS ?_
    simp only [Act.put, List.getElem_toArray, List.getElem_cons_succ, List.getElem_cons_zero, List.setIfInBounds_toArray, List.set_cons_zero, List.set_cons_succ]
    refine wpAnyH_take (i := 17) (v := .slice a3 rl c3) rfl (by kernel_rfl) (by kernel_rfl) (by kernel_rfl) (fun _ _ _ h => h) (Or.inl ⟨by rfl, fun wx hx => by simp [go_sem]⟩) hS ?_
    simp only [Act.put, List.getElem_toArray, List.getElem_cons_succ, List.getElem_cons_zero, List.setIfInBounds_toArray, List.set_cons_zero, List.set_cons_succ]
    refine wpAnyH_enter 18 (by kernel_rfl) rfl (by rfl) (f := 102) (args := #[.pointer (some ⟨lg, 0, none⟩), .int .i64 (at_ : Int), .slice a3 rl c3]) (by simp [go_sem]) HPC.out ?_
    rintro e0 y5 ⟨rfl, P5, hd5, hl5, hm5, hg5⟩
    replace hS : y5.cell? ⟨lg, 4, none⟩ = some (.int .i64 (k : Int)) ∧ y5.cell? ⟨lg, 2, none⟩ = some (.int .i64 (hs : Int)) ∧ y5.cell? ⟨lg, 7, none⟩ = some (.int .i64 (u : Int)) := ⟨hl5.cell 4, hl5.cell 2, hl5.cell 7⟩
    refine ⟨_, rfl, hS, ?_⟩
    simp only [Act.put, List.getElem_toArray, List.getElem_cons_succ, List.getElem_cons_zero, List.setIfInBounds_toArray, List.set_cons_zero, List.set_cons_succ]
    refine wpAnyH_take (i := 19) (v := .int .i64 xX) rfl (by kernel_rfl) (by kernel_rfl) (by kernel_rfl) (fun _ _ _ h => h) (Or.inl ⟨by rfl, fun wx hx => by simp [go_sem]⟩) hS ?_
    simp only [Act.put, List.getElem_toArray, List.getElem_cons_succ, List.getElem_cons_zero, List.setIfInBounds_toArray, List.set_cons_zero, List.set_cons_succ]
    refine wpAnyH_done (by kernel_rfl) ?_ _
    have HM5 : Hid (Mut (Un P Q) y1 y5) := (mut_below HD4.out _).trans (fun _ _ h => h) ((Mut.refl (Un P Q) y3.drew).trans (fun z _ h => HUN.out z h) hm5)
    have HMP : Hid (∀ z, z < y3.drew.heap.size → ¬ Un P (fun z => z = lg) z → y5.heap[z]? = y3.drew.heap[z]?) := hm5.block
    have HG5 : Hid (∀ z, P5 z → P z ∨ y1.heap.size ≤ z) := fun z hz => (hg5 z hz).imp id (fun h => Nat.le_trans HD4.out.size h)
    have HD5 : Hid (DkIs y5 gd P5 DX) := hd5
    have HL5 : Hid (Blk y5 lg (lgC gd hs xX k gen (.slice xa kn xc) u) 144) := hl5
    clear hS hd5 hl5 hm5 hg5 HPC HL4
    by_cases hx0 : xX = 0
    case neg =>
      have hx14 : xX = 14 := HER.out.1.elim (fun h => absurd h hx0) id
      have q2 : (xX != 0) = true := by rw [bne_iff_ne]; exact hx0
      go_wp2
      go_ret
      refine ⟨rfl, P5, fun _ => False, HD5.out, HM5.out, fun z hz => hz.elim (fun h => (HG5.out z h).imp Or.inl id) (fun h => h.elim), fun h => absurd hx14 h⟩
    case pos =>
      subst hx0
      go_upto_region 10 with fail
      have HQO : Hid (∀ z, lgQ lg (.slice xa kn xc) us z → Q z) := by rw [HQQ.out]; exact fun z h => h
      have hbl : ∀ z, Q z → z ≠ lg → y5.heap[z]? = y1.heap[z]? := fun z hq hne => by
        have h1 : z < y1.heap.size := HLT.out z (Or.inr hq)
        rw [HMP.out z (Nat.lt_of_lt_of_le h1 HD4.out.size) (fun h => h.elim (HAP.out z hq) hne), HD4.out.block z h1]
      have HT5 : Hid (TxJ 0 (.slice xa kn xc) us J.l y5) := HTX.out.sameQ HM5.out.size (fun z hz => hbl z (HQO.out z (Or.inr (Or.inl hz))) (fun e => ownX_ne_lg HTX.out.own HLB.out (e ▸ hz))) (fun uu huu z hz => hbl z (HQO.out z (Or.inr (Or.inr ⟨uu, huu, hz⟩))) (fun e => by
        obtain ⟨i, hi, rfl⟩ := List.getElem_of_mem huu
        exact ownB_ne_lg (HTX.out.good i _ (List.getElem?_eq_getElem hi)) HLB.out (e ▸ hz)))
      have HX5 : Hid (Reads y5 (.slice ax nx cx) x) := HRD.out y5 HM5.out
      clear hbl HMP HD4
      have HD6 : Hid (Below y5.heap.size y5 y5.drew) := (Below.refl _ _).drew
      replace HX5 : Hid (Reads y5.drew (.slice ax nx cx) x) := HX5.out.below HD6.out
      have HT6 : Hid (TxJ 0 (.slice xa kn xc) us J.l y5.drew) := HT5.out.next HD6.out
      have HL6 : Hid (Blk y5.drew lg (lgC gd hs 0 k gen (.slice xa kn xc) u) 144) := HL5.out.drew
      have c6 : y5.drew.cell? ⟨lg, 6, none⟩ = some (.slice xa kn xc) := HL6.out.cell 6
      refine wp_region_held_drew (S := fun _ => True) (by kernel_rfl) trivial ?_
      intro _
      refine wpAnyH_take (i := 0) (v := .pointer (some ⟨lg, 0, none⟩)) rfl (by kernel_rfl) (by kernel_rfl) (by kernel_rfl) (fun _ _ _ h => h) (Or.inl ⟨by rfl, fun wx hx => by simp [go_sem]⟩) trivial ?_
      simp only [Act.put, List.getElem_toArray, List.getElem_cons_zero, List.setIfInBounds_toArray, List.set_cons_zero, List.set_cons_succ]
      refine wpAnyH_take (i := 1) (v := .pointer (some ⟨lg, 0, none⟩)) rfl (by kernel_rfl) (by kernel_rfl) (by kernel_rfl) (fun _ _ _ h => h) (Or.inl ⟨by rfl, fun wx hx => by simp [go_sem]⟩) trivial ?_
      simp only [Act.put, List.getElem_toArray, List.getElem_cons_succ, List.getElem_cons_zero, List.setIfInBounds_toArray, List.set_cons_zero, List.set_cons_succ]
      refine wpAnyH_take (i := 2) (v := .pointer (some ⟨lg, 0, none⟩)) rfl (by kernel_rfl) (by kernel_rfl) (by kernel_rfl) (fun _ _ _ h => h) (Or.inl ⟨by rfl, fun wx hx => by simp [go_sem]⟩) trivial ?_
      simp only [Act.put, List.getElem_toArray, List.getElem_cons_succ, List.getElem_cons_zero, List.setIfInBounds_toArray, List.set_cons_zero, List.set_cons_succ]
      refine wpAnyH_take (i := 3) (v := .pointer (some ⟨lg, 4, none⟩)) rfl (by kernel_rfl) (by kernel_rfl) (by kernel_rfl) (fun _ _ _ h => h) (Or.inl ⟨by rfl, fun wx hx => by simp [go_sem]⟩) trivial ?_
      simp only [Act.put, List.getElem_toArray, List.getElem_cons_succ, List.getElem_cons_zero, List.setIfInBounds_toArray, List.set_cons_zero, List.set_cons_succ]
      refine wpAnyH_take (i := 4) (v := .pointer (some ⟨lg, 6, none⟩)) rfl (by kernel_rfl) (by kernel_rfl) (by kernel_rfl) (fun _ _ _ h => h) (Or.inl ⟨by rfl, fun wx hx => by simp [go_sem]⟩) trivial ?_
      simp only [Act.put, List.getElem_toArray, List.getElem_cons_succ, List.getElem_cons_zero, List.setIfInBounds_toArray, List.set_cons_zero, List.set_cons_succ]
      refine wpAnyH_take (i := 6) (v := .slice ax nx cx) rfl (by kernel_rfl) (by kernel_rfl) (by kernel_rfl) (fun _ _ _ h => h) (Or.inl ⟨by rfl, fun wx hx => by simp [go_sem]⟩) trivial ?_
      simp only [Act.put, List.getElem_toArray, List.getElem_cons_succ, List.getElem_cons_zero, List.setIfInBounds_toArray, List.set_cons_zero, List.set_cons_succ]
      refine wpAnyH_readCB 5 7 8 (.slice xa kn xc) (f := 64) (args := #[.slice ax nx cx]) (by kernel_rfl) rfl rfl rfl (by rfl) (by rfl) (fun _ => by rfl) (fun _ _ => by rfl) (by rfl) (fun _ => by rfl) (fun _ => by rfl) (by simp [go_sem, c6]) (by simp [go_sem]) (by simp [go_sem]) (bclone_any _ x _ HX5.out (by rw [← HNX.out]; have h1 := HBD.out; omega)) (by kernel_rfl) (by kernel_rfl) (by kernel_rfl) (by kernel_rfl) (fun _ => by rfl) (fun _ _ => by rfl) (by rfl) (by rfl) trivial ?_
      rintro e0 y6 ⟨vc, rfl, ho6, hz6⟩
      obtain ⟨ac, cc, hvc⟩ := ownB_form ho6
      rw [← HNX.out] at hvc
      subst hvc
      have hl6 : Blk y6 lg (lgC gd hs 0 k gen (.slice xa kn xc) u) 144 := HL6.out.below hz6 HL6.out.lt
      have hz7 := below_alloc y6 (.cells #[Value.slice ac nx cc] 23)
      have hl7 : Blk (y6.alloc (.cells #[Value.slice ac nx cc] 23)) lg (lgC gd hs 0 k gen (.slice xa kn xc) u) 144 := hl6.below hz7 hl6.lt
      have c6b : y6.cell? ⟨lg, 6, none⟩ = some (.slice xa kn xc) := hl6.cell 6
      have c6c : (y6.alloc (.cells #[Value.slice ac nx cc] 23)).cell? ⟨lg, 6, none⟩ = some (.slice xa kn xc) := hl7.cell 6
      refine ⟨_, rfl, trivial, by simp [go_sem, c6b], .slice (some ⟨y6.heap.size, 0, none⟩) 1 1, y6.alloc (.cells #[Value.slice ac nx cc] 23), build_x1 _ _ (.tmp 61) ac nx cc rfl rfl _, build_x1 _ _ (.tmp 61) ac nx cc rfl rfl _, trivial, by simp [go_sem, c6c], ?_⟩
      simp only [Act.put, List.getElem_toArray, List.getElem_cons_succ, List.getElem_cons_zero, List.setIfInBounds_toArray, List.set_cons_zero, List.set_cons_succ]
      have HT7 : Hid (TxJ 0 (.slice xa kn xc) us J.l y6) := HT6.out.next hz6
      have HOW : Hid (OwnB y6 y5.drew.heap.size (.slice ac nx cc) x) := ho6
      refine wpAnyH_appX 9 (.tmp 59) (.tmp 62) 0 (.slice xa kn xc) (.slice ac nx cc) us y6.heap.size (HT7.out.next hz7).own ((Blk.new y6 [Value.slice ac nx cc] 23).cell 0) rfl (by have h1 := HT7.out.len; have h2 := HKN.out; have h3 := HBD.out; omega) (Nat.zero_le _) (by kernel_rfl) rfl (by rfl) rfl rfl rfl ?_
      intro v8 y8 ho8 hg8 ha8
      refine ⟨trivial, ?_⟩
      simp only [Act.put, List.getElem_toArray, List.getElem_cons_succ, List.getElem_cons_zero, List.setIfInBounds_toArray, List.set_cons_zero, List.set_cons_succ]
      obtain ⟨HT8, _⟩ := HT7.out.grow (ownB_lower HOW.out (Nat.zero_le _)) ho8 hg8
      obtain ⟨a8, c8, hv8⟩ := HT8.form
      obtain ⟨kn1, HKN1⟩ : ∃ m, Hid (m = kn + 1) := ⟨_, rfl⟩
      have hkl : (J.l ++ [x]).length = kn1 := by rw [List.length_append, ← HKN.out, HKN1.out]; rfl
      rw [hkl] at hv8
      subst hv8
      have hrow : (Value.slice xa kn xc).ownBlock ≠ some lg := ownX_ne_lg (HT7.out.next hz7).own hl7
      have hl8 : Blk y8 lg (lgC gd hs 0 k gen (.slice xa kn xc) u) 144 := hl7.grownJ hg8 hrow
      have hb58 : ∀ z, z < y5.heap.size → (Value.slice xa kn xc).ownBlock ≠ some z → y8.heap[z]? = y5.heap[z]? := fun z hz hne => by
        have h1 : z < y6.heap.size := Nat.lt_of_lt_of_le hz hz6.size
        have h2 : z < (y6.alloc (.cells #[Value.slice ac nx cc] 23)).heap.size := Nat.lt_of_lt_of_le h1 hz7.size
        rw [hg8.block z h2 (Ne.symm hne), hz7.block z h1, hz6.block z hz]
        rfl
      have HS8 : Hid (y5.heap.size ≤ y8.heap.size) := Nat.le_trans hz6.size (Nat.le_trans hz7.size hg8.size)
      have HRQ : Hid (∀ z, (Value.slice xa kn xc).ownBlock = some z → Q z ∧ z < y1.heap.size) := fun z hz => ⟨HQO.out z (Or.inr (Or.inl hz)), HLT.out z (Or.inr (HQO.out z (Or.inr (Or.inl hz))))⟩
      have HM8 : Hid (Mut (Un P Q) y1 y8) := by
        have ho := hg8.os.trans (hz7.os.trans (hz6.os.trans rfl))
        refine ⟨(hg8.os.trans (hz7.os.trans hz6.os)).trans HM5.out.os, (hg8.tape.trans (hz7.tape.trans hz6.tape)).trans HM5.out.tape, (hg8.output.trans (hz7.output.trans hz6.output)).trans HM5.out.output, Nat.le_trans HM5.out.size HS8.out, fun z hz hn => ?_⟩
        rw [hb58 z (Nat.lt_of_lt_of_le hz HM5.out.size) (fun e => hn (Or.inr (HRQ.out z e).1))]
        exact HM5.out.block z hz hn
      have HD8 : Hid (DkIs y8 gd P5 DX) := HD5.out.same14 (fun z hz => hb58 z (HD5.out.lt14 z hz) (fun e => (HG5.out z hz).elim (fun h => HAP.out z (HRQ.out z e).1 h) (fun h => absurd (HRQ.out z e).2 (by omega))))
      have HQ8 : Hid (∀ z, lgQ lg (.slice a8 kn1 c8) (us ++ [.slice ac nx cc]) z → Q z ∨ y1.heap.size ≤ z) := fun z hz => by
        rcases hz with rfl | hz | ⟨uu, huu, hz⟩
        · exact Or.inl HQL.out
        · rcases ha8 with h | h
          · rw [h] at hz; exact Or.inl (HRQ.out z hz).1
          · rw [h] at hz
            cases hz
            exact Or.inr (Nat.le_trans HM5.out.size (Nat.le_trans hz6.size hz7.size))
        · rcases List.mem_append.1 huu with huu | huu
          · exact Or.inl (HQO.out z (Or.inr (Or.inr ⟨uu, huu, hz⟩)))
          · simp at huu
            subst huu
            exact Or.inr (Nat.le_trans HM5.out.size (HOW.out.ltJ z hz).1)
      have HT8' : Hid (TxJ 0 (.slice a8 kn1 c8) (us ++ [.slice ac nx cc]) (J.l ++ [x]) y8) := HT8
      have HL8 : Hid (Blk y8 lg (lgC gd hs 0 k gen (.slice xa kn xc) u) 144) := hl8
      clear HT8 hl8 hb58 hrow hkl ho8 hg8 ha8 hz6 hz7 hl6 hl7 c6 c6b c6c ho6 HOW HT7 HT6 HT5 HL6 HX5 HRQ HQO
      refine wpAnyH_take (i := 10) (v := .pointer (some ⟨lg, 0, none⟩)) rfl (by kernel_rfl) (by kernel_rfl) (by kernel_rfl) (fun _ _ _ h => h) (Or.inl ⟨by rfl, fun wx hx => by simp [go_sem]⟩) trivial ?_
      simp only [Act.put, List.getElem_toArray, List.getElem_cons_succ, List.getElem_cons_zero, List.setIfInBounds_toArray, List.set_cons_zero, List.set_cons_succ]
      refine wpAnyH_take (i := 11) (v := .pointer (some ⟨lg, 4, none⟩)) rfl (by kernel_rfl) (by kernel_rfl) (by kernel_rfl) (fun _ _ _ h => h) (Or.inl ⟨by rfl, fun wx hx => by simp [go_sem]⟩) trivial ?_
      simp only [Act.put, List.getElem_toArray, List.getElem_cons_succ, List.getElem_cons_zero, List.setIfInBounds_toArray, List.set_cons_zero, List.set_cons_succ]
      refine wpAnyH_take (i := 12) (v := .pointer (some ⟨lg, 6, none⟩)) rfl (by kernel_rfl) (by kernel_rfl) (by kernel_rfl) (fun _ _ _ h => h) (Or.inl ⟨by rfl, fun wx hx => by simp [go_sem]⟩) trivial ?_
      simp only [Act.put, List.getElem_toArray, List.getElem_cons_succ, List.getElem_cons_zero, List.setIfInBounds_toArray, List.set_cons_zero, List.set_cons_succ]
      have c68 : y8.cell? ⟨lg, 6, none⟩ = some (.slice xa kn xc) := HL8.out.cell 6
      have d68 : y8.frozen? ⟨lg, 6, none⟩ = false := HL8.out.frozen 6
      refine wpAnyH_skip 13 (y8.setCell ⟨lg, 6, none⟩ (.slice a8 kn1 c8)) (by kernel_rfl) rfl (by rfl) (by simp [go_sem, c68, d68]) trivial ?_
      simp only [Act.put]
      refine wpAnyH_done (by kernel_rfl) ?_ _
      obtain ⟨y9, HY9⟩ : ∃ y, Hid (y = y8.setCell ⟨lg, 6, none⟩ (.slice a8 kn1 c8)) := ⟨_, rfl⟩
      rw [← HY9.out]
      have ho9 : Only lg y8 y9 := by rw [HY9.out]; exact Only.setCell (Only.refl _ _) _ _
      have HL9 : Hid (Blk y9 lg (lgC gd hs 0 k gen (.slice a8 kn1 c8) u) 144) := by rw [HY9.out]; exact lg_set _ HL8.out
      have HT9 : Hid (TxJ 0 (.slice a8 kn1 c8) (us ++ [.slice ac nx cc]) (J.l ++ [x]) y9) := HT8'.out.onlyT ho9 HL8.out (by decide) (by decide)
      have HM9 : Hid (Mut (Un P Q) y1 y9) := HM8.out.trans (fun _ _ h => h) (ho9.mut (Or.inr HQL.out))
      have HN5 : Hid (¬ P5 lg) := fun h => (HG5.out lg h).elim HNP.out (fun h2 => absurd h2 (by have := HLB.out.lt; omega))
      have HD9 : Hid (DkIs y9 gd P5 DX) := HD8.out.same14 (fun z hz => ho9.block z (fun e => HN5.out (e ▸ hz)) (HD8.out.lt14 z hz))
      clear HY9 ho9 HL8 HT8' HM8 HD8 c68 d68
      go_upto_region 11 with fail
      have HL10 : Hid (Blk y9.drew lg (lgC gd hs 0 k gen (.slice a8 kn1 c8) u) 144) := HL9.out.drew
      have c7 : y9.drew.cell? ⟨lg, 7, none⟩ = some (.int .i64 (u : Int)) := HL10.out.cell 7
      have d7 : y9.drew.frozen? ⟨lg, 7, none⟩ = false := HL10.out.frozen 7
      have HSC : Hid (∀ W, Calls Tryz.prog 103 #[.int .i64 (rl : Int)] W fun e w' => e = .returned (.int .i64 (sx : Int)) ∧ w' = W) := fun W => by
        have h1 := jSectors_any rl (by have h2 := HRL2.out; have h3 := HSB.out; have h4 := HBD.out; omega) W
        have e : (rl + 63) / 64 = sx := by have h2 := HRL2.out; omega
        rw [e] at h1
        exact h1
      refine wp_region_held_drew (S := fun _ => True) (by kernel_rfl) trivial ?_
      intro _
      refine wpAnyH_take (i := 0) (v := .pointer (some ⟨lg, 0, none⟩)) rfl (by kernel_rfl) (by kernel_rfl) (by kernel_rfl) (fun _ _ _ h => h) (Or.inl ⟨by rfl, fun wx hx => by simp [go_sem]⟩) trivial ?_
      simp only [Act.put, List.getElem_toArray, List.getElem_cons_zero, List.setIfInBounds_toArray]
      refine wpAnyH_take (i := 1) (v := .pointer (some ⟨lg, 0, none⟩)) rfl (by kernel_rfl) (by kernel_rfl) (by kernel_rfl) (fun _ _ _ h => h) (Or.inl ⟨by rfl, fun wx hx => by simp [go_sem]⟩) trivial ?_
      simp only [Act.put, List.getElem_toArray, List.getElem_cons_succ, List.getElem_cons_zero, List.setIfInBounds_toArray, List.set_cons_zero, List.set_cons_succ]
      refine wpAnyH_take (i := 2) (v := .pointer (some ⟨lg, 4, none⟩)) rfl (by kernel_rfl) (by kernel_rfl) (by kernel_rfl) (fun _ _ _ h => h) (Or.inl ⟨by rfl, fun wx hx => by simp [go_sem]⟩) trivial ?_
      simp only [Act.put, List.getElem_toArray, List.getElem_cons_succ, List.getElem_cons_zero, List.setIfInBounds_toArray, List.set_cons_zero, List.set_cons_succ]
      refine wpAnyH_take (i := 3) (v := .pointer (some ⟨lg, 7, none⟩)) rfl (by kernel_rfl) (by kernel_rfl) (by kernel_rfl) (fun _ _ _ h => h) (Or.inl ⟨by rfl, fun wx hx => by simp [go_sem]⟩) trivial ?_
      simp only [Act.put, List.getElem_toArray, List.getElem_cons_succ, List.getElem_cons_zero, List.setIfInBounds_toArray, List.set_cons_zero, List.set_cons_succ]
      refine wpAnyH_take (i := 5) (v := .slice a3 rl c3) rfl (by kernel_rfl) (by kernel_rfl) (by kernel_rfl) (fun _ _ _ h => h) (Or.inl ⟨by rfl, fun wx hx => by simp [go_sem]⟩) trivial ?_
      simp only [Act.put, List.getElem_toArray, List.getElem_cons_succ, List.getElem_cons_zero, List.setIfInBounds_toArray, List.set_cons_zero, List.set_cons_succ]
      refine wpAnyH_take (i := 6) (v := .int .i64 (rl : Int)) rfl (by kernel_rfl) (by kernel_rfl) (by kernel_rfl) (fun _ _ _ h => h) (Or.inl ⟨by rfl, fun wx hx => by simp [go_sem]⟩) trivial ?_
      simp only [Act.put, List.getElem_toArray, List.getElem_cons_succ, List.getElem_cons_zero, List.setIfInBounds_toArray, List.set_cons_zero, List.set_cons_succ]
      refine wpAnyH_readC 4 7 (.int .i64 (u : Int)) (f := 103) (args := #[.int .i64 (rl : Int)]) (by kernel_rfl) rfl rfl (by rfl) (by rfl) (fun _ => by rfl) (by rfl) (by simp [go_sem, c7]) (by simp [go_sem]) (by simp [go_sem]) (HSC.out _) (by kernel_rfl) (by kernel_rfl) (fun _ => by rfl) (by rfl) trivial ?_
      rintro e0 y10 ⟨rfl, hy10⟩
      subst hy10
      refine ⟨_, rfl, trivial, by simp [go_sem, c7], ?_⟩
      simp only [Act.put, List.getElem_toArray, List.getElem_cons_succ, List.getElem_cons_zero, List.setIfInBounds_toArray, List.set_cons_zero, List.set_cons_succ]
      refine wpAnyH_take (i := 8) (v := .int .i64 (u2 : Int)) rfl (by kernel_rfl) (by kernel_rfl) (by kernel_rfl) (fun _ _ _ h => h) (Or.inl ⟨by rfl, fun wx hx => by simp [go_sem, f4]⟩) trivial ?_
      simp only [Act.put, List.getElem_toArray, List.getElem_cons_succ, List.getElem_cons_zero, List.setIfInBounds_toArray, List.set_cons_zero, List.set_cons_succ]
      refine wpAnyH_take (i := 9) (v := .pointer (some ⟨lg, 0, none⟩)) rfl (by kernel_rfl) (by kernel_rfl) (by kernel_rfl) (fun _ _ _ h => h) (Or.inl ⟨by rfl, fun wx hx => by simp [go_sem]⟩) trivial ?_
      simp only [Act.put, List.getElem_toArray, List.getElem_cons_succ, List.getElem_cons_zero, List.setIfInBounds_toArray, List.set_cons_zero, List.set_cons_succ]
      refine wpAnyH_take (i := 10) (v := .pointer (some ⟨lg, 4, none⟩)) rfl (by kernel_rfl) (by kernel_rfl) (by kernel_rfl) (fun _ _ _ h => h) (Or.inl ⟨by rfl, fun wx hx => by simp [go_sem]⟩) trivial ?_
      simp only [Act.put, List.getElem_toArray, List.getElem_cons_succ, List.getElem_cons_zero, List.setIfInBounds_toArray, List.set_cons_zero, List.set_cons_succ]
      refine wpAnyH_take (i := 11) (v := .pointer (some ⟨lg, 7, none⟩)) rfl (by kernel_rfl) (by kernel_rfl) (by kernel_rfl) (fun _ _ _ h => h) (Or.inl ⟨by rfl, fun wx hx => by simp [go_sem]⟩) trivial ?_
      simp only [Act.put, List.getElem_toArray, List.getElem_cons_succ, List.getElem_cons_zero, List.setIfInBounds_toArray, List.set_cons_zero, List.set_cons_succ]
      refine wpAnyH_skip 12 (y9.drew.setCell ⟨lg, 7, none⟩ (.int .i64 (u2 : Int))) (by kernel_rfl) rfl (by rfl) (by simp [go_sem, c7, d7]) trivial ?_
      simp only [Act.put]
      refine wpAnyH_done (by kernel_rfl) ?_ _
      obtain ⟨y11, HY11⟩ : ∃ y, Hid (y = y9.drew.setCell ⟨lg, 7, none⟩ (.int .i64 (u2 : Int))) := ⟨_, rfl⟩
      rw [← HY11.out]
      have ho11 : Only lg y9.drew y11 := by rw [HY11.out]; exact Only.setCell (Only.refl _ _) _ _
      have HL11 : Hid (Blk y11 lg (lgC gd hs 0 k gen (.slice a8 kn1 c8) u2) 144) := by rw [HY11.out]; exact lg_setU _ HL10.out
      have HT11 : Hid (TxJ 0 (.slice a8 kn1 c8) (us ++ [.slice ac nx cc]) (J.l ++ [x]) y11) := (HT9.out.next ((Below.refl _ _).drew)).onlyT ho11 HL10.out (by decide) (by decide)
      have HM11 : Hid (Mut (Un P Q) y1 y11) := HM9.out.drew.trans (fun _ _ h => h) (ho11.mut (Or.inr HQL.out))
      have HD11 : Hid (DkIs y11 gd P5 DX) := (HD9.out.same14 (w' := y9.drew) (fun _ _ => rfl)).same14 (fun z hz => ho11.block z (fun e => HN5.out (e ▸ hz)) (HD9.out.lt14 z hz))
      clear HY11 ho11 c7 d7
      go_wp2
      go_ret
      have hlm : LgM y11 lg gd (sizeD DX) (.slice a8 kn1 c8) (us ++ [.slice ac nx cc]) ⟨J.k, J.gen, J.l ++ [x]⟩ := ⟨by
        show Blk y11 lg (lgC gd (sizeD DX / 2) 0 J.k J.gen (.slice a8 kn1 c8) (1 + secL (J.l ++ [x]))) 144
        rw [HER.out.2, ← HHS.out, ← HKK.out, ← HGN.out, secL_snoc, ← HNX.out, ← HSX.out, ← Nat.add_assoc, ← HU.out, ← HU2.out]
        exact HL11.out, HT11.out⟩
      have hpk : Pk LgJ y11 gd lg P5 (lgQ lg (.slice a8 kn1 c8) (us ++ [.slice ac nx cc])) DX ⟨J.k, J.gen, J.l ++ [x]⟩ := ⟨HD11.out, ⟨_, _, hlm, rfl⟩, pk_ap HD11.out hlm⟩
      have hgw : Grew y1 (Un P Q) (Un P5 (lgQ lg (.slice a8 kn1 c8) (us ++ [.slice ac nx cc]))) := fun z hz => hz.elim (fun h => (HG5.out z h).imp Or.inl id) (fun h => (HQ8.out z h).imp Or.inr id)
      first
        | exact ⟨rfl, P5, _, HD11.out, HM11.out, hgw, fun _ => hpk⟩
        | exact ⟨rfl, P5, _, HD11.out, HM11.out, hgw, hpk⟩
        | exact ⟨rfl, P5, HD11.out, HM11.out, _, hgw, hpk⟩
        | trace_state
end Go.Proofs.YteklnooagjkclaaGreatDoor
/- The walk of journal's Restart, as it landed (layer 14). -/
namespace Go.Proofs.YteklnooagjkclaaGreatDoor
open Go.RowKit
set_option maxRecDepth 100000
/-- texts that lie in no block of R stay, whatever R becomes -/
theorem TxJ.stN {base : Nat} {v : Value} {us : List Value} {xs : List Bs} {w : World} (h : TxJ base v us xs w) {R : Nat → Prop} (hv : ∀ z, v.ownBlock = some z → ¬ R z) (hu : ∀ u ∈ us, ∀ z, u.ownBlock = some z → ¬ R z) : Sta R w (fun W => ReadsL W v xs) := fun W m =>
  (h.sameQ m.size (fun z hz => m.block z (h.own.lt z hz).2 (hv z hz)) (fun u huu z hz => m.block z (by
    obtain ⟨i, hi, rfl⟩ := List.getElem_of_mem huu
    exact ((h.good i _ (List.getElem?_eq_getElem hi)).ltJ z hz).2) (hu u huu z hz))).readsL
theorem TxJ.ge_all {base : Nat} {v : Value} {us : List Value} {xs : List Bs} {w : World} (h : TxJ base v us xs w) : (∀ z, v.ownBlock = some z → base ≤ z ∧ z < w.heap.size) ∧ ∀ u ∈ us, ∀ z, u.ownBlock = some z → base ≤ z ∧ z < w.heap.size := ⟨h.own.lt, fun u huu z hz => by
  obtain ⟨i, hi, rfl⟩ := List.getElem_of_mem huu
  exact (h.good i _ (List.getElem?_eq_getElem hi)).ltJ z hz⟩
theorem TxJ.lower {base B : Nat} {v : Value} {us : List Value} {xs : List Bs} {w : World} (h : TxJ base v us xs w) (hB : B ≤ base) : TxJ B v us xs w := by
  refine ⟨?_, h.len, fun j u hj => ownB_lower (h.good j u hj) hB, Nat.le_trans hB h.ge⟩
  rcases h.own with ⟨h1, ⟨rfl, h2⟩ | ⟨g, cap, cur, rfl, hg, r⟩⟩
  · exact ⟨h1, Or.inl ⟨rfl, h2⟩⟩
  · exact ⟨h1, Or.inr ⟨g, cap, cur, rfl, Nat.le_trans hB hg, r⟩⟩
end Go.Proofs.YteklnooagjkclaaGreatDoor
/- Slices of texts that stay whatever blocks of P become; blazonref14.Append and Restart with them (layer 14). -/
namespace Go.Proofs.YteklnooagjkclaaGreatDoor
open Go.RowKit
set_option maxRecDepth 100000
/-- a slice of texts, whatever blocks of P become -/
def StaL (P : Nat → Prop) (w : World) (v : Value) (l : List Bs) : Prop :=
  ∃ ad cap, v = .slice ad l.length cap ∧ l.length ≤ cap ∧ (ad = none → cap = 0) ∧ (0 < l.length → ∃ b off, ad = some ⟨b, off, none⟩ ∧ ¬ P b ∧ ∀ j, j < l.length → ∃ vj, w.cell? ⟨b, off + j, none⟩ = some vj ∧ Sta P w (fun W => Reads W vj (l.getD j [])))
theorem StaL.now {P : Nat → Prop} {w : World} {v : Value} {l : List Bs} (h : StaL P w v l) : ReadsL w v l := by
  obtain ⟨ad, cap, h1, h2, h3, h4⟩ := h
  refine ⟨ad, cap, h1, h2, h3, fun hp => ?_⟩
  obtain ⟨b, off, h5, _, h6⟩ := h4 hp
  refine ⟨b, off, h5, fun j hj => ?_⟩
  obtain ⟨vj, h7, h9⟩ := h6 j hj
  exact ⟨vj, h7, h9.now⟩
theorem StaL.go {P P' : Nat → Prop} {w w' : World} {v : Value} {l : List Bs} (h : StaL P w v l) (m : Mut P w w') (hP : ∀ k, k < w.heap.size → P' k → P k) : StaL P' w' v l := by
  obtain ⟨ad, cap, h1, h2, h3, h4⟩ := h
  refine ⟨ad, cap, h1, h2, h3, fun hp => ?_⟩
  obtain ⟨b, off, h5, hnb, h6⟩ := h4 hp
  obtain ⟨_, h0, _⟩ := h6 0 hp
  refine ⟨b, off, h5, fun hb => hnb (hP b (block_lt_of_cell h0) hb), fun j hj => ?_⟩
  obtain ⟨vj, h7, h9⟩ := h6 j hj
  exact ⟨vj, m.cell hnb h7, h9.go m hP⟩
theorem StaL.below {P : Nat → Prop} {w w' : World} {v : Value} {l : List Bs} (h : StaL P w v l) (hb : Below w.heap.size w w') : StaL P w' v l := h.go (mut_below hb P) (fun _ _ h => h)
theorem StaL.nil (P : Nat → Prop) (w : World) : StaL P w (.slice none 0 0) [] := ⟨none, 0, rfl, Nat.le_refl _, fun _ => rfl, fun h => by simp at h⟩
end Go.Proofs.YteklnooagjkclaaGreatDoor
/- The walk of the statements' do, over what journal's functions do (layer 14). -/
namespace Go.Proofs.YteklnooagjkclaaGreatDoor
open Go.RowKit
set_option maxRecDepth 100000
/-- an act -/
structure OpT where
  ag : Bool
  b : Bs
  l : List Bs
/-- an act that is not more than is waited for -/
structure okO (o : OpT) : Prop where
  b : o.b.length ≤ 100000
  n : o.l.length ≤ 100000
  l : ∀ x ∈ o.l, x.length ≤ 100000
  s : sizeL o.l < 100000000
end Go.Proofs.YteklnooagjkclaaGreatDoor
/- The walk of the statements' few (layer 14). -/
namespace Go.Proofs.YteklnooagjkclaaGreatDoor
open Go.RowKit
set_option maxRecDepth 100000
/-- a slice of acts -/
def ROps (w : World) (v : Value) (os : List OpT) : Prop :=
  ∃ ad cap, v = .slice ad os.length cap ∧ os.length ≤ cap ∧ (0 < os.length → ∃ b off, ad = some ⟨b, off, none⟩ ∧ ∀ j, j < os.length → ∃ vB vL, w.cell? ⟨b, off + j * 3, none⟩ = some (.bool (os.getD j ⟨false, [], []⟩).ag) ∧ w.cell? ⟨b, off + j * 3 + 1, none⟩ = some vB ∧ w.cell? ⟨b, off + j * 3 + 2, none⟩ = some vL ∧ Reads w vB (os.getD j ⟨false, [], []⟩).b ∧ ReadsL w vL (os.getD j ⟨false, [], []⟩).l)
theorem ROps.below {w w' : World} {v : Value} {os : List OpT} (h : ROps w v os) (hb : Below w.heap.size w w') : ROps w' v os := by
  obtain ⟨ad, cap, h1, h2, h3⟩ := h
  refine ⟨ad, cap, h1, h2, fun hp => ?_⟩
  obtain ⟨b, off, h4, h5⟩ := h3 hp
  refine ⟨b, off, h4, fun j hj => ?_⟩
  obtain ⟨vB, vL, c0, c1, c2, r1, r2⟩ := h5 j hj
  have up : ∀ k u, w.cell? ⟨b, k, none⟩ = some u → w'.cell? ⟨b, k, none⟩ = some u := fun k u hu => by rw [hb.cell (p := ⟨b, k, none⟩) (block_lt_of_cell hu)]; exact hu
  exact ⟨vB, vL, up _ _ c0, up _ _ c1, up _ _ c2, r1.below hb, r2.below hb⟩
theorem ROps.at {w : World} {ad : Option Addr} {n c : Nat} {os : List OpT} (h : ROps w (.slice ad n c) os) {j : Nat} (hj : j < os.length) : ∃ b off vB vL, ad = some ⟨b, off, none⟩ ∧ w.cell? ⟨b, off + j * 3, none⟩ = some (.bool (os.getD j ⟨false, [], []⟩).ag) ∧ w.cell? ⟨b, off + j * 3 + 1, none⟩ = some vB ∧ w.cell? ⟨b, off + j * 3 + 2, none⟩ = some vL ∧ Reads w vB (os.getD j ⟨false, [], []⟩).b ∧ ReadsL w vL (os.getD j ⟨false, [], []⟩).l := by
  obtain ⟨ad', cap, h1, h2, h3⟩ := h
  simp only [Value.slice.injEq] at h1
  obtain ⟨rfl, _, _⟩ := h1
  obtain ⟨b, off, h4, h5⟩ := h3 (Nat.lt_of_le_of_lt (Nat.zero_le _) hj)
  obtain ⟨vB, vL, r⟩ := h5 j hj
  exact ⟨b, off, vB, vL, h4, r⟩
/-- lengths that no machine's memory passes -/
structure szO (o : OpT) : Prop where
  b : o.b.length ≤ 1125899906842624
  n : o.l.length ≤ 1125899906842624
  l : ∀ x ∈ o.l, x.length ≤ 1125899906842624
end Go.Proofs.YteklnooagjkclaaGreatDoor
/- Plain: an act by the log, and by the reference (layer 14). -/
namespace Go.Proofs.YteklnooagjkclaaGreatDoor
open Go.RowKit
set_option maxRecDepth 100000
end Go.Proofs.YteklnooagjkclaaGreatDoor
/- JournalDoes, over what journal's functions do (layer 14). -/
namespace Go.Proofs.YteklnooagjkclaaGreatDoor
open Go.RowKit
set_option maxRecDepth 100000
set_option maxRecDepth 100000 in
set_option maxHeartbeats 3000000 in
theorem dkSize_pure {w : World} {g : Nat} {P : Nat → Prop} {D : DkT} (h : DkIs w g P D) : Calls Tryz.prog 22 #[.pointer (some ⟨g, 0, none⟩)] w fun r w' => r = .returned (.int .i64 (sizeD D : Int)) ∧ w' = w := by
  obtain ⟨gs, vw, fu, lf, hm, hP⟩ := h
  clear hP
  obtain ⟨n, HN⟩ : ∃ n, Hid (n = sizeD D) := ⟨_, rfl⟩
  have c0 : w.cell? ⟨g, 0, none⟩ = some (.slice (some ⟨gs, 0, none⟩) n n) := by rw [hm.me.cell 0, HN.out]; rfl
  rw [← HN.out]
  clear hm
  go_enter Tryz.func22, Tryz.ntmps22
  go_wp2
  go_ret
  exact ⟨rfl, rfl⟩
set_option maxRecDepth 100000 in
set_option maxHeartbeats 3000000 in
theorem dkDump_b {w : World} {g : Nat} {P : Nat → Prop} {D : DkT} (h : DkIs w g P D) (hw2 : D.wait.length ≤ 200) : Calls Tryz.prog 25 #[.pointer (some ⟨g, 0, none⟩)] w fun r w' => ∃ v, r = .returned v ∧ Reads w' v (dumpD D) ∧ Below w.heap.size w w' := by
  obtain ⟨gs, vw, fu, lf, hm, hP⟩ := h
  subst hP
  obtain ⟨n, HN⟩ : ∃ n, Hid (n = sizeD D) := ⟨_, rfl⟩
  obtain ⟨aw, cw, hvw⟩ := hm.wt.form
  obtain ⟨nw, HNW⟩ : ∃ n, Hid (n = D.wait.length) := ⟨_, rfl⟩
  rw [← HNW.out] at hvw
  subst hvw
  obtain ⟨dn, HDN⟩ : ∃ b, Hid (b = D.down) := ⟨_, rfl⟩
  have HM : Hid (DkM w g gs (.slice aw nw cw) fu lf D) := hm
  have HME : Hid (Blk w g [.slice (some ⟨gs, 0, none⟩) n n, .slice aw nw cw, .bool dn, .bool fu, .int .i64 lf] 94) := by have h9 := hm.me; rw [dkC, ← HN.out, ← HDN.out] at h9; exact h9
  have c0 : w.cell? ⟨g, 0, none⟩ = some (.slice (some ⟨gs, 0, none⟩) n n) := HME.out.cell 0
  have HW2 : Hid (nw ≤ 200) := by show _ ≤ _; rw [HNW.out]; exact hw2
  have HOK : Hid (okD D) := hm.ok
  obtain ⟨N, HNN⟩ : ∃ N : Nat, Hid (N = 64 * n) := ⟨_, rfl⟩
  have HSL : Hid (D.safe.length = 64 * n ∧ n ≤ 16384) := by rw [HN.out]; exact ⟨hm.ok.size.1, hm.ok.size.2.2⟩
  have HMK : Hid (N ≤ N ∧ N < 281474976710600) := ⟨Nat.le_refl _, by have h1 := HNN.out; have h2 := HSL.out.2; omega⟩
  clear hm hw2
  have f1 : IntKind.i64.wrap ((n : Int) * 64) = (N : Int) := by rw [IntKind.wrap_i64]; have h1 := HNN.out; have h2 := HSL.out.2; omega
  go_enter Tryz.func25, Tryz.ntmps25
  have tk0 : Hid True := trivial
  go_wp2_with (first
    | (clear tk0; with_reducible refine wpSeq_make (.tmp 12) (.tmp 12) N N HMK.out.1 HMK.out.2 ?_ ?_ ?_ ?_ ?_
       · rfl
       · rfl
       · rfl
       · rfl
       intro gb y1 z hz hge hzb hzl
       have HGE : Hid (w.heap.size ≤ gb) := hge
       have HBZ : Hid (Blk y1 gb (cb z) 5) := hzb
       have HBW : Hid (Below w.heap.size w y1) := hzl
       have HZL : Hid (z.length = 64 * n) := by show _ = _; rw [hz, List.length_replicate, HNN.out]
       have HME1 : Hid (Blk y1 g [.slice (some ⟨gs, 0, none⟩) n n, .slice aw nw cw, .bool dn, .bool fu, .int .i64 lf] 94) := HME.out.below hzl HME.out.lt
       replace c0 : y1.cell? ⟨g, 0, none⟩ = some (.slice (some ⟨gs, 0, none⟩) n n) := HME1.out.cell 0
       clear hz hge hzb hzl))
  clear c0 f1 HME1
  go_loopw [19] (fun i wr => ∃ k : Nat, k ≤ n ∧ i = .int .i64 (k : Int) ∧ Hid (Blk wr gb (cb (upTo D.safe z k)) 5) ∧ Hid (Below w.heap.size w wr)) (fun i _ => n - (intOf i).toNat)
  case atStart => exact ⟨0, Nat.zero_le _, rfl, by rw [upTo_zero]; exact HBZ, HBW⟩
  case round =>
    obtain ⟨k, hkn, rfl, HBK, HBB⟩ := hrel
    clear HBZ HBW
    have HMEr : Hid (Blk wr g [.slice (some ⟨gs, 0, none⟩) n n, .slice aw nw cw, .bool dn, .bool fu, .int .i64 lf] 94) := HME.out.below HBB.out HME.out.lt
    by_cases hlt : k < n
    case pos =>
      have hlk : (k : Int) < (n : Int) := by omega
      have f5 : IntKind.i64.wrap ((k : Int) + 1) = (k : Int) + 1 := by rw [IntKind.wrap_i64]; have := HSL.out.2; omega
      obtain ⟨o, HOO⟩ : ∃ o : Nat, Hid (o = 64 * k) := ⟨_, rfl⟩
      have f6 : IntKind.i64.wrap ((k : Int) * 64) = (o : Int) := by rw [IntKind.wrap_i64]; have := HSL.out.2; have := HOO.out; omega
      have HKN : Hid (k < n) := hlt
      have HON : Hid (o < N ∧ 64 ≤ N - o) := by have h1 := HOO.out; have h2 := HNN.out; exact ⟨by omega, by omega⟩
      have HS6 : Hid ((secD D.safe k).length = 64) := sec_len (by rw [HSL.out.1]; omega)
      go_wp2_with fail
      refine wp_region_held_drew (S := fun wx => Blk wx g [.slice (some ⟨gs, 0, none⟩) n n, .slice aw nw cw, .bool dn, .bool fu, .int .i64 lf] 94) (by kernel_rfl) HMEr.out.drew ?_
      intro hS
      have HB3 : Hid (Blk wr.drew gb (cb (upTo D.safe z k)) 5) := HBK.out.drew
      have HBB3 : Hid (Below w.heap.size w wr.drew) := HBB.out.drew
      clear HBK HBB HMEr
      change wpAnyH _ _ _ _ _ _ _ _ (World.drew wr)
      generalize World.drew wr = y3 at *
      refine wpAnyH_take (i := 0) (v := .slice (some ⟨gb, 0, none⟩) N N) rfl (by kernel_rfl) (by kernel_rfl) (by kernel_rfl) (fun _ _ _ h => h) (Or.inl ⟨by rfl, fun wx hx => by simp [go_sem]⟩) hS ?_
      simp only [Act.put, List.getElem_toArray, List.getElem_cons_zero, List.setIfInBounds_toArray, List.set_cons_zero, List.set_cons_succ]
      refine wpAnyH_take (i := 1) (v := .int .i64 (k : Int)) rfl (by kernel_rfl) (by kernel_rfl) (by kernel_rfl) (fun _ _ _ h => h) (Or.inl ⟨by rfl, fun wx hx => by simp [go_sem]⟩) hS ?_
      simp only [Act.put, List.getElem_toArray, List.getElem_cons_succ, List.getElem_cons_zero, List.setIfInBounds_toArray, List.set_cons_zero, List.set_cons_succ]
      refine wpAnyH_take (i := 2) (v := .int .i64 (o : Int)) rfl (by kernel_rfl) (by kernel_rfl) (by kernel_rfl) (fun _ _ _ h => h) (Or.inl ⟨by rfl, fun wx hx => by simp [go_sem, f6]⟩) hS ?_
      simp only [Act.put, List.getElem_toArray, List.getElem_cons_succ, List.getElem_cons_zero, List.setIfInBounds_toArray, List.set_cons_zero, List.set_cons_succ]
      refine wpAnyH_take (i := 3) (v := .slice (some ⟨gb, 0 + o, none⟩) (N - o) (N - o)) rfl (by kernel_rfl) (by kernel_rfl) (by kernel_rfl) (fun _ _ _ h => h) (Or.inl ⟨by rfl, fun wx hx => by exact cutFrom gb 0 N N o HON.out.1 (Nat.le_refl _) _ _ _ _ rfl rfl rfl _⟩) hS ?_
      simp only [Act.put, List.getElem_toArray, List.getElem_cons_succ, List.getElem_cons_zero, List.setIfInBounds_toArray, List.set_cons_zero, List.set_cons_succ]
      refine wpAnyH_take (i := 4) (v := .pointer (some ⟨g, 0, none⟩)) rfl (by kernel_rfl) (by kernel_rfl) (by kernel_rfl) (fun _ _ _ h => h) (Or.inl ⟨by rfl, fun wx hx => by simp [go_sem]⟩) hS ?_
      simp only [Act.put, List.getElem_toArray, List.getElem_cons_succ, List.getElem_cons_zero, List.setIfInBounds_toArray, List.set_cons_zero, List.set_cons_succ]
      refine wpAnyH_take (i := 5) (v := .pointer (some ⟨g, 0, none⟩)) rfl (by kernel_rfl) (by kernel_rfl) (by kernel_rfl) (fun _ _ _ h => h) (Or.inl ⟨by rfl, fun wx hx => by simp [go_sem]⟩) hS ?_
      simp only [Act.put, List.getElem_toArray, List.getElem_cons_succ, List.getElem_cons_zero, List.setIfInBounds_toArray, List.set_cons_zero, List.set_cons_succ]
      refine wpAnyH_take (i := 6) (v := .pointer (some ⟨g, 0, none⟩)) rfl (by kernel_rfl) (by kernel_rfl) (by kernel_rfl) (fun _ _ _ h => h) (Or.inl ⟨by rfl, fun wx hx => by simp [go_sem]⟩) hS ?_
      simp only [Act.put, List.getElem_toArray, List.getElem_cons_succ, List.getElem_cons_zero, List.setIfInBounds_toArray, List.set_cons_zero, List.set_cons_succ]
      refine wpAnyH_take (i := 7) (v := .slice (some ⟨gs, 0, none⟩) n n) rfl (by kernel_rfl) (by kernel_rfl) (by kernel_rfl) (fun _ _ _ h => h) (Or.inl ⟨by rfl, fun wx hx => by (have hc := hx.cell 0; simp at hc; simp [go_sem, hc])⟩) hS ?_
      simp only [Act.put, List.getElem_toArray, List.getElem_cons_succ, List.getElem_cons_zero, List.setIfInBounds_toArray, List.set_cons_zero, List.set_cons_succ]
      refine wpAnyH_take (i := 8) (v := .int .i64 (k : Int)) rfl (by kernel_rfl) (by kernel_rfl) (by kernel_rfl) (fun _ _ _ h => h) (Or.inl ⟨by rfl, fun wx hx => by simp [go_sem]⟩) hS ?_
      simp only [Act.put, List.getElem_toArray, List.getElem_cons_succ, List.getElem_cons_zero, List.setIfInBounds_toArray, List.set_cons_zero, List.set_cons_succ]
      refine wpAnyH_take (i := 9) (v := .pointer (some ⟨gs, 64 * k, none⟩)) rfl (by kernel_rfl) (by kernel_rfl) (by kernel_rfl) (fun _ _ _ h => h) (Or.inl ⟨by rfl, fun wx hx => by exact idxSec gs n k HKN.out _ _ _ _ rfl rfl rfl _⟩) hS ?_
      simp only [Act.put, List.getElem_toArray, List.getElem_cons_succ, List.getElem_cons_zero, List.setIfInBounds_toArray, List.set_cons_zero, List.set_cons_succ]
      refine wpAnyH_take (i := 10) (v := .slice (some ⟨gs, 64 * k, none⟩) 64 64) rfl (by kernel_rfl) (by kernel_rfl) (by kernel_rfl) (fun _ _ _ h => h) (Or.inl ⟨by rfl, fun wx hx => by exact sliceSec gs (64 * k) _ _ _ rfl rfl _⟩) hS ?_
      simp only [Act.put, List.getElem_toArray, List.getElem_cons_succ, List.getElem_cons_zero, List.setIfInBounds_toArray, List.set_cons_zero, List.set_cons_succ]
      have hsf := (HM.out.below HBB3.out).sf
      refine wpAnyH_copyO 11 (.tmp 25) (.tmp 32) gb (0 + o) (N - o) (N - o) gs (64 * k) 64 64 5 _ (secD D.safe k) HB3.out (by rw [HS6.out]; have := HON.out.2; omega) (by rw [HS6.out, cb_len, upTo_len HSL.out.1 HZL.out (Nat.le_of_lt HKN.out)]; have h1 := HON.out; have h2 := HNN.out; omega) (range_cells (sec_range hsf (by rw [HSL.out.1]; have := HKN.out; omega))) (by kernel_rfl) rfl (by rfl) rfl rfl rfl ?_
      intro y4 hb4 ho4
      refine ⟨hS.only ho4 (hS.neT HB3.out (by decide)), ?_⟩
      have HB4 : Hid (Blk y4 gb (cb (upTo D.safe z (k + 1))) 5) := by
        rw [Nat.zero_add, HOO.out, lay_sec HS6.out, upTo_step HSL.out.1 HKN.out] at hb4
        exact hb4
      have HBB4 : Hid (Below w.heap.size w y4) := HBB3.out.trans (ho4.below HGE.out HBB3.out.size)
      clear hb4 ho4 hsf hS HB3 HBB3
      simp only [Act.put, List.getElem_toArray, List.getElem_cons_succ, List.getElem_cons_zero]
      refine wpAnyH_done (by kernel_rfl) ?_ _
      go_wp2
      go_roundw
      case rel => exact ⟨k + 1, by omega, by simp, HB4, HBB4⟩
      case measure => simp [intOf]; omega
    case neg =>
      have hlk : ¬ ((k : Int) < (n : Int)) := by omega
      obtain rfl : k = n := by omega
      have HB2 : Hid (Blk wr gb (cb (dumpW D.safe (D.wait.take 0))) 5) := by
        have h9 := HBK.out
        rw [upTo_all HSL.out.1 HZL.out] at h9
        exact h9
      have c1 : wr.cell? ⟨g, 1, none⟩ = some (.slice aw nw cw) := HMEr.out.cell 1
      clear HBK hkn hlt
      go_wp2_with fail
      clear c1 HMEr
      obtain ⟨n, HNK⟩ : ∃ n, Hid (n = k) := ⟨_, rfl⟩
      go_loopw [40] (fun i wr => ∃ j : Nat, j ≤ nw ∧ i = .int .i64 (j : Int) ∧ Hid (Blk wr gb (cb (dumpW D.safe (D.wait.take j))) 5) ∧ Hid (Below w.heap.size w wr)) (fun i _ => nw - (intOf i).toNat)
      case atStart => exact ⟨0, Nat.zero_le _, rfl, HB2, HBB⟩
      case round =>
        obtain ⟨j, hjn, rfl, HBK, HBB⟩ := hrel
        clear HB2
        have HMr : Hid (DkM wr g gs (.slice aw nw cw) fu lf D) := HM.out.below HBB.out
        by_cases hlt : j < nw
        case neg =>
          have hlk : ¬ ((j : Int) < (nw : Int)) := by omega
          have HBD : Hid (Blk wr gb (cb (dumpD D)) 5) := by
            have h9 := HBK.out
            rw [List.take_of_length_le (by rw [← HNW.out]; omega)] at h9
            exact h9
          have HLN : Hid ((dumpD D).length = N) := by show _ = _; rw [len_dumpD HOK.out, HSL.out.1, HNN.out]
          go_wp2
          go_ret
          exact ⟨_, rfl, HBD.out.reads HLN.out.symm (by rw [HLN.out]; exact Nat.le_refl _), HBB.out⟩
        case pos =>
          have hlk : (j : Int) < (nw : Int) := by omega
          have HKN : Hid (j < nw) := hlt
          have HLT : Hid (j < D.wait.length) := by show _ < _; rw [← HNW.out]; exact hlt
          have f5 : IntKind.i64.wrap ((j : Int) + 1) = (j : Int) + 1 := by rw [IntKind.wrap_i64]; have := HW2.out; omega
          obtain ⟨hmem, htk⟩ := getD_memV2 HLT.out
          obtain ⟨b, rfl, hat⟩ := HMr.out.wt.at (fun p hp => (HOK.out.wait p hp).2) (Nat.lt_of_le_of_lt (Nat.zero_le _) HLT.out)
          have hrg := hat j HLT.out
          replace hrg : wr.rangeAt b (j * 65) (wrC (D.wait.getD j (0, []))) := hrg
          obtain ⟨p, HPP⟩ : ∃ p, Hid (p = D.wait.getD j (0, [])) := ⟨_, rfl⟩
          rw [← HPP.out] at hmem htk hrg
          have HRG : Hid (wr.rangeAt b (j * 65) (wrC p)) := hrg
          have HTK : Hid (dumpW D.safe (D.wait.take (j + 1)) = layD (dumpW D.safe (D.wait.take j)) p.1 p.2 64) := by show _ = _; rw [htk, dumpW_snoc]
          have HPW : Hid (p.1 < k ∧ p.2.length = 64) := by rw [HN.out]; exact HOK.out.wait p hmem
          have HP6 : Hid (p.2.length = 64) := HPW.out.2
          have HWL : Hid ((wrC p).length = (wrC (0, zs64)).length) := by show _ = _; rw [wrC_len HP6.out, wrC_len (p := (0, zs64)) len_zs64]
          have HLN : Hid ((dumpW D.safe (D.wait.take j)).length = N) := by
            show _ = _
            rw [len_dumpW _ _ HOK.out.size.1 (fun q hq => HOK.out.wait q (List.mem_of_mem_take hq)), HNN.out, HN.out]
          obtain ⟨o, HOO⟩ : ∃ o : Nat, Hid (o = 64 * p.1) := ⟨_, rfl⟩
          have f6 : IntKind.i64.wrap ((p.1 : Int) * 64) = (o : Int) := by rw [IntKind.wrap_i64]; have := HSL.out.2; have := HOO.out; have := HPW.out.1; omega
          have HON : Hid (o < N ∧ 64 ≤ N - o) := by have h1 := HOO.out; have h2 := HNN.out; have h3 := HPW.out.1; exact ⟨by omega, by omega⟩
          clear hat hrg hmem htk
          have tk1 : Hid True := trivial
          have tk2 : Hid True := trivial
          have tk3 : Hid True := trivial
          have tk4 : Hid True := trivial
          go_wp2_with (first
    | (clear tk1; with_reducible refine wpSeq_idxWr (.tmp 38) (.tmp 40) b nw cw j HKN.out ?_ ?_ ?_ ?_ ?_
       · rfl
       · rfl
       · rfl
       · rfl)
    | (clear tk2; with_reducible refine wpSeq_loadW 109 (.tmp 42) b (j * 65) (wrC p) _ HRG.out Tryz.underlying109 rfl (sz_wr HP6.out) ?_ ?_ ?_ ?_
       · rfl
       · rfl
       · rfl)
    | (clear tk3; with_reducible refine wpSeq_allocDw ?_ ?_ ?_
       · rfl
       · rfl
       intro g6 y1 nn
       have HG6 : Hid (Blk y1 g6 (wrC (0, zs64)) 109) := nn.blk
       have HBW : Hid (Below wr.heap.size wr y1) := nn.below
       have HG6E : Hid (wr.heap.size ≤ g6) := nn.ge
       clear nn)
    | (clear tk4; with_reducible refine wpSeq_storeRow 109 (.tmp 6) (.tmp 43) g6 (wrC (0, zs64)) (wrC p) HG6.out HWL.out (sz_wr HP6.out) (wrC_one _) ?_ ?_ ?_ ?_ ?_
       · rfl
       · rfl
       · rfl
       · rfl
       intro y2 hs
       replace HG6 : Hid (Blk y2 g6 (wrC p) 109) := hs.blk
       replace HBW : Hid (Below wr.heap.size wr y2) := HBW.out.trans (hs.only.below HG6E.out HBW.out.size)
       clear hs)
    | fail)
          refine wp_region_held_drew (S := fun wx => Blk wx g6 (wrC p) 109) (by kernel_rfl) HG6.out.drew ?_
          intro hS
          have HB3 : Hid (Blk y2.drew gb (cb (dumpW D.safe (D.wait.take j))) 5) := HBK.out.below HBW.out.drew HBK.out.lt
          have HBB3 : Hid (Below w.heap.size w y2.drew) := HBB.out.trans (HBW.out.drew.mono HBB.out.size)
          clear HBK HBB HBW HG6 HG6E HRG HMr
          change wpAnyH _ _ _ _ _ _ _ _ (World.drew y2)
          generalize World.drew y2 = y3 at *
          refine wpAnyH_take (i := 0) (v := .slice (some ⟨gb, 0, none⟩) N N) rfl (by kernel_rfl) (by kernel_rfl) (by kernel_rfl) (fun _ _ _ h => h) (Or.inl ⟨by rfl, fun wx hx => by simp [go_sem]⟩) hS ?_
          simp only [Act.put, List.getElem_toArray, List.getElem_cons_zero, List.setIfInBounds_toArray, List.set_cons_zero, List.set_cons_succ]
          refine wpAnyH_take (i := 1) (v := .pointer (some ⟨g6, 0, none⟩)) rfl (by kernel_rfl) (by kernel_rfl) (by kernel_rfl) (fun _ _ _ h => h) (Or.inl ⟨by rfl, fun wx hx => by simp [go_sem]⟩) hS ?_
          simp only [Act.put, List.getElem_toArray, List.getElem_cons_succ, List.getElem_cons_zero, List.setIfInBounds_toArray, List.set_cons_zero, List.set_cons_succ]
          refine wpAnyH_take (i := 2) (v := .int .i64 (p.1 : Int)) rfl (by kernel_rfl) (by kernel_rfl) (by kernel_rfl) (fun _ _ _ h => h) (Or.inl ⟨by rfl, fun wx hx => by (have hc : wx.cell? ⟨g6, 0, none⟩ = some (.int .i64 (p.1 : Int)) := hx.cell 0; simp [go_sem, hc])⟩) hS ?_
          simp only [Act.put, List.getElem_toArray, List.getElem_cons_succ, List.getElem_cons_zero, List.setIfInBounds_toArray, List.set_cons_zero, List.set_cons_succ]
          refine wpAnyH_take (i := 3) (v := .int .i64 (o : Int)) rfl (by kernel_rfl) (by kernel_rfl) (by kernel_rfl) (fun _ _ _ h => h) (Or.inl ⟨by rfl, fun wx hx => by simp [go_sem, f6]⟩) hS ?_
          simp only [Act.put, List.getElem_toArray, List.getElem_cons_succ, List.getElem_cons_zero, List.setIfInBounds_toArray, List.set_cons_zero, List.set_cons_succ]
          refine wpAnyH_take (i := 4) (v := .slice (some ⟨gb, 0 + o, none⟩) (N - o) (N - o)) rfl (by kernel_rfl) (by kernel_rfl) (by kernel_rfl) (fun _ _ _ h => h) (Or.inl ⟨by rfl, fun wx hx => by exact cutFrom gb 0 N N o HON.out.1 (Nat.le_refl _) _ _ _ _ rfl rfl rfl _⟩) hS ?_
          simp only [Act.put, List.getElem_toArray, List.getElem_cons_succ, List.getElem_cons_zero, List.setIfInBounds_toArray, List.set_cons_zero, List.set_cons_succ]
          refine wpAnyH_take (i := 5) (v := .pointer (some ⟨g6, 1, none⟩)) rfl (by kernel_rfl) (by kernel_rfl) (by kernel_rfl) (fun _ _ _ h => h) (Or.inl ⟨by rfl, fun wx hx => by simp [go_sem]⟩) hS ?_
          simp only [Act.put, List.getElem_toArray, List.getElem_cons_succ, List.getElem_cons_zero, List.setIfInBounds_toArray, List.set_cons_zero, List.set_cons_succ]
          refine wpAnyH_take (i := 6) (v := .slice (some ⟨g6, 1, none⟩) 64 64) rfl (by kernel_rfl) (by kernel_rfl) (by kernel_rfl) (fun _ _ _ h => h) (Or.inl ⟨by rfl, fun wx hx => by exact sliceSec g6 1 _ _ _ rfl rfl _⟩) hS ?_
          simp only [Act.put, List.getElem_toArray, List.getElem_cons_succ, List.getElem_cons_zero, List.setIfInBounds_toArray, List.set_cons_zero, List.set_cons_succ]
          refine wpAnyH_copyO 7 (.tmp 48) (.tmp 50) gb (0 + o) (N - o) (N - o) g6 1 64 64 5 _ p.2 HB3.out (by rw [HP6.out]; have := HON.out.2; omega) (by rw [HP6.out, cb_len, HLN.out]; have h1 := HON.out; omega) (range_cells (range_tail (off := 0) (Blk.range hS))) (by kernel_rfl) rfl (by rfl) rfl rfl rfl ?_
          intro y4 hb4 ho4
          refine ⟨hS.only ho4 (hS.neT HB3.out (by decide)), ?_⟩
          have HB4 : Hid (Blk y4 gb (cb (dumpW D.safe (D.wait.take (j + 1)))) 5) := by
            rw [Nat.zero_add, HOO.out, lay_sec HP6.out, ← HTK.out] at hb4
            exact hb4
          have HBB4 : Hid (Below w.heap.size w y4) := HBB3.out.trans (ho4.below HGE.out HBB3.out.size)
          clear hb4 ho4 hS HB3 HBB3
          simp only [Act.put, List.getElem_toArray, List.getElem_cons_succ, List.getElem_cons_zero]
          refine wpAnyH_done (by kernel_rfl) ?_ _
          go_wp2
          go_roundw
          case rel => exact ⟨j + 1, by omega, by simp, HB4, HBB4⟩
          case measure => simp [intOf]; omega
/-- where JournalDoes' loop stands -/
structure DoI (Lg : World → Nat → (Nat → Prop) → Nat → Nat → JnT → Prop) (w : World) (gd lg N i : Nat) (wv : Value) (P Q : Nat → Prop) (D : DkT) (J : JnT) (W : World) : Prop where
  pk : Pk Lg W gd lg P Q D J
  log : Log D J
  size : sizeD D = N
  gen : J.gen ≤ i + 1
  want : StaL (Un P Q) W wv J.l
  bel : Below w.heap.size w W
  own : ∀ k, Un P Q k → w.heap.size ≤ k
theorem Log.len {D : DkT} {J : JnT} (h : Log D J) (hs : sizeD D ≤ 100) : J.l.length ≤ 1000 ∧ sizeL J.l ≤ 6400 := by
  have h1 := h.fits
  have h2 := sizeL_ge J.l
  have h3 := sizeL_eq J.l
  unfold hsD at h1
  exact ⟨by omega, by omega⟩
end Go.Proofs.YteklnooagjkclaaGreatDoor
/- The walk of journal's Open, as it landed (layer 14). -/
namespace Go.Proofs.YteklnooagjkclaaGreatDoor
open Go.RowKit
set_option maxRecDepth 100000
/-- what is written where a log is opened, and the log -/
def openG (D : DkT) : List (Option (Nat × Bs)) × JnT :=
  if (pickB (dumpD D)).2 = 0 then (anewS (hsD D) 0 1 [], ⟨0, 1, []⟩)
  else if ∀ z ∈ (halfB (dumpD D) (pickB (dumpD D)).1).drop (recsOf (pickB (dumpD D)).2 (halfB (dumpD D) (pickB (dumpD D)).1)).2, z = 0 then ([], ⟨(pickB (dumpD D)).1, (pickB (dumpD D)).2, (recsOf (pickB (dumpD D)).2 (halfB (dumpD D) (pickB (dumpD D)).1)).1⟩)
  else (anewS (hsD D) (1 - (pickB (dumpD D)).1) (gN (pickB (dumpD D)).2) (recsOf (pickB (dumpD D)).2 (halfB (dumpD D) (pickB (dumpD D)).1)).1, ⟨1 - (pickB (dumpD D)).1, gN (pickB (dumpD D)).2, (recsOf (pickB (dumpD D)).2 (halfB (dumpD D) (pickB (dumpD D)).1)).1⟩)
theorem openG_eq {D : DkT} (h : (pickB (dumpD D)).2 + 1 < 18446744073709551616) : openG D = openS D := by
  unfold openG openS
  rw [gN_eq h]
theorem box_agg (f : Operand → Value) (o : Oper) (ty : TypeId) (x : Operand) (cs : List Value) (ho : o.op = .box ty x) (hx : f x = .agg cs.toArray) (w : World) : (execOp f o).run Tryz.prog w = .ok (.value (.pointer (some ⟨w.heap.size, 0, none⟩))) (w.alloc (.cells cs.toArray ty)) := by
  unfold execOp
  rw [ho]
  simp only [hx]
  rfl
theorem built_lg (gd hs k gen u : Nat) (ad : Option Addr) (n c : Nat) (ps : List (Nat × Value)) (h : ps = [(0, wrF gd), (1, syF gd), (2, .int .i64 (hs : Int)), (4, .agg (ctC k gen (.slice ad n c) u).toArray)]) : Tryz.prog.built 144 ps = some (lgC gd hs 0 k gen (.slice ad n c) u).toArray := by subst h; kernel_rfl
/-- a log opened -/
structure OpA (w : World) (gd : Nat) (P : Nat → Prop) (n : Nat) (DX : DkT) (JX : JnT) (P' : Nat → Prop) (lv : Value) (x : Int) (w' : World) : Prop where
  dk : DkIs w' gd P' DX
  mv : Mut P w w'
  gr : Grew w P P'
  lg : x = 0 → ∃ lg Q, lv = .pointer (some ⟨lg, 0, none⟩) ∧ LgJ w' lg Q gd n JX ∧ ∀ k, Q k → w.heap.size ≤ k ∧ ¬ P' k
end Go.Proofs.YteklnooagjkclaaGreatDoor
/- Acts in memory; strings held against each other (layer 15). -/
namespace Go.Proofs.YteklnooagjkclaaGreatDoor
open Go.RowKit
set_option maxRecDepth 100000
theorem str_toList (a : Bs) : (strB a).toList = a.map fun b => UInt8.ofNat b.toNat := by rw [Lib.toList_data, strB_data]
theorem u8_lt (a b : BitVec 8) : (UInt8.ofNat a.toNat < UInt8.ofNat b.toNat) ↔ a.toNat < b.toNat := by
  have ha := a.isLt
  have hb := b.isLt
  rw [UInt8.lt_iff_toNat_lt]
  simp
theorem u8_eq (a b : BitVec 8) : (UInt8.ofNat a.toNat = UInt8.ofNat b.toNat) ↔ a = b := by
  constructor
  · intro h
    have h2 := congrArg UInt8.toNat h
    simp at h2
    exact BitVec.eq_of_toNat_eq h2
  · intro h
    rw [h]
theorem str_lt : ∀ (a b : Bs), Op.bytesLess (a.map fun b => UInt8.ofNat b.toNat) (b.map fun b => UInt8.ofNat b.toNat) = ltB a b
  | [], [] => rfl
  | [], _ :: _ => rfl
  | _ :: _, [] => rfl
  | a :: x, b :: y => by
    rw [List.map_cons, List.map_cons, Op.bytesLess, ltB, str_lt x y]
    congr 1
    · rw [decide_eq_decide]; exact u8_lt a b
    · congr 1
      rw [Bool.eq_iff_iff, beq_iff_eq, decide_eq_true_eq]
      exact u8_eq a b
theorem less_str (a b : Bs) : Op.bytesLess (strB a).toList (strB b).toList = ltB a b := by rw [str_toList, str_toList, str_lt]
theorem leq_str (a b : Bs) : (Op.bytesLess (strB a).toList (strB b).toList || ((strB a).toList == (strB b).toList)) = !ltB b a := by
  rw [less_str, strB_inj]
  rcases ltB_tri a b with h | h | h
  · rw [h, ltB_asym h]; rfl
  · rw [h, ltB_irr]; simp
  · rw [h, ltB_asym h]; simp [(ltB_ne h).symm]
theorem run_strOp (op : BinOp) (s t : ByteArray) (r : Bool) (hr : (match op with | .lss => Op.bytesLess s.toList t.toList | .leq => Op.bytesLess s.toList t.toList || (s.toList == t.toList) | .eql => s.toList == t.toList | .neq => !(s.toList == t.toList) | _ => false) = r) (hop : op = .lss ∨ op = .leq ∨ op = .eql ∨ op = .neq) (f : Operand → Value) (o : Oper) (x y : Operand) (ho : o.op = .binOp op 9 x y 9) (hx : f x = .string s) (hy : f y = .string t) (w : World) : (execOp f o).run Tryz.prog w = .ok (.value (.bool r)) w := by
  unfold execOp
  rw [ho]
  rcases hop with rfl | rfl | rfl | rfl <;> subst hr <;> simp [go_sem, hx, hy]
theorem wpSeq_str {ops : Array Oper} {Q : Exit → Act → World → Prop} {rest : List Oper} {o : Oper} {a : Act} {w : World} (op : BinOp) (s t : ByteArray) (r : Bool) (x y : Operand) (hr : (match op with | .lss => Op.bytesLess s.toList t.toList | .leq => Op.bytesLess s.toList t.toList || (s.toList == t.toList) | .eql => s.toList == t.toList | .neq => !(s.toList == t.toList) | _ => false) = r) (hop : op = .lss ∨ op = .leq ∨ op = .eql ∨ op = .neq) (ho : o.op = .binOp op 9 x y 9) (hx : a.eval x = .string s) (hy : a.eval y = .string t) (hw : Region.wanted o (yielded ops a.tmps) = true)
    (h : wpList Tryz.prog ops Q rest (a.put o.dst (.bool r)) w) : wpList Tryz.prog ops Q (o :: rest) a w :=
  wpSeq_val _ _ hw (run_strOp op s t r hr hop _ o x y ho hx hy w) h
theorem wpSeq_sLe {ops : Array Oper} {Q : Exit → Act → World → Prop} {rest : List Oper} {o : Oper} {a : Act} {w : World} (s t : ByteArray) (r : Bool) (x y : Operand) (hr : (Op.bytesLess s.toList t.toList || (s.toList == t.toList)) = r) (ho : o.op = .binOp .leq 9 x y 9) (hx : a.eval x = .string s) (hy : a.eval y = .string t) (hw : Region.wanted o (yielded ops a.tmps) = true)
    (h : wpList Tryz.prog ops Q rest (a.put o.dst (.bool r)) w) : wpList Tryz.prog ops Q (o :: rest) a w := wpSeq_str .leq s t r x y hr (Or.inr (Or.inl rfl)) ho hx hy hw h
/-- an act's cells -/
def actC (a : ActT) (vd : Value) : List Value := [.string (strB a.key), .bool a.set, vd]
/-- a slice of acts -/
def ReadsA (w : World) (v : Value) (l : List ActT) : Prop :=
  ∃ ad cap, v = .slice ad l.length cap ∧ l.length ≤ cap ∧ (ad = none → cap = 0) ∧ (0 < l.length → ∃ b off, ad = some ⟨b, off, none⟩ ∧ ∀ j, j < l.length → ∃ vd, w.rangeAt b (off + j * 3) (actC (l.getD j ⟨[], false, []⟩) vd) ∧ Reads w vd (l.getD j ⟨[], false, []⟩).data)
theorem ReadsA.form {w : World} {v : Value} {l : List ActT} (h : ReadsA w v l) : ∃ ad c, v = .slice ad l.length c := by
  obtain ⟨ad, c, hv, _⟩ := h
  exact ⟨ad, c, hv⟩
theorem ReadsA.nil (w : World) : ReadsA w (.slice none 0 0) [] := ⟨none, 0, rfl, Nat.le_refl _, fun _ => rfl, fun h => by simp at h⟩
theorem range_below {w w' : World} {B b off : Nat} {cs : List Value} (h : w.rangeAt b off cs) (hb : Below B w w') (hlt : b < B) : w'.rangeAt b off cs := fun j u hj => by
  rw [hb.cell (p := ⟨b, off + j, none⟩) hlt]
  exact h j u hj
theorem ReadsA.below {w w' : World} {v : Value} {l : List ActT} (h : ReadsA w v l) (hb : Below w.heap.size w w') : ReadsA w' v l := by
  obtain ⟨ad, cap, h1, h2, h3, h4⟩ := h
  refine ⟨ad, cap, h1, h2, h3, fun hp => ?_⟩
  obtain ⟨b, off, h5, h6⟩ := h4 hp
  refine ⟨b, off, h5, fun j hj => ?_⟩
  obtain ⟨vd, h7, h8⟩ := h6 j hj
  exact ⟨vd, range_below h7 hb (block_lt_of_cell (h7 0 _ rfl)), h8.below hb⟩
theorem ReadsA.at {w : World} {ad : Option Addr} {n c : Nat} {l : List ActT} (h : ReadsA w (.slice ad n c) l) {j : Nat} (hj : j < l.length) : ∃ b off vd, ad = some ⟨b, off, none⟩ ∧ w.rangeAt b (off + j * 3) (actC (l.getD j ⟨[], false, []⟩) vd) ∧ Reads w vd (l.getD j ⟨[], false, []⟩).data := by
  obtain ⟨ad', cap, h1, h2, h3, h4⟩ := h
  simp only [Value.slice.injEq] at h1
  obtain ⟨rfl, _, _⟩ := h1
  obtain ⟨b, off, h5, h6⟩ := h4 (Nat.lt_of_le_of_lt (Nat.zero_le _) hj)
  obtain ⟨vd, h7, h8⟩ := h6 j hj
  exact ⟨b, off, vd, h5, h7, h8⟩
theorem take_act {l : List ActT} {i : Nat} (h : i < l.length) : l.take (i + 1) = l.take i ++ [l.getD i ⟨[], false, []⟩] := by
  rw [List.take_add_one, List.getElem?_eq_getElem h, List.getD_eq_getElem?_getD, List.getElem?_eq_getElem h]
  rfl
theorem info_act15 (x y z : Value) : (Tryz.prog.info? 62).map (·.size) = some [x, y, z].length := by kernel_rfl
theorem idxA (b off n c k : Nat) (hk : k < n) (f : Operand → Value) (o : Oper) (x y : Operand) (ho : o.op = .indexAddr 22 x y) (hx : f x = .slice (some ⟨b, off, none⟩) n c) (hy : f y = .int .i64 (k : Int)) (w : World) :
    (execOp f o).run Tryz.prog w = .ok (.value (.pointer (some ⟨b, off + k * 3, none⟩))) w := by
  have k0 : (0 : Int) ≤ (k : Int) := by omega
  have k1 : (k : Int) < (n : Int) := by omega
  have hs : (sizeOf 62).run Tryz.prog w = .ok 3 w := by kernel_rfl
  unfold execOp
  rw [ho]
  simp [go_sem, hx, hy, k0, k1, Addr.add_mid, hs]
theorem wpSeq_idxA {ops : Array Oper} {Q : Exit → Act → World → Prop} {rest : List Oper} {o : Oper} {a : Act} {w : World} (x y : Operand) (b off n c k : Nat) (hk : k < n) (ho : o.op = .indexAddr 22 x y) (hx : a.eval x = .slice (some ⟨b, off, none⟩) n c) (hy : a.eval y = .int .i64 (k : Int)) (hw : Region.wanted o (yielded ops a.tmps) = true)
    (h : wpList Tryz.prog ops Q rest (a.put o.dst (.pointer (some ⟨b, off + k * 3, none⟩))) w) : wpList Tryz.prog ops Q (o :: rest) a w :=
  wpSeq_val _ _ hw (idxA b off n c k hk _ o x y ho hx hy w) h
def zA : List Value := [.string ⟨#[]⟩, .bool false, .slice none 0 0]
theorem alloc_act (f : Operand → Value) (o : Oper) (ho : o.op = .alloc 62) (w : World) : (execOp f o).run Tryz.prog w = .ok (.value (.pointer (some ⟨w.heap.size, 0, none⟩))) (w.alloc (.cells zA.toArray 62)) := by
  unfold execOp
  rw [ho]
  kernel_rfl
theorem wpSeq_allocA {ops : Array Oper} {Q : Exit → Act → World → Prop} {rest : List Oper} {o : Oper} {a : Act} {w : World} (ho : o.op = .alloc 62) (hw : Region.wanted o (yielded ops a.tmps) = true)
    (h : ∀ g w', NewR zA 62 w g w' → wpList Tryz.prog ops Q rest (a.put o.dst (.pointer (some ⟨g, 0, none⟩))) w') : wpList Tryz.prog ops Q (o :: rest) a w :=
  wpSeq_val _ _ hw (alloc_act _ _ ho _) (h _ _ (NewR.of _ _ w))
theorem one_act (s : ByteArray) (b : Bool) (ad : Option Addr) (n c : Nat) : ∀ v ∈ [Value.string s, .bool b, .slice ad n c], v.oneCell' = true := fun v hv => by
  simp only [List.mem_cons, List.not_mem_nil, or_false] at hv
  rcases hv with rfl | rfl | rfl <;> rfl
/-- may an act have the data that it has? -/
def mayD (a : ActT) : Bool := if a.set then decide (a.data.length ≤ 1048576) else decide (a.data.length = 0)
theorem okA_may (a : ActT) : okA a = (decide (a.key.length ≤ 64) && mayD a) := rfl
set_option maxRecDepth 100000 in
set_option maxHeartbeats 2000000 in
theorem sDataMay_any (a : ActT) (vd : Value) (w : World) (hr : Reads w vd a.data) : Calls Tryz.prog 37 #[.agg (actC a vd).toArray] w fun e w' => e = .returned (.bool (mayD a)) ∧ Below w.heap.size w w' := by
  obtain ⟨n, HN⟩ : ∃ n, Hid (n = a.data.length) := ⟨_, rfl⟩
  obtain ⟨ad, c, hv⟩ : ∃ ad c, vd = .slice ad n c := by obtain ⟨ad, c, hv, _⟩ := hr; exact ⟨ad, c, by rw [HN.out]; exact hv⟩
  subst hv
  obtain ⟨ks, HKS⟩ : ∃ s, Hid (s = strB a.key) := ⟨_, rfl⟩
  obtain ⟨st, HST⟩ : ∃ b, Hid (b = a.set) := ⟨_, rfl⟩
  have hm : mayD a = if st then decide (n ≤ 1048576) else decide (n = 0) := by rw [mayD, HST.out, HN.out]
  rw [hm, actC, ← HKS.out, ← HST.out]
  clear hr hm
  cases st with
  | true =>
    rw [if_pos rfl]
    have q : decide (n ≤ 1048576) = decide ((n : Int) ≤ 1048576) := by rw [decide_eq_decide]; omega
    rw [q]
    clear q
    go_enter Tryz.func37, Tryz.ntmps37
    have tk0 : Hid True := trivial
    go_wp2_with (first
      | (clear tk0; with_reducible refine wpSeq_boxW 62 (.tmp 0) [.string ks, .bool true, .slice ad n c] ?_ ?_ ?_ ?_
         · rfl
         · rfl
         · rfl
         intro g1 y1 nn
         have c1 : y1.cell? ⟨g1, 1, none⟩ = some (.bool true) := nn.blk.cell 1
         have c2 : y1.cell? ⟨g1, 2, none⟩ = some (.slice ad n c) := nn.blk.cell 2
         have HB : Hid (Below w.heap.size w y1) := nn.below
         clear nn))
    go_ret
    exact ⟨rfl, HB.out⟩
  | false =>
    rw [if_neg Bool.false_ne_true]
    have q : decide (n = 0) = ((n : Int) == 0) := by rw [Bool.eq_iff_iff, beq_iff_eq, decide_eq_true_eq]; omega
    rw [q]
    clear q
    go_enter Tryz.func37, Tryz.ntmps37
    have tk0 : Hid True := trivial
    go_wp2_with (first
      | (clear tk0; with_reducible refine wpSeq_boxW 62 (.tmp 0) [.string ks, .bool false, .slice ad n c] ?_ ?_ ?_ ?_
         · rfl
         · rfl
         · rfl
         intro g1 y1 nn
         have c1 : y1.cell? ⟨g1, 1, none⟩ = some (.bool false) := nn.blk.cell 1
         have c2 : y1.cell? ⟨g1, 2, none⟩ = some (.slice ad n c) := nn.blk.cell 2
         have HB : Hid (Below w.heap.size w y1) := nn.below
         clear nn))
    go_ret
    exact ⟨rfl, HB.out⟩
end Go.Proofs.YteklnooagjkclaaGreatDoor
/- The walks of store.Check and of the reference's Check (layer 15). -/
namespace Go.Proofs.YteklnooagjkclaaGreatDoor
open Go.RowKit
set_option maxRecDepth 100000
theorem goodF_bad {l : List ActT} {i : Nat} (h : goodF [] (l.take (i + 1)) = false) : goodF [] l = false := by
  have e : l = l.take (i + 1) ++ l.drop (i + 1) := (List.take_append_drop _ _).symm
  rw [e]
  exact goodF_false _ _ _ h
theorem goodF_step {l : List ActT} {i : Nat} (hi : i < l.length) (h : goodF [] (l.take i) = true) : goodF [] (l.take (i + 1)) = (ltB (lastK [] (l.take i)) (l.getD i ⟨[], false, []⟩).key && okA (l.getD i ⟨[], false, []⟩)) := by
  rw [take_act hi, goodF_snoc, h, Bool.true_and]
theorem lastK_step {l : List ActT} {i : Nat} (hi : i < l.length) : lastK [] (l.take (i + 1)) = (l.getD i ⟨[], false, []⟩).key := by rw [take_act hi, lastK_snoc]
set_option maxRecDepth 100000 in
set_option maxHeartbeats 4000000 in
theorem sCheck_any (v : Value) (l : List ActT) (w : World) (hr : ReadsA w v l) (hl : l.length < 4611686018427387904) : Calls Tryz.prog 11 #[v] w fun e w' => e = .returned (.int .i64 (chkL l)) ∧ Below w.heap.size w w' := by
  have HR : Hid (ReadsA w v l) := hr
  obtain ⟨n, HN⟩ : ∃ n, Hid (n = l.length) := ⟨_, rfl⟩
  obtain ⟨ad, c, hv⟩ := hr.form
  rw [← HN.out] at hv
  subst hv
  obtain ⟨X, HX⟩ : ∃ x, Hid (x = chkL l) := ⟨_, rfl⟩
  rw [← HX.out]
  have HLN : Hid (n < 4611686018427387904) := by rw [HN.out]; exact hl
  clear hr hl
  by_cases h4 : 4096 < n
  · have q1 : (4096 : Int) < (n : Int) := by omega
    obtain rfl : X = 1 := by rw [HX.out, chkL, if_neg (fun h => by have := HN.out; omega)]
    go_enter Tryz.func11, Tryz.ntmps11
    go_wp2
    go_ret
    exact ⟨rfl, Below.refl _ _⟩
  have q1 : ¬ ((4096 : Int) < (n : Int)) := by omega
  have H4 : Hid (n ≤ 4096) := by show _ ≤ _; omega
  clear h4
  have HDM : Hid (∀ (W : World) (a : ActT) (vd : Value), Reads W vd a.data → Calls Tryz.prog 37 #[.agg (actC a vd).toArray] W fun e w' => e = .returned (.bool (mayD a)) ∧ Below W.heap.size W w') := fun W a vd h => sDataMay_any a vd W h
  have he0 : (⟨#[]⟩ : ByteArray) = strB (lastK [] (l.take 0)) := by rfl
  go_enter Tryz.func11, Tryz.ntmps11
  go_wp2
  clear q1
  go_loopw [3, 11] (fun lv iv W => ∃ (i : Nat) (ls : ByteArray), i ≤ n ∧ iv = .int .i64 (i : Int) ∧ lv = .string ls ∧ Hid (ls = strB (lastK [] (l.take i))) ∧ Hid (goodF [] (l.take i) = true) ∧ Hid (Below w.heap.size w W)) (fun _ iv _ => n - (intOf iv).toNat)
  case atStart => exact ⟨0, ⟨#[]⟩, Nat.zero_le _, rfl, rfl, he0, rfl, Below.refl _ _⟩
  case round =>
    clear he0
    obtain ⟨i, ls, hi, rfl, rfl, HLS, HGF, HBW⟩ := hrel
    by_cases hin : i < n
    case neg =>
      have hlk : ¬ ((i : Int) < (n : Int)) := by omega
      obtain rfl : X = 0 := by
        have h := HGF.out
        rw [List.take_of_length_le (by rw [← HN.out]; omega)] at h
        rw [HX.out, chkL, if_pos ⟨by rw [← HN.out]; exact H4.out, h⟩]
      go_wp2
      go_ret
      exact ⟨rfl, HBW.out⟩
    case pos =>
      have hlk : (i : Int) < (n : Int) := by omega
      have f1 : IntKind.i64.wrap ((i : Int) + 1) = (i : Int) + 1 := by rw [IntKind.wrap_i64]; have := H4.out; omega
      have HIN : Hid (i < n) := hin
      have hil : i < l.length := by rw [← HN.out]; exact hin
      obtain ⟨b, off, vd, rfl, hrg, hrd⟩ := (HR.out.below HBW.out).at hil
      have hst := goodF_step hil HGF.out
      have hlt := lastK_step hil
      obtain ⟨a, HA⟩ : ∃ a, Hid (a = l.getD i ⟨[], false, []⟩) := ⟨_, rfl⟩
      rw [← HA.out] at hrg hrd hst hlt
      obtain ⟨ks, HKS⟩ : ∃ s, Hid (s = strB a.key) := ⟨_, rfl⟩
      obtain ⟨st, HST⟩ : ∃ s, Hid (s = a.set) := ⟨_, rfl⟩
      obtain ⟨av, nv, cv, hvd⟩ := hrd.form
      subst hvd
      have HCE : Hid (actC a (.slice av nv cv) = [.string ks, .bool st, .slice av nv cv]) := by show _ = _; rw [actC, HKS.out, HST.out]
      rw [HCE.out] at hrg
      have HRG : Hid (wr.rangeAt b (off + i * 3) [.string ks, .bool st, .slice av nv cv]) := hrg
      have HRD : Hid (Reads wr (.slice av nv cv) a.data) := hrd
      obtain ⟨kn, HKN⟩ : ∃ k, Hid (k = a.key.length) := ⟨_, rfl⟩
      have hsz : ks.size = kn := by rw [HKS.out, strB_size, HKN.out]
      obtain ⟨md, HMD⟩ : ∃ b, Hid (b = mayD a) := ⟨_, rfl⟩
      replace HDM : Hid (∀ (W : World), Reads W (.slice av nv cv) a.data → Calls Tryz.prog 37 #[.agg [.string ks, .bool st, .slice av nv cv].toArray] W fun e w' => e = .returned (.bool md) ∧ Below W.heap.size W w') := fun W h => by
        have h1 := HDM.out W a _ h
        rw [HCE.out, ← HMD.out] at h1
        exact h1
      obtain ⟨lt, HLT⟩ : ∃ b, Hid (b = ltB (lastK [] (l.take i)) a.key) := ⟨_, rfl⟩
      have HLE : Hid ((Op.bytesLess ks.toList ls.toList || (ks.toList == ls.toList)) = !lt) := by show _ = _; rw [HKS.out, HLS.out, leq_str, HLT.out]
      have HST2 : Hid (goodF [] (l.take (i + 1)) = (lt && (decide (kn ≤ 64) && md))) := by show _ = _; rw [hst, okA_may, HLT.out, HKN.out, HMD.out]
      have HLK2 : Hid (ks = strB (lastK [] (l.take (i + 1)))) := by show _ = _; rw [hlt, HKS.out]
      have HBAD : Hid (goodF [] (l.take (i + 1)) = false → X = 1) := fun h => by rw [HX.out, chkL, if_neg (fun h2 => by rw [goodF_bad h] at h2; cases h2.2)]
      clear hrg hrd hst hlt hil
      cases lt with
      | false =>
        replace HLE : Hid ((Op.bytesLess ks.toList ls.toList || (ks.toList == ls.toList)) = true) := HLE.out
        obtain rfl : X = 1 := HBAD.out (by rw [HST2.out]; rfl)
        have tk0 : Hid True := trivial
        have tk1 : Hid True := trivial
        have tk2 : Hid True := trivial
        have tk3 : Hid True := trivial
        have tk4 : Hid True := trivial
        go_wp2_with (first
          | (clear tk0; with_reducible refine wpSeq_idxA (.tmp 9) (.tmp 11) b off n c i HIN.out ?_ ?_ ?_ ?_ ?_
             · rfl
             · rfl
             · rfl
             · rfl)
          | (clear tk1; with_reducible refine wpSeq_loadW 62 (.tmp 13) b (off + i * 3) [.string ks, .bool st, .slice av nv cv] _ HRG.out Tryz.underlying62 rfl (info_act15 _ _ _) ?_ ?_ ?_ ?_
             · rfl
             · rfl
             · rfl)
          | (clear tk2; with_reducible refine wpSeq_allocA ?_ ?_ ?_
             · rfl
             · rfl
             intro g5 y1 nn
             have HG5 : Hid (Blk y1 g5 zA 62 ∧ wr.heap.size ≤ g5) := ⟨nn.blk, nn.ge⟩
             have HB1 : Hid (Below wr.heap.size wr y1) := nn.below
             clear nn)
          | (clear tk3; with_reducible refine wpSeq_storeRow 62 (.tmp 5) (.tmp 14) g5 zA [.string ks, .bool st, .slice av nv cv] HG5.out.1 rfl (info_act15 _ _ _) (one_act _ _ _ _ _) ?_ ?_ ?_ ?_ ?_
             · rfl
             · rfl
             · rfl
             · rfl
             intro y2 hset
             have c0 : y2.cell? ⟨g5, 0, none⟩ = some (.string ks) := hset.blk.cell 0
             have HB2 : Hid (Below w.heap.size w y2) := HBW.out.trans ((HB1.out.trans (hset.only.below HG5.out.2 HB1.out.size)).mono HBW.out.size)
             clear hset)
          | (clear tk4; with_reducible refine wpSeq_sLe ks ls true (.tmp 16) (.tmp 17) HLE.out ?_ ?_ ?_ ?_ ?_
             · rfl
             · rfl
             · rfl
             · rfl))
        go_ret
        exact ⟨rfl, HB2.out⟩
      | true =>
        replace HLE : Hid ((Op.bytesLess ks.toList ls.toList || (ks.toList == ls.toList)) = false) := HLE.out
        by_cases hk : kn ≤ 64
        case neg =>
          obtain rfl : X = 1 := HBAD.out (by rw [HST2.out, decide_eq_false hk]; rfl)
          have q2 : (64 : Int) < (kn : Int) := by omega
          have tk0 : Hid True := trivial
          have tk1 : Hid True := trivial
          have tk2 : Hid True := trivial
          have tk3 : Hid True := trivial
          have tk4 : Hid True := trivial
          go_wp2_with (first
            | (clear tk0; with_reducible refine wpSeq_idxA (.tmp 9) (.tmp 11) b off n c i HIN.out ?_ ?_ ?_ ?_ ?_
               · rfl
               · rfl
               · rfl
               · rfl)
            | (clear tk1; with_reducible refine wpSeq_loadW 62 (.tmp 13) b (off + i * 3) [.string ks, .bool st, .slice av nv cv] _ HRG.out Tryz.underlying62 rfl (info_act15 _ _ _) ?_ ?_ ?_ ?_
               · rfl
               · rfl
               · rfl)
            | (clear tk2; with_reducible refine wpSeq_allocA ?_ ?_ ?_
               · rfl
               · rfl
               intro g5 y1 nn
               have HG5 : Hid (Blk y1 g5 zA 62 ∧ wr.heap.size ≤ g5) := ⟨nn.blk, nn.ge⟩
               have HB1 : Hid (Below wr.heap.size wr y1) := nn.below
               clear nn)
            | (clear tk3; with_reducible refine wpSeq_storeRow 62 (.tmp 5) (.tmp 14) g5 zA [.string ks, .bool st, .slice av nv cv] HG5.out.1 rfl (info_act15 _ _ _) (one_act _ _ _ _ _) ?_ ?_ ?_ ?_ ?_
               · rfl
               · rfl
               · rfl
               · rfl
               intro y2 hset
               have c0 : y2.cell? ⟨g5, 0, none⟩ = some (.string ks) := hset.blk.cell 0
               have HB2 : Hid (Below w.heap.size w y2) := HBW.out.trans ((HB1.out.trans (hset.only.below HG5.out.2 HB1.out.size)).mono HBW.out.size)
               clear hset)
            | (clear tk4; with_reducible refine wpSeq_sLe ks ls false (.tmp 16) (.tmp 17) HLE.out ?_ ?_ ?_ ?_ ?_
               · rfl
               · rfl
               · rfl
               · rfl))
          go_ret
          exact ⟨rfl, HB2.out⟩
        case pos =>
          have q2 : ¬ ((64 : Int) < (kn : Int)) := by omega
          have HG2 : Hid (goodF [] (l.take (i + 1)) = md) := by show _ = _; rw [HST2.out, decide_eq_true hk]; simp
          have HRW : Hid (∀ W, Below wr.heap.size wr W → Reads W (.slice av nv cv) a.data) := fun W h => HRD.out.below h
          have tk0 : Hid True := trivial
          have tk1 : Hid True := trivial
          have tk2 : Hid True := trivial
          have tk3 : Hid True := trivial
          have tk4 : Hid True := trivial
          have tk5 : Hid True := trivial
          have tk6 : Hid True := trivial
          go_wp2_with (first
            | (clear tk0; with_reducible refine wpSeq_idxA (.tmp 9) (.tmp 11) b off n c i HIN.out ?_ ?_ ?_ ?_ ?_
               · rfl
               · rfl
               · rfl
               · rfl)
            | (clear tk1; with_reducible refine wpSeq_loadW 62 (.tmp 13) b (off + i * 3) [.string ks, .bool st, .slice av nv cv] _ HRG.out Tryz.underlying62 rfl (info_act15 _ _ _) ?_ ?_ ?_ ?_
               · rfl
               · rfl
               · rfl)
            | (clear tk2; with_reducible refine wpSeq_allocA ?_ ?_ ?_
               · rfl
               · rfl
               intro g5 y1 nn
               have HG5 : Hid (Blk y1 g5 zA 62 ∧ wr.heap.size ≤ g5) := ⟨nn.blk, nn.ge⟩
               have HB1 : Hid (Below wr.heap.size wr y1) := nn.below
               clear nn)
            | (clear tk3; with_reducible refine wpSeq_storeRow 62 (.tmp 5) (.tmp 14) g5 zA [.string ks, .bool st, .slice av nv cv] HG5.out.1 rfl (info_act15 _ _ _) (one_act _ _ _ _ _) ?_ ?_ ?_ ?_ ?_
               · rfl
               · rfl
               · rfl
               · rfl
               intro y2 hset
               have HK5 : Hid (Blk y2 g5 [.string ks, .bool st, .slice av nv cv] 62) := hset.blk
               have c0 : y2.cell? ⟨g5, 0, none⟩ = some (.string ks) := hset.blk.cell 0
               have HB3 : Hid (Below wr.heap.size wr y2) := HB1.out.trans (hset.only.below HG5.out.2 HB1.out.size)
               have HB2 : Hid (Below w.heap.size w y2) := HBW.out.trans (HB3.out.mono HBW.out.size)
               clear hset)
            | (clear tk4; with_reducible refine wpSeq_sLe ks ls false (.tmp 16) (.tmp 17) HLE.out ?_ ?_ ?_ ?_ ?_
               · rfl
               · rfl
               · rfl
               · rfl)
            | (clear tk5; with_reducible refine wpSeq_loadW 62 (.tmp 5) g5 0 [.string ks, .bool st, .slice av nv cv] _ (Blk.range HK5.out) Tryz.underlying62 rfl (info_act15 _ _ _) ?_ ?_ ?_ ?_
               · rfl
               · rfl
               · rfl)
            | (clear tk6; go_at_call 37; refine (HDM.out _ (HRW.out _ HB3.out)).mono ?_; rintro e0 y3 ⟨rfl, hz⟩
               replace c0 : y3.cell? ⟨g5, 0, none⟩ = some (.string ks) := (HK5.out.below hz HK5.out.lt).cell 0
               replace HB2 : Hid (Below w.heap.size w y3) := HB2.out.trans (hz.mono HB2.out.size)
               clear hz
               cases md))
          · obtain rfl : X = 1 := HBAD.out HG2.out
            go_ret
            exact ⟨rfl, HB2.out⟩
          · go_roundw
            case rel => exact ⟨i + 1, ks, by omega, by simp, rfl, HLK2, HG2, HB2⟩
            case measure => simp [intOf]; omega
end Go.Proofs.YteklnooagjkclaaGreatDoor
/- The walks of codec.Num and blazonref04.Num: a number's groups of seven bits behind bytes. -/
namespace Go.Proofs.YteklnooagjkclaaGreatDoor
open Go.RowKit
set_option maxRecDepth 100000
theorem enc_len (n : Nat) (k : Nat) (h : n < 128 ^ (k + 1)) : (encNum n).length ≤ k + 1 := by
  induction k generalizing n with
  | zero => rw [encNum_lt (by simpa using h)]; simp
  | succ k ih =>
    by_cases h1 : n < 128
    · rw [encNum_lt h1]; simp
    · rw [encNum_ge h1, List.length_cons]
      have := ih (n / 128) (by rw [Nat.pow_succ] at h; omega)
      omega
theorem enc_len10 (n : Nat) (h : n < 18446744073709551616) : (encNum n).length ≤ 10 := enc_len n 9 (by omega)
theorem or128 (m : Nat) : bits .or .u8 ((m : Int) % 256) 128 = (((BitVec.ofNat 8 (m % 128 + 128)).toNat : Nat) : Int) := by
  have key : ∀ x : BitVec 8, (x ||| 128#8).toNat = x.toNat % 128 + 128 := by decide
  have e : BitVec.ofInt 8 ((m : Int) % 256) = BitVec.ofNat 8 (m % 256) := by
    rw [show ((m : Int) % 256) = ((m % 256 : Nat) : Int) by omega, BitVec.ofInt_natCast]
  show IntKind.u8.wrap ((BitVec.ofInt 8 ((m : Int) % 256) ||| BitVec.ofInt 8 128).toNat : Int) = _
  rw [e, show (BitVec.ofInt 8 128 : BitVec 8) = 128#8 from rfl, key, BitVec.toNat_ofNat, BitVec.toNat_ofNat]
  simp [IntKind.wrap, IntKind.bits, IntKind.signed]
theorem enc_step {p : List (BitVec 8)} {m n : Nat} (hm : ¬ m < 128) (hp : p ++ encNum m = encNum n) : (p ++ [BitVec.ofNat 8 (m % 128 + 128)]) ++ encNum (m / 128) = encNum n := by
  rw [← hp, encNum_ge hm]; simp
structure NuInv (base : Nat) (w : World) (l : List (BitVec 8)) (n m : Nat) (p : List (BitVec 8)) (u : Value) (wr : World) : Prop where
  own : OwnB wr base u (l ++ p)
  bel : Below base w wr
  eq : p ++ encNum m = encNum n
  lt : m < 18446744073709551616
theorem NuInv.le {base : Nat} {w wr : World} {l p : List (BitVec 8)} {n m : Nat} {u : Value} (h : NuInv base w l n m p u wr) (hn : n < 18446744073709551616) : p.length < 10 := by
  have := enc_len10 n hn
  have h2 := congrArg List.length h.eq
  have h3 := encNum_pos m
  rw [List.length_append] at h2
  omega
set_option maxHeartbeats 400000 in
theorem cnum_any (base : Nat) (v : Value) (l : List (BitVec 8)) (n : Nat) (hn : n < 18446744073709551616) (w : World) (hown : OwnB w base v l) (hb : base ≤ w.heap.size) (hl : l.length + 10 ≤ 140737488355328) :
    Calls Tryz.prog 72 #[v, .int .u64 (n : Int)] w fun e w' => ∃ v', e = .returned v' ∧ OwnB w' base v' (l ++ encNum n) ∧ Below base w w' := by
  have HO : Hid (OwnB w base v l) := hown
  have HN : Hid (n < 18446744073709551616) := hn
  have HL : Hid (l.length + 10 ≤ 140737488355328) := hl
  have HB : Hid (base ≤ w.heap.size) := hb
  clear hown hn hl hb
  go_enter Tryz.func72, Tryz.ntmps72
  go_wp2
  go_loopw [0, 1] (fun u x wr => ∃ (p : List (BitVec 8)) (m : Nat), x = .int .u64 m ∧ NuInv base w l n m p u wr) (fun _ x _ => (intOf x).toNat)
  case atStart => exact ⟨[], n, rfl, by simpa using HO.out, Below.refl _ _, rfl, HN.out⟩
  case round =>
    obtain ⟨p, m, rfl, hI⟩ := hrel
    have HI : Hid (NuInv base w l n m p u0 wr) := hI
    have HP : Hid (p.length < 10) := hI.le HN.out
    have HS : Hid (base ≤ wr.heap.size) := Nat.le_trans HB.out hI.bel.size
    clear hI
    by_cases hlt : m < 128
    · have hge : ¬ (128 ≤ (m : Int)) := by omega
      have hx : (m : Int) % 256 = (m : Int) := by omega
      go_wp2_with (at_builtin; refine wpList_appendB rfl (.tmp 15) (.tmp 18) rfl base _ (l ++ p) rfl (HI.out.own.below ((Below.refl _ _).alloc (Nat.le_refl _) _) (Nat.le_refl _)) _ [BitVec.ofNat 8 m] rfl (reads_val wr _ _ ?_) (by have := HL.out; have := HP.out; simp; omega) (by have := HS.out; simp; omega) ?_; simp; omega; intro v2 w2 hown2 hb2 _)
      have HR : Hid (OwnB w2 base v2 (l ++ encNum n)) := by
        rw [← HI.out.eq, encNum_lt hlt, ← List.append_assoc]; exact hown2
      have hB : Below base w w2 := HI.out.bel.trans (((Below.refl _ _).alloc HS.out _).trans hb2)
      clear hown2 hb2 HI
      go_wp2
      go_ret
      exact ⟨_, rfl, HR.out, hB⟩
    · have hge : 128 ≤ (m : Int) := by omega
      have HLT : Hid (¬ m < 128) := hlt
      have hw : IntKind.u64.wrap ((m : Int) / 128) = (m : Int) / 128 := by have := HI.out.lt; rw [IntKind.wrap_u64]; omega
      clear hlt
      go_wp2_with (at_builtin; refine wpList_appendB rfl (.tmp 7) (.tmp 11) rfl base _ (l ++ p) rfl (HI.out.own.below ((Below.refl _ _).alloc (Nat.le_refl _) _) (Nat.le_refl _)) _ [BitVec.ofNat 8 (m % 128 + 128)] rfl (reads_val wr _ _ ?_) (by have := HL.out; have := HP.out; simp; omega) (by have := HS.out; simp; omega) ?_; (go_loud (rw [or128 m])); intro v2 w2 hown2 hb2 _)
      have hJ : NuInv base w l n (m / 128) (p ++ [BitVec.ofNat 8 (m % 128 + 128)]) v2 w2 := ⟨by rw [List.append_assoc] at hown2; exact hown2, HI.out.bel.trans (((Below.refl _ _).alloc HS.out _).trans hb2), enc_step HLT.out HI.out.eq, by have := HI.out.lt; omega⟩
      clear hown2 hb2 HI
      go_wp2
      go_roundw
      case rel => exact ⟨_, m / 128, by simp, hJ⟩
      case measure => simp [intOf]; omega
set_option maxHeartbeats 400000 in
theorem qnum_any (n : Nat) (hn : n < 18446744073709551616) (w : World) :
    Calls Tryz.prog 47 #[.int .u64 (n : Int)] w fun e w' => ∃ v', e = .returned v' ∧ OwnB w' w.heap.size v' (encNum n) ∧ Below w.heap.size w w' := by
  have HN : Hid (n < 18446744073709551616) := hn
  clear hn
  go_enter Tryz.func47, Tryz.ntmps47
  go_wp2
  go_loopw [0, 3] (fun x u wr => ∃ (p : List (BitVec 8)) (m : Nat), x = .int .u64 m ∧ NuInv w.heap.size w [] n m p u wr) (fun x _ _ => (intOf x).toNat)
  case atStart => exact ⟨[], n, rfl, OwnB.nil _ _, Below.refl _ _, rfl, HN.out⟩
  case round =>
    obtain ⟨p, m, rfl, hI⟩ := hrel
    have HI : Hid (NuInv w.heap.size w [] n m p u3 wr) := hI
    have HP : Hid (p.length < 10) := hI.le HN.out
    have HS : Hid (w.heap.size ≤ wr.heap.size) := hI.bel.size
    clear hI
    by_cases hlt : m < 128
    · have hge : ¬ (127 < (m : Int)) := by omega
      have hx : (m : Int) % 256 = (m : Int) := by omega
      go_wp2_with (at_builtin; refine wpList_appendB rfl (.tmp 15) (.tmp 18) rfl w.heap.size _ p rfl (HI.out.own.below ((Below.refl _ _).alloc (Nat.le_refl _) _) (Nat.le_refl _)) _ [BitVec.ofNat 8 m] rfl (reads_val wr _ _ ?_) (by have := HP.out; simp; omega) (by have := HS.out; simp; omega) ?_; simp; omega; intro v2 w2 hown2 hb2 _)
      have HR : Hid (OwnB w2 w.heap.size v2 (encNum n)) := by
        rw [← HI.out.eq, encNum_lt hlt]; exact hown2
      have hB : Below w.heap.size w w2 := HI.out.bel.trans (((Below.refl _ _).alloc HS.out _).trans hb2)
      clear hown2 hb2 HI
      go_wp2
      go_ret
      exact ⟨_, rfl, HR.out, hB⟩
    · have hge : 127 < (m : Int) := by omega
      have HLT : Hid (¬ m < 128) := hlt
      have hw : IntKind.u64.wrap ((m : Int) / 128) = (m : Int) / 128 := by have := HI.out.lt; rw [IntKind.wrap_u64]; omega
      clear hlt
      go_wp2_with (at_builtin; refine wpList_appendB rfl (.tmp 6) (.tmp 11) rfl w.heap.size _ p rfl (HI.out.own.below ((Below.refl _ _).alloc (Nat.le_refl _) _) (Nat.le_refl _)) _ [BitVec.ofNat 8 (m % 128 + 128)] rfl (reads_val wr _ _ ?_) (by have := HP.out; simp; omega) (by have := HS.out; simp; omega) ?_; (rw [BitVec.toNat_ofNat]; omega); intro v2 w2 hown2 hb2 _)
      have hJ : NuInv w.heap.size w [] n (m / 128) (p ++ [BitVec.ofNat 8 (m % 128 + 128)]) v2 w2 := ⟨hown2, HI.out.bel.trans (((Below.refl _ _).alloc HS.out _).trans hb2), enc_step HLT.out HI.out.eq, by have := HI.out.lt; omega⟩
      clear hown2 hb2 HI
      go_wp2
      go_roundw
      case rel => exact ⟨_, m / 128, by simp, hJ⟩
      case measure => simp [intOf]; omega
end Go.Proofs.YteklnooagjkclaaGreatDoor
/- The walk of slices.Insert at bytes, where what is put in lies in a block of its own: what stood ahead, what is put in, what stood behind. -/
namespace Go.Proofs.YteklnooagjkclaaGreatDoor
open Go.RowKit
set_option maxRecDepth 100000
theorem overlaps_no (w : World) (b vb x y m vc lb kb : Nat) (cs vs : List Value) (tA tB : TypeId) (hne : vb ≠ b) (hv : Blk w vb vs tA) (hb : Blk w b cs tB) (hc : cs ≠ []) :
    (callFunc 146 #[.slice (some ⟨vb, x, none⟩) m vc, .slice (some ⟨b, y, none⟩) lb kb]).run Tryz.prog w = .ok (.value (.bool false)) w := by
  have hz : ∀ w, (Go.sizeOf 5).run Tryz.prog w = .ok 1 w := fun w => by kernel_rfl
  have sa : w.shape? vb = some (tA, vs.length) := by have h := hv; unfold Blk at h; simp [World.shape?, h]
  have sb : w.shape? b = some (tB, cs.length) := by have h := hb; unfold Blk at h; simp [World.shape?, h]
  rw [run_callFunc_extern Tryz.func146 (by kernel_rfl) (by kernel_rfl) (by kernel_rfl) (e := Extern.SlicesOverlaps.overlaps #[23, 23] #[4]) (by kernel_rfl),
    Lib.run_overlaps_apart w 23 4 5 Tryz.underlying23 1 hz ⟨vb, x, none⟩ ⟨b, y, none⟩ m vc lb kb hne tA tB vs.length cs.length sa sb (by simpa using hc) (hv.frozen _) (hv.frozen _)]
  rfl
set_option maxHeartbeats 4000000 in
set_option maxRecDepth 100000 in
/-- there is room: in place -/
theorem ins_shift (b n c i vb m vc : Nat) (cs vs cur vcur : List Value) (w : World) (hi : i < n) (hm : 0 < m) (hroom : n + m ≤ c) (hc63 : c ≤ 9223372036854775807) (hvb : vb ≠ b)
    (hcl : cs.length = n) (hvl : vs.length = m) (hB : Blk w b cur 5) (hV : Blk w vb vcur 5) (hcap : cur.length = c) (hcs : cur.take n = cs) (hvs : vcur.take m = vs) (h1c : ∀ v ∈ cs, v.oneCell' = true) (h1v : ∀ v ∈ vs, v.oneCell' = true) :
    Calls Tryz.prog 122 #[.slice (some ⟨b, 0, none⟩) n c, .int .i64 i, .slice (some ⟨vb, 0, none⟩) m vc] w fun e w' =>
      e = .returned (.slice (some ⟨b, 0, none⟩) (n + m) c) ∧ w' = (w.drew.setCells b (i + m) (cs.drop i)).setCells b i vs := by
  have mixed : Tryz.prog.follows Departure.mixedOrders = true := by kernel_rfl
  have hz1 : ¬ ((m : Int) = 0) := by omega
  have hz2 : ¬ ((i : Int) = (n : Int)) := by omega
  have hsz : (Tryz.prog.info? 5).map (·.size) = some 1 := by kernel_rfl
  have hov : ∀ lb kb, (callFunc 146 #[.slice (some ⟨vb, 0, none⟩) m vc, .slice (some ⟨b, i + m, none⟩) lb kb]).run Tryz.prog w = .ok (.value (.bool false)) w := fun lb kb => overlaps_no w b vb 0 (i + m) m vc lb kb cur vcur _ _ hvb hV hB (by intro h; subst h; simp at hcap; omega)
  have hdl : (cs.drop i).length = n - i := by rw [List.length_drop, hcl]
  have hcc : ∀ j v, cs[j]? = some v → w.cell? ⟨b, j, none⟩ = some v := fun j v hj => by
    rw [hB.cell, ← hj, ← hcs, List.getElem?_take_of_lt (by have := (List.getElem?_eq_some_iff.1 hj).1; omega)]
  have hvv : ∀ j v, vs[j]? = some v → w.cell? ⟨vb, j, none⟩ = some v := fun j v hj => by
    rw [hV.cell, ← hj, ← hvs, List.getElem?_take_of_lt (by have := (List.getElem?_eq_some_iff.1 hj).1; omega)]
  have hsp : ∀ j, j < n + m → (w.cell? ⟨b, j, none⟩).isSome = true := fun j hj => by rw [hB.cell, List.getElem?_eq_getElem (by omega)]; rfl
  have hfz : ∀ j, w.frozen? ⟨b, j, none⟩ = false := fun j => hB.frozen j
  have hw1 : IntKind.i64.wrap ((i : Int) + (m : Int)) = (i : Int) + (m : Int) := by rw [IntKind.wrap_i64]; omega
  have hb1 : (0 : Int) ≤ (i : Int) + (m : Int) := by omega
  have hin : i ≤ n := by omega
  have htn : ((i : Int) + (m : Int)).toNat = i + m := by omega
  have hb2 : ¬ (c = i + m) := by omega
  have hb3 : (i : Int) ≤ (n : Int) + (m : Int) := by omega
  have hb4 : ¬ (c = i) := by omega
  have hcp1 : ∀ ty dc sc, (Builtin.copy_ #[23, 23] ty #[.slice (some ⟨b, i + m, none⟩) (n + m - (i + m)) dc, .slice (some ⟨b, i, none⟩) (n + m - i) sc]).run Tryz.prog w.drew = .ok (goInt (cs.drop i).length) (w.drew.setCells b (i + m) (cs.drop i)) := fun ty dc sc =>
    run_copy_cells w.drew _ _ ty 5 b (i + m) (n + m - (i + m)) dc ⟨b, i, none⟩ (n + m - i) sc (cs.drop i) Tryz.underlying23 hsz (by rw [hdl]; simp only [Nat.min_def]; split <;> omega)
      (fun j v hj => by rw [Addr.add_lit]; exact hcc (i + j) v (by rwa [List.getElem?_drop] at hj))
      (fun j hj => hsp _ (by omega)) (fun j hj => hfz _) (fun v hv => h1c v (List.mem_of_mem_drop hv))
  obtain ⟨W1, hW1⟩ : ∃ W1, W1 = w.drew.setCells b (i + m) (cs.drop i) := ⟨_, rfl⟩
  have hsp1 : ∀ k, k < n + m → (W1.cell? ⟨b, k, none⟩).isSome = true := fun k hk => by
    rw [hW1]
    exact isSome_setCells b (cs.drop i) (i + m) w.drew (fun j hj => hsp (i + m + j) (by omega)) k (hsp k hk)
  have hcp2 : ∀ (W : World), (∀ x, W.cell? x = W1.cell? x) → (∀ x, W.frozen? x = W1.frozen? x) → ∀ ty dc, (Builtin.copy_ #[23, 23] ty #[.slice (some ⟨b, i, none⟩) (n + m - i) dc, .slice (some ⟨vb, 0, none⟩) m vc]).run Tryz.prog W = .ok (goInt vs.length) (W.setCells b i vs) := fun W hWc hWf ty dc =>
    run_copy_cells W _ _ ty 5 b i (n + m - i) dc ⟨vb, 0, none⟩ m vc vs Tryz.underlying23 hsz (by rw [hvl]; simp only [Nat.min_def]; split <;> omega)
      (fun j v hj => by
        rw [Addr.add_lit, hWc, hW1, World.cell?_setCells_out b _ _ _ _ (fun h _ => absurd h hvb), Nat.zero_add]
        exact hvv j v hj)
      (fun j hj => by rw [hWc]; exact hsp1 _ (by omega)) (fun j hj => by rw [hWf, hW1, World.frozen?_setCells]; exact hfz _) h1v
  rw [← hW1] at hcp1
  clear hcs hvs
  go_enter Tryz.func122, Tryz.ntmps122
  go_wp2_with (simp only [hov])
  go_region_law_o (refine step_copy_runI rfl _ _ 23 23 rfl _ _ (by simp [Act.eval, Act.put]) (by simp [Act.eval, Act.put]) (hcp1 _ _ _) ?_)
  go_wp2_with (at_builtin; refine wpList_copy_runI _ rfl _ _ 23 23 rfl _ _ rfl rfl (hcp2 _ (fun _ => rfl) (fun _ => rfl) _ _) ?_)
  go_ret
  first | exact ⟨rfl, rfl⟩ | exact ⟨rfl, by rw [hW1]⟩
set_option maxHeartbeats 4000000 in
set_option maxRecDepth 100000 in
/-- there is no room: a new row -/
theorem ins_grow (b n c i vb m vc : Nat) (cs vs cur vcur : List Value) (w : World) (hi : i < n) (hm : 0 < m) (hnc : n ≤ c) (hroom : c < n + m) (hbig : n + m ≤ 140737488355328)
    (hcl : cs.length = n) (hvl : vs.length = m) (hB : Blk w b cur 5) (hV : Blk w vb vcur 5) (hcs : cur.take n = cs) (hvs : vcur.take m = vs) (h1c : ∀ v ∈ cs, v.oneCell' = true) (h1v : ∀ v ∈ vs, v.oneCell' = true) :
    Calls Tryz.prog 122 #[.slice (some ⟨b, 0, none⟩) n c, .int .i64 i, .slice (some ⟨vb, 0, none⟩) m vc] w fun e w' =>
      ∃ (G : Nat) (row : List Value), e = .returned (.slice (some ⟨w.heap.size, 0, none⟩) (n + m) G) ∧ n + m ≤ G ∧ G ≤ maxLen ∧ row.length = G ∧ row.take i = cs.take i ∧
      w' = (((w.alloc (.cells row.toArray 5)).drew.setCells w.heap.size i vs).drew).setCells w.heap.size (i + m) (cs.drop i) := by
  have mixed : Tryz.prog.follows Departure.mixedOrders = true := by kernel_rfl
  obtain ⟨i0, hi0, hz0, hzs, hzb⟩ := info_parts Tryz.infob
  have hz1 : ¬ ((m : Int) = 0) := by omega
  have hz2 : ¬ ((i : Int) = (n : Int)) := by omega
  have hz3 : (c : Int) < (n : Int) + (m : Int) := by omega
  have hsz : (Tryz.prog.info? 5).map (·.size) = some 1 := by kernel_rfl
  have hcc : ∀ j v, cs[j]? = some v → w.cell? ⟨b, j, none⟩ = some v := fun j v hj => by
    rw [hB.cell, ← hj, ← hcs, List.getElem?_take_of_lt (by have := (List.getElem?_eq_some_iff.1 hj).1; omega)]
  have hvv : ∀ j v, vs[j]? = some v → w.cell? ⟨vb, j, none⟩ = some v := fun j v hj => by
    rw [hV.cell, ← hj, ← hvs, List.getElem?_take_of_lt (by have := (List.getElem?_eq_some_iff.1 hj).1; omega)]
  have hbw : b < w.heap.size := hB.lt
  have hvw : vb < w.heap.size := hV.lt
  have hkk : (n : Int) + (m : Int) - (i : Int) = ((n + m - i : Nat) : Int) := by omega
  have hik : i + (n + m - i) = n + m := by omega
  have hold : (Builtin.firstCells i0.size i (.slice (some ⟨b, 0, none⟩) i c)).run Tryz.prog w.drew = .ok (cs.take i).toArray w.drew := by
    rw [hzs]
    exact run_firstCells_some w.drew 1 i ⟨b, 0, none⟩ i c (cs.take i) (by rw [List.length_take]; omega) (fun j v hj => by
      rw [Addr.add_lit, Nat.zero_add]
      rw [List.getElem?_take] at hj
      split at hj
      · exact hcc j v hj
      · cases hj)
  have hrz : ∀ ty, (Builtin.append_ #[23, 3] ty #[.slice (some ⟨b, 0, none⟩) i c, .int .i64 ((n : Int) + (m : Int) - (i : Int))]).run Tryz.prog w =
      .ok (.slice (some ⟨w.heap.size, 0, none⟩) (n + m) (grownCap w (n + m) c 5)) (w.drew.alloc (.cells ((cs.take i).toArray ++ Builtin.zeroCells (Value.int .u8 0).cells (n + m - i) ++ Builtin.zeroCells (Value.int .u8 0).cells (grownCap w (n + m) c 5 - (n + m))) 5)) := fun ty => by
    have h := Lib.run_append_grow_zeros w 23 3 ty 5 i0 _ .i64 .i64 Tryz.underlying23 Tryz.underlying3 hi0 hz0 (some ⟨b, 0, none⟩) i c (cs.take i) hold (n + m - i) (by omega) (by omega) (by omega) (by omega) (by rw [hzb]; omega) (by rw [hzb, hik]; exact growslice_fits hroom (by omega))
    rw [hik] at h
    rw [hkk]
    exact h
  obtain ⟨G, hG⟩ : ∃ G, G = grownCap w (n + m) c 5 := ⟨_, rfl⟩
  have hGn : n + m ≤ G := by rw [hG]; exact grownCap_ge w _ _ _
  have hGm : G ≤ maxLen := by rw [hG]; exact grownCap_le_maxLen w (n + m) c 5 (by unfold maxLen; omega)
  obtain ⟨ROW, hROW⟩ : ∃ ROW : Array Value, ROW = (cs.take i).toArray ++ Builtin.zeroCells (Value.int .u8 0).cells (n + m - i) ++ Builtin.zeroCells (Value.int .u8 0).cells (G - (n + m)) := ⟨_, rfl⟩
  rw [← hG] at hrz
  rw [← hROW] at hrz
  have hRs : ROW.size = G := by
    have hzc : ∀ k, (Builtin.zeroCells (Value.int .u8 0).cells k).size = k := fun k => by simp [Builtin.zeroCells, Value.cells]
    rw [hROW, Array.size_append, Array.size_append, hzc, hzc, List.size_toArray, List.length_take]
    omega
  have hRt : ROW.toList.take i = cs.take i := by
    rw [hROW]
    simp only [Array.toList_append, List.append_assoc]
    rw [List.take_append_of_le_length (by rw [List.length_take]; omega), List.take_take, Nat.min_self]
  obtain ⟨W1, hW1⟩ : ∃ W1, W1 = w.drew.alloc (.cells ROW 5) := ⟨_, rfl⟩
  rw [← hW1] at hrz
  have hN : ∀ j, j < n + m → (W1.cell? ⟨w.heap.size, j, none⟩).isSome = true := fun j hj => by
    rw [hW1, World.cell?_alloc_at (w := w.drew) ROW _ w.heap.size j rfl, Array.getElem?_eq_getElem (by omega)]; rfl
  have hNf : ∀ j, W1.frozen? ⟨w.heap.size, j, none⟩ = false := fun j => by rw [hW1]; exact World.frozen?_alloc_at (w := w.drew) ROW _ w.heap.size j rfl
  have hOb : ∀ j v, w.cell? ⟨b, j, none⟩ = some v → W1.cell? ⟨b, j, none⟩ = some v := fun j v h => by rw [hW1, World.cell?_alloc_past (w := w.drew) _ b j hbw]; exact h
  have hOv : ∀ j v, w.cell? ⟨vb, j, none⟩ = some v → W1.cell? ⟨vb, j, none⟩ = some v := fun j v h => by rw [hW1, World.cell?_alloc_past (w := w.drew) _ vb j hvw]; exact h
  have hcpA : ∀ (W : World), (∀ x, W.cell? x = W1.cell? x) → (∀ x, W.frozen? x = W1.frozen? x) → ∀ ty dc, (Builtin.copy_ #[23, 23] ty #[.slice (some ⟨w.heap.size, i, none⟩) (n + m - i) dc, .slice (some ⟨vb, 0, none⟩) m vc]).run Tryz.prog W = .ok (goInt vs.length) (W.setCells w.heap.size i vs) := fun W hWc hWf ty dc =>
    run_copy_cells W _ _ ty 5 w.heap.size i (n + m - i) dc ⟨vb, 0, none⟩ m vc vs Tryz.underlying23 hsz (by rw [hvl]; simp only [Nat.min_def]; split <;> omega)
      (fun j v hj => by rw [Addr.add_lit, hWc, Nat.zero_add]; exact hOv _ v (hvv j v hj))
      (fun j hj => by rw [hWc]; exact hN _ (by omega)) (fun j hj => by rw [hWf]; exact hNf _) h1v
  have hG63 : G ≤ 9223372036854775807 := by unfold maxLen at hGm; omega
  have hGi : ¬ (G = i) := by omega
  have hGim : ¬ (G = i + m) := by omega
  have hci : ¬ (c = i) := by omega
  have hbN : b ≠ w.heap.size := by omega
  have hdl : (cs.drop i).length = n - i := by rw [List.length_drop, hcl]
  have hcpB : ∀ (W : World), (∀ x, W.cell? x = (W1.setCells w.heap.size i vs).cell? x) → (∀ x, W.frozen? x = (W1.setCells w.heap.size i vs).frozen? x) → ∀ ty dc sc, (Builtin.copy_ #[23, 23] ty #[.slice (some ⟨w.heap.size, i + m, none⟩) (n + m - (i + m)) dc, .slice (some ⟨b, i, none⟩) (n - i) sc]).run Tryz.prog W = .ok (goInt (cs.drop i).length) (W.setCells w.heap.size (i + m) (cs.drop i)) := fun W hWc hWf ty dc sc =>
    run_copy_cells W _ _ ty 5 w.heap.size (i + m) (n + m - (i + m)) dc ⟨b, i, none⟩ (n - i) sc (cs.drop i) Tryz.underlying23 hsz (by rw [hdl]; simp only [Nat.min_def]; split <;> omega)
      (fun j v hj => by
        rw [Addr.add_lit, hWc, World.cell?_setCells_out _ _ _ _ _ (fun h _ => absurd h hbN)]
        exact hOb _ v (hcc (i + j) v (by rwa [List.getElem?_drop] at hj)))
      (fun j hj => by rw [hWc]; exact isSome_setCells _ _ _ _ (fun t ht => hN _ (by omega)) _ (hN _ (by omega)))
      (fun j hj => by rw [hWf, World.frozen?_setCells]; exact hNf _) (fun v hv => h1c v (List.mem_of_mem_drop hv))
  subst hW1
  have hE1 : ∀ x, ((w.alloc (.cells ROW 5)).drew).cell? x = (w.drew.alloc (.cells ROW 5)).cell? x := fun x => rfl
  have hE2 : ∀ x, ((w.alloc (.cells ROW 5)).drew).frozen? x = (w.drew.alloc (.cells ROW 5)).frozen? x := fun x => rfl
  have hF1 : ∀ x, (((w.alloc (.cells ROW 5)).drew.setCells w.heap.size i vs).drew).cell? x = ((w.drew.alloc (.cells ROW 5)).setCells w.heap.size i vs).cell? x := fun x => rfl
  have hF2 : ∀ x, (((w.alloc (.cells ROW 5)).drew.setCells w.heap.size i vs).drew).frozen? x = ((w.drew.alloc (.cells ROW 5)).setCells w.heap.size i vs).frozen? x := fun x => rfl
  have hw1 : IntKind.i64.wrap ((i : Int) + (m : Int)) = (i : Int) + (m : Int) := by rw [IntKind.wrap_i64]; omega
  have hb1 : (0 : Int) ≤ (i : Int) + (m : Int) := by omega
  have hin : i ≤ n := by omega
  have htn : ((i : Int) + (m : Int)).toNat = i + m := by omega
  have hb3 : (i : Int) ≤ (n : Int) := by omega
  have HRR : Hid (ROW.size = G ∧ ROW.toList.take i = cs.take i) := ⟨hRs, hRt⟩
  clear hkk hik hold hROW hG hRs hRt hcs hvs hi0 hz0 hzs hzb
  go_enter Tryz.func122, Tryz.ntmps122
  go_wp2_with (first
    | (at_builtin; refine Lib.wpList_append_run _ rfl _ _ _ _ rfl _ _ rfl rfl _ _ (hrz _) ?_)
    | (at_builtin; refine wpList_copy_runI _ rfl _ _ 23 23 rfl _ _ rfl rfl (hcpA _ hE1 hE2 _ _) ?_)
    | (at_builtin; refine wpList_copy_runI _ rfl _ _ 23 23 rfl _ _ rfl rfl (hcpB _ (fun _ => rfl) (fun _ => rfl) _ _ _) ?_))
  go_region_law_o (refine step_copy_runI rfl _ _ 23 23 rfl (.slice (some ⟨w.heap.size, i + m, none⟩) (n + m - (i + m)) (G - (i + m))) (.slice (some ⟨b, i, none⟩) (n - i) (c - i)) (by simp [Act.eval, Act.put]) (by simp [Act.eval, Act.put]) (hcpB _ hF1 hF2 3 (G - (i + m)) (c - i)) ?_)
  go_wp2
  go_ret
  exact ⟨G, ROW.toList, rfl, hGn, hGm, by simpa using HRR.out.1, HRR.out.2, rfl⟩
theorem put_two {w : World} {b : Nat} {cur : List Value} {t : TypeId} (hB : Blk w b cur t) (x y : List Value) (i : Nat) (hl : i + x.length + y.length ≤ cur.length) :
    Blk ((w.setCells b (i + x.length) y).setCells b i x) b (cur.take i ++ x ++ y ++ cur.drop (i + x.length + y.length)) t := by
  have h1 := setCells_eq b y (i + x.length) w cur t hB (by omega)
  have h2 := setCells_eq b x i _ _ t h1 (by simp; omega)
  have e : (cur.take (i + x.length) ++ y ++ cur.drop (i + x.length + y.length)).take i ++ x ++ (cur.take (i + x.length) ++ y ++ cur.drop (i + x.length + y.length)).drop (i + x.length) = cur.take i ++ x ++ y ++ cur.drop (i + x.length + y.length) := by
    have e1 : (cur.take (i + x.length)).length = i + x.length := by rw [List.length_take]; omega
    rw [List.append_assoc (cur.take (i + x.length)), List.take_append_of_le_length (by omega), List.take_take, Nat.min_eq_left (by omega), List.drop_append_of_le_length (by omega), List.drop_of_length_le (by omega), List.nil_append]
    simp
  rw [e] at h2; exact h2
theorem put_two' {w : World} {b : Nat} {cur : List Value} {t : TypeId} (hB : Blk w b cur t) (x y : List Value) (i : Nat) (hl : i + x.length + y.length ≤ cur.length) :
    Blk (((w.setCells b i x).drew).setCells b (i + x.length) y) b (cur.take i ++ x ++ y ++ cur.drop (i + x.length + y.length)) t := by
  have h1 := setCells_eq b x i w cur t hB (by omega)
  have h2 := setCells_eq b y (i + x.length) _ _ t h1.drew (by simp; omega)
  have e : (cur.take i ++ x ++ cur.drop (i + x.length)).take (i + x.length) ++ y ++ (cur.take i ++ x ++ cur.drop (i + x.length)).drop (i + x.length + y.length) = cur.take i ++ x ++ y ++ cur.drop (i + x.length + y.length) := by
    have e1 : (cur.take i ++ x).length = i + x.length := by rw [List.length_append, List.length_take]; omega
    rw [List.take_append_of_le_length (by omega), List.take_of_length_le (by omega), List.drop_append, List.drop_of_length_le (by omega), List.nil_append, e1, List.drop_drop]
    congr 2
    omega
  rw [e] at h2; exact h2
theorem cb_app (a b : List (BitVec 8)) : cb (a ++ b) = cb a ++ cb b := by simp [cb]
theorem cb_drop (a : List (BitVec 8)) (k : Nat) : (cb a).drop k = cb (a.drop k) := by simp [cb]
theorem cb_take (a : List (BitVec 8)) (k : Nat) : (cb a).take k = cb (a.take k) := by simp [cb]
theorem OwnB.of_blk {w : World} {base b : Nat} {row : List Value} {l : List (BitVec 8)} {c : Nat} (h : Blk w b row 5) (hb : base ≤ b) (hc : row.length = c) (hm : c ≤ maxLen) (hl : l.length ≤ c) (ht : row.take l.length = cb l) : OwnB w base (.slice (some ⟨b, 0, none⟩) l.length c) l :=
  ⟨by rw [cb_len]; omega, Or.inr ⟨b, c, row.toArray, rfl, hb, h, hl, hm, by simpa using hc, by simpa using ht⟩⟩
end Go.Proofs.YteklnooagjkclaaGreatDoor
/- The walks of codec.Text, codec.Digest and blazonref04.Text: a text, a digest behind bytes. -/
namespace Go.Proofs.YteklnooagjkclaaGreatDoor
open Go.RowKit
set_option maxRecDepth 100000
theorem OwnB.below' {w w' : World} {base B : Nat} {v : Value} {l : List (BitVec 8)} (h : OwnB w base v l) (hb : Below B w w') (hB : ∀ k, v.ownBlock = some k → k < B) : OwnB w' base v l := by
  obtain ⟨h1, h2⟩ := h
  refine ⟨h1, ?_⟩
  rcases h2 with h2 | ⟨g, cap, cur, rfl, hg, hh, r⟩
  · exact Or.inl h2
  · exact Or.inr ⟨g, cap, cur, rfl, hg, by rw [hb.block g (hB g rfl)]; exact hh, r⟩
theorem OwnB.lt {w : World} {base : Nat} {v : Value} {l : List (BitVec 8)} (h : OwnB w base v l) : ∀ k, v.ownBlock = some k → k < w.heap.size := by
  obtain ⟨h1, h2⟩ := h
  rcases h2 with ⟨rfl, h0⟩ | ⟨g, cap, cur, rfl, hg, hh, _⟩
  · intro k hk; simp [Value.ownBlock] at hk
  · intro k hk
    simp [Value.ownBlock] at hk
    subst hk
    rcases Nat.lt_or_ge g w.heap.size with h' | h'
    · exact h'
    · rw [Array.getElem?_eq_none h'] at hh; cases hh
set_option maxHeartbeats 400000 in
theorem qtext_any (vt : Value) (t : List (BitVec 8)) (w : World) (hr : Reads w vt t) (hl : t.length + 10 ≤ 140737488355328) :
    Calls Tryz.prog 48 #[vt] w fun e w' => ∃ v', e = .returned v' ∧ Reads w' v' (encText t) ∧ Below w.heap.size w w' := by
  have HR : Hid (Reads w vt t) := hr
  have HL : Hid (t.length + 10 ≤ 140737488355328) := hl
  obtain ⟨at', capt, rfl, _, _, _⟩ := id hr
  obtain ⟨m, HM⟩ : ∃ m, Hid (m = t.length) := ⟨_, rfl⟩
  rw [← HM.out] at HR
  rw [← HM.out]
  have hm : m < 140737488355328 := by have := HL.out; have := HM.out; omega
  have hw : IntKind.u64.wrap (m : Int) = (m : Int) := by rw [IntKind.wrap_u64]; omega
  clear hr hl
  go_enter Tryz.func48, Tryz.ntmps48
  go_wp2_with fail
  refine (qnum_any m (by omega) w).mono ?_
  rintro e w1 ⟨v1, rfl, ho1, hb1⟩
  have r1 := ho1.reads
  obtain ⟨a1, c1, rfl, _, _, _⟩ := id r1
  obtain ⟨k1, HK1⟩ : ∃ k, Hid (k = (encNum m).length) := ⟨_, rfl⟩
  have HL2 : Hid (ReadsL (w1.alloc (.cells #[.slice a1 k1 c1, .slice at' m capt] 23)) (.slice (some ⟨w1.heap.size, 0, none⟩) 2 2) [encNum m, t]) := by
    rw [HK1.out]; exact readsL_two r1 (HR.out.below hb1)
  have HB1 : Hid (Below w.heap.size w w1) := hb1
  have HK : Hid (k1 ≤ 10) := by show _ ≤ _; rw [HK1.out]; exact enc_len10 m (by omega)
  clear ho1 hb1 r1
  rw [← HK1.out]
  go_wp2_with fail
  refine (rjoin_any _ _ _ HL2.out (by rw [fl2, ← HK1.out]; have := HK.out; have := HL.out; omega) (by simp)).mono ?_
  rintro e w2 ⟨v2, rfl, r2, b2⟩
  have HR2 : Hid (Reads w2 v2 (encText t)) := by
    show Reads _ _ _; unfold encText; rw [← HM.out]; simpa using r2
  have b3 := (below_alloc w1 (.cells #[.slice a1 k1 c1, .slice at' m capt] 23)).trans (b2.mono (by simp))
  have HB2 : Hid (Below w.heap.size w w2) := HB1.out.trans (b3.mono HB1.out.size)
  clear r2 b2 b3 HL2
  go_wp2
  go_ret
  exact ⟨_, rfl, HR2.out, HB2.out⟩
end Go.Proofs.YteklnooagjkclaaGreatDoor

/- Texts that the proof leans on, one behind the other: A region that draws its order, in a round of a loop over a function: no other than anywhere. slices.Chunk over bytes, and the function that it hands out: it yields all sectors, in order (layer 14). Plain: logs that are begun, opened again, and appended to (layer 14). .. -/
import Derived.Deep.RegionHeld
import Derived.RangeFuncNested
import Derived.RangeFuncFrom
import Derived.OrdersIn
import Derived.TacticsIn
import Derived.Test.YtopmeedmgjdcgaaGreatDoorMxb
import Derived.RangeFuncBound
import Derived.RangeFuncCalls
import Derived.RangeFuncLeaves
import Derived.Shelf.Abstract
import Derived.TacticsInMore
import Derived.Lib.SlBytesConst
import Derived.Deep.CutRange
/- A region that draws its order, in a round of a loop over a function: no other than anywhere. -/
namespace Go.Proofs.YtopmeedmgjdcgaaGreatDoor
open Go.RowKit
set_option maxRecDepth 100000
theorem upon_round {P : Program} {o : Oper} {a : Act} {K : Act → World → Prop} {Q : Exit → Act → World → Prop} {l n : Nat} : ∀ {r : Result Next}, o.upon P a K Q r → o.uponIn (Fence.wide.inRound l) n P a K Q r
  | .ok (.value _) _, h => h
  | .ok .skip _, h => h
  | .ok (.defer _) _, h => h
  | .ok (.enter _ _) _, h => ⟨fun hx => (nomatch hx), CallsIn.inRound l (callsIn_wide.2 h)⟩
  | .ok (.row _ _) _, h => ⟨fun hx => (nomatch hx), fun c cs _ => by
      obtain ⟨v, wq, r, s⟩ := h c cs
      exact ⟨v, wq, r, stepsIn_wide.2 s⟩⟩
  | .halt (.panic _) _, h => h
/-- no operation is put off -/
def noDefer (ops : Array Oper) : Bool := ops.toList.all fun o => match o.op with | .defer _ => false | _ => true
theorem noDefer_at {ops : Array Oper} (h : noDefer ops = true) {i : Nat} {o : Oper} (hi : ops[i]? = some o) (c : _) : o.op ≠ .defer c := by
  intro he
  have h1 := List.all_eq_true.1 h o (by rw [Array.mem_toList_iff]; exact Array.mem_of_getElem? hi)
  rw [he] at h1
  cases h1
theorem wpOp_round {P : Program} {ops : Array Oper} {Q : Exit → Act → World → Prop} {l n : Nat} (hnd : noDefer ops = true) (hQ : ¬ LetsOut Q) {i : Nat} {K K' : Act → World → Prop} (hK : ∀ a w, K a w → K' a w) {a : Act} {w : World} (h : wpOp P ops Q i K a w) : wpOpIn (Fence.wide.inRound l) n P ops Q i K' a w := by
  refine wpOpIn_mono hK ?_
  unfold wpOp at h
  unfold wpOpIn
  cases ho : ops[i]? with
  | none => rw [ho] at h; exact h
  | some o =>
    rw [ho] at h
    simp only at h ⊢
    by_cases hw : Region.wanted o (yielded ops a.tmps) = true
    · rw [if_pos hw] at h ⊢
      rcases h with h | h
      · refine ⟨fun _ _ => trivial, ?_⟩
        rw [Oper.semAt_eq _ _ _ (noDefer_at hnd ho)]
        exact upon_round h
      · exact absurd h.2 hQ
    · rw [if_neg hw] at h ⊢
      exact ⟨fun _ _ => trivial, h⟩
theorem wpAny_round {P : Program} {md : Region.Mode} {ops : Array Oper} {Q : Exit → Act → World → Prop} {l n : Nat} (hnd : noDefer ops = true) (hQ : ¬ LetsOut Q) : ∀ (fuel : Nat) (listed : Array Bool) (a : Act) (w : World), wpAny P md ops Q fuel listed a w → wpAnyIn (Fence.wide.inRound l) n P md ops Q fuel listed a w
  | 0, _, _, _, h => h
  | fuel + 1, _, _, _, h => ⟨h.1, fun i hi => wpOp_round hnd hQ (fun a w h => wpAny_round hnd hQ fuel _ a w h) (h.2 i hi)⟩
/-- a region that draws, in a round -/
theorem wpIn_round_held {P : Program} {ops : Array Oper} {Q : Exit → Act → World → Prop} {S : World → Prop} {l n id : Nat} {a : Act} {w : World} (hm : P.follows .mixedOrders = true) (hnd : noDefer ops = true) (hQ : ¬ LetsOut Q) (hS : S w.drew)
    (h : S w.drew → wpAnyH P .any ops Q S ops.size (Array.replicate ops.size false) a w.drew) : (Code.region id ops true).wpIn (Fence.wide.inRound l) n P Q a w :=
  wpIn_region_any hm (wpAny_round hnd hQ _ _ _ _ (wpAny_of_held _ _ _ _ (h hS)))
theorem wpList_round {P : Program} {ops : Array Oper} {Q : Exit → Act → World → Prop} {m n : Nat} (hQ : ¬ LetsOut Q) : ∀ (l : List Oper) (_ : noDefer l.toArray = true) (a : Act) (w : World), wpList P ops Q l a w → wpListIn (Fence.wide.inRound m) n P ops Q l a w
  | [], _, _, _, h => h
  | o :: rest, hnd, a, w, h => by
    have ho : ∀ c, o.op ≠ .defer c := fun c => noDefer_at hnd (i := 0) rfl c
    have hr : noDefer rest.toArray = true := by
      unfold noDefer at hnd ⊢
      simp only [List.all_cons, Bool.and_eq_true] at hnd
      exact hnd.2
    unfold wpList at h
    unfold wpListIn
    by_cases hw : Region.wanted o (yielded ops a.tmps) = true
    · rw [if_pos hw] at h ⊢
      rcases h with h | h
      · refine Oper.wpIn_mono (fun a w h => wpList_round hQ rest hr a w h) ⟨fun _ _ => trivial, ?_⟩
        rw [Oper.semAt_eq _ _ _ ho]
        exact upon_round h
      · exact absurd h.2 hQ
    · rw [if_neg hw] at h ⊢
      exact ⟨fun _ _ => trivial, wpList_round hQ rest hr _ w h⟩
/-- a region that does not draw, in a round -/
theorem wpIn_round_list {P : Program} {l : List Oper} {Q : Exit → Act → World → Prop} {m n id : Nat} {a : Act} {w : World} (hnd : noDefer l.toArray = true) (hQ : ¬ LetsOut Q) (h : wpList P l.toArray Q l a w) : (Code.region id l.toArray false).wpIn (Fence.wide.inRound m) n P Q a w :=
  wpIn_region_lit (wpList_round hQ l hnd a w h)
end Go.Proofs.YtopmeedmgjdcgaaGreatDoor
/- slices.Chunk over bytes, and the function that it hands out: it yields all sectors, in order (layer 14). -/
namespace Go.Proofs.YtopmeedmgjdcgaaGreatDoor
open Go.RowKit Go.Shelf
set_option maxRecDepth 100000
attribute [local go_sem] Oper.semAt_some
theorem wpSeqIn_val {F : Fence} {n : Nat} {P : Program} {ops : Array Oper} {Q : Exit → Act → World → Prop} {rest : List Oper} {o : Oper} {a : Act} {w : World} (v : Value) (w' : World) (hw : Region.wanted o (yielded ops a.tmps) = true) (hd : ∀ c, o.op ≠ .defer c) (hab : o.about P w a.eval = none)
    (he : (execOp a.eval o).run P w = .ok (.value v) w') (h : wpListIn F n P ops Q rest (a.put o.dst v) w') : wpListIn F n P ops Q (o :: rest) a w := by
  unfold wpListIn
  simp only [hw, if_true]
  unfold Oper.wpIn
  refine ⟨fun f hf => (by rw [hab] at hf; cases hf), ?_⟩
  rw [Oper.semAt_eq _ _ _ hd, he]
  exact h
/-- a new block of one cell -/
structure NewC (v : Value) (t : TypeId) (w : World) (g : Nat) (w' : World) : Prop where
  ge : w.heap.size ≤ g
  blk : Blk w' g [v] t
  below : Below w.heap.size w w'
theorem NewC.of (v : Value) (t : TypeId) (w : World) : NewC v t w w.heap.size (w.alloc (.cells #[v] t)) := ⟨Nat.le_refl _, Blk.new w [v] t, below_alloc w _⟩
theorem blk_own {β : Type} (g : Nat) (cs : β → List Value) (t : TypeId) : Own (fun (s : β) W => Blk W g (cs s) t) := fun s X Y row hs hg hr => by
  have hs' : X.heap[g]? = some (.cells (cs s).toArray t (0, 0)) := hs
  show Y.heap[g]? = some (.cells (cs s).toArray t (0, 0))
  rw [hg.block g (Array.getElem?_eq_some_iff.1 hs').1 (fun e => ?_)]
  · exact hs'
  · obtain ⟨o, ho, hc⟩ := hr g e.symm
    rw [hs'] at ho; cases ho; cases hc
theorem Blk.put {W : World} {g : Nat} {cs : List Value} {t : TypeId} (h : Blk W g cs t) {D : Nat} {o o' : Obj} (hD : W.heap[D]? = some o) (ho : o.isCells = false) : Blk (W.putObj D o') g cs t :=
  blk_own (β := Unit) g (fun _ => cs) t () W _ (some D) h (grownBy_putObj' W D o') (fun r e => by cases e; exact ⟨o, hD, ho⟩)
/-- what stands below n₀ stays, but blocks of R -/
structure KpJ (n₀ : Nat) (R : Nat → Prop) (X Y : World) : Prop where
  os : Y.os = X.os
  tape : Y.tape = X.tape
  output : Y.output = X.output
  size : X.heap.size ≤ Y.heap.size
  block : ∀ k, k < n₀ → ¬ R k → Y.heap[k]? = X.heap[k]?
theorem KpJ.refl (n₀ : Nat) (R : Nat → Prop) (X : World) : KpJ n₀ R X X := ⟨rfl, rfl, rfl, Nat.le_refl _, fun _ _ _ => rfl⟩
theorem KpJ.trans {n₀ : Nat} {R : Nat → Prop} {X Y Z : World} (h : KpJ n₀ R X Y) (k : KpJ n₀ R Y Z) : KpJ n₀ R X Z := ⟨k.os.trans h.os, k.tape.trans h.tape, k.output.trans h.output, Nat.le_trans h.size k.size, fun i hi hr => (k.block i hi hr).trans (h.block i hi hr)⟩
theorem KpJ.blk {n₀ : Nat} {R : Nat → Prop} {X Y : World} (h : KpJ n₀ R X Y) {g : Nat} {cs : List Value} {t : TypeId} (hb : Blk X g cs t) (hg : g < n₀) (hr : ¬ R g) : Blk Y g cs t := by
  unfold Blk at hb ⊢
  rw [h.block g hg hr]
  exact hb
theorem KpJ.below {n₀ : Nat} {R : Nat → Prop} {X Y : World} (h : Below X.heap.size X Y) (hn : n₀ ≤ X.heap.size) : KpJ n₀ R X Y := ⟨h.os, h.tape, h.output, h.size, fun k hk _ => h.block k (Nat.lt_of_lt_of_le hk hn)⟩
theorem KpJ.put {n₀ : Nat} {R : Nat → Prop} {w : World} (hn : n₀ ≤ w.heap.size) (W : World) (l : Nat) (o o' : Obj) (hl : w.heap.size ≤ l) (h : W.heap[l]? = some o) (_ : o.isCells = false) (_ : o.isWalk = false) : KpJ n₀ R W (W.putObj l o') :=
  ⟨(grownBy_putObj' W l o').os, (grownBy_putObj' W l o').tape, (grownBy_putObj' W l o').output, (grownBy_putObj' W l o').size, fun k hk _ => (grownBy_putObj' W l o').block k (by have := (Array.getElem?_eq_some_iff.1 h).1; omega) (fun e => by cases e; omega)⟩
theorem KpJ.mut {R : Nat → Prop} {X Y : World} (h : KpJ X.heap.size R X Y) : Mut R X Y := ⟨h.os, h.tape, h.output, h.size, h.block⟩
theorem box_any (f : Operand → Value) (o : Oper) (ty : TypeId) (x : Operand) (v : Value) (h1 : v.cells = #[v]) (ho : o.op = .box ty x) (hx : f x = v) (w : World) : (execOp f o).run Tryz.prog w = .ok (.value (.pointer (some ⟨w.heap.size, 0, none⟩))) (w.alloc (.cells #[v] ty)) := by
  unfold execOp
  rw [ho]
  simp only [hx]
  show (do let a ← newRow ty v.cells; pure (Next.value (.pointer (some a)))).run Tryz.prog w = _
  rw [h1]
  rfl
set_option maxRecDepth 100000 in
set_option maxHeartbeats 8000000 in
theorem chunk_any (ad : Option Addr) (n c : Nat) (w : World) : Calls Tryz.prog 128 #[.slice ad n c, .int .i64 64] w fun e w' => ∃ gs gn, e = .returned (.func (.func 149) #[] #[.pointer (some ⟨gs, 0, none⟩), .pointer (some ⟨gn, 0, none⟩)]) ∧ Blk w' gs [.slice ad n c] 23 ∧ Blk w' gn [.int .i64 64] 3 ∧ w.heap.size ≤ gs ∧ w.heap.size ≤ gn ∧ Below w.heap.size w w' := by
  go_enter Tryz.func128, Tryz.ntmps128
  go_wp2
  go_ret
  have h1 := below_alloc w (.cells #[.slice ad n c] 23)
  have h2 := below_alloc (w.alloc (.cells #[.slice ad n c] 23)) (.cells #[.int .i64 64] 3)
  have h3 := Blk.new (w.alloc (.cells #[.slice ad n c] 23)) [.int .i64 64] 3
  have h4 := h1.size
  rw [show (w.alloc (.cells #[.slice ad n c] 23)).heap.size = w.heap.size + 1 by simp] at h3 h4
  exact ⟨_, _, rfl, (Blk.new w [.slice ad n c] 23).below h2 (Blk.new w [.slice ad n c] 23).lt, h3, Nat.le_refl _, h4, h1.trans (h2.mono h1.size)⟩
theorem run_min (f : Operand → Value) (o : Oper) (x y : Operand) (n m l : Nat) (hl : l = min n m) (ho : o.op = .call { callee := .builtin .min, args := #[x, y], argTypes := #[3, 3] }) (hx : f x = .int .i64 (n : Int)) (hy : f y = .int .i64 (m : Int)) (w : World) : (execOp f o).run Tryz.prog w = .ok (.value (.int .i64 (l : Int))) w := by
  unfold execOp
  rw [ho]
  first
    | (simp [go_sem, hx, hy]; omega)
    | (simp [go_sem, hx, hy]; split <;> omega)
    | (by_cases hmn : m < n <;> simp [go_sem, hx, hy, hmn] <;> omega)
theorem cutMax (b off n c l m : Nat) (hm : 0 < m) (hn : l + m ≤ n) (hc : n ≤ c) (H : Int) (hH : H = ((l + m : Nat) : Int)) (f : Operand → Value) (o : Oper) (x lo hi mx : Operand) (ho : o.op = .slice 23 x (some lo) (some hi) (some mx)) (hx : f x = .slice (some ⟨b, off, none⟩) n c) (hlo : f lo = .int .i64 (l : Int)) (hhi : f hi = .int .i64 H) (hmx : f mx = .int .i64 H) (w : World) :
    (execOp f o).run Tryz.prog w = .ok (.value (.slice (some ⟨b, off + l, none⟩) m m)) w := by
  subst hH
  have hs : (sizeOf 5).run Tryz.prog w = .ok 1 w := by kernel_rfl
  unfold execOp
  rw [ho]
  simp only [hx, hlo, hhi, hmx, Option.map_some, Sem.run_bind]
  rw [run_sliceAt_slice w 23 _ _ _ _ (by kernel_rfl), run_slice_lhm w 23 _ _ _ (by kernel_rfl) .i64 .i64 .i64 _ _ _ (by omega) (by omega) (by omega) (by omega)]
  rw [show Tryz.prog.elem 23 = 5 from by kernel_rfl, hs]
  simp only [Result.andThen_ok, sliced, Int.toNat_natCast, Nat.mul_one]
  rw [show l + m - l = m by omega, if_neg (by omega)]
  simp [Addr.add_mid]
theorem wpSeqIn_cutMax {F : Fence} {n : Nat} {ops : Array Oper} {Q : Exit → Act → World → Prop} {rest : List Oper} {o : Oper} {a : Act} {w : World} (x lo hi mx : Operand) (b off N c l m : Nat) (H : Int) (hm : 0 < m) (hn : l + m ≤ N) (hc : N ≤ c) (hH : H = ((l + m : Nat) : Int)) (ho : o.op = .slice 23 x (some lo) (some hi) (some mx)) (hx : a.eval x = .slice (some ⟨b, off, none⟩) N c) (hlo : a.eval lo = .int .i64 (l : Int)) (hhi : a.eval hi = .int .i64 H) (hmx : a.eval mx = .int .i64 H) (hw : Region.wanted o (yielded ops a.tmps) = true)
    (h : wpListIn F n Tryz.prog ops Q rest (a.put o.dst (.slice (some ⟨b, off + l, none⟩) m m)) w) : wpListIn F n Tryz.prog ops Q (o :: rest) a w :=
  wpSeqIn_val _ _ hw (by rw [ho]; intro c hc; cases hc) (by simp [Oper.about, ho]) (cutMax b off N c l m hm hn hc H hH _ o x lo hi mx ho hx hlo hhi hmx w) h
/-- the k-th sector of a slice -/
def chV : Value → Nat → Value
  | .slice (some a) _ _, k => .slice (some ⟨a.block, a.off + 64 * k, none⟩) 64 64
  | _, _ => .slice none 0 0
abbrev encsC (v : Value) (m : Nat) (k : Fin m) : Array Value := #[chV v k.val]
/-- the first k places -/
def frs (m k : Nat) : List (Fin m) := (List.finRange m).take k
theorem frs_snoc (m k : Nat) (hk : k < m) : frs m k ++ [⟨k, hk⟩] = frs m (k + 1) := by
  rw [frs, frs, List.take_add_one]
  congr 1
  simp [hk]
theorem frs_val (m k : Nat) (hk : k ≤ m) : (frs m k).map Fin.val = List.range k := by
  rw [frs, List.map_take]
  have e : (List.finRange m).map Fin.val = List.range m := by
    apply List.ext_getElem
    · simp
    · intro i h1 h2
      simp
  rw [e, List.take_range, Nat.min_eq_left hk]
theorem frs_len (m k : Nat) (hk : k ≤ m) : (frs m k).length = k := by
  have := congrArg List.length (frs_val m k hk)
  rw [List.length_map, List.length_range] at this
  exact this
set_option maxRecDepth 100000 in
set_option maxHeartbeats 8000000 in
theorem chunk_stops (n : Nat) {n₀ : Nat} {R : Nat → Prop} {gs gn : Nat} {ad : Option Addr} {N c m : Nat} (hN : N = 64 * m) (hm : m ≤ 100000) (w : World) (hn : n₀ ≤ w.heap.size) (hst : ∀ W, KpJ n₀ R w W → ∃ r, r.length = N ∧ Reads W (.slice ad N c) r) (hB : Blk w gs [.slice ad N c] 23) (hC : Blk w gn [.int .i64 64] 3) (hgs : gs < n₀ ∧ ¬ R gs) (hgn : gn < n₀ ∧ ¬ R gn) :
    SeqStopsK Fence.wide n Tryz.prog 149 #[.pointer (some ⟨gs, 0, none⟩), .pointer (some ⟨gn, 0, none⟩)] (encsC (.slice ad N c) m) (KpJ n₀ R) (fun xs => xs = frs m m) (fun xs => ∃ k, k ≤ m ∧ xs = frs m k) m w := fun lab J Jx W hW hJ hJx hY h0 => by
  have HST : Hid (∀ W, KpJ n₀ R w W → ∃ r, r.length = N ∧ Reads W (.slice ad N c) r) := hst
  have HKW : Hid (KpJ n₀ R w W) := KpJ.below hW hn
  have HBS : Hid (∀ W, KpJ n₀ R w W → Blk W gs [.slice ad N c] 23 ∧ Blk W gn [.int .i64 64] 3) := fun W h => ⟨h.blk hB hgs.1 hgs.2, h.blk hC hgn.1 hgn.2⟩
  have HN : Hid (N = 64 * m ∧ m ≤ 100000) := ⟨hN, hm⟩
  have HY : Aside (∀ pre x W1, J pre W1 → pre.length < m → YieldAt Fence.wide (n - 1) Tryz.prog lab (encsC (.slice ad N c) m x) W1 fun e W' => (e = .returned (.bool true) ∧ J (pre ++ [x]) W' ∧ KpJ n₀ R W1 W') ∨ (e = .returned (.bool false) ∧ Jx (pre ++ [x]) W')) := hY
  have HJ0 : Hid (J (frs m 0) W) := h0
  have HJA : Hid (∀ s X, J s X → J s X.drew) := fun s X hs => hJ s X X.drew none hs ⟨rfl, rfl, rfl, Nat.le_refl _, fun _ _ _ => rfl⟩ (fun r e => by cases e)
  clear hB hC hW hY h0 hJ hJx hst hN hm
  refine callsIn_wide.2 ?_
  simp only [List.append_toArray, List.cons_append, List.nil_append]
  go_enter Tryz.func149, Tryz.ntmps149
  go_wp2
  go_loopw [4] (fun i wr => ∃ k : Nat, k ≤ m ∧ i = .int .i64 ((64 * k : Nat) : Int) ∧ Hid (J (frs m k) wr) ∧ Hid (KpJ n₀ R w wr)) (fun i _ => 64 * m - (intOf i).toNat)
  case atStart => exact ⟨0, Nat.zero_le _, rfl, HJ0, HKW⟩
  case round =>
    clear HJ0 HKW
    obtain ⟨k, hk, rfl, HJK, HKP⟩ := hrel
    have c0 : wr.cell? ⟨gs, 0, none⟩ = some (.slice ad N c) := (HBS.out wr HKP.out).1.cell 0
    by_cases hlt : k < m
    case neg =>
      obtain rfl : k = m := by omega
      have hlk : ¬ (((64 * k : Nat) : Int) < (N : Int)) := by have := HN.out; omega
      go_wp2
      go_end0
      first
        | exact ⟨⟨_, rfl⟩, .inl ⟨_, rfl, HJK.out⟩⟩
        | exact ⟨⟨_, rfl⟩, .inl HJK.out⟩
    case pos =>
      obtain ⟨p, HP⟩ : ∃ p, Hid (p = 64 * k) := ⟨_, rfl⟩
      obtain ⟨p2, HP2⟩ : ∃ q, Hid (q = p + 64) := ⟨_, rfl⟩
      obtain ⟨q, HQ⟩ : ∃ q, Hid (q = N - p) := ⟨_, rfl⟩
      rw [← HP.out]
      have hpn : p + 64 ≤ N ∧ p2 < 10000000 := by have h1 := HN.out; have h2 := HP.out; have h3 := HP2.out; omega
      obtain ⟨r, hrl, hrd⟩ := HST.out wr HKP.out
      obtain ⟨b, off, had⟩ : ∃ b off, ad = some ⟨b, off, none⟩ := by
        obtain ⟨_, _, hv, _, _, hps⟩ := hrd
        simp only [Value.slice.injEq] at hv
        obtain ⟨b, off, h1, _⟩ := hps (by omega)
        exact ⟨b, off, by rw [hv.1]; exact h1⟩
      subst had
      have HCT : Hid (p < N ∧ N ≤ c ∧ p + 64 ≤ N ∧ (p2 : Int) = ((p + 64 : Nat) : Int) ∧ 64 = min 64 (N - p)) := ⟨by omega, (reads_nc hrd).2, hpn.1, by rw [HP2.out], by omega⟩
      have hlk : (p : Int) < (N : Int) := by omega
      have f1 : IntKind.i64.wrap ((p : Int) + 64) = (p2 : Int) := aJ HP2.out (by omega)
      clear hrd hrl hpn
      go_upto_region 3 with fail
      clear c0
      refine wp_region_held_drew (S := fun wx => Blk wx gs [.slice (some ⟨b, off, none⟩) N c] 23 ∧ Blk wx gn [.int .i64 64] 3) (by kernel_rfl) ⟨(HBS.out wr HKP.out).1.drew, (HBS.out wr HKP.out).2.drew⟩ ?_
      intro hS
      refine wpAnyH_take (i := 0) (v := .int .i64 64) rfl (by kernel_rfl) (by kernel_rfl) (by kernel_rfl) (fun _ _ _ h => h) (Or.inl ⟨by rfl, fun wx hx => by (have c0 : wx.cell? ⟨gn, 0, none⟩ = some (.int .i64 64) := hx.2.cell 0; simp [go_sem, c0])⟩) hS ?_
      simp only [Act.put, List.getElem_toArray, List.getElem_cons_zero, List.setIfInBounds_toArray, List.set_cons_zero, List.set_cons_succ]
      refine wpAnyH_take (i := 1) (v := .slice (some ⟨b, off, none⟩) N c) rfl (by kernel_rfl) (by kernel_rfl) (by kernel_rfl) (fun _ _ _ h => h) (Or.inl ⟨by rfl, fun wx hx => by (have c0 : wx.cell? ⟨gs, 0, none⟩ = some (.slice (some ⟨b, off, none⟩) N c) := hx.1.cell 0; simp [go_sem, c0])⟩) hS ?_
      simp only [Act.put, List.getElem_toArray, List.getElem_cons_succ, List.getElem_cons_zero, List.setIfInBounds_toArray, List.set_cons_zero, List.set_cons_succ]
      refine wpAnyH_take (i := 2) (v := .int .i64 (p : Int)) rfl (by kernel_rfl) (by kernel_rfl) (by kernel_rfl) (fun _ _ _ h => h) (Or.inl ⟨by rfl, fun wx hx => by simp [go_sem]⟩) hS ?_
      simp only [Act.put, List.getElem_toArray, List.getElem_cons_succ, List.getElem_cons_zero, List.setIfInBounds_toArray, List.set_cons_zero, List.set_cons_succ]
      refine wpAnyH_take (i := 3) (v := .slice (some ⟨b, off + p, none⟩) (N - p) (c - p)) rfl (by kernel_rfl) (by kernel_rfl) (by kernel_rfl) (fun _ _ _ h => h) (Or.inl ⟨by rfl, fun wx hx => by exact cutFrom b off N c p HCT.out.1 HCT.out.2.1 _ _ (.tmp 14) (.tmp 15) rfl rfl rfl _⟩) hS ?_
      simp only [Act.put, List.getElem_toArray, List.getElem_cons_succ, List.getElem_cons_zero, List.setIfInBounds_toArray, List.set_cons_zero, List.set_cons_succ]
      refine wpAnyH_take (i := 4) (v := .int .i64 ((N - p : Nat) : Int)) rfl (by kernel_rfl) (by kernel_rfl) (by kernel_rfl) (fun _ _ _ h => h) (Or.inl ⟨by rfl, fun wx hx => by simp [go_sem]⟩) hS ?_
      simp only [Act.put, List.getElem_toArray, List.getElem_cons_succ, List.getElem_cons_zero, List.setIfInBounds_toArray, List.set_cons_zero, List.set_cons_succ]
      refine wpAnyH_take (i := 5) (v := .int .i64 64) rfl (by kernel_rfl) (by kernel_rfl) (by kernel_rfl) (fun _ _ _ h => h) (Or.inl ⟨by rfl, fun wx hx => by exact run_min _ _ (.tmp 13) (.tmp 17) 64 (N - p) 64 HCT.out.2.2.2.2 rfl rfl rfl _⟩) hS ?_
      simp only [Act.put, List.getElem_toArray, List.getElem_cons_succ, List.getElem_cons_zero, List.setIfInBounds_toArray, List.set_cons_zero, List.set_cons_succ]
      refine wpAnyH_take (i := 6) (v := .int .i64 64) rfl (by kernel_rfl) (by kernel_rfl) (by kernel_rfl) (fun _ _ _ h => h) (Or.inl ⟨by rfl, fun wx hx => by simp [go_sem]⟩) hS ?_
      simp only [Act.put, List.getElem_toArray, List.getElem_cons_succ, List.getElem_cons_zero, List.setIfInBounds_toArray, List.set_cons_zero, List.set_cons_succ]
      refine wpAnyH_done (by kernel_rfl) ?_ _
      clear hS
      have HKD : Hid (KpJ n₀ R w wr.drew) := ⟨HKP.out.os, HKP.out.tape, HKP.out.output, HKP.out.size, HKP.out.block⟩
      have c0 : wr.drew.cell? ⟨gs, 0, none⟩ = some (.slice (some ⟨b, off, none⟩) N c) := (HBS.out _ HKD.out).1.cell 0
      obtain ⟨fn, tmps, assign, body, hy, hR⟩ := HY.out (frs m k) ⟨k, hlt⟩ wr.drew (HJA.out _ _ HJK.out) (by rw [frs_len m k hk]; exact hlt)
      rw [frs_snoc] at hR
      dsimp only [encsC, chV] at hy
      rw [← HP.out] at hy
      clear HJK
      go_upto_region 4 with fail
      refine (wpIn_wide (n := n)).1 ?_
      gi_wp2_with (first
        | (with_reducible refine wpSeqIn_cutMax (.tmp 20) (.tmp 21) (.tmp 24) (.tmp 27) b off N c p 64 (p2 : Int) (by decide) HCT.out.2.2.1 HCT.out.2.1 HCT.out.2.2.2.1 ?_ ?_ ?_ ?_ ?_ ?_ ?_
           · rfl
           · rfl
           · rfl
           · rfl
           · rfl
           · rfl))
      refine ⟨fun h => (nomatch h), ?_⟩
      refine hR.mono ?_
      clear hR hy c0
      rintro e W3 (⟨rfl, hJ3, hk3⟩ | ⟨rfl, hJx3⟩)
      · have HJ3 : Hid (J (frs m (k + 1)) W3) := hJ3
        have HK3 : Hid (KpJ n₀ R w W3) := HKD.out.trans hk3
        have c1 : W3.cell? ⟨gn, 0, none⟩ = some (.int .i64 64) := (HBS.out _ HK3.out).2.cell 0
        clear hJ3 hk3
        gi_wp2
        go_wp2
        go_roundw
        case rel => exact ⟨k + 1, by omega, by rw [HP2.out, HP.out]; rfl, HJ3, HK3⟩
        case measure => simp only [intOf]; have := HP2.out; have := HP.out; have := HN.out; omega
      · gi_wp2
        go_wp2
        refine bodyPost_ret (results_none rfl _ _ _) rfl ?_
        exact ⟨⟨_, rfl⟩, .inr ⟨_, ⟨k + 1, by omega, rfl⟩, hJx3⟩⟩
end Go.Proofs.YtopmeedmgjdcgaaGreatDoor
/- Plain: logs that are begun, opened again, and appended to (layer 14). -/
namespace Go.Proofs.YtopmeedmgjdcgaaGreatDoor
open Go.RowKit
set_option maxRecDepth 100000
theorem gen_zero (n : Nat) : genH (List.replicate n 0) = 0 := by
  unfold genH
  rw [if_pos]
  left
  rw [List.drop_replicate, List.take_replicate]
  have : ∀ m, rdNum (List.replicate m 0) = 0 := rd_zero
  exact this _
theorem half_zero (n k : Nat) : halfB (List.replicate n 0) k = List.replicate (min (halfN (List.replicate n (0 : BitVec 8))) (n - k * halfN (List.replicate n (0 : BitVec 8)))) 0 := by
  rw [halfB, List.drop_replicate, List.take_replicate]
theorem pick_zero (n : Nat) : pickB (List.replicate n 0) = (0, 0) := by
  unfold pickB
  rw [half_zero, half_zero, gen_zero, gen_zero]
  rfl
/-- a new disk, opened -/
theorem open_zero {m : Nat} (h1 : 8 ≤ m) (h2 : m ≤ 16384) : openX (zeroD m) = 0 ∧ (openS (zeroD m)).2 = ⟨0, 1, []⟩ ∧ Log (openD (zeroD m)) ⟨0, 1, []⟩ ∧ sizeD (openD (zeroD m)) = m := by
  have hl : (List.replicate (64 * m) (0 : BitVec 8)).length = 64 * m := List.length_replicate
  have hp := pick_zero (64 * m)
  have hJ : (openS (zeroD m)).2 = ⟨0, 1, []⟩ := by
    rw [zeroD_load]
    unfold openS
    rw [dump_idle, hp, if_pos rfl]
  obtain ⟨a, b, c, _⟩ := Log.open (s := List.replicate (64 * m) 0) (by rw [hl]; omega) (by rw [hl]; omega) (by rw [hp]; decide)
  rw [← zeroD_load, hJ] at b
  rw [← zeroD_load] at a c
  refine ⟨a, hJ, b, ?_⟩
  rw [c, hl]
  omega
theorem Log.read {D : DkT} {J : JnT} (h : Log D J) : readJ (dumpD D) = (J.gen, J.l) := by
  rw [h.idle, dump_idle]
  exact h.good.read
theorem Log.fits {D : DkT} {J : JnT} (h : Log D J) : 1 + secL J.l ≤ hsD D := by
  have h1 := h.good.size
  have h2 := halfN_eq D.safe
  have h3 := sizeL_eq J.l
  show _ ≤ D.safe.length / 64 / 2
  omega
/-- what the statements' own list is behind an append, and the answer -/
theorem app_ref (D : DkT) (J : JnT) (x : Bs) : (appE J D x = 0 ↔ chkX x ≠ 1 ∧ sizeL (J.l ++ [x]) + 64 ≤ 64 * (sizeD D / 2)) := by
  have h3 := sizeL_eq J.l
  rw [sizeL_snoc]
  unfold appE hsD
  by_cases hc : chkX x = 1
  · rw [if_pos hc]
    exact ⟨(fun e => by cases e), fun e => absurd hc e.1⟩
  · rw [if_neg hc]
    by_cases hs : sizeD D / 2 < 1 + secL J.l + secR x.length
    · rw [if_pos hs]
      exact ⟨(fun e => by cases e), fun e => by omega⟩
    · rw [if_neg hs]
      exact ⟨fun _ => ⟨hc, by omega⟩, fun _ => rfl⟩
end Go.Proofs.YtopmeedmgjdcgaaGreatDoor
/- What journal's functions must do; the statements' own fresh and works (layer 14). -/
namespace Go.Proofs.YtopmeedmgjdcgaaGreatDoor
open Go.RowKit
set_option maxRecDepth 100000
/-- blocks of either -/
def Un (P Q : Nat → Prop) : Nat → Prop := fun k => P k ∨ Q k
/-- a log and its disk that calls are made of -/
structure okJ (D : DkT) (J : JnT) : Prop where
  wt : D.wait = []
  lo : 8 ≤ sizeD D
  hi : sizeD D ≤ 100
  k1 : J.k ≤ 1
  g1 : 1 ≤ J.gen
  g2 : J.gen < 9223372036854775809
  fit : 1 + secL J.l ≤ hsD D
  ne : ∀ x ∈ J.l, x ≠ []
/-- a disk at block gd in blocks of P, and its log at block lg in blocks of Q -/
structure Pk (Lg : World → Nat → (Nat → Prop) → Nat → Nat → JnT → Prop) (w : World) (gd lg : Nat) (P Q : Nat → Prop) (D : DkT) (J : JnT) : Prop where
  dk : DkIs w gd P D
  lg : Lg w lg Q gd (sizeD D) J
  ap : ∀ k, Q k → ¬ P k
theorem DkIs.lt14 {w : World} {g : Nat} {P : Nat → Prop} {D : DkT} (h : DkIs w g P D) : ∀ k, P k → k < w.heap.size := fun k hk => by
  obtain ⟨gs, vw, fu, lf, hm, rfl⟩ := h
  exact hm.lt k hk
/-- how many sectors a number makes -/
def nSec (n : Int) : Nat := 8 + (n % 18446744073709551616).toNat % 40
theorem nSec_le (n : Int) : 8 ≤ nSec n ∧ nSec n ≤ 47 := by unfold nSec; omega
theorem Log.okJ {D : DkT} {J : JnT} (h : Log D J) (h1 : 8 ≤ sizeD D) (h2 : sizeD D ≤ 100) (h3 : J.gen < 9223372036854775809) : okJ D J :=
  ⟨by rw [h.idle]; rfl, h1, h2, h.good.hk, h.good.g1, h3, h.fits, fun x hx => (h.good.ne x hx).1⟩
def jn0 : JnT := ⟨0, 1, []⟩
/-- a text of one byte, of a constant: it stays whatever other blocks become -/
theorem wpSeq_constN {ops : Array Oper} {Q : Exit → Act → World → Prop} {rest : List Oper} {o : Oper} {a : Act} (x : Operand) (W : World) (c : BitVec 8) (v : Value) (hv : v = .int .u8 (c.toNat : Int)) (ho : o.op = .convert 23 23 x) (hx : a.eval x = .slice (some ⟨W.heap.size, 0, none⟩) 1 1) (hw : Region.wanted o (yielded ops a.tmps) = true)
    (h : ∀ g w', W.heap.size ≤ g → (∀ (P : Nat → Prop), ¬ P g → Sta P w' (fun X => Reads X (.slice (some ⟨g, 0, none⟩) 1 1) [c])) → Below W.heap.size W w' → wpList Tryz.prog ops Q rest (a.put o.dst (.slice (some ⟨g, 0, none⟩) 1 1)) w') : wpList Tryz.prog ops Q (o :: rest) a (W.alloc (.cells #[v] 5)) := by
  subst hv
  have hr := Go.Lib.run_convert_bytes_const (P := Tryz.prog) W 23 5 #[.int .u8 (c.toNat : Int)] 1 1 Tryz.underlying23 Tryz.underlying5
  refine wpSeq_val (.slice (some ⟨W.heap.size, 0, none⟩) 1 1) (W.alloc (.cells #[.int .u8 (c.toNat : Int)] 5 (1, 2))) hw ?_ (h W.heap.size (W.alloc (.cells #[.int .u8 (c.toNat : Int)] 5 (1, 2))) (Nat.le_refl _) (fun P hP X hX => ?_) (below_alloc _ _))
  · unfold execOp
    rw [ho]
    simp only [hx, Sem.run_bind]
    rw [hr]
    rfl
  · refine ⟨_, 1, rfl, Nat.le_refl _, (fun h => by cases h), fun _ => ⟨_, 0, rfl, fun j hj => ?_⟩⟩
    have hj0 : j = 0 := by simp at hj; exact hj
    subst hj0
    have hb := hX.block W.heap.size (by simp) hP
    unfold World.cell?
    rw [hb, heap_alloc_new W _]
    rfl
end Go.Proofs.YtopmeedmgjdcgaaGreatDoor
/- The walk of journal's put, as it landed: sectors written in order, and synced (layer 14). -/
namespace Go.Proofs.YtopmeedmgjdcgaaGreatDoor
open Go.RowKit Go.Shelf
set_option maxRecDepth 100000
attribute [local go_sem] Oper.semAt_some
def wrF (gd : Nat) : Value := .func (.func 89) #[.pointer (some ⟨gd, 0, none⟩)] #[]
def syF (gd : Nat) : Value := .func (.func 90) #[.pointer (some ⟨gd, 0, none⟩)] #[]
/-- a log's cells -/
def lgC (gd hs : Nat) (fl : Int) (k gen : Nat) (vr : Value) (u : Nat) : List Value := [wrF gd, syF gd, .int .i64 (hs : Int), .int .i64 fl, .int .i64 (k : Int), .int .u64 (gen : Int), vr, .int .i64 (u : Int)]
theorem secs_at : ∀ (m s : Nat) (r : Bs) (j : Nat), j < m → (secsOf s m r)[j]? = some (s + j, (r.drop (64 * j)).take 64)
  | 0, _, _, _, h => absurd h (by omega)
  | m + 1, s, r, 0, _ => by simp [secsOf]
  | m + 1, s, r, j + 1, h => by
    rw [secsOf, List.getElem?_cons_succ, secs_at m (s + 1) (r.drop 64) j (by omega), List.drop_drop]
    congr 2
    · omega
    · congr 2; omega
theorem secs_take (m s : Nat) (r : Bs) {j : Nat} (h : j < m) : (secsOf s m r).take (j + 1) = (secsOf s m r).take j ++ [(s + j, (r.drop (64 * j)).take 64)] := by
  rw [List.take_add_one, secs_at m s r j h]
  rfl
theorem put_wait (D : DkT) (i : Int) (b : Bs) : (putD13 D i b).wait.length ≤ D.wait.length + 1 := by
  unfold putD13
  split
  · omega
  split
  · omega
  split
  · omega
  · simp
/-- the writes of sectors, in some order -/
def wsN (at_ : Nat) (r : Bs) (l : List Nat) : List (Nat × Bs) := l.mapIdx fun j z => (at_ + j, (r.drop (64 * z)).take 64)
theorem wsN_snoc (at_ : Nat) (r : Bs) (l : List Nat) (z : Nat) : wsN at_ r (l ++ [z]) = wsN at_ r l ++ [(at_ + l.length, (r.drop (64 * z)).take 64)] := by simp [wsN]
theorem wsN_range (at_ m : Nat) (r : Bs) : ∀ k, k ≤ m → wsN at_ r (List.range k) = (secsOf at_ m r).take k
  | 0, _ => by simp [wsN]
  | k + 1, h => by rw [List.range_succ, wsN_snoc, wsN_range at_ m r k (by omega), secs_take m at_ r (by omega), List.length_range]
/-- writes that were done -/
def RunTo (D : DkT) (L : List (Nat × Bs)) (D' : DkT) : Prop := ∀ rest, runJ D (L.map some ++ rest) = runJ D' rest
theorem RunTo.zero (D : DkT) : RunTo D [] D := fun _ => rfl
theorem RunTo.next {D D' : DkT} {L : List (Nat × Bs)} (h : RunTo D L D') {p : Nat × Bs} (hx : putX13 D' (p.1 : Int) p.2 = 0) : RunTo D (L ++ [p]) (putD13 D' (p.1 : Int) p.2) := fun rest => by
  rw [List.map_append, List.append_assoc, h]
  show runJ D' (some p :: rest) = _
  rw [runJ, if_pos hx]
theorem RunTo.stop {D D' : DkT} {L : List (Nat × Bs)} (h : RunTo D L D') {p : Nat × Bs} (hx : putX13 D' (p.1 : Int) p.2 ≠ 0) (t : List (Option (Nat × Bs))) : runJ D ((L ++ [p]).map some ++ t) = (putD13 D' (p.1 : Int) p.2, putX13 D' (p.1 : Int) p.2) := by
  rw [List.map_append, List.append_assoc, h]
  show runJ D' (some p :: t) = _
  rw [runJ, if_neg hx]
theorem DkIs.cells {w : World} {g : Nat} {P : Nat → Prop} {D : DkT} (h : DkIs w g P D) : ∀ k, P k → ∃ cs t, w.heap[k]? = some (.cells cs t (0, 0)) := by
  obtain ⟨gs, vw, fu, lf, hm, rfl⟩ := h
  intro k hk
  rcases hk with rfl | rfl | hk
  · exact ⟨_, _, hm.me⟩
  · exact ⟨_, _, hm.sf⟩
  · rcases hm.wt with ⟨_, ⟨e, _⟩ | ⟨g2, cap2, cur2, e, _, hh2, _⟩⟩
    · rw [e] at hk; cases hk
    · rw [e] at hk
      have e2 : g2 = k := by simpa [Value.ownBlock] using hk
      rw [← e2]
      exact ⟨_, _, hh2⟩
theorem DkIs.same14 {w w' : World} {g : Nat} {P : Nat → Prop} {D : DkT} (h : DkIs w g P D) (hs : ∀ k, P k → w'.heap[k]? = w.heap[k]?) : DkIs w' g P D := by
  obtain ⟨gs, vw, fu, lf, hm, rfl⟩ := h
  exact ⟨gs, vw, fu, lf, hm.same hs, rfl⟩
theorem DkIs.own14 {X Y : World} {g : Nat} {P : Nat → Prop} {D : DkT} {row : Option Nat} (h : DkIs X g P D) (hg : X.grownBy Y row) (hr : ∀ r, row = some r → ∃ o : Obj, X.heap[r]? = some o ∧ o.isCells = false) : DkIs Y g P D := by
  refine h.same14 fun k hk => ?_
  obtain ⟨cs, t, hc⟩ := h.cells k hk
  refine hg.block k (Array.getElem?_eq_some_iff.1 hc).1 (fun e => ?_)
  obtain ⟨o, ho, hn⟩ := hr k e.symm
  rw [hc] at ho
  cases ho
  cases hn
theorem keeps_mut {Q : Nat → Prop} {X Y : World} (h : Mut Q X Y) (hc : ∀ k, Q k → ∃ cs t, X.heap[k]? = some (.cells cs t (0, 0))) : KeepsOthers X Y :=
  ⟨h.size, fun k o hk ho => by
    rw [h.block k (Array.getElem?_eq_some_iff.1 hk).1 (fun hq => ?_)]
    · exact hk
    · obtain ⟨cs, t, h2⟩ := hc k hq
      rw [hk] at h2
      cases h2
      cases ho⟩
/-- a region that is not left but by its end -/
def onlyNormal (Q : Exit → Act → World → Prop) : Exit → Act → World → Prop
  | .normal, a, w => Q .normal a w
  | _, _, _ => False
theorem wp_normal {c : Code} {Q : Exit → Act → World → Prop} {a : Act} {w : World} (h : c.wp Tryz.prog (onlyNormal Q) a w) : c.wp Tryz.prog Q a w :=
  wp_mono h (fun e a w h => by cases e <;> first | exact h | exact h.elim)
/-- what is changed by put -/
def puR (P : Nat → Prop) (lg g4 g6 : Nat) : Nat → Prop := fun k => P k ∨ k = lg ∨ k = g4 ∨ k = g6
/-- put's own memory, and the disk, behind j writes -/
structure PuI (v1 : World) (gd lg g3 g4 g6 : Nat) (P : Nat → Prop) (lc : Int → List Value) (D : DkT) (at_ m : Nat) (r : Bs) (fl : Int) (an : Nat) (rs : Int) (P' : Nat → Prop) (D' : DkT) (W : World) : Prop where
  dk : DkIs W gd P' D'
  gr : Grew v1 P P'
  lb : Blk W lg (lc fl) 144
  b3 : Blk W g3 [.pointer (some ⟨lg, 0, none⟩)] 96
  b4 : Blk W g4 [.int .i64 (an : Int)] 3
  b6 : Blk W g6 [.int .i64 rs] 26
  mv : Mut (puR P lg g4 g6) v1 W
theorem PuI.own {v1 : World} {gd lg g3 g4 g6 : Nat} {P : Nat → Prop} {lc : Int → List Value} {D : DkT} {at_ m : Nat} {r : Bs} {fl : Int} {an : Nat} {rs : Int} {P' : Nat → Prop} {D' : DkT} {X Y : World} {row : Option Nat} (h : PuI v1 gd lg g3 g4 g6 P lc D at_ m r fl an rs P' D' X) (hg : X.grownBy Y row) (hr : ∀ x, row = some x → v1.heap.size ≤ x ∧ ∃ o : Obj, X.heap[x]? = some o ∧ o.isCells = false) : PuI v1 gd lg g3 g4 g6 P lc D at_ m r fl an rs P' D' Y :=
  ⟨h.dk.own14 hg (fun x e => (hr x e).2), h.gr, blk_own (β := Unit) lg (fun _ => lc fl) _ () X Y row h.lb hg (fun x e => (hr x e).2), blk_own (β := Unit) g3 (fun _ => [.pointer (some ⟨lg, 0, none⟩)]) _ () X Y row h.b3 hg (fun x e => (hr x e).2), blk_own (β := Unit) g4 (fun _ => [.int .i64 (an : Int)]) _ () X Y row h.b4 hg (fun x e => (hr x e).2), blk_own (β := Unit) g6 (fun _ => [.int .i64 rs]) _ () X Y row h.b6 hg (fun x e => (hr x e).2),
    ⟨hg.os.trans h.mv.os, hg.tape.trans h.mv.tape, hg.output.trans h.mv.output, Nat.le_trans h.mv.size hg.size, fun k hk hn => (hg.block k (Nat.lt_of_lt_of_le hk h.mv.size) (fun e => by have := (hr k e.symm).1; omega)).trans (h.mv.block k hk hn)⟩⟩
/-- the loop so far -/
def PuJ (v1 : World) (gd lg g3 g4 g6 : Nat) (P : Nat → Prop) (lc : Int → List Value) (D : DkT) (at_ m : Nat) (r : Bs) (pre : List (Fin m)) (W : World) : Prop :=
  ∃ P' D', PuI v1 gd lg g3 g4 g6 P lc D at_ m r 0 (at_ + pre.length) 0 P' D' W ∧ RunTo D (wsN at_ r (pre.map Fin.val)) D' ∧ D'.wait.length ≤ D.wait.length + pre.length
/-- the loop left by an error -/
def PuX (v1 : World) (gd lg g3 g4 g6 : Nat) (P : Nat → Prop) (lc : Int → List Value) (D : DkT) (at_ m : Nat) (r : Bs) (c : Code) (pre : List (Fin m)) (W : World) : Prop :=
  c = .ret ∧ ∃ P' D' an x, PuI v1 gd lg g3 g4 g6 P lc D at_ m r x an x P' D' W ∧ ∀ t, runJ D ((wsN at_ r (pre.map Fin.val)).map some ++ t) = (D', x)
theorem wpSeq_box1 {ops : Array Oper} {Q : Exit → Act → World → Prop} {rest : List Oper} {o : Oper} {a : Act} {w : World} (ty : TypeId) (x : Operand) (v : Value) (h1 : v.cells = #[v]) (ho : o.op = .box ty x) (hx : a.eval x = v) (hw : Region.wanted o (yielded ops a.tmps) = true)
    (h : ∀ g w', NewC v ty w g w' → wpList Tryz.prog ops Q rest (a.put o.dst (.pointer (some ⟨g, 0, none⟩))) w') : wpList Tryz.prog ops Q (o :: rest) a w :=
  wpSeq_val _ _ hw (box_any _ _ ty x v h1 ho hx w) (h _ _ (NewC.of v ty w))
theorem wpSeq_allocEr {ops : Array Oper} {Q : Exit → Act → World → Prop} {rest : List Oper} {o : Oper} {a : Act} {w : World} (ho : o.op = .alloc 26) (hw : Region.wanted o (yielded ops a.tmps) = true)
    (h : ∀ g w', NewC (.int .i64 0) 26 w g w' → wpList Tryz.prog ops Q rest (a.put o.dst (.pointer (some ⟨g, 0, none⟩))) w') : wpList Tryz.prog ops Q (o :: rest) a w :=
  wpSeq_val _ _ hw (by unfold execOp; rw [ho]; kernel_rfl) (h _ _ (NewC.of (.int .i64 0) 26 w))
theorem chunk_reads {W : World} {ad : Option Addr} {N c m : Nat} {r : Bs} (h : Reads W (.slice ad N c) r) (hr : r.length = 64 * m) {k : Nat} (hk : k < m) : Reads W (chV (.slice ad N c) k) ((r.drop (64 * k)).take 64) := by
  obtain ⟨_, _, hv, _, _, hps⟩ := id h
  simp only [Value.slice.injEq] at hv
  obtain ⟨b, off, h1, _⟩ := hps (by omega)
  rw [← hv.1] at h1
  subst h1
  exact h.cutJ (64 * k) 64 64 (by omega) (Nat.le_refl _)
set_option maxRecDepth 100000 in
set_option maxHeartbeats 8000000 in
theorem jPut_any {w : World} {gd lg : Nat} {P : Nat → Prop} {D : DkT} (hs k gen u at_ m : Nat) (vr v : Value) (r : Bs) (hdk : DkIs w gd P D) (hlb : Blk w lg (lgC gd hs 0 k gen vr u) 144) (hnp : ¬ P lg) (hrl : r.length = 64 * m) (hm : m ≤ 100) (ha : at_ ≤ 100) (hwt : D.wait.length + m ≤ 200) (hst : Sta (Un P (fun x => x = lg)) w (fun W => Reads W v r)) :
    Calls Tryz.prog 102 #[.pointer (some ⟨lg, 0, none⟩), .int .i64 (at_ : Int), v] w fun e w' => e = .returned (.int .i64 (runJ D ((secsOf at_ m r).map some ++ [none])).2) ∧ ∃ P', DkIs w' gd P' (runJ D ((secsOf at_ m r).map some ++ [none])).1 ∧ Blk w' lg (lgC gd hs (runJ D ((secsOf at_ m r).map some ++ [none])).2 k gen vr u) 144 ∧ Mut (Un P (fun x => x = lg)) w w' ∧ Grew w P P' := by
  obtain ⟨DX, xX, HX⟩ : ∃ D2 x, Hid (runJ D ((secsOf at_ m r).map some ++ [none]) = (D2, x)) := ⟨(runJ D ((secsOf at_ m r).map some ++ [none])).1, (runJ D ((secsOf at_ m r).map some ++ [none])).2, rfl⟩
  rw [HX.out]
  show Calls Tryz.prog 102 _ w fun e w' => e = .returned (.int .i64 xX) ∧ ∃ P', DkIs w' gd P' DX ∧ Blk w' lg (lgC gd hs xX k gen vr u) 144 ∧ Mut (Un P (fun x => x = lg)) w w' ∧ Grew w P P'
  obtain ⟨N, HN⟩ : ∃ N, Hid (N = r.length) := ⟨_, rfl⟩
  obtain ⟨ad, c, hv⟩ : ∃ a c, v = .slice a N c := by obtain ⟨a, c, hv, _⟩ := hst.now; rw [← HN.out] at hv; exact ⟨a, c, hv⟩
  subst hv
  obtain ⟨lc, HLC⟩ : ∃ lc : Int → List Value, Hid (∀ x, lc x = lgC gd hs x k gen vr u) := ⟨fun x => lgC gd hs x k gen vr u, fun _ => rfl⟩
  have HLB : Hid (Blk w lg (lc 0) 144) := by rw [HLC.out]; exact hlb
  have HDK : Hid (DkIs w gd P D) := hdk
  have HNP : Hid (¬ P lg) := hnp
  have HBD : Hid (r.length = 64 * m ∧ m ≤ 100 ∧ at_ ≤ 100 ∧ D.wait.length + m ≤ 200) := ⟨hrl, hm, ha, hwt⟩
  have HST : Hid (Sta (Un P (fun x => x = lg)) w (fun W => Reads W (.slice ad N c) r)) := hst
  have cF : ∀ W, Blk W lg (lc 0) 144 → W.cell? ⟨lg, 3, none⟩ = some (.int .i64 0) := fun W h => by rw [HLC.out] at h; exact h.cell 3
  have HCF : Hid (∀ W x, Blk W lg (lc x) 144 → W.cell? ⟨lg, 0, none⟩ = some (wrF gd) ∧ W.cell? ⟨lg, 1, none⟩ = some (syF gd) ∧ W.cell? ⟨lg, 3, none⟩ = some (.int .i64 x) ∧ W.frozen? ⟨lg, 3, none⟩ = false) := fun W x h => by rw [HLC.out] at h; exact ⟨h.cell 0, h.cell 1, h.cell 3, h.frozen 3⟩
  have HSF : Hid (∀ W x y, Blk W lg (lc x) 144 → Blk (W.setCell ⟨lg, 3, none⟩ (.int .i64 y)) lg (lc y) 144) := fun W x y h => by rw [HLC.out] at h ⊢; exact h.set 3 _
  clear cF
  clear hdk hlb hnp hrl hm ha hwt hst
  refine (callsIn_wide (n := 4)).1 ?_
  refine callsIn_of_wp_marks Tryz.func102 rfl trivial ?_ rfl
  simp only [Tryz.ntmps102, List.size_toArray, List.length_cons, List.length_nil, Nat.reduceAdd, Nat.reduceSub, Array.replicate_succ, Array.replicate_zero, List.push_toArray, List.append_toArray, List.nil_append, List.cons_append]
  refine wpIn_wide.2 ?_
  have tk0 : Hid True := trivial
  have tk1 : Hid True := trivial
  have tk2 : Hid True := trivial
  have tk3 : Hid True := trivial
  go_wp2_with (first
    | (clear tk0; with_reducible refine wpSeq_box1 96 (.tmp 0) (.pointer (some ⟨lg, 0, none⟩)) rfl ?_ ?_ ?_ ?_
       · rfl
       · rfl
       · rfl
       intro g3 y1 nn
       have HN1 : Hid (NewC (.pointer (some ⟨lg, 0, none⟩)) 96 w g3 y1) := nn
       clear nn)
    | (clear tk1; with_reducible refine wpSeq_box1 3 (.tmp 1) (.int .i64 (at_ : Int)) rfl ?_ ?_ ?_ ?_
       · rfl
       · rfl
       · rfl
       intro g4 y2 nn
       have HN2 : Hid (NewC (.int .i64 (at_ : Int)) 3 y1 g4 y2) := nn
       clear nn)
    | (clear tk2; with_reducible refine wpSeq_allocEr ?_ ?_ ?_
       · rfl
       · rfl
       intro g6 y3 nn
       have hb3 : Below w.heap.size w y3 := HN1.out.below.trans ((HN2.out.below.mono HN1.out.below.size).trans (nn.below.mono (Nat.le_trans HN1.out.below.size HN2.out.below.size)))
       have h3 : Blk y2 g3 [.pointer (some ⟨lg, 0, none⟩)] 96 := HN1.out.blk.below HN2.out.below HN1.out.blk.lt
       have HB3 : Hid (Blk y3 g3 [.pointer (some ⟨lg, 0, none⟩)] 96) := h3.below nn.below h3.lt
       have HB4 : Hid (Blk y3 g4 [.int .i64 (at_ : Int)] 3) := HN2.out.blk.below nn.below HN2.out.blk.lt
       have HB6 : Hid (Blk y3 g6 [.int .i64 0] 26) := nn.blk
       have HGE : Hid (w.heap.size ≤ g3 ∧ w.heap.size ≤ g4 ∧ w.heap.size ≤ g6) := ⟨HN1.out.ge, Nat.le_trans HN1.out.below.size HN2.out.ge, Nat.le_trans (Nat.le_trans HN1.out.below.size HN2.out.below.size) nn.ge⟩
       have HBW : Hid (Below w.heap.size w y3) := hb3
       have HL3 : Hid (Blk y3 lg (lc 0) 144) := HLB.out.below hb3 HLB.out.lt
       have c3 : y3.cell? ⟨g3, 0, none⟩ = some (.pointer (some ⟨lg, 0, none⟩)) := HB3.out.cell 0
       have cF : y3.cell? ⟨lg, 3, none⟩ = some (.int .i64 0) := (HCF.out y3 0 HL3.out).2.2.1
       clear nn hb3 h3 HN1 HN2)
    | (clear tk3; go_at_call 128; refine (chunk_any ad N c _).mono ?_; rintro e0 v1 ⟨gs, gn, rfl, hs1, hs2, hg1, hg2, hz⟩
       have hl4 : g4 < y3.heap.size := HB4.out.lt
       replace HB3 : Hid (Blk v1 g3 [.pointer (some ⟨lg, 0, none⟩)] 96) := HB3.out.below hz HB3.out.lt
       replace HB4 : Hid (Blk v1 g4 [.int .i64 (at_ : Int)] 3) := HB4.out.below hz HB4.out.lt
       replace HB6 : Hid (Blk v1 g6 [.int .i64 0] 26) := HB6.out.below hz HB6.out.lt
       replace HL3 : Hid (Blk v1 lg (lc 0) 144) := HL3.out.below hz HL3.out.lt
       have HS1 : Hid (Blk v1 gs [.slice ad N c] 23 ∧ Blk v1 gn [.int .i64 64] 3 ∧ g4 ≠ gs ∧ g4 ≠ gn ∧ g6 ≠ gs ∧ g6 ≠ gn ∧ w.heap.size ≤ gs ∧ w.heap.size ≤ gn) := ⟨hs1, hs2, HB4.out.neT hs1 (by decide), by omega, HB6.out.neT hs1 (by decide), HB6.out.neT hs2 (by decide), Nat.le_trans HBW.out.size hg1, Nat.le_trans HBW.out.size hg2⟩
       replace HBW : Hid (Below w.heap.size w v1) := HBW.out.trans (hz.mono HBW.out.size)
       clear hz hs1 hs2 hg1 hg2 c3 cF hl4))
  have HLT : Hid (∀ k, P k → k < w.heap.size) := HDK.out.lt14
  have HLG : Hid (lg < w.heap.size) := HLB.out.lt
  have HNQ : Hid (∀ P0, Grew v1 P P0 → ¬ P0 lg ∧ ¬ P0 g3 ∧ ¬ P0 g4 ∧ ¬ P0 g6) := fun P0 hg => by
    have hs := HBW.out.size
    have hge := HGE.out
    have l3 := HB3.out.lt
    have l4 := HB4.out.lt
    have l6 := HB6.out.lt
    have hl := HLG.out
    refine ⟨fun h => ?_, fun h => ?_, fun h => ?_, fun h => ?_⟩
    · rcases hg _ h with h | h
      · exact HNP.out h
      · omega
    · rcases hg _ h with h | h
      · have := HLT.out _ h; omega
      · omega
    · rcases hg _ h with h | h
      · have := HLT.out _ h; omega
      · omega
    · rcases hg _ h with h | h
      · have := HLT.out _ h; omega
      · omega
  have HRM : Hid (∀ W, Mut (puR P lg g4 g6) v1 W → Mut (Un P (fun x => x = lg)) w W) := fun W h => ⟨h.os.trans HBW.out.os, h.tape.trans HBW.out.tape, h.output.trans HBW.out.output, Nat.le_trans HBW.out.size h.size, fun k hk hn => (h.block k (Nat.lt_of_lt_of_le hk HBW.out.size) (fun hr => by
    have hge := HGE.out
    rcases hr with hr | hr | hr | hr
    · exact hn (Or.inl hr)
    · exact hn (Or.inr hr)
    · omega
    · omega)).trans (HBW.out.block k hk)⟩
  have HTX : Hid (∀ W, Mut (puR P lg g4 g6) v1 W → Reads W (.slice ad N c) r) := fun W h => HST.out W (HRM.out W h)
  have HV0 : Hid (PuI v1 gd lg g3 g4 g6 P lc D at_ m r 0 at_ 0 P D v1) := ⟨HDK.out.same14 (fun k hk => HBW.out.block k (HLT.out k hk)), Grew.refl _ _, HL3.out, HB3.out, HB4.out, HB6.out, Mut.refl _ _⟩
  have HNS : Hid (¬ puR P lg g4 g6 gs ∧ ¬ puR P lg g4 g6 gn) := by
    have h1 := HS1.out
    have h2 := HLG.out
    refine ⟨fun h => ?_, fun h => ?_⟩
    · rcases h with h | h | h | h
      · have := HLT.out _ h; omega
      · omega
      · exact h1.2.2.1 h.symm
      · exact h1.2.2.2.2.1 h.symm
    · rcases h with h | h | h | h
      · have := HLT.out _ h; omega
      · omega
      · exact h1.2.2.2.1 h.symm
      · exact h1.2.2.2.2.2.1 h.symm
  refine (wpIn_wide (n := 4)).1 ?_
  refine wpIn_rangeFunc_ownF (F := Fence.wide) (α := Fin m) rfl (by omega) (gf := 149) (lb := #[.pointer (some ⟨gs, 0, none⟩), .pointer (some ⟨gn, 0, none⟩)]) rfl trivial (enters_of Tryz.func149 (by kernel_rfl) rfl)
    (chunk_stops 3 (n₀ := v1.heap.size) (R := puR P lg g4 g6) (ad := ad) (N := N) (c := c) (m := m) (HN.out.trans HBD.out.1) (Nat.le_trans HBD.out.2.1 (by decide)) v1 (Nat.le_refl _) (fun W h => ⟨r, HN.out.symm, HTX.out W h.mut⟩) HS1.out.1 HS1.out.2.1 ⟨HS1.out.1.lt, HNS.out.1⟩ ⟨HS1.out.2.1.lt, HNS.out.2⟩)
    KpJ.trans (fun W l o o' h1 h2 h3 h4 => KpJ.put (w := v1) (Nat.le_refl _) W l o o' h1 h2 h3 h4) (Below.refl _ _) (fun _ => rfl)
    (PuJ v1 gd lg g3 g4 g6 P lc D at_ m r) (PuX v1 gd lg g3 g4 g6 P lc D at_ m r)
    (fun s X Y row hs hg hr => by
      obtain ⟨P', D', h1, h2⟩ := hs
      exact ⟨P', D', h1.own hg hr, h2⟩)
    (fun c s X Y row hs hg hr => by
      obtain ⟨e, P', D', an, x, h1, h2⟩ := hs
      exact ⟨e, P', D', an, x, h1.own hg hr, h2⟩)
    ⟨P, D, HV0.out, RunTo.zero D, Nat.le_refl _⟩
    (fun z => { tmps := #[.pointer (some ⟨lg, 0, none⟩), .int .i64 (at_ : Int), .slice ad N c, .pointer (some ⟨g3, 0, none⟩), .pointer (some ⟨g4, 0, none⟩), undef, .pointer (some ⟨g6, 0, none⟩), chV (.slice ad N c) z.val, .pointer (some ⟨lg, 0, none⟩), .pointer (some ⟨lg, 0, none⟩), .pointer (some ⟨lg, 3, none⟩), .int .i64 0, .bool false, undef, undef, undef, undef, .slice ad N c, .func (.func 149) #[] #[.pointer (some ⟨gs, 0, none⟩), .pointer (some ⟨gn, 0, none⟩)], chV (.slice ad N c) z.val, undef, undef, undef, undef, undef, undef, undef, undef, undef, undef, undef, undef, undef, undef, undef, undef, undef, undef, undef, undef, undef, undef, undef, undef, undef, undef, undef, undef, undef, undef, undef, undef, undef], defers := [] }) ?assign ?body ?done ?stop
  case assign =>
    intro l z W K hK
    gi_wp2
    exact hK
  case body =>
    rintro lab pre z W ⟨P', D', hi, hrun, hwt⟩ hlen
    obtain ⟨an, HAN⟩ : ∃ an, Hid (an = at_ + pre.length) := ⟨_, rfl⟩
    obtain ⟨b, HB⟩ : ∃ b, Hid (b = (r.drop (64 * z.val)).take 64) := ⟨_, rfl⟩
    obtain ⟨x, HXX⟩ : ∃ x, Hid (x = putX13 D' (an : Int) b) := ⟨_, rfl⟩
    rw [← HAN.out] at hi
    have HI : Hid (PuI v1 gd lg g3 g4 g6 P lc D at_ m r 0 an 0 P' D' W) := hi
    have HRN : Hid (RunTo D (wsN at_ r (pre.map Fin.val)) D') := hrun
    have HWT : Hid (D'.wait.length ≤ D.wait.length + pre.length ∧ pre.length < m) := ⟨hwt, hlen⟩
    have HPU : Hid (∀ k, k < v1.heap.size → P' k → puR P lg g4 g6 k) := fun k hk h => (hi.gr k h).elim Or.inl (fun h2 => absurd h2 (by omega))
    have HCH : Hid (Sta P' W.drew (fun Y => Reads Y (chV (.slice ad N c) z.val) b)) := fun Y hY => by
      rw [HB.out]
      exact chunk_reads (HTX.out Y ((hi.mv.drew).trans HPU.out hY)) HBD.out.1 z.isLt
    have HWC : Hid (Calls Tryz.prog 89 #[.pointer (some ⟨gd, 0, none⟩), .int .i64 (an : Int), chV (.slice ad N c) z.val] W.drew fun e w' => ∃ P2, e = .returned (.int .i64 x) ∧ DkIs w' gd P2 (putD13 D' (an : Int) b) ∧ Mut P' W.drew w' ∧ Grew W.drew P' P2) := by
      rw [HXX.out]
      exact dkWrite_any (an : Int) _ b (hi.dk.same14 (w' := W.drew) (fun _ _ => rfl)) (by have h1 := HBD.out.2.2.2; omega) HCH.out
    clear hi hrun hwt hlen
    gi_wp2_with fail
    refine wpIn_round_held (S := fun wx => Blk wx g3 [.pointer (some ⟨lg, 0, none⟩)] 96 ∧ Blk wx g4 [.int .i64 (an : Int)] 3 ∧ wx.cell? ⟨lg, 0, none⟩ = some (wrF gd)) (by kernel_rfl) (by kernel_rfl) (by rintro ⟨_, _, h⟩; exact h) ⟨HI.out.b3.drew, HI.out.b4.drew, (HCF.out W 0 HI.out.lb).1⟩ ?_
    intro hS
    refine wpAnyH_take (i := 0) (v := .pointer (some ⟨lg, 0, none⟩)) rfl (by kernel_rfl) (by kernel_rfl) (by kernel_rfl) (fun _ _ _ h => h) (Or.inl ⟨by rfl, fun wx hx => by (have c0 : wx.cell? ⟨g3, 0, none⟩ = some (.pointer (some ⟨lg, 0, none⟩)) := hx.1.cell 0; simp [go_sem, c0])⟩) hS ?_
    simp only [Act.put, List.getElem_toArray, List.getElem_cons_zero, List.setIfInBounds_toArray, List.set_cons_zero, List.set_cons_succ]
    refine wpAnyH_take (i := 1) (v := .pointer (some ⟨lg, 0, none⟩)) rfl (by kernel_rfl) (by kernel_rfl) (by kernel_rfl) (fun _ _ _ h => h) (Or.inl ⟨by rfl, fun wx hx => by (have c0 : wx.cell? ⟨g3, 0, none⟩ = some (.pointer (some ⟨lg, 0, none⟩)) := hx.1.cell 0; simp [go_sem, c0])⟩) hS ?_
    simp only [Act.put, List.getElem_toArray, List.getElem_cons_succ, List.getElem_cons_zero, List.setIfInBounds_toArray, List.set_cons_zero, List.set_cons_succ]
    refine wpAnyH_take (i := 2) (v := .pointer (some ⟨lg, 0, none⟩)) rfl (by kernel_rfl) (by kernel_rfl) (by kernel_rfl) (fun _ _ _ h => h) (Or.inl ⟨by rfl, fun wx hx => by simp [go_sem]⟩) hS ?_
    simp only [Act.put, List.getElem_toArray, List.getElem_cons_succ, List.getElem_cons_zero, List.setIfInBounds_toArray, List.set_cons_zero, List.set_cons_succ]
    refine wpAnyH_take (i := 3) (v := .pointer (some ⟨lg, 0, none⟩)) rfl (by kernel_rfl) (by kernel_rfl) (by kernel_rfl) (fun _ _ _ h => h) (Or.inl ⟨by rfl, fun wx hx => by simp [go_sem]⟩) hS ?_
    simp only [Act.put, List.getElem_toArray, List.getElem_cons_succ, List.getElem_cons_zero, List.setIfInBounds_toArray, List.set_cons_zero, List.set_cons_succ]
    refine wpAnyH_take (i := 4) (v := wrF gd) rfl (by kernel_rfl) (by kernel_rfl) (by kernel_rfl) (fun _ _ _ h => h) (Or.inl ⟨by rfl, fun wx hx => by simp [go_sem, hx.2.2]⟩) hS ?_
    simp only [Act.put, List.getElem_toArray, List.getElem_cons_succ, List.getElem_cons_zero, List.setIfInBounds_toArray, List.set_cons_zero, List.set_cons_succ]
    refine wpAnyH_take (i := 5) (v := .int .i64 (an : Int)) rfl (by kernel_rfl) (by kernel_rfl) (by kernel_rfl) (fun _ _ _ h => h) (Or.inl ⟨by rfl, fun wx hx => by (have c0 : wx.cell? ⟨g4, 0, none⟩ = some (.int .i64 (an : Int)) := hx.2.1.cell 0; simp [go_sem, c0])⟩) hS ?_
    simp only [Act.put, List.getElem_toArray, List.getElem_cons_succ, List.getElem_cons_zero, List.setIfInBounds_toArray, List.set_cons_zero, List.set_cons_succ]
    refine wpAnyH_take (i := 6) (v := chV (.slice ad N c) z.val) rfl (by kernel_rfl) (by kernel_rfl) (by kernel_rfl) (fun _ _ _ h => h) (Or.inl ⟨by rfl, fun wx hx => by simp [go_sem]⟩) hS ?_
    simp only [Act.put, List.getElem_toArray, List.getElem_cons_succ, List.getElem_cons_zero, List.setIfInBounds_toArray, List.set_cons_zero, List.set_cons_succ]
    refine wpAnyH_enter 7 (by kernel_rfl) rfl (by rfl) (f := 89) (args := #[.pointer (some ⟨gd, 0, none⟩), .int .i64 (an : Int), chV (.slice ad N c) z.val]) (by simp [go_sem, wrF]) HWC.out ?_
    rintro e0 W2 ⟨P2, rfl, hd2, hm2, hg2⟩
    have hgr2 : Grew v1 P P2 := HI.out.gr.trans HI.out.mv.size hg2
    obtain ⟨n1, n3, n4, n6⟩ := HNQ.out P' HI.out.gr
    have HL2 : Hid (Blk W2 lg (lc 0) 144) := hm2.blk HI.out.lb.drew n1
    have HB32 : Hid (Blk W2 g3 [.pointer (some ⟨lg, 0, none⟩)] 96) := hm2.blk HI.out.b3.drew n3
    have HB42 : Hid (Blk W2 g4 [.int .i64 (an : Int)] 3) := hm2.blk HI.out.b4.drew n4
    have HB62 : Hid (Blk W2 g6 [.int .i64 0] 26) := hm2.blk HI.out.b6.drew n6
    obtain ⟨f1, f2, f3, f4⟩ := HCF.out W2 0 HL2.out
    replace hS : Blk W2 g3 [.pointer (some ⟨lg, 0, none⟩)] 96 ∧ Blk W2 g4 [.int .i64 (an : Int)] 3 ∧ W2.cell? ⟨lg, 0, none⟩ = some (wrF gd) := ⟨HB32.out, HB42.out, f1⟩
    refine ⟨_, rfl, hS, ?_⟩
    simp only [Act.put, List.getElem_toArray, List.getElem_cons_succ, List.getElem_cons_zero, List.setIfInBounds_toArray, List.set_cons_zero, List.set_cons_succ]
    refine wpAnyH_take (i := 8) (v := .pointer (some ⟨lg, 0, none⟩)) rfl (by kernel_rfl) (by kernel_rfl) (by kernel_rfl) (fun _ _ _ h => h) (Or.inl ⟨by rfl, fun wx hx => by simp [go_sem]⟩) hS ?_
    simp only [Act.put, List.getElem_toArray, List.getElem_cons_succ, List.getElem_cons_zero, List.setIfInBounds_toArray, List.set_cons_zero, List.set_cons_succ]
    refine wpAnyH_take (i := 9) (v := .pointer (some ⟨lg, 3, none⟩)) rfl (by kernel_rfl) (by kernel_rfl) (by kernel_rfl) (fun _ _ _ h => h) (Or.inl ⟨by rfl, fun wx hx => by simp [go_sem]⟩) hS ?_
    simp only [Act.put, List.getElem_toArray, List.getElem_cons_succ, List.getElem_cons_zero, List.setIfInBounds_toArray, List.set_cons_zero, List.set_cons_succ]
    obtain ⟨W3, HW3⟩ : ∃ y, Hid (y = W2.setCell ⟨lg, 3, none⟩ (.int .i64 x)) := ⟨_, rfl⟩
    have ho3 : Only lg W2 W3 := by rw [HW3.out]; exact Only.setCell (Only.refl _ _) _ _
    have hl3 : Blk W3 lg (lc x) 144 := by rw [HW3.out]; exact HSF.out W2 0 x HL2.out
    have hne3 : g3 ≠ lg := by have h1 := HGE.out; have h2 := HLG.out; omega
    have hne4 : g4 ≠ lg := by have h1 := HGE.out; have h2 := HLG.out; omega
    have hne6 : g6 ≠ lg := by have h1 := HGE.out; have h2 := HLG.out; omega
    replace hS : Blk W3 g3 [.pointer (some ⟨lg, 0, none⟩)] 96 ∧ Blk W3 g4 [.int .i64 (an : Int)] 3 ∧ W3.cell? ⟨lg, 0, none⟩ = some (wrF gd) := ⟨HB32.out.only ho3 hne3, HB42.out.only ho3 hne4, (HCF.out W3 x hl3).1⟩
    refine wpAnyH_skip 10 W3 (by kernel_rfl) rfl (by rfl) (by rw [HW3.out]; simp [go_sem, f3, f4]) hS ?_
    simp only [Act.put]
    refine wpAnyH_done (by kernel_rfl) ?_ _
    obtain ⟨m1, m3, m4, m6⟩ := HNQ.out P2 hgr2
    have HD3 : Hid (DkIs W3 gd P2 (putD13 D' (an : Int) b)) := hd2.same14 (fun k hk => ho3.block k (fun e => m1 (e ▸ hk)) (hd2.lt14 k hk))
    have HM3 : Hid (Mut (puR P' lg g4 g6) W W3) := ((mut_drew (puR P' lg g4 g6) W).trans (fun _ _ h => h) ((Mut.refl (puR P' lg g4 g6) W.drew).trans (fun _ _ h => Or.inl h) hm2)).trans (fun _ _ h => h) (ho3.mut (Or.inr (Or.inl rfl)))
    have HL3x : Hid (Blk W3 lg (lc x) 144) := hl3
    have HB33 : Hid (Blk W3 g3 [.pointer (some ⟨lg, 0, none⟩)] 96) := hS.1
    have HB43 : Hid (Blk W3 g4 [.int .i64 (an : Int)] 3) := hS.2.1
    have HB63 : Hid (Blk W3 g6 [.int .i64 0] 26) := HB62.out.only ho3 hne6
    have HG3 : Hid (Grew v1 P P2) := hgr2
    have HKC : Hid (∀ k, puR P' lg g4 g6 k → ∃ cs t, W.heap[k]? = some (.cells cs t (0, 0))) := fun k hk => by
      rcases hk with hk | rfl | rfl | rfl
      · exact HI.out.dk.cells k hk
      · exact ⟨_, _, HI.out.lb⟩
      · exact ⟨_, _, HI.out.b4⟩
      · exact ⟨_, _, HI.out.b6⟩
    have HPQ : Hid (∀ k, k < v1.heap.size → puR P' lg g4 g6 k → puR P lg g4 g6 k) := fun k hk h => by
      rcases h with h | h
      · exact HPU.out k hk h
      · exact Or.inr h
    have c3 : W3.cell? ⟨g3, 0, none⟩ = some (.pointer (some ⟨lg, 0, none⟩)) := hS.1.cell 0
    have c4 : W3.cell? ⟨g4, 0, none⟩ = some (.int .i64 (an : Int)) := hS.2.1.cell 0
    have d4 : W3.frozen? ⟨g4, 0, none⟩ = false := hS.2.1.frozen 0
    have c6 : W3.cell? ⟨g6, 0, none⟩ = some (.int .i64 0) := HB63.out.cell 0
    have d6 : W3.frozen? ⟨g6, 0, none⟩ = false := HB63.out.frozen 0
    have cF : W3.cell? ⟨lg, 3, none⟩ = some (.int .i64 x) := (HCF.out W3 x hl3).2.2.1
    have fan : IntKind.i64.wrap ((an : Int) + 1) = ((an + 1 : Nat) : Int) := by rw [IntKind.wrap_i64]; have h1 := HAN.out; have h2 := HBD.out; have h3 := HWT.out; omega
    have HLEN : Hid (an + 1 = at_ + (pre ++ [z]).length) := by show _ = _; rw [HAN.out, List.length_append]; rfl
    clear hS hl3 hne3 hne4 hne6 ho3 m1 m3 m4 m6 n1 n3 n4 n6 hd2 hm2 hg2 hgr2 f1 f2 f3 f4 HW3 HWC HCH
    have n34 : g3 ≠ g4 := HB33.out.neT HB43.out (by decide)
    have n64 : g6 ≠ g4 := HB63.out.neT HB43.out (by decide)
    have nl4 : lg ≠ g4 := HL3x.out.neT HB43.out (by decide)
    have n36 : g3 ≠ g6 := HB33.out.neT HB63.out (by decide)
    have nl6 : lg ≠ g6 := HL3x.out.neT HB63.out (by decide)
    have HWS : Hid (wsN at_ r ((pre ++ [z]).map Fin.val) = wsN at_ r (pre.map Fin.val) ++ [(an, b)]) := by
      show _ = _
      rw [List.map_append, List.map_cons, List.map_nil, wsN_snoc, List.length_map, HAN.out, HB.out]
    have HNE : Hid (g3 ≠ g4 ∧ g6 ≠ g4 ∧ lg ≠ g4 ∧ g3 ≠ g6 ∧ lg ≠ g6) := ⟨n34, n64, nl4, n36, nl6⟩
    clear n34 n64 nl4 n36 nl6
    by_cases hx0 : x = 0
    case pos =>
      subst hx0
      gi_wp2
      obtain ⟨W4, HW4⟩ : ∃ y, Hid (y = W3.setCell ⟨g4, 0, none⟩ (.int .i64 ((an : Int) + 1))) := ⟨_, rfl⟩
      have ho4 : Only g4 W3 W4 := by rw [HW4.out]; exact Only.setCell (Only.refl _ _) _ _
      have hb4 : Blk W4 g4 [.int .i64 ((at_ + (pre ++ [z]).length : Nat) : Int)] 3 := by rw [HW4.out, ← HLEN.out]; exact HB43.out.set 0 _
      rw [← HW4.out]
      have HM4 : Mut (puR P' lg g4 g6) W W4 := HM3.out.trans (fun _ _ h => h) (ho4.mut (Or.inr (Or.inr (Or.inl rfl))))
      obtain ⟨m1, m3, m4, m6⟩ := HNQ.out P2 HG3.out
      refine ⟨keeps_mut HM4 HKC.out, ⟨HM4.os, HM4.tape, HM4.output, HM4.size, fun k hk hn => HM4.block k (Nat.lt_of_lt_of_le hk HI.out.mv.size) (fun h => hn (HPQ.out k hk h))⟩, P2, putD13 D' (an : Int) b, ⟨HD3.out.same14 (fun k hk => ho4.block k (fun e => m4 (e ▸ hk)) (HD3.out.lt14 k hk)), HG3.out, HL3x.out.only ho4 HNE.out.2.2.1, HB33.out.only ho4 HNE.out.1, hb4, HB63.out.only ho4 HNE.out.2.1, HI.out.mv.trans HPQ.out HM4⟩, ?_, ?_⟩
      · rw [HWS.out]
        exact HRN.out.next (p := (an, b)) HXX.out.symm
      · have h1 := put_wait D' (an : Int) b
        have h2 := HWT.out.1
        rw [List.length_append]
        show _ ≤ D.wait.length + (pre.length + 1)
        omega
    case neg =>
      have q1 : (x != 0) = true := by rw [bne_iff_ne]; exact hx0
      gi_wp2
      obtain ⟨W4, HW4⟩ : ∃ y, Hid (y = W3.setCell ⟨g6, 0, none⟩ (.int .i64 x)) := ⟨_, rfl⟩
      have ho4 : Only g6 W3 W4 := by rw [HW4.out]; exact Only.setCell (Only.refl _ _) _ _
      have hb6 : Blk W4 g6 [.int .i64 x] 26 := by rw [HW4.out]; exact HB63.out.set 0 _
      rw [← HW4.out]
      have HM4 : Mut (puR P' lg g4 g6) W W4 := HM3.out.trans (fun _ _ h => h) (ho4.mut (Or.inr (Or.inr (Or.inr rfl))))
      obtain ⟨m1, m3, m4, m6⟩ := HNQ.out P2 HG3.out
      refine ⟨keeps_mut HM4 HKC.out, rfl, P2, putD13 D' (an : Int) b, an, x, ⟨HD3.out.same14 (fun k hk => ho4.block k (fun e => m6 (e ▸ hk)) (HD3.out.lt14 k hk)), HG3.out, HL3x.out.only ho4 HNE.out.2.2.2.2, HB33.out.only ho4 HNE.out.2.2.2.1, HB43.out.only ho4 (Ne.symm HNE.out.2.1), hb6, HI.out.mv.trans HPQ.out HM4⟩, fun t => ?_⟩
      rw [HWS.out, HXX.out]
      exact HRN.out.stop (p := (an, b)) (by rw [← HXX.out]; exact hx0) t
  case done =>
    rintro Dd xs W hD hxs ⟨P', D', hi, hrun, hwt⟩ hK
    subst hxs
    rw [frs_val m m (Nat.le_refl _), wsN_range at_ m r m (Nat.le_refl _), List.take_of_length_le (by rw [secs_len]; exact Nat.le_refl _)] at hrun
    rw [frs_len m m (Nat.le_refl _)] at hwt hi
    have HXE : Hid (DX = syncD13 D' ∧ xX = syncX13 D') := by
      have h := HX.out
      rw [hrun, runJ] at h
      by_cases h0 : syncX13 D' = 0
      · rw [if_pos h0, runJ] at h
        exact ⟨(congrArg Prod.fst h).symm, by rw [h0]; exact (congrArg Prod.snd h).symm⟩
      · rw [if_neg h0] at h
        exact ⟨(congrArg Prod.fst h).symm, (congrArg Prod.snd h).symm⟩
    have HI : Hid (PuI v1 gd lg g3 g4 g6 P lc D at_ m r 0 (at_ + m) 0 P' D' W) := hi
    have HSC : Hid (Calls Tryz.prog 90 #[.pointer (some ⟨gd, 0, none⟩)] W.drew fun e w' => ∃ P2, e = .returned (.int .i64 xX) ∧ DkIs w' gd P2 DX ∧ Mut P' W.drew w' ∧ Grew W.drew P' P2) := by
      rw [HXE.out.1, HXE.out.2]
      exact dkSync_any (hi.dk.same14 (w' := W.drew) (fun _ _ => rfl)) (by have h1 := HBD.out.2.2.2; omega)
    have HPQ : Hid (∀ k, k < v1.heap.size → puR P' lg g4 g6 k → puR P lg g4 g6 k) := fun k hk h => by
      rcases h with h | h
      · exact (hi.gr k h).elim Or.inl (fun h2 => absurd h2 (by omega))
      · exact Or.inr h
    have HKD : Hid (W.heap[Dd]? = some (.deferred (some []))) := hK
    have HKG : Hid (v1.heap.size ≤ Dd) := hD
    clear hi hrun hwt hK hD
    gi_wp2_with fail
    go_wp2_with fail
    refine wp_normal ?_
    refine wp_region_held_drew (S := fun wx => Blk wx g3 [.pointer (some ⟨lg, 0, none⟩)] 96 ∧ wx.cell? ⟨lg, 1, none⟩ = some (syF gd)) (by kernel_rfl) ⟨HI.out.b3.drew, (HCF.out W 0 HI.out.lb).2.1⟩ ?_
    intro hS
    refine wpAnyH_take (i := 0) (v := .pointer (some ⟨lg, 0, none⟩)) rfl (by kernel_rfl) (by kernel_rfl) (by kernel_rfl) (fun _ _ _ h => h) (Or.inl ⟨by rfl, fun wx hx => by (have c0 : wx.cell? ⟨g3, 0, none⟩ = some (.pointer (some ⟨lg, 0, none⟩)) := hx.1.cell 0; simp [go_sem, c0])⟩) hS ?_
    simp only [Act.put, List.getElem_toArray, List.getElem_cons_zero, List.setIfInBounds_toArray, List.set_cons_zero, List.set_cons_succ]
    refine wpAnyH_take (i := 1) (v := .pointer (some ⟨lg, 0, none⟩)) rfl (by kernel_rfl) (by kernel_rfl) (by kernel_rfl) (fun _ _ _ h => h) (Or.inl ⟨by rfl, fun wx hx => by (have c0 : wx.cell? ⟨g3, 0, none⟩ = some (.pointer (some ⟨lg, 0, none⟩)) := hx.1.cell 0; simp [go_sem, c0])⟩) hS ?_
    simp only [Act.put, List.getElem_toArray, List.getElem_cons_succ, List.getElem_cons_zero, List.setIfInBounds_toArray, List.set_cons_zero, List.set_cons_succ]
    refine wpAnyH_take (i := 2) (v := .pointer (some ⟨lg, 0, none⟩)) rfl (by kernel_rfl) (by kernel_rfl) (by kernel_rfl) (fun _ _ _ h => h) (Or.inl ⟨by rfl, fun wx hx => by simp [go_sem]⟩) hS ?_
    simp only [Act.put, List.getElem_toArray, List.getElem_cons_succ, List.getElem_cons_zero, List.setIfInBounds_toArray, List.set_cons_zero, List.set_cons_succ]
    refine wpAnyH_take (i := 3) (v := .pointer (some ⟨lg, 1, none⟩)) rfl (by kernel_rfl) (by kernel_rfl) (by kernel_rfl) (fun _ _ _ h => h) (Or.inl ⟨by rfl, fun wx hx => by simp [go_sem]⟩) hS ?_
    simp only [Act.put, List.getElem_toArray, List.getElem_cons_succ, List.getElem_cons_zero, List.setIfInBounds_toArray, List.set_cons_zero, List.set_cons_succ]
    refine wpAnyH_take (i := 4) (v := syF gd) rfl (by kernel_rfl) (by kernel_rfl) (by kernel_rfl) (fun _ _ _ h => h) (Or.inl ⟨by rfl, fun wx hx => by simp [go_sem, hx.2]⟩) hS ?_
    simp only [Act.put, List.getElem_toArray, List.getElem_cons_succ, List.getElem_cons_zero, List.setIfInBounds_toArray, List.set_cons_zero, List.set_cons_succ]
    refine wpAnyH_enter 5 (by kernel_rfl) rfl (by rfl) (f := 90) (args := #[.pointer (some ⟨gd, 0, none⟩)]) (by simp [go_sem, syF]) HSC.out ?_
    rintro e0 W2 ⟨P2, rfl, hd2, hm2, hg2⟩
    have hgr2 : Grew v1 P P2 := HI.out.gr.trans HI.out.mv.size hg2
    obtain ⟨n1, n3, n4, n6⟩ := HNQ.out P' HI.out.gr
    have HL2 : Hid (Blk W2 lg (lc 0) 144) := hm2.blk HI.out.lb.drew n1
    have HB32 : Hid (Blk W2 g3 [.pointer (some ⟨lg, 0, none⟩)] 96) := hm2.blk HI.out.b3.drew n3
    have HB62 : Hid (Blk W2 g6 [.int .i64 0] 26) := hm2.blk HI.out.b6.drew n6
    have HK2 : Hid (W2.heap[Dd]? = some (.deferred (some []))) := (keeps_mut hm2 (fun k hk => HI.out.dk.cells k hk)).same Dd _ HKD.out rfl
    obtain ⟨f1, f2, f3, f4⟩ := HCF.out W2 0 HL2.out
    replace hS : Blk W2 g3 [.pointer (some ⟨lg, 0, none⟩)] 96 ∧ W2.cell? ⟨lg, 1, none⟩ = some (syF gd) := ⟨HB32.out, f2⟩
    refine ⟨_, rfl, hS, ?_⟩
    simp only [Act.put, List.getElem_toArray, List.getElem_cons_succ, List.getElem_cons_zero, List.setIfInBounds_toArray, List.set_cons_zero, List.set_cons_succ]
    refine wpAnyH_take (i := 6) (v := .pointer (some ⟨lg, 0, none⟩)) rfl (by kernel_rfl) (by kernel_rfl) (by kernel_rfl) (fun _ _ _ h => h) (Or.inl ⟨by rfl, fun wx hx => by simp [go_sem]⟩) hS ?_
    simp only [Act.put, List.getElem_toArray, List.getElem_cons_succ, List.getElem_cons_zero, List.setIfInBounds_toArray, List.set_cons_zero, List.set_cons_succ]
    refine wpAnyH_take (i := 7) (v := .pointer (some ⟨lg, 3, none⟩)) rfl (by kernel_rfl) (by kernel_rfl) (by kernel_rfl) (fun _ _ _ h => h) (Or.inl ⟨by rfl, fun wx hx => by simp [go_sem]⟩) hS ?_
    simp only [Act.put, List.getElem_toArray, List.getElem_cons_succ, List.getElem_cons_zero, List.setIfInBounds_toArray, List.set_cons_zero, List.set_cons_succ]
    obtain ⟨W3, HW3⟩ : ∃ y, Hid (y = W2.setCell ⟨lg, 3, none⟩ (.int .i64 xX)) := ⟨_, rfl⟩
    have ho3 : Only lg W2 W3 := by rw [HW3.out]; exact Only.setCell (Only.refl _ _) _ _
    have hl3 : Blk W3 lg (lc xX) 144 := by rw [HW3.out]; exact HSF.out W2 0 xX HL2.out
    have hne3 : g3 ≠ lg := by have h1 := HGE.out; have h2 := HLG.out; omega
    have hne6 : g6 ≠ lg := by have h1 := HGE.out; have h2 := HLG.out; omega
    replace hS : Blk W3 g3 [.pointer (some ⟨lg, 0, none⟩)] 96 ∧ W3.cell? ⟨lg, 1, none⟩ = some (syF gd) := ⟨HB32.out.only ho3 hne3, (HCF.out W3 xX hl3).2.1⟩
    refine wpAnyH_skip 8 W3 (by kernel_rfl) rfl (by rfl) (by rw [HW3.out]; simp [go_sem, f3, f4]) hS ?_
    simp only [Act.put]
    refine wpAnyH_done (by kernel_rfl) ?_ _
    obtain ⟨m1, m3, m4, m6⟩ := HNQ.out P2 hgr2
    have HD3 : Hid (DkIs W3 gd P2 DX) := hd2.same14 (fun k hk => ho3.block k (fun e => m1 (e ▸ hk)) (hd2.lt14 k hk))
    have HM3 : Hid (Mut (puR P' lg g4 g6) W W3) := ((mut_drew (puR P' lg g4 g6) W).trans (fun _ _ h => h) ((Mut.refl (puR P' lg g4 g6) W.drew).trans (fun _ _ h => Or.inl h) hm2)).trans (fun _ _ h => h) (ho3.mut (Or.inr (Or.inl rfl)))
    have HL3x : Hid (Blk W3 lg (lc xX) 144) := hl3
    have HB63 : Hid (Blk W3 g6 [.int .i64 0] 26) := HB62.out.only ho3 hne6
    have HG3 : Hid (Grew v1 P P2) := hgr2
    have HK3 : Hid (W3.heap[Dd]? = some (.deferred (some []))) := by
      show _ = _
      rw [ho3.block Dd (by have h1 := HKG.out; have h2 := HLG.out; have h3 := HBW.out.size; omega) (Array.getElem?_eq_some_iff.1 HK2.out).1]
      exact HK2.out
    have c3 : W3.cell? ⟨g3, 0, none⟩ = some (.pointer (some ⟨lg, 0, none⟩)) := hS.1.cell 0
    have c6 : W3.cell? ⟨g6, 0, none⟩ = some (.int .i64 0) := HB63.out.cell 0
    have d6 : W3.frozen? ⟨g6, 0, none⟩ = false := HB63.out.frozen 0
    have cF : W3.cell? ⟨lg, 3, none⟩ = some (.int .i64 xX) := (HCF.out W3 xX hl3).2.2.1
    clear hS hl3 hne3 hne6 ho3 m1 m3 m4 n1 n3 n4 n6 hd2 hm2 hg2 hgr2 f1 f2 f3 f4 HW3 HSC
    simp only [onlyNormal]
    go_wp2
    obtain ⟨W4, HW4⟩ : ∃ y, Hid (y = W3.setCell ⟨g6, 0, none⟩ (.int .i64 xX)) := ⟨_, rfl⟩
    have ho4 : Only g6 W3 W4 := by rw [HW4.out]; exact Only.setCell (Only.refl _ _) _ _
    have hb6 : Blk W4 g6 [.int .i64 xX] 26 := by rw [HW4.out]; exact HB63.out.set 0 _
    have nl6 : lg ≠ g6 := HL3x.out.neT HB63.out (by decide)
    have hk4 : W4.heap[Dd]? = some (.deferred (some [])) := by
      rw [ho4.block Dd (fun e => by have h := HB63.out; unfold Blk at h; rw [← e, HK3.out] at h; cases h) (Array.getElem?_eq_some_iff.1 HK3.out).1]
      exact HK3.out
    rw [← HW4.out]
    have HM4 : Mut (puR P lg g4 g6) v1 W4 := HI.out.mv.trans HPQ.out (HM3.out.trans (fun _ _ h => h) (ho4.mut (Or.inr (Or.inr (Or.inr rfl)))))
    refine ⟨by simp, .inl ⟨_, _, rfl, run_takeDeferred hk4, ?_⟩⟩
    have hc5 := (hb6.put hk4 rfl (o' := .deferred none)).cell 0
    have hgp := grownBy_putObj' W4 Dd (.deferred none)
    have hd5 : DkIs (W4.putObj Dd (.deferred none)) gd P2 DX := (HD3.out.same14 (w' := W4) (fun k hk => ho4.block k (fun e => m6 (e ▸ hk)) (HD3.out.lt14 k hk))).own14 hgp (fun x e => by cases e; exact ⟨_, hk4, rfl⟩)
    have hl5 : Blk (W4.putObj Dd (.deferred none)) lg (lc xX) 144 := (HL3x.out.only ho4 nl6).put hk4 rfl
    have hm5 : Mut (puR P lg g4 g6) v1 (W4.putObj Dd (.deferred none)) := ⟨hgp.os.trans HM4.os, hgp.tape.trans HM4.tape, hgp.output.trans HM4.output, Nat.le_trans HM4.size hgp.size, fun k hk hn => (hgp.block k (Nat.lt_of_lt_of_le hk HM4.size) (fun e => by cases e; have := HKG.out; omega)).trans (HM4.block k hk hn)⟩
    refine ⟨.int .i64 xX, ?_, rfl, P2, hd5, by rw [← HLC.out]; exact hl5, HRM.out _ hm5, fun k hk => (HG3.out k hk).imp id (fun h => Nat.le_trans HBW.out.size h)⟩
    simp at hc5
    simp [results, Tryz.f102, go_sem, hc5]
  case stop =>
    rintro Dd cc pre W hD ⟨kk, hk, rfl⟩ ⟨rfl, P', D', an, x, hi, hrun⟩ hK
    rw [frs_val m kk hk, wsN_range at_ m r kk hk] at hrun
    have hxe : D' = DX ∧ x = xX := by
      have h1 := hrun (((secsOf at_ m r).drop kk).map some ++ [none])
      rw [← List.append_assoc, ← List.map_append, List.take_append_drop, HX.out] at h1
      exact ⟨(congrArg Prod.fst h1).symm, (congrArg Prod.snd h1).symm⟩
    obtain ⟨rfl, rfl⟩ := hxe
    have HI : Hid (PuI v1 gd lg g3 g4 g6 P lc D at_ m r x an x P' D' W) := hi
    have HKD : Hid (W.heap[Dd]? = some (.deferred (some []))) := hK
    have HKG : Hid (v1.heap.size ≤ Dd) := hD
    clear hi hrun hK hD
    gi_wp2
    refine ⟨by simp, .inl ⟨_, _, rfl, run_takeDeferred HKD.out, ?_⟩⟩
    have hc5 := (HI.out.b6.put HKD.out rfl (o' := .deferred none)).cell 0
    have hI5 : PuI v1 gd lg g3 g4 g6 P lc D at_ m r x an x P' D' (W.putObj Dd (.deferred none)) := HI.out.own (grownBy_putObj' W Dd (.deferred none)) (fun x e => by cases e; exact ⟨HKG.out, _, HKD.out, rfl⟩)
    refine ⟨.int .i64 x, ?_, rfl, P', hI5.dk, by rw [← HLC.out]; exact hI5.lb, HRM.out _ hI5.mv, fun k hk => (hI5.gr k hk).imp id (fun h => Nat.le_trans HBW.out.size h)⟩
    simp at hc5
    simp [results, Tryz.f102, go_sem, hc5]
end Go.Proofs.YtopmeedmgjdcgaaGreatDoor
/- The walks of journal's copies, All, Gen, Room and fit, as they landed (layer 14). -/
namespace Go.Proofs.YtopmeedmgjdcgaaGreatDoor
open Go.RowKit
set_option maxRecDepth 100000
def nilL (n : Nat) : List Value := List.replicate n (.slice none 0 0)
theorem len_nilL (n : Nat) : (nilL n).length = n := List.length_replicate
theorem madeT (n : Nat) : madeCells (Value.cells (.slice none 0 0)) (n * 1) = (nilL n).toArray := by
  apply Array.ext
  · rw [size_madeCells, List.size_toArray, len_nilL, Nat.mul_one]
  · intro j h1 h2
    have e2 : (nilL n).toArray[j] = .slice none 0 0 := by rw [List.getElem_toArray]; exact List.getElem_replicate _
    rw [e2]
    simp only [madeCells, Array.getElem_map, Array.getElem_range]
    have hz : j % (Value.cells (.slice none 0 0)).size = 0 := Nat.mod_one j
    rw [hz]
    rfl
theorem make_tx (f : Operand → Value) (o : Oper) (x y : Operand) (n : Nat) (hn : n ≤ 1000000) (ho : o.op = .makeSlice 41 x y) (hx : f x = .int .i64 (n : Int)) (hy : f y = .int .i64 (n : Int)) (w : World) :
    (execOp f o).run Tryz.prog w = .ok (.value (.slice (some ⟨w.heap.size, 0, none⟩) n n)) (w.alloc (.cells (nilL n).toArray 23)) := by
  obtain ⟨i0, hi, hz, hs, hby⟩ := info_parts Tryz.infobsJ
  have hr := run_make (P := Tryz.prog) w 41 23 i0 _ Tryz.underlying41 hi hz .i64 .i64 (n : Int) (n : Int) (by omega) (Int.le_refl _) (by rw [hby]; omega) (by omega)
  rw [Int.toNat_natCast, hs, madeT] at hr
  unfold execOp
  rw [ho]
  simp only [hx, hy, Sem.run_bind, hr, Result.andThen_ok, Sem.run_pure]
/-- the block g holds the texts xs, and room for n in all; the texts lie behind it -/
structure RowJ (w : World) (g n : Nat) (us : List Value) (xs : List Bs) : Prop where
  blk : Blk w g (us ++ nilL (n - us.length)) 23
  len : us.length = xs.length
  good : ∀ j u, us[j]? = some u → OwnB w (g + 1) u (xs.getD j [])
  le : us.length ≤ n
theorem RowJ.next {w w' : World} {g n : Nat} {us : List Value} {xs : List Bs} (h : RowJ w g n us xs) (hb : Below w.heap.size w w') : RowJ w' g n us xs :=
  ⟨h.blk.below hb h.blk.lt, h.len, fun j u hj => (h.good j u hj).sameJ fun k hk => hb.block k ((h.good j u hj).ltJ k hk).2, h.le⟩
theorem RowJ.put {w : World} {g n k : Nat} {us : List Value} {xs : List Bs} {u : Value} {t : Bs} (h : RowJ w g n us xs) (hk : us.length = k) (hn : k < n) (hu : OwnB w (g + 1) u t) : RowJ (w.setCell ⟨g, k, none⟩ u) g n (us ++ [u]) (xs ++ [t]) := by
  have o6 : Only g w (w.setCell ⟨g, k, none⟩ u) := Only.setCell (Only.refl g w) k _
  have up : ∀ x t, OwnB w (g + 1) x t → OwnB (w.setCell ⟨g, k, none⟩ u) (g + 1) x t := fun x t hx => hx.sameJ fun j hj => o6.block j (by have := (hx.ltJ j hj).1; omega) (hx.ltJ j hj).2
  refine ⟨?_, by rw [List.length_append, List.length_append, h.len]; rfl, fun j x hj => ?_, by rw [List.length_append, List.length_singleton]; omega⟩
  · have h1 := h.blk.set k u
    have e : (us ++ nilL (n - us.length)).set k u = us ++ [u] ++ nilL (n - (us ++ [u]).length) := by
      rw [← hk, List.set_append_right _ _ (Nat.le_refl _), Nat.sub_self, List.length_append, List.length_singleton]
      obtain ⟨m, hm⟩ : ∃ m, n - us.length = m + 1 := ⟨n - us.length - 1, by omega⟩
      rw [hm, show n - (us.length + 1) = m by omega, nilL, List.replicate_succ, List.set_cons_zero, List.append_assoc]
      rfl
    rw [e] at h1
    exact h1
  · by_cases hjl : j < us.length
    · rw [List.getElem?_append_left hjl] at hj
      have h1 := h.good j x hj
      have h2 : (xs ++ [t]).getD j [] = xs.getD j [] := by
        rw [List.getD_eq_getElem?_getD, List.getD_eq_getElem?_getD, List.getElem?_append_left (by rw [← h.len]; exact hjl)]
      rw [h2]
      exact up _ _ h1
    · rw [List.getElem?_append_right (by omega)] at hj
      have hj0 : j = us.length := by
        have := (List.getElem?_eq_some_iff.1 hj).1
        simp at this
        omega
      subst hj0
      simp at hj
      subst hj
      have h2 : (xs ++ [t]).getD us.length [] = t := by
        rw [List.getD_eq_getElem?_getD, h.len, List.getElem?_append_right (Nat.le_refl _), Nat.sub_self]
        rfl
      rw [h2]
      exact up _ _ hu
theorem RowJ.tx {w : World} {g n base : Nat} {us : List Value} {xs : List Bs} (h : RowJ w g n us xs) (hn : us.length = n) (hb : base ≤ g) (hm : n ≤ 1000000) (hw : base ≤ w.heap.size) : TxJ base (.slice (some ⟨g, 0, none⟩) n n) us xs w := by
  refine ⟨?_, h.len, fun j u hj => ownB_lower (h.good j u hj) (by omega), hw⟩
  have hb2 := h.blk
  rw [hn, Nat.sub_self, nilL, List.replicate_zero, List.append_nil] at hb2
  subst hn
  exact ⟨by rw [Nat.mul_one], Or.inr ⟨g, us.length, us.toArray, rfl, hb, hb2, Nat.le_refl _, by unfold maxLen; omega, by simp, by simp⟩⟩
theorem wpSeq_makeJ {ops : Array Oper} {Q : Exit → Act → World → Prop} {rest : List Oper} {o : Oper} {a : Act} {w : World} (x y : Operand) (n : Nat) (hn : n ≤ 1000000) (ho : o.op = .makeSlice 41 x y) (hx : a.eval x = .int .i64 (n : Int)) (hy : a.eval y = .int .i64 (n : Int)) (hw : Region.wanted o (yielded ops a.tmps) = true)
    (h : ∀ g w', w.heap.size ≤ g → RowJ w' g n [] [] → Below w.heap.size w w' → wpList Tryz.prog ops Q rest (a.put o.dst (.slice (some ⟨g, 0, none⟩) n n)) w') : wpList Tryz.prog ops Q (o :: rest) a w :=
  wpSeq_val _ _ hw (make_tx _ o x y n hn ho hx hy w) (h _ _ (Nat.le_refl _) ⟨Blk.new _ _ _, rfl, fun j u hj => by simp at hj, Nat.zero_le _⟩ (below_alloc _ _))
set_option maxRecDepth 100000 in
set_option maxHeartbeats 8000000 in
theorem jCopies_any (v : Value) (l : List Bs) (hl : l.length ≤ 100000) (hx : ∀ x ∈ l, x.length ≤ 100000000) (w : World) (hr : ReadsL w v l) : Calls Tryz.prog 131 #[v] w fun e w' => ∃ v' us, e = .returned v' ∧ TxJ w.heap.size v' us l w' ∧ Below w.heap.size w w' := by
  have HR : Hid (ReadsL w v l) := hr
  obtain ⟨ad, cp, hv, _⟩ := hr
  obtain ⟨n, HN⟩ : ∃ n, Hid (n = l.length) := ⟨_, rfl⟩
  rw [← HN.out] at hv hl
  subst hv
  have HL : Hid (n ≤ 100000) := hl
  have HM : Hid (n ≤ 1000000) := Nat.le_trans hl (by decide)
  have HX : Hid (∀ x ∈ l, x.length ≤ 100000000) := hx
  clear hl hx
  go_enter Tryz.func131, Tryz.ntmps131
  have tk0 : Hid True := trivial
  go_wp2_with (first
    | (clear tk0; with_reducible refine wpSeq_makeJ (.tmp 7) (.tmp 7) n HM.out ?_ ?_ ?_ ?_ ?_
       · rfl
       · rfl
       · rfl
       · rfl
       intro gc y1 hge hrow hz
       have HGE : Hid (w.heap.size ≤ gc) := hge
       have HRW : Hid (RowJ y1 gc n [] [] ∧ Below w.heap.size w y1) := ⟨hrow, hz⟩
       clear hge hrow hz))
  go_loopw [11] (fun i wr => ∃ (k : Nat) (us : List Value), k ≤ n ∧ i = .int .i64 (k : Int) ∧ Hid (RowJ wr gc n us (l.take k) ∧ us.length = k) ∧ Hid (Below w.heap.size w wr)) (fun i _ => n - (intOf i).toNat)
  case atStart => exact ⟨0, [], Nat.zero_le _, rfl, ⟨by rw [List.take_zero]; exact HRW.out.1, rfl⟩, HRW.out.2⟩
  case round =>
    clear HRW
    obtain ⟨k, us, hk, rfl, HRW, HBB⟩ := hrel
    by_cases hlt : k < n
    case neg =>
      have hlk : ¬ ((k : Int) < (n : Int)) := by omega
      obtain rfl : k = n := by omega
      have HE : Hid (l.take k = l) := List.take_of_length_le (by rw [← HN.out]; exact Nat.le_refl _)
      go_wp2
      go_ret
      have h1 := HRW.out.1
      rw [HE.out] at h1
      have h2 := h1.tx HRW.out.2 HGE.out HM.out HBB.out.size
      first
        | exact ⟨_, us, rfl, h2, HBB.out⟩
        | exact ⟨_, rfl, ⟨us, h2⟩, HBB.out⟩
        | exact ⟨⟨us, h2⟩, HBB.out⟩
    case pos =>
      have hlk : (k : Int) < (n : Int) := by omega
      have k0 : (0 : Int) ≤ (k : Int) := by omega
      have f1 : IntKind.i64.wrap ((k : Int) + 1) = (k : Int) + 1 := by rw [IntKind.wrap_i64]; have := HL.out; omega
      have hkl : k < l.length := by rw [← HN.out]; exact hlt
      obtain ⟨b, off, vj, rfl, hc, hrj⟩ := (HR.out.below HBB.out).atJ hkl
      obtain ⟨x, HXX⟩ : ∃ x, Hid (x = l.getD k []) := ⟨_, rfl⟩
      rw [← HXX.out] at hrj
      obtain ⟨m, HMM⟩ : ∃ m, Hid (m = x.length) := ⟨_, rfl⟩
      obtain ⟨aj, cj, hvj, _⟩ := id hrj
      rw [← HMM.out] at hvj
      subst hvj
      have HRJ : Hid (Reads wr (.slice aj m cj) x) := hrj
      have HTK : Hid (l.take (k + 1) = l.take k ++ [x]) := by
        show _ = _
        rw [List.take_add_one, List.getElem?_eq_getElem hkl, HXX.out, List.getD_eq_getElem?_getD, List.getElem?_eq_getElem hkl]
        rfl
      have HXL : Hid (x.length ≤ 140737488355328) := by
        show _ ≤ _
        have h1 := HX.out x (by rw [HXX.out, List.getD_eq_getElem?_getD, List.getElem?_eq_getElem hkl]; exact List.getElem_mem hkl)
        omega
      have HLT : Hid (k < (us ++ nilL (n - us.length)).length ∧ k < n) := ⟨by rw [List.length_append, len_nilL, HRW.out.2]; omega, hlt⟩
      clear hkl hrj
      have tk0 : Hid True := trivial
      have tk1 : Hid True := trivial
      go_wp2_with (first
        | (clear tk0; go_at_call 64; refine (bclone_any _ x _ HRJ.out HXL.out).mono ?_; rintro e0 y1 ⟨vc, rfl, ho, hz⟩
           obtain ⟨ac, cc, hvc⟩ := ownB_form ho
           rw [← HMM.out] at hvc
           subst hvc
           have HOW : Hid (OwnB y1 (gc + 1) (.slice ac m cc) x) := ownB_lower ho HRW.out.1.blk.lt
           replace HRW : Hid (RowJ y1 gc n us (l.take k) ∧ us.length = k) := ⟨HRW.out.1.next hz, HRW.out.2⟩
           replace HBB : Hid (Below w.heap.size w y1) := HBB.out.trans (hz.mono HBB.out.size)
           obtain ⟨co, cT⟩ : ∃ o, y1.cell? ⟨gc, k, none⟩ = some o := ⟨_, by rw [HRW.out.1.blk.cell, List.getElem?_eq_getElem HLT.out.1]⟩
           have fT : y1.frozen? ⟨gc, k, none⟩ = false := HRW.out.1.blk.frozen k
           clear ho hz))
      have HRW2 : Hid (RowJ (y1.setCell ⟨gc, k, none⟩ (.slice ac m cc)) gc n (us ++ [.slice ac m cc]) (l.take (k + 1)) ∧ (us ++ [Value.slice ac m cc]).length = k + 1) := by
        rw [HTK.out]
        exact ⟨HRW.out.1.put HRW.out.2 HLT.out.2 HOW.out, by rw [List.length_append, HRW.out.2]; rfl⟩
      have HBB2 : Hid (Below w.heap.size w (y1.setCell ⟨gc, k, none⟩ (.slice ac m cc))) := HBB.out.setCell (p := ⟨gc, k, none⟩) HGE.out _
      go_roundw
      case rel => exact ⟨k + 1, _, by omega, by simp, HRW2, HBB2⟩
      case measure => simp [intOf]; omega
set_option maxRecDepth 100000 in
set_option maxHeartbeats 8000000 in
theorem jRoom_any {gd hs k gen u lg : Nat} {fl : Int} {vr : Value} {w : World} (hlb : Blk w lg (lgC gd hs fl k gen vr u) 144) (hu : u ≤ hs) (hh : hs < 1000000) : Calls Tryz.prog 78 #[.pointer (some ⟨lg, 0, none⟩)] w fun e w' => e = .returned (.int .i64 ((min 1048576 (64 * (hs - u) - 57) : Nat) : Int)) ∧ Below w.heap.size w w' := by
  have HLB : Hid (Blk w lg (lgC gd hs fl k gen vr u) 144) := hlb
  obtain ⟨m, HM⟩ : ∃ m, Hid (m = hs - u) := ⟨_, rfl⟩
  have f1 : IntKind.i64.wrap ((hs : Int) - (u : Int)) = (m : Int) := by rw [IntKind.wrap_i64]; have := HM.out; omega
  rw [← HM.out]
  obtain ⟨r, HR⟩ : ∃ r, Hid (r = min 1048576 (64 * m - 57)) := ⟨_, rfl⟩
  have HC : Hid (∀ W, Calls Tryz.prog 99 #[.int .i64 (m : Int)] W fun e w' => e = .returned (.int .i64 (r : Int)) ∧ w' = W) := fun W => by rw [HR.out]; exact jRoom1_any m (by have := HM.out; omega) W
  rw [← HR.out]
  clear hlb hu hh
  go_enter Tryz.func78, Tryz.ntmps78
  go_upto_region 1 with fail
  refine wp_region_held_drew (S := fun wx => Blk wx lg (lgC gd hs fl k gen vr u) 144) (by kernel_rfl) HLB.out.drew ?_
  intro hS
  refine wpAnyH_take (i := 0) (v := .pointer (some ⟨lg, 0, none⟩)) rfl (by kernel_rfl) (by kernel_rfl) (by kernel_rfl) (fun _ _ _ h => h) (Or.inl ⟨by rfl, fun wx hx => by simp [go_sem]⟩) hS ?_
  simp only [Act.put, List.getElem_toArray, List.getElem_cons_zero, List.setIfInBounds_toArray, List.set_cons_zero, List.set_cons_succ]
  refine wpAnyH_take (i := 1) (v := .pointer (some ⟨lg, 0, none⟩)) rfl (by kernel_rfl) (by kernel_rfl) (by kernel_rfl) (fun _ _ _ h => h) (Or.inl ⟨by rfl, fun wx hx => by simp [go_sem]⟩) hS ?_
  simp only [Act.put, List.getElem_toArray, List.getElem_cons_succ, List.getElem_cons_zero, List.setIfInBounds_toArray, List.set_cons_zero, List.set_cons_succ]
  refine wpAnyH_take (i := 2) (v := .pointer (some ⟨lg, 2, none⟩)) rfl (by kernel_rfl) (by kernel_rfl) (by kernel_rfl) (fun _ _ _ h => h) (Or.inl ⟨by rfl, fun wx hx => by simp [go_sem]⟩) hS ?_
  simp only [Act.put, List.getElem_toArray, List.getElem_cons_succ, List.getElem_cons_zero, List.setIfInBounds_toArray, List.set_cons_zero, List.set_cons_succ]
  refine wpAnyH_take (i := 3) (v := .int .i64 (hs : Int)) rfl (by kernel_rfl) (by kernel_rfl) (by kernel_rfl) (fun _ _ _ h => h) (Or.inl ⟨by rfl, fun wx hx => by (have c0 : wx.cell? ⟨lg, 2, none⟩ = some (.int .i64 (hs : Int)) := hx.cell 2; simp [go_sem, c0])⟩) hS ?_
  simp only [Act.put, List.getElem_toArray, List.getElem_cons_succ, List.getElem_cons_zero, List.setIfInBounds_toArray, List.set_cons_zero, List.set_cons_succ]
  refine wpAnyH_take (i := 4) (v := .pointer (some ⟨lg, 0, none⟩)) rfl (by kernel_rfl) (by kernel_rfl) (by kernel_rfl) (fun _ _ _ h => h) (Or.inl ⟨by rfl, fun wx hx => by simp [go_sem]⟩) hS ?_
  simp only [Act.put, List.getElem_toArray, List.getElem_cons_succ, List.getElem_cons_zero, List.setIfInBounds_toArray, List.set_cons_zero, List.set_cons_succ]
  refine wpAnyH_take (i := 5) (v := .pointer (some ⟨lg, 0, none⟩)) rfl (by kernel_rfl) (by kernel_rfl) (by kernel_rfl) (fun _ _ _ h => h) (Or.inl ⟨by rfl, fun wx hx => by simp [go_sem]⟩) hS ?_
  simp only [Act.put, List.getElem_toArray, List.getElem_cons_succ, List.getElem_cons_zero, List.setIfInBounds_toArray, List.set_cons_zero, List.set_cons_succ]
  refine wpAnyH_take (i := 6) (v := .pointer (some ⟨lg, 4, none⟩)) rfl (by kernel_rfl) (by kernel_rfl) (by kernel_rfl) (fun _ _ _ h => h) (Or.inl ⟨by rfl, fun wx hx => by simp [go_sem]⟩) hS ?_
  simp only [Act.put, List.getElem_toArray, List.getElem_cons_succ, List.getElem_cons_zero, List.setIfInBounds_toArray, List.set_cons_zero, List.set_cons_succ]
  refine wpAnyH_take (i := 7) (v := .pointer (some ⟨lg, 7, none⟩)) rfl (by kernel_rfl) (by kernel_rfl) (by kernel_rfl) (fun _ _ _ h => h) (Or.inl ⟨by rfl, fun wx hx => by simp [go_sem]⟩) hS ?_
  simp only [Act.put, List.getElem_toArray, List.getElem_cons_succ, List.getElem_cons_zero, List.setIfInBounds_toArray, List.set_cons_zero, List.set_cons_succ]
  refine wpAnyH_take (i := 8) (v := .int .i64 (u : Int)) rfl (by kernel_rfl) (by kernel_rfl) (by kernel_rfl) (fun _ _ _ h => h) (Or.inl ⟨by rfl, fun wx hx => by (have c0 : wx.cell? ⟨lg, 7, none⟩ = some (.int .i64 (u : Int)) := hx.cell 7; simp [go_sem, c0])⟩) hS ?_
  simp only [Act.put, List.getElem_toArray, List.getElem_cons_succ, List.getElem_cons_zero, List.setIfInBounds_toArray, List.set_cons_zero, List.set_cons_succ]
  refine wpAnyH_take (i := 9) (v := .int .i64 (m : Int)) rfl (by kernel_rfl) (by kernel_rfl) (by kernel_rfl) (fun _ _ _ h => h) (Or.inl ⟨by rfl, fun wx hx => by simp [go_sem, f1]⟩) hS ?_
  simp only [Act.put, List.getElem_toArray, List.getElem_cons_succ, List.getElem_cons_zero, List.setIfInBounds_toArray, List.set_cons_zero, List.set_cons_succ]
  refine wpAnyH_enter 10 (by kernel_rfl) rfl (by rfl) (f := 99) (args := #[.int .i64 (m : Int)]) (by simp [go_sem]) (HC.out _) ?_
  rintro e0 y1 ⟨rfl, hy1⟩
  subst hy1
  refine ⟨_, rfl, hS, ?_⟩
  simp only [Act.put, List.getElem_toArray, List.getElem_cons_succ, List.getElem_cons_zero, List.setIfInBounds_toArray, List.set_cons_zero, List.set_cons_succ]
  refine wpAnyH_take (i := 11) (v := .int .i64 (r : Int)) rfl (by kernel_rfl) (by kernel_rfl) (by kernel_rfl) (fun _ _ _ h => h) (Or.inl ⟨by rfl, fun wx hx => by simp [go_sem]⟩) hS ?_
  simp only [Act.put, List.getElem_toArray, List.getElem_cons_succ, List.getElem_cons_zero, List.setIfInBounds_toArray, List.set_cons_zero, List.set_cons_succ]
  refine wpAnyH_done (by kernel_rfl) ?_ _
  go_wp2
  go_ret
  exact ⟨rfl, (Below.refl _ _).drew⟩
theorem secL_take {l : List Bs} {k : Nat} (hk : k < l.length) : secL (l.take (k + 1)) = secL (l.take k) + secR (l.getD k []).length := by
  rw [List.take_add_one, List.getElem?_eq_getElem hk, List.getD_eq_getElem?_getD, List.getElem?_eq_getElem hk]
  exact secL_snoc _ _
theorem secL_mono (l : List Bs) (k : Nat) : secL (l.take k) ≤ secL l := by
  have h1 := sizeL_mono l k
  rw [sizeL_eq, sizeL_eq] at h1
  omega
set_option maxRecDepth 100000 in
set_option maxHeartbeats 8000000 in
theorem jFit_any (v : Value) (l : List Bs) (hs : Nat) (h1 : 1 ≤ hs) (h2 : hs < 1000000) (hl : l.length < 1000000000) (hx : ∀ x ∈ l, x.length ≤ 100000000) (w : World) (hr : ReadsL w v l) : Calls Tryz.prog 130 #[v, .int .i64 (hs : Int)] w fun e w' => e = .returned (.bool (decide (1 + secL l ≤ hs))) ∧ w' = w := by
  have HR : Hid (ReadsL w v l) := hr
  obtain ⟨ad, cp, hv, _⟩ := hr
  obtain ⟨n, HN⟩ : ∃ n, Hid (n = l.length) := ⟨_, rfl⟩
  obtain ⟨r, HRR⟩ : ∃ r, Hid (r = decide (1 + secL l ≤ hs)) := ⟨_, rfl⟩
  rw [← HRR.out]
  rw [← HN.out] at hv hl
  subst hv
  have HX : Hid (∀ x ∈ l, x.length ≤ 100000000) := hx
  have HNB : Hid (n < 1000000000 ∧ 1 ≤ hs ∧ hs < 1000000) := ⟨hl, h1, h2⟩
  obtain ⟨h0, HH0⟩ : ∃ m, Hid (m = hs - 1) := ⟨_, rfl⟩
  have f0 : IntKind.i64.wrap ((hs : Int) - 1) = (h0 : Int) := by rw [IntKind.wrap_i64]; have := HH0.out; omega
  have HH1 : Hid (hs = h0 + 1) := by show _ = _; have := HH0.out; omega
  clear hl hx h1 h2
  go_enter Tryz.func130, Tryz.ntmps130
  go_wp2
  go_loopw [1, 11] (fun a i wr => ∃ (k q : Nat), k ≤ n ∧ i = .int .i64 (k : Int) ∧ a = .int .i64 (q : Int) ∧ Hid (1 + secL (l.take k) + q = hs) ∧ wr = w) (fun _ i _ => n - (intOf i).toNat)
  case atStart => exact ⟨0, h0, by omega, rfl, rfl, by show _ = _; rw [List.take_zero, HH1.out]; show 1 + 0 + h0 = _; omega, rfl⟩
  case round =>
    obtain ⟨k, q, hk, rfl, rfl, HQ, rfl⟩ := hrel
    clear f0
    by_cases hlt : k < n
    case neg =>
      have hlk : ¬ ((k : Int) < (n : Int)) := by omega
      have HE : Hid (l.take k = l) := List.take_of_length_le (by rw [← HN.out]; omega)
      have hq0 : (0 : Int) ≤ (q : Int) := by omega
      have hrt : r = true := by
        rw [HRR.out, decide_eq_true_iff]
        have h3 := HQ.out
        rw [HE.out] at h3
        omega
      subst hrt
      go_wp2
      go_ret
      exact ⟨rfl, rfl⟩
    case pos =>
      have hlk : (k : Int) < (n : Int) := by omega
      have k0 : (0 : Int) ≤ (k : Int) := by omega
      have f1 : IntKind.i64.wrap ((k : Int) + 1) = (k : Int) + 1 := by rw [IntKind.wrap_i64]; have := HNB.out; omega
      have hkl : k < l.length := by rw [← HN.out]; exact hlt
      obtain ⟨b, off, vj, rfl, hc, hrj⟩ := HR.out.atJ hkl
      obtain ⟨x, HXX⟩ : ∃ x, Hid (x = l.getD k []) := ⟨_, rfl⟩
      rw [← HXX.out] at hrj
      obtain ⟨sx, HSX⟩ : ∃ m, Hid (m = secR x.length) := ⟨_, rfl⟩
      have HXM : Hid (x.length ≤ 100000000) := HX.out x (by rw [HXX.out, List.getD_eq_getElem?_getD, List.getElem?_eq_getElem hkl]; exact List.getElem_mem hkl)
      have HST : Hid (secL (l.take (k + 1)) = secL (l.take k) + sx ∧ secL (l.take (k + 1)) ≤ secL l) := ⟨by rw [secL_take hkl, ← HXX.out, ← HSX.out], secL_mono l (k + 1)⟩
      obtain ⟨aj, nj, cj, hvj⟩ := hrj.form
      subst hvj
      have HRS : Hid (Calls Tryz.prog 116 #[.slice aj nj cj] wr fun e w' => e = .returned (.int .i64 (sx : Int)) ∧ w' = wr) := by rw [HSX.out]; exact jRecSec_any _ x (by have := HXM.out; omega) wr hrj
      clear hkl hrj
      by_cases hlt2 : q < sx
      · have q1 : (q : Int) < (sx : Int) := by omega
        have hrt : r = false := by
          rw [HRR.out, decide_eq_false_iff_not]
          have h3 := HQ.out
          have h4 := HST.out
          omega
        subst hrt
        have tk0 : Hid True := trivial
        go_wp2_with (first
          | (clear tk0; go_at_call 116; refine HRS.out.mono ?_; rintro e0 y1 ⟨rfl, hy1⟩; subst hy1))
        go_ret
        exact ⟨rfl, rfl⟩
      · have q1 : ¬ ((q : Int) < (sx : Int)) := by omega
        obtain ⟨q2, HQ2⟩ : ∃ m, Hid (m = q - sx) := ⟨_, rfl⟩
        have f2 : IntKind.i64.wrap ((q : Int) - (sx : Int)) = (q2 : Int) := by rw [IntKind.wrap_i64]; have h3 := HQ2.out; have h4 := HQ.out; have h5 := HNB.out; omega
        have HQN : Hid (1 + secL (l.take (k + 1)) + q2 = hs) := by show _ = _; have h3 := HQ.out; have h4 := HST.out.1; have h5 := HQ2.out; omega
        have tk0 : Hid True := trivial
        have tk1 : Hid True := trivial
        go_wp2_with (first
          | (clear tk0; go_at_call 116; refine HRS.out.mono ?_; rintro e0 y1 ⟨rfl, hy1⟩; subst hy1)
          | (clear tk1; go_at_call 116; refine HRS.out.mono ?_; rintro e0 y2 ⟨rfl, hy2⟩; subst hy2))
        go_roundw
        case rel => exact ⟨k + 1, q2, by omega, by simp, by first | rfl | trivial, HQN, by first | rfl | trivial⟩
        case measure => simp [intOf]; omega
end Go.Proofs.YtopmeedmgjdcgaaGreatDoor
/- The walks of journal's begin and next, as they landed (layer 14). -/
namespace Go.Proofs.YtopmeedmgjdcgaaGreatDoor
open Go.RowKit
set_option maxRecDepth 100000
theorem Blk.seg {w : World} {g off : Nat} {A B B2 C : List Value} {t : TypeId} (h : Blk w g (A ++ (B ++ C)) t) (hl : B2.length = B.length) (ho : A.length = off) : Blk (w.setCells g off B2) g (A ++ (B2 ++ C)) t := by
  subst ho
  have h2 := setCells_eq g B2 A.length w _ t h (by simp only [List.length_append]; omega)
  have e : (A ++ (B ++ C)).take A.length ++ B2 ++ (A ++ (B ++ C)).drop (A.length + B2.length) = A ++ (B2 ++ C) := by
    rw [List.take_left, ← List.drop_drop, List.drop_left, hl, List.drop_left, List.append_assoc]
  rwa [e] at h2
theorem run_two : ∀ (a b : List (Option (Nat × Bs))) (D : DkT), runJ D (a ++ b) = if (runJ D a).2 = 0 then runJ (runJ D a).1 b else runJ D a
  | [], b, D => by simp [runJ]
  | some p :: a, b, D => by
    rw [List.cons_append, runJ, runJ]
    by_cases h : putX13 D (p.1 : Int) p.2 = 0
    · rw [if_pos h, if_pos h, run_two a b]
    · rw [if_neg h, if_neg h, if_neg h]
  | none :: a, b, D => by
    rw [List.cons_append, runJ, runJ]
    by_cases h : syncX13 D = 0
    · rw [if_pos h, if_pos h, run_two a b]
    · rw [if_neg h, if_neg h, if_neg h]
theorem sync_wait {D : DkT} (h : syncX13 D = 0) : (syncD13 D).wait = [] := by
  unfold syncX13 at h
  unfold syncD13
  by_cases h1 : D.down
  · rw [if_pos h1] at h; cases h
  rw [if_neg h1] at h ⊢
  by_cases h2 : D.left = 0
  · rw [if_pos h2] at h; cases h
  rw [if_neg h2]
theorem seg_wait : ∀ (l : List (Nat × Bs)) (D : DkT), (runJ D (l.map some ++ [none])).2 = 0 → (runJ D (l.map some ++ [none])).1.wait = []
  | [], D, h => by
    rw [List.map_nil, List.nil_append, runJ] at h ⊢
    by_cases h1 : syncX13 D = 0
    · rw [if_pos h1, runJ]; exact sync_wait h1
    · rw [if_neg h1] at h; exact absurd h h1
  | p :: l, D, h => by
    rw [List.map_cons, List.cons_append, runJ] at h ⊢
    by_cases h1 : putX13 D (p.1 : Int) p.2 = 0
    · rw [if_pos h1] at h ⊢; exact seg_wait l _ h
    · rw [if_neg h1] at h; exact absurd h h1
theorem run_size : ∀ (l : List (Option (Nat × Bs))) (D : DkT), okD D → sizeD (runJ D l).1 = sizeD D ∧ okD (runJ D l).1
  | [], _, h => ⟨rfl, h⟩
  | some p :: l, D, h => by
    have e : sizeD (putD13 D (p.1 : Int) p.2) = sizeD D := by rw [sizeD, size_put]; rfl
    rw [runJ]
    by_cases h1 : putX13 D (p.1 : Int) p.2 = 0
    · rw [if_pos h1]
      have h2 := run_size l _ (h.put (p.1 : Int) p.2)
      exact ⟨h2.1.trans e, h2.2⟩
    · rw [if_neg h1]; exact ⟨e, h.put _ _⟩
  | none :: l, D, h => by
    rw [runJ]
    by_cases h1 : syncX13 D = 0
    · rw [if_pos h1]
      have h2 := run_size l _ h.sync
      exact ⟨h2.1.trans (size_sync h), h2.2⟩
    · rw [if_neg h1]; exact ⟨size_sync h, h.sync⟩
/-- the j-th of three steps to begin anew: where, how many sectors, what -/
def stA (hs k : Nat) (j : Nat) : Nat := if j = 1 then k * hs + 1 else k * hs
def stM (hs : Nat) (l : List Bs) (j : Nat) : Nat := if j = 0 then hs else if j = 1 then secL l else 1
def stR (hs gen : Nat) (l : List Bs) (j : Nat) : Bs := if j = 0 then List.replicate (64 * hs) 0 else if j = 1 then recsB gen 0 l else headB gen
def stS (hs k gen : Nat) (l : List Bs) (j : Nat) : List (Option (Nat × Bs)) := (secsOf (stA hs k j) (stM hs l j) (stR hs gen l j)).map some ++ [none]
/-- what is left to do from the j-th step on -/
def stL (hs k gen : Nat) (l : List Bs) : Nat → List (Option (Nat × Bs))
  | 0 => stS hs k gen l 0 ++ (stS hs k gen l 1 ++ stS hs k gen l 2)
  | 1 => stS hs k gen l 1 ++ stS hs k gen l 2
  | 2 => stS hs k gen l 2
  | _ => []
theorem stL_anew (hs k gen : Nat) (l : List Bs) : anewS hs k gen l = stL hs k gen l 0 := by
  simp [anewS, stL, stS, stA, stM, stR]
theorem stL_step (hs k gen : Nat) (l : List Bs) {j : Nat} (hj : j < 3) : stL hs k gen l j = stS hs k gen l j ++ stL hs k gen l (j + 1) := by
  match j, hj with
  | 0, _ => rfl
  | 1, _ => rfl
  | 2, _ => simp [stL]
theorem len_stR (hs gen : Nat) (l : List Bs) {j : Nat} (hj : j < 3) : (stR hs gen l j).length = 64 * stM hs l j := by
  match j, hj with
  | 0, _ => simp [stR, stM]
  | 1, _ => show (recsB gen 0 l).length = 64 * secL l; rw [len_recsB, sizeL_eq]
  | 2, _ => show (headB gen).length = 64 * 1; rw [len_headB]
theorem stM_le {hs : Nat} {l : List Bs} (h : 1 + secL l ≤ hs) (j : Nat) : stM hs l j ≤ hs := by
  unfold stM
  split
  · omega
  · split <;> omega
theorem recsB_take (gen : Nat) {l : List Bs} {k : Nat} (hk : k < l.length) : recsB gen 0 (l.take (k + 1)) = recsB gen 0 (l.take k) ++ recB gen k (l.getD k []) := by
  rw [List.take_add_one, List.getElem?_eq_getElem hk, List.getD_eq_getElem?_getD, List.getElem?_eq_getElem hk]
  show recsB gen 0 (l.take k ++ [l[k]]) = _
  rw [recsB_snoc, List.length_take, Nat.min_eq_left (by omega), Nat.zero_add]
  rfl
/-- three steps' cells -/
def stC (a0 a1 a2 : Nat) (t0 t1 t2 : Value) : List Value := [.int .i64 (a0 : Int), t0, .int .i64 (a1 : Int), t1, .int .i64 (a2 : Int), t2]
theorem size_st : (Tryz.prog.info? 162).map (·.size) = some 2 := by kernel_rfl
theorem built_st (a : Int) (v : Value) (ad : Option Addr) (n c : Nat) (hv : v = .slice ad n c) (ps : List (Nat × Value)) (h : ps = [(0, .int .i64 a), (1, v)]) : Tryz.prog.built 162 ps = some #[.int .i64 a, v] := by subst h hv; kernel_rfl
theorem build_sts (f : Operand → Value) (o : Oper) (x0 x1 x2 : Operand) (a0 a1 a2 : Int) (ad0 ad1 ad2 : Option Addr) (n0 c0 n1 c1 n2 c2 : Nat) (h0 : f x0 = .agg #[.int .i64 a0, .slice ad0 n0 c0]) (h1 : f x1 = .agg #[.int .i64 a1, .slice ad1 n1 c1]) (h2 : f x2 = .agg #[.int .i64 a2, .slice ad2 n2 c2]) (ho : o.op = .buildSlice 163 3 #[(0, x0), (1, x1), (2, x2)]) (w : World) : (execOp f o).run Tryz.prog w = .ok (.value (.slice (some ⟨w.heap.size, 0, none⟩) 3 3)) (w.alloc (.cells [.int .i64 a0, .slice ad0 n0 c0, .int .i64 a1, .slice ad1 n1 c1, .int .i64 a2, .slice ad2 n2 c2].toArray 162)) := by
  unfold execOp
  rw [ho]
  simp only [List.map_toArray, List.map_cons, List.map_nil, h0, h1, h2]
  kernel_rfl
theorem alloc_st (f : Operand → Value) (o : Oper) (ho : o.op = .alloc 162) (w : World) : (execOp f o).run Tryz.prog w = .ok (.value (.pointer (some ⟨w.heap.size, 0, none⟩))) (w.alloc (.cells [.int .i64 0, .slice none 0 0].toArray 162)) := by
  unfold execOp
  rw [ho]
  kernel_rfl
theorem wpSeq_allocSt {ops : Array Oper} {Q : Exit → Act → World → Prop} {rest : List Oper} {o : Oper} {a : Act} {w : World} (ho : o.op = .alloc 162) (hw : Region.wanted o (yielded ops a.tmps) = true)
    (h : ∀ g w', NewR [.int .i64 0, .slice none 0 0] 162 w g w' → wpList Tryz.prog ops Q rest (a.put o.dst (.pointer (some ⟨g, 0, none⟩))) w') : wpList Tryz.prog ops Q (o :: rest) a w :=
  wpSeq_val _ _ hw (alloc_st _ _ ho _) (h _ _ (NewR.of _ _ w))
theorem info_st (x y : Value) : (Tryz.prog.info? 162).map (·.size) = some [x, y].length := size_st
theorem len_st (x y z u : Value) : [x, y].length = [z, u].length := rfl
theorem st_one (a : Int) (ad : Option Addr) (n c : Nat) : ∀ v ∈ [Value.int .i64 a, .slice ad n c], v.oneCell' = true := by
  intro v hv
  simp only [List.mem_cons, List.not_mem_nil, or_false] at hv
  rcases hv with rfl | rfl <;> rfl
theorem idxSt (b k : Nat) (hk : k < 3) (f : Operand → Value) (o : Oper) (x y : Operand) (ho : o.op = .indexAddr 163 x y) (hx : f x = .slice (some ⟨b, 0, none⟩) 3 3) (hy : f y = .int .i64 (k : Int)) (w : World) : (execOp f o).run Tryz.prog w = .ok (.value (.pointer (some ⟨b, 2 * k, none⟩))) w := by
  unfold execOp
  rw [ho]
  simp only [hx, hy]
  obtain rfl | rfl | rfl : k = 0 ∨ k = 1 ∨ k = 2 := by omega
  · kernel_rfl
  · kernel_rfl
  · kernel_rfl
theorem built_ct4 (a b u : Int) (ad : Option Addr) (n c : Nat) (ps : List (Nat × Value)) (h : ps = [(0, .int .i64 a), (1, .int .u64 b), (2, .slice ad n c), (3, .int .i64 u)]) : Tryz.prog.built 138 ps = some #[.int .i64 a, .int .u64 b, .slice ad n c, .int .i64 u] := by subst h; kernel_rfl
theorem make_zs (f : Operand → Value) (o : Oper) (x : Operand) (n : Nat) (hn : n < 281474976710600) (ho : o.op = .makeSlice 23 x x) (hx : f x = .int .i64 (n : Int)) (w : World) : (execOp f o).run Tryz.prog w = .ok (.value (.slice (some ⟨w.heap.size, 0, none⟩) n n)) (w.alloc (.cells (cb (List.replicate n 0)).toArray 5)) := by
  have hr := make_cap n n (Nat.le_refl _) hn w
  unfold execOp
  rw [ho]
  simp only [hx, Sem.run_bind, hr, Result.andThen_ok, Sem.run_pure]
/-- what a log has, stored whole -/
theorem wpSeq_storeCt {ops : Array Oper} {Q : Exit → Act → World → Prop} {rest : List Oper} {o : Oper} {a : Act} {w : World} (x y : Operand) (lg gd hs : Nat) (fl : Int) (k gen u k' gen' u' : Nat) (vr : Value) (ad : Option Addr) (n c : Nat) (hb : Blk w lg (lgC gd hs fl k gen vr u) 144)
    (ho : o.op = .store 138 x y) (hx : a.eval x = .pointer (some ⟨lg, 4, none⟩)) (hy : a.eval y = .agg (ctC k' gen' (.slice ad n c) u').toArray) (hgd : o.guard = none)
    (h : ∀ w', Blk w' lg (lgC gd hs fl k' gen' (.slice ad n c) u') 144 → Only lg w w' → wpList Tryz.prog ops Q rest (a.put o.dst undef) w') : wpList Tryz.prog ops Q (o :: rest) a w :=
  wpList_store_mid hgd 138 x y ho lg 4 _ hx hy (hb.there 4 _ (by simp [lgC, ctC])) (by rw [List.size_toArray]; exact size_ct) (all_oneCell_toArray (ct_one _ _ _ _ _ _))
    (by rw [List.toList_toArray]; exact h _ (Blk.seg (A := [wrF gd, syF gd, .int .i64 (hs : Int), .int .i64 fl]) (B := ctC k gen vr u) (C := []) hb rfl rfl) (Only.setCells _ _ _ (Only.refl lg w)))
/-- the loop of the three steps -/
structure BgI (W0 : World) (gd lg : Nat) (P : Nat → Prop) (lc : List Value) (D : DkT) (L : List (Option (Nat × Bs))) (P' : Nat → Prop) (D' : DkT) (R' : List (Option (Nat × Bs))) (W : World) : Prop where
  dk : DkIs W gd P' D'
  gr : Grew W0 P P'
  lb : Blk W lg lc 144
  mv : Mut (Un P (fun x => x = lg)) W0 W
  wt : D'.wait = []
  run : runJ D L = runJ D' R'
set_option maxRecDepth 100000 in
set_option maxHeartbeats 8000000 in
theorem jBegin_any {w : World} {gd lg : Nat} {P : Nat → Prop} {D : DkT} (hs k gen u k' gen' : Nat) (vr v : Value) (l : List Bs) (hK : KOk w) (hdk : DkIs w gd P D) (hwt : D.wait = []) (hlb : Blk w lg (lgC gd hs 0 k gen vr u) 144) (hnp : ¬ P lg) (hk' : k' ≤ 1) (hg' : gen' < 18446744073709551616) (hs1 : 1 ≤ hs) (hs2 : hs ≤ 50) (hfit : 1 + secL l ≤ hs) (hst : Sta (Un P (fun x => x = lg)) w (fun W => ReadsL W v l)) :
    Calls Tryz.prog 91 #[.pointer (some ⟨lg, 0, none⟩), .int .i64 (k' : Int), .int .u64 (gen' : Int), v] w fun e w' => e = .returned (.int .i64 (runJ D (anewS hs k' gen' l)).2) ∧ ∃ P', DkIs w' gd P' (runJ D (anewS hs k' gen' l)).1 ∧ ((runJ D (anewS hs k' gen' l)).2 = 0 → Blk w' lg (lgC gd hs 0 k' gen' v (1 + secL l)) 144) ∧ Mut (Un P (fun x => x = lg)) w w' ∧ Grew w P P' := by
  rw [stL_anew]
  obtain ⟨L, HLL⟩ : ∃ L, Hid (L = stL hs k' gen' l 0) := ⟨_, rfl⟩
  obtain ⟨DX, xX, HX⟩ : ∃ D2 x, Hid (runJ D L = (D2, x)) := ⟨(runJ D L).1, (runJ D L).2, rfl⟩
  rw [← HLL.out, HX.out]
  show Calls Tryz.prog 91 _ w fun e w' => e = .returned (.int .i64 xX) ∧ ∃ P', DkIs w' gd P' DX ∧ (xX = 0 → Blk w' lg (lgC gd hs 0 k' gen' v (1 + secL l)) 144) ∧ Mut (Un P (fun x => x = lg)) w w' ∧ Grew w P P'
  have hsl := sizeL_eq l
  have hge := sizeL_ge l
  obtain ⟨n, HN⟩ : ∃ n, Hid (n = l.length) := ⟨_, rfl⟩
  obtain ⟨ad, c, hv⟩ : ∃ a c, v = .slice a n c := by obtain ⟨a, c, hv, _⟩ := hst.now; rw [← HN.out] at hv; exact ⟨a, c, hv⟩
  subst hv
  have HST : Hid (Sta (Un P (fun x => x = lg)) w (fun W => ReadsL W (.slice ad n c) l)) := hst
  have HRL : Hid (ReadsL w (.slice ad n c) l) := hst.now
  have HDK : Hid (DkIs w gd P D) := hdk
  have HLB : Hid (Blk w lg (lgC gd hs 0 k gen vr u) 144) := hlb
  have HNP : Hid (¬ P lg) := hnp
  have HWT : Hid (D.wait = []) := hwt
  have HK : Hid (KOk w) := hK
  have HGN : Hid (gen' < 18446744073709551616) := hg'
  have HBD : Hid (k' ≤ 1 ∧ 1 ≤ hs ∧ hs ≤ 50 ∧ 1 + secL l ≤ hs ∧ n ≤ 50) := ⟨hk', hs1, hs2, hfit, by have := HN.out; omega⟩
  have HLX : Hid (∀ x ∈ l, x.length < 8000000) := fun x hx => by
    have h1 : 64 * secR x.length ≤ sizeL l := by
      obtain ⟨i, hi, rfl⟩ := List.getElem_of_mem hx
      have h2 := sizeL_take hi
      have h3 := sizeL_mono l (i + 1)
      rw [List.getD_eq_getElem?_getD, List.getElem?_eq_getElem hi] at h2
      simp only [Option.getD_some] at h2
      omega
    have h2 := secR_ge x.length
    omega
  obtain ⟨a0, HA0⟩ : ∃ m, Hid (m = k' * hs) := ⟨_, rfl⟩
  obtain ⟨a1, HA1⟩ : ∃ m, Hid (m = a0 + 1) := ⟨_, rfl⟩
  obtain ⟨N, HNN⟩ : ∃ m, Hid (m = hs * 64) := ⟨_, rfl⟩
  have ha0 : a0 ≤ 50 := by rw [HA0.out]; rcases Nat.le_one_iff_eq_zero_or_eq_one.1 hk' with e | e <;> rw [e] <;> omega
  have HAB : Hid (a0 ≤ 50 ∧ a1 ≤ 51) := ⟨ha0, by have := HA1.out; omega⟩
  have f1 : IntKind.i64.wrap ((k' : Int) * (hs : Int)) = (a0 : Int) := mJ HA0.out (by omega)
  have f2 : IntKind.i64.wrap ((a0 : Int) + 1) = (a1 : Int) := by rw [IntKind.wrap_i64]; have := HA1.out; omega
  have f3 : IntKind.i64.wrap ((hs : Int) * 64) = (N : Int) := mJ HNN.out (by have := HNN.out; omega)
  have c2 : w.cell? ⟨lg, 2, none⟩ = some (.int .i64 (hs : Int)) := hlb.cell 2
  clear hsl hge hst hdk hlb hnp hwt hK hg' hk' hs1 hs2 hfit ha0
  go_enter Tryz.func91, Tryz.ntmps91
  go_wp2
  clear c2 f1
  go_loopw [10, 25] (fun tv i wr => ∃ (kk : Nat), kk ≤ n ∧ i = .int .i64 (kk : Int) ∧ Hid (OwnB wr w.heap.size tv (recsB gen' 0 (l.take kk))) ∧ Hid (Below w.heap.size w wr)) (fun _ i _ => n - (intOf i).toNat)
  case atStart => exact ⟨0, Nat.zero_le _, rfl, by rw [List.take_zero]; exact OwnB.nil _ _, Below.refl _ _⟩
  case round =>
    obtain ⟨kk, hk, rfl, HOW, HBB⟩ := hrel
    by_cases hlt : kk < n
    case pos =>
      have hlk : (kk : Int) < (n : Int) := by omega
      have k0 : (0 : Int) ≤ (kk : Int) := by omega
      have g1 : IntKind.i64.wrap ((kk : Int) + 1) = (kk : Int) + 1 := by rw [IntKind.wrap_i64]; have := HBD.out; omega
      have g2 : IntKind.u64.wrap (kk : Int) = (kk : Int) := uJ (by have := HBD.out; omega)
      have hkl : kk < l.length := by rw [← HN.out]; exact hlt
      obtain ⟨b, off, vj, rfl, hc, hrj⟩ := (HRL.out.below HBB.out).atJ hkl
      obtain ⟨x, HXX⟩ : ∃ x, Hid (x = l.getD kk []) := ⟨_, rfl⟩
      rw [← HXX.out] at hrj
      obtain ⟨aj, nj, cj, hvj⟩ := hrj.form
      subst hvj
      have HTK : Hid (recsB gen' 0 (l.take (kk + 1)) = recsB gen' 0 (l.take kk) ++ recB gen' kk x) := by show _ = _; rw [recsB_take gen' hkl, ← HXX.out]
      have HRC : Hid (Calls Tryz.prog 101 #[.int .u64 (gen' : Int), .int .u64 (kk : Int), .slice aj nj cj] wr fun e w' => ∃ v', e = .returned v' ∧ OwnB w' wr.heap.size v' (recB gen' kk x) ∧ Below wr.heap.size wr w') := jRecord_own gen' kk HGN.out (by have := HBD.out; omega) _ x (HLX.out x (by rw [HXX.out, List.getD_eq_getElem?_getD, List.getElem?_eq_getElem hkl]; exact List.getElem_mem hkl)) wr (HK.out.below HBB.out HK.out.lt) hrj
      have HLN : Hid ((recsB gen' 0 (l.take kk)).length + (recB gen' kk x).length ≤ 140737488355328) := by
        have h1 := congrArg List.length HTK.out
        rw [List.length_append, len_recsB] at h1
        have h2 := sizeL_mono l (kk + 1)
        have h3 := sizeL_eq l
        have h4 := HBD.out
        show _ ≤ _
        omega
      clear hkl hrj f2 f3
      have tk0 : Hid True := trivial
      have tk1 : Hid True := trivial
      go_wp2_with (first
        | (clear tk0; go_at_call 101; refine HRC.out.mono ?_; rintro e0 y1 ⟨v1, rfl, ho, hz⟩
           replace HOW : Hid (OwnB y1 w.heap.size u10 (recsB gen' 0 (l.take kk))) := HOW.out.below hz (Nat.le_refl _)
           have HR1 : Hid (Reads y1 v1 (recB gen' kk x)) := ho.reads
           replace HBB : Hid (Below w.heap.size w y1) := HBB.out.trans (hz.mono HBB.out.size)
           clear ho hz)
        | (clear tk1; at_builtin; refine wpList_appendB rfl (.tmp 30) (.tmp 35) rfl w.heap.size _ (recsB gen' 0 (l.take kk)) rfl HOW.out _ (recB gen' kk x) rfl HR1.out HLN.out HBB.out.size ?_; intro v2 y2 ho hz _
           have HOW2 : Hid (OwnB y2 w.heap.size v2 (recsB gen' 0 (l.take (kk + 1)))) := by rw [HTK.out]; exact ho
           have HBB2 : Hid (Below w.heap.size w y2) := HBB.out.trans hz
           clear ho hz))
      go_roundw
      case rel => exact ⟨kk + 1, by omega, by simp, HOW2, HBB2⟩
      case measure => simp [intOf]; omega
    case neg =>
      have hlk : ¬ ((kk : Int) < (n : Int)) := by omega
      have HE : Hid (l.take kk = l) := List.take_of_length_le (by rw [← HN.out]; omega)
      rw [HE.out] at HOW
      obtain ⟨tx, HTX⟩ : ∃ t, Hid (t = recsB gen' 0 l) := ⟨_, rfl⟩
      obtain ⟨tn, HTN⟩ : ∃ t, Hid (t = tx.length) := ⟨_, rfl⟩
      rw [← HTX.out] at HOW
      obtain ⟨ta, tc, htv⟩ := ownB_form HOW.out
      rw [← HTN.out] at htv
      subst htv
      clear hk
      go_upto_region 8 with fail
      have HLR : Hid (Blk wr lg (lgC gd hs 0 k gen vr u) 144) := HLB.out.below HBB.out HLB.out.lt
      have HKR : Hid (KOk wr) := HK.out.below HBB.out HK.out.lt
      go_cut [13] from 38 to 55 (fun sv W => ∃ gT gz ah nh ch, sv = .slice (some ⟨gT, 0, none⟩) 3 3 ∧ Blk W gT (stC a0 a1 a0 (.slice (some ⟨gz, 0, none⟩) N N) (.slice ta tn tc) (.slice ah nh ch)) 162 ∧ Blk W gz (cb (List.replicate N 0)) 5 ∧ OwnB W w.heap.size (.slice ah nh ch) (headB gen') ∧ Below wr.heap.size wr W ∧ wr.heap.size ≤ gT ∧ wr.heap.size ≤ gz)
      case first =>
        have HMK : Hid (N ≤ N ∧ N < 281474976710600) := ⟨Nat.le_refl _, by have h1 := HNN.out; have h2 := HBD.out; omega⟩
        refine wp_region_held_drew (S := fun wx => wx.cell? ⟨lg, 2, none⟩ = some (.int .i64 (hs : Int))) (by kernel_rfl) (HLR.out.drew.cell 2) ?_
        intro hS
        replace HLR : Hid (Blk (World.drew wr) lg (lgC gd hs 0 k gen vr u) 144) := HLR.out.drew
        have HBD2 : Hid (Below wr.heap.size wr (World.drew wr)) := (Below.refl _ _).drew
        replace HKR : Hid (KOk (World.drew wr)) := HKR.out.below HBD2.out HKR.out.lt
        have HSZ : Hid (wr.heap.size = (World.drew wr).heap.size ∧ w.heap.size ≤ (World.drew wr).heap.size) := ⟨rfl, HBB.out.size⟩
        change wpAnyH _ _ _ _ _ _ _ _ (World.drew wr)
        generalize World.drew wr = y0 at *
        refine wpAnyH_take (i := 0) (v := .int .i64 (a0 : Int)) rfl (by kernel_rfl) (by kernel_rfl) (by kernel_rfl) (fun _ _ _ h => h) (Or.inl ⟨by rfl, fun wx hx => by simp [go_sem]⟩) hS ?_
        simp only [Act.put, List.getElem_toArray, List.getElem_cons_zero, List.setIfInBounds_toArray, List.set_cons_zero, List.set_cons_succ]
        refine wpAnyH_take (i := 1) (v := .pointer (some ⟨lg, 0, none⟩)) rfl (by kernel_rfl) (by kernel_rfl) (by kernel_rfl) (fun _ _ _ h => h) (Or.inl ⟨by rfl, fun wx hx => by simp [go_sem]⟩) hS ?_
        simp only [Act.put, List.getElem_toArray, List.getElem_cons_succ, List.getElem_cons_zero, List.setIfInBounds_toArray, List.set_cons_zero, List.set_cons_succ]
        refine wpAnyH_take (i := 2) (v := .pointer (some ⟨lg, 0, none⟩)) rfl (by kernel_rfl) (by kernel_rfl) (by kernel_rfl) (fun _ _ _ h => h) (Or.inl ⟨by rfl, fun wx hx => by simp [go_sem]⟩) hS ?_
        simp only [Act.put, List.getElem_toArray, List.getElem_cons_succ, List.getElem_cons_zero, List.setIfInBounds_toArray, List.set_cons_zero, List.set_cons_succ]
        refine wpAnyH_take (i := 3) (v := .pointer (some ⟨lg, 2, none⟩)) rfl (by kernel_rfl) (by kernel_rfl) (by kernel_rfl) (fun _ _ _ h => h) (Or.inl ⟨by rfl, fun wx hx => by simp [go_sem]⟩) hS ?_
        simp only [Act.put, List.getElem_toArray, List.getElem_cons_succ, List.getElem_cons_zero, List.setIfInBounds_toArray, List.set_cons_zero, List.set_cons_succ]
        refine wpAnyH_take (i := 4) (v := .int .i64 (hs : Int)) rfl (by kernel_rfl) (by kernel_rfl) (by kernel_rfl) (fun _ _ _ h => h) (Or.inl ⟨by rfl, fun wx hx => by simp [go_sem, hx]⟩) hS ?_
        simp only [Act.put, List.getElem_toArray, List.getElem_cons_succ, List.getElem_cons_zero, List.setIfInBounds_toArray, List.set_cons_zero, List.set_cons_succ]
        refine wpAnyH_take (i := 5) (v := .int .i64 (N : Int)) rfl (by kernel_rfl) (by kernel_rfl) (by kernel_rfl) (fun _ _ _ h => h) (Or.inl ⟨by rfl, fun wx hx => by simp [go_sem, f3]⟩) hS ?_
        simp only [Act.put, List.getElem_toArray, List.getElem_cons_succ, List.getElem_cons_zero, List.setIfInBounds_toArray, List.set_cons_zero, List.set_cons_succ]
        refine wpAnyH_take (i := 8) (v := .int .i64 (a0 : Int)) rfl (by kernel_rfl) (by kernel_rfl) (by kernel_rfl) (fun _ _ _ h => h) (Or.inl ⟨by rfl, fun wx hx => by simp [go_sem]⟩) hS ?_
        simp only [Act.put, List.getElem_toArray, List.getElem_cons_succ, List.getElem_cons_zero, List.setIfInBounds_toArray, List.set_cons_zero, List.set_cons_succ]
        refine wpAnyH_take (i := 9) (v := .int .i64 (a1 : Int)) rfl (by kernel_rfl) (by kernel_rfl) (by kernel_rfl) (fun _ _ _ h => h) (Or.inl ⟨by rfl, fun wx hx => by simp [go_sem, f2]⟩) hS ?_
        simp only [Act.put, List.getElem_toArray, List.getElem_cons_succ, List.getElem_cons_zero, List.setIfInBounds_toArray, List.set_cons_zero, List.set_cons_succ]
        refine wpAnyH_take (i := 10) (v := .slice ta tn tc) rfl (by kernel_rfl) (by kernel_rfl) (by kernel_rfl) (fun _ _ _ h => h) (Or.inl ⟨by rfl, fun wx hx => by simp [go_sem]⟩) hS ?_
        simp only [Act.put, List.getElem_toArray, List.getElem_cons_succ, List.getElem_cons_zero, List.setIfInBounds_toArray, List.set_cons_zero, List.set_cons_succ]
        refine wpAnyH_take (i := 11) (v := .agg #[.int .i64 (a1 : Int), .slice ta tn tc]) rfl (by kernel_rfl) (by kernel_rfl) (by kernel_rfl) (fun _ _ _ h => h) (Or.inl ⟨by rfl, fun wx hx => by exact build_op _ _ 162 [(0, .tmp 47), (1, .tmp 48)] rfl _ (built_st _ _ _ _ _ rfl _ rfl) _⟩) hS ?_
        simp only [Act.put, List.getElem_toArray, List.getElem_cons_succ, List.getElem_cons_zero, List.setIfInBounds_toArray, List.set_cons_zero, List.set_cons_succ]
        refine wpAnyH_take (i := 12) (v := .int .i64 (a0 : Int)) rfl (by kernel_rfl) (by kernel_rfl) (by kernel_rfl) (fun _ _ _ h => h) (Or.inl ⟨by rfl, fun wx hx => by simp [go_sem]⟩) hS ?_
        simp only [Act.put, List.getElem_toArray, List.getElem_cons_succ, List.getElem_cons_zero, List.setIfInBounds_toArray, List.set_cons_zero, List.set_cons_succ]
        refine wpAnyH_take (i := 13) (v := .int .u64 (gen' : Int)) rfl (by kernel_rfl) (by kernel_rfl) (by kernel_rfl) (fun _ _ _ h => h) (Or.inl ⟨by rfl, fun wx hx => by simp [go_sem]⟩) hS ?_
        simp only [Act.put, List.getElem_toArray, List.getElem_cons_succ, List.getElem_cons_zero, List.setIfInBounds_toArray, List.set_cons_zero, List.set_cons_succ]
        refine wpAnyH_pair 6 14 (by kernel_rfl) ?_ ?_
        · have hz1 := below_alloc y0 (.cells (cb (List.replicate N 0)).toArray 5)
          have hbz : Blk (y0.alloc (.cells (cb (List.replicate N 0)).toArray 5)) y0.heap.size (cb (List.replicate N 0)) 5 := Blk.new _ _ _
          refine wpOp_vl 6 (.slice (some ⟨y0.heap.size, 0, none⟩) N N) (y0.alloc (.cells (cb (List.replicate N 0)).toArray 5)) (by rfl) (by rfl) (make_zs _ _ (.tmp 43) N HMK.out.2 rfl rfl _) ?_
          replace hS : (y0.alloc (.cells (cb (List.replicate N 0)).toArray 5)).cell? ⟨lg, 2, none⟩ = some (.int .i64 (hs : Int)) := (HLR.out.below hz1 HLR.out.lt).cell 2
          refine ⟨hS, ?_⟩
          simp only [Act.put, List.getElem_toArray, List.getElem_cons_succ, List.getElem_cons_zero, List.setIfInBounds_toArray, List.set_cons_zero, List.set_cons_succ]
          generalize y0.alloc (.cells (cb (List.replicate N 0)).toArray 5) = y1 at *
          obtain ⟨gz, HGZ⟩ : ∃ g, Hid (g = y0.heap.size) := ⟨_, rfl⟩
          rw [← HGZ.out] at hbz ⊢
          refine wpAnyH_take (i := 7) (v := .agg #[.int .i64 (a0 : Int), .slice (some ⟨gz, 0, none⟩) N N]) rfl (by kernel_rfl) (by kernel_rfl) (by kernel_rfl) (fun _ _ _ h => h) (Or.inl ⟨by rfl, fun wx hx => by exact build_op _ _ 162 [(0, .tmp 38), (1, .tmp 44)] rfl _ (built_st _ _ _ _ _ rfl _ rfl) _⟩) hS ?_
          simp only [Act.put, List.getElem_toArray, List.getElem_cons_succ, List.getElem_cons_zero, List.setIfInBounds_toArray, List.set_cons_zero, List.set_cons_succ]
          refine wpAnyH_enter 14 (by kernel_rfl) rfl (by rfl) (f := 118) (args := #[.int .u64 (gen' : Int)]) (by simp [go_sem]) (jHead_own gen' HGN.out _ (HKR.out.below hz1 HKR.out.lt)) ?_
          rintro e0 y2 ⟨vh, rfl, ho, hz2⟩
          obtain ⟨ah, ch, hvh⟩ := ownB_form ho
          obtain ⟨nh, HNH⟩ : ∃ m, Hid (m = (headB gen').length) := ⟨_, rfl⟩
          rw [← HNH.out] at hvh
          subst hvh
          replace hS : y2.cell? ⟨lg, 2, none⟩ = some (.int .i64 (hs : Int)) := ((HLR.out.below hz1 HLR.out.lt).below hz2 (HLR.out.below hz1 HLR.out.lt).lt).cell 2
          refine ⟨_, rfl, hS, ?_⟩
          simp only [Act.put, List.getElem_toArray, List.getElem_cons_succ, List.getElem_cons_zero, List.setIfInBounds_toArray, List.set_cons_zero, List.set_cons_succ]
          refine wpAnyH_take (i := 15) (v := .agg #[.int .i64 (a0 : Int), .slice ah nh ch]) rfl (by kernel_rfl) (by kernel_rfl) (by kernel_rfl) (fun _ _ _ h => h) (Or.inl ⟨by rfl, fun wx hx => by exact build_op _ _ 162 [(0, .tmp 50), (1, .tmp 52)] rfl _ (built_st _ _ _ _ _ rfl _ rfl) _⟩) hS ?_
          simp only [Act.put, List.getElem_toArray, List.getElem_cons_succ, List.getElem_cons_zero, List.setIfInBounds_toArray, List.set_cons_zero, List.set_cons_succ]
          have hz3 := below_alloc y2 (.cells (stC a0 a1 a0 (.slice (some ⟨gz, 0, none⟩) N N) (.slice ta tn tc) (.slice ah nh ch)).toArray 162)
          have hbt : Blk (y2.alloc (.cells (stC a0 a1 a0 (.slice (some ⟨gz, 0, none⟩) N N) (.slice ta tn tc) (.slice ah nh ch)).toArray 162)) y2.heap.size (stC a0 a1 a0 (.slice (some ⟨gz, 0, none⟩) N N) (.slice ta tn tc) (.slice ah nh ch)) 162 := Blk.new _ _ _
          refine wpAnyH_step 16 (.slice (some ⟨y2.heap.size, 0, none⟩) 3 3) (y2.alloc (.cells (stC a0 a1 a0 (.slice (some ⟨gz, 0, none⟩) N N) (.slice ta tn tc) (.slice ah nh ch)).toArray 162)) (by kernel_rfl) rfl (by rfl) (build_sts _ _ (.tmp 45) (.tmp 49) (.tmp 53) _ _ _ _ _ _ _ _ _ _ _ _ rfl rfl rfl rfl _) ((((HLR.out.below hz1 HLR.out.lt).below hz2 (HLR.out.below hz1 HLR.out.lt).lt).below hz3 ((HLR.out.below hz1 HLR.out.lt).below hz2 (HLR.out.below hz1 HLR.out.lt).lt).lt).cell 2) ?_
          simp only [Act.put, List.getElem_toArray, List.getElem_cons_succ, List.getElem_cons_zero, List.setIfInBounds_toArray, List.set_cons_zero, List.set_cons_succ]
          replace hS := (((HLR.out.below hz1 HLR.out.lt).below hz2 (HLR.out.below hz1 HLR.out.lt).lt).below hz3 ((HLR.out.below hz1 HLR.out.lt).below hz2 (HLR.out.below hz1 HLR.out.lt).lt).lt).cell 2
          refine wpAnyH_take (i := 17) (v := .slice (some ⟨y2.heap.size, 0, none⟩) 3 3) rfl (by kernel_rfl) (by kernel_rfl) (by kernel_rfl) (fun _ _ _ h => h) (Or.inl ⟨by rfl, fun wx hx => by simp [go_sem]⟩) hS ?_
          simp only [Act.put, List.getElem_toArray, List.getElem_cons_succ, List.getElem_cons_zero, List.setIfInBounds_toArray, List.set_cons_zero, List.set_cons_succ]
          refine wpAnyH_done (by kernel_rfl) ?_ _
          go_wp2
          go_meet
          case rel =>
            have hbb1 : Below wr.heap.size wr y2 := HBD2.out.trans ((hz1.trans (hz2.mono hz1.size)).mono (by rw [HSZ.out.1]; exact Nat.le_refl _))
            have h7 : wr.heap.size ≤ y2.heap.size := hbb1.size
            refine ⟨y2.heap.size, gz, ah, nh, ch, rfl, hbt, (hbz.below hz2 hbz.lt).below hz3 (hbz.below hz2 hbz.lt).lt, ownB_lower (ho.below hz3 (Nat.le_refl _)) (Nat.le_trans HSZ.out.2 hz1.size), hbb1.trans (hz3.mono hbb1.size), h7, by rw [HGZ.out, HSZ.out.1]; exact Nat.le_refl _⟩
        · refine wpOp_en 14 (by rfl) (by rfl) (f := 118) (args := #[.int .u64 (gen' : Int)]) (by simp [go_sem]) (jHead_own gen' HGN.out _ HKR.out) ?_
          rintro e0 y1 ⟨vh, rfl, ho, hz1⟩
          obtain ⟨ah, ch, hvh⟩ := ownB_form ho
          obtain ⟨nh, HNH⟩ : ∃ m, Hid (m = (headB gen').length) := ⟨_, rfl⟩
          rw [← HNH.out] at hvh
          subst hvh
          have hl1 : Blk y1 lg (lgC gd hs 0 k gen vr u) 144 := HLR.out.below hz1 HLR.out.lt
          replace hS : y1.cell? ⟨lg, 2, none⟩ = some (.int .i64 (hs : Int)) := hl1.cell 2
          refine ⟨_, rfl, hS, ?_⟩
          simp only [Act.put, List.getElem_toArray, List.getElem_cons_succ, List.getElem_cons_zero, List.setIfInBounds_toArray, List.set_cons_zero, List.set_cons_succ]
          refine wpAnyH_take (i := 15) (v := .agg #[.int .i64 (a0 : Int), .slice ah nh ch]) rfl (by kernel_rfl) (by kernel_rfl) (by kernel_rfl) (fun _ _ _ h => h) (Or.inl ⟨by rfl, fun wx hx => by exact build_op _ _ 162 [(0, .tmp 50), (1, .tmp 52)] rfl _ (built_st _ _ _ _ _ rfl _ rfl) _⟩) hS ?_
          simp only [Act.put, List.getElem_toArray, List.getElem_cons_succ, List.getElem_cons_zero, List.setIfInBounds_toArray, List.set_cons_zero, List.set_cons_succ]
          have hz2 := below_alloc y1 (.cells (cb (List.replicate N 0)).toArray 5)
          have hbz : Blk (y1.alloc (.cells (cb (List.replicate N 0)).toArray 5)) y1.heap.size (cb (List.replicate N 0)) 5 := Blk.new _ _ _
          have hl2 : Blk (y1.alloc (.cells (cb (List.replicate N 0)).toArray 5)) lg (lgC gd hs 0 k gen vr u) 144 := hl1.below hz2 hl1.lt
          refine wpAnyH_step 6 (.slice (some ⟨y1.heap.size, 0, none⟩) N N) (y1.alloc (.cells (cb (List.replicate N 0)).toArray 5)) (by kernel_rfl) rfl (by rfl) (make_zs _ _ (.tmp 43) N HMK.out.2 rfl rfl _) (hl2.cell 2) ?_
          replace hS := hl2.cell 2
          simp only [Act.put, List.getElem_toArray, List.getElem_cons_succ, List.getElem_cons_zero, List.setIfInBounds_toArray, List.set_cons_zero, List.set_cons_succ]
          generalize y1.alloc (.cells (cb (List.replicate N 0)).toArray 5) = y2 at *
          obtain ⟨gz, HGZ⟩ : ∃ g, Hid (g = y1.heap.size) := ⟨_, rfl⟩
          rw [← HGZ.out] at hbz ⊢
          refine wpAnyH_take (i := 7) (v := .agg #[.int .i64 (a0 : Int), .slice (some ⟨gz, 0, none⟩) N N]) rfl (by kernel_rfl) (by kernel_rfl) (by kernel_rfl) (fun _ _ _ h => h) (Or.inl ⟨by rfl, fun wx hx => by exact build_op _ _ 162 [(0, .tmp 38), (1, .tmp 44)] rfl _ (built_st _ _ _ _ _ rfl _ rfl) _⟩) hS ?_
          simp only [Act.put, List.getElem_toArray, List.getElem_cons_succ, List.getElem_cons_zero, List.setIfInBounds_toArray, List.set_cons_zero, List.set_cons_succ]
          have hz3 := below_alloc y2 (.cells (stC a0 a1 a0 (.slice (some ⟨gz, 0, none⟩) N N) (.slice ta tn tc) (.slice ah nh ch)).toArray 162)
          have hbt : Blk (y2.alloc (.cells (stC a0 a1 a0 (.slice (some ⟨gz, 0, none⟩) N N) (.slice ta tn tc) (.slice ah nh ch)).toArray 162)) y2.heap.size (stC a0 a1 a0 (.slice (some ⟨gz, 0, none⟩) N N) (.slice ta tn tc) (.slice ah nh ch)) 162 := Blk.new _ _ _
          refine wpAnyH_step 16 (.slice (some ⟨y2.heap.size, 0, none⟩) 3 3) (y2.alloc (.cells (stC a0 a1 a0 (.slice (some ⟨gz, 0, none⟩) N N) (.slice ta tn tc) (.slice ah nh ch)).toArray 162)) (by kernel_rfl) rfl (by rfl) (build_sts _ _ (.tmp 45) (.tmp 49) (.tmp 53) _ _ _ _ _ _ _ _ _ _ _ _ rfl rfl rfl rfl _) ((hl2.below hz3 hl2.lt).cell 2) ?_
          simp only [Act.put, List.getElem_toArray, List.getElem_cons_succ, List.getElem_cons_zero, List.setIfInBounds_toArray, List.set_cons_zero, List.set_cons_succ]
          replace hS := (hl2.below hz3 hl2.lt).cell 2
          refine wpAnyH_take (i := 17) (v := .slice (some ⟨y2.heap.size, 0, none⟩) 3 3) rfl (by kernel_rfl) (by kernel_rfl) (by kernel_rfl) (fun _ _ _ h => h) (Or.inl ⟨by rfl, fun wx hx => by simp [go_sem]⟩) hS ?_
          simp only [Act.put, List.getElem_toArray, List.getElem_cons_succ, List.getElem_cons_zero, List.setIfInBounds_toArray, List.set_cons_zero, List.set_cons_succ]
          refine wpAnyH_done (by kernel_rfl) ?_ _
          go_wp2
          go_meet
          case rel =>
            have hbb1 : Below wr.heap.size wr y2 := HBD2.out.trans ((hz1.trans (hz2.mono hz1.size)).mono (by rw [HSZ.out.1]; exact Nat.le_refl _))
            have h7 : wr.heap.size ≤ y2.heap.size := hbb1.size
            refine ⟨y2.heap.size, gz, ah, nh, ch, rfl, hbt, hbz.below hz3 hbz.lt, ownB_lower ((ho.below hz2 (Nat.le_refl _)).below hz3 (Nat.le_refl _)) HSZ.out.2, hbb1.trans (hz3.mono hbb1.size), h7, by rw [HGZ.out, HSZ.out.1]; exact hz1.size⟩
      case rest =>
        obtain ⟨gT, gz, ah, nh, ch, rfl, hbT, hbz, hoh, hbw, hgT, hgz⟩ := hcut
        clear HLR HKR
        have HBC : Hid (Below w.heap.size w wc) := HBB.out.trans (hbw.mono HBB.out.size)
        have HLT : Hid (∀ x, Un P (fun x => x = lg) x → x < w.heap.size) := fun x hx => hx.elim (HDK.out.lt14 x) (fun e => by rw [e]; exact HLB.out.lt)
        have HMC : Hid (Mut (Un P (fun x => x = lg)) w wc) := mut_below HBC.out _
        have HST0 : Hid (Sta (Un P (fun x => x = lg)) wc (fun W => ReadsL W (.slice ad n c) l)) := HST.out.below HBC.out
        have HT0 : Hid (∀ j, j < 3 → Sta (Un P (fun x => x = lg)) wc (fun W => Reads W ([.slice (some ⟨gz, 0, none⟩) N N, .slice ta tn tc, .slice ah nh ch].getD j undef) (stR hs gen' l j))) := fun j hj => by
          match j, hj with
          | 0, _ =>
            have e : stR hs gen' l 0 = List.replicate N 0 := by show List.replicate (64 * hs) 0 = _; rw [HNN.out, Nat.mul_comm]
            show Sta _ wc (fun W => Reads W (.slice (some ⟨gz, 0, none⟩) N N) (stR hs gen' l 0))
            rw [e]
            exact hbz.stB (fun h => absurd (HLT.out gz h) (by have := HBB.out.size; omega)) (by rw [List.length_replicate]) (by rw [List.length_replicate]; exact Nat.le_refl _)
          | 1, _ =>
            show Sta _ wc (fun W => Reads W (.slice ta tn tc) (recsB gen' 0 l))
            rw [← HTX.out]
            exact (HOW.out.below hbw (Nat.le_refl _)).st HLT.out
          | 2, _ => exact hoh.st HLT.out
        have HV0 : Hid (BgI wc gd lg P (lgC gd hs 0 k gen vr u) D L P D (stL hs k' gen' l 0) wc) := ⟨HDK.out.same14 (fun x hx => HBC.out.block x (HDK.out.lt14 x hx)), Grew.refl _ _, HLB.out.below HBC.out HLB.out.lt, Mut.refl _ _, HWT.out, by rw [HLL.out]⟩
        have HBT : Hid (Blk wc gT (stC a0 a1 a0 (.slice (some ⟨gz, 0, none⟩) N N) (.slice ta tn tc) (.slice ah nh ch)) 162) := hbT
        have HGT : Hid (¬ Un P (fun x => x = lg) gT) := fun h => absurd (HLT.out gT h) (by have := HBB.out.size; omega)
        have HAT : Hid (∀ j, j < 3 → stA hs k' j = ([a0, a1, a0] : List Nat).getD j 0) := fun j hj => by
          match j, hj with
          | 0, _ => show k' * hs = a0; rw [HA0.out]
          | 1, _ => show k' * hs + 1 = a1; rw [HA1.out, HA0.out]
          | 2, _ => show k' * hs = a0; rw [HA0.out]
        clear hbT hbz hoh hbw hgT hgz
        go_wp2
        go_loopw [57] (fun i wr => ∃ (j : Nat) (P' : Nat → Prop) (D' : DkT), j ≤ 3 ∧ i = .int .i64 (j : Int) ∧ Hid (BgI wc gd lg P (lgC gd hs 0 k gen vr u) D L P' D' (stL hs k' gen' l j) wr)) (fun i _ => 3 - (intOf i).toNat)
        case atStart => exact ⟨0, P, D, by omega, rfl, HV0⟩
        case round =>
          clear HV0
          obtain ⟨j, P', D', hj, rfl, HBI⟩ := hrel
          by_cases hlt3 : j < 3
          case pos =>
            have hlk3 : (j : Int) < 3 := by omega
            have g1 : IntKind.i64.wrap ((j : Int) + 1) = (j : Int) + 1 := by rw [IntKind.wrap_i64]; omega
            obtain ⟨aj, HAJ⟩ : ∃ m, Hid (m = stA hs k' j) := ⟨_, rfl⟩
            obtain ⟨mj, HMJ⟩ : ∃ m, Hid (m = stM hs l j) := ⟨_, rfl⟩
            obtain ⟨rj, HRJ⟩ : ∃ m, Hid (m = stR hs gen' l j) := ⟨_, rfl⟩
            obtain ⟨tj, HTJ⟩ : ∃ t : Value, Hid (t = [.slice (some ⟨gz, 0, none⟩) N N, .slice ta tn tc, .slice ah nh ch].getD j undef) := ⟨_, rfl⟩
            have hcell : (stC a0 a1 a0 (.slice (some ⟨gz, 0, none⟩) N N) (.slice ta tn tc) (.slice ah nh ch))[2 * j]? = some (.int .i64 (aj : Int)) ∧ (stC a0 a1 a0 (.slice (some ⟨gz, 0, none⟩) N N) (.slice ta tn tc) (.slice ah nh ch))[2 * j + 1]? = some tj := by
              rw [HAJ.out, HAT.out j hlt3, HTJ.out]
              match j, hlt3 with
              | 0, _ => exact ⟨rfl, rfl⟩
              | 1, _ => exact ⟨rfl, rfl⟩
              | 2, _ => exact ⟨rfl, rfl⟩
            have HSJ : Hid (Sta (Un P (fun x => x = lg)) wc (fun W => Reads W tj rj)) := by rw [HTJ.out, HRJ.out]; exact HT0.out j hlt3
            have HPO : Hid (∀ x, x < wc.heap.size → Un P' (fun x => x = lg) x → Un P (fun x => x = lg) x) := fun x hx h => h.elim (fun h => (HBI.out.gr x h).elim Or.inl (fun h2 => absurd h2 (by omega))) Or.inr
            have HNP2 : Hid (¬ P' lg) := fun h => (HBI.out.gr lg h).elim HNP.out (fun h2 => absurd h2 (by have h3 := HLB.out.lt; have h4 := HBC.out.size; omega))
            obtain ⟨tad, tnn, tcc, htj⟩ := (HSJ.out.now).form
            subst htj
            have HBTr : Hid (Blk wr gT (stC a0 a1 a0 (.slice (some ⟨gz, 0, none⟩) N N) (.slice ta tn tc) (.slice ah nh ch)) 162) := HBI.out.mv.blk HBT.out HGT.out
            have HRG : Hid (wr.rangeAt gT (2 * j) [.int .i64 (aj : Int), .slice tad tnn tcc]) := fun i v hv => by
              match i, hv with
              | 0, hv => simp at hv; subst hv; rw [Nat.add_zero, HBTr.out.cell]; exact hcell.1
              | 1, hv => simp at hv; subst hv; rw [HBTr.out.cell]; exact hcell.2
            obtain ⟨D2, x2, HX2⟩ : ∃ D2 x, Hid (runJ D' (stS hs k' gen' l j) = (D2, x)) := ⟨(runJ D' (stS hs k' gen' l j)).1, (runJ D' (stS hs k' gen' l j)).2, rfl⟩
            have HPC : Hid (∀ W, Below wr.heap.size wr W → Calls Tryz.prog 102 #[.pointer (some ⟨lg, 0, none⟩), .int .i64 (aj : Int), .slice tad tnn tcc] W fun e w' => e = .returned (.int .i64 x2) ∧ ∃ P2, DkIs w' gd P2 D2 ∧ Blk w' lg (lgC gd hs x2 k gen vr u) 144 ∧ Mut (Un P' (fun x => x = lg)) W w' ∧ Grew W P' P2) := fun W hW => by
              have hbi := HBI.out
              have hmW : Mut (Un P (fun x => x = lg)) wc W := hbi.mv.trans (fun _ _ h => h) (mut_below hW _)
              have h1 := jPut_any (w := W) (gd := gd) (lg := lg) (P := P') (D := D') hs k gen u aj mj vr (.slice tad tnn tcc) rj (hbi.dk.same14 (fun x hx => hW.block x (hbi.dk.lt14 x hx))) (hbi.lb.below hW hbi.lb.lt) HNP2.out (by rw [HRJ.out, HMJ.out]; exact len_stR hs gen' l hlt3) (by rw [HMJ.out]; have h2 := stM_le (l := l) HBD.out.2.2.2.1 j; have h3 := HBD.out; omega) (by rw [HAJ.out]; unfold stA; have h2 := HAB.out; have h3 := HA0.out; have h4 := HA1.out; split <;> omega) (by rw [hbi.wt]; show 0 + mj ≤ 200; rw [HMJ.out]; have h2 := stM_le (l := l) HBD.out.2.2.2.1 j; have h3 := HBD.out; omega) (HSJ.out.go hmW HPO.out)
              have e : (secsOf aj mj rj).map some ++ [none] = stS hs k' gen' l j := by rw [stS, HAJ.out, HMJ.out, HRJ.out]
              rw [e, HX2.out] at h1
              exact h1
            have HRS : Hid (runJ D L = if x2 = 0 then runJ D2 (stL hs k' gen' l (j + 1)) else (D2, x2)) := by
              show _ = _
              rw [HBI.out.run, stL_step hs k' gen' l hlt3, run_two, HX2.out]
            have HWT2 : Hid (x2 = 0 → D2.wait = []) := fun h => by
              have h1 := seg_wait (secsOf (stA hs k' j) (stM hs l j) (stR hs gen' l j)) D'
              have e : (secsOf (stA hs k' j) (stM hs l j) (stR hs gen' l j)).map some ++ [none] = stS hs k' gen' l j := rfl
              rw [e, HX2.out] at h1
              exact h1 h
            clear hcell
            have tk0 : Hid True := trivial
            have tk1 : Hid True := trivial
            have tk2 : Hid True := trivial
            have tk3 : Hid True := trivial
            have tk4 : Hid True := trivial
            go_upto_region 13 with (first
              | (clear tk0; refine wpSeq_val (.pointer (some ⟨gT, 2 * j, none⟩)) _ (by rfl) (idxSt gT j hlt3 _ _ (.tmp 55) (.tmp 57) rfl rfl rfl _) ?_)
              | (clear tk1; with_reducible refine wpSeq_loadW 162 (.tmp 59) gT (2 * j) [.int .i64 (aj : Int), .slice tad tnn tcc] _ HRG.out Tryz.underlying162 rfl (info_st _ _) ?_ ?_ ?_ ?_
                 · rfl
                 · rfl
                 · rfl)
              | (clear tk2; with_reducible refine wpSeq_allocSt ?_ ?_ ?_
                 · rfl
                 · rfl
                 intro g15 y1 nn
                 have HN1 : Hid (NewR [.int .i64 0, .slice none 0 0] 162 wr g15 y1) := nn
                 clear nn)
              | (clear tk3; with_reducible refine wpSeq_storeRow 162 (.tmp 15) (.tmp 60) g15 [.int .i64 0, .slice none 0 0] [.int .i64 (aj : Int), .slice tad tnn tcc] HN1.out.blk (len_st _ _ _ _) (info_st _ _) (st_one _ _ _ _) ?_ ?_ ?_ ?_ ?_
                 · rfl
                 · rfl
                 · rfl
                 · rfl
                 intro y2 hs2
                 have HB2 : Hid (Below wr.heap.size wr y2) := HN1.out.below.trans (hs2.only.below HN1.out.ge HN1.out.below.size)
                 have c0 : y2.cell? ⟨g15, 0, none⟩ = some (.int .i64 (aj : Int)) := hs2.blk.cell 0
                 have c1 : y2.cell? ⟨g15, 1, none⟩ = some (.slice tad tnn tcc) := hs2.blk.cell 1
                 clear hs2)
              | (clear tk4; go_at_call 102; refine (HPC.out _ HB2.out).mono ?_; rintro e0 y3 ⟨rfl, P2, hd2, hl2, hm2, hg2⟩
                 have hm3 : Mut (Un P (fun x => x = lg)) wc y3 := (HBI.out.mv.trans (fun _ _ h => h) (mut_below HB2.out _)).trans HPO.out hm2
                 have hg3 : Grew wc P P2 := HBI.out.gr.trans (Nat.le_trans HBI.out.mv.size HB2.out.size) hg2
                 have HD3 : Hid (DkIs y3 gd P2 D2 ∧ Blk y3 lg (lgC gd hs x2 k gen vr u) 144 ∧ Mut (Un P (fun x => x = lg)) wc y3 ∧ Grew wc P P2) := ⟨hd2, hl2, hm3, hg3⟩
                 clear hd2 hl2 hm2 hg2 hm3 hg3 c0 c1))
            by_cases hx0 : x2 = 0
            case pos =>
              subst hx0
              have HBI2 : Hid (BgI wc gd lg P (lgC gd hs 0 k gen vr u) D L P2 D2 (stL hs k' gen' l (j + 1)) y3) := ⟨HD3.out.1, HD3.out.2.2.2, HD3.out.2.1, HD3.out.2.2.1, HWT2.out rfl, by rw [HRS.out, if_pos rfl]⟩
              go_wp2
              go_roundw
              case rel => exact ⟨j + 1, P2, D2, by omega, by simp, HBI2⟩
              case measure => simp [intOf]; omega
            case neg =>
              have q1 : (x2 != 0) = true := by rw [bne_iff_ne]; exact hx0
              have hxe : D2 = DX ∧ x2 = xX := by
                have h := HRS.out
                rw [if_neg hx0, HX.out] at h
                exact ⟨(congrArg Prod.fst h).symm, (congrArg Prod.snd h).symm⟩
              obtain ⟨rfl, rfl⟩ := hxe
              go_wp2
              go_ret
              exact ⟨rfl, P2, HD3.out.1, fun h => absurd h hx0, HMC.out.trans (fun _ _ h => h) HD3.out.2.2.1, fun x hx => (HD3.out.2.2.2 x hx).imp id (fun h => Nat.le_trans HBC.out.size h)⟩
          case neg =>
            obtain rfl : j = 3 := by omega
            have hlk3 : ¬ (((3 : Nat) : Int) < 3) := by omega
            have hxe : D' = DX ∧ 0 = xX := by
              have h := HBI.out.run
              rw [HX.out] at h
              exact ⟨(congrArg Prod.fst h).symm, (congrArg Prod.snd h).symm⟩
            obtain ⟨rfl, rfl⟩ := hxe
            obtain ⟨ts, HTS⟩ : ∃ m, Hid (m = secL l) := ⟨_, rfl⟩
            obtain ⟨u2, HU2⟩ : ∃ m, Hid (m = 1 + secL l) := ⟨_, rfl⟩
            have HSC : Hid (∀ W, Calls Tryz.prog 103 #[.int .i64 (tn : Int)] W fun e w' => e = .returned (.int .i64 (ts : Int)) ∧ w' = W) := fun W => by
              have h2 : tn = 64 * secL l := by rw [HTN.out, HTX.out, len_recsB, sizeL_eq]
              have h3 := HBD.out
              have h1 := jSectors_any tn (by omega) W
              have e : (tn + 63) / 64 = ts := by rw [HTS.out]; omega
              rw [e] at h1
              exact h1
            have g2 : IntKind.i64.wrap (1 + (ts : Int)) = (u2 : Int) := by rw [IntKind.wrap_i64]; have h1 := HTS.out; have h2 := HU2.out; have h3 := HBD.out; omega
            have HLR : Hid (Blk wr lg (lgC gd hs 0 k gen vr u) 144) := HBI.out.lb
            have tk0 : Hid True := trivial
            have tk1 : Hid True := trivial
            have tk2 : Hid True := trivial
            go_wp2_with (first
              | (clear tk0; go_at_call 103; refine (HSC.out _).mono ?_; rintro e0 y1 ⟨rfl, hy1⟩; subst hy1)
              | (clear tk1; with_reducible refine wpSeq_build 138 [(0, .tmp 72), (1, .tmp 73), (2, .tmp 74), (3, .tmp 78)] (ctC k' gen' (.slice ad n c) u2) ?_ ?_ ?_ ?_
                 · exact built_ct4 _ _ _ _ _ _ _ rfl
                 · rfl
                 · rfl)
              | (clear tk2; with_reducible refine wpSeq_storeCt (.tmp 81) (.tmp 79) lg gd hs 0 k gen u k' gen' u2 vr ad n c HLR.out ?_ ?_ ?_ ?_ ?_
                 · rfl
                 · rfl
                 · rfl
                 · rfl
                 intro y2 hb2 ho2
                 have HL2 : Hid (Blk y2 lg (lgC gd hs 0 k' gen' (.slice ad n c) u2) 144) := hb2
                 have HO2 : Hid (Only lg y1 y2) := ho2
                 clear hb2 ho2))
            go_ret
            have hnp2 : ¬ P' lg := fun h => (HBI.out.gr lg h).elim HNP.out (fun h2 => absurd h2 (by have h3 := HLB.out.lt; have h4 := HBC.out.size; omega))
            refine ⟨rfl, P', HBI.out.dk.same14 (fun x hx => HO2.out.block x (fun e => hnp2 (e ▸ hx)) (HBI.out.dk.lt14 x hx)), by first | (intro _; rw [← HU2.out]; exact HL2.out) | (rw [← HU2.out]; exact HL2.out), HMC.out.trans (fun _ _ h => h) (HBI.out.mv.trans (fun _ _ h => h) (HO2.out.mut (Or.inr rfl))), fun x hx => (HBI.out.gr x hx).imp id (fun h => Nat.le_trans HBC.out.size h)⟩
end Go.Proofs.YtopmeedmgjdcgaaGreatDoor
/- The walks of journal's next, Append and Restart, as they landed (layer 14). -/
namespace Go.Proofs.YtopmeedmgjdcgaaGreatDoor
open Go.RowKit
set_option maxRecDepth 100000
/-- the next generation's number -/
def gN (gen : Nat) : Nat := (gen + 1) % 18446744073709551616
theorem gN_eq {gen : Nat} (h : gen + 1 < 18446744073709551616) : gN gen = gen + 1 := Nat.mod_eq_of_lt h
theorem gN_lt (gen : Nat) : gN gen < 18446744073709551616 := Nat.mod_lt _ (by decide)
set_option maxRecDepth 100000 in
set_option maxHeartbeats 8000000 in
theorem jNext_any {w : World} {gd lg : Nat} {P : Nat → Prop} {D : DkT} (hs k gen u : Nat) (vr v : Value) (l : List Bs) (hK : KOk w) (hdk : DkIs w gd P D) (hwt : D.wait = []) (hlb : Blk w lg (lgC gd hs 0 k gen vr u) 144) (hnp : ¬ P lg) (hk1 : k ≤ 1) (hs1 : 1 ≤ hs) (hs2 : hs ≤ 50) (hfit : 1 + secL l ≤ hs) (hst : Sta (Un P (fun x => x = lg)) w (fun W => ReadsL W v l)) :
    Calls Tryz.prog 92 #[.pointer (some ⟨lg, 0, none⟩), v] w fun e w' => e = .returned (.int .i64 (runJ D (anewS hs (1 - k) (gN gen) l)).2) ∧ ∃ P', DkIs w' gd P' (runJ D (anewS hs (1 - k) (gN gen) l)).1 ∧ ((runJ D (anewS hs (1 - k) (gN gen) l)).2 = 0 → Blk w' lg (lgC gd hs 0 (1 - k) (gN gen) v (1 + secL l)) 144) ∧ Mut (Un P (fun x => x = lg)) w w' ∧ Grew w P P' := by
  obtain ⟨k1, HK1⟩ : ∃ m, Hid (m = 1 - k) := ⟨_, rfl⟩
  obtain ⟨g1, HG1⟩ : ∃ m, Hid (m = gN gen) := ⟨_, rfl⟩
  have f1 : IntKind.i64.wrap (1 - (k : Int)) = (k1 : Int) := by rw [IntKind.wrap_i64]; have := HK1.out; omega
  have f2 : IntKind.u64.wrap ((gen : Int) + 1) = (g1 : Int) := by rw [IntKind.wrap_u64, HG1.out, gN]; omega
  rw [← HK1.out, ← HG1.out]
  obtain ⟨xX, HXX⟩ : ∃ x, Hid (x = (runJ D (anewS hs k1 g1 l)).2) := ⟨_, rfl⟩
  have HC : Hid (∀ W, Below w.heap.size w W → Calls Tryz.prog 91 #[.pointer (some ⟨lg, 0, none⟩), .int .i64 (k1 : Int), .int .u64 (g1 : Int), v] W fun e w' => e = .returned (.int .i64 xX) ∧ ∃ P', DkIs w' gd P' (runJ D (anewS hs k1 g1 l)).1 ∧ (xX = 0 → Blk w' lg (lgC gd hs 0 k1 g1 v (1 + secL l)) 144) ∧ Mut (Un P (fun x => x = lg)) w w' ∧ Grew w P P') := fun W hW => by
    rw [HXX.out]
    refine (jBegin_any (w := W) hs k gen u k1 g1 vr v l (hK.below hW hK.lt) (hdk.same14 (fun x hx => hW.block x (hdk.lt14 x hx))) hwt (hlb.below hW hlb.lt) hnp (by rw [HK1.out]; omega) (by rw [HG1.out]; exact gN_lt gen) hs1 hs2 hfit (hst.below hW)).mono ?_
    rintro e w' ⟨h1, P', h2, h3, h4, h5⟩
    exact ⟨h1, P', h2, h3, (mut_below hW _).trans (fun _ _ h => h) h4, fun x hx => (h5 x hx).imp id (fun h => Nat.le_trans hW.size h)⟩
  rw [← HXX.out]
  obtain ⟨ad, n, c, hv⟩ : ∃ a n c, v = .slice a n c := by obtain ⟨a, c, hv, _⟩ := hst.now; exact ⟨_, _, _, hv⟩
  have HV : Hid (v = .slice ad n c) := hv
  have c4 : w.drew.cell? ⟨lg, 4, none⟩ = some (.int .i64 (k : Int)) := hlb.cell 4
  have c5 : w.drew.cell? ⟨lg, 5, none⟩ = some (.int .u64 (gen : Int)) := hlb.cell 5
  have HBD : Hid (Below w.heap.size w w.drew) := (Below.refl _ _).drew
  clear hK hdk hwt hlb hnp hk1 hs1 hs2 hfit hst hv
  go_enter Tryz.func92, Tryz.ntmps92
  go_upto_region 1 with fail
  refine wp_region_held_drew (S := fun _ => True) (by kernel_rfl) trivial ?_
  intro _
  refine wpAnyH_take (i := 0) (v := .pointer (some ⟨lg, 0, none⟩)) rfl (by kernel_rfl) (by kernel_rfl) (by kernel_rfl) (fun _ _ _ h => h) (Or.inl ⟨by rfl, fun wx hx => by simp [go_sem]⟩) trivial ?_
  simp only [Act.put, List.getElem_toArray, List.getElem_cons_zero, List.setIfInBounds_toArray, List.set_cons_zero, List.set_cons_succ]
  refine wpAnyH_take (i := 1) (v := .pointer (some ⟨lg, 0, none⟩)) rfl (by kernel_rfl) (by kernel_rfl) (by kernel_rfl) (fun _ _ _ h => h) (Or.inl ⟨by rfl, fun wx hx => by simp [go_sem]⟩) trivial ?_
  simp only [Act.put, List.getElem_toArray, List.getElem_cons_succ, List.getElem_cons_zero, List.setIfInBounds_toArray, List.set_cons_zero, List.set_cons_succ]
  refine wpAnyH_take (i := 2) (v := .pointer (some ⟨lg, 0, none⟩)) rfl (by kernel_rfl) (by kernel_rfl) (by kernel_rfl) (fun _ _ _ h => h) (Or.inl ⟨by rfl, fun wx hx => by simp [go_sem]⟩) trivial ?_
  simp only [Act.put, List.getElem_toArray, List.getElem_cons_succ, List.getElem_cons_zero, List.setIfInBounds_toArray, List.set_cons_zero, List.set_cons_succ]
  refine wpAnyH_take (i := 3) (v := .pointer (some ⟨lg, 4, none⟩)) rfl (by kernel_rfl) (by kernel_rfl) (by kernel_rfl) (fun _ _ _ h => h) (Or.inl ⟨by rfl, fun wx hx => by simp [go_sem]⟩) trivial ?_
  simp only [Act.put, List.getElem_toArray, List.getElem_cons_succ, List.getElem_cons_zero, List.setIfInBounds_toArray, List.set_cons_zero, List.set_cons_succ]
  refine wpAnyH_take (i := 4) (v := .pointer (some ⟨lg, 4, none⟩)) rfl (by kernel_rfl) (by kernel_rfl) (by kernel_rfl) (fun _ _ _ h => h) (Or.inl ⟨by rfl, fun wx hx => by simp [go_sem]⟩) trivial ?_
  simp only [Act.put, List.getElem_toArray, List.getElem_cons_succ, List.getElem_cons_zero, List.setIfInBounds_toArray, List.set_cons_zero, List.set_cons_succ]
  refine wpAnyH_take (i := 7) (v := .pointer (some ⟨lg, 0, none⟩)) rfl (by kernel_rfl) (by kernel_rfl) (by kernel_rfl) (fun _ _ _ h => h) (Or.inl ⟨by rfl, fun wx hx => by simp [go_sem]⟩) trivial ?_
  simp only [Act.put, List.getElem_toArray, List.getElem_cons_succ, List.getElem_cons_zero, List.setIfInBounds_toArray, List.set_cons_zero, List.set_cons_succ]
  refine wpAnyH_take (i := 8) (v := .pointer (some ⟨lg, 0, none⟩)) rfl (by kernel_rfl) (by kernel_rfl) (by kernel_rfl) (fun _ _ _ h => h) (Or.inl ⟨by rfl, fun wx hx => by simp [go_sem]⟩) trivial ?_
  simp only [Act.put, List.getElem_toArray, List.getElem_cons_succ, List.getElem_cons_zero, List.setIfInBounds_toArray, List.set_cons_zero, List.set_cons_succ]
  refine wpAnyH_take (i := 9) (v := .pointer (some ⟨lg, 4, none⟩)) rfl (by kernel_rfl) (by kernel_rfl) (by kernel_rfl) (fun _ _ _ h => h) (Or.inl ⟨by rfl, fun wx hx => by simp [go_sem]⟩) trivial ?_
  simp only [Act.put, List.getElem_toArray, List.getElem_cons_succ, List.getElem_cons_zero, List.setIfInBounds_toArray, List.set_cons_zero, List.set_cons_succ]
  refine wpAnyH_take (i := 10) (v := .pointer (some ⟨lg, 5, none⟩)) rfl (by kernel_rfl) (by kernel_rfl) (by kernel_rfl) (fun _ _ _ h => h) (Or.inl ⟨by rfl, fun wx hx => by simp [go_sem]⟩) trivial ?_
  simp only [Act.put, List.getElem_toArray, List.getElem_cons_succ, List.getElem_cons_zero, List.setIfInBounds_toArray, List.set_cons_zero, List.set_cons_succ]
  refine wpAnyH_take (i := 13) (v := v) rfl (by kernel_rfl) (by kernel_rfl) (by kernel_rfl) (fun _ _ _ h => h) (Or.inl ⟨by rfl, fun wx hx => by simp [go_sem]⟩) trivial ?_
  simp only [Act.put, List.getElem_toArray, List.getElem_cons_succ, List.getElem_cons_zero, List.setIfInBounds_toArray, List.set_cons_zero, List.set_cons_succ]
  refine wpAnyH_pair 5 11 (by kernel_rfl) ?_ ?_
  · refine wpOp_vl 5 (.int .i64 (k : Int)) w.drew (by rfl) (by rfl) (by simp [go_sem, c4]) ⟨trivial, ?_⟩
    simp only [Act.put, List.getElem_toArray, List.getElem_cons_succ, List.getElem_cons_zero, List.setIfInBounds_toArray, List.set_cons_zero, List.set_cons_succ]
    refine wpAnyH_take (i := 6) (v := .int .i64 (k1 : Int)) rfl (by kernel_rfl) (by kernel_rfl) (by kernel_rfl) (fun _ _ _ h => h) (Or.inl ⟨by rfl, fun wx hx => by simp [go_sem, f1]⟩) trivial ?_
    simp only [Act.put, List.getElem_toArray, List.getElem_cons_succ, List.getElem_cons_zero, List.setIfInBounds_toArray, List.set_cons_zero, List.set_cons_succ]
    refine wpAnyH_step 11 (.int .u64 (gen : Int)) w.drew (by kernel_rfl) rfl (by rfl) (by simp [go_sem, c5]) trivial ?_
    simp only [Act.put, List.getElem_toArray, List.getElem_cons_succ, List.getElem_cons_zero, List.setIfInBounds_toArray, List.set_cons_zero, List.set_cons_succ]
    refine wpAnyH_take (i := 12) (v := .int .u64 (g1 : Int)) rfl (by kernel_rfl) (by kernel_rfl) (by kernel_rfl) (fun _ _ _ h => h) (Or.inl ⟨by rfl, fun wx hx => by simp [go_sem, f2]⟩) trivial ?_
    simp only [Act.put, List.getElem_toArray, List.getElem_cons_succ, List.getElem_cons_zero, List.setIfInBounds_toArray, List.set_cons_zero, List.set_cons_succ]
    refine wpAnyH_enter 14 (by kernel_rfl) rfl (by rfl) (f := 91) (args := #[.pointer (some ⟨lg, 0, none⟩), .int .i64 (k1 : Int), .int .u64 (g1 : Int), v]) (by simp [go_sem]) (HC.out _ HBD.out) ?_
    rintro e0 y1 ⟨rfl, h1⟩
    refine ⟨_, rfl, trivial, ?_⟩
    simp only [Act.put, List.getElem_toArray, List.getElem_cons_succ, List.getElem_cons_zero, List.setIfInBounds_toArray, List.set_cons_zero, List.set_cons_succ]
    refine wpAnyH_take (i := 15) (v := .int .i64 xX) rfl (by kernel_rfl) (by kernel_rfl) (by kernel_rfl) (fun _ _ _ h => h) (Or.inl ⟨by rfl, fun wx hx => by simp [go_sem]⟩) trivial ?_
    simp only [Act.put, List.getElem_toArray, List.getElem_cons_succ, List.getElem_cons_zero, List.setIfInBounds_toArray, List.set_cons_zero, List.set_cons_succ]
    refine wpAnyH_done (by kernel_rfl) ?_ _
    go_wp2
    go_ret
    exact ⟨rfl, h1⟩
  · refine wpOp_vl 11 (.int .u64 (gen : Int)) w.drew (by rfl) (by rfl) (by simp [go_sem, c5]) ⟨trivial, ?_⟩
    simp only [Act.put, List.getElem_toArray, List.getElem_cons_succ, List.getElem_cons_zero, List.setIfInBounds_toArray, List.set_cons_zero, List.set_cons_succ]
    refine wpAnyH_take (i := 12) (v := .int .u64 (g1 : Int)) rfl (by kernel_rfl) (by kernel_rfl) (by kernel_rfl) (fun _ _ _ h => h) (Or.inl ⟨by rfl, fun wx hx => by simp [go_sem, f2]⟩) trivial ?_
    simp only [Act.put, List.getElem_toArray, List.getElem_cons_succ, List.getElem_cons_zero, List.setIfInBounds_toArray, List.set_cons_zero, List.set_cons_succ]
    refine wpAnyH_step 5 (.int .i64 (k : Int)) w.drew (by kernel_rfl) rfl (by rfl) (by simp [go_sem, c4]) trivial ?_
    simp only [Act.put, List.getElem_toArray, List.getElem_cons_succ, List.getElem_cons_zero, List.setIfInBounds_toArray, List.set_cons_zero, List.set_cons_succ]
    refine wpAnyH_take (i := 6) (v := .int .i64 (k1 : Int)) rfl (by kernel_rfl) (by kernel_rfl) (by kernel_rfl) (fun _ _ _ h => h) (Or.inl ⟨by rfl, fun wx hx => by simp [go_sem, f1]⟩) trivial ?_
    simp only [Act.put, List.getElem_toArray, List.getElem_cons_succ, List.getElem_cons_zero, List.setIfInBounds_toArray, List.set_cons_zero, List.set_cons_succ]
    refine wpAnyH_enter 14 (by kernel_rfl) rfl (by rfl) (f := 91) (args := #[.pointer (some ⟨lg, 0, none⟩), .int .i64 (k1 : Int), .int .u64 (g1 : Int), v]) (by simp [go_sem]) (HC.out _ HBD.out) ?_
    rintro e0 y1 ⟨rfl, h1⟩
    refine ⟨_, rfl, trivial, ?_⟩
    simp only [Act.put, List.getElem_toArray, List.getElem_cons_succ, List.getElem_cons_zero, List.setIfInBounds_toArray, List.set_cons_zero, List.set_cons_succ]
    refine wpAnyH_take (i := 15) (v := .int .i64 xX) rfl (by kernel_rfl) (by kernel_rfl) (by kernel_rfl) (fun _ _ _ h => h) (Or.inl ⟨by rfl, fun wx hx => by simp [go_sem]⟩) trivial ?_
    simp only [Act.put, List.getElem_toArray, List.getElem_cons_succ, List.getElem_cons_zero, List.setIfInBounds_toArray, List.set_cons_zero, List.set_cons_succ]
    refine wpAnyH_done (by kernel_rfl) ?_ _
    go_wp2
    go_ret
    exact ⟨rfl, h1⟩
/-- a log in memory: its cells, its records' row and texts -/
structure LgM (w : World) (lg gd n : Nat) (vr : Value) (us : List Value) (J : JnT) : Prop where
  lb : Blk w lg (lgC gd (n / 2) 0 J.k J.gen vr (1 + secL J.l)) 144
  tx : TxJ 0 vr us J.l w
def lgQ (lg : Nat) (vr : Value) (us : List Value) : Nat → Prop := fun k => k = lg ∨ vr.ownBlock = some k ∨ ∃ u ∈ us, u.ownBlock = some k
/-- the log J of the disk of n sectors at block gd lies at block lg, in blocks of Q alone -/
def LgJ (w : World) (lg : Nat) (Q : Nat → Prop) (gd n : Nat) (J : JnT) : Prop := ∃ vr us, LgM w lg gd n vr us J ∧ Q = lgQ lg vr us
theorem LgM.lt {w : World} {lg gd n : Nat} {vr : Value} {us : List Value} {J : JnT} (h : LgM w lg gd n vr us J) : ∀ k, lgQ lg vr us k → k < w.heap.size := fun k hk => by
  rcases hk with rfl | hk | ⟨u, hu, hk⟩
  · exact h.lb.lt
  · exact (h.tx.own.lt k hk).2
  · obtain ⟨i, hi, rfl⟩ := List.getElem_of_mem hu
    exact ((h.tx.good i _ (List.getElem?_eq_getElem hi)).ltJ k hk).2
theorem TxJ.sameQ {base : Nat} {v : Value} {us : List Value} {xs : List Bs} {w w' : World} (h : TxJ base v us xs w) (hs : w.heap.size ≤ w'.heap.size) (hv : ∀ k, v.ownBlock = some k → w'.heap[k]? = w.heap[k]?) (hu : ∀ u ∈ us, ∀ k, u.ownBlock = some k → w'.heap[k]? = w.heap[k]?) : TxJ base v us xs w' :=
  ⟨h.own.same hv, h.len, fun j u hj => (h.good j u hj).sameJ (hu u (List.mem_of_getElem? hj)), Nat.le_trans h.ge hs⟩
theorem LgM.same {w w' : World} {lg gd n : Nat} {vr : Value} {us : List Value} {J : JnT} (h : LgM w lg gd n vr us J) (hs : w.heap.size ≤ w'.heap.size) (hq : ∀ k, lgQ lg vr us k → w'.heap[k]? = w.heap[k]?) : LgM w' lg gd n vr us J :=
  ⟨blk_same h.lb (hq lg (Or.inl rfl)), h.tx.sameQ hs (fun k hk => hq k (Or.inr (Or.inl hk))) (fun u hu k hk => hq k (Or.inr (Or.inr ⟨u, hu, hk⟩)))⟩
theorem ownB_ne_lg {w : World} {base lg : Nat} {u : Value} {t : Bs} {cs : List Value} (h : OwnB w base u t) (hb : Blk w lg cs 144) : u.ownBlock ≠ some lg := fun e => by
  rcases h with ⟨_, ⟨rfl, _⟩ | ⟨g2, cap2, cur2, rfl, _, hh2, _⟩⟩
  · cases e
  have e2 : g2 = lg := by simpa [Value.ownBlock] using e
  unfold Blk at hb
  rw [← e2, hh2] at hb
  simp only [Option.some.injEq, Obj.cells.injEq] at hb
  exact absurd hb.2.1 (by decide)
theorem ownX_ne_lg {w : World} {base lg : Nat} {v : Value} {us : List Value} {cs : List Value} (h : OwnX w base v us) (hb : Blk w lg cs 144) : v.ownBlock ≠ some lg := fun e => by
  rcases h with ⟨_, ⟨rfl, _⟩ | ⟨g2, cap2, cur2, rfl, _, hh2, _⟩⟩
  · cases e
  have e2 : g2 = lg := by simpa [Value.ownBlock] using e
  unfold Blk at hb
  rw [← e2, hh2] at hb
  simp only [Option.some.injEq, Obj.cells.injEq] at hb
  exact absurd hb.2.1 (by decide)
theorem DkIs.typ {w : World} {g : Nat} {P : Nat → Prop} {D : DkT} (h : DkIs w g P D) : ∀ k, P k → ∃ cs t, w.heap[k]? = some (.cells cs t (0, 0)) ∧ t ≠ 23 ∧ t ≠ 5 ∧ t ≠ 144 := by
  obtain ⟨gs, vw, fu, lf, hm, rfl⟩ := h
  intro k hk
  rcases hk with rfl | rfl | hk
  · exact ⟨_, _, hm.me, by decide, by decide, by decide⟩
  · exact ⟨_, _, hm.sf, by decide, by decide, by decide⟩
  · rcases hm.wt with ⟨_, ⟨e, _⟩ | ⟨g2, cap2, cur2, e, _, hh2, _⟩⟩
    · rw [e] at hk; cases hk
    · rw [e] at hk
      have e2 : g2 = k := by simpa [Value.ownBlock] using hk
      rw [← e2]
      exact ⟨_, _, hh2, by decide, by decide, by decide⟩
/-- a disk and a log are apart by the types of their blocks -/
theorem pk_ap {w : World} {gd lg n : Nat} {P : Nat → Prop} {D : DkT} {vr : Value} {us : List Value} {J : JnT} (hd : DkIs w gd P D) (hm : LgM w lg gd n vr us J) : ∀ z, lgQ lg vr us z → ¬ P z := fun z hz hp => by
  obtain ⟨cs, t, h1, h2, h3, h4⟩ := hd.typ z hp
  rcases hz with rfl | hz | ⟨u, hu, hz⟩
  · have hb := hm.lb
    unfold Blk at hb
    rw [h1] at hb
    simp only [Option.some.injEq, Obj.cells.injEq] at hb
    exact h4 hb.2.1
  · rcases hm.tx.own with ⟨_, ⟨rfl, _⟩ | ⟨g2, cap2, cur2, rfl, _, hh2, _⟩⟩
    · cases hz
    have e2 : g2 = z := by simpa [Value.ownBlock] using hz
    rw [e2, h1] at hh2
    simp only [Option.some.injEq, Obj.cells.injEq] at hh2
    exact h2 hh2.2.1
  · obtain ⟨i, hi, rfl⟩ := List.getElem_of_mem hu
    rcases hm.tx.good i _ (List.getElem?_eq_getElem hi) with ⟨_, ⟨e, _⟩ | ⟨g2, cap2, cur2, e, _, hh2, _⟩⟩
    · rw [e] at hz; cases hz
    rw [e] at hz
    have e2 : g2 = z := by simpa [Value.ownBlock] using hz
    rw [e2, h1] at hh2
    simp only [Option.some.injEq, Obj.cells.injEq] at hh2
    exact h3 hh2.2.1
theorem run_err : ∀ (L : List (Option (Nat × Bs))) (D : DkT), okD D → (∀ p, some p ∈ L → p.1 < sizeD D ∧ p.2.length = 64) → (runJ D L).2 = 0 ∨ (runJ D L).2 = 14
  | [], _, _, _ => Or.inl rfl
  | some p :: L, D, hd, h => by
    have hp := h p (List.mem_cons_self ..)
    have hh : ¬ (hasD D (p.1 : Int) = false) := by rw [hasD_not]; exact fun e => e ⟨by omega, by omega⟩
    have e : putX13 D (p.1 : Int) p.2 = 0 ∨ putX13 D (p.1 : Int) p.2 = 14 := by
      unfold putX13
      by_cases h1 : D.down = true
      · rw [if_pos h1]; exact Or.inr rfl
      rw [if_neg h1, if_neg hh, if_neg (by rw [hp.2]; decide)]
      by_cases h2 : D.left = 0
      · rw [if_pos h2]; exact Or.inr rfl
      · rw [if_neg h2]; exact Or.inl rfl
    rw [runJ]
    by_cases h1 : putX13 D (p.1 : Int) p.2 = 0
    · rw [if_pos h1]
      exact run_err L _ (hd.put _ _) (fun q hq => by rw [show sizeD (putD13 D (p.1 : Int) p.2) = sizeD D by rw [sizeD, size_put]; rfl]; exact h q (List.mem_cons_of_mem _ hq))
    · rw [if_neg h1]; exact e
  | none :: L, D, hd, h => by
    have e : syncX13 D = 0 ∨ syncX13 D = 14 := by
      unfold syncX13
      split
      · exact Or.inr rfl
      split
      · exact Or.inr rfl
      · exact Or.inl rfl
    rw [runJ]
    by_cases h1 : syncX13 D = 0
    · rw [if_pos h1]
      exact run_err L _ hd.sync (fun q hq => by rw [size_sync hd]; exact h q (List.mem_cons_of_mem _ hq))
    · rw [if_neg h1]; exact e
theorem room_iff {hs u n : Nat} (h0 : 0 < n) (h1 : n ≤ 1048576) (hu : u ≤ hs) (hh : hs < 10000) : min 1048576 (64 * (hs - u) - 57) < n ↔ hs < u + secR n := by
  unfold secR
  omega
theorem Sta.weak {P Q : Nat → Prop} {w : World} {X : World → Prop} (h : Sta P w X) (hq : ∀ k, k < w.heap.size → Q k → P k) : Sta Q w X := fun w' m => h w' ⟨m.os, m.tape, m.output, m.size, fun k hk hn => m.block k hk (fun h2 => hn (hq k hk h2))⟩
theorem lg_set {w : World} {lg gd hs k gen u : Nat} {fl : Int} {vr : Value} (v : Value) (h : Blk w lg (lgC gd hs fl k gen vr u) 144) : Blk (w.setCell ⟨lg, 6, none⟩ v) lg (lgC gd hs fl k gen v u) 144 := h.set 6 v
theorem lg_setU {w : World} {lg gd hs k gen u : Nat} {fl : Int} {vr : Value} (u' : Nat) (h : Blk w lg (lgC gd hs fl k gen vr u) 144) : Blk (w.setCell ⟨lg, 7, none⟩ (.int .i64 (u' : Int))) lg (lgC gd hs fl k gen vr u') 144 := h.set 7 _
set_option maxRecDepth 100000 in
set_option maxHeartbeats 8000000 in
theorem jAppend_any {w : World} {gd lg : Nat} {P Q : Nat → Prop} {D : DkT} {J : JnT} (v : Value) (x : Bs) (hK : KOk w) (hp : Pk LgJ w gd lg P Q D J) (hok : okJ D J) (hxl : x.length ≤ 100000) (hst : Sta (Un P Q) w (fun W => Reads W v x)) :
    Calls Tryz.prog 79 #[.pointer (some ⟨lg, 0, none⟩), v] w fun e w' => e = .returned (.int .i64 (appX J D x)) ∧ ∃ P' Q', DkIs w' gd P' (appD J D x) ∧ Mut (Un P Q) w w' ∧ Grew w (Un P Q) (Un P' Q') ∧ (appX J D x ≠ 14 → Pk LgJ w' gd lg P' Q' (appD J D x) (appJ J D x)) := by
  obtain ⟨vr, us, hm, hQ⟩ := id hp.lg
  obtain ⟨nx, HNX⟩ : ∃ m, Hid (m = x.length) := ⟨_, rfl⟩
  obtain ⟨ax, cx, hv⟩ : ∃ a c, v = .slice a nx c := by obtain ⟨a, c, hv, _⟩ := hst.now; rw [← HNX.out] at hv; exact ⟨a, c, hv⟩
  subst hv
  obtain ⟨hs, HHS⟩ : ∃ m, Hid (m = sizeD D / 2) := ⟨_, rfl⟩
  obtain ⟨u, HU⟩ : ∃ m, Hid (m = 1 + secL J.l) := ⟨_, rfl⟩
  obtain ⟨k, HKK⟩ : ∃ m, Hid (m = J.k) := ⟨_, rfl⟩
  obtain ⟨gen, HGN⟩ : ∃ m, Hid (m = J.gen) := ⟨_, rfl⟩
  obtain ⟨kn, HKN⟩ : ∃ m, Hid (m = J.l.length) := ⟨_, rfl⟩
  obtain ⟨xa, xc, hvr⟩ := hm.tx.form
  rw [← HKN.out] at hvr
  subst hvr
  have hlb := hm.lb
  rw [← HHS.out, ← HU.out, ← HKK.out, ← HGN.out] at hlb
  have HLB : Hid (Blk w lg (lgC gd hs 0 k gen (.slice xa kn xc) u) 144) := hlb
  have HTX : Hid (TxJ 0 (.slice xa kn xc) us J.l w) := hm.tx
  have HDK : Hid (DkIs w gd P D) := hp.dk
  have HQQ : Hid (Q = lgQ lg (.slice xa kn xc) us) := hQ
  have HAP : Hid (∀ k, Q k → ¬ P k) := hp.ap
  have HK : Hid (KOk w) := hK
  have HRD : Hid (Sta (Un P Q) w (fun W => Reads W (.slice ax nx cx) x)) := hst
  have HPP : Hid (Pk LgJ w gd lg P Q D J) := hp
  have hfit := hok.fit
  have hsl := sizeL_ge J.l
  rw [sizeL_eq] at hsl
  have hhd : hsD D = hs := HHS.out.symm
  rw [hhd, ← HU.out] at hfit
  have HBD : Hid (u ≤ hs ∧ hs ≤ 50 ∧ k ≤ 1 ∧ gen < 18446744073709551616 ∧ kn < 1000 ∧ nx ≤ 100000 ∧ 4 ≤ hs ∧ D.wait = [] ∧ sizeD D ≤ 100) := ⟨hfit, by have h1 := HHS.out; have h2 := hok.hi; omega, by rw [HKK.out]; exact hok.k1, by have h1 := hok.g2; rw [HGN.out]; omega, by have h1 := HKN.out; have h2 := HU.out; have h3 := hok.hi; have h4 := HHS.out; omega, by rw [HNX.out]; exact hxl, by have h1 := HHS.out; have h2 := hok.lo; omega, hok.wt, hok.hi⟩
  have HCK : Hid (∀ W, Below w.heap.size w W → Calls Tryz.prog 100 #[.slice ax nx cx] W fun e w' => e = .returned (.int .i64 (chkX x)) ∧ w' = W) := fun W hW => jCheck_any _ x W (hst.now.below hW)
  have HEE : Hid (appE J D x = if chkX x = 1 then 1 else if hs < u + secR nx then 13 else 0) := by show _ = _; rw [appE, hhd, HU.out, HNX.out]
  clear hK hok hxl hst hm hQ hlb hfit hhd hp hsl
  obtain ⟨cc, HCC⟩ : ∃ z, Hid (z = chkX x) := ⟨_, rfl⟩
  rw [← HCC.out] at HCK HEE
  have HCO : Hid (cc = 0 ∨ cc = 1) := by rw [HCC.out]; exact chk_or x
  by_cases hc1 : cc = 1
  case pos =>
    subst hc1
    have hE : appE J D x = 1 := by rw [HEE.out, if_pos rfl]
    have hX : appX J D x = 1 := by rw [appX, if_neg (by rw [hE]; decide), hE]
    have hD : appD J D x = D := by rw [appD, if_neg (by rw [hE]; decide)]
    have hJ : appJ J D x = J := by rw [appJ, if_neg (by rw [hE]; decide)]
    rw [hX, hD, hJ]
    clear hE hX hD hJ
    go_enter Tryz.func79, Tryz.ntmps79
    have tk0 : Hid True := trivial
    go_wp2_with (first
      | (clear tk0; go_at_call 100; refine (HCK.out _ (Below.refl _ _)).mono ?_; rintro e0 y1 ⟨rfl, hy1⟩; subst hy1))
    go_ret
    refine ⟨rfl, P, Q, HPP.out.dk, Mut.refl _ _, Grew.refl _ _, ?_⟩
    first | exact fun _ => HPP.out | exact HPP.out
  obtain rfl : cc = 0 := HCO.out.elim id (fun h => absurd h hc1)
  have HNN : Hid (0 < nx ∧ nx ≤ 1048576) := by
    have h := HCC.out.symm
    unfold chkX at h
    by_cases h3 : x.length = 0 ∨ 1048576 < x.length
    · rw [if_pos h3] at h; cases h
    · rw [← HNX.out] at h3
      exact ⟨by omega, by omega⟩
  obtain ⟨rm, HRM⟩ : ∃ m, Hid (m = min 1048576 (64 * (hs - u) - 57)) := ⟨_, rfl⟩
  have HRO : Hid (∀ W, Blk W lg (lgC gd hs 0 k gen (.slice xa kn xc) u) 144 → Calls Tryz.prog 78 #[.pointer (some ⟨lg, 0, none⟩)] W fun e w' => e = .returned (.int .i64 (rm : Int)) ∧ Below W.heap.size W w') := fun W hW => by
    rw [HRM.out]
    exact jRoom_any hW HBD.out.1 (by have := HBD.out; omega)
  have HRI : Hid (rm < nx ↔ hs < u + secR nx) := by rw [HRM.out]; exact room_iff HNN.out.1 HNN.out.2 HBD.out.1 (by have := HBD.out; omega)
  by_cases hno : hs < u + secR nx
  case pos =>
    have hE : appE J D x = 13 := by rw [HEE.out, if_neg (by decide), if_pos hno]
    have hX : appX J D x = 13 := by rw [appX, if_neg (by rw [hE]; decide), hE]
    have hD : appD J D x = D := by rw [appD, if_neg (by rw [hE]; decide)]
    have hJ : appJ J D x = J := by rw [appJ, if_neg (by rw [hE]; decide)]
    rw [hX, hD, hJ]
    have q1 : (rm : Int) < (nx : Int) := by have := HRI.out.2 hno; omega
    clear hE hX hD hJ hno hc1
    go_enter Tryz.func79, Tryz.ntmps79
    have tk0 : Hid True := trivial
    have tk1 : Hid True := trivial
    go_wp2_with (first
      | (clear tk0; go_at_call 100; refine (HCK.out _ (Below.refl _ _)).mono ?_; rintro e0 y1 ⟨rfl, hy1⟩; subst hy1)
      | (clear tk1; go_at_call 78; refine (HRO.out _ HLB.out).mono ?_; rintro e0 y2 ⟨rfl, hz⟩
         have HBW : Hid (Below y1.heap.size y1 y2) := hz
         clear hz))
    go_ret
    have hpk : Pk LgJ y2 gd lg P Q D J := ⟨HPP.out.dk.same14 (fun x hx => HBW.out.block x (HPP.out.dk.lt14 x hx)), by
      obtain ⟨vr, us, hm, hQ⟩ := HPP.out.lg
      exact ⟨vr, us, hm.same HBW.out.size (fun x hx => HBW.out.block x (hm.lt x hx)), hQ⟩, HPP.out.ap⟩
    refine ⟨rfl, P, Q, hpk.dk, mut_below HBW.out _, Grew.refl _ _, ?_⟩
    first | exact fun _ => hpk | exact hpk
  case neg =>
    have hE : appE J D x = 0 := by rw [HEE.out, if_neg (by decide), if_neg hno]
    have q1 : ¬ ((rm : Int) < (nx : Int)) := by have := (not_congr HRI.out).2 hno; omega
    obtain ⟨sx, HSX⟩ : ∃ m, Hid (m = secR nx) := ⟨_, rfl⟩
    obtain ⟨at_, HAT⟩ : ∃ m, Hid (m = k * hs + u) := ⟨_, rfl⟩
    obtain ⟨kh, HKH⟩ : ∃ m, Hid (m = k * hs) := ⟨_, rfl⟩
    obtain ⟨rb, HRB⟩ : ∃ r, Hid (r = recB gen kn x) := ⟨_, rfl⟩
    obtain ⟨rl, HRL⟩ : ∃ m, Hid (m = rb.length) := ⟨_, rfl⟩
    have HRL2 : Hid (rl = 64 * sx) := by show _ = _; rw [HRL.out, HRB.out, len_recB, HSX.out, HNX.out]
    have hkh : kh ≤ hs := by rw [HKH.out]; rcases Nat.le_one_iff_eq_zero_or_eq_one.1 HBD.out.2.2.1 with e | e <;> rw [e] <;> omega
    have HSB : Hid (u + sx ≤ hs ∧ at_ ≤ 100 ∧ at_ = kh + u ∧ kh ≤ 50) := ⟨by rw [HSX.out]; omega, by have h1 := HBD.out; have h2 := HAT.out; have h3 := HKH.out; omega, by rw [HAT.out, HKH.out], by have := HBD.out; omega⟩
    have HSG : Hid (appS (hsD D) J.k J.gen J.l x = (secsOf at_ sx rb).map some ++ [none]) := by
      show _ = _
      rw [appS, show hsD D = hs from HHS.out.symm, ← HKK.out, ← HGN.out, ← HKN.out, ← HU.out, ← HAT.out, ← HNX.out, ← HSX.out, ← HRB.out]
    obtain ⟨DX, xX, HX⟩ : ∃ D2 z, Hid (runJ D ((secsOf at_ sx rb).map some ++ [none]) = (D2, z)) := ⟨(runJ D ((secsOf at_ sx rb).map some ++ [none])).1, (runJ D ((secsOf at_ sx rb).map some ++ [none])).2, rfl⟩
    have hX : appX J D x = xX := by rw [appX, if_pos hE, HSG.out, HX.out]
    have hD : appD J D x = DX := by rw [appD, if_pos hE, HSG.out, HX.out]
    have hJ : appJ J D x = ⟨J.k, J.gen, J.l ++ [x]⟩ := by rw [appJ, if_pos hE]
    have HOKD : Hid (okD D) := by obtain ⟨_, _, _, _, hm, _⟩ := HDK.out; exact hm.ok
    have HER : Hid ((xX = 0 ∨ xX = 14) ∧ sizeD DX = sizeD D) := by
      have h1 := run_err ((secsOf at_ sx rb).map some ++ [none]) D HOKD.out (fun p hp => by
        rw [List.mem_append] at hp
        rcases hp with hp | hp
        · rw [List.mem_map] at hp
          obtain ⟨q, hq, e⟩ := hp
          cases e
          exact secs_mem (n := sizeD D) sx at_ rb (by rw [← HRL.out, HRL2.out]) (by have h2 := HSB.out; have h3 := HHS.out; have h4 := HKH.out; have h5 := hkh; omega) p hq
        · simp at hp)
      have h2 := (run_size ((secsOf at_ sx rb).map some ++ [none]) D HOKD.out).1
      rw [HX.out] at h1 h2
      exact ⟨h1, h2⟩
    rw [hX, hD, hJ]
    have f1 : IntKind.u64.wrap (kn : Int) = (kn : Int) := uJ (by have := HBD.out; omega)
    have f2 : IntKind.i64.wrap ((k : Int) * (hs : Int)) = (kh : Int) := mJ HKH.out (by have := HBD.out; omega)
    have f3 : IntKind.i64.wrap ((kh : Int) + (u : Int)) = (at_ : Int) := aJ HSB.out.2.2.1 (by have := HSB.out; omega)
    obtain ⟨u2, HU2⟩ : ∃ m, Hid (m = u + sx) := ⟨_, rfl⟩
    have f4 : IntKind.i64.wrap ((u : Int) + (sx : Int)) = (u2 : Int) := aJ HU2.out (by have h1 := HU2.out; have h2 := HSB.out; have h3 := HBD.out; omega)
    have HLT : Hid (∀ k, Un P Q k → k < w.heap.size) := fun k hk => hk.elim (HDK.out.lt14 k) (fun h => by
      obtain ⟨vr, us, hm, hQ⟩ := HPP.out.lg
      rw [hQ] at h
      exact hm.lt k h)
    have HQL : Hid (Q lg) := by rw [HQQ.out]; exact Or.inl rfl
    have HUN : Hid (∀ k, Un P (fun z => z = lg) k → Un P Q k) := fun k hk => hk.elim Or.inl (fun e => Or.inr (by rw [e]; exact HQL.out))
    have HNP : Hid (¬ P lg) := HAP.out lg HQL.out
    clear hE hX hD hJ hno hc1 hkh HEE HRI
    go_enter Tryz.func79, Tryz.ntmps79
    have tk0 : Hid True := trivial
    have tk1 : Hid True := trivial
    go_upto_region 6 with (first
      | (clear tk0; go_at_call 100; refine (HCK.out _ (Below.refl _ _)).mono ?_; rintro e0 y1 ⟨rfl, hy1⟩; subst hy1)
      | (clear tk1; go_at_call 78; refine (HRO.out _ HLB.out).mono ?_; rintro e0 y2 ⟨rfl, hz⟩
         have HBW : Hid (Below y1.heap.size y1 y2) := hz
         clear hz))
    have HD2 : Hid (Below y1.heap.size y1 y2.drew) := HBW.out.drew
    have HL2 : Hid (Blk y2.drew lg (lgC gd hs 0 k gen (.slice xa kn xc) u) 144) := HLB.out.below HD2.out HLB.out.lt
    refine wp_region_held_drew (S := fun wx => Blk wx lg (lgC gd hs 0 k gen (.slice xa kn xc) u) 144) (by kernel_rfl) HL2.out ?_
    intro hS
    refine wpAnyH_take (i := 0) (v := .pointer (some ⟨lg, 0, none⟩)) rfl (by kernel_rfl) (by kernel_rfl) (by kernel_rfl) (fun _ _ _ h => h) (Or.inl ⟨by rfl, fun wx hx => by simp [go_sem]⟩) hS ?_
    simp only [Act.put, List.getElem_toArray, List.getElem_cons_zero, List.setIfInBounds_toArray, List.set_cons_zero, List.set_cons_succ]
    refine wpAnyH_take (i := 1) (v := .pointer (some ⟨lg, 0, none⟩)) rfl (by kernel_rfl) (by kernel_rfl) (by kernel_rfl) (fun _ _ _ h => h) (Or.inl ⟨by rfl, fun wx hx => by simp [go_sem]⟩) hS ?_
    simp only [Act.put, List.getElem_toArray, List.getElem_cons_succ, List.getElem_cons_zero, List.setIfInBounds_toArray, List.set_cons_zero, List.set_cons_succ]
    refine wpAnyH_take (i := 2) (v := .pointer (some ⟨lg, 4, none⟩)) rfl (by kernel_rfl) (by kernel_rfl) (by kernel_rfl) (fun _ _ _ h => h) (Or.inl ⟨by rfl, fun wx hx => by simp [go_sem]⟩) hS ?_
    simp only [Act.put, List.getElem_toArray, List.getElem_cons_succ, List.getElem_cons_zero, List.setIfInBounds_toArray, List.set_cons_zero, List.set_cons_succ]
    refine wpAnyH_take (i := 3) (v := .pointer (some ⟨lg, 5, none⟩)) rfl (by kernel_rfl) (by kernel_rfl) (by kernel_rfl) (fun _ _ _ h => h) (Or.inl ⟨by rfl, fun wx hx => by simp [go_sem]⟩) hS ?_
    simp only [Act.put, List.getElem_toArray, List.getElem_cons_succ, List.getElem_cons_zero, List.setIfInBounds_toArray, List.set_cons_zero, List.set_cons_succ]
    refine wpAnyH_take (i := 4) (v := .int .u64 (gen : Int)) rfl (by kernel_rfl) (by kernel_rfl) (by kernel_rfl) (fun _ _ _ h => h) (Or.inl ⟨by rfl, fun wx hx => by (have c0 : wx.cell? ⟨lg, 5, none⟩ = some (.int .u64 (gen : Int)) := hx.cell 5; simp [go_sem, c0])⟩) hS ?_
    simp only [Act.put, List.getElem_toArray, List.getElem_cons_succ, List.getElem_cons_zero, List.setIfInBounds_toArray, List.set_cons_zero, List.set_cons_succ]
    refine wpAnyH_take (i := 5) (v := .pointer (some ⟨lg, 0, none⟩)) rfl (by kernel_rfl) (by kernel_rfl) (by kernel_rfl) (fun _ _ _ h => h) (Or.inl ⟨by rfl, fun wx hx => by simp [go_sem]⟩) hS ?_
    simp only [Act.put, List.getElem_toArray, List.getElem_cons_succ, List.getElem_cons_zero, List.setIfInBounds_toArray, List.set_cons_zero, List.set_cons_succ]
    refine wpAnyH_take (i := 6) (v := .pointer (some ⟨lg, 0, none⟩)) rfl (by kernel_rfl) (by kernel_rfl) (by kernel_rfl) (fun _ _ _ h => h) (Or.inl ⟨by rfl, fun wx hx => by simp [go_sem]⟩) hS ?_
    simp only [Act.put, List.getElem_toArray, List.getElem_cons_succ, List.getElem_cons_zero, List.setIfInBounds_toArray, List.set_cons_zero, List.set_cons_succ]
    refine wpAnyH_take (i := 7) (v := .pointer (some ⟨lg, 4, none⟩)) rfl (by kernel_rfl) (by kernel_rfl) (by kernel_rfl) (fun _ _ _ h => h) (Or.inl ⟨by rfl, fun wx hx => by simp [go_sem]⟩) hS ?_
    simp only [Act.put, List.getElem_toArray, List.getElem_cons_succ, List.getElem_cons_zero, List.setIfInBounds_toArray, List.set_cons_zero, List.set_cons_succ]
    refine wpAnyH_take (i := 8) (v := .pointer (some ⟨lg, 6, none⟩)) rfl (by kernel_rfl) (by kernel_rfl) (by kernel_rfl) (fun _ _ _ h => h) (Or.inl ⟨by rfl, fun wx hx => by simp [go_sem]⟩) hS ?_
    simp only [Act.put, List.getElem_toArray, List.getElem_cons_succ, List.getElem_cons_zero, List.setIfInBounds_toArray, List.set_cons_zero, List.set_cons_succ]
    refine wpAnyH_take (i := 9) (v := .slice xa kn xc) rfl (by kernel_rfl) (by kernel_rfl) (by kernel_rfl) (fun _ _ _ h => h) (Or.inl ⟨by rfl, fun wx hx => by (have c0 : wx.cell? ⟨lg, 6, none⟩ = some (.slice xa kn xc) := hx.cell 6; simp [go_sem, c0])⟩) hS ?_
    simp only [Act.put, List.getElem_toArray, List.getElem_cons_succ, List.getElem_cons_zero, List.setIfInBounds_toArray, List.set_cons_zero, List.set_cons_succ]
    refine wpAnyH_take (i := 10) (v := .int .i64 (kn : Int)) rfl (by kernel_rfl) (by kernel_rfl) (by kernel_rfl) (fun _ _ _ h => h) (Or.inl ⟨by rfl, fun wx hx => by simp [go_sem]⟩) hS ?_
    simp only [Act.put, List.getElem_toArray, List.getElem_cons_succ, List.getElem_cons_zero, List.setIfInBounds_toArray, List.set_cons_zero, List.set_cons_succ]
    refine wpAnyH_take (i := 11) (v := .int .u64 (kn : Int)) rfl (by kernel_rfl) (by kernel_rfl) (by kernel_rfl) (fun _ _ _ h => h) (Or.inl ⟨by rfl, fun wx hx => by simp [go_sem, f1]⟩) hS ?_
    simp only [Act.put, List.getElem_toArray, List.getElem_cons_succ, List.getElem_cons_zero, List.setIfInBounds_toArray, List.set_cons_zero, List.set_cons_succ]
    refine wpAnyH_take (i := 12) (v := .slice ax nx cx) rfl (by kernel_rfl) (by kernel_rfl) (by kernel_rfl) (fun _ _ _ h => h) (Or.inl ⟨by rfl, fun wx hx => by simp [go_sem]⟩) hS ?_
    simp only [Act.put, List.getElem_toArray, List.getElem_cons_succ, List.getElem_cons_zero, List.setIfInBounds_toArray, List.set_cons_zero, List.set_cons_succ]
    refine wpAnyH_enter 13 (by kernel_rfl) rfl (by rfl) (f := 101) (args := #[.int .u64 (gen : Int), .int .u64 (kn : Int), .slice ax nx cx]) (by simp [go_sem]) (jRecord_own gen kn HBD.out.2.2.2.1 (by have := HBD.out; omega) _ x (by rw [← HNX.out]; have := HBD.out; omega) _ (HK.out.below HD2.out HK.out.lt) (HRD.out.now.below HD2.out)) ?_
    rintro e0 y3 ⟨v3, rfl, ho3, hz3⟩
    rw [← HRB.out] at ho3
    obtain ⟨a3, c3, hv3⟩ := ownB_form ho3
    rw [← HRL.out] at hv3
    subst hv3
    replace hS : Blk y3 lg (lgC gd hs 0 k gen (.slice xa kn xc) u) 144 := HL2.out.below hz3 HL2.out.lt
    refine ⟨_, rfl, hS, ?_⟩
    simp only [Act.put, List.getElem_toArray, List.getElem_cons_succ, List.getElem_cons_zero, List.setIfInBounds_toArray, List.set_cons_zero, List.set_cons_succ]
    refine wpAnyH_take (i := 14) (v := .slice a3 rl c3) rfl (by kernel_rfl) (by kernel_rfl) (by kernel_rfl) (fun _ _ _ h => h) (Or.inl ⟨by rfl, fun wx hx => by simp [go_sem]⟩) hS ?_
    simp only [Act.put, List.getElem_toArray, List.getElem_cons_succ, List.getElem_cons_zero, List.setIfInBounds_toArray, List.set_cons_zero, List.set_cons_succ]
    refine wpAnyH_done (by kernel_rfl) ?_ _
    have HB3 : Hid (Below y1.heap.size y1 y3) := HD2.out.trans (hz3.mono HD2.out.size)
    have HO3 : Hid (Sta (Un P Q) y3 (fun W => Reads W (.slice a3 rl c3) rb)) := (ho3.st (P := Un P Q) (fun z hz => Nat.lt_of_lt_of_le (HLT.out z hz) HD2.out.size))
    clear hS ho3 hz3 HL2 HD2 HBW
    go_upto_region 7 with fail
    have HD4 : Hid (Below y1.heap.size y1 y3.drew) := HB3.out.drew
    have HL4 : Hid (Blk y3.drew lg (lgC gd hs 0 k gen (.slice xa kn xc) u) 144) := HLB.out.below HD4.out HLB.out.lt
    have HPC : Hid (Calls Tryz.prog 102 #[.pointer (some ⟨lg, 0, none⟩), .int .i64 (at_ : Int), .slice a3 rl c3] y3.drew fun e w' => e = .returned (.int .i64 xX) ∧ ∃ P', DkIs w' gd P' DX ∧ Blk w' lg (lgC gd hs xX k gen (.slice xa kn xc) u) 144 ∧ Mut (Un P (fun z => z = lg)) y3.drew w' ∧ Grew y3.drew P P') := by
      have h1 := jPut_any (w := y3.drew) (gd := gd) (lg := lg) (P := P) (D := D) hs k gen u at_ sx (.slice xa kn xc) (.slice a3 rl c3) rb (HDK.out.same14 (fun z hz => HD4.out.block z (HDK.out.lt14 z hz))) HL4.out HNP.out (by rw [← HRL.out, HRL2.out]) (by have h2 := HSB.out; have h3 := HBD.out; omega) HSB.out.2.1 (by rw [HBD.out.2.2.2.2.2.2.2.1]; show 0 + sx ≤ 200; have h2 := HSB.out; have h3 := HBD.out; omega) ((HO3.out.below ((Below.refl _ _).drew)).weak (fun z _ h => HUN.out z h))
      rw [HX.out] at h1
      exact h1
    refine wp_region_held_drew (S := fun wx => wx.cell? ⟨lg, 4, none⟩ = some (.int .i64 (k : Int)) ∧ wx.cell? ⟨lg, 2, none⟩ = some (.int .i64 (hs : Int)) ∧ wx.cell? ⟨lg, 7, none⟩ = some (.int .i64 (u : Int))) (by kernel_rfl) ⟨HL4.out.cell 4, HL4.out.cell 2, HL4.out.cell 7⟩ ?_
    intro hS
    refine wpAnyH_take (i := 0) (v := .pointer (some ⟨lg, 0, none⟩)) rfl (by kernel_rfl) (by kernel_rfl) (by kernel_rfl) (fun _ _ _ h => h) (Or.inl ⟨by rfl, fun wx hx => by simp [go_sem]⟩) hS ?_
    simp only [Act.put, List.getElem_toArray, List.getElem_cons_zero, List.setIfInBounds_toArray, List.set_cons_zero, List.set_cons_succ]
    refine wpAnyH_take (i := 1) (v := .pointer (some ⟨lg, 0, none⟩)) rfl (by kernel_rfl) (by kernel_rfl) (by kernel_rfl) (fun _ _ _ h => h) (Or.inl ⟨by rfl, fun wx hx => by simp [go_sem]⟩) hS ?_
    simp only [Act.put, List.getElem_toArray, List.getElem_cons_succ, List.getElem_cons_zero, List.setIfInBounds_toArray, List.set_cons_zero, List.set_cons_succ]
    refine wpAnyH_take (i := 2) (v := .pointer (some ⟨lg, 0, none⟩)) rfl (by kernel_rfl) (by kernel_rfl) (by kernel_rfl) (fun _ _ _ h => h) (Or.inl ⟨by rfl, fun wx hx => by simp [go_sem]⟩) hS ?_
    simp only [Act.put, List.getElem_toArray, List.getElem_cons_succ, List.getElem_cons_zero, List.setIfInBounds_toArray, List.set_cons_zero, List.set_cons_succ]
    refine wpAnyH_take (i := 3) (v := .pointer (some ⟨lg, 4, none⟩)) rfl (by kernel_rfl) (by kernel_rfl) (by kernel_rfl) (fun _ _ _ h => h) (Or.inl ⟨by rfl, fun wx hx => by simp [go_sem]⟩) hS ?_
    simp only [Act.put, List.getElem_toArray, List.getElem_cons_succ, List.getElem_cons_zero, List.setIfInBounds_toArray, List.set_cons_zero, List.set_cons_succ]
    refine wpAnyH_take (i := 4) (v := .pointer (some ⟨lg, 4, none⟩)) rfl (by kernel_rfl) (by kernel_rfl) (by kernel_rfl) (fun _ _ _ h => h) (Or.inl ⟨by rfl, fun wx hx => by simp [go_sem]⟩) hS ?_
    simp only [Act.put, List.getElem_toArray, List.getElem_cons_succ, List.getElem_cons_zero, List.setIfInBounds_toArray, List.set_cons_zero, List.set_cons_succ]
    refine wpAnyH_take (i := 5) (v := .int .i64 (k : Int)) rfl (by kernel_rfl) (by kernel_rfl) (by kernel_rfl) (fun _ _ _ h => h) (Or.inl ⟨by rfl, fun wx hx => by simp [go_sem, hx.1]⟩) hS ?_
    simp only [Act.put, List.getElem_toArray, List.getElem_cons_succ, List.getElem_cons_zero, List.setIfInBounds_toArray, List.set_cons_zero, List.set_cons_succ]
    refine wpAnyH_take (i := 6) (v := .pointer (some ⟨lg, 0, none⟩)) rfl (by kernel_rfl) (by kernel_rfl) (by kernel_rfl) (fun _ _ _ h => h) (Or.inl ⟨by rfl, fun wx hx => by simp [go_sem]⟩) hS ?_
    simp only [Act.put, List.getElem_toArray, List.getElem_cons_succ, List.getElem_cons_zero, List.setIfInBounds_toArray, List.set_cons_zero, List.set_cons_succ]
    refine wpAnyH_take (i := 7) (v := .pointer (some ⟨lg, 0, none⟩)) rfl (by kernel_rfl) (by kernel_rfl) (by kernel_rfl) (fun _ _ _ h => h) (Or.inl ⟨by rfl, fun wx hx => by simp [go_sem]⟩) hS ?_
    simp only [Act.put, List.getElem_toArray, List.getElem_cons_succ, List.getElem_cons_zero, List.setIfInBounds_toArray, List.set_cons_zero, List.set_cons_succ]
    refine wpAnyH_take (i := 8) (v := .pointer (some ⟨lg, 2, none⟩)) rfl (by kernel_rfl) (by kernel_rfl) (by kernel_rfl) (fun _ _ _ h => h) (Or.inl ⟨by rfl, fun wx hx => by simp [go_sem]⟩) hS ?_
    simp only [Act.put, List.getElem_toArray, List.getElem_cons_succ, List.getElem_cons_zero, List.setIfInBounds_toArray, List.set_cons_zero, List.set_cons_succ]
    refine wpAnyH_take (i := 9) (v := .int .i64 (hs : Int)) rfl (by kernel_rfl) (by kernel_rfl) (by kernel_rfl) (fun _ _ _ h => h) (Or.inl ⟨by rfl, fun wx hx => by simp [go_sem, hx.2.1]⟩) hS ?_
    simp only [Act.put, List.getElem_toArray, List.getElem_cons_succ, List.getElem_cons_zero, List.setIfInBounds_toArray, List.set_cons_zero, List.set_cons_succ]
    refine wpAnyH_take (i := 10) (v := .int .i64 (kh : Int)) rfl (by kernel_rfl) (by kernel_rfl) (by kernel_rfl) (fun _ _ _ h => h) (Or.inl ⟨by rfl, fun wx hx => by simp [go_sem, f2]⟩) hS ?_
    simp only [Act.put, List.getElem_toArray, List.getElem_cons_succ, List.getElem_cons_zero, List.setIfInBounds_toArray, List.set_cons_zero, List.set_cons_succ]
    refine wpAnyH_take (i := 11) (v := .pointer (some ⟨lg, 0, none⟩)) rfl (by kernel_rfl) (by kernel_rfl) (by kernel_rfl) (fun _ _ _ h => h) (Or.inl ⟨by rfl, fun wx hx => by simp [go_sem]⟩) hS ?_
    simp only [Act.put, List.getElem_toArray, List.getElem_cons_succ, List.getElem_cons_zero, List.setIfInBounds_toArray, List.set_cons_zero, List.set_cons_succ]
    refine wpAnyH_take (i := 12) (v := .pointer (some ⟨lg, 0, none⟩)) rfl (by kernel_rfl) (by kernel_rfl) (by kernel_rfl) (fun _ _ _ h => h) (Or.inl ⟨by rfl, fun wx hx => by simp [go_sem]⟩) hS ?_
    simp only [Act.put, List.getElem_toArray, List.getElem_cons_succ, List.getElem_cons_zero, List.setIfInBounds_toArray, List.set_cons_zero, List.set_cons_succ]
    refine wpAnyH_take (i := 13) (v := .pointer (some ⟨lg, 4, none⟩)) rfl (by kernel_rfl) (by kernel_rfl) (by kernel_rfl) (fun _ _ _ h => h) (Or.inl ⟨by rfl, fun wx hx => by simp [go_sem]⟩) hS ?_
    simp only [Act.put, List.getElem_toArray, List.getElem_cons_succ, List.getElem_cons_zero, List.setIfInBounds_toArray, List.set_cons_zero, List.set_cons_succ]
    refine wpAnyH_take (i := 14) (v := .pointer (some ⟨lg, 7, none⟩)) rfl (by kernel_rfl) (by kernel_rfl) (by kernel_rfl) (fun _ _ _ h => h) (Or.inl ⟨by rfl, fun wx hx => by simp [go_sem]⟩) hS ?_
    simp only [Act.put, List.getElem_toArray, List.getElem_cons_succ, List.getElem_cons_zero, List.setIfInBounds_toArray, List.set_cons_zero, List.set_cons_succ]
    refine wpAnyH_take (i := 15) (v := .int .i64 (u : Int)) rfl (by kernel_rfl) (by kernel_rfl) (by kernel_rfl) (fun _ _ _ h => h) (Or.inl ⟨by rfl, fun wx hx => by simp [go_sem, hx.2.2]⟩) hS ?_
    simp only [Act.put, List.getElem_toArray, List.getElem_cons_succ, List.getElem_cons_zero, List.setIfInBounds_toArray, List.set_cons_zero, List.set_cons_succ]
    refine wpAnyH_take (i := 16) (v := .int .i64 (at_ : Int)) rfl (by kernel_rfl) (by kernel_rfl) (by kernel_rfl) (fun _ _ _ h => h) (Or.inl ⟨by rfl, fun wx hx => by simp [go_sem, f3]⟩) hS ?_
    simp only [Act.put, List.getElem_toArray, List.getElem_cons_succ, List.getElem_cons_zero, List.setIfInBounds_toArray, List.set_cons_zero, List.set_cons_succ]
    refine wpAnyH_take (i := 17) (v := .slice a3 rl c3) rfl (by kernel_rfl) (by kernel_rfl) (by kernel_rfl) (fun _ _ _ h => h) (Or.inl ⟨by rfl, fun wx hx => by simp [go_sem]⟩) hS ?_
    simp only [Act.put, List.getElem_toArray, List.getElem_cons_succ, List.getElem_cons_zero, List.setIfInBounds_toArray, List.set_cons_zero, List.set_cons_succ]
    refine wpAnyH_enter 18 (by kernel_rfl) rfl (by rfl) (f := 102) (args := #[.pointer (some ⟨lg, 0, none⟩), .int .i64 (at_ : Int), .slice a3 rl c3]) (by simp [go_sem]) HPC.out ?_
    rintro e0 y5 ⟨rfl, P5, hd5, hl5, hm5, hg5⟩
    replace hS : y5.cell? ⟨lg, 4, none⟩ = some (.int .i64 (k : Int)) ∧ y5.cell? ⟨lg, 2, none⟩ = some (.int .i64 (hs : Int)) ∧ y5.cell? ⟨lg, 7, none⟩ = some (.int .i64 (u : Int)) := ⟨hl5.cell 4, hl5.cell 2, hl5.cell 7⟩
    refine ⟨_, rfl, hS, ?_⟩
    simp only [Act.put, List.getElem_toArray, List.getElem_cons_succ, List.getElem_cons_zero, List.setIfInBounds_toArray, List.set_cons_zero, List.set_cons_succ]
    refine wpAnyH_take (i := 19) (v := .int .i64 xX) rfl (by kernel_rfl) (by kernel_rfl) (by kernel_rfl) (fun _ _ _ h => h) (Or.inl ⟨by rfl, fun wx hx => by simp [go_sem]⟩) hS ?_
    simp only [Act.put, List.getElem_toArray, List.getElem_cons_succ, List.getElem_cons_zero, List.setIfInBounds_toArray, List.set_cons_zero, List.set_cons_succ]
    refine wpAnyH_done (by kernel_rfl) ?_ _
    have HM5 : Hid (Mut (Un P Q) y1 y5) := (mut_below HD4.out _).trans (fun _ _ h => h) ((Mut.refl (Un P Q) y3.drew).trans (fun z _ h => HUN.out z h) hm5)
    have HMP : Hid (∀ z, z < y3.drew.heap.size → ¬ Un P (fun z => z = lg) z → y5.heap[z]? = y3.drew.heap[z]?) := hm5.block
    have HG5 : Hid (∀ z, P5 z → P z ∨ y1.heap.size ≤ z) := fun z hz => (hg5 z hz).imp id (fun h => Nat.le_trans HD4.out.size h)
    have HD5 : Hid (DkIs y5 gd P5 DX) := hd5
    have HL5 : Hid (Blk y5 lg (lgC gd hs xX k gen (.slice xa kn xc) u) 144) := hl5
    clear hS hd5 hl5 hm5 hg5 HPC HL4
    by_cases hx0 : xX = 0
    case neg =>
      have hx14 : xX = 14 := HER.out.1.elim (fun h => absurd h hx0) id
      have q2 : (xX != 0) = true := by rw [bne_iff_ne]; exact hx0
      go_wp2
      go_ret
      refine ⟨rfl, P5, fun _ => False, HD5.out, HM5.out, fun z hz => hz.elim (fun h => (HG5.out z h).imp Or.inl id) (fun h => h.elim), fun h => absurd hx14 h⟩
    case pos =>
      subst hx0
      go_upto_region 10 with fail
      have HQO : Hid (∀ z, lgQ lg (.slice xa kn xc) us z → Q z) := by rw [HQQ.out]; exact fun z h => h
      have hbl : ∀ z, Q z → z ≠ lg → y5.heap[z]? = y1.heap[z]? := fun z hq hne => by
        have h1 : z < y1.heap.size := HLT.out z (Or.inr hq)
        rw [HMP.out z (Nat.lt_of_lt_of_le h1 HD4.out.size) (fun h => h.elim (HAP.out z hq) hne), HD4.out.block z h1]
      have HT5 : Hid (TxJ 0 (.slice xa kn xc) us J.l y5) := HTX.out.sameQ HM5.out.size (fun z hz => hbl z (HQO.out z (Or.inr (Or.inl hz))) (fun e => ownX_ne_lg HTX.out.own HLB.out (e ▸ hz))) (fun uu huu z hz => hbl z (HQO.out z (Or.inr (Or.inr ⟨uu, huu, hz⟩))) (fun e => by
        obtain ⟨i, hi, rfl⟩ := List.getElem_of_mem huu
        exact ownB_ne_lg (HTX.out.good i _ (List.getElem?_eq_getElem hi)) HLB.out (e ▸ hz)))
      have HX5 : Hid (Reads y5 (.slice ax nx cx) x) := HRD.out y5 HM5.out
      clear hbl HMP HD4
      have HD6 : Hid (Below y5.heap.size y5 y5.drew) := (Below.refl _ _).drew
      replace HX5 : Hid (Reads y5.drew (.slice ax nx cx) x) := HX5.out.below HD6.out
      have HT6 : Hid (TxJ 0 (.slice xa kn xc) us J.l y5.drew) := HT5.out.next HD6.out
      have HL6 : Hid (Blk y5.drew lg (lgC gd hs 0 k gen (.slice xa kn xc) u) 144) := HL5.out.drew
      have c6 : y5.drew.cell? ⟨lg, 6, none⟩ = some (.slice xa kn xc) := HL6.out.cell 6
      refine wp_region_held_drew (S := fun _ => True) (by kernel_rfl) trivial ?_
      intro _
      refine wpAnyH_take (i := 0) (v := .pointer (some ⟨lg, 0, none⟩)) rfl (by kernel_rfl) (by kernel_rfl) (by kernel_rfl) (fun _ _ _ h => h) (Or.inl ⟨by rfl, fun wx hx => by simp [go_sem]⟩) trivial ?_
      simp only [Act.put, List.getElem_toArray, List.getElem_cons_zero, List.setIfInBounds_toArray, List.set_cons_zero, List.set_cons_succ]
      refine wpAnyH_take (i := 1) (v := .pointer (some ⟨lg, 0, none⟩)) rfl (by kernel_rfl) (by kernel_rfl) (by kernel_rfl) (fun _ _ _ h => h) (Or.inl ⟨by rfl, fun wx hx => by simp [go_sem]⟩) trivial ?_
      simp only [Act.put, List.getElem_toArray, List.getElem_cons_succ, List.getElem_cons_zero, List.setIfInBounds_toArray, List.set_cons_zero, List.set_cons_succ]
      refine wpAnyH_take (i := 2) (v := .pointer (some ⟨lg, 0, none⟩)) rfl (by kernel_rfl) (by kernel_rfl) (by kernel_rfl) (fun _ _ _ h => h) (Or.inl ⟨by rfl, fun wx hx => by simp [go_sem]⟩) trivial ?_
      simp only [Act.put, List.getElem_toArray, List.getElem_cons_succ, List.getElem_cons_zero, List.setIfInBounds_toArray, List.set_cons_zero, List.set_cons_succ]
      refine wpAnyH_take (i := 3) (v := .pointer (some ⟨lg, 4, none⟩)) rfl (by kernel_rfl) (by kernel_rfl) (by kernel_rfl) (fun _ _ _ h => h) (Or.inl ⟨by rfl, fun wx hx => by simp [go_sem]⟩) trivial ?_
      simp only [Act.put, List.getElem_toArray, List.getElem_cons_succ, List.getElem_cons_zero, List.setIfInBounds_toArray, List.set_cons_zero, List.set_cons_succ]
      refine wpAnyH_take (i := 4) (v := .pointer (some ⟨lg, 6, none⟩)) rfl (by kernel_rfl) (by kernel_rfl) (by kernel_rfl) (fun _ _ _ h => h) (Or.inl ⟨by rfl, fun wx hx => by simp [go_sem]⟩) trivial ?_
      simp only [Act.put, List.getElem_toArray, List.getElem_cons_succ, List.getElem_cons_zero, List.setIfInBounds_toArray, List.set_cons_zero, List.set_cons_succ]
      refine wpAnyH_take (i := 6) (v := .slice ax nx cx) rfl (by kernel_rfl) (by kernel_rfl) (by kernel_rfl) (fun _ _ _ h => h) (Or.inl ⟨by rfl, fun wx hx => by simp [go_sem]⟩) trivial ?_
      simp only [Act.put, List.getElem_toArray, List.getElem_cons_succ, List.getElem_cons_zero, List.setIfInBounds_toArray, List.set_cons_zero, List.set_cons_succ]
      refine wpAnyH_readCB 5 7 8 (.slice xa kn xc) (f := 64) (args := #[.slice ax nx cx]) (by kernel_rfl) rfl rfl rfl (by rfl) (by rfl) (fun _ => by rfl) (fun _ _ => by rfl) (by rfl) (fun _ => by rfl) (fun _ => by rfl) (by simp [go_sem, c6]) (by simp [go_sem]) (by simp [go_sem]) (bclone_any _ x _ HX5.out (by rw [← HNX.out]; have h1 := HBD.out; omega)) (by kernel_rfl) (by kernel_rfl) (by kernel_rfl) (by kernel_rfl) (fun _ => by rfl) (fun _ _ => by rfl) (by rfl) (by rfl) trivial ?_
      rintro e0 y6 ⟨vc, rfl, ho6, hz6⟩
      obtain ⟨ac, cc, hvc⟩ := ownB_form ho6
      rw [← HNX.out] at hvc
      subst hvc
      have hl6 : Blk y6 lg (lgC gd hs 0 k gen (.slice xa kn xc) u) 144 := HL6.out.below hz6 HL6.out.lt
      have hz7 := below_alloc y6 (.cells #[Value.slice ac nx cc] 23)
      have hl7 : Blk (y6.alloc (.cells #[Value.slice ac nx cc] 23)) lg (lgC gd hs 0 k gen (.slice xa kn xc) u) 144 := hl6.below hz7 hl6.lt
      have c6b : y6.cell? ⟨lg, 6, none⟩ = some (.slice xa kn xc) := hl6.cell 6
      have c6c : (y6.alloc (.cells #[Value.slice ac nx cc] 23)).cell? ⟨lg, 6, none⟩ = some (.slice xa kn xc) := hl7.cell 6
      refine ⟨_, rfl, trivial, by simp [go_sem, c6b], .slice (some ⟨y6.heap.size, 0, none⟩) 1 1, y6.alloc (.cells #[Value.slice ac nx cc] 23), build_x1 _ _ (.tmp 61) ac nx cc rfl rfl _, build_x1 _ _ (.tmp 61) ac nx cc rfl rfl _, trivial, by simp [go_sem, c6c], ?_⟩
      simp only [Act.put, List.getElem_toArray, List.getElem_cons_succ, List.getElem_cons_zero, List.setIfInBounds_toArray, List.set_cons_zero, List.set_cons_succ]
      have HT7 : Hid (TxJ 0 (.slice xa kn xc) us J.l y6) := HT6.out.next hz6
      have HOW : Hid (OwnB y6 y5.drew.heap.size (.slice ac nx cc) x) := ho6
      refine wpAnyH_appX 9 (.tmp 59) (.tmp 62) 0 (.slice xa kn xc) (.slice ac nx cc) us y6.heap.size (HT7.out.next hz7).own ((Blk.new y6 [Value.slice ac nx cc] 23).cell 0) rfl (by have h1 := HT7.out.len; have h2 := HKN.out; have h3 := HBD.out; omega) (Nat.zero_le _) (by kernel_rfl) rfl (by rfl) rfl rfl rfl ?_
      intro v8 y8 ho8 hg8 ha8
      refine ⟨trivial, ?_⟩
      simp only [Act.put, List.getElem_toArray, List.getElem_cons_succ, List.getElem_cons_zero, List.setIfInBounds_toArray, List.set_cons_zero, List.set_cons_succ]
      obtain ⟨HT8, _⟩ := HT7.out.grow (ownB_lower HOW.out (Nat.zero_le _)) ho8 hg8
      obtain ⟨a8, c8, hv8⟩ := HT8.form
      obtain ⟨kn1, HKN1⟩ : ∃ m, Hid (m = kn + 1) := ⟨_, rfl⟩
      have hkl : (J.l ++ [x]).length = kn1 := by rw [List.length_append, ← HKN.out, HKN1.out]; rfl
      rw [hkl] at hv8
      subst hv8
      have hrow : (Value.slice xa kn xc).ownBlock ≠ some lg := ownX_ne_lg (HT7.out.next hz7).own hl7
      have hl8 : Blk y8 lg (lgC gd hs 0 k gen (.slice xa kn xc) u) 144 := hl7.grownJ hg8 hrow
      have hb58 : ∀ z, z < y5.heap.size → (Value.slice xa kn xc).ownBlock ≠ some z → y8.heap[z]? = y5.heap[z]? := fun z hz hne => by
        have h1 : z < y6.heap.size := Nat.lt_of_lt_of_le hz hz6.size
        have h2 : z < (y6.alloc (.cells #[Value.slice ac nx cc] 23)).heap.size := Nat.lt_of_lt_of_le h1 hz7.size
        rw [hg8.block z h2 (Ne.symm hne), hz7.block z h1, hz6.block z hz]
        rfl
      have HS8 : Hid (y5.heap.size ≤ y8.heap.size) := Nat.le_trans hz6.size (Nat.le_trans hz7.size hg8.size)
      have HRQ : Hid (∀ z, (Value.slice xa kn xc).ownBlock = some z → Q z ∧ z < y1.heap.size) := fun z hz => ⟨HQO.out z (Or.inr (Or.inl hz)), HLT.out z (Or.inr (HQO.out z (Or.inr (Or.inl hz))))⟩
      have HM8 : Hid (Mut (Un P Q) y1 y8) := by
        have ho := hg8.os.trans (hz7.os.trans (hz6.os.trans rfl))
        refine ⟨(hg8.os.trans (hz7.os.trans hz6.os)).trans HM5.out.os, (hg8.tape.trans (hz7.tape.trans hz6.tape)).trans HM5.out.tape, (hg8.output.trans (hz7.output.trans hz6.output)).trans HM5.out.output, Nat.le_trans HM5.out.size HS8.out, fun z hz hn => ?_⟩
        rw [hb58 z (Nat.lt_of_lt_of_le hz HM5.out.size) (fun e => hn (Or.inr (HRQ.out z e).1))]
        exact HM5.out.block z hz hn
      have HD8 : Hid (DkIs y8 gd P5 DX) := HD5.out.same14 (fun z hz => hb58 z (HD5.out.lt14 z hz) (fun e => (HG5.out z hz).elim (fun h => HAP.out z (HRQ.out z e).1 h) (fun h => absurd (HRQ.out z e).2 (by omega))))
      have HQ8 : Hid (∀ z, lgQ lg (.slice a8 kn1 c8) (us ++ [.slice ac nx cc]) z → Q z ∨ y1.heap.size ≤ z) := fun z hz => by
        rcases hz with rfl | hz | ⟨uu, huu, hz⟩
        · exact Or.inl HQL.out
        · rcases ha8 with h | h
          · rw [h] at hz; exact Or.inl (HRQ.out z hz).1
          · rw [h] at hz
            cases hz
            exact Or.inr (Nat.le_trans HM5.out.size (Nat.le_trans hz6.size hz7.size))
        · rcases List.mem_append.1 huu with huu | huu
          · exact Or.inl (HQO.out z (Or.inr (Or.inr ⟨uu, huu, hz⟩)))
          · simp at huu
            subst huu
            exact Or.inr (Nat.le_trans HM5.out.size (HOW.out.ltJ z hz).1)
      have HT8' : Hid (TxJ 0 (.slice a8 kn1 c8) (us ++ [.slice ac nx cc]) (J.l ++ [x]) y8) := HT8
      have HL8 : Hid (Blk y8 lg (lgC gd hs 0 k gen (.slice xa kn xc) u) 144) := hl8
      clear HT8 hl8 hb58 hrow hkl ho8 hg8 ha8 hz6 hz7 hl6 hl7 c6 c6b c6c ho6 HOW HT7 HT6 HT5 HL6 HX5 HRQ HQO
      refine wpAnyH_take (i := 10) (v := .pointer (some ⟨lg, 0, none⟩)) rfl (by kernel_rfl) (by kernel_rfl) (by kernel_rfl) (fun _ _ _ h => h) (Or.inl ⟨by rfl, fun wx hx => by simp [go_sem]⟩) trivial ?_
      simp only [Act.put, List.getElem_toArray, List.getElem_cons_succ, List.getElem_cons_zero, List.setIfInBounds_toArray, List.set_cons_zero, List.set_cons_succ]
      refine wpAnyH_take (i := 11) (v := .pointer (some ⟨lg, 4, none⟩)) rfl (by kernel_rfl) (by kernel_rfl) (by kernel_rfl) (fun _ _ _ h => h) (Or.inl ⟨by rfl, fun wx hx => by simp [go_sem]⟩) trivial ?_
      simp only [Act.put, List.getElem_toArray, List.getElem_cons_succ, List.getElem_cons_zero, List.setIfInBounds_toArray, List.set_cons_zero, List.set_cons_succ]
      refine wpAnyH_take (i := 12) (v := .pointer (some ⟨lg, 6, none⟩)) rfl (by kernel_rfl) (by kernel_rfl) (by kernel_rfl) (fun _ _ _ h => h) (Or.inl ⟨by rfl, fun wx hx => by simp [go_sem]⟩) trivial ?_
      simp only [Act.put, List.getElem_toArray, List.getElem_cons_succ, List.getElem_cons_zero, List.setIfInBounds_toArray, List.set_cons_zero, List.set_cons_succ]
      have c68 : y8.cell? ⟨lg, 6, none⟩ = some (.slice xa kn xc) := HL8.out.cell 6
      have d68 : y8.frozen? ⟨lg, 6, none⟩ = false := HL8.out.frozen 6
      refine wpAnyH_skip 13 (y8.setCell ⟨lg, 6, none⟩ (.slice a8 kn1 c8)) (by kernel_rfl) rfl (by rfl) (by simp [go_sem, c68, d68]) trivial ?_
      simp only [Act.put]
      refine wpAnyH_done (by kernel_rfl) ?_ _
      obtain ⟨y9, HY9⟩ : ∃ y, Hid (y = y8.setCell ⟨lg, 6, none⟩ (.slice a8 kn1 c8)) := ⟨_, rfl⟩
      rw [← HY9.out]
      have ho9 : Only lg y8 y9 := by rw [HY9.out]; exact Only.setCell (Only.refl _ _) _ _
      have HL9 : Hid (Blk y9 lg (lgC gd hs 0 k gen (.slice a8 kn1 c8) u) 144) := by rw [HY9.out]; exact lg_set _ HL8.out
      have HT9 : Hid (TxJ 0 (.slice a8 kn1 c8) (us ++ [.slice ac nx cc]) (J.l ++ [x]) y9) := HT8'.out.onlyT ho9 HL8.out (by decide) (by decide)
      have HM9 : Hid (Mut (Un P Q) y1 y9) := HM8.out.trans (fun _ _ h => h) (ho9.mut (Or.inr HQL.out))
      have HN5 : Hid (¬ P5 lg) := fun h => (HG5.out lg h).elim HNP.out (fun h2 => absurd h2 (by have := HLB.out.lt; omega))
      have HD9 : Hid (DkIs y9 gd P5 DX) := HD8.out.same14 (fun z hz => ho9.block z (fun e => HN5.out (e ▸ hz)) (HD8.out.lt14 z hz))
      clear HY9 ho9 HL8 HT8' HM8 HD8 c68 d68
      go_upto_region 11 with fail
      have HL10 : Hid (Blk y9.drew lg (lgC gd hs 0 k gen (.slice a8 kn1 c8) u) 144) := HL9.out.drew
      have c7 : y9.drew.cell? ⟨lg, 7, none⟩ = some (.int .i64 (u : Int)) := HL10.out.cell 7
      have d7 : y9.drew.frozen? ⟨lg, 7, none⟩ = false := HL10.out.frozen 7
      have HSC : Hid (∀ W, Calls Tryz.prog 103 #[.int .i64 (rl : Int)] W fun e w' => e = .returned (.int .i64 (sx : Int)) ∧ w' = W) := fun W => by
        have h1 := jSectors_any rl (by have h2 := HRL2.out; have h3 := HSB.out; have h4 := HBD.out; omega) W
        have e : (rl + 63) / 64 = sx := by have h2 := HRL2.out; omega
        rw [e] at h1
        exact h1
      refine wp_region_held_drew (S := fun _ => True) (by kernel_rfl) trivial ?_
      intro _
      refine wpAnyH_take (i := 0) (v := .pointer (some ⟨lg, 0, none⟩)) rfl (by kernel_rfl) (by kernel_rfl) (by kernel_rfl) (fun _ _ _ h => h) (Or.inl ⟨by rfl, fun wx hx => by simp [go_sem]⟩) trivial ?_
      simp only [Act.put, List.getElem_toArray, List.getElem_cons_zero, List.setIfInBounds_toArray]
      refine wpAnyH_take (i := 1) (v := .pointer (some ⟨lg, 0, none⟩)) rfl (by kernel_rfl) (by kernel_rfl) (by kernel_rfl) (fun _ _ _ h => h) (Or.inl ⟨by rfl, fun wx hx => by simp [go_sem]⟩) trivial ?_
      simp only [Act.put, List.getElem_toArray, List.getElem_cons_succ, List.getElem_cons_zero, List.setIfInBounds_toArray, List.set_cons_zero, List.set_cons_succ]
      refine wpAnyH_take (i := 2) (v := .pointer (some ⟨lg, 4, none⟩)) rfl (by kernel_rfl) (by kernel_rfl) (by kernel_rfl) (fun _ _ _ h => h) (Or.inl ⟨by rfl, fun wx hx => by simp [go_sem]⟩) trivial ?_
      simp only [Act.put, List.getElem_toArray, List.getElem_cons_succ, List.getElem_cons_zero, List.setIfInBounds_toArray, List.set_cons_zero, List.set_cons_succ]
      refine wpAnyH_take (i := 3) (v := .pointer (some ⟨lg, 7, none⟩)) rfl (by kernel_rfl) (by kernel_rfl) (by kernel_rfl) (fun _ _ _ h => h) (Or.inl ⟨by rfl, fun wx hx => by simp [go_sem]⟩) trivial ?_
      simp only [Act.put, List.getElem_toArray, List.getElem_cons_succ, List.getElem_cons_zero, List.setIfInBounds_toArray, List.set_cons_zero, List.set_cons_succ]
      refine wpAnyH_take (i := 5) (v := .slice a3 rl c3) rfl (by kernel_rfl) (by kernel_rfl) (by kernel_rfl) (fun _ _ _ h => h) (Or.inl ⟨by rfl, fun wx hx => by simp [go_sem]⟩) trivial ?_
      simp only [Act.put, List.getElem_toArray, List.getElem_cons_succ, List.getElem_cons_zero, List.setIfInBounds_toArray, List.set_cons_zero, List.set_cons_succ]
      refine wpAnyH_take (i := 6) (v := .int .i64 (rl : Int)) rfl (by kernel_rfl) (by kernel_rfl) (by kernel_rfl) (fun _ _ _ h => h) (Or.inl ⟨by rfl, fun wx hx => by simp [go_sem]⟩) trivial ?_
      simp only [Act.put, List.getElem_toArray, List.getElem_cons_succ, List.getElem_cons_zero, List.setIfInBounds_toArray, List.set_cons_zero, List.set_cons_succ]
      refine wpAnyH_readC 4 7 (.int .i64 (u : Int)) (f := 103) (args := #[.int .i64 (rl : Int)]) (by kernel_rfl) rfl rfl (by rfl) (by rfl) (fun _ => by rfl) (by rfl) (by simp [go_sem, c7]) (by simp [go_sem]) (by simp [go_sem]) (HSC.out _) (by kernel_rfl) (by kernel_rfl) (fun _ => by rfl) (by rfl) trivial ?_
      rintro e0 y10 ⟨rfl, hy10⟩
      subst hy10
      refine ⟨_, rfl, trivial, by simp [go_sem, c7], ?_⟩
      simp only [Act.put, List.getElem_toArray, List.getElem_cons_succ, List.getElem_cons_zero, List.setIfInBounds_toArray, List.set_cons_zero, List.set_cons_succ]
      refine wpAnyH_take (i := 8) (v := .int .i64 (u2 : Int)) rfl (by kernel_rfl) (by kernel_rfl) (by kernel_rfl) (fun _ _ _ h => h) (Or.inl ⟨by rfl, fun wx hx => by simp [go_sem, f4]⟩) trivial ?_
      simp only [Act.put, List.getElem_toArray, List.getElem_cons_succ, List.getElem_cons_zero, List.setIfInBounds_toArray, List.set_cons_zero, List.set_cons_succ]
      refine wpAnyH_take (i := 9) (v := .pointer (some ⟨lg, 0, none⟩)) rfl (by kernel_rfl) (by kernel_rfl) (by kernel_rfl) (fun _ _ _ h => h) (Or.inl ⟨by rfl, fun wx hx => by simp [go_sem]⟩) trivial ?_
      simp only [Act.put, List.getElem_toArray, List.getElem_cons_succ, List.getElem_cons_zero, List.setIfInBounds_toArray, List.set_cons_zero, List.set_cons_succ]
      refine wpAnyH_take (i := 10) (v := .pointer (some ⟨lg, 4, none⟩)) rfl (by kernel_rfl) (by kernel_rfl) (by kernel_rfl) (fun _ _ _ h => h) (Or.inl ⟨by rfl, fun wx hx => by simp [go_sem]⟩) trivial ?_
      simp only [Act.put, List.getElem_toArray, List.getElem_cons_succ, List.getElem_cons_zero, List.setIfInBounds_toArray, List.set_cons_zero, List.set_cons_succ]
      refine wpAnyH_take (i := 11) (v := .pointer (some ⟨lg, 7, none⟩)) rfl (by kernel_rfl) (by kernel_rfl) (by kernel_rfl) (fun _ _ _ h => h) (Or.inl ⟨by rfl, fun wx hx => by simp [go_sem]⟩) trivial ?_
      simp only [Act.put, List.getElem_toArray, List.getElem_cons_succ, List.getElem_cons_zero, List.setIfInBounds_toArray, List.set_cons_zero, List.set_cons_succ]
      refine wpAnyH_skip 12 (y9.drew.setCell ⟨lg, 7, none⟩ (.int .i64 (u2 : Int))) (by kernel_rfl) rfl (by rfl) (by simp [go_sem, c7, d7]) trivial ?_
      simp only [Act.put]
      refine wpAnyH_done (by kernel_rfl) ?_ _
      obtain ⟨y11, HY11⟩ : ∃ y, Hid (y = y9.drew.setCell ⟨lg, 7, none⟩ (.int .i64 (u2 : Int))) := ⟨_, rfl⟩
      rw [← HY11.out]
      have ho11 : Only lg y9.drew y11 := by rw [HY11.out]; exact Only.setCell (Only.refl _ _) _ _
      have HL11 : Hid (Blk y11 lg (lgC gd hs 0 k gen (.slice a8 kn1 c8) u2) 144) := by rw [HY11.out]; exact lg_setU _ HL10.out
      have HT11 : Hid (TxJ 0 (.slice a8 kn1 c8) (us ++ [.slice ac nx cc]) (J.l ++ [x]) y11) := (HT9.out.next ((Below.refl _ _).drew)).onlyT ho11 HL10.out (by decide) (by decide)
      have HM11 : Hid (Mut (Un P Q) y1 y11) := HM9.out.drew.trans (fun _ _ h => h) (ho11.mut (Or.inr HQL.out))
      have HD11 : Hid (DkIs y11 gd P5 DX) := (HD9.out.same14 (w' := y9.drew) (fun _ _ => rfl)).same14 (fun z hz => ho11.block z (fun e => HN5.out (e ▸ hz)) (HD9.out.lt14 z hz))
      clear HY11 ho11 c7 d7
      go_wp2
      go_ret
      have hlm : LgM y11 lg gd (sizeD DX) (.slice a8 kn1 c8) (us ++ [.slice ac nx cc]) ⟨J.k, J.gen, J.l ++ [x]⟩ := ⟨by
        show Blk y11 lg (lgC gd (sizeD DX / 2) 0 J.k J.gen (.slice a8 kn1 c8) (1 + secL (J.l ++ [x]))) 144
        rw [HER.out.2, ← HHS.out, ← HKK.out, ← HGN.out, secL_snoc, ← HNX.out, ← HSX.out, ← Nat.add_assoc, ← HU.out, ← HU2.out]
        exact HL11.out, HT11.out⟩
      have hpk : Pk LgJ y11 gd lg P5 (lgQ lg (.slice a8 kn1 c8) (us ++ [.slice ac nx cc])) DX ⟨J.k, J.gen, J.l ++ [x]⟩ := ⟨HD11.out, ⟨_, _, hlm, rfl⟩, pk_ap HD11.out hlm⟩
      have hgw : Grew y1 (Un P Q) (Un P5 (lgQ lg (.slice a8 kn1 c8) (us ++ [.slice ac nx cc]))) := fun z hz => hz.elim (fun h => (HG5.out z h).imp Or.inl id) (fun h => (HQ8.out z h).imp Or.inr id)
      first
        | exact ⟨rfl, P5, _, HD11.out, HM11.out, hgw, fun _ => hpk⟩
        | exact ⟨rfl, P5, _, HD11.out, HM11.out, hgw, hpk⟩
        | exact ⟨rfl, P5, HD11.out, HM11.out, _, hgw, hpk⟩
        | trace_state
end Go.Proofs.YtopmeedmgjdcgaaGreatDoor
/- The walk of journal's Restart, as it landed (layer 14). -/
namespace Go.Proofs.YtopmeedmgjdcgaaGreatDoor
open Go.RowKit
set_option maxRecDepth 100000
/-- texts that lie in no block of R stay, whatever R becomes -/
theorem TxJ.stN {base : Nat} {v : Value} {us : List Value} {xs : List Bs} {w : World} (h : TxJ base v us xs w) {R : Nat → Prop} (hv : ∀ z, v.ownBlock = some z → ¬ R z) (hu : ∀ u ∈ us, ∀ z, u.ownBlock = some z → ¬ R z) : Sta R w (fun W => ReadsL W v xs) := fun W m =>
  (h.sameQ m.size (fun z hz => m.block z (h.own.lt z hz).2 (hv z hz)) (fun u huu z hz => m.block z (by
    obtain ⟨i, hi, rfl⟩ := List.getElem_of_mem huu
    exact ((h.good i _ (List.getElem?_eq_getElem hi)).ltJ z hz).2) (hu u huu z hz))).readsL
theorem TxJ.ge_all {base : Nat} {v : Value} {us : List Value} {xs : List Bs} {w : World} (h : TxJ base v us xs w) : (∀ z, v.ownBlock = some z → base ≤ z ∧ z < w.heap.size) ∧ ∀ u ∈ us, ∀ z, u.ownBlock = some z → base ≤ z ∧ z < w.heap.size := ⟨h.own.lt, fun u huu z hz => by
  obtain ⟨i, hi, rfl⟩ := List.getElem_of_mem huu
  exact (h.good i _ (List.getElem?_eq_getElem hi)).ltJ z hz⟩
theorem TxJ.lower {base B : Nat} {v : Value} {us : List Value} {xs : List Bs} {w : World} (h : TxJ base v us xs w) (hB : B ≤ base) : TxJ B v us xs w := by
  refine ⟨?_, h.len, fun j u hj => ownB_lower (h.good j u hj) hB, Nat.le_trans hB h.ge⟩
  rcases h.own with ⟨h1, ⟨rfl, h2⟩ | ⟨g, cap, cur, rfl, hg, r⟩⟩
  · exact ⟨h1, Or.inl ⟨rfl, h2⟩⟩
  · exact ⟨h1, Or.inr ⟨g, cap, cur, rfl, Nat.le_trans hB hg, r⟩⟩
theorem anew_mem {hs k gen n : Nat} {l : List Bs} (hk : k ≤ 1) (hf : 1 + secL l ≤ hs) (hn : 2 * hs ≤ n) : ∀ p, some p ∈ anewS hs k gen l → p.1 < n ∧ p.2.length = 64 := fun p hp => by
  have hks : k * hs ≤ hs := by rcases Nat.le_one_iff_eq_zero_or_eq_one.1 hk with e | e <;> rw [e] <;> omega
  unfold anewS at hp
  simp only [List.mem_append, List.mem_map, List.mem_cons, List.not_mem_nil, or_false, reduceCtorEq, false_or, Option.some.injEq, exists_eq_right] at hp
  rcases hp with hp | hp | hp
  · exact secs_mem hs (k * hs) _ (List.length_replicate) (by omega) p hp
  · exact secs_mem (secL l) (k * hs + 1) _ (by rw [len_recsB, sizeL_eq]) (by omega) p hp
  · exact secs_mem 1 (k * hs) _ (len_headB gen) (by omega) p hp
set_option maxRecDepth 100000 in
set_option maxHeartbeats 8000000 in
theorem jRestart_any {w : World} {gd lg : Nat} {P Q : Nat → Prop} {D : DkT} {J : JnT} (v : Value) (m : List Bs) (hK : KOk w) (hp : Pk LgJ w gd lg P Q D J) (hok : okJ D J) (hml : m.length ≤ 100000) (hmx : ∀ x ∈ m, x.length ≤ 100000) (hst : Sta (Un P Q) w (fun W => ReadsL W v m)) :
    Calls Tryz.prog 105 #[.pointer (some ⟨lg, 0, none⟩), v] w fun e w' => e = .returned (.int .i64 (rstX J D m)) ∧ ∃ P' Q', DkIs w' gd P' (rstD J D m) ∧ Mut (Un P Q) w w' ∧ Grew w (Un P Q) (Un P' Q') ∧ (rstX J D m ≠ 14 → Pk LgJ w' gd lg P' Q' (rstD J D m) (rstJ J D m)) := by
  obtain ⟨vr, us, hm, hQ⟩ := id hp.lg
  obtain ⟨n, HN⟩ : ∃ n, Hid (n = m.length) := ⟨_, rfl⟩
  obtain ⟨ad, c, hv⟩ : ∃ a c, v = .slice a n c := by obtain ⟨a, c, hv, _⟩ := hst.now; rw [← HN.out] at hv; exact ⟨a, c, hv⟩
  subst hv
  obtain ⟨hs, HHS⟩ : ∃ m, Hid (m = sizeD D / 2) := ⟨_, rfl⟩
  obtain ⟨u, HU⟩ : ∃ m, Hid (m = 1 + secL J.l) := ⟨_, rfl⟩
  obtain ⟨k, HKK⟩ : ∃ m, Hid (m = J.k) := ⟨_, rfl⟩
  obtain ⟨gen, HGN⟩ : ∃ m, Hid (m = J.gen) := ⟨_, rfl⟩
  have hlb := hm.lb
  rw [← HHS.out, ← HU.out, ← HKK.out, ← HGN.out] at hlb
  have HLB : Hid (Blk w lg (lgC gd hs 0 k gen vr u) 144) := hlb
  have HDK : Hid (DkIs w gd P D) := hp.dk
  have HAP : Hid (∀ k, Q k → ¬ P k) := hp.ap
  have HK : Hid (KOk w) := hK
  have HRL : Hid (ReadsL w (.slice ad n c) m) := hst.now
  have HPP : Hid (Pk LgJ w gd lg P Q D J) := hp
  have HQL : Hid (Q lg) := by rw [hQ]; exact Or.inl rfl
  have HLT : Hid (∀ k, Un P Q k → k < w.heap.size) := fun k hk => hk.elim (hp.dk.lt14 k) (fun h => by rw [hQ] at h; exact hm.lt k h)
  have HBD : Hid (hs ≤ 50 ∧ k ≤ 1 ∧ gen + 1 < 18446744073709551616 ∧ n ≤ 100000 ∧ 4 ≤ hs ∧ D.wait = [] ∧ 2 * hs ≤ sizeD D ∧ 1 ≤ hs) := ⟨by have h1 := HHS.out; have h2 := hok.hi; omega, by rw [HKK.out]; exact hok.k1, by have h1 := hok.g2; rw [HGN.out]; omega, by rw [HN.out]; exact hml, by have h1 := HHS.out; have h2 := hok.lo; omega, hok.wt, by have h1 := HHS.out; omega, by have h1 := HHS.out; have h2 := hok.lo; omega⟩
  have HMX : Hid (∀ x ∈ m, x.length ≤ 100000000) := fun x hx => Nat.le_trans (hmx x hx) (by decide)
  have HEE : Hid (rstE D m = if ∃ x ∈ m, chkX x = 1 then 1 else if hs < 1 + secL m then 13 else 0) := by show _ = _; rw [rstE, show hsD D = hs from HHS.out.symm]
  have c2 : w.cell? ⟨lg, 2, none⟩ = some (.int .i64 (hs : Int)) := hlb.cell 2
  clear hK hok hml hmx hst hm hQ hlb hp
  obtain ⟨X, HX⟩ : ∃ z, Hid (z = rstX J D m) := ⟨_, rfl⟩
  obtain ⟨DX, HDX⟩ : ∃ z, Hid (z = rstD J D m) := ⟨_, rfl⟩
  obtain ⟨JX, HJX⟩ : ∃ z, Hid (z = rstJ J D m) := ⟨_, rfl⟩
  rw [← HX.out, ← HDX.out, ← HJX.out]
  have HBAD : Hid (∀ e : Int, e ≠ 0 → rstE D m = e → X = e ∧ DX = D ∧ JX = J) := fun e he h => by
    rw [HX.out, HDX.out, HJX.out, rstX, rstD, rstJ, h, if_neg he, if_neg he, if_neg he]
    exact ⟨rfl, rfl, rfl⟩
  go_enter Tryz.func105, Tryz.ntmps105
  go_wp2
  go_loopw [10] (fun i wr => ∃ kk : Nat, kk ≤ n ∧ i = .int .i64 (kk : Int) ∧ Hid (∀ j, j < kk → chkX (m.getD j []) = 0) ∧ wr = w) (fun i _ => n - (intOf i).toNat)
  case atStart => exact ⟨0, Nat.zero_le _, rfl, (fun j hj => absurd hj (by omega)), rfl⟩
  case round =>
    obtain ⟨kk, hk, rfl, HOK, rfl⟩ := hrel
    by_cases hlt : kk < n
    case pos =>
      have hlk : (kk : Int) < (n : Int) := by omega
      have k0 : (0 : Int) ≤ (kk : Int) := by omega
      have g1 : IntKind.i64.wrap ((kk : Int) + 1) = (kk : Int) + 1 := by rw [IntKind.wrap_i64]; have := HBD.out; omega
      have hkl : kk < m.length := by rw [← HN.out]; exact hlt
      obtain ⟨b, off, vj, rfl, hc, hrj⟩ := HRL.out.atJ hkl
      obtain ⟨x, HXX⟩ : ∃ x, Hid (x = m.getD kk []) := ⟨_, rfl⟩
      rw [← HXX.out] at hrj
      obtain ⟨aj, nj, cj, hvj⟩ := hrj.form
      subst hvj
      obtain ⟨cc, HCC⟩ : ∃ z, Hid (z = chkX x) := ⟨_, rfl⟩
      have HCK : Hid (Calls Tryz.prog 100 #[.slice aj nj cj] wr fun e w' => e = .returned (.int .i64 cc) ∧ w' = wr) := by rw [HCC.out]; exact jCheck_any _ x wr hrj
      have HMM : Hid (x ∈ m) := by show _ ∈ _; rw [HXX.out, List.getD_eq_getElem?_getD, List.getElem?_eq_getElem hkl]; exact List.getElem_mem hkl
      clear hkl hrj
      by_cases hc1 : cc = 1
      · subst hc1
        obtain ⟨e1, e2, e3⟩ := HBAD.out 1 (by decide) (by rw [HEE.out, if_pos ⟨x, HMM.out, HCC.out.symm⟩])
        have HE3 : Hid (X = 1 ∧ DX = D ∧ JX = J) := ⟨e1, e2, e3⟩
        clear e1 e2 e3
        have tk0 : Hid True := trivial
        go_wp2_with (first
          | (clear tk0; go_at_call 100; refine HCK.out.mono ?_; rintro e0 y1 ⟨rfl, hy1⟩; subst hy1))
        go_ret
        rw [HE3.out.1, HE3.out.2.1, HE3.out.2.2]
        first
          | exact ⟨rfl, P, Q, HPP.out.dk, Mut.refl _ _, Grew.refl _ _, fun _ => HPP.out⟩
          | exact ⟨rfl, P, Q, HPP.out.dk, Mut.refl _ _, Grew.refl _ _, HPP.out⟩
          | exact ⟨rfl, P, HPP.out.dk, Mut.refl _ _, Q, Grew.refl _ _, HPP.out⟩
      · obtain rfl : cc = 0 := (by rw [HCC.out]; exact chk_or x : cc = 0 ∨ cc = 1).elim id (fun h => absurd h hc1)
        have HOK2 : Hid (∀ j, j < kk + 1 → chkX (m.getD j []) = 0) := fun j hj => by
          by_cases e : j = kk
          · rw [e, ← HXX.out, ← HCC.out]
          · exact HOK.out j (by omega)
        have tk0 : Hid True := trivial
        go_wp2_with (first
          | (clear tk0; go_at_call 100; refine HCK.out.mono ?_; rintro e0 y1 ⟨rfl, hy1⟩; subst hy1))
        go_roundw
        case rel => exact ⟨kk + 1, by omega, by simp, HOK2, by first | rfl | trivial⟩
        case measure => simp [intOf]; omega
    case neg =>
      have hlk : ¬ ((kk : Int) < (n : Int)) := by omega
      have HNC : Hid (¬ ∃ x ∈ m, chkX x = 1) := fun ⟨x, hx, h⟩ => by
        obtain ⟨i, hi, rfl⟩ := List.getElem_of_mem hx
        have h1 := HOK.out i (by have := HN.out; omega)
        rw [List.getD_eq_getElem?_getD, List.getElem?_eq_getElem hi] at h1
        simp only [Option.getD_some] at h1
        rw [h1] at h
        cases h
      obtain ⟨ok, HFO⟩ : ∃ o, Hid (o = decide (1 + secL m ≤ hs)) := ⟨_, rfl⟩
      have HFT : Hid (Calls Tryz.prog 130 #[.slice ad n c, .int .i64 (hs : Int)] wr fun e w' => e = .returned (.bool ok) ∧ w' = wr) := by rw [HFO.out]; exact jFit_any _ m hs HBD.out.2.2.2.2.2.2.2 (by have := HBD.out; omega) (by rw [← HN.out]; have := HBD.out; omega) HMX.out wr HRL.out
      cases ok with
      | false =>
        have hno : hs < 1 + secL m := by have := of_decide_eq_false HFO.out.symm; omega
        obtain ⟨e1, e2, e3⟩ := HBAD.out 13 (by decide) (by rw [HEE.out, if_neg HNC.out, if_pos hno])
        have HE3 : Hid (X = 13 ∧ DX = D ∧ JX = J) := ⟨e1, e2, e3⟩
        clear e1 e2 e3 hno
        have tk0 : Hid True := trivial
        go_wp2_with (first
          | (clear tk0; go_at_call 130; refine HFT.out.mono ?_; rintro e0 y1 ⟨rfl, hy1⟩; subst hy1))
        go_ret
        rw [HE3.out.1, HE3.out.2.1, HE3.out.2.2]
        first
          | exact ⟨rfl, P, Q, HPP.out.dk, Mut.refl _ _, Grew.refl _ _, fun _ => HPP.out⟩
          | exact ⟨rfl, P, Q, HPP.out.dk, Mut.refl _ _, Grew.refl _ _, HPP.out⟩
          | exact ⟨rfl, P, HPP.out.dk, Mut.refl _ _, Q, Grew.refl _ _, HPP.out⟩
      | true =>
        have hfit : 1 + secL m ≤ hs := of_decide_eq_true HFO.out.symm
        have hE : rstE D m = 0 := by rw [HEE.out, if_neg HNC.out, if_neg (by omega)]
        have hgn : gN gen = gen + 1 := gN_eq HBD.out.2.2.1
        have HSL : Hid (anewS (hsD D) (1 - J.k) (J.gen + 1) m = anewS hs (1 - k) (gN gen) m) := by show _ = _; rw [hgn, show hsD D = hs from HHS.out.symm, ← HKK.out, ← HGN.out]
        have HXE : Hid (X = (runJ D (anewS hs (1 - k) (gN gen) m)).2 ∧ DX = (runJ D (anewS hs (1 - k) (gN gen) m)).1 ∧ JX = ⟨1 - k, gN gen, m⟩) := by
          rw [HX.out, HDX.out, HJX.out, rstX, rstD, rstJ, if_pos hE, if_pos hE, if_pos hE, HSL.out, hgn, ← HKK.out, ← HGN.out]
          exact ⟨rfl, rfl, rfl⟩
        have HOKD : Hid (okD D) := by obtain ⟨_, _, _, _, hm, _⟩ := HDK.out; exact hm.ok
        have HER : Hid ((X = 0 ∨ X = 14) ∧ sizeD DX = sizeD D) := by
          rw [HXE.out.1, HXE.out.2.1]
          exact ⟨run_err _ D HOKD.out (anew_mem (by omega) hfit HBD.out.2.2.2.2.2.2.1), (run_size _ D HOKD.out).1⟩
        have HNX : Hid (∀ W v', Below wr.heap.size wr W → Sta (Un P (fun z => z = lg)) W (fun Y => ReadsL Y v' m) → Calls Tryz.prog 92 #[.pointer (some ⟨lg, 0, none⟩), v'] W fun e w' => e = .returned (.int .i64 X) ∧ ∃ P', DkIs w' gd P' DX ∧ (X = 0 → Blk w' lg (lgC gd hs 0 (1 - k) (gN gen) v' (1 + secL m)) 144) ∧ Mut (Un P (fun z => z = lg)) W w' ∧ Grew W P P') := fun W v' hW hs' => by
          rw [HXE.out.1, HXE.out.2.1]
          exact jNext_any (w := W) hs k gen u vr v' m (HK.out.below hW HK.out.lt) (HDK.out.same14 (fun z hz => hW.block z (HDK.out.lt14 z hz))) HBD.out.2.2.2.2.2.1 (HLB.out.below hW HLB.out.lt) (HAP.out lg HQL.out) HBD.out.2.1 HBD.out.2.2.2.2.2.2.2 HBD.out.1 hfit hs'
        clear hE hgn hfit HBAD HEE
        have tk0 : Hid True := trivial
        have tk1 : Hid True := trivial
        have tk2 : Hid True := trivial
        go_wp2_with (first
          | (clear tk0; go_at_call 130; refine HFT.out.mono ?_; rintro e0 y1 ⟨rfl, hy1⟩; subst hy1)
          | (clear tk1; go_at_call 131; refine (jCopies_any _ m (by rw [← HN.out]; exact HBD.out.2.2.2.1) HMX.out _ HRL.out).mono ?_; rintro e0 y2 ⟨v2, us2, rfl, htx, hz⟩
             have HTX : Hid (TxJ y1.heap.size v2 us2 m y2) := htx
             have HBW : Hid (Below y1.heap.size y1 y2) := hz
             clear htx hz)
          | (clear tk2; go_at_call 92; refine (HNX.out _ _ HBW.out (HTX.out.stN (R := Un P (fun z => z = lg)) (fun z hz h => absurd (HLT.out z (h.elim Or.inl (fun e => Or.inr (by rw [e]; exact HQL.out)))) (by have := (HTX.out.ge_all.1 z hz).1; omega)) (fun uu huu z hz h => absurd (HLT.out z (h.elim Or.inl (fun e => Or.inr (by rw [e]; exact HQL.out)))) (by have := (HTX.out.ge_all.2 uu huu z hz).1; omega)))).mono ?_; rintro e0 y3 ⟨rfl, P3, hd3, hl3, hm3, hg3⟩
             have HR3 : Hid (DkIs y3 gd P3 DX ∧ (X = 0 → Blk y3 lg (lgC gd hs 0 (1 - k) (gN gen) v2 (1 + secL m)) 144) ∧ Mut (Un P (fun z => z = lg)) y2 y3 ∧ Grew y2 P P3) := ⟨hd3, hl3, hm3, hg3⟩
             clear hd3 hl3 hm3 hg3))
        go_ret
        have hm3 : Mut (Un P Q) y1 y3 := (mut_below HBW.out _).trans (fun _ _ h => h) ((Mut.refl (Un P Q) y2).trans (fun z _ h => h.elim Or.inl (fun e => Or.inr (by rw [e]; exact HQL.out))) HR3.out.2.2.1)
        have hg3 : ∀ z, P3 z → P z ∨ y1.heap.size ≤ z := fun z hz => (HR3.out.2.2.2 z hz).imp id (fun h => Nat.le_trans HBW.out.size h)
        by_cases hx0 : X = 0
        · have hnot : ∀ z, y1.heap.size ≤ z → ¬ Un P (fun z => z = lg) z := fun z hz h => absurd (HLT.out z (h.elim Or.inl (fun e => Or.inr (by rw [e]; exact HQL.out)))) (by omega)
          have htx3 : TxJ 0 v2 us2 m y3 := (HTX.out.lower (Nat.zero_le _)).sameQ HR3.out.2.2.1.size (fun z hz => HR3.out.2.2.1.block z (HTX.out.ge_all.1 z hz).2 (hnot z (HTX.out.ge_all.1 z hz).1)) (fun uu huu z hz => HR3.out.2.2.1.block z (HTX.out.ge_all.2 uu huu z hz).2 (hnot z (HTX.out.ge_all.2 uu huu z hz).1))
          have hlm : LgM y3 lg gd (sizeD DX) v2 us2 JX := by
            rw [HXE.out.2.2]
            exact ⟨by rw [HER.out.2, ← HHS.out]; exact HR3.out.2.1 hx0, htx3⟩
          have hpk : Pk LgJ y3 gd lg P3 (lgQ lg v2 us2) DX JX := ⟨HR3.out.1, ⟨_, _, hlm, rfl⟩, pk_ap HR3.out.1 hlm⟩
          have hgw : Grew y1 (Un P Q) (Un P3 (lgQ lg v2 us2)) := fun z hz => hz.elim (fun h => (hg3 z h).imp Or.inl id) (fun h => by
            rcases h with rfl | h | ⟨uu, huu, h⟩
            · exact Or.inl (Or.inr HQL.out)
            · exact Or.inr (HTX.out.ge_all.1 z h).1
            · exact Or.inr (HTX.out.ge_all.2 uu huu z h).1)
          exact ⟨rfl, P3, lgQ lg v2 us2, HR3.out.1, hm3, hgw, fun _ => hpk⟩
        · have hx14 : X = 14 := HER.out.1.elim (fun h => absurd h hx0) id
          exact ⟨rfl, P3, fun _ => False, HR3.out.1, hm3, fun z hz => hz.elim (fun h => (hg3 z h).imp Or.inl id) (fun h => h.elim), fun h => absurd hx14 h⟩
end Go.Proofs.YtopmeedmgjdcgaaGreatDoor
/- Slices of texts that stay whatever blocks of P become; blazonref14.Append and Restart with them (layer 14). -/
namespace Go.Proofs.YtopmeedmgjdcgaaGreatDoor
open Go.RowKit
set_option maxRecDepth 100000
/-- a slice of texts, whatever blocks of P become -/
def StaL (P : Nat → Prop) (w : World) (v : Value) (l : List Bs) : Prop :=
  ∃ ad cap, v = .slice ad l.length cap ∧ l.length ≤ cap ∧ (ad = none → cap = 0) ∧ (0 < l.length → ∃ b off, ad = some ⟨b, off, none⟩ ∧ ¬ P b ∧ ∀ j, j < l.length → ∃ vj, w.cell? ⟨b, off + j, none⟩ = some vj ∧ Sta P w (fun W => Reads W vj (l.getD j [])))
theorem StaL.now {P : Nat → Prop} {w : World} {v : Value} {l : List Bs} (h : StaL P w v l) : ReadsL w v l := by
  obtain ⟨ad, cap, h1, h2, h3, h4⟩ := h
  refine ⟨ad, cap, h1, h2, h3, fun hp => ?_⟩
  obtain ⟨b, off, h5, _, h6⟩ := h4 hp
  refine ⟨b, off, h5, fun j hj => ?_⟩
  obtain ⟨vj, h7, h9⟩ := h6 j hj
  exact ⟨vj, h7, h9.now⟩
theorem StaL.go {P P' : Nat → Prop} {w w' : World} {v : Value} {l : List Bs} (h : StaL P w v l) (m : Mut P w w') (hP : ∀ k, k < w.heap.size → P' k → P k) : StaL P' w' v l := by
  obtain ⟨ad, cap, h1, h2, h3, h4⟩ := h
  refine ⟨ad, cap, h1, h2, h3, fun hp => ?_⟩
  obtain ⟨b, off, h5, hnb, h6⟩ := h4 hp
  obtain ⟨_, h0, _⟩ := h6 0 hp
  refine ⟨b, off, h5, fun hb => hnb (hP b (block_lt_of_cell h0) hb), fun j hj => ?_⟩
  obtain ⟨vj, h7, h9⟩ := h6 j hj
  exact ⟨vj, m.cell hnb h7, h9.go m hP⟩
theorem StaL.below {P : Nat → Prop} {w w' : World} {v : Value} {l : List Bs} (h : StaL P w v l) (hb : Below w.heap.size w w') : StaL P w' v l := h.go (mut_below hb P) (fun _ _ h => h)
theorem StaL.nil (P : Nat → Prop) (w : World) : StaL P w (.slice none 0 0) [] := ⟨none, 0, rfl, Nat.le_refl _, fun _ => rfl, fun h => by simp at h⟩
end Go.Proofs.YtopmeedmgjdcgaaGreatDoor
/- The walk of the statements' do, over what journal's functions do (layer 14). -/
namespace Go.Proofs.YtopmeedmgjdcgaaGreatDoor
open Go.RowKit
set_option maxRecDepth 100000
/-- an act -/
structure OpT where
  ag : Bool
  b : Bs
  l : List Bs
/-- an act that is not more than is waited for -/
structure okO (o : OpT) : Prop where
  b : o.b.length ≤ 100000
  n : o.l.length ≤ 100000
  l : ∀ x ∈ o.l, x.length ≤ 100000
  s : sizeL o.l < 100000000
end Go.Proofs.YtopmeedmgjdcgaaGreatDoor
/- The walk of the statements' few (layer 14). -/
namespace Go.Proofs.YtopmeedmgjdcgaaGreatDoor
open Go.RowKit
set_option maxRecDepth 100000
/-- a slice of acts -/
def ROps (w : World) (v : Value) (os : List OpT) : Prop :=
  ∃ ad cap, v = .slice ad os.length cap ∧ os.length ≤ cap ∧ (0 < os.length → ∃ b off, ad = some ⟨b, off, none⟩ ∧ ∀ j, j < os.length → ∃ vB vL, w.cell? ⟨b, off + j * 3, none⟩ = some (.bool (os.getD j ⟨false, [], []⟩).ag) ∧ w.cell? ⟨b, off + j * 3 + 1, none⟩ = some vB ∧ w.cell? ⟨b, off + j * 3 + 2, none⟩ = some vL ∧ Reads w vB (os.getD j ⟨false, [], []⟩).b ∧ ReadsL w vL (os.getD j ⟨false, [], []⟩).l)
theorem ROps.below {w w' : World} {v : Value} {os : List OpT} (h : ROps w v os) (hb : Below w.heap.size w w') : ROps w' v os := by
  obtain ⟨ad, cap, h1, h2, h3⟩ := h
  refine ⟨ad, cap, h1, h2, fun hp => ?_⟩
  obtain ⟨b, off, h4, h5⟩ := h3 hp
  refine ⟨b, off, h4, fun j hj => ?_⟩
  obtain ⟨vB, vL, c0, c1, c2, r1, r2⟩ := h5 j hj
  have up : ∀ k u, w.cell? ⟨b, k, none⟩ = some u → w'.cell? ⟨b, k, none⟩ = some u := fun k u hu => by rw [hb.cell (p := ⟨b, k, none⟩) (block_lt_of_cell hu)]; exact hu
  exact ⟨vB, vL, up _ _ c0, up _ _ c1, up _ _ c2, r1.below hb, r2.below hb⟩
theorem ROps.at {w : World} {ad : Option Addr} {n c : Nat} {os : List OpT} (h : ROps w (.slice ad n c) os) {j : Nat} (hj : j < os.length) : ∃ b off vB vL, ad = some ⟨b, off, none⟩ ∧ w.cell? ⟨b, off + j * 3, none⟩ = some (.bool (os.getD j ⟨false, [], []⟩).ag) ∧ w.cell? ⟨b, off + j * 3 + 1, none⟩ = some vB ∧ w.cell? ⟨b, off + j * 3 + 2, none⟩ = some vL ∧ Reads w vB (os.getD j ⟨false, [], []⟩).b ∧ ReadsL w vL (os.getD j ⟨false, [], []⟩).l := by
  obtain ⟨ad', cap, h1, h2, h3⟩ := h
  simp only [Value.slice.injEq] at h1
  obtain ⟨rfl, _, _⟩ := h1
  obtain ⟨b, off, h4, h5⟩ := h3 (Nat.lt_of_le_of_lt (Nat.zero_le _) hj)
  obtain ⟨vB, vL, r⟩ := h5 j hj
  exact ⟨b, off, vB, vL, h4, r⟩
def sumB (l : List Bs) : Nat := (l.map List.length).sum
theorem sumB_snoc (l : List Bs) (x : Bs) : sumB (l ++ [x]) = sumB l + x.length := by simp [sumB]
/-- lengths that no machine's memory passes -/
structure szO (o : OpT) : Prop where
  b : o.b.length ≤ 1125899906842624
  n : o.l.length ≤ 1125899906842624
  l : ∀ x ∈ o.l, x.length ≤ 1125899906842624
end Go.Proofs.YtopmeedmgjdcgaaGreatDoor
/- Plain: an act by the log, and by the reference (layer 14). -/
namespace Go.Proofs.YtopmeedmgjdcgaaGreatDoor
open Go.RowKit
set_option maxRecDepth 100000
theorem fit_iff (l : List Bs) (n : Nat) : fit14 l n = true ↔ 1 + secL l ≤ n / 2 := by
  unfold fit14
  rw [decide_eq_true_iff, sizeL_eq]
  omega
theorem do_app {D : DkT} {J : JnT} (h : Log D J) (x : Bs) : appX J D x = apX J.l x (sizeD D) ∧ Log (appD J D x) (appJ J D x) ∧ (appJ J D x).l = apL J.l x (sizeD D) ∧ sizeD (appD J D x) = sizeD D ∧ appX J D x ≠ 14 ∧ (appJ J D x).gen = J.gen ∧ (appJ J D x).k = J.k := by
  by_cases he : appE J D x = 0
  · obtain ⟨a1, a2, a3, a4⟩ := h.app he
    have hr := (app_ref D J x).1 he
    have hf : fit14 (J.l ++ [x]) (sizeD D) = true := decide_eq_true hr.2
    have hx : apX J.l x (sizeD D) = 0 := by rw [apX, if_neg hr.1, if_pos hf]
    refine ⟨by rw [a1, hx], a3, ?_, a4, by rw [a1]; decide, ?_, ?_⟩
    · rw [appJ, if_pos he, apL, if_pos hx]
    · rw [appJ, if_pos he]
    · rw [appJ, if_pos he]
  · have hX : appX J D x = appE J D x := by rw [appX, if_neg he]
    have hD : appD J D x = D := by rw [appD, if_neg he]
    have hJ : appJ J D x = J := by rw [appJ, if_neg he]
    have hx : apX J.l x (sizeD D) = appE J D x := by
      unfold apX
      by_cases hc : chkX x = 1
      · rw [if_pos hc]
        unfold appE
        rw [if_pos hc]
      · have hf : ¬ fit14 (J.l ++ [x]) (sizeD D) = true := fun hf => he ((app_ref D J x).2 ⟨hc, of_decide_eq_true hf⟩)
        rw [if_neg hc, if_neg hf]
        unfold appE at he ⊢
        rw [if_neg hc] at he ⊢
        by_cases hs : hsD D < 1 + secL J.l + secR x.length
        · rw [if_pos hs]
        · rw [if_neg hs] at he; exact absurd rfl he
    have hn : appE J D x ≠ 14 := by
      unfold appE
      split
      · decide
      · split <;> decide
    rw [hX, hD, hJ, hx]
    exact ⟨rfl, h, by rw [apL, hx, if_neg he], rfl, hn, rfl, rfl⟩
theorem do_rst {D : DkT} {J : JnT} (h : Log D J) (hg : J.gen + 1 < 18446744073709551616) (m : List Bs) : rstX J D m = rsX m (sizeD D) ∧ Log (rstD J D m) (rstJ J D m) ∧ (rstJ J D m).l = rsL J.l m (sizeD D) ∧ sizeD (rstD J D m) = sizeD D ∧ rstX J D m ≠ 14 ∧ (rstJ J D m).gen = (if rstX J D m = 0 then J.gen + 1 else J.gen) := by
  have hE : rstE D m = rsX m (sizeD D) := by
    unfold rstE rsX
    by_cases hc : ∃ x ∈ m, chkX x = 1
    · rw [if_pos hc, if_pos hc]
    · rw [if_neg hc, if_neg hc]
      by_cases hf : fit14 m (sizeD D) = true
      · rw [if_pos hf, if_neg]
        have := (fit_iff m (sizeD D)).1 hf
        unfold hsD
        omega
      · rw [if_neg hf, if_pos]
        have : ¬ 1 + secL m ≤ sizeD D / 2 := fun h => hf ((fit_iff m (sizeD D)).2 h)
        unfold hsD
        omega
  by_cases he : rstE D m = 0
  · obtain ⟨a1, a2, a3, a4⟩ := h.rst hg he
    have hx : rsX m (sizeD D) = 0 := by rw [← hE]; exact he
    refine ⟨by rw [a1, hx], a2, ?_, a3, by rw [a1]; decide, ?_⟩
    · rw [rstJ, if_pos he, rsL, if_pos hx]
    · rw [rstJ, if_pos he, if_pos a1]
  · have hX : rstX J D m = rstE D m := by rw [rstX, if_neg he]
    have hD : rstD J D m = D := by rw [rstD, if_neg he]
    have hJ : rstJ J D m = J := by rw [rstJ, if_neg he]
    have hn : rstE D m ≠ 14 := by
      unfold rstE
      split
      · decide
      · split <;> decide
    rw [hX, hD, hJ, if_neg he]
    exact ⟨hE, h, by rw [rsL, ← hE, if_neg he], rfl, hn, rfl⟩
end Go.Proofs.YtopmeedmgjdcgaaGreatDoor

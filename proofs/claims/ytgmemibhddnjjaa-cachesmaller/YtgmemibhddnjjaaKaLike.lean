/- The cache's map of things; likeItself, find, remove (layer 16). -/
import Derived.Test.YtgmemibhddnjjaaKaRing
import Derived.Defers
import Derived.Recover
namespace Go.Proofs.Ytgmemibhddnjjaa
open Go.RowKit
set_option maxRecDepth 100000
set_option maxRecDepth 100000 in
set_option maxHeartbeats 400000 in
theorem like1_idle (w : World) : CallsD Try.prog 30 #[] .returning w fun e u' w' => e = .returned (.tuple #[]) ∧ u' = .returning ∧ w' = w := by
  refine callsD_of_wpS Try.func30 rfl fun c₀ cs hu => ?_
  simp only [Try.ntmps30, List.size_toArray, List.length_nil, Nat.reduceSub, Array.replicate_succ, Array.replicate_zero, List.push_toArray, List.append_toArray, List.nil_append]
  apply wpS_region
  simp [wpOpsS, go_sem, recoverD, hu]
  exact ⟨rfl, _, rfl, _, results_none rfl _ _ _, rfl, hu, rfl⟩
set_option maxRecDepth 100000 in
set_option maxHeartbeats 400000 in
theorem kaLike_any (s : ByteArray) (w : World) : Calls Try.prog 26 #[.string s] w fun e w' => e = .returned (.bool true) ∧ w' = w := by
  have hmf : ∀ (fn : Fn) (first cap : Array Value) (w : World), (Instr.makeFunc fn first cap).run Try.prog w = .ok (.func fn first cap) w := fun _ _ _ _ => rfl
  go_enter_defers Try.func26, Try.ntmps26
  go_wp2
  refine leaves_cons (f := 30) (args := #[]) (by simp) (by simp [go_sem]) ?_
  refine (like1_idle w).mono ?_
  rintro e u' w'' ⟨rfl, rfl, rfl⟩
  simp [Leaves, settle, results, Try.results26, go_sem]
def numP : Option Nat → Int
  | some g => (g : Int)
  | none => -1
/-- how a pointer to a thing reads -/
def ptrE (v : Value) : Option (DataW Unit × List MemPlace) := match v with
  | .pointer none => some (.lit (.int .i64 (-1)), [])
  | .pointer (some ⟨g, 0, none⟩) => some (.lit (.int .i64 (g : Int)), [])
  | _ => none
theorem ptrE_mk (o : Option Nat) : ptrE (ptK o) = some (.lit (.int .i64 (numP o)), []) := by cases o <;> rfl
theorem ptrE_inv {v : Value} {o : Option Nat} {ps : List MemPlace} (h : ptrE v = some (.lit (.int .i64 (numP o)), ps)) : v = ptK o := by
  unfold ptrE at h
  split at h
  · cases o with
    | none => rfl
    | some g =>
      simp [numP] at h
      try omega
  · rename_i g
    cases o with
    | none =>
      simp [numP] at h
      try omega
    | some g' =>
      simp [numP] at h
      have e : g = g' := by omega
      rw [e]
      rfl
  · cases h
def litS (s : ByteArray) : Lit := .string s.data.toList
theorem litS_inj {s t : ByteArray} (h : litS s = litS t) : s = t := by
  unfold litS at h
  cases s; cases t
  simp at h
  simp [h]
/-- block m is a map of at most n entries, from keys to blocks of things -/
def MapF (w : World) (m n : Nat) (F : ByteArray → Option Nat) : Prop := ∃ D : DataW Unit, w.ownsMap Try.prog 9 ptrE m n D ∧ ∀ s, D.atKey (litS s) (.lit (.int .i64 (-1))) = .lit (.int .i64 (numP (F s)))
theorem kS : Maps.Keyed Try.prog 9 := Maps.string_keyed Try.underlying9
theorem keyS {s : ByteArray} (h : s.size ≤ maxLen) : keyOf Try.prog 9 (.string s) = some (litS s) := WideMaps.keyOf_string_mk Try.underlying9 h
theorem litKey (s : ByteArray) : WideAt.IsKeyLit (litS s) := trivial
theorem MapF.lt {w : World} {m n : Nat} {F : ByteArray → Option Nat} (h : MapF w m n F) : m < w.heap.size := by obtain ⟨D, h1, _⟩ := h; exact h1.lt
theorem MapF.same {w w' : World} {m n : Nat} {F : ByteArray → Option Nat} (h : MapF w m n F) (e : w'.heap[m]? = w.heap[m]?) : MapF w' m n F := by
  obtain ⟨D, ⟨es, cl, hb, r⟩, h2⟩ := h
  exact ⟨D, ⟨es, cl, by rw [e]; exact hb, r⟩, h2⟩
theorem MapF.ne {w : World} {m n : Nat} {F : ByteArray → Option Nat} (h : MapF w m n F) {g : Nat} {cs : List Value} {t : TypeId} (hb : Blk w g cs t) : m ≠ g := fun e => by
  obtain ⟨D, ⟨es, cl, hm, _⟩, _⟩ := h
  subst e
  unfold Blk at hb
  rw [hm] at hb
  cases hb
theorem map_new (w : World) : MapF (w.alloc (.map #[] 0)) w.heap.size 0 (fun _ => none) := ⟨.map [], World.ownsMap_made w _ _ _, fun _ => rfl⟩
/-- a key looked up -/
theorem MapF.look {w : World} {m n : Nat} {F : ByteArray → Option Nat} (h : MapF w m n F) {s : ByteArray} (hs : s.size ≤ maxLen) : (Instr.lookup 53 (.map (some m)) (.string s) false).run Try.prog w = .ok (ptK (F s)) w := by
  obtain ⟨D, h1, h2⟩ := h
  obtain ⟨v, ps, hr, hv⟩ := h1.lookup kS Try.underlying53 (z := .pointer none) (by kernel_rfl) (ptrE_mk none) (keyS hs)
  rw [show numP none = -1 from rfl, h2 s] at hv
  rw [ptrE_inv hv] at hr
  exact hr
/-- a key's thing laid -/
theorem MapF.lay {w : World} {m n : Nat} {F : ByteArray → Option Nat} (h : MapF w m n F) (hn : n < maxLen) {s : ByteArray} (hs : s.size ≤ maxLen) (x : Nat) : ∃ w', (Instr.mapUpdate 53 (.map (some m)) (.string s) (ptK (some x))).run Try.prog w = .ok () w' ∧ MapF w' m (n + 1) (fun t => if t = s then some x else F t) ∧ OnlyL [m] w w' := by
  obtain ⟨D, h1, h2⟩ := h
  have hi := h1.isMap
  obtain ⟨w', hr, h3, h4⟩ := h1.store kS Try.underlying53 hn (keyS hs) (ptrE_mk (some x))
  refine ⟨w', hr, ⟨_, h3, fun t => ?_⟩, ?_⟩
  · show _ = DataW.lit (.int .i64 (numP (if t = s then some x else F t)))
    by_cases e : t = s
    · subst e
      rw [if_pos rfl, Maps.atKey_put_same hi (litKey _)]
    · rw [if_neg e, Maps.atKey_put_other (fun e2 => e (litS_inj e2))]
      exact h2 t
  · obtain ⟨es, cl, es', cl', hb, rfl⟩ := h4
    refine ⟨rfl, rfl, rfl, by simp [ChangeMaps.setBlock], fun k hk => ?_⟩
    exact ChangeMaps.heap_setBlock_other hb _ (fun e => hk (by simp [e]))
/-- a key's thing taken away -/
theorem MapF.cut {w : World} {m n : Nat} {F : ByteArray → Option Nat} (h : MapF w m n F) {s : ByteArray} (hs : s.size ≤ maxLen) (ty : TypeId) : ∃ w', (Builtin.delete_ #[53, 9] ty #[.map (some m), .string s]).run Try.prog w = .ok (.tuple #[]) w' ∧ MapF w' m n (fun t => if t = s then none else F t) ∧ OnlyL [m] w w' := by
  obtain ⟨D, h1, h2⟩ := h
  obtain ⟨w', hr, h3, h4⟩ := h1.drop kS Try.underlying53 (keyS hs) ty
  refine ⟨w', hr, ⟨_, h3, fun t => ?_⟩, ?_⟩
  · show _ = DataW.lit (.int .i64 (numP (if t = s then none else F t)))
    by_cases e : t = s
    · subst e
      rw [if_pos rfl, Maps.atKey_del_same]
      rfl
    · rw [if_neg e, Maps.atKey_del_other (fun e2 => e (litS_inj e2))]
      exact h2 t
  · obtain ⟨es, cl, es', cl', hb, rfl⟩ := h4
    refine ⟨rfl, rfl, rfl, by simp [ChangeMaps.setBlock], fun k hk => ?_⟩
    exact ChangeMaps.heap_setBlock_other hb _ (fun e => hk (by simp [e]))
theorem Ring.same {w w' : World} {g m mo h ms : Nat} {T : List ThT} (R : Ring w g m mo h ms T) (hs : ∀ k ∈ g :: T.map (·.1), w'.heap[k]? = w.heap[k]?) : Ring w' g m mo h ms T := by
  refine ⟨?_, fun i x hx => ?_, R.nd⟩
  · have := R.me; unfold Blk at *; rw [hs g (by simp)]; exact this
  · have := R.th i x hx; unfold Blk at *; rw [hs x.1 (List.mem_cons_of_mem _ (List.mem_map.2 ⟨x, List.mem_of_getElem? hx, rfl⟩))]; exact this
set_option maxRecDepth 100000 in
set_option maxHeartbeats 400000 in
theorem kaFind_any {w : World} {g m mo h ms : Nat} {T : List ThT} {n : Nat} {F : ByteArray → Option Nat} (R : Ring w g m mo h ms T) (hm : MapF w m n F) {s : ByteArray} (hs : s.size ≤ maxLen) : Calls Try.prog 23 #[.pointer (some ⟨g, 0, none⟩), .string s] w fun e w' => e = .returned (ptK (F s)) ∧ w' = w := by
  have HL : Hid (Calls Try.prog 26 #[.string s] w fun e w' => e = .returned (.bool true) ∧ w' = w) := kaLike_any s w
  have c2 : w.cell? ⟨g, 2, none⟩ = some (.map (some m)) := R.me.cell 2
  have hk := hm.look hs
  clear hm hs R
  go_enter Try.func23, Try.ntmps23
  go_wp2_with (first
    | (go_at_call 26; refine (HL.out).mono ?_; rintro e0 y0 ⟨rfl, rfl⟩))
  go_ret
  exact ⟨rfl, rfl⟩
theorem wp_delete {P : Program} {w : World} {ops : Array Oper} {rest : List Oper} {o : Oper} {a : Act} {Q : Exit → Act → World → Prop} (hg : o.guard = none) (m x : Operand) (t k : TypeId) (hop : o.op = Op.call { callee := Callee.builtin Builtin.delete, args := #[m, x], argTypes := #[t, k] }) (vm vx : Value) (hm : a.eval m = vm) (hx : a.eval x = vx) (w' : World)
    (hr : ∀ ty, (Builtin.delete_ #[t, k] ty #[vm, vx]).run P w = .ok (.tuple #[]) w') (h : wpList P ops Q rest (a.put o.dst (.tuple #[])) w') : wpList P ops Q (o :: rest) a w := by
  refine wpList_plain hg fun K' hK' => ?_
  unfold Oper.wp
  simp [execOp, hop, resolve, invoke, builtin, hm, hx, hr o.type, Result.andThen]
  exact hK' _ _ h
set_option maxRecDepth 100000 in
set_option maxHeartbeats 400000 in
theorem kaRemove_any {w : World} {g m mo h ms : Nat} {T : List ThT} {n : Nat} {F : ByteArray → Option Nat} (R : Ring w g m mo h ms T) (hm : MapF w m n F) {i : Nat} {x : ThT} (hi : T[i]? = some x) (hn : T.length < 4611686018427387904) (hs : x.2.1.size ≤ maxLen) :
    Calls Try.prog 27 #[.pointer (some ⟨g, 0, none⟩), .pointer (some ⟨x.1, 0, none⟩)] w fun r w' => r = .returned (.tuple #[]) ∧ Ring w' g m mo h ms (T.eraseIdx i) ∧ MapF w' m n (fun t => if t = x.2.1 then none else F t) ∧ OnlyL (g :: m :: T.map (·.1)) w w' := by
  obtain ⟨xg, xk, xv⟩ := x
  have HU : Hid (Calls Try.prog 24 #[.pointer (some ⟨g, 0, none⟩), .pointer (some ⟨xg, 0, none⟩)] w fun r w' => r = .returned (.tuple #[]) ∧ Ring w' g m mo h ms (T.eraseIdx i) ∧ Blk w' xg (thC (xk, xv) none none) 58 ∧ OnlyL (g :: T.map (·.1)) w w') := unlink_any R hi hn
  have HM : Hid (MapF w m n F) := hm
  have HR : Hid (Ring w g m mo h ms T) := R
  have HS : Hid (xk.size ≤ maxLen) := hs
  clear R hm hi hn hs
  go_enter Try.func27, Try.ntmps27
  have tk0 : Hid True := trivial
  go_wp2_with (first
    | (clear tk0; go_at_call 24; refine (HU.out).mono ?_; rintro e0 y0 ⟨rfl, r0, b0, o0⟩
       have HR0 : Hid (Ring y0 g m mo h ms (T.eraseIdx i)) := r0
       have HO0 : Hid (OnlyL (g :: T.map (·.1)) w y0) := o0
       have k2 : y0.cell? ⟨g, 2, none⟩ = some (.map (some m)) := r0.me.cell 2
       have k0 : y0.cell? ⟨xg, 0, none⟩ = some (.string xk) := b0.cell 0
       clear r0 b0 o0)
    | (go_at_call 26; refine (kaLike_any xk y0).mono ?_; rintro e1 y1 ⟨rfl, rfl⟩))
  have nmg : m ≠ g := HM.out.ne HR.out.me
  have nmT : m ∉ g :: T.map (·.1) := by
    intro e
    rcases List.mem_cons.1 e with e | e
    · exact nmg e
    · obtain ⟨z, hz, e2⟩ := List.mem_map.1 e
      obtain ⟨j, hj⟩ := List.mem_iff_getElem?.1 hz
      exact HM.out.ne (HR.out.th j z hj) e2.symm
  have hM1 : MapF y1.drew m n F := (HM.out.same (HO0.out.block m nmT))
  obtain ⟨w2, hr2, hM2, o2⟩ := hM1.cut HS.out 0
  have l2 : w2.cell? ⟨g, 2, none⟩ = some (.map (some m)) := by rw [World.cell?_of_block (w := y1) (o2.block g (by simp; exact fun e => nmg e.symm))]; exact k2
  have nmx : m ≠ xg := by
    have hB : MapF y1 m n F := HM.out.same (HO0.out.block m nmT)
    intro e
    obtain ⟨D, ⟨es, cl, hb, _⟩, _⟩ := hB
    rw [← e, World.cell?, hb] at k0
    simp at k0
  have l0 : w2.cell? ⟨xg, 0, none⟩ = some (.string xk) := by rw [World.cell?_of_block (w := y1) (o2.block xg (by simp; exact fun e => nmx e.symm))]; exact k0
  have HM2 : Hid (MapF w2 m n (fun t => if t = xk then none else F t)) := hM2
  have HO2 : Hid (OnlyL [m] y1.drew w2) := o2
  clear hM1 hM2 o2 nmx
  go_region_held3 (fun wx => wx.cell? ⟨g, 2, none⟩ = some (.map (some m)) ∧ wx.cell? ⟨xg, 0, none⟩ = some (.string xk)) (go_keep) (fail)
  refine bodyPost_end (results_none rfl _ _ _) rfl ?_
  refine ⟨rfl, HR0.out.same (fun k hk => HO2.out.block k (fun e => ?_)), HM2.out, ⟨HO2.out.os.trans HO0.out.os, HO2.out.tape.trans HO0.out.tape, HO2.out.output.trans HO0.out.output, HO0.out.size.trans HO2.out.size, fun k hk => ?_⟩⟩
  · have e : k = m := by simpa using e
    subst e
    rcases List.mem_cons.1 hk with e | e
    · exact nmg e
    · exact nmT (List.mem_cons_of_mem _ (((List.eraseIdx_sublist _ _).map _).mem e))
  · simp only [List.mem_cons, not_or] at hk
    exact (HO2.out.block k (by simp only [List.mem_singleton]; exact hk.2.1)).trans (HO0.out.block k (by simp only [List.mem_cons, not_or]; exact ⟨hk.1, hk.2.2⟩))
end Go.Proofs.Ytgmemibhddnjjaa

/- The walks of the reference's reader: Count and Take. -/
import Derived.Test.YtldbcglakeggaaaRIn
import Derived.Deep.RegionHeld3
namespace Go.Proofs.Ytldbcglakeggaaa
open Go.RowKit
theorem drop_nil_len {l : List (BitVec 8)} {p : Nat} : (l.drop p).length = l.length - p := List.length_drop
set_option maxHeartbeats 400000 in
theorem incount_any (g : Nat) (v : Value) (l : List (BitVec 8)) (pos : Nat) (bad : Bool) (w : World) (most : Nat) (hm : most < 9223372036854775808) (h : InS w g v l pos bad) (hl : l.length ≤ 9223372036854775807) :
    Calls Try.prog 52 #[.pointer (some ⟨g, 0, none⟩), .int .i64 (most : Int)] w fun e w' => InDoes g v l w (if bad then none else readCount most (l.drop pos)) (fun a _ u => u = .int .i64 (a : Int)) (fun u => u = .int .i64 0) e w' := by
  have HI : Hid (InS w g v l pos bad) := h
  have HL : Hid (l.length ≤ 9223372036854775807) := hl
  have hw : IntKind.u64.wrap (most : Int) = (most : Int) := by rw [IntKind.wrap_u64]; omega
  obtain ⟨oo, HOO⟩ : ∃ x, Hid (x = if bad then none else readCount most (l.drop pos)) := ⟨_, rfl⟩
  rw [← HOO.out]
  clear h hl
  go_enter Try.func52, Try.ntmps52
  go_wp2_with fail
  refine (innum_any g v l pos bad w HI.out HL.out).mono ?_
  rintro e w1 (⟨n, p, u, ho, rfl, rfl, hs, hon⟩ | ⟨ho, u, p, rfl, rfl, hs, hon⟩)
  · have c2 : w1.cell? ⟨g, 2, none⟩ = some (.bool false) := hs.blk.cell 2
    have f2 : w1.frozen? ⟨g, 2, none⟩ = false := hs.blk.frozen 2
    have HS : Hid (InS w1 g v l p false) := hs
    have HON : Hid (Only g w w1) := hon
    have HC : Hid (oo = if n ≤ most then some (n, l.drop p) else none) := by
      show _ = _
      rw [HOO.out]
      cases bad with
      | true => simp at ho
      | false =>
        simp only [Bool.false_eq_true, if_false] at ho ⊢
        unfold readCount
        rw [ho]
    clear hs hon ho HI
    by_cases hle : n ≤ most
    · have hng : ¬ ((most : Int) < (n : Int)) := by omega
      have hwn : IntKind.i64.wrap (n : Int) = (n : Int) := by rw [IntKind.wrap_i64]; omega
      have HF : Hid (InDoes g v l w oo (fun (a : Nat) _ u => u = .int .i64 (a : Int)) (fun u => u = .int .i64 0) (.returned (.int .i64 (n : Int))) w1) := Or.inl ⟨n, p, _, by rw [HC.out, if_pos hle], rfl, rfl, HS.out, HON.out⟩
      clear HC HS HON
      go_wp2
      go_ret
      exact HF.out
    · have hg : (most : Int) < (n : Int) := by omega
      have HF : Hid (InDoes g v l w oo (fun (a : Nat) _ u => u = .int .i64 (a : Int)) (fun u => u = .int .i64 0) (.returned (.int .i64 0)) (w1.setCell ⟨g, 2, none⟩ (.bool true))) := Or.inr ⟨by rw [HC.out, if_neg hle], _, _, rfl, rfl, HS.out.setBad true, HON.out.setCell _ _⟩
      clear HC HS HON hle
      go_wp2
      go_ret
      exact HF.out
  · have c2 : w1.cell? ⟨g, 2, none⟩ = some (.bool true) := hs.blk.cell 2
    have f2 : w1.frozen? ⟨g, 2, none⟩ = false := hs.blk.frozen 2
    have HC : Hid (oo = none) := by
      show _ = _
      rw [HOO.out]
      cases bad with
      | true => rfl
      | false =>
        simp only [Bool.false_eq_true, if_false] at ho ⊢
        unfold readCount
        rw [ho]
    have HF : Hid (InDoes g v l w oo (fun (a : Nat) _ u => u = .int .i64 (a : Int)) (fun u => u = .int .i64 0) (.returned (.int .i64 0)) (w1.setCell ⟨g, 2, none⟩ (.bool true))) := Or.inr ⟨HC.out, _, _, rfl, rfl, hs.setBad true, hon.setCell _ _⟩
    clear hs hon ho HI
    go_wp2
    go_ret
    exact HF.out
def cutAd (ad : Option Addr) (p cap : Nat) : Option Addr := if cap = p then ad else ad.map (·.add p)
theorem slice_mid (ad : Option Addr) (m cap p n : Nat) (h2 : p + n ≤ cap) (w : World) :
    (Instr.sliceAt 22 (.slice ad m cap) (some (.int .i64 (p : Int))) (some (.int .i64 ((p : Int) + (n : Int)))) none).run Try.prog w = .ok (.slice (cutAd ad p cap) n (cap - p)) w := by
  have e : ((p : Int) + (n : Int)).toNat = p + n := by omega
  unfold cutAd
  simp [go_sem, Instr.sliceAt, Instr.slice, Instr.sliceBounds]
  rw [if_pos ⟨by omega, by omega⟩, e, if_pos (by omega), Nat.add_sub_cancel_left]
theorem Reads.mid {w : World} {ad : Option Addr} {m cap : Nat} {l : List (BitVec 8)} (h : Reads w (.slice ad m cap) l) (p n : Nat) (hp : p + n ≤ l.length) : Reads w (.slice (cutAd ad p cap) n (cap - p)) ((l.drop p).take n) := by
  have hm : m ≤ cap ∧ m = l.length := by
    obtain ⟨ad', cap', hv, hc, _⟩ := h
    simp only [Value.slice.injEq] at hv
    obtain ⟨_, rfl, rfl⟩ := hv
    exact ⟨hc, rfl⟩
  obtain ⟨hmc, hml⟩ := hm
  cases ad with
  | none =>
    obtain ⟨ad', cap', hv, hc, hn, hx⟩ := h
    simp only [Value.slice.injEq] at hv
    obtain ⟨rfl, _, rfl⟩ := hv
    have := hn rfl
    subst this
    have hl : l.length = 0 := by omega
    have hn0 : n = 0 := by omega
    have hp0 : p = 0 := by omega
    subst hn0 hp0
    exact ⟨none, 0, by simp [cutAd], by simp, fun _ => rfl, fun h => by simp at h⟩
  | some a =>
    have h1 := (h.drop p (by omega) (if cap = p then a else a.add p) (fun hlt => by rw [if_neg (by omega)]))
    have h2 := h1.take n (by rw [List.length_drop]; omega)
    have e : cutAd (some a) p cap = some (if cap = p then a else a.add p) := by
      unfold cutAd
      by_cases hcp : cap = p
      · rw [if_pos hcp, if_pos hcp]
      · rw [if_neg hcp, if_neg hcp]; rfl
    rw [e]
    exact h2
theorem wpAnyH_law {P : Program} {md : Region.Mode} {ops : Array Oper} {Q : Exit → Act → World → Prop} {S : World → Prop} {fuel : Nat} {listed : Array Bool} {a : Act} {w : World} (i : Nat) {oi : Oper}
    (hr : Region.ready md ops listed = [i]) (hi : ops[i]? = some oi) (hw : Region.wanted oi (yielded ops a.tmps) = true)
    (h : Oper.wp P oi a w (fun a' w' => S w' ∧ wpAnyH P md ops Q S fuel (listed.setIfInBounds i true) a' w') Q) : wpAnyH P md ops Q S (fuel + 1) listed a w := by
  refine wpAnyH_all hr (by simp) (fun j hj => ?_)
  obtain rfl : j = i := by simpa using hj
  unfold wpOp
  rw [hi]
  simp only [hw, if_true]
  left
  exact h
theorem wp_appendB {w : World} {o : Oper} {a : Act} {K : Act → World → Prop} {Q : Exit → Act → World → Prop} (s x : Operand)
    (ho : o.op = .call { callee := .builtin .append, args := #[s, x], argTypes := #[22, 22] }) (vx : Value) (news : List (BitVec 8)) (hs : a.eval s = .slice none 0 0) (hx : a.eval x = vx) (hr : Reads w vx news)
    (hlen : news.length ≤ 140737488355328) (h : ∀ v' w', OwnB w' w.heap.size v' news → Below w.heap.size w w' → K (a.put o.dst v') w') : o.wp Try.prog a w K Q := by
  obtain ⟨i0, hi, hz0, hz1, hz2⟩ := info_parts Try.infob
  obtain ⟨ad, cap, rfl, hcap, hnn, hpos⟩ := hr
  cases ad with
  | some ad =>
    refine wp_append_own w s x 22 ho w.heap.size 5 i0 (.int .u8 0) 1 1 Try.underlying22 hi hz0 hz1 hz2 rfl (by decide) (.slice none 0 0) 0 [] hs (World.ownsRow_nil _ _ _ _) ad news.length cap (cb news) hx (by rw [cb_len]; omega) ?_ (cb_one _) (by unfold maxLen; omega) (by omega) (Nat.le_refl _) ?_
    · intro j u hj
      have hjl : j < news.length := by have := (List.getElem?_eq_some_iff.1 hj).1; rwa [cb_len] at this
      obtain ⟨b, off, h1, h2⟩ := hpos (by omega)
      cases h1
      rw [Addr.add_mid, h2 j hjl, ← hj, cb_get news j hjl]
    · intro v' w' h1 h2 _
      rw [List.nil_append, Nat.zero_add] at h1
      exact h v' w' h1 ((Below.refl _ _).grown h2 (Nat.le_refl _) (fun k hk => by simp [Value.ownBlock] at hk))
  | none =>
    have hn0 : news = [] := by
      cases news with
      | nil => rfl
      | cons b r => obtain ⟨b, off, h1, _⟩ := hpos (by simp); cases h1
    subst hn0
    have hc0 := hnn rfl
    subst hc0
    have hrun := run_append_owned_none (P := Try.prog) (w := w) w.heap.size 22 o.type 5 i0 1 Try.underlying22 hi (.slice none 0 0) 0 [] (World.ownsRow_nil _ _ _ _)
    unfold Oper.wp execOp
    simp only [List.length_nil] at hx
    simp only [ho, resolve, invoke, builtin, Sem.run_bind, Sem.run_pure, Result.andThen_ok, List.map_toArray, List.map_cons, List.map_nil, hs, hx, hrun]
    exact h _ w (OwnB.nil _ _) (Below.refl _ _)
set_option maxRecDepth 100000 in
set_option maxHeartbeats 1000000 in
theorem intake_any (g : Nat) (v : Value) (l : List (BitVec 8)) (pos : Nat) (bad : Bool) (w : World) (n : Nat) (hn : n ≤ 140737488355328) (h : InS w g v l pos bad) (hl : l.length ≤ 9223372036854775807) :
    Calls Try.prog 64 #[.pointer (some ⟨g, 0, none⟩), .int .i64 (n : Int)] w fun e w' => InDoes g v l w (if bad then none else cut n (l.drop pos)) (fun a w' u => OwnB w' w.heap.size u a) (fun u => u = .slice none 0 0) e w' := by
  have HI : Hid (InS w g v l pos bad) := h
  have c1 : w.cell? ⟨g, 1, none⟩ = some (.int .i64 (pos : Int)) := h.blk.cell 1
  have c2 : w.cell? ⟨g, 2, none⟩ = some (.bool bad) := h.blk.cell 2
  have f1 : w.frozen? ⟨g, 1, none⟩ = false := h.blk.frozen 1
  have f2 : w.frozen? ⟨g, 2, none⟩ = false := h.blk.frozen 2
  obtain ⟨ad, cap, hv, hcap, hnn, _⟩ := id h.byt
  obtain ⟨m, HM⟩ : ∃ m, Hid (m = l.length) := ⟨_, rfl⟩
  rw [← HM.out] at hv hcap
  subst hv
  have c0 : w.cell? ⟨g, 0, none⟩ = some (.slice ad m cap) := h.blk.cell 0
  have HPM : Hid (pos ≤ m) := by show _ ≤ _; rw [HM.out]; exact h.le
  have hpm := HPM.out
  have hmx : m ≤ 9223372036854775807 := by rw [HM.out]; exact hl
  have hsub : IntKind.i64.wrap ((m : Int) - (pos : Int)) = (m : Int) - (pos : Int) := by rw [IntKind.wrap_i64]; omega
  clear h hl
  cases bad with
  | true =>
    have HF : Hid (∀ k, InDoes g (.slice ad m cap) l w none (fun (a : List (BitVec 8)) w' u => OwnB w' w.heap.size u a) (fun u => u = .slice none 0 0) (.returned (.slice none 0 0)) ((w.drewN k).setCell ⟨g, 2, none⟩ (.bool true))) := fun k =>
      Or.inr ⟨rfl, _, _, rfl, rfl, (HI.out.drewN k).setBad true, ((Only.refl _ _).drewN k).setCell _ _⟩
    clear HI
    go_enter Try.func64, Try.ntmps64
    go_wp2
    go_quiet (fail)
    go_wp2
    go_ret
    exact HF.out _
  | false =>
    by_cases hle : n ≤ m - pos
    · have hng : ¬ ((m : Int) - (pos : Int) < (n : Int)) := by omega
      have hadd : IntKind.i64.wrap ((pos : Int) + (n : Int)) = (pos : Int) + (n : Int) := by rw [IntKind.wrap_i64]; omega
      have hsub2 : IntKind.i64.wrap ((pos : Int) + (n : Int) - (n : Int)) = (pos : Int) := by rw [IntKind.wrap_i64]; omega
      go_enter Try.func64, Try.ntmps64
      go_wp2
      go_quiet (fail)
      go_wp2
      have HS3 : Hid (InS ((w.drewN nq).setCell ⟨g, 1, none⟩ (.int .i64 ((pos : Int) + (n : Int)))) g (.slice ad m cap) l (pos + n) false) := (HI.out.drewN nq).setPos (pos + n) (by rw [← HM.out]; omega)
      have HO3 : Hid (Only g w ((w.drewN nq).setCell ⟨g, 1, none⟩ (.int .i64 ((pos : Int) + (n : Int))))) := ((Only.refl _ _).drewN nq).setCell _ _
      generalize (w.drewN nq).setCell ⟨g, 1, none⟩ (.int .i64 ((pos : Int) + (n : Int))) = w3 at *
      have d0 : w3.cell? ⟨g, 0, none⟩ = some (.slice ad m cap) := HS3.out.blk.cell 0
      have d1 : w3.cell? ⟨g, 1, none⟩ = some (.int .i64 ((pos : Int) + (n : Int))) := HS3.out.blk.cell 1
      clear c0 c1 c2 f1 f2 HI
      have hsl := slice_mid ad m cap pos n (by omega)
      have hwp : IntKind.i64.wrap (pos : Int) = (pos : Int) := by rw [IntKind.wrap_i64]; omega
      have HR3 : Hid (∀ k, Reads (w3.drewN k) (.slice (cutAd ad pos cap) n (cap - pos)) ((l.drop pos).take n)) := fun k => HS3.out.byt.mid pos n (by rw [← HM.out]; omega)
      have HLEN : Hid (((l.drop pos).take n).length ≤ 140737488355328) := by show _ ≤ _; rw [List.length_take, List.length_drop, ← HM.out]; omega
      obtain ⟨S, HSd⟩ : ∃ S : World → Prop, Hid (S = fun w' => w'.cell? ⟨g, 0, none⟩ = some (.slice ad m cap) ∧ w'.cell? ⟨g, 1, none⟩ = some (.int .i64 ((pos : Int) + (n : Int)))) := ⟨_, rfl⟩
      have hS0 : S w3.drew := by rw [HSd.out]; exact ⟨d0, d1⟩
      have hSS : ∀ wx, S wx → wx.cell? ⟨g, 0, none⟩ = some (.slice ad m cap) ∧ wx.cell? ⟨g, 1, none⟩ = some (.int .i64 ((pos : Int) + (n : Int))) := fun wx h => by rw [HSd.out] at h; exact h
      refine wp_region_held_drew (S := S) (by kernel_rfl) hS0 (fun _ => ?_)
      refine wpAnyH_take (i := 0) (v := .slice none 0 0) rfl (by kernel_rfl) (by kernel_rfl) (by kernel_rfl) (fun _ _ _ h => h) (Or.inl ⟨by rfl, fun wx _ => by simp [go_sem]⟩) hS0 ?_
      simp only [Act.put, List.getElem_toArray, List.getElem_cons_zero, List.setIfInBounds_toArray, List.set_cons_zero, List.set_cons_succ]
      refine wpAnyH_take (i := 1) (v := .pointer (some ⟨g, 0, none⟩)) rfl (by kernel_rfl) (by kernel_rfl) (by kernel_rfl) (fun _ _ _ h => h) (Or.inl ⟨by rfl, fun wx _ => by simp [go_sem]⟩) hS0 ?_
      simp only [Act.put, List.getElem_toArray, List.getElem_cons_succ, List.getElem_cons_zero, List.setIfInBounds_toArray, List.set_cons_zero, List.set_cons_succ]
      refine wpAnyH_take (i := 2) (v := .pointer (some ⟨g, 0, none⟩)) rfl (by kernel_rfl) (by kernel_rfl) (by kernel_rfl) (fun _ _ _ h => h) (Or.inl ⟨by rfl, fun wx _ => by simp [go_sem]⟩) hS0 ?_
      simp only [Act.put, List.getElem_toArray, List.getElem_cons_succ, List.getElem_cons_zero, List.setIfInBounds_toArray, List.set_cons_zero, List.set_cons_succ]
      refine wpAnyH_take (i := 3) (v := .pointer (some ⟨g, 0, none⟩)) rfl (by kernel_rfl) (by kernel_rfl) (by kernel_rfl) (fun _ _ _ h => h) (Or.inl ⟨by rfl, fun wx _ => by simp [go_sem]⟩) hS0 ?_
      simp only [Act.put, List.getElem_toArray, List.getElem_cons_succ, List.getElem_cons_zero, List.setIfInBounds_toArray, List.set_cons_zero, List.set_cons_succ]
      refine wpAnyH_take (i := 4) (v := .slice ad m cap) rfl (by kernel_rfl) (by kernel_rfl) (by kernel_rfl) (fun _ _ _ h => h) (Or.inl ⟨by rfl, fun wx hS => by simp [go_sem, (hSS wx hS).1]⟩) hS0 ?_
      simp only [Act.put, List.getElem_toArray, List.getElem_cons_succ, List.getElem_cons_zero, List.setIfInBounds_toArray, List.set_cons_zero, List.set_cons_succ]
      refine wpAnyH_take (i := 5) (v := .pointer (some ⟨g, 0, none⟩)) rfl (by kernel_rfl) (by kernel_rfl) (by kernel_rfl) (fun _ _ _ h => h) (Or.inl ⟨by rfl, fun wx _ => by simp [go_sem]⟩) hS0 ?_
      simp only [Act.put, List.getElem_toArray, List.getElem_cons_succ, List.getElem_cons_zero, List.setIfInBounds_toArray, List.set_cons_zero, List.set_cons_succ]
      refine wpAnyH_take (i := 6) (v := .pointer (some ⟨g, 0, none⟩)) rfl (by kernel_rfl) (by kernel_rfl) (by kernel_rfl) (fun _ _ _ h => h) (Or.inl ⟨by rfl, fun wx _ => by simp [go_sem]⟩) hS0 ?_
      simp only [Act.put, List.getElem_toArray, List.getElem_cons_succ, List.getElem_cons_zero, List.setIfInBounds_toArray, List.set_cons_zero, List.set_cons_succ]
      refine wpAnyH_take (i := 7) (v := .pointer (some ⟨g, 1, none⟩)) rfl (by kernel_rfl) (by kernel_rfl) (by kernel_rfl) (fun _ _ _ h => h) (Or.inl ⟨by rfl, fun wx _ => by simp [go_sem]⟩) hS0 ?_
      simp only [Act.put, List.getElem_toArray, List.getElem_cons_succ, List.getElem_cons_zero, List.setIfInBounds_toArray, List.set_cons_zero, List.set_cons_succ]
      refine wpAnyH_take (i := 8) (v := .int .i64 ((pos : Int) + (n : Int))) rfl (by kernel_rfl) (by kernel_rfl) (by kernel_rfl) (fun _ _ _ h => h) (Or.inl ⟨by rfl, fun wx hS => by simp [go_sem, (hSS wx hS).2]⟩) hS0 ?_
      simp only [Act.put, List.getElem_toArray, List.getElem_cons_succ, List.getElem_cons_zero, List.setIfInBounds_toArray, List.set_cons_zero, List.set_cons_succ]
      refine wpAnyH_take (i := 9) (v := .int .i64 (n : Int)) rfl (by kernel_rfl) (by kernel_rfl) (by kernel_rfl) (fun _ _ _ h => h) (Or.inl ⟨by rfl, fun wx _ => by simp [go_sem]⟩) hS0 ?_
      simp only [Act.put, List.getElem_toArray, List.getElem_cons_succ, List.getElem_cons_zero, List.setIfInBounds_toArray, List.set_cons_zero, List.set_cons_succ]
      refine wpAnyH_take (i := 10) (v := .int .i64 (pos : Int)) rfl (by kernel_rfl) (by kernel_rfl) (by kernel_rfl) (fun _ _ _ h => h) (Or.inl ⟨by rfl, fun wx _ => by simp [go_sem, hwp]⟩) hS0 ?_
      simp only [Act.put, List.getElem_toArray, List.getElem_cons_succ, List.getElem_cons_zero, List.setIfInBounds_toArray, List.set_cons_zero, List.set_cons_succ]
      refine wpAnyH_take (i := 11) (v := .pointer (some ⟨g, 0, none⟩)) rfl (by kernel_rfl) (by kernel_rfl) (by kernel_rfl) (fun _ _ _ h => h) (Or.inl ⟨by rfl, fun wx _ => by simp [go_sem]⟩) hS0 ?_
      simp only [Act.put, List.getElem_toArray, List.getElem_cons_succ, List.getElem_cons_zero, List.setIfInBounds_toArray, List.set_cons_zero, List.set_cons_succ]
      refine wpAnyH_take (i := 12) (v := .pointer (some ⟨g, 0, none⟩)) rfl (by kernel_rfl) (by kernel_rfl) (by kernel_rfl) (fun _ _ _ h => h) (Or.inl ⟨by rfl, fun wx _ => by simp [go_sem]⟩) hS0 ?_
      simp only [Act.put, List.getElem_toArray, List.getElem_cons_succ, List.getElem_cons_zero, List.setIfInBounds_toArray, List.set_cons_zero, List.set_cons_succ]
      refine wpAnyH_take (i := 13) (v := .pointer (some ⟨g, 1, none⟩)) rfl (by kernel_rfl) (by kernel_rfl) (by kernel_rfl) (fun _ _ _ h => h) (Or.inl ⟨by rfl, fun wx _ => by simp [go_sem]⟩) hS0 ?_
      simp only [Act.put, List.getElem_toArray, List.getElem_cons_succ, List.getElem_cons_zero, List.setIfInBounds_toArray, List.set_cons_zero, List.set_cons_succ]
      refine wpAnyH_take (i := 14) (v := .int .i64 ((pos : Int) + (n : Int))) rfl (by kernel_rfl) (by kernel_rfl) (by kernel_rfl) (fun _ _ _ h => h) (Or.inl ⟨by rfl, fun wx hS => by simp [go_sem, (hSS wx hS).2]⟩) hS0 ?_
      simp only [Act.put, List.getElem_toArray, List.getElem_cons_succ, List.getElem_cons_zero, List.setIfInBounds_toArray, List.set_cons_zero, List.set_cons_succ]
      refine wpAnyH_take (i := 15) (v := .slice (cutAd ad pos cap) n (cap - pos)) rfl (by kernel_rfl) (by kernel_rfl) (by kernel_rfl) (fun _ _ _ h => h) (Or.inl ⟨by rfl, fun wx _ => by simp [go_sem, hsl]⟩) hS0 ?_
      simp only [Act.put, List.getElem_toArray, List.getElem_cons_succ, List.getElem_cons_zero, List.setIfInBounds_toArray, List.set_cons_zero, List.set_cons_succ]
      refine wpAnyH_law 16 (by kernel_rfl) rfl (by rfl) (wp_appendB (.tmp 36) (.tmp 51) rfl _ ((l.drop pos).take n) rfl rfl (HR3.out 1) HLEN.out ?_)
      intro v4 w4 hown4 hbel4
      have HSx : S w4 := by rw [HSd.out]; exact ⟨by rw [hbel4.cell (p := ⟨g, 0, none⟩) (block_lt_of_cell d0)]; exact d0, by rw [hbel4.cell (p := ⟨g, 1, none⟩) (block_lt_of_cell d1)]; exact d1⟩
      refine ⟨HSx, ?_⟩
      simp only [Act.put, List.getElem_toArray, List.getElem_cons_succ, List.getElem_cons_zero, List.setIfInBounds_toArray, List.set_cons_zero, List.set_cons_succ]
      have HF : Hid (InDoes g (.slice ad m cap) l w (cut n (l.drop pos)) (fun (a : List (BitVec 8)) w' u => OwnB w' w.heap.size u a) (fun u => u = .slice none 0 0) (.returned v4) w4) := by
        have hb3 : Below w3.heap.size w3 w4 := (Below.refl _ _).drew.trans hbel4
        refine Or.inl ⟨(l.drop pos).take n, pos + n, v4, ?_, rfl, hown4.mono HO3.out.size, HS3.out.below hb3, HO3.out.trans (Only.of_below hb3)⟩
        unfold cut
        rw [if_pos (by rw [List.length_drop, ← HM.out]; exact hle), List.drop_drop]
      clear hown4 hbel4
      refine wpAnyH_take (i := 17) (v := v4) rfl (by kernel_rfl) (by kernel_rfl) (by kernel_rfl) (fun _ _ _ h => h) (Or.inl ⟨by rfl, fun wx _ => by simp [go_sem]⟩) HSx ?_
      simp only [Act.put, List.getElem_toArray, List.getElem_cons_succ, List.getElem_cons_zero, List.setIfInBounds_toArray, List.set_cons_zero, List.set_cons_succ]
      refine wpAnyH_done (by kernel_rfl) ?_ _
      go_wp2
      go_ret
      exact HF.out
    · have hgt : (m : Int) - (pos : Int) < (n : Int) := by omega
      have HC : Hid (cut n (l.drop pos) = none) := by show cut n _ = _; unfold cut; rw [if_neg (by rw [List.length_drop, ← HM.out]; omega)]
      have HF : Hid (∀ k, InDoes g (.slice ad m cap) l w (cut n (l.drop pos)) (fun (a : List (BitVec 8)) w' u => OwnB w' w.heap.size u a) (fun u => u = .slice none 0 0) (.returned (.slice none 0 0)) ((w.drewN k).setCell ⟨g, 2, none⟩ (.bool true))) := fun k =>
        Or.inr ⟨HC.out, _, _, rfl, rfl, (HI.out.drewN k).setBad true, ((Only.refl _ _).drewN k).setCell _ _⟩
      clear HI
      go_enter Try.func64, Try.ntmps64
      go_wp2
      go_quiet (fail)
      go_wp2
      go_ret
      exact HF.out _
end Go.Proofs.Ytldbcglakeggaaa

/- path.Bits, and the function that it hands out: it yields all bits, in order. -/
import Derived.Test.YthjkihbobdollaaPathW2
import Derived.RangeFuncNested
import Derived.RangeFuncBound
import Derived.RangeFuncCalls
import Derived.RangeFuncLeaves
import Derived.Shelf.Abstract
import Derived.Shelf.RegionOpen
import Derived.WalkKit
import Derived.OwnWalkIn
import Derived.TacticsInMore
import Derived.LoopNIn
import Derived.LoopIn
import Derived.Scope
namespace Go.Proofs.Ythjkihbobdollaa
open Go.RowKit Go.Shelf
attribute [local go_sem] Oper.semAt_some
theorem pBits_any (x : List (BitVec 8)) (w : World) : Calls Try.prog 13 #[.agg (cb x).toArray] w fun e w' => ∃ g, e = .returned (.func (.func 27) #[] #[.pointer (some ⟨g, 0, none⟩)]) ∧ NewB x w g w' := by
  go_enter Try.func13, Try.ntmps13
  go_wp2
  go_ret
  exact ⟨_, rfl, NewB.of x w⟩
theorem noGoto_normal {Q : Exit → Act → World → Prop} {a : Act} {w : World} (h : Q .normal a w) : Exit.noGoto Q .normal a w := h
theorem idx_dig (x : List (BitVec 8)) (hx : x.length = 32) (k : Nat) (hk : k < 32) (w : World) : (Instr.index 23 (.agg (cb x).toArray) (.int .i64 (k : Int))).run Try.prog w = .ok (.int .u8 ((x.getD k 0).toNat : Int)) w := by
  have hs : ∀ w, (sizeOf 5).run Try.prog w = .ok 1 w := fun w => by kernel_rfl
  have k0 : (0 : Int) ≤ (k : Int) ∧ (k : Int) < ((32 : Nat) : Int) := by omega
  unfold Instr.index
  simp only [asIntOf, Sem.run_bind, Sem.run_pure, Result.andThen_ok, run_underlying Try.underlying23]
  rw [if_pos k0]
  simp only [Sem.run_bind, hs, Result.andThen_ok, Int.toNat_natCast, Nat.mul_one]
  exact eq_part x hx k hk w
abbrev encsB (p : Nat × Bool) : Array Value := #[.int .i64 (p.1 : Int), .bool p.2]
set_option maxRecDepth 100000 in
set_option maxHeartbeats 2000000 in
theorem bits_stops (n : Nat) (hn : 1 ≤ n) (g : Nat) (x : List (BitVec 8)) (hx : x.length = 32) (w : World) (hb : Blk w g (cb x) 23) :
    SeqStopsK Fence.wide n Try.prog 27 #[.pointer (some ⟨g, 0, none⟩)] encsB (fun _ _ => True) (fun xs => xs = bitsOf x 256) (fun pre => ∃ k, k ≤ 256 ∧ pre = bitsOf x k) 256 w := fun l J Jx W hW hJ hJx hY h0 => by
  refine callsIn_of_wp Try.func27 rfl trivial ?_ rfl
  simp only [Try.ntmps27, List.size_toArray, List.length_cons, List.length_nil, Nat.reduceAdd, Nat.reduceSub, Array.replicate_succ, Array.replicate_zero, List.push_toArray, List.append_toArray, List.nil_append, List.cons_append]
  refine (wpIn_wide (n := n)).2 (wp_scope_straight ?_)
  have HW : Hid (Blk W g (cb x) 23) := hb.below hW hb.lt
  have HL : Hid (x.length = 32) := hx
  have HJ : Hid (AbidesFrom W.heap.size J) := hJ
  have HJX : Hid (AbidesFrom W.heap.size Jx) := hJx
  clear hb hx hJ hJx hW
  refine wp_seq (wp_label ?_)
  show Code.wp _ _ _ _ _
  go_wp2_with (first
    | (with_reducible refine wpSeq_loadD (.tmp 1) g x ?_ ?_ ?_ ?_ ?_ ?_
       · exact HL.out
       · exact HW.out
       · rfl
       · rfl
       · rfl))
  go_loopw [7] (fun p wr => ∃ k : Nat, k ≤ 32 ∧ p = .int .i64 (k : Int) ∧ J (bitsOf x (8 * k)) wr) (fun p _ => 32 - (intOf p).toNat)
  case atStart => exact ⟨0, by omega, rfl, h0⟩
  case round =>
    obtain ⟨k, hk, rfl, hJk⟩ := hrel
    have HJK : Hid (J (bitsOf x (8 * k)) wr) := hJk
    clear hJk
    by_cases hlt : k < 32
    · have HKX : Hid (k < x.length) := by show _ < _; rw [HL.out]; exact hlt
      obtain ⟨b, hbb⟩ : ∃ b, b = x.getD k 0 := ⟨_, rfl⟩
      have hix : ∀ wz, (Instr.index 23 (.agg (cb x).toArray) (.int .i64 (k : Int))).run Try.prog wz = .ok (.int .u8 (b.toNat : Int)) wz := fun wz => by rw [hbb]; exact idx_dig x HL.out k hlt wz
      have HBB : Hid (b = x.getD k 0) := hbb
      clear hbb
      have k0 : (0 : Int) ≤ (k : Int) := by omega
      have k1 : (k : Int) < 32 := by omega
      go_wp2
      go_loopw [11] (fun p wr => ∃ j : Nat, j ≤ 8 ∧ p = .int .i64 (j : Int) ∧ J (bitsOf x (8 * k + j)) wr) (fun p _ => 8 - (intOf p).toNat)
      case atStart => exact ⟨0, by omega, rfl, HJK.out⟩
      case round =>
        rename_i wr2 _ _ _ _ _ _ _ _ _ _ _ _ _ _ _ _ _
        obtain ⟨j, hj, rfl, hJj⟩ := hrel
        clear HJK
        by_cases hlt2 : j < 8
        · obtain ⟨q, hq⟩ : ∃ q, q = 8 * k + j := ⟨_, rfl⟩
          obtain ⟨k8, hk8⟩ : ∃ k8, k8 = k * 8 := ⟨_, rfl⟩
          obtain ⟨o, ho⟩ : ∃ o, o = bt x q := ⟨_, rfl⟩
          have f1 : (k : Int) * 8 = (k8 : Int) := by omega
          have f2 : IntKind.i64.wrap (k8 : Int) = (k8 : Int) := wrap_small _ (by omega) (by omega)
          have f3 : (k8 : Int) + (j : Int) = (q : Int) := by omega
          have f4 : IntKind.i64.wrap (q : Int) = (q : Int) := wrap_small _ (by omega) (by omega)
          have j1 : (j : Int) < 8 := by omega
          have f5 : IntKind.i64.wrap ((j : Int) + 1) = (j : Int) + 1 := wrap_small _ (by omega) (by omega)
          have hand := u8_and b (mask j)
          have hz : ((((b.toNat &&& (mask j).toNat : Nat) : Int)) != 0) = o := by
            have h := mask_and b ⟨j, hlt2⟩
            have hm : mask j = 128#8 >>> j := by rw [mask, Nat.mod_eq_of_lt hlt2]
            simp only [← hm] at h
            have e : o = b.getMsbD j := by rw [ho, HBB.out, bt, hq, show (8 * k + j) / 8 = k by omega, show (8 * k + j) % 8 = j by omega]
            rw [e, ← BitVec.toNat_and]
            cases hg : b.getMsbD j
            · rw [hg] at h
              have h2 := of_decide_eq_true (h.trans rfl)
              rw [h2]; rfl
            · rw [hg] at h
              have h2 := of_decide_eq_false (h.trans rfl)
              rw [bne_iff_ne]
              intro h3
              exact h2 (BitVec.eq_of_toNat_eq (by simpa using h3))
          have HNX : Hid (bitsOf x (8 * k + (j + 1)) = bitsOf x (8 * k + j) ++ [(q, o)]) := by
            show _ = _
            rw [ho, hq, ← Nat.add_assoc, bitsOf_succ]
          obtain ⟨fn, tmps, assign, body, hy, hR⟩ := hY (bitsOf x (8 * k + j)) (q, o) _ hJj (by rw [bitsOf_len]; omega)
          dsimp only [encsB] at hy
          clear hq hk8 ho hlt2 hj
          refine (wpIn_wide (n := n)).1 ?_
          gi_wp2_with (refine ⟨trivial, ?_⟩; gi_at_call 26; refine (callsIn_wide.2 (bitOf_any _ _)).mono ?_; rintro e wz ⟨rfl, hz2⟩; rw [hz2]; clear hz2 wz)
          refine hR.mono ?_
          clear hR hy hY hJj
          rintro e W3 (⟨rfl, hJ3, _⟩ | ⟨rfl, hJx3⟩)
          · rw [← HNX.out] at hJ3
            gi_wp2
            go_roundw
            case rel => exact ⟨j + 1, by omega, by simp, hJ3⟩
            case measure => simp [intOf]; omega
          · rw [← HNX.out] at hJx3
            gi_wp2
            refine noGoto_normal ?_
            go_end0
            exact ⟨⟨_, rfl⟩, .inr ⟨_, ⟨8 * k + (j + 1), by omega, rfl⟩, hJx3⟩⟩
        · have hj8 : j = 8 := by omega
          subst hj8
          have HJ8 : Hid (J (bitsOf x (8 * (k + 1))) wr) := by rw [Nat.mul_add]; exact hJj
          have f5 : IntKind.i64.wrap ((k : Int) + 1) = (k : Int) + 1 := wrap_small _ (by omega) (by omega)
          clear hJj hj hlt2
          go_wp2
          go_roundw
          case rel => exact ⟨k + 1, by omega, by simp, HJ8.out⟩
          case measure => simp [intOf]; omega
    · have hk32 : k = 32 := by omega
      subst hk32
      go_wp2
      refine noGoto_normal ?_
      go_end0
      exact ⟨⟨_, rfl⟩, .inl ⟨_, rfl, HJK.out⟩⟩
end Go.Proofs.Ythjkihbobdollaa

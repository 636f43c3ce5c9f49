/- What the laws of layer 16 call: few, start, works, same. -/
import Derived.Test.YtgmemibhddnjjaaKaPt
namespace Go.Proofs.Ytgmemibhddnjjaa
open Go.RowKit
set_option maxRecDepth 100000
set_option maxRecDepth 100000 in
set_option maxHeartbeats 400000 in
theorem few16_any (w : World) (ad : Option Addr) (n c : Nat) : Calls Try.prog 9 #[.slice ad n c] w fun e w' => e = .returned (.bool (decide ((n : Int) ≤ 200))) ∧ w' = w := by
  go_enter Try.func9, Try.ntmps9
  go_wp2
  go_ret
  exact ⟨rfl, rfl⟩
/-- how many a cache is made for -/
def startN (n : Int) : Nat := (if 1000 < n then 1000 else n).toNat
theorem startN_le (n : Int) : startN n ≤ 1000 := by unfold startN; split <;> omega
theorem CaIs.mutG {w w' : World} {g : Nat} {P : Nat → Prop} {C : KaT} (h : CaIs w g P C) (hb : Below w.heap.size w w') : CaIs w' g P C := h.below hb
theorem results_tmp_row {fn : Func} {p u : Tmp} {ty : TypeId} (h : fn.results = #[.tmp u, .cell p ty]) (tmps : Array Value) (w : World) (g : Nat) (v : Value) (hp : tmps.getD p undef = .pointer (some ⟨g, 0, none⟩)) (e1 : (loadVar ty ⟨g, 0, none⟩).run Try.prog w = .ok v w) :
    (results fn tmps).run Try.prog w = .ok (.tuple #[tmps.getD u undef, v]) w := by
  have hp' : tmps[p]?.getD undef = .pointer (some ⟨g, 0, none⟩) := by simpa using hp
  simp [results, h, hp', asAddr, e1]
theorem kNew_l (n : Int) : ∃ C mo hi ms, C = newC n.toNat ∧ Hid (∀ vk vv, rcC C vk vv = [.int .i64 mo, vk, vv, .int .i64 hi, .int .i64 ms]) ∧ Hid (∀ w, Calls Try.prog 16 #[.int .i64 n] w fun r w' => ∃ g P, r = .returned (.pointer (some ⟨g, 0, none⟩)) ∧ CaIs w' g P C ∧ Below w.heap.size w w' ∧ ∀ k, P k → w.heap.size ≤ k) ∧ Hid (∀ w, Calls Try.prog 19 #[.int .i64 n] w fun r w' => r = .returned (.agg [.int .i64 mo, .slice none 0 0, .slice none 0 0, .int .i64 hi, .int .i64 ms].toArray) ∧ Below w.heap.size w w') :=
  ⟨newC n.toNat, ((newC n.toNat).most : Int), ((newC n.toNat).hits : Int), ((newC n.toNat).miss : Int), rfl, fun _ _ => rfl, fun w => kaNew_any w n, fun w => kNew_any w n⟩
set_option maxRecDepth 100000 in
set_option maxHeartbeats 800000 in
theorem start16_any (w : World) (n : Int) : Calls Try.prog 8 #[.int .i64 n] w fun r w' => ∃ g P, r = .returned (.tuple #[.pointer (some ⟨g, 0, none⟩), .agg (rcC (newC (startN n)) (.slice none 0 0) (.slice none 0 0)).toArray]) ∧ CaIs w' g P (newC (startN n)) ∧ Below w.heap.size w w' ∧ ∀ k, P k → w.heap.size ≤ k := by
  by_cases q : 1000 < n
  · obtain ⟨C, mo, hi, ms, hC, HRC, HNW, HKN⟩ := kNew_l 1000
    have e : newC (startN n) = C := by rw [hC]; unfold startN; rw [if_pos q]
    rw [e]
    clear e hC
    rw [HRC.out]
    go_enter Try.func8, Try.ntmps8
    have tk0 : Hid True := trivial
    have tk1 : Hid True := trivial
    have tk2 : Hid True := trivial
    have tk3 : Hid True := trivial
    go_wp2_with (first
      | (clear tk0; with_reducible refine wpSeq_allocRc ?_ ?_ ?_
         · rfl
         · rfl
         intro gr y1 nn
         have HR : Hid (Blk y1 gr zRc 27) := nn.blk
         have HGR : Hid (w.heap.size ≤ gr) := nn.ge
         have HBL : Hid (Below w.heap.size w y1) := nn.below
         clear nn)
      | (clear tk1; go_at_call 16; refine (HNW.out _).mono ?_; rintro e0 y2 ⟨g, P, rfl, ca, bl, hP⟩
         have HCA : Hid (CaIs y2 g P C) := ca
         have HP : Hid (∀ k, P k → w.heap.size ≤ k) := fun k hk => Nat.le_trans HBL.out.size (hP k hk)
         replace HR : Hid (Blk y2 gr zRc 27) := HR.out.below bl HR.out.lt
         replace HBL : Hid (Below w.heap.size w y2) := HBL.out.trans (bl.mono HBL.out.size)
         clear ca bl hP)
      | (clear tk2; go_at_call 19; refine (HKN.out _).mono ?_; rintro e1 y3 ⟨rfl, bl⟩
         replace HCA : Hid (CaIs y3 g P C) := HCA.out.below bl
         replace HR : Hid (Blk y3 gr zRc 27) := HR.out.below bl HR.out.lt
         replace HBL : Hid (Below w.heap.size w y3) := HBL.out.trans (bl.mono HBL.out.size)
         clear bl)
      | (clear tk3; with_reducible refine wpSeq_storeRow 27 (.tmp 3) (.tmp 9) gr zRc [.int .i64 mo, .slice none 0 0, .slice none 0 0, .int .i64 hi, .int .i64 ms] HR.out rfl (info_rc _ _ _ _ _) ?_ ?_ ?_ ?_ ?_ ?_
         · exact one_rc _ _ _ ⟨rfl, rfl, rfl⟩ _ _ _ _ _ _
         · rfl
         · rfl
         · rfl
         · rfl
         intro y6 sr
         have HF : Hid (Blk y6 gr [.int .i64 mo, .slice none 0 0, .slice none 0 0, .int .i64 hi, .int .i64 ms] 27) := sr.blk
         have HNP : Hid (¬ P gr) := HCA.out.ne HR.out (by decide) (by decide)
         replace HCA : Hid (CaIs y6 g P C) := HCA.out.same (fun k hk => sr.only.block k (fun e => HNP.out (e ▸ hk)) (HCA.out.lt k hk))
         replace HBL : Hid (Below w.heap.size w y6) := HBL.out.trans (sr.only.below HGR.out HBL.out.size)
         clear sr))
    refine bodyPost_ret (results_tmp_row rfl _ _ gr _ rfl (run_loadVar_mid (P := Try.prog) _ gr 0 27 _ _ HF.out.range Try.underlying27 rfl (info_rc _ _ _ _ _))) rfl ?_
    exact ⟨g, P, rfl, HCA.out, HBL.out, HP.out⟩
  · obtain ⟨C, mo, hi, ms, hC, HRC, HNW, HKN⟩ := kNew_l n
    have e : newC (startN n) = C := by rw [hC]; unfold startN; rw [if_neg q]
    rw [e]
    clear e hC
    rw [HRC.out]
    go_enter Try.func8, Try.ntmps8
    have tk0 : Hid True := trivial
    have tk1 : Hid True := trivial
    have tk2 : Hid True := trivial
    have tk3 : Hid True := trivial
    go_wp2_with (first
      | (clear tk0; with_reducible refine wpSeq_allocRc ?_ ?_ ?_
         · rfl
         · rfl
         intro gr y1 nn
         have HR : Hid (Blk y1 gr zRc 27) := nn.blk
         have HGR : Hid (w.heap.size ≤ gr) := nn.ge
         have HBL : Hid (Below w.heap.size w y1) := nn.below
         clear nn)
      | (clear tk1; go_at_call 16; refine (HNW.out _).mono ?_; rintro e0 y2 ⟨g, P, rfl, ca, bl, hP⟩
         have HCA : Hid (CaIs y2 g P C) := ca
         have HP : Hid (∀ k, P k → w.heap.size ≤ k) := fun k hk => Nat.le_trans HBL.out.size (hP k hk)
         replace HR : Hid (Blk y2 gr zRc 27) := HR.out.below bl HR.out.lt
         replace HBL : Hid (Below w.heap.size w y2) := HBL.out.trans (bl.mono HBL.out.size)
         clear ca bl hP)
      | (clear tk2; go_at_call 19; refine (HKN.out _).mono ?_; rintro e1 y3 ⟨rfl, bl⟩
         replace HCA : Hid (CaIs y3 g P C) := HCA.out.below bl
         replace HR : Hid (Blk y3 gr zRc 27) := HR.out.below bl HR.out.lt
         replace HBL : Hid (Below w.heap.size w y3) := HBL.out.trans (bl.mono HBL.out.size)
         clear bl)
      | (clear tk3; with_reducible refine wpSeq_storeRow 27 (.tmp 3) (.tmp 9) gr zRc [.int .i64 mo, .slice none 0 0, .slice none 0 0, .int .i64 hi, .int .i64 ms] HR.out rfl (info_rc _ _ _ _ _) ?_ ?_ ?_ ?_ ?_ ?_
         · exact one_rc _ _ _ ⟨rfl, rfl, rfl⟩ _ _ _ _ _ _
         · rfl
         · rfl
         · rfl
         · rfl
         intro y6 sr
         have HF : Hid (Blk y6 gr [.int .i64 mo, .slice none 0 0, .slice none 0 0, .int .i64 hi, .int .i64 ms] 27) := sr.blk
         have HNP : Hid (¬ P gr) := HCA.out.ne HR.out (by decide) (by decide)
         replace HCA : Hid (CaIs y6 g P C) := HCA.out.same (fun k hk => sr.only.block k (fun e => HNP.out (e ▸ hk)) (HCA.out.lt k hk))
         replace HBL : Hid (Below w.heap.size w y6) := HBL.out.trans (sr.only.below HGR.out HBL.out.size)
         clear sr))
    refine bodyPost_ret (results_tmp_row rfl _ _ gr _ rfl (run_loadVar_mid (P := Try.prog) _ gr 0 27 _ _ HF.out.range Try.underlying27 rfl (info_rc _ _ _ _ _))) rfl ?_
    exact ⟨g, P, rfl, HCA.out, HBL.out, HP.out⟩
end Go.Proofs.Ytgmemibhddnjjaa

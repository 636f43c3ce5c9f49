/- The walk of blazonref01.Same: are two texts the same? -/
import Derived.Test.YtaleeaocmomjlaaDoorRPad
namespace Go.Proofs.YtaleeaocmomjlaaDoor
open Go.RowKit
def strB (l : List (BitVec 8)) : ByteArray := strOfNums (l.map fun b => (b.toNat : Int))
theorem conv_reads {w : World} {v : Value} {l : List (BitVec 8)} (h : Reads w v l) : (convert 24 9 v).run Tryd.prog w = .ok (.string (strB l)) w := by
  obtain ⟨ad, cap, rfl, hcap, hnn, hpos⟩ := h
  have key : ∀ a : Addr, ad = some a → (loadCells a l.length).run Tryd.prog w = .ok ((l.map fun b => (b.toNat : Int)).map (Value.int .u8)).toArray w := by
    intro a ha
    have hh := run_loadCells_list (P := Tryd.prog) w a ((l.map fun b => (b.toNat : Int)).map (Value.int .u8)) (fun j u hj => by
      have hjl : j < l.length := by have := (List.getElem?_eq_some_iff.1 hj).1; simpa using this
      obtain ⟨b, off, h1, h2⟩ := hpos (by omega)
      rw [ha] at h1
      cases h1
      rw [Addr.add_mid, h2 j hjl, ← hj]
      simp [hjl])
    simpa using hh
  rw [run_convert_bytes_string w 24 9 5 _ _ _ Tryd.underlying24 Tryd.underlying5 Tryd.underlying9]
  cases ad with
  | some a =>
    rw [run_bytesToString w a l.length cap _ (key a rfl), foldl_push_bytes]
    simp [strB, strOfNums]
  | none =>
    have h0 : l = [] := by
      cases l with
      | nil => rfl
      | cons b r => obtain ⟨b, off, h1, _⟩ := hpos (by simp); cases h1
    subst h0
    simp [Conv.bytesToString, strB, strOfNums]
    rfl
theorem strB_inj (a b : List (BitVec 8)) : ((strB a).toList == (strB b).toList) = decide (a = b) := by
  rw [ByteArray.toList_eq, ByteArray.toList_eq]
  unfold strB
  rw [strOfNums_data, strOfNums_data, List.map_map, List.map_map]
  by_cases h : a = b
  · subst h; simp
  · have hinj : ∀ x y : BitVec 8, UInt8.ofNat ((x.toNat : Int)).toNat = UInt8.ofNat ((y.toNat : Int)).toNat → x = y := by
      intro x y hxy
      have h2 := congrArg UInt8.toNat hxy
      have hx := x.isLt
      have hy := y.isLt
      simp at h2
      exact BitVec.eq_of_toNat_eq (by omega)
    have hne : ∀ a b : List (BitVec 8), a.map ((fun n : Int => UInt8.ofNat n.toNat) ∘ fun b => (b.toNat : Int)) = b.map ((fun n : Int => UInt8.ofNat n.toNat) ∘ fun b => (b.toNat : Int)) → a = b := by
      intro a
      induction a with
      | nil => intro b hb; cases b with
        | nil => rfl
        | cons y b => simp at hb
      | cons x a ih => intro b hb; cases b with
        | nil => simp at hb
        | cons y b =>
          rw [List.map_cons, List.map_cons, List.cons.injEq] at hb
          rw [hinj x y hb.1, ih b hb.2]
    rw [decide_eq_false h, beq_eq_false_iff_ne]
    exact fun he => h (hne a b he)
set_option maxHeartbeats 400000 in
theorem same_any (va vb : Value) (la lb : List (BitVec 8)) (w : World) (ha : Reads w va la) (hb : Reads w vb lb) :
    Calls Tryd.prog 10 #[va, vb] w fun e w' => e = .returned (.bool (decide (la = lb))) ∧ w' = w := by
  have hs := strB_inj la lb
  have ca := conv_reads ha
  have cb := conv_reads hb
  clear ha hb
  go_enter Tryd.func10, Tryd.ntmps10
  go_wp2
  go_ret
  exact ⟨rfl, rfl⟩
end Go.Proofs.YtaleeaocmomjlaaDoor

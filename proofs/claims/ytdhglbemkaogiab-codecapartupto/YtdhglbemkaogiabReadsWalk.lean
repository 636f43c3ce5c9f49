/- The walks of the statements CodecReads and CodecOne. -/
import Derived.Test.YtdhglbemkaogiabCWorks
namespace Go.Proofs.Ytdhglbemkaogiab
open Go.RowKit
def errOf {α : Type} (o : Option α) : Int := if o.isSome then 0 else 3
theorem readsN_nil (w : World) : ReadsN w (.slice none 0 0) [] := ⟨none, 0, rfl, Nat.le_refl _, fun _ => rfl, fun h => by simp at h⟩
theorem readsL_nil (w : World) : ReadsL w (.slice none 0 0) [] := ⟨none, 0, rfl, Nat.le_refl _, fun _ => rfl, fun h => by simp at h⟩
theorem ListRead.n {o : Option (List Nat)} {w : World} {e : Ending} {w' : World} (h : ListRead 36 GoodN o w e w') : ∃ v, e = .returned (.tuple #[v, .int .i64 (errOf o)]) ∧ ReadsN w' v (o.getD []) ∧ Below w.heap.size w w' := by
  rcases h with ⟨xs, v, vs, rfl, rfl, h2, h3, h4⟩ | ⟨rfl, rfl, h2⟩
  · exact ⟨v, rfl, h2.readsN h3, h4⟩
  · exact ⟨_, rfl, readsN_nil _, h2⟩
theorem ListRead.t {o : Option (List (List (BitVec 8)))} {w : World} {e : Ending} {w' : World} (h : ListRead 25 GoodT o w e w') : ∃ v, e = .returned (.tuple #[v, .int .i64 (errOf o)]) ∧ ReadsL w' v (o.getD []) ∧ Below w.heap.size w w' := by
  rcases h with ⟨xs, v, vs, rfl, rfl, h2, h3, h4⟩ | ⟨rfl, rfl, h2⟩
  · exact ⟨v, rfl, h2.readsL h3, h4⟩
  · exact ⟨_, rfl, readsL_nil _, h2⟩
theorem readNums_len (b : List (BitVec 8)) : ((readList readNum b).getD []).length ≤ 4096 := by
  cases h : readList readNum b with
  | none => simp
  | some l => exact ((readList_iff readNum_ok b l).1 h).1
theorem readTexts_len (b : List (BitVec 8)) : ((readList readText b).getD []).length ≤ 4096 := by
  cases h : readList readText b with
  | none => simp
  | some l => exact ((readList_iff readText_ok b l).1 h).1
theorem drew_below (w : World) (q : Nat) : Below w.heap.size w (w.drewN q) := ⟨rfl, rfl, rfl, Nat.le_refl _, fun _ _ => rfl⟩
theorem flat_bound (ls : List (List (BitVec 8))) (c : Nat) (h : ∀ t ∈ ls, t.length ≤ c) : ls.flatten.length ≤ c * ls.length := by
  induction ls with
  | nil => simp
  | cons t r ih =>
    rw [List.flatten_cons, List.length_append, List.length_cons, Nat.mul_add, Nat.mul_one]
    have h1 := h t (by simp)
    have h2 := ih (fun u hu => h u (by simp [hu]))
    omega
end Go.Proofs.Ytdhglbemkaogiab

/- The walk of the statement CodecBack. -/
import Derived.Test.YtdhglbemkaogiabReadsWalk
namespace Go.Proofs.Ytdhglbemkaogiab
open Go.RowKit
theorem back_n (ns : List Nat) (h1 : ns.length ≤ 4096) (h2 : ∀ n ∈ ns, n < 18446744073709551616) : readList readNum (encList encNum ns) = some ns := (readList_iff readNum_ok _ _).2 ⟨h1, h2, rfl⟩
theorem mem_flat_le (ls : List (List (BitVec 8))) (t : List (BitVec 8)) (h : t ∈ ls) : t.length ≤ ls.flatten.length := by
  induction ls with
  | nil => cases h
  | cons a r ih =>
    rw [List.flatten_cons, List.length_append]
    rcases List.mem_cons.1 h with rfl | h
    · omega
    · have := ih h; omega
theorem back_t (ls : List (List (BitVec 8))) (h1 : ls.length ≤ 4096) (h2 : ls.flatten.length ≤ 1048576) : readList readText (encList encText ls) = some ls :=
  (readList_iff readText_ok _ _).2 ⟨h1, fun t ht => Nat.le_trans (mem_flat_le ls t ht) h2, rfl⟩
end Go.Proofs.Ytdhglbemkaogiab

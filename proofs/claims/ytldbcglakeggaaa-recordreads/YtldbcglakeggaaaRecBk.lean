/- There and back: what is written of a thing that may be is read as that thing, and the two are the same. -/
import Derived.Test.YtldbcglakeggaaaRecSp
import Derived.Test.YtldbcglakeggaaaRecOneL
namespace Go.Proofs.Ytldbcglakeggaaa
open Go.RowKit
theorem nkS_back {nm ky : List (BitVec 8)} (h : chk nm ky = 0) (r : List (BitVec 8)) : nkS (encText nm ++ (encText ky ++ r)) = some ((nm, ky), r) := by
  have hn := nameOk_len (chk_zero h).1
  have hk := keyOk_len (chk_zero h).2
  rw [nkS_some ((codes_text _ _ _).2 ⟨by omega, rfl⟩) ((codes_text _ _ _).2 ⟨by omega, rfl⟩), if_pos h]
theorem num_back {n : Nat} (h : n < 18446744073709551616) : readNum (encNum n) = some (n, []) := (codes_num _ _ _).2 ⟨h, by simp⟩
theorem bind_back {nm ky : List (BitVec 8)} {sr : Nat} (h : chk nm ky = 0) (hs : sr < 18446744073709551616) : whole (bindS (encBinding (nm, ky, sr))) = some (nm, ky, sr) := by
  show whole (bindS (encText nm ++ (encText ky ++ encNum sr))) = _
  rw [bindS_some (nkS_back h _) (num_back hs)]; rfl
theorem req_back {nm ky au : List (BitVec 8)} {k : Nat} (h : chk nm ky = 0) (h1 : 1 ≤ k) (h2 : k ≤ 2) (ha : au.length = 32) (hz : k ≠ 2 → au = zb32) : whole (reqS (encRequest (k, nm, ky, au))) = some (k, nm, ky, au) := by
  have e1 : readCount 2 (encRequest (k, nm, ky, au)) = some (k, encText nm ++ (encText ky ++ encAuth k au)) := (codes_count 2 (by omega) _ _ _).2 ⟨h2, rfl⟩
  have e2 : authR k (encAuth k au) = some (au, []) := (codes_auth k _ _ _).2 ⟨⟨ha, hz⟩, by simp⟩
  unfold reqS
  rw [e1]
  simp only
  rw [if_neg (by omega), nkS_back h]
  simp only [e2]
  rfl
theorem sgn_back {ep : Nat} {x y z sg : List (BitVec 8)} (he : ep < 18446744073709551616) (hx : x.length = 32) (hy : y.length = 32) (hz : z.length = 32) (hs : sg.length ≤ 1048576) : whole (signedR (encSigned (ep, x, y, z, sg))) = some (ep, x, y, z, sg) := by
  rw [(codes_signed _ [] (ep, x, y, z, sg)).2 ⟨⟨he, hx, hy, hz, hs⟩, by simp⟩]; rfl
theorem wkBinding {nm ky : List (BitVec 8)} {vk : Value} {sr : Nat} (h : chk nm ky = 0) (hs : sr < 18446744073709551616) {W : World} (hk : Reads W vk ky) :
    Calls Try.prog 15 #[.agg (bindV nm vk sr).toArray] W fun e w' => ∃ v', e = .returned v' ∧ Reads w' v' (encBinding (nm, ky, sr)) ∧ Below W.heap.size W w' := by
  have hn := nameOk_len (chk_zero h).1
  have hk2 := keyOk_len (chk_zero h).2
  exact rbind_any nm ky vk sr hs W hk (by omega)
theorem rkBinding {nm ky : List (BitVec 8)} {sr : Nat} (h : chk nm ky = 0) (hs : sr < 18446744073709551616) {W : World} {v : Value} (hv : Reads W v (encBinding (nm, ky, sr))) :
    Calls Try.prog 23 #[v] W fun e w' => ∃ cs, e = .returned (.tuple #[.agg (cs : List Value).toArray, .int .i64 0]) ∧ bindK.G w' W.heap.size (nm, ky, sr) cs ∧ Below W.heap.size W w' := by
  refine (rdBinding_any readBinding_one bindS_nil v _ W hv).mono ?_
  rintro e w' ⟨hb, ⟨a, cs, hw, rfl, hG⟩ | ⟨hw, _⟩⟩
  · rw [bind_back h hs] at hw; cases hw; exact ⟨cs, rfl, hG, hb⟩
  · rw [bind_back h hs] at hw; cases hw
theorem smBinding {nm ky : List (BitVec 8)} {vk : Value} {sr : Nat} {W : World} {b : Nat} {cs : List Value} (hG : bindK.G W b (nm, ky, sr) cs) (hk : Reads W vk ky) :
    Calls Try.prog 25 #[.agg cs.toArray, .agg (bindV nm vk sr).toArray] W fun e w' => e = .returned (.bool true) ∧ Below W.heap.size W w' := by
  obtain ⟨vk', rfl, ho, _⟩ := hG
  have := sameBinding_any nm nm ky ky vk' vk sr sr W ho.reads hk
  rwa [decide_eq_true ⟨rfl, rfl, rfl⟩] at this
theorem wkRequest {nm ky au : List (BitVec 8)} {vk : Value} {k : Nat} (h : chk nm ky = 0) (h2 : k ≤ 2) (ha : au.length = 32) {W : World} (hk : Reads W vk ky) :
    Calls Try.prog 17 #[.agg (reqV (k : Int) nm vk au).toArray] W fun e w' => ∃ v', e = .returned v' ∧ Reads w' v' (encRequest (k, nm, ky, au)) ∧ Below W.heap.size W w' := by
  have hn := nameOk_len (chk_zero h).1
  have hk2 := keyOk_len (chk_zero h).2
  have := rreq_any (k : Int) nm ky au vk (fit_nat h2) ha W hk (by omega)
  rwa [u64of_nat (by omega)] at this
theorem rkRequest {nm ky au : List (BitVec 8)} {k : Nat} (h : chk nm ky = 0) (h1 : 1 ≤ k) (h2 : k ≤ 2) (ha : au.length = 32) (hz : k ≠ 2 → au = zb32) {W : World} {v : Value} (hv : Reads W v (encRequest (k, nm, ky, au))) :
    Calls Try.prog 26 #[v] W fun e w' => ∃ cs, e = .returned (.tuple #[.agg (cs : List Value).toArray, .int .i64 0]) ∧ reqK.G w' W.heap.size (k, nm, ky, au) cs ∧ Below W.heap.size W w' := by
  refine (rdRequest_any readRequest_one reqS_nil v _ W hv).mono ?_
  rintro e w' ⟨hb, ⟨a, cs, hw, rfl, hG⟩ | ⟨hw, _⟩⟩
  · rw [req_back h h1 h2 ha hz] at hw; cases hw; exact ⟨cs, rfl, hG, hb⟩
  · rw [req_back h h1 h2 ha hz] at hw; cases hw
theorem smRequest {nm ky au : List (BitVec 8)} {vk : Value} {k : Nat} {W : World} {b : Nat} {cs : List Value} (hG : reqK.G W b (k, nm, ky, au) cs) (hk : Reads W vk ky) :
    Calls Try.prog 28 #[.agg cs.toArray, .agg (reqV (k : Int) nm vk au).toArray] W fun e w' => e = .returned (.bool true) ∧ Below W.heap.size W w' := by
  obtain ⟨vk', rfl, ho, hn, _⟩ := hG
  have := sameReq_any (k : Int) (k : Int) nm nm ky ky au au vk' vk W hn hn ho.reads hk
  rwa [decide_eq_true ⟨rfl, rfl, rfl, rfl⟩] at this
theorem wkSigned {ep : Nat} {x y z sg : List (BitVec 8)} {vs : Value} (he : ep < 18446744073709551616) (hx : x.length = 32) (hy : y.length = 32) (hz : z.length = 32) (hs : sg.length ≤ 1048576) {W : World} (hk : Reads W vs sg) :
    Calls Try.prog 19 #[.agg (sgnV ep x y z vs).toArray] W fun e w' => ∃ v', e = .returned v' ∧ Reads w' v' (encSigned (ep, x, y, z, sg)) ∧ Below W.heap.size W w' :=
  rsigned_any ep x y z sg vs he hx hy hz W hk (by omega)
theorem rkSigned {ep : Nat} {x y z sg : List (BitVec 8)} (he : ep < 18446744073709551616) (hx : x.length = 32) (hy : y.length = 32) (hz : z.length = 32) (hs : sg.length ≤ 1048576) {W : World} {v : Value} (hv : Reads W v (encSigned (ep, x, y, z, sg))) :
    Calls Try.prog 29 #[v] W fun e w' => ∃ cs, e = .returned (.tuple #[.agg (cs : List Value).toArray, .int .i64 0]) ∧ sgnK.G w' W.heap.size (ep, x, y, z, sg) cs ∧ Below W.heap.size W w' := by
  refine (rdSigned_any readSigned_one signedR_nil v _ W hv).mono ?_
  rintro e w' ⟨hb, ⟨a, cs, hw, rfl, hG⟩ | ⟨hw, _⟩⟩
  · rw [sgn_back he hx hy hz hs] at hw; cases hw; exact ⟨cs, rfl, hG, hb⟩
  · rw [sgn_back he hx hy hz hs] at hw; cases hw
theorem smSigned {ep : Nat} {x y z sg : List (BitVec 8)} {vs : Value} {W : World} {b : Nat} {cs : List Value} (hG : sgnK.G W b (ep, x, y, z, sg) cs) (hk : Reads W vs sg) :
    Calls Try.prog 31 #[.agg cs.toArray, .agg (sgnV ep x y z vs).toArray] W fun e w' => e = .returned (.bool true) ∧ Below W.heap.size W w' := by
  obtain ⟨vk', rfl, ho, hx, hy, hz, _⟩ := hG
  have := sameSgn_any ep ep x y z x y z sg sg vk' vs W ⟨hx, hy, hz⟩ ⟨hx, hy, hz⟩ ho.reads hk
  rwa [decide_eq_true ⟨⟨rfl, rfl, rfl, rfl⟩, rfl⟩] at this
theorem right_ok {ds : List (List (BitVec 8))} {en : Int} {ix va : List (BitVec 8)} (h : rightB ds.length en ix va = true) : ds.length ≤ 256 ∧ ∃ k : Nat, en = (k : Int) ∧ k ≤ 1 ∧ (k ≠ 1 → (ix, va) = (zb32, zb32)) := by
  unfold rightB at h
  simp only [Bool.and_eq_true, Bool.or_eq_true, decide_eq_true_eq] at h
  obtain ⟨h1, h2 | ⟨⟨h2, h3⟩, h4⟩⟩ := h
  · exact ⟨h1, 1, by omega, by omega, fun h => absurd rfl h⟩
  · exact ⟨h1, 0, by omega, by omega, fun _ => by rw [h3, h4]⟩
theorem prf_back {ds : List (List (BitVec 8))} {k : Nat} {ix va : List (BitVec 8)} (h : okProof (ds, k, ix, va)) : whole (proofR (encProof (ds, k, ix, va))) = some (ds.length, ds, k, ix, va) := by
  obtain ⟨h1, h2, h3, h4⟩ := h
  rw [(codes_proof _ [] (ds.length, ds, k, ix, va)).2 ⟨⟨h1, ⟨rfl, h2⟩, h3, h4⟩, by simp [encProof]⟩]; rfl
theorem wkProof {ds : List (List (BitVec 8))} {k : Nat} {ix va : List (BitVec 8)} {vs : Value} (h : okProof (ds, k, ix, va)) {W : World} (hk : ReadsD W vs ds) :
    Calls Try.prog 21 #[.agg (prfV vs (k : Int) ix va).toArray] W fun e w' => ∃ v', e = .returned v' ∧ Reads w' v' (encProof (ds, k, ix, va)) ∧ Below W.heap.size W w' := by
  obtain ⟨h1, h2, h3, h4, h5, h6⟩ := h
  simp only at h1 h3
  have := rproof_any vs ds (k : Int) ix va (fit_nat (by omega)) h4 h5 W hk (by omega)
  rwa [u64of_nat (by omega)] at this
theorem rkProof {ds : List (List (BitVec 8))} {k : Nat} {ix va : List (BitVec 8)} (h : okProof (ds, k, ix, va)) {W : World} {v : Value} (hv : Reads W v (encProof (ds, k, ix, va))) :
    Calls Try.prog 32 #[v] W fun e w' => ∃ cs, e = .returned (.tuple #[.agg (cs : List Value).toArray, .int .i64 0]) ∧ prfK.G w' W.heap.size (ds.length, ds, k, ix, va) cs ∧ Below W.heap.size W w' := by
  refine (rdProof_any readProof_one proofR_nil v _ W hv).mono ?_
  rintro e w' ⟨hb, ⟨a, cs, hw, rfl, hG⟩ | ⟨hw, _⟩⟩
  · rw [prf_back h] at hw; cases hw; exact ⟨cs, rfl, hG, hb⟩
  · rw [prf_back h] at hw; cases hw
theorem smProof {ds : List (List (BitVec 8))} {k : Nat} {ix va : List (BitVec 8)} {vs : Value} (h : okProof (ds, k, ix, va)) {W : World} {b : Nat} {cs : List Value} (hG : prfK.G W b (ds.length, ds, k, ix, va) cs) (hk : ReadsD W vs ds) :
    Calls Try.prog 34 #[.agg cs.toArray, .agg (prfV vs (k : Int) ix va).toArray] W fun e w' => e = .returned (.bool true) ∧ Below W.heap.size W w' := by
  obtain ⟨vk', rfl, ho, hx, hy, _⟩ := hG
  have h1 := h.1
  simp only at h1
  have := samePrf_any ds ds (k : Int) (k : Int) ix va ix va vk' vs W ⟨hx, hy⟩ ⟨hx, hy⟩ ho.readsD hk (by omega)
  rwa [decide_eq_true ⟨rfl, rfl, rfl, rfl⟩] at this
end Go.Proofs.Ytldbcglakeggaaa

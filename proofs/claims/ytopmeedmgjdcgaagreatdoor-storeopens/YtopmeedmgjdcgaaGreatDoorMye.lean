/- Texts that the proof leans on, one behind the other: The walks of store.Check and of the reference's Check (layer 15). The walks of codec.Num and blazonref04.Num: a number's groups of seven bits behind bytes. The walk of slices.Insert at bytes, where what is put in lies in a block of its own: what stood ahead, what is put in, what stood behind. .. -/
import Derived.Test.YtopmeedmgjdcgaaGreatDoorMyd
import Derived.Shelf.Spec.SlicesInsertGrow
import Derived.Maps.AppendAt
import Derived.Defers
import Derived.Recover
import Derived.Laws.Pointers
import Derived.BigQuiet
import Derived.Deep.RegionHeld3
/- The walks of store.Check and of the reference's Check (layer 15). -/
namespace Go.Proofs.YtopmeedmgjdcgaaGreatDoor
open Go.RowKit
set_option maxRecDepth 100000
theorem goodF_bad {l : List ActT} {i : Nat} (h : goodF [] (l.take (i + 1)) = false) : goodF [] l = false := by
  have e : l = l.take (i + 1) ++ l.drop (i + 1) := (List.take_append_drop _ _).symm
  rw [e]
  exact goodF_false _ _ _ h
theorem goodF_step {l : List ActT} {i : Nat} (hi : i < l.length) (h : goodF [] (l.take i) = true) : goodF [] (l.take (i + 1)) = (ltB (lastK [] (l.take i)) (l.getD i ⟨[], false, []⟩).key && okA (l.getD i ⟨[], false, []⟩)) := by
  rw [take_act hi, goodF_snoc, h, Bool.true_and]
theorem lastK_step {l : List ActT} {i : Nat} (hi : i < l.length) : lastK [] (l.take (i + 1)) = (l.getD i ⟨[], false, []⟩).key := by rw [take_act hi, lastK_snoc]
set_option maxRecDepth 100000 in
set_option maxHeartbeats 4000000 in
theorem sCheck_any (v : Value) (l : List ActT) (w : World) (hr : ReadsA w v l) (hl : l.length < 4611686018427387904) : Calls Tryz.prog 11 #[v] w fun e w' => e = .returned (.int .i64 (chkL l)) ∧ Below w.heap.size w w' := by
  have HR : Hid (ReadsA w v l) := hr
  obtain ⟨n, HN⟩ : ∃ n, Hid (n = l.length) := ⟨_, rfl⟩
  obtain ⟨ad, c, hv⟩ := hr.form
  rw [← HN.out] at hv
  subst hv
  obtain ⟨X, HX⟩ : ∃ x, Hid (x = chkL l) := ⟨_, rfl⟩
  rw [← HX.out]
  have HLN : Hid (n < 4611686018427387904) := by rw [HN.out]; exact hl
  clear hr hl
  by_cases h4 : 4096 < n
  · have q1 : (4096 : Int) < (n : Int) := by omega
    obtain rfl : X = 1 := by rw [HX.out, chkL, if_neg (fun h => by have := HN.out; omega)]
    go_enter Tryz.func11, Tryz.ntmps11
    go_wp2
    go_ret
    exact ⟨rfl, Below.refl _ _⟩
  have q1 : ¬ ((4096 : Int) < (n : Int)) := by omega
  have H4 : Hid (n ≤ 4096) := by show _ ≤ _; omega
  clear h4
  have HDM : Hid (∀ (W : World) (a : ActT) (vd : Value), Reads W vd a.data → Calls Tryz.prog 37 #[.agg (actC a vd).toArray] W fun e w' => e = .returned (.bool (mayD a)) ∧ Below W.heap.size W w') := fun W a vd h => sDataMay_any a vd W h
  have he0 : (⟨#[]⟩ : ByteArray) = strB (lastK [] (l.take 0)) := by rfl
  go_enter Tryz.func11, Tryz.ntmps11
  go_wp2
  clear q1
  go_loopw [3, 11] (fun lv iv W => ∃ (i : Nat) (ls : ByteArray), i ≤ n ∧ iv = .int .i64 (i : Int) ∧ lv = .string ls ∧ Hid (ls = strB (lastK [] (l.take i))) ∧ Hid (goodF [] (l.take i) = true) ∧ Hid (Below w.heap.size w W)) (fun _ iv _ => n - (intOf iv).toNat)
  case atStart => exact ⟨0, ⟨#[]⟩, Nat.zero_le _, rfl, rfl, he0, rfl, Below.refl _ _⟩
  case round =>
    clear he0
    obtain ⟨i, ls, hi, rfl, rfl, HLS, HGF, HBW⟩ := hrel
    by_cases hin : i < n
    case neg =>
      have hlk : ¬ ((i : Int) < (n : Int)) := by omega
      obtain rfl : X = 0 := by
        have h := HGF.out
        rw [List.take_of_length_le (by rw [← HN.out]; omega)] at h
        rw [HX.out, chkL, if_pos ⟨by rw [← HN.out]; exact H4.out, h⟩]
      go_wp2
      go_ret
      exact ⟨rfl, HBW.out⟩
    case pos =>
      have hlk : (i : Int) < (n : Int) := by omega
      have f1 : IntKind.i64.wrap ((i : Int) + 1) = (i : Int) + 1 := by rw [IntKind.wrap_i64]; have := H4.out; omega
      have HIN : Hid (i < n) := hin
      have hil : i < l.length := by rw [← HN.out]; exact hin
      obtain ⟨b, off, vd, rfl, hrg, hrd⟩ := (HR.out.below HBW.out).at hil
      have hst := goodF_step hil HGF.out
      have hlt := lastK_step hil
      obtain ⟨a, HA⟩ : ∃ a, Hid (a = l.getD i ⟨[], false, []⟩) := ⟨_, rfl⟩
      rw [← HA.out] at hrg hrd hst hlt
      obtain ⟨ks, HKS⟩ : ∃ s, Hid (s = strB a.key) := ⟨_, rfl⟩
      obtain ⟨st, HST⟩ : ∃ s, Hid (s = a.set) := ⟨_, rfl⟩
      obtain ⟨av, nv, cv, hvd⟩ := hrd.form
      subst hvd
      have HCE : Hid (actC a (.slice av nv cv) = [.string ks, .bool st, .slice av nv cv]) := by show _ = _; rw [actC, HKS.out, HST.out]
      rw [HCE.out] at hrg
      have HRG : Hid (wr.rangeAt b (off + i * 3) [.string ks, .bool st, .slice av nv cv]) := hrg
      have HRD : Hid (Reads wr (.slice av nv cv) a.data) := hrd
      obtain ⟨kn, HKN⟩ : ∃ k, Hid (k = a.key.length) := ⟨_, rfl⟩
      have hsz : ks.size = kn := by rw [HKS.out, strB_size, HKN.out]
      obtain ⟨md, HMD⟩ : ∃ b, Hid (b = mayD a) := ⟨_, rfl⟩
      replace HDM : Hid (∀ (W : World), Reads W (.slice av nv cv) a.data → Calls Tryz.prog 37 #[.agg [.string ks, .bool st, .slice av nv cv].toArray] W fun e w' => e = .returned (.bool md) ∧ Below W.heap.size W w') := fun W h => by
        have h1 := HDM.out W a _ h
        rw [HCE.out, ← HMD.out] at h1
        exact h1
      obtain ⟨lt, HLT⟩ : ∃ b, Hid (b = ltB (lastK [] (l.take i)) a.key) := ⟨_, rfl⟩
      have HLE : Hid ((Op.bytesLess ks.toList ls.toList || (ks.toList == ls.toList)) = !lt) := by show _ = _; rw [HKS.out, HLS.out, leq_str, HLT.out]
      have HST2 : Hid (goodF [] (l.take (i + 1)) = (lt && (decide (kn ≤ 64) && md))) := by show _ = _; rw [hst, okA_may, HLT.out, HKN.out, HMD.out]
      have HLK2 : Hid (ks = strB (lastK [] (l.take (i + 1)))) := by show _ = _; rw [hlt, HKS.out]
      have HBAD : Hid (goodF [] (l.take (i + 1)) = false → X = 1) := fun h => by rw [HX.out, chkL, if_neg (fun h2 => by rw [goodF_bad h] at h2; cases h2.2)]
      clear hrg hrd hst hlt hil
      cases lt with
      | false =>
        replace HLE : Hid ((Op.bytesLess ks.toList ls.toList || (ks.toList == ls.toList)) = true) := HLE.out
        obtain rfl : X = 1 := HBAD.out (by rw [HST2.out]; rfl)
        have tk0 : Hid True := trivial
        have tk1 : Hid True := trivial
        have tk2 : Hid True := trivial
        have tk3 : Hid True := trivial
        have tk4 : Hid True := trivial
        go_wp2_with (first
          | (clear tk0; with_reducible refine wpSeq_idxA (.tmp 9) (.tmp 11) b off n c i HIN.out ?_ ?_ ?_ ?_ ?_
             · rfl
             · rfl
             · rfl
             · rfl)
          | (clear tk1; with_reducible refine wpSeq_loadW 62 (.tmp 13) b (off + i * 3) [.string ks, .bool st, .slice av nv cv] _ HRG.out Tryz.underlying62 rfl (info_act15 _ _ _) ?_ ?_ ?_ ?_
             · rfl
             · rfl
             · rfl)
          | (clear tk2; with_reducible refine wpSeq_allocA ?_ ?_ ?_
             · rfl
             · rfl
             intro g5 y1 nn
             have HG5 : Hid (Blk y1 g5 zA 62 ∧ wr.heap.size ≤ g5) := ⟨nn.blk, nn.ge⟩
             have HB1 : Hid (Below wr.heap.size wr y1) := nn.below
             clear nn)
          | (clear tk3; with_reducible refine wpSeq_storeRow 62 (.tmp 5) (.tmp 14) g5 zA [.string ks, .bool st, .slice av nv cv] HG5.out.1 rfl (info_act15 _ _ _) (one_act _ _ _ _ _) ?_ ?_ ?_ ?_ ?_
             · rfl
             · rfl
             · rfl
             · rfl
             intro y2 hset
             have c0 : y2.cell? ⟨g5, 0, none⟩ = some (.string ks) := hset.blk.cell 0
             have HB2 : Hid (Below w.heap.size w y2) := HBW.out.trans ((HB1.out.trans (hset.only.below HG5.out.2 HB1.out.size)).mono HBW.out.size)
             clear hset)
          | (clear tk4; with_reducible refine wpSeq_sLe ks ls true (.tmp 16) (.tmp 17) HLE.out ?_ ?_ ?_ ?_ ?_
             · rfl
             · rfl
             · rfl
             · rfl))
        go_ret
        exact ⟨rfl, HB2.out⟩
      | true =>
        replace HLE : Hid ((Op.bytesLess ks.toList ls.toList || (ks.toList == ls.toList)) = false) := HLE.out
        by_cases hk : kn ≤ 64
        case neg =>
          obtain rfl : X = 1 := HBAD.out (by rw [HST2.out, decide_eq_false hk]; rfl)
          have q2 : (64 : Int) < (kn : Int) := by omega
          have tk0 : Hid True := trivial
          have tk1 : Hid True := trivial
          have tk2 : Hid True := trivial
          have tk3 : Hid True := trivial
          have tk4 : Hid True := trivial
          go_wp2_with (first
            | (clear tk0; with_reducible refine wpSeq_idxA (.tmp 9) (.tmp 11) b off n c i HIN.out ?_ ?_ ?_ ?_ ?_
               · rfl
               · rfl
               · rfl
               · rfl)
            | (clear tk1; with_reducible refine wpSeq_loadW 62 (.tmp 13) b (off + i * 3) [.string ks, .bool st, .slice av nv cv] _ HRG.out Tryz.underlying62 rfl (info_act15 _ _ _) ?_ ?_ ?_ ?_
               · rfl
               · rfl
               · rfl)
            | (clear tk2; with_reducible refine wpSeq_allocA ?_ ?_ ?_
               · rfl
               · rfl
               intro g5 y1 nn
               have HG5 : Hid (Blk y1 g5 zA 62 ∧ wr.heap.size ≤ g5) := ⟨nn.blk, nn.ge⟩
               have HB1 : Hid (Below wr.heap.size wr y1) := nn.below
               clear nn)
            | (clear tk3; with_reducible refine wpSeq_storeRow 62 (.tmp 5) (.tmp 14) g5 zA [.string ks, .bool st, .slice av nv cv] HG5.out.1 rfl (info_act15 _ _ _) (one_act _ _ _ _ _) ?_ ?_ ?_ ?_ ?_
               · rfl
               · rfl
               · rfl
               · rfl
               intro y2 hset
               have c0 : y2.cell? ⟨g5, 0, none⟩ = some (.string ks) := hset.blk.cell 0
               have HB2 : Hid (Below w.heap.size w y2) := HBW.out.trans ((HB1.out.trans (hset.only.below HG5.out.2 HB1.out.size)).mono HBW.out.size)
               clear hset)
            | (clear tk4; with_reducible refine wpSeq_sLe ks ls false (.tmp 16) (.tmp 17) HLE.out ?_ ?_ ?_ ?_ ?_
               · rfl
               · rfl
               · rfl
               · rfl))
          go_ret
          exact ⟨rfl, HB2.out⟩
        case pos =>
          have q2 : ¬ ((64 : Int) < (kn : Int)) := by omega
          have HG2 : Hid (goodF [] (l.take (i + 1)) = md) := by show _ = _; rw [HST2.out, decide_eq_true hk]; simp
          have HRW : Hid (∀ W, Below wr.heap.size wr W → Reads W (.slice av nv cv) a.data) := fun W h => HRD.out.below h
          have tk0 : Hid True := trivial
          have tk1 : Hid True := trivial
          have tk2 : Hid True := trivial
          have tk3 : Hid True := trivial
          have tk4 : Hid True := trivial
          have tk5 : Hid True := trivial
          have tk6 : Hid True := trivial
          go_wp2_with (first
            | (clear tk0; with_reducible refine wpSeq_idxA (.tmp 9) (.tmp 11) b off n c i HIN.out ?_ ?_ ?_ ?_ ?_
               · rfl
               · rfl
               · rfl
               · rfl)
            | (clear tk1; with_reducible refine wpSeq_loadW 62 (.tmp 13) b (off + i * 3) [.string ks, .bool st, .slice av nv cv] _ HRG.out Tryz.underlying62 rfl (info_act15 _ _ _) ?_ ?_ ?_ ?_
               · rfl
               · rfl
               · rfl)
            | (clear tk2; with_reducible refine wpSeq_allocA ?_ ?_ ?_
               · rfl
               · rfl
               intro g5 y1 nn
               have HG5 : Hid (Blk y1 g5 zA 62 ∧ wr.heap.size ≤ g5) := ⟨nn.blk, nn.ge⟩
               have HB1 : Hid (Below wr.heap.size wr y1) := nn.below
               clear nn)
            | (clear tk3; with_reducible refine wpSeq_storeRow 62 (.tmp 5) (.tmp 14) g5 zA [.string ks, .bool st, .slice av nv cv] HG5.out.1 rfl (info_act15 _ _ _) (one_act _ _ _ _ _) ?_ ?_ ?_ ?_ ?_
               · rfl
               · rfl
               · rfl
               · rfl
               intro y2 hset
               have HK5 : Hid (Blk y2 g5 [.string ks, .bool st, .slice av nv cv] 62) := hset.blk
               have c0 : y2.cell? ⟨g5, 0, none⟩ = some (.string ks) := hset.blk.cell 0
               have HB3 : Hid (Below wr.heap.size wr y2) := HB1.out.trans (hset.only.below HG5.out.2 HB1.out.size)
               have HB2 : Hid (Below w.heap.size w y2) := HBW.out.trans (HB3.out.mono HBW.out.size)
               clear hset)
            | (clear tk4; with_reducible refine wpSeq_sLe ks ls false (.tmp 16) (.tmp 17) HLE.out ?_ ?_ ?_ ?_ ?_
               · rfl
               · rfl
               · rfl
               · rfl)
            | (clear tk5; with_reducible refine wpSeq_loadW 62 (.tmp 5) g5 0 [.string ks, .bool st, .slice av nv cv] _ (Blk.range HK5.out) Tryz.underlying62 rfl (info_act15 _ _ _) ?_ ?_ ?_ ?_
               · rfl
               · rfl
               · rfl)
            | (clear tk6; go_at_call 37; refine (HDM.out _ (HRW.out _ HB3.out)).mono ?_; rintro e0 y3 ⟨rfl, hz⟩
               replace c0 : y3.cell? ⟨g5, 0, none⟩ = some (.string ks) := (HK5.out.below hz HK5.out.lt).cell 0
               replace HB2 : Hid (Below w.heap.size w y3) := HB2.out.trans (hz.mono HB2.out.size)
               clear hz
               cases md))
          · obtain rfl : X = 1 := HBAD.out HG2.out
            go_ret
            exact ⟨rfl, HB2.out⟩
          · go_roundw
            case rel => exact ⟨i + 1, ks, by omega, by simp, rfl, HLK2, HG2, HB2⟩
            case measure => simp [intOf]; omega
end Go.Proofs.YtopmeedmgjdcgaaGreatDoor
/- The walks of codec.Num and blazonref04.Num: a number's groups of seven bits behind bytes. -/
namespace Go.Proofs.YtopmeedmgjdcgaaGreatDoor
open Go.RowKit
set_option maxRecDepth 100000
theorem enc_len (n : Nat) (k : Nat) (h : n < 128 ^ (k + 1)) : (encNum n).length ≤ k + 1 := by
  induction k generalizing n with
  | zero => rw [encNum_lt (by simpa using h)]; simp
  | succ k ih =>
    by_cases h1 : n < 128
    · rw [encNum_lt h1]; simp
    · rw [encNum_ge h1, List.length_cons]
      have := ih (n / 128) (by rw [Nat.pow_succ] at h; omega)
      omega
theorem enc_len10 (n : Nat) (h : n < 18446744073709551616) : (encNum n).length ≤ 10 := enc_len n 9 (by omega)
theorem or128 (m : Nat) : bits .or .u8 ((m : Int) % 256) 128 = (((BitVec.ofNat 8 (m % 128 + 128)).toNat : Nat) : Int) := by
  have key : ∀ x : BitVec 8, (x ||| 128#8).toNat = x.toNat % 128 + 128 := by decide
  have e : BitVec.ofInt 8 ((m : Int) % 256) = BitVec.ofNat 8 (m % 256) := by
    rw [show ((m : Int) % 256) = ((m % 256 : Nat) : Int) by omega, BitVec.ofInt_natCast]
  show IntKind.u8.wrap ((BitVec.ofInt 8 ((m : Int) % 256) ||| BitVec.ofInt 8 128).toNat : Int) = _
  rw [e, show (BitVec.ofInt 8 128 : BitVec 8) = 128#8 from rfl, key, BitVec.toNat_ofNat, BitVec.toNat_ofNat]
  simp [IntKind.wrap, IntKind.bits, IntKind.signed]
theorem enc_step {p : List (BitVec 8)} {m n : Nat} (hm : ¬ m < 128) (hp : p ++ encNum m = encNum n) : (p ++ [BitVec.ofNat 8 (m % 128 + 128)]) ++ encNum (m / 128) = encNum n := by
  rw [← hp, encNum_ge hm]; simp
structure NuInv (base : Nat) (w : World) (l : List (BitVec 8)) (n m : Nat) (p : List (BitVec 8)) (u : Value) (wr : World) : Prop where
  own : OwnB wr base u (l ++ p)
  bel : Below base w wr
  eq : p ++ encNum m = encNum n
  lt : m < 18446744073709551616
theorem NuInv.le {base : Nat} {w wr : World} {l p : List (BitVec 8)} {n m : Nat} {u : Value} (h : NuInv base w l n m p u wr) (hn : n < 18446744073709551616) : p.length < 10 := by
  have := enc_len10 n hn
  have h2 := congrArg List.length h.eq
  have h3 := encNum_pos m
  rw [List.length_append] at h2
  omega
set_option maxHeartbeats 400000 in
theorem cnum_any (base : Nat) (v : Value) (l : List (BitVec 8)) (n : Nat) (hn : n < 18446744073709551616) (w : World) (hown : OwnB w base v l) (hb : base ≤ w.heap.size) (hl : l.length + 10 ≤ 140737488355328) :
    Calls Tryz.prog 72 #[v, .int .u64 (n : Int)] w fun e w' => ∃ v', e = .returned v' ∧ OwnB w' base v' (l ++ encNum n) ∧ Below base w w' := by
  have HO : Hid (OwnB w base v l) := hown
  have HN : Hid (n < 18446744073709551616) := hn
  have HL : Hid (l.length + 10 ≤ 140737488355328) := hl
  have HB : Hid (base ≤ w.heap.size) := hb
  clear hown hn hl hb
  go_enter Tryz.func72, Tryz.ntmps72
  go_wp2
  go_loopw [0, 1] (fun u x wr => ∃ (p : List (BitVec 8)) (m : Nat), x = .int .u64 m ∧ NuInv base w l n m p u wr) (fun _ x _ => (intOf x).toNat)
  case atStart => exact ⟨[], n, rfl, by simpa using HO.out, Below.refl _ _, rfl, HN.out⟩
  case round =>
    obtain ⟨p, m, rfl, hI⟩ := hrel
    have HI : Hid (NuInv base w l n m p u0 wr) := hI
    have HP : Hid (p.length < 10) := hI.le HN.out
    have HS : Hid (base ≤ wr.heap.size) := Nat.le_trans HB.out hI.bel.size
    clear hI
    by_cases hlt : m < 128
    · have hge : ¬ (128 ≤ (m : Int)) := by omega
      have hx : (m : Int) % 256 = (m : Int) := by omega
      go_wp2_with (at_builtin; refine wpList_appendB rfl (.tmp 15) (.tmp 18) rfl base _ (l ++ p) rfl (HI.out.own.below ((Below.refl _ _).alloc (Nat.le_refl _) _) (Nat.le_refl _)) _ [BitVec.ofNat 8 m] rfl (reads_val wr _ _ ?_) (by have := HL.out; have := HP.out; simp; omega) (by have := HS.out; simp; omega) ?_; simp; omega; intro v2 w2 hown2 hb2 _)
      have HR : Hid (OwnB w2 base v2 (l ++ encNum n)) := by
        rw [← HI.out.eq, encNum_lt hlt, ← List.append_assoc]; exact hown2
      have hB : Below base w w2 := HI.out.bel.trans (((Below.refl _ _).alloc HS.out _).trans hb2)
      clear hown2 hb2 HI
      go_wp2
      go_ret
      exact ⟨_, rfl, HR.out, hB⟩
    · have hge : 128 ≤ (m : Int) := by omega
      have HLT : Hid (¬ m < 128) := hlt
      have hw : IntKind.u64.wrap ((m : Int) / 128) = (m : Int) / 128 := by have := HI.out.lt; rw [IntKind.wrap_u64]; omega
      clear hlt
      go_wp2_with (at_builtin; refine wpList_appendB rfl (.tmp 7) (.tmp 11) rfl base _ (l ++ p) rfl (HI.out.own.below ((Below.refl _ _).alloc (Nat.le_refl _) _) (Nat.le_refl _)) _ [BitVec.ofNat 8 (m % 128 + 128)] rfl (reads_val wr _ _ ?_) (by have := HL.out; have := HP.out; simp; omega) (by have := HS.out; simp; omega) ?_; (go_loud (rw [or128 m])); intro v2 w2 hown2 hb2 _)
      have hJ : NuInv base w l n (m / 128) (p ++ [BitVec.ofNat 8 (m % 128 + 128)]) v2 w2 := ⟨by rw [List.append_assoc] at hown2; exact hown2, HI.out.bel.trans (((Below.refl _ _).alloc HS.out _).trans hb2), enc_step HLT.out HI.out.eq, by have := HI.out.lt; omega⟩
      clear hown2 hb2 HI
      go_wp2
      go_roundw
      case rel => exact ⟨_, m / 128, by simp, hJ⟩
      case measure => simp [intOf]; omega
end Go.Proofs.YtopmeedmgjdcgaaGreatDoor
/- The walk of slices.Insert at bytes, where what is put in lies in a block of its own: what stood ahead, what is put in, what stood behind. -/
namespace Go.Proofs.YtopmeedmgjdcgaaGreatDoor
open Go.RowKit
set_option maxRecDepth 100000
theorem overlaps_no (w : World) (b vb x y m vc lb kb : Nat) (cs vs : List Value) (tA tB : TypeId) (hne : vb ≠ b) (hv : Blk w vb vs tA) (hb : Blk w b cs tB) (hc : cs ≠ []) :
    (callFunc 146 #[.slice (some ⟨vb, x, none⟩) m vc, .slice (some ⟨b, y, none⟩) lb kb]).run Tryz.prog w = .ok (.value (.bool false)) w := by
  have hz : ∀ w, (Go.sizeOf 5).run Tryz.prog w = .ok 1 w := fun w => by kernel_rfl
  have sa : w.shape? vb = some (tA, vs.length) := by have h := hv; unfold Blk at h; simp [World.shape?, h]
  have sb : w.shape? b = some (tB, cs.length) := by have h := hb; unfold Blk at h; simp [World.shape?, h]
  rw [run_callFunc_extern Tryz.func146 (by kernel_rfl) (by kernel_rfl) (by kernel_rfl) (e := Extern.SlicesOverlaps.overlaps #[23, 23] #[4]) (by kernel_rfl),
    Lib.run_overlaps_apart w 23 4 5 Tryz.underlying23 1 hz ⟨vb, x, none⟩ ⟨b, y, none⟩ m vc lb kb hne tA tB vs.length cs.length sa sb (by simpa using hc) (hv.frozen _) (hv.frozen _)]
  rfl
set_option maxHeartbeats 4000000 in
set_option maxRecDepth 100000 in
/-- there is room: in place -/
theorem ins_shift (b n c i vb m vc : Nat) (cs vs cur vcur : List Value) (w : World) (hi : i < n) (hm : 0 < m) (hroom : n + m ≤ c) (hc63 : c ≤ 9223372036854775807) (hvb : vb ≠ b)
    (hcl : cs.length = n) (hvl : vs.length = m) (hB : Blk w b cur 5) (hV : Blk w vb vcur 5) (hcap : cur.length = c) (hcs : cur.take n = cs) (hvs : vcur.take m = vs) (h1c : ∀ v ∈ cs, v.oneCell' = true) (h1v : ∀ v ∈ vs, v.oneCell' = true) :
    Calls Tryz.prog 122 #[.slice (some ⟨b, 0, none⟩) n c, .int .i64 i, .slice (some ⟨vb, 0, none⟩) m vc] w fun e w' =>
      e = .returned (.slice (some ⟨b, 0, none⟩) (n + m) c) ∧ w' = (w.drew.setCells b (i + m) (cs.drop i)).setCells b i vs := by
  have mixed : Tryz.prog.follows Departure.mixedOrders = true := by kernel_rfl
  have hz1 : ¬ ((m : Int) = 0) := by omega
  have hz2 : ¬ ((i : Int) = (n : Int)) := by omega
  have hsz : (Tryz.prog.info? 5).map (·.size) = some 1 := by kernel_rfl
  have hov : ∀ lb kb, (callFunc 146 #[.slice (some ⟨vb, 0, none⟩) m vc, .slice (some ⟨b, i + m, none⟩) lb kb]).run Tryz.prog w = .ok (.value (.bool false)) w := fun lb kb => overlaps_no w b vb 0 (i + m) m vc lb kb cur vcur _ _ hvb hV hB (by intro h; subst h; simp at hcap; omega)
  have hdl : (cs.drop i).length = n - i := by rw [List.length_drop, hcl]
  have hcc : ∀ j v, cs[j]? = some v → w.cell? ⟨b, j, none⟩ = some v := fun j v hj => by
    rw [hB.cell, ← hj, ← hcs, List.getElem?_take_of_lt (by have := (List.getElem?_eq_some_iff.1 hj).1; omega)]
  have hvv : ∀ j v, vs[j]? = some v → w.cell? ⟨vb, j, none⟩ = some v := fun j v hj => by
    rw [hV.cell, ← hj, ← hvs, List.getElem?_take_of_lt (by have := (List.getElem?_eq_some_iff.1 hj).1; omega)]
  have hsp : ∀ j, j < n + m → (w.cell? ⟨b, j, none⟩).isSome = true := fun j hj => by rw [hB.cell, List.getElem?_eq_getElem (by omega)]; rfl
  have hfz : ∀ j, w.frozen? ⟨b, j, none⟩ = false := fun j => hB.frozen j
  have hw1 : IntKind.i64.wrap ((i : Int) + (m : Int)) = (i : Int) + (m : Int) := by rw [IntKind.wrap_i64]; omega
  have hb1 : (0 : Int) ≤ (i : Int) + (m : Int) := by omega
  have hin : i ≤ n := by omega
  have htn : ((i : Int) + (m : Int)).toNat = i + m := by omega
  have hb2 : ¬ (c = i + m) := by omega
  have hb3 : (i : Int) ≤ (n : Int) + (m : Int) := by omega
  have hb4 : ¬ (c = i) := by omega
  have hcp1 : ∀ ty dc sc, (Builtin.copy_ #[23, 23] ty #[.slice (some ⟨b, i + m, none⟩) (n + m - (i + m)) dc, .slice (some ⟨b, i, none⟩) (n + m - i) sc]).run Tryz.prog w.drew = .ok (goInt (cs.drop i).length) (w.drew.setCells b (i + m) (cs.drop i)) := fun ty dc sc =>
    run_copy_cells w.drew _ _ ty 5 b (i + m) (n + m - (i + m)) dc ⟨b, i, none⟩ (n + m - i) sc (cs.drop i) Tryz.underlying23 hsz (by rw [hdl]; simp only [Nat.min_def]; split <;> omega)
      (fun j v hj => by rw [Addr.add_lit]; exact hcc (i + j) v (by rwa [List.getElem?_drop] at hj))
      (fun j hj => hsp _ (by omega)) (fun j hj => hfz _) (fun v hv => h1c v (List.mem_of_mem_drop hv))
  obtain ⟨W1, hW1⟩ : ∃ W1, W1 = w.drew.setCells b (i + m) (cs.drop i) := ⟨_, rfl⟩
  have hsp1 : ∀ k, k < n + m → (W1.cell? ⟨b, k, none⟩).isSome = true := fun k hk => by
    rw [hW1]
    exact isSome_setCells b (cs.drop i) (i + m) w.drew (fun j hj => hsp (i + m + j) (by omega)) k (hsp k hk)
  have hcp2 : ∀ (W : World), (∀ x, W.cell? x = W1.cell? x) → (∀ x, W.frozen? x = W1.frozen? x) → ∀ ty dc, (Builtin.copy_ #[23, 23] ty #[.slice (some ⟨b, i, none⟩) (n + m - i) dc, .slice (some ⟨vb, 0, none⟩) m vc]).run Tryz.prog W = .ok (goInt vs.length) (W.setCells b i vs) := fun W hWc hWf ty dc =>
    run_copy_cells W _ _ ty 5 b i (n + m - i) dc ⟨vb, 0, none⟩ m vc vs Tryz.underlying23 hsz (by rw [hvl]; simp only [Nat.min_def]; split <;> omega)
      (fun j v hj => by
        rw [Addr.add_lit, hWc, hW1, World.cell?_setCells_out b _ _ _ _ (fun h _ => absurd h hvb), Nat.zero_add]
        exact hvv j v hj)
      (fun j hj => by rw [hWc]; exact hsp1 _ (by omega)) (fun j hj => by rw [hWf, hW1, World.frozen?_setCells]; exact hfz _) h1v
  rw [← hW1] at hcp1
  clear hcs hvs
  go_enter Tryz.func122, Tryz.ntmps122
  go_wp2_with (simp only [hov])
  go_region_law_o (refine step_copy_runI rfl _ _ 23 23 rfl _ _ (by simp [Act.eval, Act.put]) (by simp [Act.eval, Act.put]) (hcp1 _ _ _) ?_)
  go_wp2_with (at_builtin; refine wpList_copy_runI _ rfl _ _ 23 23 rfl _ _ rfl rfl (hcp2 _ (fun _ => rfl) (fun _ => rfl) _ _) ?_)
  go_ret
  first | exact ⟨rfl, rfl⟩ | exact ⟨rfl, by rw [hW1]⟩
set_option maxHeartbeats 4000000 in
set_option maxRecDepth 100000 in
/-- there is no room: a new row -/
theorem ins_grow (b n c i vb m vc : Nat) (cs vs cur vcur : List Value) (w : World) (hi : i < n) (hm : 0 < m) (hnc : n ≤ c) (hroom : c < n + m) (hbig : n + m ≤ 140737488355328)
    (hcl : cs.length = n) (hvl : vs.length = m) (hB : Blk w b cur 5) (hV : Blk w vb vcur 5) (hcs : cur.take n = cs) (hvs : vcur.take m = vs) (h1c : ∀ v ∈ cs, v.oneCell' = true) (h1v : ∀ v ∈ vs, v.oneCell' = true) :
    Calls Tryz.prog 122 #[.slice (some ⟨b, 0, none⟩) n c, .int .i64 i, .slice (some ⟨vb, 0, none⟩) m vc] w fun e w' =>
      ∃ (G : Nat) (row : List Value), e = .returned (.slice (some ⟨w.heap.size, 0, none⟩) (n + m) G) ∧ n + m ≤ G ∧ G ≤ maxLen ∧ row.length = G ∧ row.take i = cs.take i ∧
      w' = (((w.alloc (.cells row.toArray 5)).drew.setCells w.heap.size i vs).drew).setCells w.heap.size (i + m) (cs.drop i) := by
  have mixed : Tryz.prog.follows Departure.mixedOrders = true := by kernel_rfl
  obtain ⟨i0, hi0, hz0, hzs, hzb⟩ := info_parts Tryz.infob
  have hz1 : ¬ ((m : Int) = 0) := by omega
  have hz2 : ¬ ((i : Int) = (n : Int)) := by omega
  have hz3 : (c : Int) < (n : Int) + (m : Int) := by omega
  have hsz : (Tryz.prog.info? 5).map (·.size) = some 1 := by kernel_rfl
  have hcc : ∀ j v, cs[j]? = some v → w.cell? ⟨b, j, none⟩ = some v := fun j v hj => by
    rw [hB.cell, ← hj, ← hcs, List.getElem?_take_of_lt (by have := (List.getElem?_eq_some_iff.1 hj).1; omega)]
  have hvv : ∀ j v, vs[j]? = some v → w.cell? ⟨vb, j, none⟩ = some v := fun j v hj => by
    rw [hV.cell, ← hj, ← hvs, List.getElem?_take_of_lt (by have := (List.getElem?_eq_some_iff.1 hj).1; omega)]
  have hbw : b < w.heap.size := hB.lt
  have hvw : vb < w.heap.size := hV.lt
  have hkk : (n : Int) + (m : Int) - (i : Int) = ((n + m - i : Nat) : Int) := by omega
  have hik : i + (n + m - i) = n + m := by omega
  have hold : (Builtin.firstCells i0.size i (.slice (some ⟨b, 0, none⟩) i c)).run Tryz.prog w.drew = .ok (cs.take i).toArray w.drew := by
    rw [hzs]
    exact run_firstCells_some w.drew 1 i ⟨b, 0, none⟩ i c (cs.take i) (by rw [List.length_take]; omega) (fun j v hj => by
      rw [Addr.add_lit, Nat.zero_add]
      rw [List.getElem?_take] at hj
      split at hj
      · exact hcc j v hj
      · cases hj)
  have hrz : ∀ ty, (Builtin.append_ #[23, 3] ty #[.slice (some ⟨b, 0, none⟩) i c, .int .i64 ((n : Int) + (m : Int) - (i : Int))]).run Tryz.prog w =
      .ok (.slice (some ⟨w.heap.size, 0, none⟩) (n + m) (grownCap w (n + m) c 5)) (w.drew.alloc (.cells ((cs.take i).toArray ++ Builtin.zeroCells (Value.int .u8 0).cells (n + m - i) ++ Builtin.zeroCells (Value.int .u8 0).cells (grownCap w (n + m) c 5 - (n + m))) 5)) := fun ty => by
    have h := Lib.run_append_grow_zeros w 23 3 ty 5 i0 _ .i64 .i64 Tryz.underlying23 Tryz.underlying3 hi0 hz0 (some ⟨b, 0, none⟩) i c (cs.take i) hold (n + m - i) (by omega) (by omega) (by omega) (by omega) (by rw [hzb]; omega) (by rw [hzb, hik]; exact growslice_fits hroom (by omega))
    rw [hik] at h
    rw [hkk]
    exact h
  obtain ⟨G, hG⟩ : ∃ G, G = grownCap w (n + m) c 5 := ⟨_, rfl⟩
  have hGn : n + m ≤ G := by rw [hG]; exact grownCap_ge w _ _ _
  have hGm : G ≤ maxLen := by rw [hG]; exact grownCap_le_maxLen w (n + m) c 5 (by unfold maxLen; omega)
  obtain ⟨ROW, hROW⟩ : ∃ ROW : Array Value, ROW = (cs.take i).toArray ++ Builtin.zeroCells (Value.int .u8 0).cells (n + m - i) ++ Builtin.zeroCells (Value.int .u8 0).cells (G - (n + m)) := ⟨_, rfl⟩
  rw [← hG] at hrz
  rw [← hROW] at hrz
  have hRs : ROW.size = G := by
    have hzc : ∀ k, (Builtin.zeroCells (Value.int .u8 0).cells k).size = k := fun k => by simp [Builtin.zeroCells, Value.cells]
    rw [hROW, Array.size_append, Array.size_append, hzc, hzc, List.size_toArray, List.length_take]
    omega
  have hRt : ROW.toList.take i = cs.take i := by
    rw [hROW]
    simp only [Array.toList_append, List.append_assoc]
    rw [List.take_append_of_le_length (by rw [List.length_take]; omega), List.take_take, Nat.min_self]
  obtain ⟨W1, hW1⟩ : ∃ W1, W1 = w.drew.alloc (.cells ROW 5) := ⟨_, rfl⟩
  rw [← hW1] at hrz
  have hN : ∀ j, j < n + m → (W1.cell? ⟨w.heap.size, j, none⟩).isSome = true := fun j hj => by
    rw [hW1, World.cell?_alloc_at (w := w.drew) ROW _ w.heap.size j rfl, Array.getElem?_eq_getElem (by omega)]; rfl
  have hNf : ∀ j, W1.frozen? ⟨w.heap.size, j, none⟩ = false := fun j => by rw [hW1]; exact World.frozen?_alloc_at (w := w.drew) ROW _ w.heap.size j rfl
  have hOb : ∀ j v, w.cell? ⟨b, j, none⟩ = some v → W1.cell? ⟨b, j, none⟩ = some v := fun j v h => by rw [hW1, World.cell?_alloc_past (w := w.drew) _ b j hbw]; exact h
  have hOv : ∀ j v, w.cell? ⟨vb, j, none⟩ = some v → W1.cell? ⟨vb, j, none⟩ = some v := fun j v h => by rw [hW1, World.cell?_alloc_past (w := w.drew) _ vb j hvw]; exact h
  have hcpA : ∀ (W : World), (∀ x, W.cell? x = W1.cell? x) → (∀ x, W.frozen? x = W1.frozen? x) → ∀ ty dc, (Builtin.copy_ #[23, 23] ty #[.slice (some ⟨w.heap.size, i, none⟩) (n + m - i) dc, .slice (some ⟨vb, 0, none⟩) m vc]).run Tryz.prog W = .ok (goInt vs.length) (W.setCells w.heap.size i vs) := fun W hWc hWf ty dc =>
    run_copy_cells W _ _ ty 5 w.heap.size i (n + m - i) dc ⟨vb, 0, none⟩ m vc vs Tryz.underlying23 hsz (by rw [hvl]; simp only [Nat.min_def]; split <;> omega)
      (fun j v hj => by rw [Addr.add_lit, hWc, Nat.zero_add]; exact hOv _ v (hvv j v hj))
      (fun j hj => by rw [hWc]; exact hN _ (by omega)) (fun j hj => by rw [hWf]; exact hNf _) h1v
  have hG63 : G ≤ 9223372036854775807 := by unfold maxLen at hGm; omega
  have hGi : ¬ (G = i) := by omega
  have hGim : ¬ (G = i + m) := by omega
  have hci : ¬ (c = i) := by omega
  have hbN : b ≠ w.heap.size := by omega
  have hdl : (cs.drop i).length = n - i := by rw [List.length_drop, hcl]
  have hcpB : ∀ (W : World), (∀ x, W.cell? x = (W1.setCells w.heap.size i vs).cell? x) → (∀ x, W.frozen? x = (W1.setCells w.heap.size i vs).frozen? x) → ∀ ty dc sc, (Builtin.copy_ #[23, 23] ty #[.slice (some ⟨w.heap.size, i + m, none⟩) (n + m - (i + m)) dc, .slice (some ⟨b, i, none⟩) (n - i) sc]).run Tryz.prog W = .ok (goInt (cs.drop i).length) (W.setCells w.heap.size (i + m) (cs.drop i)) := fun W hWc hWf ty dc sc =>
    run_copy_cells W _ _ ty 5 w.heap.size (i + m) (n + m - (i + m)) dc ⟨b, i, none⟩ (n - i) sc (cs.drop i) Tryz.underlying23 hsz (by rw [hdl]; simp only [Nat.min_def]; split <;> omega)
      (fun j v hj => by
        rw [Addr.add_lit, hWc, World.cell?_setCells_out _ _ _ _ _ (fun h _ => absurd h hbN)]
        exact hOb _ v (hcc (i + j) v (by rwa [List.getElem?_drop] at hj)))
      (fun j hj => by rw [hWc]; exact isSome_setCells _ _ _ _ (fun t ht => hN _ (by omega)) _ (hN _ (by omega)))
      (fun j hj => by rw [hWf, World.frozen?_setCells]; exact hNf _) (fun v hv => h1c v (List.mem_of_mem_drop hv))
  subst hW1
  have hE1 : ∀ x, ((w.alloc (.cells ROW 5)).drew).cell? x = (w.drew.alloc (.cells ROW 5)).cell? x := fun x => rfl
  have hE2 : ∀ x, ((w.alloc (.cells ROW 5)).drew).frozen? x = (w.drew.alloc (.cells ROW 5)).frozen? x := fun x => rfl
  have hF1 : ∀ x, (((w.alloc (.cells ROW 5)).drew.setCells w.heap.size i vs).drew).cell? x = ((w.drew.alloc (.cells ROW 5)).setCells w.heap.size i vs).cell? x := fun x => rfl
  have hF2 : ∀ x, (((w.alloc (.cells ROW 5)).drew.setCells w.heap.size i vs).drew).frozen? x = ((w.drew.alloc (.cells ROW 5)).setCells w.heap.size i vs).frozen? x := fun x => rfl
  have hw1 : IntKind.i64.wrap ((i : Int) + (m : Int)) = (i : Int) + (m : Int) := by rw [IntKind.wrap_i64]; omega
  have hb1 : (0 : Int) ≤ (i : Int) + (m : Int) := by omega
  have hin : i ≤ n := by omega
  have htn : ((i : Int) + (m : Int)).toNat = i + m := by omega
  have hb3 : (i : Int) ≤ (n : Int) := by omega
  have HRR : Hid (ROW.size = G ∧ ROW.toList.take i = cs.take i) := ⟨hRs, hRt⟩
  clear hkk hik hold hROW hG hRs hRt hcs hvs hi0 hz0 hzs hzb
  go_enter Tryz.func122, Tryz.ntmps122
  go_wp2_with (first
    | (at_builtin; refine Lib.wpList_append_run _ rfl _ _ _ _ rfl _ _ rfl rfl _ _ (hrz _) ?_)
    | (at_builtin; refine wpList_copy_runI _ rfl _ _ 23 23 rfl _ _ rfl rfl (hcpA _ hE1 hE2 _ _) ?_)
    | (at_builtin; refine wpList_copy_runI _ rfl _ _ 23 23 rfl _ _ rfl rfl (hcpB _ (fun _ => rfl) (fun _ => rfl) _ _ _) ?_))
  go_region_law_o (refine step_copy_runI rfl _ _ 23 23 rfl (.slice (some ⟨w.heap.size, i + m, none⟩) (n + m - (i + m)) (G - (i + m))) (.slice (some ⟨b, i, none⟩) (n - i) (c - i)) (by simp [Act.eval, Act.put]) (by simp [Act.eval, Act.put]) (hcpB _ hF1 hF2 3 (G - (i + m)) (c - i)) ?_)
  go_wp2
  go_ret
  exact ⟨G, ROW.toList, rfl, hGn, hGm, by simpa using HRR.out.1, HRR.out.2, rfl⟩
theorem put_two {w : World} {b : Nat} {cur : List Value} {t : TypeId} (hB : Blk w b cur t) (x y : List Value) (i : Nat) (hl : i + x.length + y.length ≤ cur.length) :
    Blk ((w.setCells b (i + x.length) y).setCells b i x) b (cur.take i ++ x ++ y ++ cur.drop (i + x.length + y.length)) t := by
  have h1 := setCells_eq b y (i + x.length) w cur t hB (by omega)
  have h2 := setCells_eq b x i _ _ t h1 (by simp; omega)
  have e : (cur.take (i + x.length) ++ y ++ cur.drop (i + x.length + y.length)).take i ++ x ++ (cur.take (i + x.length) ++ y ++ cur.drop (i + x.length + y.length)).drop (i + x.length) = cur.take i ++ x ++ y ++ cur.drop (i + x.length + y.length) := by
    have e1 : (cur.take (i + x.length)).length = i + x.length := by rw [List.length_take]; omega
    rw [List.append_assoc (cur.take (i + x.length)), List.take_append_of_le_length (by omega), List.take_take, Nat.min_eq_left (by omega), List.drop_append_of_le_length (by omega), List.drop_of_length_le (by omega), List.nil_append]
    simp
  rw [e] at h2; exact h2
theorem put_two' {w : World} {b : Nat} {cur : List Value} {t : TypeId} (hB : Blk w b cur t) (x y : List Value) (i : Nat) (hl : i + x.length + y.length ≤ cur.length) :
    Blk (((w.setCells b i x).drew).setCells b (i + x.length) y) b (cur.take i ++ x ++ y ++ cur.drop (i + x.length + y.length)) t := by
  have h1 := setCells_eq b x i w cur t hB (by omega)
  have h2 := setCells_eq b y (i + x.length) _ _ t h1.drew (by simp; omega)
  have e : (cur.take i ++ x ++ cur.drop (i + x.length)).take (i + x.length) ++ y ++ (cur.take i ++ x ++ cur.drop (i + x.length)).drop (i + x.length + y.length) = cur.take i ++ x ++ y ++ cur.drop (i + x.length + y.length) := by
    have e1 : (cur.take i ++ x).length = i + x.length := by rw [List.length_append, List.length_take]; omega
    rw [List.take_append_of_le_length (by omega), List.take_of_length_le (by omega), List.drop_append, List.drop_of_length_le (by omega), List.nil_append, e1, List.drop_drop]
    congr 2
    omega
  rw [e] at h2; exact h2
theorem cb_app (a b : List (BitVec 8)) : cb (a ++ b) = cb a ++ cb b := by simp [cb]
theorem cb_drop (a : List (BitVec 8)) (k : Nat) : (cb a).drop k = cb (a.drop k) := by simp [cb]
theorem cb_take (a : List (BitVec 8)) (k : Nat) : (cb a).take k = cb (a.take k) := by simp [cb]
theorem OwnB.of_blk {w : World} {base b : Nat} {row : List Value} {l : List (BitVec 8)} {c : Nat} (h : Blk w b row 5) (hb : base ≤ b) (hc : row.length = c) (hm : c ≤ maxLen) (hl : l.length ≤ c) (ht : row.take l.length = cb l) : OwnB w base (.slice (some ⟨b, 0, none⟩) l.length c) l :=
  ⟨by rw [cb_len]; omega, Or.inr ⟨b, c, row.toArray, rfl, hb, h, hl, hm, by simpa using hc, by simpa using ht⟩⟩
end Go.Proofs.YtopmeedmgjdcgaaGreatDoor
/- The walks of codec.Text, codec.Digest and blazonref04.Text: a text, a digest behind bytes. -/
namespace Go.Proofs.YtopmeedmgjdcgaaGreatDoor
open Go.RowKit
set_option maxRecDepth 100000
theorem OwnB.below' {w w' : World} {base B : Nat} {v : Value} {l : List (BitVec 8)} (h : OwnB w base v l) (hb : Below B w w') (hB : ∀ k, v.ownBlock = some k → k < B) : OwnB w' base v l := by
  obtain ⟨h1, h2⟩ := h
  refine ⟨h1, ?_⟩
  rcases h2 with h2 | ⟨g, cap, cur, rfl, hg, hh, r⟩
  · exact Or.inl h2
  · exact Or.inr ⟨g, cap, cur, rfl, hg, by rw [hb.block g (hB g rfl)]; exact hh, r⟩
theorem OwnB.lt {w : World} {base : Nat} {v : Value} {l : List (BitVec 8)} (h : OwnB w base v l) : ∀ k, v.ownBlock = some k → k < w.heap.size := by
  obtain ⟨h1, h2⟩ := h
  rcases h2 with ⟨rfl, h0⟩ | ⟨g, cap, cur, rfl, hg, hh, _⟩
  · intro k hk; simp [Value.ownBlock] at hk
  · intro k hk
    simp [Value.ownBlock] at hk
    subst hk
    rcases Nat.lt_or_ge g w.heap.size with h' | h'
    · exact h'
    · rw [Array.getElem?_eq_none h'] at hh; cases hh
end Go.Proofs.YtopmeedmgjdcgaaGreatDoor
/- The walks of codec's writers: nothing but the own block of what is written to changes (layer 15). -/
namespace Go.Proofs.YtopmeedmgjdcgaaGreatDoor
open Go.RowKit
set_option maxRecDepth 100000
/-- from w and the slice v to w' and the slice v': no block but v's own one changed -/
structure Fr (w : World) (v : Value) (w' : World) (v' : Value) : Prop where
  os : w'.os = w.os
  tape : w'.tape = w.tape
  output : w'.output = w.output
  size : w.heap.size ≤ w'.heap.size
  block : ∀ k, k < w.heap.size → v.ownBlock ≠ some k → w'.heap[k]? = w.heap[k]?
  loc : ∀ k, v'.ownBlock = some k → v.ownBlock = some k ∨ w.heap.size ≤ k
theorem Fr.refl (w : World) (v : Value) : Fr w v w v := ⟨rfl, rfl, rfl, Nat.le_refl _, fun _ _ _ => rfl, fun _ h => Or.inl h⟩
theorem Fr.trans {a b c : World} {u v x : Value} (h : Fr a u b v) (k : Fr b v c x) : Fr a u c x :=
  ⟨k.os.trans h.os, k.tape.trans h.tape, k.output.trans h.output, Nat.le_trans h.size k.size, fun i hi hn => (k.block i (Nat.lt_of_lt_of_le hi h.size) (fun e => (h.loc i e).elim hn (fun hle => by omega))).trans (h.block i hi hn), fun i hi => (k.loc i hi).elim (h.loc i) (fun hle => Or.inr (Nat.le_trans h.size hle))⟩
theorem Fr.ofNew {w w' : World} (h : Below w.heap.size w w') (v : Value) : Fr w v w' v := ⟨h.os, h.tape, h.output, h.size, fun k hk _ => h.block k hk, fun _ e => Or.inl e⟩
theorem Fr.alloc {w w' : World} {v v' : Value} (h : Fr w v w' v') (o : Obj) : Fr w v (w'.alloc o) v' := h.trans (Fr.ofNew (below_alloc _ _) v')
theorem Fr.ofOnly {w w' : World} {g : Nat} {v v' : Value} (h : Only g w w') (hv : v.ownBlock = some g) (hv' : v'.ownBlock = some g) : Fr w v w' v' := ⟨h.os, h.tape, h.output, h.size, fun k hk hn => h.block k (fun e => hn (by rw [hv, e])) hk, fun k hk => Or.inl (by rw [hv, ← hv']; exact hk)⟩
theorem Fr.ofBelow {w w' : World} {v v' : Value} (h : Below w.heap.size w w') (hv : ∀ k, v'.ownBlock = some k → w.heap.size ≤ k) : Fr w v w' v' := ⟨h.os, h.tape, h.output, h.size, fun k hk _ => h.block k hk, fun k hk => Or.inr (hv k hk)⟩
theorem Fr.ofGrown {w w' : World} {v v' : Value} (h : w.grownBy w' v.ownBlock) (hl : v'.ownBlock = v.ownBlock ∨ v'.ownBlock = some w.heap.size) : Fr w v w' v' := ⟨h.os, h.tape, h.output, h.size, fun k hk hn => h.block k hk (fun e => hn e.symm), fun k hk => hl.elim (fun e => Or.inl (by rw [← e]; exact hk)) (fun e => Or.inr (by rw [e] at hk; cases hk; exact Nat.le_refl _))⟩
theorem Fr.below {w w' : World} {v v' : Value} (h : Fr w v w' v') {B : Nat} (hB : B ≤ w.heap.size) (hv : ∀ k, v.ownBlock = some k → B ≤ k) : Below B w w' := ⟨h.os, h.tape, h.output, h.size, fun k hk => h.block k (by omega) (fun e => absurd (hv k e) (by omega))⟩
theorem Fr.blk {w w' : World} {v v' : Value} (h : Fr w v w' v') {g : Nat} {cs : List Value} {t : TypeId} (hb : Blk w g cs t) (hg : v.ownBlock ≠ some g) : Blk w' g cs t := by
  unfold Blk at *
  rw [h.block g (Array.getElem?_eq_some_iff.1 hb).1 hg]
  exact hb
theorem wpList_appendF {w : World} {ops : Array Oper} {rest : List Oper} {o : Oper} {a : Act} {Q : Exit → Act → World → Prop} (hgd : o.guard = none) (s x : Operand)
    (ho : o.op = .call { callee := .builtin .append, args := #[s, x], argTypes := #[23, 23] }) (base : Nat)
    (v : Value) (l : List (BitVec 8)) (hs : a.eval s = v) (hown : OwnB w base v l) (vx : Value) (news : List (BitVec 8)) (hx : a.eval x = vx) (hr : Reads w vx news)
    (hlen : l.length + news.length ≤ 140737488355328) (hbase : base ≤ w.heap.size)
    (h : ∀ v' w', OwnB w' base v' (l ++ news) → Fr w v w' v' → wpList Tryz.prog ops Q rest (a.put o.dst v') w') : wpList Tryz.prog ops Q (o :: rest) a w := by
  obtain ⟨i0, hi, hz0, hz1, hz2⟩ := info_parts Tryz.infob
  obtain ⟨ad, cap, rfl, hcap, hnn, hpos⟩ := hr
  cases ad with
  | some ad =>
    refine wpList_append_own_at (P := Tryz.prog) w hgd s x 23 ho base 5 i0 (.int .u8 0) 1 1 Tryz.underlying23 hi hz0 hz1 hz2 rfl (by decide) v l.length (cb l) hs hown ad news.length cap (cb news) hx (by rw [cb_len]; omega) ?_ (cb_one _) (by unfold maxLen; omega) (by omega) hbase ?_
    · intro j u hj
      have hjl : j < news.length := by have := (List.getElem?_eq_some_iff.1 hj).1; rwa [cb_len] at this
      obtain ⟨b, off, h1, h2⟩ := hpos (by omega)
      cases h1
      rw [Addr.add_mid, h2 j hjl, ← hj, cb_get news j hjl]
    · intro v' w' h1 h2 _ h5
      refine h v' w' ?_ (Fr.ofGrown h2 h5)
      · have e : cb l ++ cb news = cb (l ++ news) := by simp [cb]
        rw [e] at h1
        unfold OwnB; rw [List.length_append]; exact h1
  | none =>
    have hn0 : news = [] := by
      cases news with
      | nil => rfl
      | cons b r => obtain ⟨b, off, h1, _⟩ := hpos (by simp); cases h1
    subst hn0
    have hc0 := hnn rfl
    subst hc0
    refine wpList_append_own_none (P := Tryz.prog) hgd s x 23 ho base 5 i0 1 Tryz.underlying23 hi v l.length (cb l) hs hown hx ?_
    exact h v w (by rw [List.append_nil]; exact hown) (Fr.refl _ _)
structure NuF (base : Nat) (w : World) (v : Value) (l : List (BitVec 8)) (n m : Nat) (p : List (BitVec 8)) (u : Value) (wr : World) : Prop where
  own : OwnB wr base u (l ++ p)
  bel : Fr w v wr u
  eq : p ++ encNum m = encNum n
  lt : m < 18446744073709551616
theorem NuF.le {base : Nat} {w wr : World} {v : Value} {l p : List (BitVec 8)} {n m : Nat} {u : Value} (h : NuF base w v l n m p u wr) (hn : n < 18446744073709551616) : p.length < 10 := by
  have h1 := enc_len10 n hn
  rw [← h.eq, List.length_append] at h1
  have := encNum_pos m
  omega
set_option maxHeartbeats 1000000 in
theorem cnum_fr (base : Nat) (v : Value) (l : List (BitVec 8)) (n : Nat) (hn : n < 18446744073709551616) (w : World) (hown : OwnB w base v l) (hb : base ≤ w.heap.size) (hl : l.length + 10 ≤ 140737488355328) :
    Calls Tryz.prog 72 #[v, .int .u64 (n : Int)] w fun e w' => ∃ v', e = .returned v' ∧ OwnB w' base v' (l ++ encNum n) ∧ Fr w v w' v' := by
  have HO : Hid (OwnB w base v l) := hown
  have HN : Hid (n < 18446744073709551616) := hn
  have HL : Hid (l.length + 10 ≤ 140737488355328) := hl
  have HB : Hid (base ≤ w.heap.size) := hb
  clear hown hn hl hb
  go_enter Tryz.func72, Tryz.ntmps72
  go_wp2
  go_loopw [0, 1] (fun u x wr => ∃ (p : List (BitVec 8)) (m : Nat), x = .int .u64 m ∧ NuF base w v l n m p u wr) (fun _ x _ => (intOf x).toNat)
  case atStart => exact ⟨[], n, rfl, by simpa using HO.out, Fr.refl _ _, rfl, HN.out⟩
  case round =>
    obtain ⟨p, m, rfl, hI⟩ := hrel
    have HI : Hid (NuF base w v l n m p u0 wr) := hI
    have HP : Hid (p.length < 10) := hI.le HN.out
    have HS : Hid (base ≤ wr.heap.size) := Nat.le_trans HB.out hI.bel.size
    clear hI
    by_cases hlt : m < 128
    · have hge : ¬ (128 ≤ (m : Int)) := by omega
      have hx : (m : Int) % 256 = (m : Int) := by omega
      go_wp2_with (at_builtin; refine wpList_appendF rfl (.tmp 15) (.tmp 18) rfl base _ (l ++ p) rfl (HI.out.own.below ((Below.refl _ _).alloc (Nat.le_refl _) _) (Nat.le_refl _)) _ [BitVec.ofNat 8 m] rfl (reads_val wr _ _ ?_) (by have := HL.out; have := HP.out; simp; omega) (by have := HS.out; simp; omega) ?_; simp; omega; intro v2 w2 hown2 hb2)
      have HR : Hid (OwnB w2 base v2 (l ++ encNum n)) := by
        rw [← HI.out.eq, encNum_lt hlt, ← List.append_assoc]; exact hown2
      have hB : Fr w v w2 v2 := (HI.out.bel.alloc _).trans hb2
      clear hown2 hb2 HI
      go_wp2
      go_ret
      exact ⟨_, rfl, HR.out, hB⟩
    · have hge : 128 ≤ (m : Int) := by omega
      have HLT : Hid (¬ m < 128) := hlt
      have hw : IntKind.u64.wrap ((m : Int) / 128) = (m : Int) / 128 := by have := HI.out.lt; rw [IntKind.wrap_u64]; omega
      clear hlt
      go_wp2_with (at_builtin; refine wpList_appendF rfl (.tmp 7) (.tmp 11) rfl base _ (l ++ p) rfl (HI.out.own.below ((Below.refl _ _).alloc (Nat.le_refl _) _) (Nat.le_refl _)) _ [BitVec.ofNat 8 (m % 128 + 128)] rfl (reads_val wr _ _ ?_) (by have := HL.out; have := HP.out; simp; omega) (by have := HS.out; simp; omega) ?_; (go_loud (rw [or128 m])); intro v2 w2 hown2 hb2)
      have hJ : NuF base w v l n (m / 128) (p ++ [BitVec.ofNat 8 (m % 128 + 128)]) v2 w2 := ⟨by rw [List.append_assoc] at hown2; exact hown2, (HI.out.bel.alloc _).trans hb2, enc_step HLT.out HI.out.eq, by have := HI.out.lt; omega⟩
      clear hown2 hb2 HI
      go_wp2
      go_roundw
      case rel => exact ⟨_, m / 128, by simp, hJ⟩
      case measure => simp [intOf]; omega
set_option maxHeartbeats 1000000 in
theorem ins_fr (base bv : Nat) (s v : Value) (l t e : List (BitVec 8)) (w : World) (hs : OwnB w base s (l ++ t)) (hv : OwnB w bv v e) (hsep : ∀ k, s.ownBlock = some k → k < bv) (he : e ≠ []) (hbase : base ≤ bv) (hbv : bv ≤ w.heap.size) (hlen : l.length + t.length + e.length ≤ 140737488355328) :
    Calls Tryz.prog 122 #[s, .int .i64 (l.length : Int), v] w fun en w' => ∃ v', en = .returned v' ∧ OwnB w' base v' (l ++ (e ++ t)) ∧ Fr w s w' v' := by
  have hm : 0 < e.length := List.length_pos_iff.2 he
  have hR := hv.reads
  have HS : Hid (OwnB w base s (l ++ t)) := hs
  obtain ⟨hv1, hv2⟩ := hv
  rcases hv2 with ⟨rfl, h0⟩ | ⟨vb, vc, vcur, rfl, hvg, hvh, hvc, hvm, hvs, hvt⟩
  · omega
  have HV : Blk w vb vcur.toList 5 := hvh
  rw [Nat.mul_one] at hvs hvt
  by_cases ht : t = []
  · subst ht
    rw [List.append_nil] at hs HS
    have HRV : Hid (Reads w (.slice (some ⟨vb, 0, none⟩) e.length vc) e) := hR
    have hz1 : ¬ ((e.length : Int) = 0) := by omega
    obtain ⟨ad, cap, rfl, hcap, _, _⟩ := id hs.reads
    have hcb : cap ≤ maxLen := by
      obtain ⟨_, h2⟩ := hs
      rcases h2 with ⟨h, _⟩ | ⟨g, cc, cur, h, _, _, _, h3, _⟩
      · simp only [Value.slice.injEq] at h; omega
      · simp only [Value.slice.injEq] at h; omega
    unfold maxLen at hcb
    clear hs hR hvh HV hvs hvt hv1 hsep
    obtain ⟨m, HM⟩ : ∃ m, Hid (m = e.length) := ⟨_, rfl⟩
    obtain ⟨n, HNN⟩ : ∃ n, Hid (n = l.length) := ⟨_, rfl⟩
    rw [← HM.out] at hm hlen hz1 hvc HRV
    rw [← HM.out]
    rw [← HNN.out] at hlen hcap HS
    rw [← HNN.out]
    have HB : Hid (base ≤ w.heap.size) := Nat.le_trans hbase hbv
    clear hvm hvg
    rw [List.append_nil]
    have HLN : Hid (l.length + e.length ≤ 140737488355328) := by show _ ≤ _; rw [← HM.out, ← HNN.out]; simp at hlen; omega
    by_cases hcn : cap = n
    · subst hcn
      go_enter Tryz.func122, Tryz.ntmps122
      go_wp2_with (at_builtin; refine wpList_appendF rfl _ _ rfl base _ l rfl HS.out _ e rfl HRV.out HLN.out HB.out ?_; intro v2 w2 hown2 hb2)
      go_ret
      exact ⟨_, rfl, hown2, hb2⟩
    · go_enter Tryz.func122, Tryz.ntmps122
      go_wp2_with (at_builtin; refine wpList_appendF rfl _ _ rfl base _ l rfl HS.out _ e rfl HRV.out HLN.out HB.out ?_; intro v2 w2 hown2 hb2)
      go_ret
      exact ⟨_, rfl, hown2, hb2⟩
  · have htl : 0 < t.length := List.length_pos_iff.2 ht
    obtain ⟨hs1, hs2⟩ := hs
    rcases hs2 with ⟨rfl, h0⟩ | ⟨b, c, cur, rfl, hg, hh, hc, hcm, hcs, hct⟩
    · rw [List.length_append] at h0; omega
    have HB : Blk w b cur.toList 5 := hh
    rw [Nat.mul_one] at hcs hct
    have hlt : b < bv := hsep b rfl
    have hne : vb ≠ b := by omega
    have hmx : maxLen = 9223372036854775807 := rfl
    by_cases hroom : (l ++ t).length + e.length ≤ c
    · refine (ins_shift b (l ++ t).length c l.length vb e.length vc (cb (l ++ t)) (cb e) cur.toList vcur.toList w (by rw [List.length_append]; omega) hm hroom (by omega) hne (cb_len _) (cb_len _) HB HV (by simpa using hcs) hct hvt (cb_one _) (cb_one _)).mono ?_
      rintro en w' ⟨rfl, rfl⟩
      have hd : (cb (l ++ t)).drop l.length = cb t := by rw [cb_drop, List.drop_left]
      rw [hd]
      have hcl : cur.toList.length = c := by simpa using hcs
      have hk := put_two HB.drew (cb e) (cb t) l.length (by rw [cb_len, cb_len, hcl]; rw [List.length_append] at hroom; omega)
      rw [cb_len] at hk
      have hb' : Only b w ((w.drew.setCells b (l.length + e.length) (cb t)).setCells b l.length (cb e)) := Only.setCells _ _ _ (Only.setCells _ _ _ (Only.refl _ _).drew)
      refine ⟨_, rfl, ?_, Fr.ofOnly hb' rfl rfl⟩
      have := OwnB.of_blk (base := base) (l := l ++ (e ++ t)) hk hg (c := c) (by rw [List.length_append] at hroom; simp only [List.length_append, List.length_take, List.length_drop, cb_len, hcl]; omega) hcm (by simp; simp at hroom; omega) (by
        have e1 : cur.toList.take l.length = cb l := by
          have := congrArg (List.take l.length) hct
          rw [List.take_take, Nat.min_eq_left (by simp), cb_take, List.take_left] at this
          exact this
        rw [e1, List.take_append_of_le_length (by simp only [List.length_append, cb_len]; omega), List.take_of_length_le (by simp only [List.length_append, cb_len]; omega), cb_app, cb_app, List.append_assoc])
      have e2 : (l ++ (e ++ t)).length = (l ++ t).length + e.length := by simp; omega
      rw [e2] at this
      exact this
    · refine (ins_grow b (l ++ t).length c l.length vb e.length vc (cb (l ++ t)) (cb e) cur.toList vcur.toList w (by rw [List.length_append]; omega) hm hc (by omega) (by rw [List.length_append]; omega) (cb_len _) (cb_len _) HB HV hct hvt (cb_one _) (cb_one _)).mono ?_
      rintro en w' ⟨G, row, rfl, hG1, hG2, hG3, hG4, rfl⟩
      have hd : (cb (l ++ t)).drop l.length = cb t := by rw [cb_drop, List.drop_left]
      rw [hd]
      have hN := Blk.new w row 5
      have hk := put_two' hN.drew (cb e) (cb t) l.length (by rw [cb_len, cb_len, hG3]; rw [List.length_append] at hG1; omega)
      rw [cb_len] at hk
      have hwb : base ≤ w.heap.size := Nat.le_trans hbase hbv
      have hb' : Below w.heap.size w (((w.alloc (.cells row.toArray 5)).drew.setCells w.heap.size l.length (cb e)).drew.setCells w.heap.size (l.length + e.length) (cb t)) := Below.setCells _ (Nat.le_refl _) _ _ _ (Below.setCells _ (Nat.le_refl _) _ _ _ ((Below.refl _ _).alloc (Nat.le_refl _) _).drew).drew
      refine ⟨_, rfl, ?_, Fr.ofBelow hb' (fun k hk => by cases hk; exact Nat.le_refl _)⟩
      have := OwnB.of_blk (base := base) (l := l ++ (e ++ t)) hk hwb (c := G) (by simp [cb_len, hG3]; rw [List.length_append] at hG1; omega) hG2 (by simp; simp at hG1; omega) (by
        have e1 : row.take l.length = cb l := by rw [hG4, cb_take, List.take_left]
        rw [e1, List.take_append_of_le_length (by simp only [List.length_append, cb_len]; omega), List.take_of_length_le (by simp only [List.length_append, cb_len]; omega), cb_app, cb_app, List.append_assoc])
      have e2 : (l ++ (e ++ t)).length = (l ++ t).length + e.length := by simp; omega
      rw [e2] at this
      exact this
set_option maxHeartbeats 1000000 in
theorem ctext_fr (base : Nat) (v vt : Value) (l t : List (BitVec 8)) (w : World) (hown : OwnB w base v l) (hr : Reads w vt t) (hb : base ≤ w.heap.size) (hl : l.length + t.length + 10 ≤ 140737488355328) :
    Calls Tryz.prog 97 #[v, vt] w fun e w' => ∃ v', e = .returned v' ∧ OwnB w' base v' (l ++ encText t) ∧ Fr w v w' v' := by
  have HO : Hid (OwnB w base v l) := hown
  have HR : Hid (Reads w vt t) := hr
  have HL : Hid (l.length + t.length + 10 ≤ 140737488355328) := hl
  have HB : Hid (base ≤ w.heap.size) := hb
  obtain ⟨ad, cap, rfl, _, _, _⟩ := id hown.reads
  obtain ⟨at', capt, rfl, _, _, _⟩ := id hr
  obtain ⟨n, HNN⟩ : ∃ n, Hid (n = l.length) := ⟨_, rfl⟩
  obtain ⟨m, HM⟩ : ∃ m, Hid (m = t.length) := ⟨_, rfl⟩
  rw [← HNN.out] at HO
  rw [← HM.out] at HR
  rw [← HNN.out, ← HM.out]
  have hm : m < 140737488355328 := by have := HL.out; have := HM.out; omega
  clear hown hr hl hb
  go_enter Tryz.func97, Tryz.ntmps97
  go_wp2_with (at_builtin; refine wpList_appendF rfl (.tmp 5) (.tmp 6) rfl base _ l rfl HO.out _ t rfl HR.out (by have := HL.out; omega) HB.out ?_; intro v2 w2 hown2 hb2)
  have HO2 : Hid (OwnB w2 base v2 (l ++ t)) := hown2
  have HB2 : Hid (Fr w (.slice ad n cap) w2 v2) := hb2
  have HS2 : Hid (base ≤ w2.heap.size) := Nat.le_trans HB.out hb2.size
  clear hown2 hb2
  have hw : IntKind.u64.wrap (m : Int) = (m : Int) := by rw [IntKind.wrap_u64]; omega
  go_wp2_with fail
  refine (cnum_any w2.heap.size _ [] m (by omega) w2 (OwnB.nil _ _) (Nat.le_refl _) (by simp)).mono ?_
  rintro e w3 ⟨v3, rfl, ho3, hb3⟩
  have HO3 : Hid (OwnB w3 w2.heap.size v3 (encNum m)) := ho3
  have HB3 : Hid (Below w2.heap.size w2 w3) := hb3
  clear ho3 hb3
  go_wp2_with fail
  have hO := HO2.out.below' HB3.out (HO2.out.lt)
  have hn : (n : Int) = (l.length : Int) := by rw [HNN.out]
  rw [hn]
  refine (ins_fr base w2.heap.size v2 v3 l t (encNum m) w3 hO HO3.out HO2.out.lt (by intro h; have := encNum_pos m; rw [h] at this; simp at this) HS2.out HB3.out.size (by have := HL.out; have := enc_len10 m (by omega); omega)).mono ?_
  rintro e w4 ⟨v4, rfl, ho4, hb4⟩
  have HO4 : Hid (OwnB w4 base v4 (l ++ encText t)) := by show OwnB _ _ _ _; unfold encText; rw [← HM.out]; exact ho4
  have HB4 : Hid (Fr w (.slice ad n cap) w4 v4) := HB2.out.trans ((Fr.ofNew HB3.out v2).trans hb4)
  clear ho4 hb4 hO
  go_wp2
  go_ret
  exact ⟨_, rfl, HO4.out, HB4.out⟩
end Go.Proofs.YtopmeedmgjdcgaaGreatDoor
/- The walks of store.writeAct, store.within and store.Batch (layer 15). -/
namespace Go.Proofs.YtopmeedmgjdcgaaGreatDoor
open Go.RowKit
set_option maxRecDepth 100000
theorem wpSeq_convS {ops : Array Oper} {Q : Exit → Act → World → Prop} {rest : List Oper} {o : Oper} {a : Act} {w : World} (x : Operand) (ks : ByteArray) (k : Bs) (hk : ks = strB k) (ho : o.op = .convert 9 23 x) (hx : a.eval x = .string ks) (hw : Region.wanted o (yielded ops a.tmps) = true)
    (h : ∀ ad n c w', Reads w' (.slice ad n c) k → Below w.heap.size w w' → wpList Tryz.prog ops Q rest (a.put o.dst (.slice ad n c)) w') : wpList Tryz.prog ops Q (o :: rest) a w := by
  subst hk
  refine wpSeq_val _ _ hw ?_ (h _ _ _ _ (bytesWorld_reads k w) (bytesWorld_below k w))
  unfold execOp
  rw [ho]
  simp only [hx, Sem.run_bind, conv_string]
  rfl
theorem OwnB.neA {w : World} {base : Nat} {v : Value} {l : Bs} (h : OwnB w base v l) {g : Nat} {cs : List Value} {t : TypeId} (hb : Blk w g cs t) (ht : t ≠ 5) : v.ownBlock ≠ some g := fun e => by
  obtain ⟨h1, h2⟩ := h
  rcases h2 with ⟨rfl, h0⟩ | ⟨g2, cap, cur, rfl, hg, hh, _⟩
  · cases e
  · simp [Value.ownBlock] at e
    subst e
    unfold Blk at hb
    rw [hb] at hh
    simp only [Option.some.injEq, Obj.cells.injEq] at hh
    exact ht hh.2.1
theorem OwnB.ltS {w : World} {base : Nat} {v : Value} {l : Bs} (h : OwnB w base v l) : ∀ k, v.ownBlock = some k → base ≤ k ∧ k < w.heap.size := World.ownsRow.lt h
theorem OwnB.sameS {w w' : World} {base : Nat} {v : Value} {l : Bs} (h : OwnB w base v l) (hs : ∀ k, v.ownBlock = some k → w'.heap[k]? = w.heap[k]?) : OwnB w' base v l := by
  obtain ⟨h1, h2⟩ := h
  refine ⟨h1, ?_⟩
  rcases h2 with h2 | ⟨g, cap, cur, rfl, hg, hh, r⟩
  · exact Or.inl h2
  · exact Or.inr ⟨g, cap, cur, rfl, hg, by rw [hs g rfl]; exact hh, r⟩
theorem OwnB.newS {w w' : World} {base : Nat} {v : Value} {l : Bs} (h : OwnB w base v l) (hb : Below w.heap.size w w') : OwnB w' base v l := h.sameS (fun k hk => hb.block k (h.ltS k hk).2)
set_option maxRecDepth 100000 in
set_option maxHeartbeats 4000000 in
theorem sWriteAct_any (base : Nat) (v vd : Value) (l : Bs) (a : ActT) (w : World) (hown : OwnB w base v l) (hb : base ≤ w.heap.size) (hd : ∀ w' v', Fr w v w' v' → Reads w' vd a.data) (hl : l.length + a.key.length + a.data.length + 40 ≤ 140737488355328) :
    Calls Tryz.prog 73 #[v, .agg (actC a vd).toArray] w fun e w' => ∃ v', e = .returned v' ∧ OwnB w' base v' (l ++ encA a) ∧ Fr w v w' v' := by
  have HO : Hid (OwnB w base v l) := hown
  have HD : Hid (∀ w' v', Fr w v w' v' → Reads w' vd a.data) := hd
  have HL : Hid (l.length + a.key.length + a.data.length + 40 ≤ 140737488355328) := hl
  have HB : Hid (base ≤ w.heap.size) := hb
  obtain ⟨ad, n, c, hv⟩ := hown.reads.form
  obtain ⟨av, nv, cv, hvd⟩ := (hd w v (Fr.refl _ _)).form
  subst hv hvd
  obtain ⟨ks, HKS⟩ : ∃ s, Hid (s = strB a.key) := ⟨_, rfl⟩
  obtain ⟨st, HST⟩ : ∃ s, Hid (s = a.set) := ⟨_, rfl⟩
  rw [actC, ← HKS.out, ← HST.out]
  have HE : Hid (encA a = encText a.key ++ (if st then encNum 1 ++ encText a.data else encNum 0)) := by show _ = _; rw [encA, HST.out]
  have HEK : Hid ((encText a.key).length ≤ a.key.length + 10) := by show _ ≤ _; rw [encText, List.length_append]; have := enc_len10 a.key.length (by omega); omega
  clear hown hb hd hl
  cases st with
  | false =>
    go_enter Tryz.func73, Tryz.ntmps73
    have tk0 : Hid True := trivial
    have tk1 : Hid True := trivial
    have tk2 : Hid True := trivial
    have tk3 : Hid True := trivial
    go_wp2_with (first
      | (clear tk0; with_reducible refine wpSeq_boxW 62 (.tmp 1) [.string ks, .bool false, .slice av nv cv] ?_ ?_ ?_ ?_
         · rfl
         · rfl
         · rfl
         intro g3 y1 nn
         have HG3 : Hid (Blk y1 g3 [.string ks, .bool false, .slice av nv cv] 62 ∧ w.heap.size ≤ g3) := ⟨nn.blk, nn.ge⟩
         have HF1 : Hid (Fr w (.slice ad n c) y1 (.slice ad n c)) := Fr.ofNew nn.below _
         have HO1 : Hid (OwnB y1 base (.slice ad n c) l) := HO.out.newS nn.below
         have c0 : y1.cell? ⟨g3, 0, none⟩ = some (.string ks) := nn.blk.cell 0
         clear nn)
      | (clear tk1; with_reducible refine wpSeq_convS (.tmp 7) ks a.key HKS.out ?_ ?_ ?_ ?_
         · rfl
         · rfl
         · rfl
         intro ak nk ck y2 hrk hbk
         have HRK : Hid (Reads y2 (.slice ak nk ck) a.key) := hrk
         have HF2 : Hid (Fr w (.slice ad n c) y2 (.slice ad n c)) := HF1.out.trans (Fr.ofNew hbk _)
         have HO2 : Hid (OwnB y2 base (.slice ad n c) l) := HO1.out.newS hbk
         have HG2 : Hid (Blk y2 g3 [.string ks, .bool false, .slice av nv cv] 62) := HG3.out.1.below hbk HG3.out.1.lt
         clear hrk hbk c0)
      | (clear tk2; go_at_call 97; refine (ctext_fr base _ _ l a.key _ HO2.out HRK.out (Nat.le_trans HB.out HF2.out.size) (by have := HL.out; omega)).mono ?_; rintro e0 y3 ⟨v3, rfl, ho3, hf3⟩
         have HO3 : Hid (OwnB y3 base v3 (l ++ encText a.key)) := ho3
         have HF3 : Hid (Fr w (.slice ad n c) y3 v3) := HF2.out.trans hf3
         have HK3 : Hid (Blk y3 g3 [.string ks, .bool false, .slice av nv cv] 62) := hf3.blk HG2.out (HO2.out.neA HG2.out (by decide))
         have c1 : y3.cell? ⟨g3, 1, none⟩ = some (.bool false) := HK3.out.cell 1
         obtain ⟨a3, n3, c3, hv3⟩ := ho3.reads.form
         subst hv3
         clear ho3 hf3)
      | (clear tk3; go_at_call 72; refine (cnum_fr base _ _ 0 (by decide) _ HO3.out (Nat.le_trans HB.out HF3.out.size) (by rw [List.length_append]; have h1 := HL.out; have h2 := HEK.out; omega)).mono ?_; rintro e0 y4 ⟨v4, rfl, ho4, hf4⟩
         have HO4 : Hid (OwnB y4 base v4 (l ++ encA a)) := by rw [HE.out, if_neg Bool.false_ne_true, ← List.append_assoc]; exact ho4
         have HF4 : Hid (Fr w (.slice ad n c) y4 v4) := HF3.out.trans hf4
         obtain ⟨a4, n4, c4, hv4⟩ := ho4.reads.form
         subst hv4
         clear ho4 hf4 c1))
    go_ret
    exact ⟨_, rfl, HO4.out, HF4.out⟩
  | true =>
    go_enter Tryz.func73, Tryz.ntmps73
    have tk0 : Hid True := trivial
    have tk1 : Hid True := trivial
    have tk2 : Hid True := trivial
    go_wp2_with (first
      | (clear tk0; with_reducible refine wpSeq_boxW 62 (.tmp 1) [.string ks, .bool true, .slice av nv cv] ?_ ?_ ?_ ?_
         · rfl
         · rfl
         · rfl
         intro g3 y1 nn
         have HG3 : Hid (Blk y1 g3 [.string ks, .bool true, .slice av nv cv] 62 ∧ w.heap.size ≤ g3) := ⟨nn.blk, nn.ge⟩
         have HF1 : Hid (Fr w (.slice ad n c) y1 (.slice ad n c)) := Fr.ofNew nn.below _
         have HO1 : Hid (OwnB y1 base (.slice ad n c) l) := HO.out.newS nn.below
         have c0 : y1.cell? ⟨g3, 0, none⟩ = some (.string ks) := nn.blk.cell 0
         clear nn)
      | (clear tk1; with_reducible refine wpSeq_convS (.tmp 7) ks a.key HKS.out ?_ ?_ ?_ ?_
         · rfl
         · rfl
         · rfl
         intro ak nk ck y2 hrk hbk
         have HRK : Hid (Reads y2 (.slice ak nk ck) a.key) := hrk
         have HF2 : Hid (Fr w (.slice ad n c) y2 (.slice ad n c)) := HF1.out.trans (Fr.ofNew hbk _)
         have HO2 : Hid (OwnB y2 base (.slice ad n c) l) := HO1.out.newS hbk
         have HG2 : Hid (Blk y2 g3 [.string ks, .bool true, .slice av nv cv] 62) := HG3.out.1.below hbk HG3.out.1.lt
         clear hrk hbk c0)
      | (clear tk2; go_at_call 97; refine (ctext_fr base _ _ l a.key _ HO2.out HRK.out (Nat.le_trans HB.out HF2.out.size) (by have := HL.out; omega)).mono ?_; rintro e0 y3 ⟨v3, rfl, ho3, hf3⟩
         have HO3 : Hid (OwnB y3 base v3 (l ++ encText a.key)) := ho3
         have HF3 : Hid (Fr w (.slice ad n c) y3 v3) := HF2.out.trans hf3
         have HK3 : Hid (Blk y3 g3 [.string ks, .bool true, .slice av nv cv] 62) := hf3.blk HG2.out (HO2.out.neA HG2.out (by decide))
         have c1 : y3.cell? ⟨g3, 1, none⟩ = some (.bool true) := HK3.out.cell 1
         obtain ⟨a3, n3, c3, hv3⟩ := ho3.reads.form
         subst hv3
         clear ho3 hf3))
    clear c1
    refine wp_region_held_drew (S := fun wx => Blk wx g3 [.string ks, .bool true, .slice av nv cv] 62) (by kernel_rfl) HK3.out.drew ?_
    intro hS
    have HO4 : Hid (OwnB (World.drew y3) base (.slice a3 n3 c3) (l ++ encText a.key)) := HO3.out
    have HF4 : Hid (Fr w (.slice ad n c) (World.drew y3) (.slice a3 n3 c3)) := HF3.out.trans (Fr.ofNew (Below.refl _ _).drew _)
    change wpAnyH _ _ _ _ _ _ _ _ (World.drew y3)
    generalize World.drew y3 = y4 at *
    refine wpAnyH_take (i := 0) (v := .slice a3 n3 c3) rfl (by kernel_rfl) (by kernel_rfl) (by kernel_rfl) (fun _ _ _ h => h) (Or.inl ⟨by rfl, fun wx hx => by simp [go_sem]⟩) hS ?_
    simp only [Act.put, List.getElem_toArray, List.getElem_cons_zero, List.setIfInBounds_toArray, List.set_cons_zero, List.set_cons_succ]
    refine wpAnyH_take (i := 2) (v := .pointer (some ⟨g3, 2, none⟩)) rfl (by kernel_rfl) (by kernel_rfl) (by kernel_rfl) (fun _ _ _ h => h) (Or.inl ⟨by rfl, fun wx hx => by simp [go_sem]⟩) hS ?_
    simp only [Act.put, List.getElem_toArray, List.getElem_cons_succ, List.getElem_cons_zero, List.setIfInBounds_toArray, List.set_cons_zero, List.set_cons_succ]
    refine wpAnyH_take (i := 3) (v := .slice av nv cv) rfl (by kernel_rfl) (by kernel_rfl) (by kernel_rfl) (fun _ _ _ h => h) (Or.inl ⟨by rfl, fun wx hx => by (have hc := hx.cell 2; simp at hc; simp [go_sem, hc])⟩) hS ?_
    simp only [Act.put, List.getElem_toArray, List.getElem_cons_succ, List.getElem_cons_zero, List.setIfInBounds_toArray, List.set_cons_zero, List.set_cons_succ]
    refine wpAnyH_enter 1 (by kernel_rfl) rfl (by rfl) (f := 72) (args := #[.slice a3 n3 c3, .int .u64 ((1 : Nat) : Int)]) (by simp [go_sem]) (cnum_fr base _ _ 1 (by decide) _ HO4.out (Nat.le_trans HB.out HF4.out.size) (by rw [List.length_append]; have h1 := HL.out; have h2 := HEK.out; omega)) ?_
    rintro e y5 ⟨v5, rfl, ho5, hf5⟩
    have hS5 : Blk y5 g3 [.string ks, .bool true, .slice av nv cv] 62 := hf5.blk hS (HO4.out.neA hS (by decide))
    refine ⟨_, rfl, hS5, ?_⟩
    obtain ⟨a5, n5, c5, hv5⟩ := ho5.reads.form
    subst hv5
    have HF5 : Hid (Fr w (.slice ad n c) y5 (.slice a5 n5 c5)) := HF4.out.trans hf5
    have HO5 : Hid (OwnB y5 base (.slice a5 n5 c5) (l ++ encText a.key ++ encNum 1)) := ho5
    clear ho5 hf5 hS
    simp only [Act.put, List.getElem_toArray, List.getElem_cons_succ, List.getElem_cons_zero, List.setIfInBounds_toArray, List.set_cons_zero, List.set_cons_succ]
    refine wpAnyH_enter 4 (by kernel_rfl) rfl (by rfl) (f := 97) (args := #[.slice a5 n5 c5, .slice av nv cv]) (by simp [go_sem]) (ctext_fr base _ _ _ a.data _ HO5.out (HD.out _ _ HF5.out) (Nat.le_trans HB.out HF5.out.size) (by rw [List.length_append, List.length_append, show (encNum 1).length = 1 from by rw [encNum_lt (by decide)]; rfl]; have h1 := HL.out; have h2 := HEK.out; omega)) ?_
    rintro e y6 ⟨v6, rfl, ho6, hf6⟩
    refine ⟨_, rfl, hf6.blk hS5 (HO5.out.neA hS5 (by decide)), ?_⟩
    obtain ⟨a6, n6, c6, hv6⟩ := ho6.reads.form
    subst hv6
    have HF6 : Hid (Fr w (.slice ad n c) y6 (.slice a6 n6 c6)) := HF5.out.trans hf6
    have HO6 : Hid (OwnB y6 base (.slice a6 n6 c6) (l ++ encA a)) := by
      have he := HE.out
      simp only [if_true] at he
      rw [he]
      simp only [List.append_assoc] at ho6 ⊢
      exact ho6
    have hS6 := hf6.blk hS5 (HO5.out.neA hS5 (by decide))
    clear ho6 hf6 hS5
    simp only [Act.put, List.getElem_toArray, List.getElem_cons_succ, List.getElem_cons_zero, List.setIfInBounds_toArray, List.set_cons_zero, List.set_cons_succ]
    refine wpAnyH_take (i := 5) (v := .slice a6 n6 c6) rfl (by kernel_rfl) (by kernel_rfl) (by kernel_rfl) (fun _ _ _ h => h) (Or.inl ⟨by rfl, fun wx hx => by simp [go_sem]⟩) hS6 ?_
    simp only [Act.put, List.getElem_toArray, List.getElem_cons_succ, List.getElem_cons_zero, List.setIfInBounds_toArray, List.set_cons_zero, List.set_cons_succ]
    refine wpAnyH_done (by kernel_rfl) ?_ _
    go_wp2
    go_ret
    exact ⟨_, rfl, HO6.out, HF6.out⟩
theorem encAll_snoc (l : List ActT) (a : ActT) : encAll encA (l ++ [a]) = encAll encA l ++ encA a := by simp [encAll]
theorem batch_take {l : List ActT} {i : Nat} (hi : i < l.length) : encNum l.length ++ encAll encA (l.take (i + 1)) = (encNum l.length ++ encAll encA (l.take i)) ++ encA (l.getD i ⟨[], false, []⟩) := by rw [take_act hi, encAll_snoc, List.append_assoc]
theorem batch_pre (l : List ActT) (i : Nat) : (encNum l.length ++ encAll encA (l.take i)).length ≤ (batchB l).length := by
  have e : encAll encA l = encAll encA (l.take i) ++ encAll encA (l.drop i) := by
    rw [encAll, encAll, encAll, ← List.flatten_append, ← List.map_append, List.take_append_drop]
  unfold batchB encList
  rw [e, List.length_append, List.length_append, List.length_append]
  omega
theorem encA_len (a : ActT) : a.key.length + a.data.length ≤ (encA a).length + (if a.set then 0 else a.data.length) := by
  unfold encA
  split <;> simp only [encText, List.length_append] <;> omega
theorem enc_in : ∀ (l : List ActT) (a : ActT), a ∈ l → (encA a).length ≤ (encAll encA l).length
  | [], _, h => by cases h
  | b :: l, a, h => by
    rw [encAll_cons, List.length_append]
    rcases List.mem_cons.1 h with rfl | h
    · omega
    · have := enc_in l a h
      omega
theorem encA_big {l : List ActT} {a : ActT} (ha : a ∈ l) : (encA a).length ≤ (batchB l).length := by
  unfold batchB encList
  rw [List.length_append]
  have := enc_in l a ha
  omega
/-- acts whose sizes are not too great for bytes to be made of them -/
structure okZ (l : List ActT) : Prop where
  n : l.length ≤ 1000000
  z : (batchB l).length ≤ 4500000000
  d : ∀ a ∈ l, a.data.length ≤ 100000000
set_option maxRecDepth 100000 in
set_option maxHeartbeats 4000000 in
theorem sWithin_any (v : Value) (l : List ActT) (most : Int) (w : World) (hr : ReadsA w v l) (hz : okZ l) : Calls Tryz.prog 46 #[v, .int .i64 most] w fun e w' => ∃ vb, e = .returned (.tuple #[vb, .bool (decide (((batchB l).length : Int) ≤ most))]) ∧ (((batchB l).length : Int) ≤ most → OwnB w' w.heap.size vb (batchB l)) ∧ Below w.heap.size w w' := by
  have HR : Hid (ReadsA w v l) := hr
  have HZ : Hid (okZ l) := hz
  obtain ⟨n, HN⟩ : ∃ n, Hid (n = l.length) := ⟨_, rfl⟩
  obtain ⟨ad, c, hv⟩ := hr.form
  rw [← HN.out] at hv
  subst hv
  have HNB : Hid (n ≤ 1000000) := by rw [HN.out]; exact hz.n
  have f0 : IntKind.u64.wrap (n : Int) = (n : Int) := by rw [IntKind.wrap_u64]; have := HNB.out; omega
  obtain ⟨ok, HOK⟩ : ∃ b, Hid (b = decide (((batchB l).length : Int) ≤ most)) := ⟨_, rfl⟩
  rw [← HOK.out]
  clear hr hz
  go_enter Tryz.func46, Tryz.ntmps46
  have tk0 : Hid True := trivial
  go_wp2_with (first
    | (clear tk0; go_at_call 72; refine (cnum_fr w.heap.size (.slice none 0 0) [] n (by have := HNB.out; omega) _ (OwnB.nil _ _) (Nat.le_refl _) (by simp)).mono ?_; rintro e0 y1 ⟨v1, rfl, ho1, hf1⟩
       have HB0 : Hid (OwnB y1 w.heap.size v1 (encNum l.length ++ encAll encA (l.take 0))) := by
         show OwnB _ _ _ _
         rw [List.nil_append] at ho1
         rw [← HN.out, List.take_zero, show encAll encA [] = [] from rfl, List.append_nil]
         exact ho1
       have HB1 : Hid (Below w.heap.size w y1) := hf1.below (Nat.le_refl _) (fun k hk => by cases hk)
       obtain ⟨a1, n1, c1, hv1⟩ := ho1.reads.form
       subst hv1
       clear ho1 hf1))
  clear f0
  go_loopw [6, 7] (fun bv iv W => ∃ (ab : Option Addr) (nb cb i : Nat), bv = .slice ab nb cb ∧ iv = .int .i64 (i : Int) ∧ i ≤ n ∧ Hid (nb = (encNum l.length ++ encAll encA (l.take i)).length) ∧ Hid (OwnB W w.heap.size (.slice ab nb cb) (encNum l.length ++ encAll encA (l.take i))) ∧ Hid (Below w.heap.size w W)) (fun _ iv _ => n - (intOf iv).toNat)
  case atStart => exact ⟨a1, n1, c1, 0, rfl, rfl, Nat.zero_le _, (by obtain ⟨x, y, h, _⟩ := HB0.out.reads; simp only [Value.slice.injEq] at h; exact h.2.1), HB0, HB1⟩
  case round =>
    clear HB0 HB1
    obtain ⟨ab, nb, cb, i, rfl, rfl, hi, HNb, HBB, HBW⟩ := hrel
    have HPRE : Hid (nb ≤ (batchB l).length) := by rw [HNb.out]; exact batch_pre l i
    by_cases hin : i < n
    case pos =>
      have hlk : (i : Int) < (n : Int) := by omega
      by_cases hm : (nb : Int) ≤ most
      case pos =>
        have f1 : IntKind.i64.wrap ((i : Int) + 1) = (i : Int) + 1 := by rw [IntKind.wrap_i64]; have := HNB.out; omega
        have HIN : Hid (i < n) := hin
        have hil : i < l.length := by rw [← HN.out]; exact hin
        obtain ⟨b, off, vd, rfl, hrg, hrd⟩ := HR.out.at hil
        have hbt := batch_take hil
        obtain ⟨a, HA⟩ : ∃ a, Hid (a = l.getD i ⟨[], false, []⟩) := ⟨_, rfl⟩
        have hmem : a ∈ l := by rw [HA.out, List.getD_eq_getElem?_getD, List.getElem?_eq_getElem hil]; exact List.getElem_mem hil
        rw [← HA.out] at hrg hrd hbt
        obtain ⟨ks, HKS⟩ : ∃ s, Hid (s = strB a.key) := ⟨_, rfl⟩
        obtain ⟨st, HST⟩ : ∃ s, Hid (s = a.set) := ⟨_, rfl⟩
        obtain ⟨av, nv, cv, hvd⟩ := hrd.form
        subst hvd
        have HCE : Hid (actC a (.slice av nv cv) = [.string ks, .bool st, .slice av nv cv]) := by show _ = _; rw [actC, HKS.out, HST.out]
        rw [HCE.out] at hrg
        have HRG : Hid (wr.rangeAt b (off + i * 3) [.string ks, .bool st, .slice av nv cv]) := range_below hrg HBW.out (block_lt_of_cell (hrg 0 _ rfl))
        have HWA : Hid (Calls Tryz.prog 73 #[.slice ab nb cb, .agg [.string ks, .bool st, .slice av nv cv].toArray] wr fun e w' => ∃ v', e = .returned v' ∧ OwnB w' w.heap.size v' (encNum l.length ++ encAll encA (l.take (i + 1))) ∧ Fr wr (.slice ab nb cb) w' v') := by
          have h := sWriteAct_any w.heap.size (.slice ab nb cb) (.slice av nv cv) _ a wr HBB.out HBW.out.size (fun w' v' hf => hrd.below (HBW.out.trans (hf.below HBW.out.size (fun k hk => (HBB.out.ltS k hk).1)))) (by
            have h1 := HPRE.out
            rw [HNb.out] at h1
            have h2 := HZ.out.z
            have h3 := encA_big hmem
            have h4 := encA_len a
            have h5 := HZ.out.d a hmem
            split at h4 <;> omega)
          rw [HCE.out, ← hbt] at h
          exact h
        clear hrg hrd hbt hmem hil
        have tk0 : Hid True := trivial
        have tk1 : Hid True := trivial
        have tk2 : Hid True := trivial
        go_wp2_with (first
          | (clear tk0; with_reducible refine wpSeq_idxA (.tmp 25) (.tmp 26) b off n c i HIN.out ?_ ?_ ?_ ?_ ?_
             · rfl
             · rfl
             · rfl
             · rfl)
          | (clear tk1; with_reducible refine wpSeq_loadW 62 (.tmp 27) b (off + i * 3) [.string ks, .bool st, .slice av nv cv] _ HRG.out Tryz.underlying62 rfl (info_act15 _ _ _) ?_ ?_ ?_ ?_
             · rfl
             · rfl
             · rfl)
          | (clear tk2; go_at_call 73; refine (HWA.out).mono ?_; rintro e0 y2 ⟨v2, rfl, ho2, hf2⟩
             have HO2 : Hid (OwnB y2 w.heap.size v2 (encNum l.length ++ encAll encA (l.take (i + 1)))) := ho2
             have HB2 : Hid (Below w.heap.size w y2) := HBW.out.trans (hf2.below HBW.out.size (fun k hk => (HBB.out.ltS k hk).1))
             obtain ⟨n2, HN2⟩ : ∃ n, Hid (n = (encNum l.length ++ encAll encA (l.take (i + 1))).length) := ⟨_, rfl⟩
             obtain ⟨a2, c2, hv2⟩ : ∃ a c, v2 = .slice a n2 c := by obtain ⟨x, y, h, _⟩ := ho2.reads; exact ⟨x, y, by rw [HN2.out]; exact h⟩
             subst hv2
             clear ho2 hf2))
        go_roundw
        case rel => exact ⟨a2, n2, c2, i + 1, rfl, by simp, by omega, HN2, HO2, HB2⟩
        case measure => simp [intOf]; omega
      case neg =>
        obtain rfl : ok = false := by rw [HOK.out, decide_eq_false]; have := HPRE.out; omega
        have HNO : Hid (¬ (((batchB l).length : Int) ≤ most)) := by have := HPRE.out; show ¬ _; omega
        go_wp2
        refine bodyPost_ret (results_tmp2 rfl _ _ _) rfl ?_
        exact ⟨_, rfl, fun h => absurd h (by have := HNO.out; omega), HBW.out⟩
    case neg =>
      have hlk : ¬ ((i : Int) < (n : Int)) := by omega
      have hall : encNum l.length ++ encAll encA (l.take i) = batchB l := by rw [List.take_of_length_le (by rw [← HN.out]; omega)]; rfl
      rw [hall] at HNb HBB
      have HBF : Hid (OwnB wr w.heap.size (.slice ab nb cb) (batchB l)) := HBB.out
      have HOE : Hid (ok = decide ((nb : Int) ≤ most)) := by rw [HNb.out]; exact HOK.out
      by_cases hm : (nb : Int) ≤ most
      · obtain rfl : ok = true := by rw [HOE.out, decide_eq_true hm]
        go_wp2
        refine bodyPost_ret (results_tmp2 rfl _ _ _) rfl ?_
        exact ⟨_, rfl, fun _ => HBF.out, HBW.out⟩
      · obtain rfl : ok = false := by rw [HOE.out, decide_eq_false hm]
        have HNO : Hid (¬ (((batchB l).length : Int) ≤ most)) := by rw [← HNb.out]; exact hm
        go_wp2
        refine bodyPost_ret (results_tmp2 rfl _ _ _) rfl ?_
        exact ⟨_, rfl, fun h => absurd h (by have := HNO.out; omega), HBW.out⟩
end Go.Proofs.YtopmeedmgjdcgaaGreatDoor
/- The walk of the reference's Check (layer 15). -/
namespace Go.Proofs.YtopmeedmgjdcgaaGreatDoor
open Go.RowKit
set_option maxRecDepth 100000
set_option maxRecDepth 100000 in
set_option maxHeartbeats 4000000 in
theorem oCheck_any (v : Value) (l : List ActT) (w : World) (hr : ReadsA w v l) : Calls Tryz.prog 14 #[v] w fun e w' => e = .returned (.int .i64 (chkL l)) ∧ Below w.heap.size w w' := by
  have HR : Hid (ReadsA w v l) := hr
  obtain ⟨n, HN⟩ : ∃ n, Hid (n = l.length) := ⟨_, rfl⟩
  obtain ⟨ad, c, hv⟩ := hr.form
  rw [← HN.out] at hv
  subst hv
  obtain ⟨X, HX⟩ : ∃ x, Hid (x = chkL l) := ⟨_, rfl⟩
  rw [← HX.out]
  clear hr
  by_cases h4 : 4096 < n
  · have q1 : (4096 : Int) < (n : Int) := by omega
    obtain rfl : X = 1 := by rw [HX.out, chkL, if_neg (fun h => by have := HN.out; omega)]
    go_enter Tryz.func14, Tryz.ntmps14
    go_wp2
    go_ret
    exact ⟨rfl, Below.refl _ _⟩
  have q1 : ¬ ((4096 : Int) < (n : Int)) := by omega
  have H4 : Hid (n ≤ 4096) := by show _ ≤ _; omega
  clear h4
  go_enter Tryz.func14, Tryz.ntmps14
  go_wp2
  clear q1
  go_loopw [3] (fun iv W => ∃ i : Nat, i ≤ n ∧ iv = .int .i64 (i : Int) ∧ Hid (goodF [] (l.take i) = true) ∧ Hid (Below w.heap.size w W)) (fun iv _ => n - (intOf iv).toNat)
  case atStart => exact ⟨0, Nat.zero_le _, rfl, rfl, Below.refl _ _⟩
  case round =>
    obtain ⟨i, hi, rfl, HGF, HBW⟩ := hrel
    by_cases hin : i < n
    case neg =>
      have hlk : ¬ ((i : Int) < (n : Int)) := by omega
      obtain rfl : X = 0 := by
        have h := HGF.out
        rw [List.take_of_length_le (by rw [← HN.out]; omega)] at h
        rw [HX.out, chkL, if_pos ⟨by rw [← HN.out]; exact H4.out, h⟩]
      go_wp2
      go_ret
      exact ⟨rfl, HBW.out⟩
    case pos =>
      have hlk : (i : Int) < (n : Int) := by omega
      have f1 : IntKind.i64.wrap ((i : Int) + 1) = (i : Int) + 1 := by rw [IntKind.wrap_i64]; have := H4.out; omega
      have HIN : Hid (i < n) := hin
      have hil : i < l.length := by rw [← HN.out]; exact hin
      obtain ⟨b, off, vd, rfl, hrg, hrd⟩ := (HR.out.below HBW.out).at hil
      have hst := goodF_step hil HGF.out
      obtain ⟨a, HA⟩ : ∃ a, Hid (a = l.getD i ⟨[], false, []⟩) := ⟨_, rfl⟩
      rw [← HA.out] at hrg hrd hst
      obtain ⟨ks, HKS⟩ : ∃ s, Hid (s = strB a.key) := ⟨_, rfl⟩
      obtain ⟨st, HST⟩ : ∃ s, Hid (s = a.set) := ⟨_, rfl⟩
      obtain ⟨nv, HNV⟩ : ∃ n, Hid (n = a.data.length) := ⟨_, rfl⟩
      obtain ⟨av, cv, hvd⟩ : ∃ x c, vd = .slice x nv c := by obtain ⟨x, c, hv, _⟩ := hrd; exact ⟨x, c, by rw [HNV.out]; exact hv⟩
      subst hvd
      have HRG : Hid (wr.rangeAt b (off + i * 3) [.string ks, .bool st, .slice av nv cv]) := by rw [HKS.out, HST.out]; exact hrg
      obtain ⟨kn, HKN⟩ : ∃ k, Hid (k = a.key.length) := ⟨_, rfl⟩
      have hsz : ks.size = kn := by rw [HKS.out, strB_size, HKN.out]
      obtain ⟨lt, HLT⟩ : ∃ b, Hid (b = ltB (lastK [] (l.take i)) a.key) := ⟨_, rfl⟩
      have HST2 : Hid (goodF [] (l.take (i + 1)) = (lt && (decide (kn ≤ 64) && (if st then decide (nv ≤ 1048576) else decide (nv = 0))))) := by show _ = _; rw [hst, okA_may, mayD, HLT.out, HKN.out, HST.out, HNV.out]
      have HBAD : Hid (goodF [] (l.take (i + 1)) = false → X = 1) := fun h => by rw [HX.out, chkL, if_neg (fun h2 => by rw [goodF_bad h] at h2; cases h2.2)]
      have HK0 : Hid (kn < 1 → lt = false) := fun h => by
        have e : a.key = [] := List.eq_nil_of_length_eq_zero (by rw [← HKN.out]; omega)
        rw [HLT.out, e]
        cases lastK [] (l.take i) <;> rfl
      have HLT0 : Hid (i = 0 → 1 ≤ kn → lt = true) := fun h0 h1 => by
        rw [HLT.out, h0]
        show ltB [] a.key = true
        rw [ltB_nil]
        intro e
        rw [HKN.out, e] at h1
        cases h1
      have HLTP : Hid (0 < i → (Op.bytesLess (strB a.key).toList (strB (l.getD (i - 1) ⟨[], false, []⟩).key).toList || ((strB a.key).toList == (strB (l.getD (i - 1) ⟨[], false, []⟩).key).toList)) = !lt) := fun h0 => by
        have h1 := lastK_step (l := l) (i := i - 1) (by omega)
        rw [show i - 1 + 1 = i by omega] at h1
        rw [leq_str, HLT.out, h1]
      clear hrg hrd hst
      by_cases h1 : kn < 1
      · have q2 : (kn : Int) < 1 := by omega
        obtain rfl : X = 1 := HBAD.out (by
          rw [HST2.out]
          rw [HK0.out h1]; rfl)
        have tk0 : Hid True := trivial
        have tk1 : Hid True := trivial
        have tk2 : Hid True := trivial
        have tk3 : Hid True := trivial
        go_wp2_with (first
          | (clear tk0; with_reducible refine wpSeq_idxA (.tmp 14) (.tmp 15) b off n c i HIN.out ?_ ?_ ?_ ?_ ?_
             · rfl
             · rfl
             · rfl
             · rfl)
          | (clear tk1; with_reducible refine wpSeq_loadW 62 (.tmp 16) b (off + i * 3) [.string ks, .bool st, .slice av nv cv] _ HRG.out Tryz.underlying62 rfl (info_act15 _ _ _) ?_ ?_ ?_ ?_
             · rfl
             · rfl
             · rfl)
          | (clear tk2; with_reducible refine wpSeq_allocA ?_ ?_ ?_
             · rfl
             · rfl
             intro g4 y1 nn
             have HG4 : Hid (Blk y1 g4 zA 62 ∧ wr.heap.size ≤ g4) := ⟨nn.blk, nn.ge⟩
             have HB1 : Hid (Below wr.heap.size wr y1) := nn.below
             clear nn)
          | (clear tk3; with_reducible refine wpSeq_storeRow 62 (.tmp 4) (.tmp 17) g4 zA [.string ks, .bool st, .slice av nv cv] HG4.out.1 rfl (info_act15 _ _ _) (one_act _ _ _ _ _) ?_ ?_ ?_ ?_ ?_
             · rfl
             · rfl
             · rfl
             · rfl
             intro y2 hset
             have HK4 : Hid (Blk y2 g4 [.string ks, .bool st, .slice av nv cv] 62) := hset.blk
             have c0 : y2.cell? ⟨g4, 0, none⟩ = some (.string ks) := hset.blk.cell 0
             have c1 : y2.cell? ⟨g4, 1, none⟩ = some (.bool st) := hset.blk.cell 1
             have c2 : y2.cell? ⟨g4, 2, none⟩ = some (.slice av nv cv) := hset.blk.cell 2
             have HB3 : Hid (Below wr.heap.size wr y2) := HB1.out.trans (hset.only.below HG4.out.2 HB1.out.size)
             have HB2 : Hid (Below w.heap.size w y2) := HBW.out.trans (HB3.out.mono HBW.out.size)
             clear hset))
        go_ret
        exact ⟨rfl, HB2.out⟩
      have q2 : ¬ ((kn : Int) < 1) := by omega
      by_cases h2 : 64 < kn
      · have q3 : (64 : Int) < (kn : Int) := by omega
        obtain rfl : X = 1 := HBAD.out (by
          rw [HST2.out]
          rw [decide_eq_false (by omega)]; simp)
        have tk0 : Hid True := trivial
        have tk1 : Hid True := trivial
        have tk2 : Hid True := trivial
        have tk3 : Hid True := trivial
        go_wp2_with (first
          | (clear tk0; with_reducible refine wpSeq_idxA (.tmp 14) (.tmp 15) b off n c i HIN.out ?_ ?_ ?_ ?_ ?_
             · rfl
             · rfl
             · rfl
             · rfl)
          | (clear tk1; with_reducible refine wpSeq_loadW 62 (.tmp 16) b (off + i * 3) [.string ks, .bool st, .slice av nv cv] _ HRG.out Tryz.underlying62 rfl (info_act15 _ _ _) ?_ ?_ ?_ ?_
             · rfl
             · rfl
             · rfl)
          | (clear tk2; with_reducible refine wpSeq_allocA ?_ ?_ ?_
             · rfl
             · rfl
             intro g4 y1 nn
             have HG4 : Hid (Blk y1 g4 zA 62 ∧ wr.heap.size ≤ g4) := ⟨nn.blk, nn.ge⟩
             have HB1 : Hid (Below wr.heap.size wr y1) := nn.below
             clear nn)
          | (clear tk3; with_reducible refine wpSeq_storeRow 62 (.tmp 4) (.tmp 17) g4 zA [.string ks, .bool st, .slice av nv cv] HG4.out.1 rfl (info_act15 _ _ _) (one_act _ _ _ _ _) ?_ ?_ ?_ ?_ ?_
             · rfl
             · rfl
             · rfl
             · rfl
             intro y2 hset
             have HK4 : Hid (Blk y2 g4 [.string ks, .bool st, .slice av nv cv] 62) := hset.blk
             have c0 : y2.cell? ⟨g4, 0, none⟩ = some (.string ks) := hset.blk.cell 0
             have c1 : y2.cell? ⟨g4, 1, none⟩ = some (.bool st) := hset.blk.cell 1
             have c2 : y2.cell? ⟨g4, 2, none⟩ = some (.slice av nv cv) := hset.blk.cell 2
             have HB3 : Hid (Below wr.heap.size wr y2) := HB1.out.trans (hset.only.below HG4.out.2 HB1.out.size)
             have HB2 : Hid (Below w.heap.size w y2) := HBW.out.trans (HB3.out.mono HBW.out.size)
             clear hset))
        go_ret
        exact ⟨rfl, HB2.out⟩
      have q3 : ¬ ((64 : Int) < (kn : Int)) := by omega
      have HSM : Hid (1 ≤ kn ∧ kn ≤ 64) := ⟨by omega, by omega⟩
      by_cases h3 : st = false ∧ 0 < nv
      · obtain ⟨rfl, h3⟩ := h3
        have q4 : (0 : Int) < (nv : Int) := by omega
        obtain rfl : X = 1 := HBAD.out (by
          rw [HST2.out]
          have hq : ¬ (nv = 0) := by omega
          rw [if_neg Bool.false_ne_true, decide_eq_false hq]; simp)
        have tk0 : Hid True := trivial
        have tk1 : Hid True := trivial
        have tk2 : Hid True := trivial
        have tk3 : Hid True := trivial
        go_wp2_with (first
          | (clear tk0; with_reducible refine wpSeq_idxA (.tmp 14) (.tmp 15) b off n c i HIN.out ?_ ?_ ?_ ?_ ?_
             · rfl
             · rfl
             · rfl
             · rfl)
          | (clear tk1; with_reducible refine wpSeq_loadW 62 (.tmp 16) b (off + i * 3) [.string ks, .bool false, .slice av nv cv] _ HRG.out Tryz.underlying62 rfl (info_act15 _ _ _) ?_ ?_ ?_ ?_
             · rfl
             · rfl
             · rfl)
          | (clear tk2; with_reducible refine wpSeq_allocA ?_ ?_ ?_
             · rfl
             · rfl
             intro g4 y1 nn
             have HG4 : Hid (Blk y1 g4 zA 62 ∧ wr.heap.size ≤ g4) := ⟨nn.blk, nn.ge⟩
             have HB1 : Hid (Below wr.heap.size wr y1) := nn.below
             clear nn)
          | (clear tk3; with_reducible refine wpSeq_storeRow 62 (.tmp 4) (.tmp 17) g4 zA [.string ks, .bool false, .slice av nv cv] HG4.out.1 rfl (info_act15 _ _ _) (one_act _ _ _ _ _) ?_ ?_ ?_ ?_ ?_
             · rfl
             · rfl
             · rfl
             · rfl
             intro y2 hset
             have HK4 : Hid (Blk y2 g4 [.string ks, .bool false, .slice av nv cv] 62) := hset.blk
             have c0 : y2.cell? ⟨g4, 0, none⟩ = some (.string ks) := hset.blk.cell 0
             have c1 : y2.cell? ⟨g4, 1, none⟩ = some (.bool false) := hset.blk.cell 1
             have c2 : y2.cell? ⟨g4, 2, none⟩ = some (.slice av nv cv) := hset.blk.cell 2
             have HB3 : Hid (Below wr.heap.size wr y2) := HB1.out.trans (hset.only.below HG4.out.2 HB1.out.size)
             have HB2 : Hid (Below w.heap.size w y2) := HBW.out.trans (HB3.out.mono HBW.out.size)
             clear hset))
        go_ret
        exact ⟨rfl, HB2.out⟩
      by_cases h5 : 1048576 < nv
      · have q5 : (1048576 : Int) < (nv : Int) := by omega
        cases st with
        | false => exact absurd ⟨rfl, by omega⟩ h3
        | true =>
          obtain rfl : X = 1 := HBAD.out (by
            rw [HST2.out]
            have hq : ¬ (nv ≤ 1048576) := by omega
            rw [if_pos rfl, decide_eq_false hq]; simp)
          have tk0 : Hid True := trivial
          have tk1 : Hid True := trivial
          have tk2 : Hid True := trivial
          have tk3 : Hid True := trivial
          go_wp2_with (first
            | (clear tk0; with_reducible refine wpSeq_idxA (.tmp 14) (.tmp 15) b off n c i HIN.out ?_ ?_ ?_ ?_ ?_
               · rfl
               · rfl
               · rfl
               · rfl)
            | (clear tk1; with_reducible refine wpSeq_loadW 62 (.tmp 16) b (off + i * 3) [.string ks, .bool true, .slice av nv cv] _ HRG.out Tryz.underlying62 rfl (info_act15 _ _ _) ?_ ?_ ?_ ?_
               · rfl
               · rfl
               · rfl)
            | (clear tk2; with_reducible refine wpSeq_allocA ?_ ?_ ?_
               · rfl
               · rfl
               intro g4 y1 nn
               have HG4 : Hid (Blk y1 g4 zA 62 ∧ wr.heap.size ≤ g4) := ⟨nn.blk, nn.ge⟩
               have HB1 : Hid (Below wr.heap.size wr y1) := nn.below
               clear nn)
            | (clear tk3; with_reducible refine wpSeq_storeRow 62 (.tmp 4) (.tmp 17) g4 zA [.string ks, .bool true, .slice av nv cv] HG4.out.1 rfl (info_act15 _ _ _) (one_act _ _ _ _ _) ?_ ?_ ?_ ?_ ?_
               · rfl
               · rfl
               · rfl
               · rfl
               intro y2 hset
               have HK4 : Hid (Blk y2 g4 [.string ks, .bool true, .slice av nv cv] 62) := hset.blk
               have c0 : y2.cell? ⟨g4, 0, none⟩ = some (.string ks) := hset.blk.cell 0
               have c1 : y2.cell? ⟨g4, 1, none⟩ = some (.bool true) := hset.blk.cell 1
               have c2 : y2.cell? ⟨g4, 2, none⟩ = some (.slice av nv cv) := hset.blk.cell 2
               have HB3 : Hid (Below wr.heap.size wr y2) := HB1.out.trans (hset.only.below HG4.out.2 HB1.out.size)
               have HB2 : Hid (Below w.heap.size w y2) := HBW.out.trans (HB3.out.mono HBW.out.size)
               clear hset))
          go_ret
          exact ⟨rfl, HB2.out⟩
      have q5 : ¬ ((1048576 : Int) < (nv : Int)) := by omega
      have HOK : Hid (goodF [] (l.take (i + 1)) = lt) := by
        show _ = _
        rw [HST2.out, decide_eq_true HSM.out.2]
        cases st with
        | false => rw [if_neg Bool.false_ne_true, decide_eq_true (by have : ¬ (0 < nv) := fun h => h3 ⟨rfl, h⟩; omega)]; simp
        | true => rw [if_pos rfl, decide_eq_true (by omega)]; simp
      have q4 : st = false → ¬ ((0 : Int) < (nv : Int)) := fun e h => h3 ⟨e, by omega⟩
      clear h1 h2 h3 h5
      by_cases h0 : i = 0
      · have q6 : ¬ ((0 : Int) < (i : Int)) := by omega
        have HGN : Hid (goodF [] (l.take (i + 1)) = true) := by rw [HOK.out]; exact HLT0.out h0 HSM.out.1
        have HI0 : Hid (i = 0) := h0
        clear h0 q6
        cases st with
        | false =>
          have q7 := q4 rfl
          clear q4
          have tk0 : Hid True := trivial
          have tk1 : Hid True := trivial
          have tk2 : Hid True := trivial
          have tk3 : Hid True := trivial
          go_wp2_with (first
            | (clear tk0; with_reducible refine wpSeq_idxA (.tmp 14) (.tmp 15) b off n c i HIN.out ?_ ?_ ?_ ?_ ?_
               · rfl
               · rfl
               · rfl
               · rfl)
            | (clear tk1; with_reducible refine wpSeq_loadW 62 (.tmp 16) b (off + i * 3) [.string ks, .bool false, .slice av nv cv] _ HRG.out Tryz.underlying62 rfl (info_act15 _ _ _) ?_ ?_ ?_ ?_
               · rfl
               · rfl
               · rfl)
            | (clear tk2; with_reducible refine wpSeq_allocA ?_ ?_ ?_
               · rfl
               · rfl
               intro g4 y1 nn
               have HG4 : Hid (Blk y1 g4 zA 62 ∧ wr.heap.size ≤ g4) := ⟨nn.blk, nn.ge⟩
               have HB1 : Hid (Below wr.heap.size wr y1) := nn.below
               clear nn)
            | (clear tk3; with_reducible refine wpSeq_storeRow 62 (.tmp 4) (.tmp 17) g4 zA [.string ks, .bool false, .slice av nv cv] HG4.out.1 rfl (info_act15 _ _ _) (one_act _ _ _ _ _) ?_ ?_ ?_ ?_ ?_
               · rfl
               · rfl
               · rfl
               · rfl
               intro y2 hset
               have HK4 : Hid (Blk y2 g4 [.string ks, .bool false, .slice av nv cv] 62) := hset.blk
               have c0 : y2.cell? ⟨g4, 0, none⟩ = some (.string ks) := hset.blk.cell 0
               have c1 : y2.cell? ⟨g4, 1, none⟩ = some (.bool false) := hset.blk.cell 1
               have c2 : y2.cell? ⟨g4, 2, none⟩ = some (.slice av nv cv) := hset.blk.cell 2
               have HB3 : Hid (Below wr.heap.size wr y2) := HB1.out.trans (hset.only.below HG4.out.2 HB1.out.size)
               have HB2 : Hid (Below w.heap.size w y2) := HBW.out.trans (HB3.out.mono HBW.out.size)
               clear hset))
          clear c0 c1 c2
          refine wp_region_held_drew (S := fun wx => Below w.heap.size w wx) (by kernel_rfl) HB2.out.drew ?_
          intro hS
          change wpAnyH _ _ _ _ _ _ _ _ (World.drew y2)
          generalize World.drew y2 = y3 at *
          refine wpAnyH_take (i := 0) (v := .int .i64 (i : Int)) rfl (by kernel_rfl) (by kernel_rfl) (by kernel_rfl) (fun _ _ _ h => h) (Or.inl ⟨by rfl, fun wx hx => by simp [go_sem]⟩) hS ?_
          simp only [Act.put, List.getElem_toArray, List.getElem_cons_zero, List.setIfInBounds_toArray, List.set_cons_zero, List.set_cons_succ]
          refine wpAnyH_take (i := 1) (v := .bool false) rfl (by kernel_rfl) (by kernel_rfl) (by kernel_rfl) (fun _ _ _ h => h) (Or.inl ⟨by rfl, fun wx hx => by (simp [go_sem]; exact HI0.out)⟩) hS ?_
          simp only [Act.put, List.getElem_toArray, List.getElem_cons_succ, List.getElem_cons_zero, List.setIfInBounds_toArray, List.set_cons_zero, List.set_cons_succ]
          refine wpAnyH_take (i := 2) (v := .bool false) rfl (by kernel_rfl) (by kernel_rfl) (by kernel_rfl) (fun _ _ _ h => h) (Or.inl ⟨by rfl, fun wx hx => by simp [go_sem]⟩) hS ?_
          simp only [Act.put, List.getElem_toArray, List.getElem_cons_succ, List.getElem_cons_zero, List.setIfInBounds_toArray, List.set_cons_zero, List.set_cons_succ]
          refine wpAnyH_take (i := 3) (v := undef) rfl (by kernel_rfl) (by kernel_rfl) (by kernel_rfl) (fun _ _ _ h => h) (Or.inr ⟨by rfl, rfl⟩) hS ?_
          simp only [Act.put, List.getElem_toArray, List.getElem_cons_succ, List.getElem_cons_zero, List.setIfInBounds_toArray, List.set_cons_zero, List.set_cons_succ]
          refine wpAnyH_take (i := 4) (v := undef) rfl (by kernel_rfl) (by kernel_rfl) (by kernel_rfl) (fun _ _ _ h => h) (Or.inr ⟨by rfl, rfl⟩) hS ?_
          simp only [Act.put, List.getElem_toArray, List.getElem_cons_succ, List.getElem_cons_zero, List.setIfInBounds_toArray, List.set_cons_zero, List.set_cons_succ]
          refine wpAnyH_take (i := 5) (v := undef) rfl (by kernel_rfl) (by kernel_rfl) (by kernel_rfl) (fun _ _ _ h => h) (Or.inr ⟨by rfl, rfl⟩) hS ?_
          simp only [Act.put, List.getElem_toArray, List.getElem_cons_succ, List.getElem_cons_zero, List.setIfInBounds_toArray, List.set_cons_zero, List.set_cons_succ]
          refine wpAnyH_take (i := 6) (v := undef) rfl (by kernel_rfl) (by kernel_rfl) (by kernel_rfl) (fun _ _ _ h => h) (Or.inr ⟨by rfl, rfl⟩) hS ?_
          simp only [Act.put, List.getElem_toArray, List.getElem_cons_succ, List.getElem_cons_zero, List.setIfInBounds_toArray, List.set_cons_zero, List.set_cons_succ]
          refine wpAnyH_take (i := 7) (v := undef) rfl (by kernel_rfl) (by kernel_rfl) (by kernel_rfl) (fun _ _ _ h => h) (Or.inr ⟨by rfl, rfl⟩) hS ?_
          simp only [Act.put, List.getElem_toArray, List.getElem_cons_succ, List.getElem_cons_zero, List.setIfInBounds_toArray, List.set_cons_zero, List.set_cons_succ]
          refine wpAnyH_take (i := 8) (v := undef) rfl (by kernel_rfl) (by kernel_rfl) (by kernel_rfl) (fun _ _ _ h => h) (Or.inr ⟨by rfl, rfl⟩) hS ?_
          simp only [Act.put, List.getElem_toArray, List.getElem_cons_succ, List.getElem_cons_zero, List.setIfInBounds_toArray, List.set_cons_zero, List.set_cons_succ]
          refine wpAnyH_take (i := 9) (v := undef) rfl (by kernel_rfl) (by kernel_rfl) (by kernel_rfl) (fun _ _ _ h => h) (Or.inr ⟨by rfl, rfl⟩) hS ?_
          simp only [Act.put, List.getElem_toArray, List.getElem_cons_succ, List.getElem_cons_zero, List.setIfInBounds_toArray, List.set_cons_zero, List.set_cons_succ]
          refine wpAnyH_take (i := 10) (v := undef) rfl (by kernel_rfl) (by kernel_rfl) (by kernel_rfl) (fun _ _ _ h => h) (Or.inr ⟨by rfl, rfl⟩) hS ?_
          simp only [Act.put, List.getElem_toArray, List.getElem_cons_succ, List.getElem_cons_zero, List.setIfInBounds_toArray, List.set_cons_zero, List.set_cons_succ]
          refine wpAnyH_take (i := 11) (v := undef) rfl (by kernel_rfl) (by kernel_rfl) (by kernel_rfl) (fun _ _ _ h => h) (Or.inr ⟨by rfl, rfl⟩) hS ?_
          simp only [Act.put, List.getElem_toArray, List.getElem_cons_succ, List.getElem_cons_zero, List.setIfInBounds_toArray, List.set_cons_zero, List.set_cons_succ]
          refine wpAnyH_take (i := 12) (v := .bool false) rfl (by kernel_rfl) (by kernel_rfl) (by kernel_rfl) (fun _ _ _ h => h) (Or.inl ⟨by rfl, fun wx hx => by simp [go_sem]⟩) hS ?_
          simp only [Act.put, List.getElem_toArray, List.getElem_cons_succ, List.getElem_cons_zero, List.setIfInBounds_toArray, List.set_cons_zero, List.set_cons_succ]
          refine wpAnyH_done (by kernel_rfl) ?_ _
          go_wp2
          go_roundw
          case rel => exact ⟨i + 1, by omega, by simp, HGN, hS⟩
          case measure => simp [intOf]; omega
        | true =>
          clear q4
          have tk0 : Hid True := trivial
          have tk1 : Hid True := trivial
          have tk2 : Hid True := trivial
          have tk3 : Hid True := trivial
          go_wp2_with (first
            | (clear tk0; with_reducible refine wpSeq_idxA (.tmp 14) (.tmp 15) b off n c i HIN.out ?_ ?_ ?_ ?_ ?_
               · rfl
               · rfl
               · rfl
               · rfl)
            | (clear tk1; with_reducible refine wpSeq_loadW 62 (.tmp 16) b (off + i * 3) [.string ks, .bool true, .slice av nv cv] _ HRG.out Tryz.underlying62 rfl (info_act15 _ _ _) ?_ ?_ ?_ ?_
               · rfl
               · rfl
               · rfl)
            | (clear tk2; with_reducible refine wpSeq_allocA ?_ ?_ ?_
               · rfl
               · rfl
               intro g4 y1 nn
               have HG4 : Hid (Blk y1 g4 zA 62 ∧ wr.heap.size ≤ g4) := ⟨nn.blk, nn.ge⟩
               have HB1 : Hid (Below wr.heap.size wr y1) := nn.below
               clear nn)
            | (clear tk3; with_reducible refine wpSeq_storeRow 62 (.tmp 4) (.tmp 17) g4 zA [.string ks, .bool true, .slice av nv cv] HG4.out.1 rfl (info_act15 _ _ _) (one_act _ _ _ _ _) ?_ ?_ ?_ ?_ ?_
               · rfl
               · rfl
               · rfl
               · rfl
               intro y2 hset
               have HK4 : Hid (Blk y2 g4 [.string ks, .bool true, .slice av nv cv] 62) := hset.blk
               have c0 : y2.cell? ⟨g4, 0, none⟩ = some (.string ks) := hset.blk.cell 0
               have c1 : y2.cell? ⟨g4, 1, none⟩ = some (.bool true) := hset.blk.cell 1
               have c2 : y2.cell? ⟨g4, 2, none⟩ = some (.slice av nv cv) := hset.blk.cell 2
               have HB3 : Hid (Below wr.heap.size wr y2) := HB1.out.trans (hset.only.below HG4.out.2 HB1.out.size)
               have HB2 : Hid (Below w.heap.size w y2) := HBW.out.trans (HB3.out.mono HBW.out.size)
               clear hset))
          clear c0 c1 c2
          refine wp_region_held_drew (S := fun wx => Below w.heap.size w wx) (by kernel_rfl) HB2.out.drew ?_
          intro hS
          change wpAnyH _ _ _ _ _ _ _ _ (World.drew y2)
          generalize World.drew y2 = y3 at *
          refine wpAnyH_take (i := 0) (v := .int .i64 (i : Int)) rfl (by kernel_rfl) (by kernel_rfl) (by kernel_rfl) (fun _ _ _ h => h) (Or.inl ⟨by rfl, fun wx hx => by simp [go_sem]⟩) hS ?_
          simp only [Act.put, List.getElem_toArray, List.getElem_cons_zero, List.setIfInBounds_toArray, List.set_cons_zero, List.set_cons_succ]
          refine wpAnyH_take (i := 1) (v := .bool false) rfl (by kernel_rfl) (by kernel_rfl) (by kernel_rfl) (fun _ _ _ h => h) (Or.inl ⟨by rfl, fun wx hx => by (simp [go_sem]; exact HI0.out)⟩) hS ?_
          simp only [Act.put, List.getElem_toArray, List.getElem_cons_succ, List.getElem_cons_zero, List.setIfInBounds_toArray, List.set_cons_zero, List.set_cons_succ]
          refine wpAnyH_take (i := 2) (v := .bool false) rfl (by kernel_rfl) (by kernel_rfl) (by kernel_rfl) (fun _ _ _ h => h) (Or.inl ⟨by rfl, fun wx hx => by simp [go_sem]⟩) hS ?_
          simp only [Act.put, List.getElem_toArray, List.getElem_cons_succ, List.getElem_cons_zero, List.setIfInBounds_toArray, List.set_cons_zero, List.set_cons_succ]
          refine wpAnyH_take (i := 3) (v := undef) rfl (by kernel_rfl) (by kernel_rfl) (by kernel_rfl) (fun _ _ _ h => h) (Or.inr ⟨by rfl, rfl⟩) hS ?_
          simp only [Act.put, List.getElem_toArray, List.getElem_cons_succ, List.getElem_cons_zero, List.setIfInBounds_toArray, List.set_cons_zero, List.set_cons_succ]
          refine wpAnyH_take (i := 4) (v := undef) rfl (by kernel_rfl) (by kernel_rfl) (by kernel_rfl) (fun _ _ _ h => h) (Or.inr ⟨by rfl, rfl⟩) hS ?_
          simp only [Act.put, List.getElem_toArray, List.getElem_cons_succ, List.getElem_cons_zero, List.setIfInBounds_toArray, List.set_cons_zero, List.set_cons_succ]
          refine wpAnyH_take (i := 5) (v := undef) rfl (by kernel_rfl) (by kernel_rfl) (by kernel_rfl) (fun _ _ _ h => h) (Or.inr ⟨by rfl, rfl⟩) hS ?_
          simp only [Act.put, List.getElem_toArray, List.getElem_cons_succ, List.getElem_cons_zero, List.setIfInBounds_toArray, List.set_cons_zero, List.set_cons_succ]
          refine wpAnyH_take (i := 6) (v := undef) rfl (by kernel_rfl) (by kernel_rfl) (by kernel_rfl) (fun _ _ _ h => h) (Or.inr ⟨by rfl, rfl⟩) hS ?_
          simp only [Act.put, List.getElem_toArray, List.getElem_cons_succ, List.getElem_cons_zero, List.setIfInBounds_toArray, List.set_cons_zero, List.set_cons_succ]
          refine wpAnyH_take (i := 7) (v := undef) rfl (by kernel_rfl) (by kernel_rfl) (by kernel_rfl) (fun _ _ _ h => h) (Or.inr ⟨by rfl, rfl⟩) hS ?_
          simp only [Act.put, List.getElem_toArray, List.getElem_cons_succ, List.getElem_cons_zero, List.setIfInBounds_toArray, List.set_cons_zero, List.set_cons_succ]
          refine wpAnyH_take (i := 8) (v := undef) rfl (by kernel_rfl) (by kernel_rfl) (by kernel_rfl) (fun _ _ _ h => h) (Or.inr ⟨by rfl, rfl⟩) hS ?_
          simp only [Act.put, List.getElem_toArray, List.getElem_cons_succ, List.getElem_cons_zero, List.setIfInBounds_toArray, List.set_cons_zero, List.set_cons_succ]
          refine wpAnyH_take (i := 9) (v := undef) rfl (by kernel_rfl) (by kernel_rfl) (by kernel_rfl) (fun _ _ _ h => h) (Or.inr ⟨by rfl, rfl⟩) hS ?_
          simp only [Act.put, List.getElem_toArray, List.getElem_cons_succ, List.getElem_cons_zero, List.setIfInBounds_toArray, List.set_cons_zero, List.set_cons_succ]
          refine wpAnyH_take (i := 10) (v := undef) rfl (by kernel_rfl) (by kernel_rfl) (by kernel_rfl) (fun _ _ _ h => h) (Or.inr ⟨by rfl, rfl⟩) hS ?_
          simp only [Act.put, List.getElem_toArray, List.getElem_cons_succ, List.getElem_cons_zero, List.setIfInBounds_toArray, List.set_cons_zero, List.set_cons_succ]
          refine wpAnyH_take (i := 11) (v := undef) rfl (by kernel_rfl) (by kernel_rfl) (by kernel_rfl) (fun _ _ _ h => h) (Or.inr ⟨by rfl, rfl⟩) hS ?_
          simp only [Act.put, List.getElem_toArray, List.getElem_cons_succ, List.getElem_cons_zero, List.setIfInBounds_toArray, List.set_cons_zero, List.set_cons_succ]
          refine wpAnyH_take (i := 12) (v := .bool false) rfl (by kernel_rfl) (by kernel_rfl) (by kernel_rfl) (fun _ _ _ h => h) (Or.inl ⟨by rfl, fun wx hx => by simp [go_sem]⟩) hS ?_
          simp only [Act.put, List.getElem_toArray, List.getElem_cons_succ, List.getElem_cons_zero, List.setIfInBounds_toArray, List.set_cons_zero, List.set_cons_succ]
          refine wpAnyH_done (by kernel_rfl) ?_ _
          go_wp2
          go_roundw
          case rel => exact ⟨i + 1, by omega, by simp, HGN, hS⟩
          case measure => simp [intOf]; omega
      · have q6 : (0 : Int) < (i : Int) := by omega
        have hp : i - 1 < l.length := by omega
        obtain ⟨m, HM⟩ : ∃ m, Hid (m = i - 1) := ⟨_, rfl⟩
        have f2 : IntKind.i64.wrap ((i : Int) - 1) = (m : Int) := by rw [IntKind.wrap_i64]; have h1 := HM.out; have h2 := H4.out; omega
        have HMN : Hid (m < n) := by have := HM.out; show _ < _; omega
        obtain ⟨b', off', vd', e', hrg', hrd'⟩ := HR.out.at hp
        simp only [Option.some.injEq, Addr.mk.injEq] at e'
        obtain ⟨rfl, rfl, _⟩ := e'
        rw [← HM.out] at hrg'
        have hlp := HLTP.out (by omega)
        rw [← HM.out, ← HKS.out] at hlp
        obtain ⟨ps, HPS⟩ : ∃ s, Hid (s = strB (l.getD m ⟨[], false, []⟩).key) := ⟨_, rfl⟩
        rw [← HPS.out] at hlp
        have HPC : Hid (∀ W, Below w.heap.size w W → W.cell? ⟨b, off + m * 3, none⟩ = some (.string ps)) := fun W hW => by
          have h := range_below hrg' hW (block_lt_of_cell (hrg' 0 _ rfl)) 0 (.string (strB (l.getD m ⟨[], false, []⟩).key)) rfl
          rw [HPS.out]
          exact h
        have HLE : Hid ((Op.bytesLess ks.toList ps.toList || (ks.toList == ps.toList)) = !lt) := hlp
        have HIP : Hid (0 < i) := by show 0 < i; omega
        clear hp hrg' hrd' hlp h0 q6
        cases st with
        | false =>
          have q7 := q4 rfl
          clear q4
          have tk0 : Hid True := trivial
          have tk1 : Hid True := trivial
          have tk2 : Hid True := trivial
          have tk3 : Hid True := trivial
          go_wp2_with (first
            | (clear tk0; with_reducible refine wpSeq_idxA (.tmp 14) (.tmp 15) b off n c i HIN.out ?_ ?_ ?_ ?_ ?_
               · rfl
               · rfl
               · rfl
               · rfl)
            | (clear tk1; with_reducible refine wpSeq_loadW 62 (.tmp 16) b (off + i * 3) [.string ks, .bool false, .slice av nv cv] _ HRG.out Tryz.underlying62 rfl (info_act15 _ _ _) ?_ ?_ ?_ ?_
               · rfl
               · rfl
               · rfl)
            | (clear tk2; with_reducible refine wpSeq_allocA ?_ ?_ ?_
               · rfl
               · rfl
               intro g4 y1 nn
               have HG4 : Hid (Blk y1 g4 zA 62 ∧ wr.heap.size ≤ g4) := ⟨nn.blk, nn.ge⟩
               have HB1 : Hid (Below wr.heap.size wr y1) := nn.below
               clear nn)
            | (clear tk3; with_reducible refine wpSeq_storeRow 62 (.tmp 4) (.tmp 17) g4 zA [.string ks, .bool false, .slice av nv cv] HG4.out.1 rfl (info_act15 _ _ _) (one_act _ _ _ _ _) ?_ ?_ ?_ ?_ ?_
               · rfl
               · rfl
               · rfl
               · rfl
               intro y2 hset
               have HK4 : Hid (Blk y2 g4 [.string ks, .bool false, .slice av nv cv] 62) := hset.blk
               have c0 : y2.cell? ⟨g4, 0, none⟩ = some (.string ks) := hset.blk.cell 0
               have c1 : y2.cell? ⟨g4, 1, none⟩ = some (.bool false) := hset.blk.cell 1
               have c2 : y2.cell? ⟨g4, 2, none⟩ = some (.slice av nv cv) := hset.blk.cell 2
               have HB3 : Hid (Below wr.heap.size wr y2) := HB1.out.trans (hset.only.below HG4.out.2 HB1.out.size)
               have HB2 : Hid (Below w.heap.size w y2) := HBW.out.trans (HB3.out.mono HBW.out.size)
               clear hset))
          clear c0 c1 c2
          refine wp_region_held_drew (S := fun wx => Below w.heap.size w wx ∧ Blk wx g4 [.string ks, .bool false, .slice av nv cv] 62) (by kernel_rfl) ⟨HB2.out.drew, HK4.out.drew⟩ ?_
          intro hS
          change wpAnyH _ _ _ _ _ _ _ _ (World.drew y2)
          generalize World.drew y2 = y3 at *
          refine wpAnyH_take (i := 0) (v := .int .i64 (i : Int)) rfl (by kernel_rfl) (by kernel_rfl) (by kernel_rfl) (fun _ _ _ h => h) (Or.inl ⟨by rfl, fun wx hx => by simp [go_sem]⟩) hS ?_
          simp only [Act.put, List.getElem_toArray, List.getElem_cons_zero, List.setIfInBounds_toArray, List.set_cons_zero, List.set_cons_succ]
          refine wpAnyH_take (i := 1) (v := .bool true) rfl (by kernel_rfl) (by kernel_rfl) (by kernel_rfl) (fun _ _ _ h => h) (Or.inl ⟨by rfl, fun wx hx => by (simp [go_sem]; exact HIP.out)⟩) hS ?_
          simp only [Act.put, List.getElem_toArray, List.getElem_cons_succ, List.getElem_cons_zero, List.setIfInBounds_toArray, List.set_cons_zero, List.set_cons_succ]
          refine wpAnyH_take (i := 2) (v := .bool true) rfl (by kernel_rfl) (by kernel_rfl) (by kernel_rfl) (fun _ _ _ h => h) (Or.inl ⟨by rfl, fun wx hx => by simp [go_sem]⟩) hS ?_
          simp only [Act.put, List.getElem_toArray, List.getElem_cons_succ, List.getElem_cons_zero, List.setIfInBounds_toArray, List.set_cons_zero, List.set_cons_succ]
          refine wpAnyH_take (i := 3) (v := .pointer (some ⟨g4, 0, none⟩)) rfl (by kernel_rfl) (by kernel_rfl) (by kernel_rfl) (fun _ _ _ h => h) (Or.inl ⟨by rfl, fun wx hx => by simp [go_sem]⟩) hS ?_
          simp only [Act.put, List.getElem_toArray, List.getElem_cons_succ, List.getElem_cons_zero, List.setIfInBounds_toArray, List.set_cons_zero, List.set_cons_succ]
          refine wpAnyH_take (i := 4) (v := .string ks) rfl (by kernel_rfl) (by kernel_rfl) (by kernel_rfl) (fun _ _ _ h => h) (Or.inl ⟨by rfl, fun wx hx => by (have hc := hx.2.cell 0; simp at hc; simp [go_sem, hc])⟩) hS ?_
          simp only [Act.put, List.getElem_toArray, List.getElem_cons_succ, List.getElem_cons_zero, List.setIfInBounds_toArray, List.set_cons_zero, List.set_cons_succ]
          refine wpAnyH_take (i := 5) (v := .slice (some ⟨b, off, none⟩) n c) rfl (by kernel_rfl) (by kernel_rfl) (by kernel_rfl) (fun _ _ _ h => h) (Or.inl ⟨by rfl, fun wx hx => by simp [go_sem]⟩) hS ?_
          simp only [Act.put, List.getElem_toArray, List.getElem_cons_succ, List.getElem_cons_zero, List.setIfInBounds_toArray, List.set_cons_zero, List.set_cons_succ]
          refine wpAnyH_take (i := 6) (v := .int .i64 (i : Int)) rfl (by kernel_rfl) (by kernel_rfl) (by kernel_rfl) (fun _ _ _ h => h) (Or.inl ⟨by rfl, fun wx hx => by simp [go_sem]⟩) hS ?_
          simp only [Act.put, List.getElem_toArray, List.getElem_cons_succ, List.getElem_cons_zero, List.setIfInBounds_toArray, List.set_cons_zero, List.set_cons_succ]
          refine wpAnyH_take (i := 7) (v := .int .i64 (m : Int)) rfl (by kernel_rfl) (by kernel_rfl) (by kernel_rfl) (fun _ _ _ h => h) (Or.inl ⟨by rfl, fun wx hx => by simp [go_sem, f2]⟩) hS ?_
          simp only [Act.put, List.getElem_toArray, List.getElem_cons_succ, List.getElem_cons_zero, List.setIfInBounds_toArray, List.set_cons_zero, List.set_cons_succ]
          refine wpAnyH_take (i := 8) (v := .pointer (some ⟨b, off + m * 3, none⟩)) rfl (by kernel_rfl) (by kernel_rfl) (by kernel_rfl) (fun _ _ _ h => h) (Or.inl ⟨by rfl, fun wx hx => by exact idxA b off n c m HMN.out _ _ _ _ rfl rfl rfl _⟩) hS ?_
          simp only [Act.put, List.getElem_toArray, List.getElem_cons_succ, List.getElem_cons_zero, List.setIfInBounds_toArray, List.set_cons_zero, List.set_cons_succ]
          refine wpAnyH_take (i := 9) (v := .pointer (some ⟨b, off + m * 3, none⟩)) rfl (by kernel_rfl) (by kernel_rfl) (by kernel_rfl) (fun _ _ _ h => h) (Or.inl ⟨by rfl, fun wx hx => by simp [go_sem]⟩) hS ?_
          simp only [Act.put, List.getElem_toArray, List.getElem_cons_succ, List.getElem_cons_zero, List.setIfInBounds_toArray, List.set_cons_zero, List.set_cons_succ]
          refine wpAnyH_take (i := 10) (v := .string ps) rfl (by kernel_rfl) (by kernel_rfl) (by kernel_rfl) (fun _ _ _ h => h) (Or.inl ⟨by rfl, fun wx hx => by (have hc := HPC.out wx hx.1; simp [go_sem, hc])⟩) hS ?_
          simp only [Act.put, List.getElem_toArray, List.getElem_cons_succ, List.getElem_cons_zero, List.setIfInBounds_toArray, List.set_cons_zero, List.set_cons_succ]
          refine wpAnyH_take (i := 11) (v := .bool (!lt)) rfl (by kernel_rfl) (by kernel_rfl) (by kernel_rfl) (fun _ _ _ h => h) (Or.inl ⟨by rfl, fun wx hx => by exact run_strOp .leq ks ps (!lt) HLE.out (Or.inr (Or.inl rfl)) _ _ _ _ rfl rfl rfl _⟩) hS ?_
          simp only [Act.put, List.getElem_toArray, List.getElem_cons_succ, List.getElem_cons_zero, List.setIfInBounds_toArray, List.set_cons_zero, List.set_cons_succ]
          refine wpAnyH_take (i := 12) (v := .bool (!lt)) rfl (by kernel_rfl) (by kernel_rfl) (by kernel_rfl) (fun _ _ _ h => h) (Or.inl ⟨by rfl, fun wx hx => by simp [go_sem]⟩) hS ?_
          simp only [Act.put, List.getElem_toArray, List.getElem_cons_succ, List.getElem_cons_zero, List.setIfInBounds_toArray, List.set_cons_zero, List.set_cons_succ]
          refine wpAnyH_done (by kernel_rfl) ?_ _
          cases lt with
          | true =>
            rw [Bool.not_true]
            go_wp2
            go_roundw
            case rel => exact ⟨i + 1, by omega, by simp, HOK, hS.1⟩
            case measure => simp [intOf]; omega
          | false =>
            obtain rfl : X = 1 := HBAD.out HOK.out
            rw [Bool.not_false]
            go_wp2
            go_ret
            exact ⟨rfl, hS.1⟩
        | true =>
          clear q4
          have tk0 : Hid True := trivial
          have tk1 : Hid True := trivial
          have tk2 : Hid True := trivial
          have tk3 : Hid True := trivial
          go_wp2_with (first
            | (clear tk0; with_reducible refine wpSeq_idxA (.tmp 14) (.tmp 15) b off n c i HIN.out ?_ ?_ ?_ ?_ ?_
               · rfl
               · rfl
               · rfl
               · rfl)
            | (clear tk1; with_reducible refine wpSeq_loadW 62 (.tmp 16) b (off + i * 3) [.string ks, .bool true, .slice av nv cv] _ HRG.out Tryz.underlying62 rfl (info_act15 _ _ _) ?_ ?_ ?_ ?_
               · rfl
               · rfl
               · rfl)
            | (clear tk2; with_reducible refine wpSeq_allocA ?_ ?_ ?_
               · rfl
               · rfl
               intro g4 y1 nn
               have HG4 : Hid (Blk y1 g4 zA 62 ∧ wr.heap.size ≤ g4) := ⟨nn.blk, nn.ge⟩
               have HB1 : Hid (Below wr.heap.size wr y1) := nn.below
               clear nn)
            | (clear tk3; with_reducible refine wpSeq_storeRow 62 (.tmp 4) (.tmp 17) g4 zA [.string ks, .bool true, .slice av nv cv] HG4.out.1 rfl (info_act15 _ _ _) (one_act _ _ _ _ _) ?_ ?_ ?_ ?_ ?_
               · rfl
               · rfl
               · rfl
               · rfl
               intro y2 hset
               have HK4 : Hid (Blk y2 g4 [.string ks, .bool true, .slice av nv cv] 62) := hset.blk
               have c0 : y2.cell? ⟨g4, 0, none⟩ = some (.string ks) := hset.blk.cell 0
               have c1 : y2.cell? ⟨g4, 1, none⟩ = some (.bool true) := hset.blk.cell 1
               have c2 : y2.cell? ⟨g4, 2, none⟩ = some (.slice av nv cv) := hset.blk.cell 2
               have HB3 : Hid (Below wr.heap.size wr y2) := HB1.out.trans (hset.only.below HG4.out.2 HB1.out.size)
               have HB2 : Hid (Below w.heap.size w y2) := HBW.out.trans (HB3.out.mono HBW.out.size)
               clear hset))
          clear c0 c1 c2
          refine wp_region_held_drew (S := fun wx => Below w.heap.size w wx ∧ Blk wx g4 [.string ks, .bool true, .slice av nv cv] 62) (by kernel_rfl) ⟨HB2.out.drew, HK4.out.drew⟩ ?_
          intro hS
          change wpAnyH _ _ _ _ _ _ _ _ (World.drew y2)
          generalize World.drew y2 = y3 at *
          refine wpAnyH_take (i := 0) (v := .int .i64 (i : Int)) rfl (by kernel_rfl) (by kernel_rfl) (by kernel_rfl) (fun _ _ _ h => h) (Or.inl ⟨by rfl, fun wx hx => by simp [go_sem]⟩) hS ?_
          simp only [Act.put, List.getElem_toArray, List.getElem_cons_zero, List.setIfInBounds_toArray, List.set_cons_zero, List.set_cons_succ]
          refine wpAnyH_take (i := 1) (v := .bool true) rfl (by kernel_rfl) (by kernel_rfl) (by kernel_rfl) (fun _ _ _ h => h) (Or.inl ⟨by rfl, fun wx hx => by (simp [go_sem]; exact HIP.out)⟩) hS ?_
          simp only [Act.put, List.getElem_toArray, List.getElem_cons_succ, List.getElem_cons_zero, List.setIfInBounds_toArray, List.set_cons_zero, List.set_cons_succ]
          refine wpAnyH_take (i := 2) (v := .bool true) rfl (by kernel_rfl) (by kernel_rfl) (by kernel_rfl) (fun _ _ _ h => h) (Or.inl ⟨by rfl, fun wx hx => by simp [go_sem]⟩) hS ?_
          simp only [Act.put, List.getElem_toArray, List.getElem_cons_succ, List.getElem_cons_zero, List.setIfInBounds_toArray, List.set_cons_zero, List.set_cons_succ]
          refine wpAnyH_take (i := 3) (v := .pointer (some ⟨g4, 0, none⟩)) rfl (by kernel_rfl) (by kernel_rfl) (by kernel_rfl) (fun _ _ _ h => h) (Or.inl ⟨by rfl, fun wx hx => by simp [go_sem]⟩) hS ?_
          simp only [Act.put, List.getElem_toArray, List.getElem_cons_succ, List.getElem_cons_zero, List.setIfInBounds_toArray, List.set_cons_zero, List.set_cons_succ]
          refine wpAnyH_take (i := 4) (v := .string ks) rfl (by kernel_rfl) (by kernel_rfl) (by kernel_rfl) (fun _ _ _ h => h) (Or.inl ⟨by rfl, fun wx hx => by (have hc := hx.2.cell 0; simp at hc; simp [go_sem, hc])⟩) hS ?_
          simp only [Act.put, List.getElem_toArray, List.getElem_cons_succ, List.getElem_cons_zero, List.setIfInBounds_toArray, List.set_cons_zero, List.set_cons_succ]
          refine wpAnyH_take (i := 5) (v := .slice (some ⟨b, off, none⟩) n c) rfl (by kernel_rfl) (by kernel_rfl) (by kernel_rfl) (fun _ _ _ h => h) (Or.inl ⟨by rfl, fun wx hx => by simp [go_sem]⟩) hS ?_
          simp only [Act.put, List.getElem_toArray, List.getElem_cons_succ, List.getElem_cons_zero, List.setIfInBounds_toArray, List.set_cons_zero, List.set_cons_succ]
          refine wpAnyH_take (i := 6) (v := .int .i64 (i : Int)) rfl (by kernel_rfl) (by kernel_rfl) (by kernel_rfl) (fun _ _ _ h => h) (Or.inl ⟨by rfl, fun wx hx => by simp [go_sem]⟩) hS ?_
          simp only [Act.put, List.getElem_toArray, List.getElem_cons_succ, List.getElem_cons_zero, List.setIfInBounds_toArray, List.set_cons_zero, List.set_cons_succ]
          refine wpAnyH_take (i := 7) (v := .int .i64 (m : Int)) rfl (by kernel_rfl) (by kernel_rfl) (by kernel_rfl) (fun _ _ _ h => h) (Or.inl ⟨by rfl, fun wx hx => by simp [go_sem, f2]⟩) hS ?_
          simp only [Act.put, List.getElem_toArray, List.getElem_cons_succ, List.getElem_cons_zero, List.setIfInBounds_toArray, List.set_cons_zero, List.set_cons_succ]
          refine wpAnyH_take (i := 8) (v := .pointer (some ⟨b, off + m * 3, none⟩)) rfl (by kernel_rfl) (by kernel_rfl) (by kernel_rfl) (fun _ _ _ h => h) (Or.inl ⟨by rfl, fun wx hx => by exact idxA b off n c m HMN.out _ _ _ _ rfl rfl rfl _⟩) hS ?_
          simp only [Act.put, List.getElem_toArray, List.getElem_cons_succ, List.getElem_cons_zero, List.setIfInBounds_toArray, List.set_cons_zero, List.set_cons_succ]
          refine wpAnyH_take (i := 9) (v := .pointer (some ⟨b, off + m * 3, none⟩)) rfl (by kernel_rfl) (by kernel_rfl) (by kernel_rfl) (fun _ _ _ h => h) (Or.inl ⟨by rfl, fun wx hx => by simp [go_sem]⟩) hS ?_
          simp only [Act.put, List.getElem_toArray, List.getElem_cons_succ, List.getElem_cons_zero, List.setIfInBounds_toArray, List.set_cons_zero, List.set_cons_succ]
          refine wpAnyH_take (i := 10) (v := .string ps) rfl (by kernel_rfl) (by kernel_rfl) (by kernel_rfl) (fun _ _ _ h => h) (Or.inl ⟨by rfl, fun wx hx => by (have hc := HPC.out wx hx.1; simp [go_sem, hc])⟩) hS ?_
          simp only [Act.put, List.getElem_toArray, List.getElem_cons_succ, List.getElem_cons_zero, List.setIfInBounds_toArray, List.set_cons_zero, List.set_cons_succ]
          refine wpAnyH_take (i := 11) (v := .bool (!lt)) rfl (by kernel_rfl) (by kernel_rfl) (by kernel_rfl) (fun _ _ _ h => h) (Or.inl ⟨by rfl, fun wx hx => by exact run_strOp .leq ks ps (!lt) HLE.out (Or.inr (Or.inl rfl)) _ _ _ _ rfl rfl rfl _⟩) hS ?_
          simp only [Act.put, List.getElem_toArray, List.getElem_cons_succ, List.getElem_cons_zero, List.setIfInBounds_toArray, List.set_cons_zero, List.set_cons_succ]
          refine wpAnyH_take (i := 12) (v := .bool (!lt)) rfl (by kernel_rfl) (by kernel_rfl) (by kernel_rfl) (fun _ _ _ h => h) (Or.inl ⟨by rfl, fun wx hx => by simp [go_sem]⟩) hS ?_
          simp only [Act.put, List.getElem_toArray, List.getElem_cons_succ, List.getElem_cons_zero, List.setIfInBounds_toArray, List.set_cons_zero, List.set_cons_succ]
          refine wpAnyH_done (by kernel_rfl) ?_ _
          cases lt with
          | true =>
            rw [Bool.not_true]
            go_wp2
            go_roundw
            case rel => exact ⟨i + 1, by omega, by simp, HOK, hS.1⟩
            case measure => simp [intOf]; omega
          | false =>
            obtain rfl : X = 1 := HBAD.out HOK.out
            rw [Bool.not_false]
            go_wp2
            go_ret
            exact ⟨rfl, hS.1⟩
end Go.Proofs.YtopmeedmgjdcgaaGreatDoor
/- The walks of the reference's Batch and of the statements' light (layer 15). -/
namespace Go.Proofs.YtopmeedmgjdcgaaGreatDoor
open Go.RowKit
set_option maxRecDepth 100000
end Go.Proofs.YtopmeedmgjdcgaaGreatDoor
/- The walks of the reader's Fail and take: bytes from their front on; what is thrown. -/
namespace Go.Proofs.YtopmeedmgjdcgaaGreatDoor
open Go.RowKit
set_option maxRecDepth 100000
/-- the reader at gr, of the input at gi, which still has the bytes l -/
structure Rd (w : World) (gr gi : Nat) (v : Value) (l : List (BitVec 8)) : Prop where
  rd : Blk w gr [.pointer (some ⟨gi, 0, none⟩)] 122
  inp : Blk w gi [v, .bool true, .bool false] 120
  byt : Reads w v l
/-- what a reader throws -/
def thrown (gi : Nat) : Ending := .panicked [{ v := .iface 118 (.pointer (some ⟨gi, 0, none⟩)), recovered := false }]
structure Threw (gi : Nat) (w : World) (e : Ending) (w' : World) : Prop where
  eq : e = thrown gi
  bad : ∃ v, Blk w' gi [v, .bool true, .bool true] 120 ∧ ∃ ad n c, v = .slice ad n c
  onl : Only gi w w'
theorem Rd.ne {w : World} {gr gi : Nat} {v : Value} {l : List (BitVec 8)} (h : Rd w gr gi v l) : gr ≠ gi := by
  intro he
  have h1 := h.rd
  have h2 := h.inp
  subst he
  unfold Blk at h1 h2
  rw [h1] at h2
  simp at h2
theorem Rd.slice {w : World} {gr gi : Nat} {v : Value} {l : List (BitVec 8)} (h : Rd w gr gi v l) : ∃ ad c, v = .slice ad l.length c := by
  obtain ⟨ad, c, hv, _⟩ := h.byt
  exact ⟨ad, c, hv⟩
/-- no byte lies in a block of a slice and two bools -/
theorem Blk.apart {w : World} {gi : Nat} {u : Value} {x y : Bool} {t : TypeId} {l : List (BitVec 8)} (hb : Blk w gi [u, .bool x, .bool y] t) (hu : ∃ ad n c, u = .slice ad n c) : ∀ b off, 0 < l.length → (∀ j, j < l.length → w.cell? ⟨b, off + j, none⟩ = some (.int .u8 ((l.getD j 0).toNat : Int))) → b ≠ gi := by
  intro b off hp hc he
  subst he
  have h0 := hc 0 hp
  rw [hb.cell] at h0
  obtain ⟨ad, n, c, rfl⟩ := hu
  match off, h0 with
  | 0, h0 => simp at h0
  | 1, h0 => simp at h0
  | 2, h0 => simp at h0
  | k + 3, h0 => simp at h0
theorem Reads.only {w w' : World} {gi : Nat} {v u : Value} {x y : Bool} {t : TypeId} {l : List (BitVec 8)} (h : Reads w v l) (hb : Blk w gi [u, .bool x, .bool y] t) (hu : ∃ ad n c, u = .slice ad n c) (ho : Only gi w w') : Reads w' v l := by
  have ha := hb.apart (l := l) hu
  obtain ⟨ad, cap, rfl, hc, hn, hx⟩ := h
  refine ⟨ad, cap, rfl, hc, hn, fun hp => ?_⟩
  obtain ⟨b, off, h1, h2⟩ := hx hp
  exact ⟨b, off, h1, fun j hj => ho.cell (p := ⟨b, off + j, Option.none⟩) (ha b off hp h2) (h2 j hj)⟩
theorem Reads.take {w : World} {ad : Option Addr} {n c : Nat} {l : List (BitVec 8)} (h : Reads w (.slice ad n c) l) (k : Nat) (hk : k ≤ l.length) : Reads w (.slice ad k c) (l.take k) := by
  obtain ⟨ad', cap, hv, hc, hn, hx⟩ := h
  simp only [Value.slice.injEq] at hv
  obtain ⟨rfl, rfl, rfl⟩ := hv
  have hl : (l.take k).length = k := by rw [List.length_take]; omega
  refine ⟨ad, c, by rw [hl], by omega, hn, fun hp => ?_⟩
  rw [hl] at hp ⊢
  obtain ⟨b, off, h1, h2⟩ := hx (by omega)
  refine ⟨b, off, h1, fun j hj => ?_⟩
  rw [h2 j (by omega)]
  simp [hj]
theorem Reads.drop {w : World} {ad : Addr} {n c : Nat} {l : List (BitVec 8)} (h : Reads w (.slice (Option.some ad) n c) l) (k : Nat) (hk : k ≤ l.length) (o : Addr) (ho : k < l.length → o = ad.add k) : Reads w (.slice (Option.some o) (n - k) (c - k)) (l.drop k) := by
  obtain ⟨ad', cap, hv, hc, hn, hx⟩ := h
  simp only [Value.slice.injEq] at hv
  obtain ⟨rfl, rfl, rfl⟩ := hv
  have hl : (l.drop k).length = l.length - k := by rw [List.length_drop]
  refine ⟨_, c - k, by rw [hl], by omega, (fun h => by cases h), fun hp => ?_⟩
  rw [hl] at hp ⊢
  obtain ⟨b', off', h1, h2⟩ := hx (by omega)
  simp only [Option.some.injEq] at h1
  subst h1
  have := ho (by omega)
  rw [Addr.add_mid] at this
  subst this
  refine ⟨b', _, rfl, fun j hj => ?_⟩
  rw [Nat.add_assoc, h2 (k + j) (by omega)]
  simp
theorem Rd.next {w : World} {gr gi : Nat} {v : Value} {l : List (BitVec 8)} (h : Rd w gr gi v l) (v2 : Value) (l2 : List (BitVec 8)) (h2 : Reads w v2 l2) : Rd (w.setCell ⟨gi, 0, none⟩ v2) gr gi v2 l2 := by
  obtain ⟨ad, c, hv⟩ := h.slice
  exact ⟨h.rd.other _ _ (by exact h.ne), h.inp.set 0 v2, h2.only h.inp ⟨ad, _, c, hv⟩ ((Only.refl _ _).setCell _ _)⟩
set_option maxHeartbeats 400000 in
theorem cfail_any (gr gi : Nat) (v : Value) (l : List (BitVec 8)) (w : World) (h : Rd w gr gi v l) :
    Calls Tryz.prog 42 #[.pointer (some ⟨gr, 0, none⟩)] w fun e w' => e = thrown gi ∧ w' = w.setCell ⟨gi, 2, none⟩ (.bool true) := by
  have c1 : w.cell? ⟨gr, 0, none⟩ = some (.pointer (some ⟨gi, 0, none⟩)) := h.rd.cell 0
  have c2 : w.cell? ⟨gi, 1, none⟩ = some (.bool true) := h.inp.cell 1
  have c3 : w.cell? ⟨gi, 2, none⟩ = some (.bool false) := h.inp.cell 2
  have f3 : w.frozen? ⟨gi, 2, none⟩ = false := h.inp.frozen 2
  have hne := h.ne
  unfold thrown
  clear h
  go_enter Tryz.func42, Tryz.ntmps42
  go_wp2
  exact ⟨rfl, rfl, rfl⟩
theorem Rd.threw {w : World} {gr gi : Nat} {v : Value} {l : List (BitVec 8)} (h : Rd w gr gi v l) : Threw gi w (thrown gi) (w.setCell ⟨gi, 2, none⟩ (.bool true)) := by
  obtain ⟨ad, c, hv⟩ := h.slice
  exact ⟨rfl, ⟨v, h.inp.set 2 (.bool true), ad, _, c, hv⟩, (Only.refl _ _).setCell _ _⟩
theorem Threw.after {gi : Nat} {w w1 w2 : World} {e : Ending} (ho : Only gi w w1) (h : Threw gi w1 e w2) : Threw gi w e w2 := ⟨h.eq, h.bad, ho.trans h.onl⟩
/-- what a call of the reader's does: it hands out what was there, or throws -/
def RdDoes {α : Type} (gr gi : Nat) (v0 : Value) (w : World) (o : Option (α × List (BitVec 8))) (R : α → World → Value → Prop) (e : Ending) (w' : World) : Prop :=
  (∃ a r v v', o = some (a, r) ∧ e = .returned v ∧ R a w' v ∧ Rd w' gr gi v' r ∧ Only gi w w' ∧ v'.ownBlock = v0.ownBlock) ∨ (o = none ∧ Threw gi w e w')
def cut (n : Nat) (l : List (BitVec 8)) : Option (List (BitVec 8) × List (BitVec 8)) := if n ≤ l.length then some (l.take n, l.drop n) else none
set_option maxHeartbeats 400000 in
theorem take_any (gr gi n : Nat) (v : Value) (l : List (BitVec 8)) (w : World) (h : Rd w gr gi v l) (hn : n < 4611686018427387904) :
    Calls Tryz.prog 96 #[.pointer (some ⟨gr, 0, none⟩), .int .i64 (n : Int)] w fun e w' => RdDoes gr gi v w (cut n l) (fun a w' v => Reads w' v a) e w' := by
  have HR : Hid (Rd w gr gi v l) := h
  have c1 : w.cell? ⟨gr, 0, none⟩ = some (.pointer (some ⟨gi, 0, none⟩)) := h.rd.cell 0
  have c0 : w.cell? ⟨gi, 0, none⟩ = some v := h.inp.cell 0
  have c3 : w.cell? ⟨gi, 2, none⟩ = some (.bool false) := h.inp.cell 2
  have f0 : w.frozen? ⟨gi, 0, none⟩ = false := h.inp.frozen 0
  have hne := h.ne
  obtain ⟨ad, cap, rfl, hcap, hnn, hx⟩ := id h.byt
  obtain ⟨m, HM⟩ : ∃ m, Hid (m = l.length) := ⟨_, rfl⟩
  rw [← HM.out] at HR c0 hcap
  rw [← HM.out]
  clear hx h
  by_cases hlt : n ≤ m
  · have hng : ¬ ((m : Int) < (n : Int)) := by omega
    have HC : Hid (cut n l = some (l.take n, l.drop n)) := by show cut n l = _; unfold cut; rw [if_pos (by rw [← HM.out]; exact hlt)]
    have HK : Hid (n ≤ l.length) := by rw [← HM.out]; exact hlt
    have hfin : ∀ v1 v2, Reads w v1 (l.take n) → Reads w v2 (l.drop n) → v2.ownBlock = (Value.slice ad m cap).ownBlock → RdDoes gr gi (.slice ad m cap) w (cut n l) (fun a w' v => Reads w' v a) (.returned v1) (w.setCell ⟨gi, 0, none⟩ v2) := fun v1 v2 h1 h2 h3 =>
      Or.inl ⟨_, _, v1, v2, HC.out, rfl, h1.only HR.out.inp ⟨_, _, _, rfl⟩ ((Only.refl _ _).setCell _ _), HR.out.next v2 _ h2, (Only.refl _ _).setCell _ _, h3⟩
    have HF : Hid (∀ v1 v2, Reads w v1 (l.take n) → Reads w v2 (l.drop n) → v2.ownBlock = (Value.slice ad m cap).ownBlock → RdDoes gr gi (.slice ad m cap) w (cut n l) (fun a w' v => Reads w' v a) (.returned v1) (w.setCell ⟨gi, 0, none⟩ v2)) := hfin
    clear hfin
    cases ad with
    | none =>
      have hc0 := hnn rfl
      subst hc0
      have hm0 : m = 0 := by omega
      subst hm0
      have hn0 : n = 0 := by omega
      subst hn0
      clear hnn hng hlt hcap
      go_enter Tryz.func96, Tryz.ntmps96
      go_wp2
      go_ret
      have hl0 : l = [] := List.eq_nil_of_length_eq_zero HM.out.symm
      refine HF.out _ _ ?_ ?_ rfl
      · rw [List.take_zero]; exact ⟨none, 0, rfl, Nat.le_refl _, fun _ => rfl, fun h => by cases h⟩
      · rw [List.drop_zero, hl0]; exact ⟨none, 0, rfl, Nat.le_refl _, fun _ => rfl, fun h => by cases h⟩
    | some ad =>
      clear hnn
      by_cases hcn : cap = n
      · subst hcn
        have hmn : m = cap := by omega
        subst hmn
        have HZ : Hid (m - m = 0) := Nat.sub_self m
        go_enter Tryz.func96, Tryz.ntmps96
        go_wp2
        go_ret
        refine HF.out _ _ ((HR.out.byt).take m HK.out) ?_ rfl
        have := HR.out.byt.drop m HK.out ad (fun h => by have := HM.out; omega)
        rw [HZ.out] at this
        first | exact this | (rw [HZ.out]; exact this)
      · go_enter Tryz.func96, Tryz.ntmps96
        go_wp2
        go_ret
        exact HF.out _ _ ((HR.out.byt).take n HK.out) (HR.out.byt.drop n HK.out _ (fun _ => rfl)) (by simp [Value.ownBlock, Addr.add]; split <;> rfl)
  · have hgt : (m : Int) < (n : Int) := by omega
    have HC : Hid (cut n l = none) := by show cut n l = _; unfold cut; rw [if_neg (by rw [← HM.out]; exact hlt)]
    go_enter Tryz.func96, Tryz.ntmps96
    go_wp2_with fail
    refine (cfail_any gr gi (.slice ad m cap) l w HR.out).mono ?_
    rintro e w1 ⟨rfl, rfl⟩
    have hT := HR.out.threw
    obtain ⟨w1, HW1⟩ : ∃ x, Hid (x = w.setCell ⟨gi, 2, none⟩ (.bool true)) := ⟨_, rfl⟩
    rw [← HW1.out] at hT ⊢
    unfold thrown at hT ⊢
    go_wp2
    exact ⟨rfl, Or.inr ⟨HC.out, hT⟩⟩
end Go.Proofs.YtopmeedmgjdcgaaGreatDoor
/- The walks of the reader's Num and Count. -/
namespace Go.Proofs.YtopmeedmgjdcgaaGreatDoor
open Go.RowKit
set_option maxRecDepth 100000
structure RnInv (gr gi : Nat) (v0 : Value) (w : World) (l : List (BitVec 8)) (k acc : Nat) (rest : List (BitVec 8)) (wr : World) : Prop where
  le : k ≤ 10
  lt : acc < 2 ^ (7 * k)
  eq : readNum l = decNum (10 - k) k acc rest
  rd : ∃ v, Rd wr gr gi v rest ∧ v.ownBlock = v0.ownBlock
  onl : Only gi w wr
theorem dec_step (k acc : Nat) (hk : k < 10) (c : BitVec 8) (r : List (BitVec 8)) : decNum (10 - k) k acc (c :: r) =
    if (k = 9 ∧ 1 < c.toNat) ∨ (0 < k ∧ c.toNat = 0) then none else if c.toNat < 128 then some (acc + c.toNat % 128 * 2 ^ (7 * k), r) else decNum (10 - (k + 1)) (k + 1) (acc + c.toNat % 128 * 2 ^ (7 * k)) r := by
  rw [show 10 - k = (10 - (k + 1)) + 1 by omega, decNum]
theorem dec_nil (k acc : Nat) (hk : k < 10) : decNum (10 - k) k acc [] = none := by
  rw [show 10 - k = (10 - (k + 1)) + 1 by omega, decNum]
theorem or_add (acc g k : Nat) (hk : k < 10) (h : acc < 2 ^ (7 * k)) (h2 : g * 2 ^ (7 * k) < 18446744073709551616) : bits .or .u64 (acc : Int) (IntKind.u64.wrap ((g : Int) * 2 ^ (7 * k))) = ((acc + g * 2 ^ (7 * k) : Nat) : Int) := by
  have e : (g : Int) * 2 ^ (7 * k) = ((g * 2 ^ (7 * k) : Nat) : Int) := by simp
  have hs : acc + g * 2 ^ (7 * k) < 18446744073709551616 ∧ acc ||| g * 2 ^ (7 * k) = acc + g * 2 ^ (7 * k) := by
    have h3 := Nat.two_pow_add_eq_or_of_lt h g
    rw [Nat.mul_comm] at h3
    have h4 : g * 2 ^ (7 * k) ||| acc = acc ||| g * 2 ^ (7 * k) := Nat.or_comm _ _
    have h5 : acc ||| g * 2 ^ (7 * k) < 2 ^ 64 := by
      by_cases hg : g = 0
      · subst hg
        simp only [Nat.zero_mul, Nat.or_zero] at *
        exact Nat.lt_of_lt_of_le h (Nat.pow_le_pow_right (by omega) (by omega))
      · apply Nat.or_lt_two_pow
        · have : 2 ^ (7 * k) ≤ g * 2 ^ (7 * k) := Nat.le_mul_of_pos_left _ (by omega)
          omega
        · omega
    omega
  rw [e]
  have hw : IntKind.u64.wrap ((g * 2 ^ (7 * k) : Nat) : Int) = ((g * 2 ^ (7 * k) : Nat) : Int) := by rw [IntKind.wrap_u64]; omega
  rw [hw]
  generalize g * 2 ^ (7 * k) = x at *
  show IntKind.u64.wrap ((BitVec.ofInt 64 (acc : Int) ||| BitVec.ofInt 64 (x : Int)).toNat : Int) = _
  rw [BitVec.ofInt_natCast, BitVec.ofInt_natCast, BitVec.toNat_or, BitVec.toNat_ofNat, BitVec.toNat_ofNat, Nat.mod_eq_of_lt (by omega), Nat.mod_eq_of_lt (by omega), hs.2, IntKind.wrap_u64]
  omega
theorem top_small (k g : Nat) (hk : k < 10) (hg : g < 128) (h : 18446744073709551615 / 2 ^ (7 * k) < g) : k = 9 ∧ 1 < g := by
  by_cases h9 : k = 9
  · subst h9
    simp only [Nat.reduceMul, Nat.reducePow, Nat.reduceDiv] at h
    omega
  · exfalso
    have h1 : 18446744073709551615 / 2 ^ 56 ≤ 18446744073709551615 / 2 ^ (7 * k) := Nat.div_le_div_left (Nat.pow_le_pow_right (by omega) (by omega)) (Nat.pow_pos (by omega))
    simp only [Nat.reducePow, Nat.reduceDiv] at h1
    omega
theorem top_cast (k : Nat) : (18446744073709551615 : Int) / 2 ^ (7 * k) = ((18446744073709551615 / 2 ^ (7 * k) : Nat) : Int) := by simp
set_option maxRecDepth 100000 in
set_option maxHeartbeats 1000000 in
theorem crnum_any (gr gi : Nat) (v : Value) (l : List (BitVec 8)) (w : World) (h : Rd w gr gi v l) :
    Calls Tryz.prog 68 #[.pointer (some ⟨gr, 0, none⟩)] w fun e w' => RdDoes gr gi v w (readNum l) (fun a _ v => v = .int .u64 (a : Int)) e w' := by
  have hI : RnInv gr gi v w l 0 0 l w := ⟨by omega, by simp, rfl, ⟨v, h, rfl⟩, Only.refl _ _⟩
  clear h
  go_enter Tryz.func68, Tryz.ntmps68
  go_wp2
  go_loopw [3, 8] (fun x i wr => ∃ (k acc : Nat) (rest : List (BitVec 8)), i = .int .i64 (k : Int) ∧ x = .int .u64 (acc : Int) ∧ RnInv gr gi v w l k acc rest wr) (fun _ i _ => 10 - (intOf i).toNat)
  case atStart => exact ⟨0, 0, l, rfl, rfl, hI⟩
  case round =>
    clear hI
    obtain ⟨k, acc, rest, rfl, rfl, hI⟩ := hrel
    have hk := hI.le
    have HI : Hid (RnInv gr gi v w l k acc rest wr) := hI
    clear hI
    by_cases hlt : k < 10
    · go_wp2_with fail
      obtain ⟨v1, h1, hob1⟩ := HI.out.rd
      refine (take_any gr gi 1 v1 rest wr h1 (by omega)).mono ?_
      rintro e w1 hT
      rcases hT with ⟨a, r, va, v2, hc, rfl, hr, hrd, ho, hob⟩ | ⟨hc, hT⟩
      · obtain ⟨c, rest2, rfl⟩ : ∃ c rest2, rest = c :: rest2 := by
          cases rest with
          | nil => simp [cut] at hc
          | cons c r => exact ⟨c, r, rfl⟩
        simp [cut] at hc
        obtain ⟨rfl, rfl⟩ := hc
        obtain ⟨ad, cap, rfl, _, _, hx⟩ := hr
        obtain ⟨b, off, rfl, hy⟩ := hx (by simp)
        have cc := hy 0 (by simp)
        simp at cc
        have hc8 := c.isLt
        have HE : Hid (readNum l = if (k = 9 ∧ 1 < c.toNat) ∨ (0 < k ∧ c.toNat = 0) then none else if c.toNat < 128 then some (acc + c.toNat % 128 * 2 ^ (7 * k), rest2) else decNum (10 - (k + 1)) (k + 1) (acc + c.toNat % 128 * 2 ^ (7 * k)) rest2) := by
          show _ = _; rw [HI.out.eq, dec_step k acc hlt]
        obtain ⟨cn, HCN⟩ : ∃ x, Hid (x = c.toNat) := ⟨_, rfl⟩
        rw [← HCN.out] at cc hc8 HE
        have HRD : Hid (Rd w1 gr gi v2 rest2) := hrd
        have HOB : Hid (v2.ownBlock = v.ownBlock) := hob.trans hob1
        clear hob hob1
        have HO : Hid (Only gi w w1) := HI.out.onl.trans ho
        have HA : Hid (acc < 2 ^ (7 * k)) := HI.out.lt
        clear hx hy hrd ho h1 HI
        have h7 : IntKind.i64.wrap (7 * (k : Int)) = 7 * (k : Int) := by rw [IntKind.wrap_i64]; omega
        have h70 : ¬ (7 * (k : Int) < 0) := by omega
        have HT := top_cast k
        by_cases hA : 18446744073709551615 / 2 ^ (7 * k) < cn % 128
        · have hAi : (18446744073709551615 : Int) / 2 ^ (7 * k) < (cn : Int) % 128 := by rw [HT]; omega
          have HNo : Hid (readNum l = none) := by
            show _ = _
            obtain ⟨h9, h10⟩ := top_small k _ hlt (by omega) hA
            rw [HE.out, if_pos (Or.inl ⟨h9, by omega⟩)]
          clear HT hA HE
          go_wp2_with fail
          refine (cfail_any gr gi v2 rest2 w1 HRD.out).mono ?_
          rintro e w2 ⟨rfl, rfl⟩
          have hT := HRD.out.threw.after HO.out
          obtain ⟨w2, HW2⟩ : ∃ x, Hid (x = w1.setCell ⟨gi, 2, none⟩ (.bool true)) := ⟨_, rfl⟩
          rw [← HW2.out] at hT ⊢
          unfold thrown at hT ⊢
          go_wp2
          exact ⟨rfl, Or.inr ⟨HNo.out, hT⟩⟩
        · have hAi : ¬ ((18446744073709551615 : Int) / 2 ^ (7 * k) < (cn : Int) % 128) := by rw [HT]; omega
          have HG : Hid (cn % 128 * 2 ^ (7 * k) < 18446744073709551616) := by
            have h1 : cn % 128 * 2 ^ (7 * k) ≤ 18446744073709551615 / 2 ^ (7 * k) * 2 ^ (7 * k) := Nat.mul_le_mul_right _ (by omega)
            have h2 := Nat.div_mul_le_self 18446744073709551615 (2 ^ (7 * k))
            show _ < _
            omega
          have hor := or_add acc (cn % 128) k hlt HA.out HG.out
          rw [show ((cn % 128 : Nat) : Int) = (cn : Int) % 128 by omega] at hor
          obtain ⟨sm, HSM⟩ : ∃ x, Hid (x = acc + cn % 128 * 2 ^ (7 * k)) := ⟨_, rfl⟩
          rw [← HSM.out] at hor HE
          have HS2 : Hid (sm < 2 ^ (7 * (k + 1))) := by
            show _ < _
            rw [HSM.out, pow7]
            have h1 := HA.out
            have h2 : cn % 128 * 2 ^ (7 * k) ≤ 127 * 2 ^ (7 * k) := Nat.mul_le_mul_right _ (by omega)
            omega
          clear HT hA
          by_cases hB : 0 < k ∧ cn = 0
          · obtain ⟨hk0, rfl⟩ := hB
            have HNo : Hid (readNum l = none) := by show _ = _; rw [HE.out, if_pos (Or.inr ⟨hk0, rfl⟩)]
            clear HE hor
            go_wp2_with fail
            refine (cfail_any gr gi v2 rest2 w1 HRD.out).mono ?_
            rintro e w2 ⟨rfl, rfl⟩
            have hT := HRD.out.threw.after HO.out
            obtain ⟨w2, HW2⟩ : ∃ x, Hid (x = w1.setCell ⟨gi, 2, none⟩ (.bool true)) := ⟨_, rfl⟩
            rw [← HW2.out] at hT ⊢
            unfold thrown at hT ⊢
            go_wp2
            exact ⟨rfl, Or.inr ⟨HNo.out, hT⟩⟩
          · by_cases hC : cn < 128
            · have hC2 : (cn : Int) < 128 := by omega
              have HYes : Hid (readNum l = if k = 9 ∧ 1 < cn then none else some (sm, rest2)) := by
                show _ = _
                rw [HE.out, if_pos hC]
                by_cases h9 : k = 9 ∧ 1 < cn
                · rw [if_pos (Or.inl h9), if_pos h9]
                · rw [if_neg (by rintro (h | h); exact h9 h; exact hB h), if_neg h9]
              have H9 : Hid (¬ (k = 9 ∧ 1 < cn)) := by
                rintro ⟨rfl, h⟩
                have := HG.out
                simp only [Nat.reduceMul, Nat.reducePow] at this
                omega
              have HY2 : Hid (readNum l = some (sm, rest2)) := by show _ = _; rw [HYes.out, if_neg H9.out]
              clear HE HYes
              by_cases hz : cn = 0
              · have hk0 : k = 0 := by omega
                subst hz hk0
                have ha0 : acc = 0 := by have := HA.out; simp at this; omega
                subst ha0
                have hs0 : sm = 0 := HSM.out
                subst hs0
                clear hor hB h70 h7 hAi
                go_wp2
                go_ret
                exact Or.inl ⟨0, rest2, _, v2, HY2.out, rfl, rfl, HRD.out, HO.out, HOB.out⟩
              · have hz2 : ¬ ((cn : Int) = 0) := by omega
                clear hB
                go_wp2
                go_ret
                exact Or.inl ⟨sm, rest2, _, v2, HY2.out, rfl, rfl, HRD.out, HO.out, HOB.out⟩
            · have hC2 : ¬ ((cn : Int) < 128) := by omega
              have hz2 : ¬ ((cn : Int) = 0) := by omega
              have HD : Hid (readNum l = decNum (10 - (k + 1)) (k + 1) sm rest2) := by
                show _ = _
                rw [HE.out, if_neg hC]
                by_cases h9 : k = 9
                · subst h9
                  rw [if_pos (Or.inl ⟨rfl, by omega⟩)]; rfl
                · rw [if_neg (by omega)]
              clear HE hB hC
              go_wp2
              go_roundw
              case rel => exact ⟨k + 1, sm, rest2, by go_num, rfl, by omega, HS2.out, HD.out, ⟨v2, HRD.out, HOB.out⟩, HO.out⟩
              case measure => simp [intOf]; omega
      · have hn : rest = [] := by
          cases rest with
          | nil => rfl
          | cons c r => simp [cut] at hc
        subst hn
        have HNo : Hid (readNum l = none) := by show _ = _; rw [HI.out.eq, dec_nil k acc hlt]
        have hT2 := hT.after HI.out.onl
        obtain rfl := hT.eq
        unfold thrown at hT2 ⊢
        clear hT HI h1
        go_wp2
        exact ⟨rfl, Or.inr ⟨HNo.out, hT2⟩⟩
    · have hk10 : k = 10 := by omega
      subst hk10
      have HNo : Hid (readNum l = none) := by show _ = _; rw [HI.out.eq]; rfl
      obtain ⟨v1, h1, hob1⟩ := HI.out.rd
      have HO := HI.out.onl
      have HRD : Hid (Rd wr gr gi v1 rest) := h1
      clear HI h1
      go_wp2_with fail
      refine (cfail_any gr gi v1 rest wr HRD.out).mono ?_
      rintro e w2 ⟨rfl, rfl⟩
      have hT := HRD.out.threw.after HO
      obtain ⟨w2, HW2⟩ : ∃ x, Hid (x = wr.setCell ⟨gi, 2, none⟩ (.bool true)) := ⟨_, rfl⟩
      rw [← HW2.out] at hT ⊢
      unfold thrown at hT ⊢
      go_wp2
      exact ⟨rfl, Or.inr ⟨HNo.out, hT⟩⟩
def readCount (most : Nat) (l : List (BitVec 8)) : Option (Nat × List (BitVec 8)) :=
  match readNum l with
  | none => none
  | some (n, r) => if n ≤ most then some (n, r) else none
set_option maxHeartbeats 400000 in
theorem ccount_any (gr gi most : Nat) (hm : most < 9223372036854775808) (v : Value) (l : List (BitVec 8)) (w : World) (h : Rd w gr gi v l) :
    Calls Tryz.prog 40 #[.pointer (some ⟨gr, 0, none⟩), .int .i64 (most : Int)] w fun e w' => RdDoes gr gi v w (readCount most l) (fun a _ v => v = .int .i64 (a : Int)) e w' := by
  have HR : Hid (Rd w gr gi v l) := h
  have hw : IntKind.u64.wrap (most : Int) = (most : Int) := by rw [IntKind.wrap_u64]; omega
  have h0 : ¬ ((most : Int) < 0) := by omega
  clear h
  go_enter Tryz.func40, Tryz.ntmps40
  go_wp2_with fail
  refine (crnum_any gr gi v l w HR.out).mono ?_
  rintro e w1 (⟨n, r, va, v2, hc, rfl, rfl, hrd, ho, hob⟩ | ⟨hc, hT⟩)
  · have HRD : Hid (Rd w1 gr gi v2 r) := hrd
    have HOB : Hid (v2.ownBlock = v.ownBlock) := hob
    clear hob
    have HO : Hid (Only gi w w1) := ho
    have HC : Hid (readCount most l = if n ≤ most then some (n, r) else none) := by show _ = _; unfold readCount; rw [hc]
    clear hrd ho hc
    by_cases hle : n ≤ most
    · have hng : ¬ ((most : Int) < (n : Int)) := by omega
      have hwn : IntKind.i64.wrap (n : Int) = (n : Int) := by rw [IntKind.wrap_i64]; omega
      have HC2 : Hid (readCount most l = some (n, r)) := by show _ = _; rw [HC.out, if_pos hle]
      clear HC
      go_wp2
      go_ret
      exact Or.inl ⟨n, r, _, v2, HC2.out, rfl, rfl, HRD.out, HO.out, HOB.out⟩
    · have hg : (most : Int) < (n : Int) := by omega
      have HC2 : Hid (readCount most l = none) := by show _ = _; rw [HC.out, if_neg hle]
      clear HC hle
      go_wp2_with fail
      refine (cfail_any gr gi v2 r w1 HRD.out).mono ?_
      rintro e w2 ⟨rfl, rfl⟩
      have hT := HRD.out.threw.after HO.out
      obtain ⟨w2, HW2⟩ : ∃ x, Hid (x = w1.setCell ⟨gi, 2, none⟩ (.bool true)) := ⟨_, rfl⟩
      rw [← HW2.out] at hT ⊢
      unfold thrown at hT ⊢
      go_wp2
      exact ⟨rfl, Or.inr ⟨HC2.out, hT⟩⟩
  · have HC2 : Hid (readCount most l = none) := by show _ = _; unfold readCount; rw [hc]
    have hT2 := hT
    obtain rfl := hT.eq
    unfold thrown at hT2 ⊢
    clear hT hc
    go_wp2
    exact ⟨rfl, Or.inr ⟨HC2.out, hT2⟩⟩
end Go.Proofs.YtopmeedmgjdcgaaGreatDoor
/- The walks of bytes.Clone, of the reader's Text and Digest. -/
namespace Go.Proofs.YtopmeedmgjdcgaaGreatDoor
open Go.RowKit
set_option maxRecDepth 100000
theorem OwnB.zero (w : World) (base g : Nat) (hg : base ≤ g) (h : Blk w g [] 5) : OwnB w base (.slice (some ⟨g, 0, none⟩) 0 0) [] :=
  OwnB.of_blk (l := []) (c := 0) h hg rfl (by unfold maxLen; omega) (Nat.le_refl _) rfl
set_option maxHeartbeats 400000 in
theorem clone_any (v : Value) (l : List (BitVec 8)) (w : World) (h : Reads w v l) (hl : l.length ≤ 140737488355328) :
    Calls Tryz.prog 64 #[v] w fun e w' => ∃ v', e = .returned v' ∧ OwnB w' w.heap.size v' l ∧ Below w.heap.size w w' := by
  have HR : Hid (Reads w v l) := h
  have HL : Hid (l.length ≤ 140737488355328) := hl
  obtain ⟨ad, cap, rfl, _, hn, hx⟩ := h
  cases ad with
  | none =>
    have h0 : l = [] := by
      cases l with
      | nil => rfl
      | cons b r => obtain ⟨b, off, h1, _⟩ := hx (by simp); cases h1
    subst h0
    have := hn rfl
    subst this
    clear hx hn hl
    have hnil : ∀ (a : Option Addr) (n c : Nat) (w : World), (binOp .eql 23 (.slice a n c) (.slice none 0 0)).run Tryz.prog w = .ok (.bool a.isNone) w := fun a n c w => Lib.run_eql_slice_nil w 23 5 a n c 0 0 Tryz.underlying23
    go_enter Tryz.func64, Tryz.ntmps64
    go_wp2
    go_ret
    exact ⟨_, rfl, OwnB.nil _ _, Below.refl _ _⟩
  | some ad =>
    clear hx hn hl
    obtain ⟨m, HM⟩ : ∃ m, Hid (m = l.length) := ⟨_, rfl⟩
    rw [← HM.out] at HR ⊢
    have HB := below_alloc w (.cells ([] : List Value).toArray 5)
    have HO : Hid (OwnB (w.alloc (.cells ([] : List Value).toArray 5)) w.heap.size (.slice (some ⟨w.heap.size, 0, none⟩) 0 0) []) := OwnB.zero _ _ _ (Nat.le_refl _) (Blk.new w [] 5)
    have HR1 : Hid (Reads (w.alloc (.cells ([] : List Value).toArray 5)) (.slice (some ad) m cap) l) := HR.out.below HB
    have HBB : Hid (Below w.heap.size w (w.alloc (.cells ([] : List Value).toArray 5))) := HB
    clear HB
    have hnil : ∀ (a : Option Addr) (n c : Nat) (w : World), (binOp .eql 23 (.slice a n c) (.slice none 0 0)).run Tryz.prog w = .ok (.bool a.isNone) w := fun a n c w => Lib.run_eql_slice_nil w 23 5 a n c 0 0 Tryz.underlying23
    go_enter Tryz.func64, Tryz.ntmps64
    go_wp2_with (at_builtin; refine wpList_appendB rfl (.tmp 5) (.tmp 6) rfl w.heap.size _ [] rfl HO.out _ l rfl HR1.out (by have := HL.out; simp; omega) HBB.out.size ?_; intro v2 w2 hown2 hb2 _)
    have hB2 := HBB.out.trans hb2
    go_wp2
    go_ret
    exact ⟨_, rfl, hown2, hB2⟩
theorem Rd.below {w w' : World} {gr gi : Nat} {v : Value} {l : List (BitVec 8)} (h : Rd w gr gi v l) (hb : Below w.heap.size w w') : Rd w' gr gi v l := ⟨h.rd.below hb h.rd.lt, h.inp.below hb h.inp.lt, h.byt.below hb⟩
theorem Threw.down {gi : Nat} {w w1 : World} {e : Ending} (h : Threw gi w e w1) : e = .panicked [{ v := .iface 118 (.pointer (some ⟨gi, 0, none⟩)), recovered := false }] := h.eq
set_option maxHeartbeats 400000 in
theorem crtext_any (gr gi : Nat) (v : Value) (l : List (BitVec 8)) (w : World) (h : Rd w gr gi v l) :
    Calls Tryz.prog 69 #[.pointer (some ⟨gr, 0, none⟩)] w fun e w' => RdDoes gr gi v w (readText l) (fun a w' v => OwnB w' w.heap.size v a) e w' := by
  have HR : Hid (Rd w gr gi v l) := h
  clear h
  go_enter Tryz.func69, Tryz.ntmps69
  go_wp2_with fail
  refine (ccount_any gr gi 1048576 (by omega) v l w HR.out).mono ?_
  rintro e w1 (⟨n, r, va, v2, hc, rfl, rfl, hrd, ho, hob⟩ | ⟨hc, hT⟩)
  · obtain ⟨hn, HT⟩ : n ≤ 1048576 ∧ Hid (readText l = if n ≤ r.length then some (r.take n, r.drop n) else none) := by
      unfold readCount at hc
      cases h1 : readNum l with
      | none => rw [h1] at hc; cases hc
      | some p =>
        obtain ⟨m, s⟩ := p
        rw [h1] at hc
        simp only at hc
        split at hc
        · rename_i hle
          simp only [Option.some.injEq, Prod.mk.injEq] at hc
          obtain ⟨rfl, rfl⟩ := hc
          refine ⟨hle, ?_⟩
          show _ = _
          unfold readText
          rw [h1]
          simp only [hle, true_and]
        · cases hc
    have HRD : Hid (Rd w1 gr gi v2 r) := hrd
    have HO : Hid (Only gi w w1) := ho
    clear hrd ho hc
    go_wp2_with fail
    refine (take_any gr gi n v2 r w1 HRD.out (by omega)).mono ?_
    rintro e w2 (⟨a, r2, va, v3, hc, rfl, hr, hrd, ho, hob2⟩ | ⟨hc, hT⟩)
    · have hle : n ≤ r.length := by
        unfold cut at hc
        split at hc
        · assumption
        · cases hc
      have HT2 : Hid (readText l = some (a, r2)) := by
        show _ = _
        rw [HT.out, if_pos hle]
        unfold cut at hc
        rw [if_pos hle] at hc
        exact hc
      have HA : Hid (a.length ≤ 1048576) := by
        unfold cut at hc
        rw [if_pos hle] at hc
        simp only [Option.some.injEq, Prod.mk.injEq] at hc
        show _ ≤ _
        rw [← hc.1, List.length_take]; omega
      have HRD2 : Hid (Rd w2 gr gi v3 r2) := hrd
      have HO2 : Hid (Only gi w w2) := HO.out.trans ho
      have HRR : Hid (Reads w2 va a) := hr
      clear hrd ho hc hr HT HRD HO hle
      go_wp2_with fail
      refine (clone_any va a w2 HRR.out (by have := HA.out; omega)).mono ?_
      rintro e w3 ⟨v4, rfl, hown, hb⟩
      have HF : Hid (RdDoes gr gi v w (readText l) (fun a w' v => OwnB w' w.heap.size v a) (.returned v4) w3) :=
        Or.inl ⟨a, r2, v4, v3, HT2.out, rfl, ⟨hown.1, hown.2.imp id (fun ⟨g, c, cur, h1, h2, h3⟩ => ⟨g, c, cur, h1, Nat.le_trans HO2.out.size h2, h3⟩)⟩, HRD2.out.below hb, HO2.out.trans (Only.of_below hb), hob2.trans hob⟩
      clear hown hb
      go_wp2
      go_ret
      exact HF.out
    · have hle : ¬ n ≤ r.length := by
        unfold cut at hc
        split at hc
        · cases hc
        · assumption
      have HT2 : Hid (readText l = none) := by show _ = _; rw [HT.out, if_neg hle]
      have hT2 := hT.after HO.out
      obtain rfl := hT.down
      clear hT hc HT hle
      go_wp2
      exact ⟨rfl, Or.inr ⟨HT2.out, hT2⟩⟩
  · have HC2 : Hid (readText l = none) := by
      show _ = _
      unfold readText
      unfold readCount at hc
      cases h1 : readNum l with
      | none => rfl
      | some p =>
        obtain ⟨m, s⟩ := p
        rw [h1] at hc
        simp only at hc ⊢
        split at hc
        · cases hc
        · rename_i hle
          rw [if_neg (by omega)]
    have hT2 := hT
    obtain rfl := hT.down
    clear hT hc
    go_wp2
    exact ⟨rfl, Or.inr ⟨HC2.out, hT2⟩⟩
theorem Rd.others {w w' : World} {gr gi B : Nat} {v : Value} {l : List (BitVec 8)} (h : Rd w gr gi v l) (hgr : gr < B) (hgi : gi < B) (hv : 0 < l.length → ∀ k, v.ownBlock = some k → k < B) {C : Nat} (hC : B ≤ C) (hb : Below C w w') : Rd w' gr gi v l := by
  refine ⟨h.rd.below hb (by omega), h.inp.below hb (by omega), ?_⟩
  obtain ⟨ad, cap, rfl, hc, hn, hx⟩ := h.byt
  refine ⟨ad, cap, rfl, hc, hn, fun hp => ?_⟩
  obtain ⟨b, off, rfl, hy⟩ := hx hp
  refine ⟨b, off, rfl, fun j hj => ?_⟩
  have : b < C := Nat.lt_of_lt_of_le (hv hp b rfl) hC
  rw [hb.cell (p := ⟨b, off + j, none⟩) this]
  exact hy j hj
theorem Only.more {g B : Nat} {w w1 w2 : World} (h : Only g w w1) (hb : Below B w1 w2) (hB : w.heap.size ≤ B) : Only g w w2 :=
  ⟨hb.os.trans h.os, hb.tape.trans h.tape, hb.output.trans h.output, Nat.le_trans h.size hb.size, fun k hk hl => (hb.block k (by omega)).trans (h.block k hk hl)⟩
end Go.Proofs.YtopmeedmgjdcgaaGreatDoor
/- The walks of codec.Read and of what it defers: what is thrown is caught. -/
namespace Go.Proofs.YtopmeedmgjdcgaaGreatDoor
open Go.RowKit
set_option maxRecDepth 100000
set_option maxRecDepth 100000 in
set_option maxHeartbeats 1000000 in
theorem catch_threw (gin ge gi : Nat) (v : Value) (x : Int) (w : World) (ad : Option Addr) (n c : Nat) (hv : v = .slice ad n c) (hin : Blk w gin [.pointer (some ⟨gi, 0, none⟩)] 118) (hi : Blk w gi [v, .bool true, .bool true] 120) (he : Blk w ge [.int .i64 x] 26) :
    CallsD Tryz.prog 67 #[.pointer (some ⟨gin, 0, none⟩), .pointer (some ⟨ge, 0, none⟩)] (.panicking [{ v := .iface 118 (.pointer (some ⟨gi, 0, none⟩)), recovered := false }]) w fun e u' w' =>
      e = .returned (.tuple #[]) ∧ u' = .panicking [{ v := .iface 118 (.pointer (some ⟨gi, 0, none⟩)), recovered := true }] ∧ w' = (w.setCells gi 0 [.slice none 0 0, .bool false, .bool false]).setCell ⟨ge, 0, none⟩ (.int .i64 3) := by
  subst hv
  have ci : w.cell? ⟨gin, 0, none⟩ = some (.pointer (some ⟨gi, 0, none⟩)) := hin.cell 0
  have c2 : w.cell? ⟨gi, 2, none⟩ = some (.bool true) := hi.cell 2
  have c0 : w.cell? ⟨gi, 0, none⟩ = some (.slice ad n c) := hi.cell 0
  have c1 : w.cell? ⟨gi, 1, none⟩ = some (.bool true) := hi.cell 1
  have f0 : w.frozen? ⟨gi, 0, none⟩ = false := hi.frozen 0
  have f1 : w.frozen? ⟨gi, 1, none⟩ = false := hi.frozen 1
  have f2 : w.frozen? ⟨gi, 2, none⟩ = false := hi.frozen 2
  have ce : w.cell? ⟨ge, 0, none⟩ = some (.int .i64 x) := he.cell 0
  have fe : w.frozen? ⟨ge, 0, none⟩ = false := he.frozen 0
  have hge : ge ≠ gi := by
    intro h
    subst h
    unfold Blk at he hi
    rw [he] at hi
    simp at hi
  have hta : ∀ (pv : Value) (w : World), (Instr.typeAssert (.iface 118 pv) 20 118 true).run Tryz.prog w = .ok (.tuple #[pv, .bool true]) w := fun _ _ => by kernel_rfl
  have hnot : ∀ (x : Bool) (w : World), (Op.unary .not (.bool x)).run Tryz.prog w = .ok (.bool (!x)) w := fun _ _ => rfl
  refine callsD_of_wpS Tryz.func67 rfl fun c₀ cs hu => ?_
  simp only [Tryz.ntmps67, List.size_toArray, List.length_cons, List.length_nil, Nat.reduceAdd, Nat.reduceSub, Array.replicate_succ, Array.replicate_zero, List.push_toArray, List.append_toArray, List.nil_append, List.cons_append]
  apply wpS_seq
  refine wpS_of_wp ?_
  go_wp2
  simp only [Exit.thenS]
  apply wpS_seq
  refine wpS_of_wp ?_
  go_wp2
  simp only [Exit.thenS]
  apply wpS_seq
  refine wpS_of_wp ?_
  go_wp2
  simp only [Exit.thenS]
  apply wpS_seq
  apply wpS_region
  simp [wpOpsS, go_sem, recoverD, hu, Exit.thenS]
  refine wpS_of_wp ?_
  go_wp2
  exact ⟨rfl, _, rfl, _, results_none rfl _ _ _, rfl, rfl, rfl⟩
set_option maxRecDepth 100000 in
set_option maxHeartbeats 1000000 in
theorem catch_idle (gin ge gi : Nat) (v : Value) (x : Int) (w : World) (ad : Option Addr) (n c : Nat) (hv : v = .slice ad n c) (hin : Blk w gin [.pointer (some ⟨gi, 0, none⟩)] 118) (hi : Blk w gi [v, .bool true, .bool false] 120) (he : Blk w ge [.int .i64 x] 26) :
    CallsD Tryz.prog 67 #[.pointer (some ⟨gin, 0, none⟩), .pointer (some ⟨ge, 0, none⟩)] .returning w fun e u' w' =>
      e = .returned (.tuple #[]) ∧ u' = .returning ∧ w' = if n = 0 then ((w.setCells gi 0 [.slice none 0 0, .bool false, .bool false]).setCell ⟨ge, 0, none⟩ (.int .i64 3)).setCell ⟨ge, 0, none⟩ (.int .i64 0) else (w.setCells gi 0 [.slice none 0 0, .bool false, .bool false]).setCell ⟨ge, 0, none⟩ (.int .i64 3) := by
  subst hv
  have ci : w.cell? ⟨gin, 0, none⟩ = some (.pointer (some ⟨gi, 0, none⟩)) := hin.cell 0
  have c2 : w.cell? ⟨gi, 2, none⟩ = some (.bool false) := hi.cell 2
  have c0 : w.cell? ⟨gi, 0, none⟩ = some (.slice ad n c) := hi.cell 0
  have c1 : w.cell? ⟨gi, 1, none⟩ = some (.bool true) := hi.cell 1
  have f0 : w.frozen? ⟨gi, 0, none⟩ = false := hi.frozen 0
  have f1 : w.frozen? ⟨gi, 1, none⟩ = false := hi.frozen 1
  have f2 : w.frozen? ⟨gi, 2, none⟩ = false := hi.frozen 2
  have ce : w.cell? ⟨ge, 0, none⟩ = some (.int .i64 x) := he.cell 0
  have fe : w.frozen? ⟨ge, 0, none⟩ = false := he.frozen 0
  have hge : ge ≠ gi := by
    intro h
    subst h
    unfold Blk at he hi
    rw [he] at hi
    simp at hi
  have hnot : ∀ (x : Bool) (w : World), (Op.unary .not (.bool x)).run Tryz.prog w = .ok (.bool (!x)) w := fun _ _ => rfl
  by_cases hn : n = 0
  · subst hn
    rw [if_pos rfl]
    refine callsD_of_wpS Tryz.func67 rfl fun c₀ cs hu => ?_
    simp only [Tryz.ntmps67, List.size_toArray, List.length_cons, List.length_nil, Nat.reduceAdd, Nat.reduceSub, Array.replicate_succ, Array.replicate_zero, List.push_toArray, List.append_toArray, List.nil_append, List.cons_append]
    apply wpS_seq
    refine wpS_of_wp ?_
    go_wp2
    simp only [Exit.thenS]
    apply wpS_seq
    refine wpS_of_wp ?_
    go_wp2
    simp only [Exit.thenS]
    apply wpS_seq
    refine wpS_of_wp ?_
    go_wp2
    simp only [Exit.thenS]
    apply wpS_seq
    apply wpS_region
    simp [wpOpsS, go_sem, recoverD, hu, Exit.thenS]
    refine wpS_of_wp ?_
    go_wp2
    exact ⟨rfl, _, rfl, _, results_none rfl _ _ _, rfl, hu, rfl⟩
  · rw [if_neg hn]
    have hn2 : ¬ ((n : Int) = 0) := by omega
    refine callsD_of_wpS Tryz.func67 rfl fun c₀ cs hu => ?_
    simp only [Tryz.ntmps67, List.size_toArray, List.length_cons, List.length_nil, Nat.reduceAdd, Nat.reduceSub, Array.replicate_succ, Array.replicate_zero, List.push_toArray, List.append_toArray, List.nil_append, List.cons_append]
    apply wpS_seq
    refine wpS_of_wp ?_
    go_wp2
    simp only [Exit.thenS]
    apply wpS_seq
    refine wpS_of_wp ?_
    go_wp2
    simp only [Exit.thenS]
    apply wpS_seq
    refine wpS_of_wp ?_
    go_wp2
    simp only [Exit.thenS]
    apply wpS_seq
    apply wpS_region
    simp [wpOpsS, go_sem, recoverD, hu, Exit.thenS]
    refine wpS_of_wp ?_
    go_wp2
    exact ⟨rfl, _, rfl, _, results_none rfl _ _ _, rfl, hu, rfl⟩
/-- what a reading by f comes to: the new blocks of Read (from H on) are as they were, but for the input; f came back, or threw -/
structure Does (H : Nat) (A : List (BitVec 8) → World → Prop) (B : World → Prop) (w1 : World) (e : Ending) (w2 : World) : Prop where
  size : w1.heap.size ≤ w2.heap.size
  kept : ∀ k, H ≤ k → k < H + 4 → k ≠ H + 1 → w2.heap[k]? = w1.heap[k]?
  way : (e = .returned (.tuple #[]) ∧ ∃ v2 l2, Rd w2 (H + 3) (H + 1) v2 l2 ∧ A l2 w2) ∨ (e = thrown (H + 1) ∧ (∃ v ad n c, v = .slice ad n c ∧ Blk w2 (H + 1) [v, .bool true, .bool true] 120) ∧ B w2)
/-- the world w' is w but for the blocks from H to H + 3 -/
structure Past (H : Nat) (w w' : World) : Prop where
  os : w'.os = w.os
  tape : w'.tape = w.tape
  output : w'.output = w.output
  size : w'.heap.size = w.heap.size
  block : ∀ k, k < H ∨ H + 4 ≤ k → w'.heap[k]? = w.heap[k]?
theorem Past.refl (H : Nat) (w : World) : Past H w w := ⟨rfl, rfl, rfl, rfl, fun _ _ => rfl⟩
theorem Past.setCell {H : Nat} {w w' : World} (h : Past H w w') (a : Addr) (ha : H ≤ a.block ∧ a.block < H + 4) (v : Value) : Past H w (w'.setCell a v) :=
  ⟨h.os, h.tape, h.output, by have := h.size; simp [World.setCell]; omega, fun k hk => (Below.heap_setCell _ _ _ _ (by omega)).trans (h.block k hk)⟩
set_option maxRecDepth 100000 in
set_option maxHeartbeats 1000000 in
theorem read_any (F : Nat) (caps : Array Value) (vb : Value) (l : List (BitVec 8)) (A : List (BitVec 8) → World → Prop) (B : World → Prop) (w : World) (hb : Reads w vb l) (hen : ∀ xs w, (callFunc F xs).run Tryz.prog w = .ok (.enter F xs) w)
    (hf : ∀ w1, w1.heap.size = w.heap.size + 4 → Below w.heap.size w w1 → Rd w1 (w.heap.size + 3) (w.heap.size + 1) vb l → Calls Tryz.prog F (#[.pointer (some ⟨w.heap.size + 3, 0, none⟩)] ++ caps) w1 (Does w.heap.size A B w1)) :
    Calls Tryz.prog 38 #[vb, .func (.func F) #[] caps] w fun e w' => ∃ w2, Past w.heap.size w2 w' ∧ ((∃ l2, A l2 w2 ∧ e = .returned (.int .i64 (if l2 = [] then 0 else 3))) ∨ (B w2 ∧ e = .returned (.int .i64 3))) := by
  have hmf : ∀ (fn : Fn) (first cap : Array Value) (w : World), (Instr.makeFunc fn first cap).run Tryz.prog w = .ok (.func fn first cap) w := fun _ _ _ _ => rfl
  have HF : Hid (∀ w1, w1.heap.size = w.heap.size + 4 → Below w.heap.size w w1 → Rd w1 (w.heap.size + 3) (w.heap.size + 1) vb l → Calls Tryz.prog F (#[.pointer (some ⟨w.heap.size + 3, 0, none⟩)] ++ caps) w1 (Does w.heap.size A B w1)) := hf
  have HB : Hid (Reads w vb l) := hb
  obtain ⟨ad, cap, rfl, _, _, _⟩ := id hb
  obtain ⟨n, HN⟩ : ∃ n, Hid (n = l.length) := ⟨_, rfl⟩
  rw [← HN.out] at HF HB ⊢
  have HE : Hid (∀ xs w, (callFunc F xs).run Tryz.prog w = .ok (.enter F xs) w) := hen
  clear hb hf hen
  have hB1 : Below w.heap.size w ((((w.alloc (.cells #[.int .i64 0] 26)).alloc (.cells #[.slice ad n cap, .bool true, .bool false] 120)).alloc (.cells #[.pointer (some ⟨w.heap.size + 1, 0, none⟩)] 118)).alloc (.cells #[.pointer (some ⟨w.heap.size + 1, 0, none⟩)] 122)) :=
    ((((Below.refl _ _).alloc (Nat.le_refl _) _).alloc (by simp) _).alloc (by simp; omega) _).alloc (by simp; omega) _
  have g0 : Blk ((((w.alloc (.cells #[.int .i64 0] 26)).alloc (.cells #[.slice ad n cap, .bool true, .bool false] 120)).alloc (.cells #[.pointer (some ⟨w.heap.size + 1, 0, none⟩)] 118)).alloc (.cells #[.pointer (some ⟨w.heap.size + 1, 0, none⟩)] 122)) w.heap.size [.int .i64 0] 26 := (((Blk.new w [.int .i64 0] 26).alloc _).alloc _).alloc _
  have g1 : Blk ((((w.alloc (.cells #[.int .i64 0] 26)).alloc (.cells #[.slice ad n cap, .bool true, .bool false] 120)).alloc (.cells #[.pointer (some ⟨w.heap.size + 1, 0, none⟩)] 118)).alloc (.cells #[.pointer (some ⟨w.heap.size + 1, 0, none⟩)] 122)) (w.heap.size + 1) [.slice ad n cap, .bool true, .bool false] 120 := ((Blk.new_at (w := w.alloc (.cells #[.int .i64 0] 26)) (by simp) [.slice ad n cap, .bool true, .bool false] 120).alloc _).alloc _
  have g2 : Blk ((((w.alloc (.cells #[.int .i64 0] 26)).alloc (.cells #[.slice ad n cap, .bool true, .bool false] 120)).alloc (.cells #[.pointer (some ⟨w.heap.size + 1, 0, none⟩)] 118)).alloc (.cells #[.pointer (some ⟨w.heap.size + 1, 0, none⟩)] 122)) (w.heap.size + 2) [.pointer (some ⟨w.heap.size + 1, 0, none⟩)] 118 := (Blk.new_at (w := (w.alloc (.cells #[.int .i64 0] 26)).alloc (.cells #[.slice ad n cap, .bool true, .bool false] 120)) (by simp) [.pointer (some ⟨w.heap.size + 1, 0, none⟩)] 118).alloc _
  have g3 : Blk ((((w.alloc (.cells #[.int .i64 0] 26)).alloc (.cells #[.slice ad n cap, .bool true, .bool false] 120)).alloc (.cells #[.pointer (some ⟨w.heap.size + 1, 0, none⟩)] 118)).alloc (.cells #[.pointer (some ⟨w.heap.size + 1, 0, none⟩)] 122)) (w.heap.size + 3) [.pointer (some ⟨w.heap.size + 1, 0, none⟩)] 122 := Blk.new_at (w := ((w.alloc (.cells #[.int .i64 0] 26)).alloc (.cells #[.slice ad n cap, .bool true, .bool false] 120)).alloc (.cells #[.pointer (some ⟨w.heap.size + 1, 0, none⟩)] 118)) (by simp) [.pointer (some ⟨w.heap.size + 1, 0, none⟩)] 122
  have hrd := HF.out _ (by simp) hB1 ⟨g3, g1, HB.out.below hB1⟩
  have HC : Hid (Calls Tryz.prog F (#[.pointer (some ⟨w.heap.size + 3, 0, none⟩)] ++ caps) ((((w.alloc (.cells #[.int .i64 0] 26)).alloc (.cells #[.slice ad n cap, .bool true, .bool false] 120)).alloc (.cells #[.pointer (some ⟨w.heap.size + 1, 0, none⟩)] 118)).alloc (.cells #[.pointer (some ⟨w.heap.size + 1, 0, none⟩)] 122)) (fun e w2 => Does w.heap.size A B ((((w.alloc (.cells #[.int .i64 0] 26)).alloc (.cells #[.slice ad n cap, .bool true, .bool false] 120)).alloc (.cells #[.pointer (some ⟨w.heap.size + 1, 0, none⟩)] 118)).alloc (.cells #[.pointer (some ⟨w.heap.size + 1, 0, none⟩)] 122)) e w2)) := hrd
  have HG0 : Hid (Blk _ w.heap.size [.int .i64 0] 26) := g0
  have HG2 : Hid (Blk _ (w.heap.size + 2) [.pointer (some ⟨w.heap.size + 1, 0, none⟩)] 118) := g2
  clear hrd g0 g1 g2 g3 hB1 HF
  go_enter_defers Tryz.func38, Tryz.ntmps38
  go_wp2_with fail
  rw [HE.out, Oper.upon_enter]
  generalize World.alloc _ (.cells #[.pointer (some ⟨w.heap.size + 1, 0, none⟩)] 122) = w1 at *
  refine Calls.mono HC.out ?_
  intro e w2 hD
  have e0 : Blk w2 w.heap.size [.int .i64 0] 26 := by
    have := HG0.out; unfold Blk at this ⊢; rw [hD.kept _ (by omega) (by omega) (by omega)]; exact this
  have e2 : Blk w2 (w.heap.size + 2) [.pointer (some ⟨w.heap.size + 1, 0, none⟩)] 118 := by
    have := HG2.out; unfold Blk at this ⊢; rw [hD.kept _ (by omega) (by omega) (by omega)]; exact this
  rcases hD.way with ⟨rfl, v2, l2, hrd2, hA⟩ | ⟨rfl, ⟨v, ad2, n2, c2, hv2, hbad⟩, hBB⟩
  · have ce : w2.cell? ⟨w.heap.size, 0, none⟩ = some (.int .i64 0) := e0.cell 0
    have fe : w2.frozen? ⟨w.heap.size, 0, none⟩ = false := e0.frozen 0
    obtain ⟨ad2, c2, hv2⟩ := hrd2.slice
    have HB2 : Hid (Blk w2 (w.heap.size + 1) [v2, .bool true, .bool false] 120) := hrd2.inp
    have HE2 : Hid (Blk w2 (w.heap.size + 2) [.pointer (some ⟨w.heap.size + 1, 0, none⟩)] 118) := e2
    have HE0 : Hid (Blk w2 w.heap.size [.int .i64 0] 26) := e0
    have HV2 : Hid (v2 = .slice ad2 l2.length c2) := hv2
    have HAA : Hid (A l2 w2) := hA
    clear hrd2 e0 e2 hv2 hD hA HC HG0 HG2
    go_wp2
    refine leaves_cons (f := 67) (args := #[.pointer (some ⟨w.heap.size + 2, 0, none⟩), .pointer (some ⟨w.heap.size, 0, none⟩)]) (by simp) (by simp [go_sem]) ?_
    refine (catch_idle (w.heap.size + 2) w.heap.size (w.heap.size + 1) v2 0 _ ad2 l2.length c2 HV2.out (HE2.out.other _ _ (by simp)) (HB2.out.other _ _ (by simp)) (by simpa using HE0.out.set 0 (.int .i64 0))).mono ?_
    rintro e u' w'' ⟨rfl, rfl, hw⟩
    obtain ⟨hc, hP⟩ : w''.cell? ⟨w.heap.size, 0, none⟩ = some (.int .i64 (if l2 = [] then 0 else 3)) ∧ Past w.heap.size w2 w'' := by
      have h1 : Past w.heap.size w2 ((w2.setCell ⟨w.heap.size, 0, none⟩ (.int .i64 0)).setCells (w.heap.size + 1) 0 [.slice none 0 0, .bool false, .bool false]) := ((((Past.refl _ _).setCell _ (by simp) _).setCell _ (by simp) _).setCell _ (by simp) _).setCell _ (by simp) _
      have hE : Blk ((w2.setCell ⟨w.heap.size, 0, none⟩ (.int .i64 0)).setCells (w.heap.size + 1) 0 [.slice none 0 0, .bool false, .bool false]) w.heap.size [.int .i64 0] 26 := Blk.others _ _ _ _ (by simpa using HE0.out.set 0 (.int .i64 0)) (by omega)
      by_cases h0 : l2 = []
      · subst h0
        rw [if_pos (by rfl)] at hw
        rw [if_pos rfl]
        subst hw
        exact ⟨by rw [((hE.set 0 (.int .i64 3)).set 0 (.int .i64 0)).cell]; rfl, (h1.setCell _ (by simp) _).setCell _ (by simp) _⟩
      · rw [if_neg (by simpa using h0)] at hw
        rw [if_neg h0]
        subst hw
        exact ⟨by rw [(hE.set 0 (.int .i64 3)).cell]; rfl, h1.setCell _ (by simp) _⟩
    clear hw
    have HFin : Hid (∃ w2, Past w.heap.size w2 w'' ∧ ((∃ l2', A l2' w2 ∧ Ending.returned (.int .i64 (if l2 = [] then 0 else 3)) = Ending.returned (.int .i64 (if l2' = [] then 0 else 3))) ∨ (B w2 ∧ Ending.returned (.int .i64 (if l2 = [] then 0 else 3)) = .returned (.int .i64 3)))) := ⟨w2, hP, Or.inl ⟨l2, HAA.out, rfl⟩⟩
    generalize (if l2 = [] then (0 : Int) else 3) = x at hc HFin
    clear hP
    simp [Leaves, settle, results, Tryz.results38, go_sem, hc]
    simpa using HFin.out
  · have HE2 : Hid (Blk w2 (w.heap.size + 2) [.pointer (some ⟨w.heap.size + 1, 0, none⟩)] 118) := e2
    have HE0 : Hid (Blk w2 w.heap.size [.int .i64 0] 26) := e0
    clear e0 e2 hD HC HG0 HG2
    unfold thrown
    go_wp2
    refine leaves_cons (f := 67) (args := #[.pointer (some ⟨w.heap.size + 2, 0, none⟩), .pointer (some ⟨w.heap.size, 0, none⟩)]) (by simp) (by simp [go_sem]) ?_
    refine (catch_threw (w.heap.size + 2) w.heap.size (w.heap.size + 1) v 0 _ ad2 n2 c2 hv2 HE2.out hbad HE0.out).mono ?_
    rintro e u' w'' ⟨rfl, rfl, hw⟩
    obtain ⟨hc, hP⟩ : w''.cell? ⟨w.heap.size, 0, none⟩ = some (.int .i64 3) ∧ Past w.heap.size w2 w'' := by
      have h1 : Past w.heap.size w2 (w2.setCells (w.heap.size + 1) 0 [.slice none 0 0, .bool false, .bool false]) := (((Past.refl _ _).setCell _ (by simp) _).setCell _ (by simp) _).setCell _ (by simp) _
      have hE : Blk (w2.setCells (w.heap.size + 1) 0 [.slice none 0 0, .bool false, .bool false]) w.heap.size [.int .i64 0] 26 := Blk.others _ _ _ _ HE0.out (by omega)
      subst hw
      exact ⟨by rw [(hE.set 0 (.int .i64 3)).cell]; rfl, h1.setCell _ (by simp) _⟩
    clear hw
    have HFin : Hid (∃ w2, Past w.heap.size w2 w'' ∧ ((∃ l2', A l2' w2 ∧ Ending.returned (.int .i64 3) = Ending.returned (.int .i64 (if l2' = [] then 0 else 3))) ∨ (B w2 ∧ Ending.returned (.int .i64 3) = .returned (.int .i64 3)))) := ⟨w2, hP, Or.inr ⟨hBB, rfl⟩⟩
    clear hP
    simp [Leaves, settle, results, Tryz.results38, go_sem, hc]
    simpa using HFin.out
end Go.Proofs.YtopmeedmgjdcgaaGreatDoor
/- A slice of bytes of the call's own, from an earlier block on (layer 15). -/
namespace Go.Proofs.YtopmeedmgjdcgaaGreatDoor
open Go.RowKit
set_option maxRecDepth 100000
theorem OwnB.mono {w : World} {base B : Nat} {v : Value} {l : List (BitVec 8)} (h : OwnB w base v l) (hB : B ≤ base) : OwnB w B v l := by
  obtain ⟨h1, h2⟩ := h
  refine ⟨h1, h2.imp id ?_⟩
  rintro ⟨g, cap, cur, e, hg, r⟩
  exact ⟨g, cap, cur, e, Nat.le_trans hB hg, r⟩
end Go.Proofs.YtopmeedmgjdcgaaGreatDoor
/- The walks of the reference's reader: Num, Count, Take, Text, Digest, Done. -/
namespace Go.Proofs.YtopmeedmgjdcgaaGreatDoor
open Go.RowKit
set_option maxRecDepth 100000
/-- the reference's reader at g: of the bytes l so many were read -/
structure InS (w : World) (g : Nat) (v : Value) (l : List (BitVec 8)) (pos : Nat) (bad : Bool) : Prop where
  blk : Blk w g [v, .int .i64 (pos : Int), .bool bad] 82
  byt : Reads w v l
  le : pos ≤ l.length
theorem InS.ne {w : World} {g : Nat} {v : Value} {l : List (BitVec 8)} {pos : Nat} {bad : Bool} (h : InS w g v l pos bad) : ∀ b off, 0 < l.length → (∀ j, j < l.length → w.cell? ⟨b, off + j, none⟩ = some (.int .u8 ((l.getD j 0).toNat : Int))) → b ≠ g := by
  intro b off hp hc he
  subst he
  have h0 := hc 0 hp
  rw [h.blk.cell] at h0
  obtain ⟨ad, cap, hv, _⟩ := h.byt
  subst hv
  match off, h0 with
  | 0, h0 => simp at h0
  | 1, h0 => simp at h0
  | 2, h0 => simp at h0
  | k + 3, h0 => simp at h0
theorem InS.only {w w' : World} {g : Nat} {v : Value} {l : List (BitVec 8)} {pos : Nat} {bad : Bool} (h : InS w g v l pos bad) (ho : Only g w w') : Reads w' v l := by
  have ha := h.ne
  obtain ⟨ad, cap, rfl, hc, hn, hx⟩ := h.byt
  refine ⟨ad, cap, rfl, hc, hn, fun hp => ?_⟩
  obtain ⟨b, off, h1, h2⟩ := hx hp
  exact ⟨b, off, h1, fun j hj => ho.cell (p := ⟨b, off + j, none⟩) (ha b off hp h2) (h2 j hj)⟩
theorem InS.setBad {w : World} {g : Nat} {v : Value} {l : List (BitVec 8)} {pos : Nat} {bad : Bool} (h : InS w g v l pos bad) (b : Bool) : InS (w.setCell ⟨g, 2, none⟩ (.bool b)) g v l pos b :=
  ⟨h.blk.set 2 (.bool b), h.only ((Only.refl _ _).setCell _ _), h.le⟩
theorem InS.setPos {w : World} {g : Nat} {v : Value} {l : List (BitVec 8)} {pos : Nat} {bad : Bool} (h : InS w g v l pos bad) (p : Nat) (hp : p ≤ l.length) : InS (w.setCell ⟨g, 1, none⟩ (.int .i64 (p : Int))) g v l p bad :=
  ⟨h.blk.set 1 (.int .i64 (p : Int)), h.only ((Only.refl _ _).setCell _ _), hp⟩
theorem InS.drewN {w : World} {g : Nat} {v : Value} {l : List (BitVec 8)} {pos : Nat} {bad : Bool} (h : InS w g v l pos bad) (n : Nat) : InS (w.drewN n) g v l pos bad := ⟨h.blk.drewN n, h.byt, h.le⟩
theorem InS.below {w w' : World} {g : Nat} {v : Value} {l : List (BitVec 8)} {pos : Nat} {bad : Bool} (h : InS w g v l pos bad) (hb : Below w.heap.size w w') : InS w' g v l pos bad := ⟨h.blk.below hb h.blk.lt, h.byt.below hb, h.le⟩
/-- what a call of the reference's reader does -/
def InDoes {α : Type} (g : Nat) (v : Value) (l : List (BitVec 8)) (w : World) (o : Option (α × List (BitVec 8))) (R : α → World → Value → Prop) (Z : Value → Prop) (e : Ending) (w' : World) : Prop :=
  (∃ a p u, o = some (a, l.drop p) ∧ e = .returned u ∧ R a w' u ∧ InS w' g v l p false ∧ Only g w w') ∨ (o = none ∧ ∃ u p, e = .returned u ∧ Z u ∧ InS w' g v l p true ∧ Only g w w')
structure InInv (g : Nat) (v : Value) (l : List (BitVec 8)) (pos : Nat) (bad : Bool) (w : World) (k acc : Nat) (wr : World) : Prop where
  le : k ≤ 10
  lt : acc < 2 ^ (7 * k)
  eq : readNum (l.drop pos) = decNum (10 - k) k acc (l.drop (pos + k))
  st : InS wr g v l (pos + k) bad
  onl : Only g w wr
set_option maxRecDepth 100000 in
set_option maxHeartbeats 2000000 in
theorem innum_any (g : Nat) (v : Value) (l : List (BitVec 8)) (pos : Nat) (bad : Bool) (w : World) (h : InS w g v l pos bad) (hl : l.length ≤ 9223372036854775807) :
    Calls Tryz.prog 70 #[.pointer (some ⟨g, 0, none⟩)] w fun e w' => InDoes g v l w (if bad then none else readNum (l.drop pos)) (fun a _ u => u = .int .u64 (a : Int)) (fun u => u = .int .u64 0) e w' := by
  have hI : InInv g v l pos bad w 0 0 w := ⟨by omega, by simp, rfl, h, Only.refl _ _⟩
  have HL : Hid (l.length ≤ 9223372036854775807) := hl
  clear h hl
  go_enter Tryz.func70, Tryz.ntmps70
  go_wp2
  go_loopw [3, 4] (fun x i wr => ∃ (k acc : Nat), i = .int .i64 (k : Int) ∧ x = .int .u64 (acc : Int) ∧ InInv g v l pos bad w k acc wr) (fun _ i _ => 10 - (intOf i).toNat)
  case atStart => exact ⟨0, 0, rfl, rfl, hI⟩
  case round =>
    clear hI
    obtain ⟨k, acc, rfl, rfl, hI⟩ := hrel
    have hk := hI.le
    obtain ⟨ad, cap, hv, hcap, _, hx⟩ := id hI.st.byt
    obtain ⟨m, HM⟩ : ∃ m, Hid (m = l.length) := ⟨_, rfl⟩
    rw [← HM.out] at hv hcap
    subst hv
    have HI : Hid (InInv g (.slice ad m cap) l pos bad w k acc wr) := hI
    have c0 : wr.cell? ⟨g, 0, none⟩ = some (.slice ad m cap) := hI.st.blk.cell 0
    have c1 : wr.cell? ⟨g, 1, none⟩ = some (.int .i64 ((pos + k : Nat) : Int)) := hI.st.blk.cell 1
    have c2 : wr.cell? ⟨g, 2, none⟩ = some (.bool bad) := hI.st.blk.cell 2
    have f1 : wr.frozen? ⟨g, 1, none⟩ = false := hI.st.blk.frozen 1
    have f2 : wr.frozen? ⟨g, 2, none⟩ = false := hI.st.blk.frozen 2
    have HX : Hid (∀ j, j < m → ∃ b off, ad = some ⟨b, off, none⟩ ∧ b ≠ g ∧ wr.cell? ⟨b, off + j, none⟩ = some (.int .u8 ((l.getD j 0).toNat : Int))) := by
      intro j hj
      rw [HM.out] at hj
      obtain ⟨b, off, h1, h2⟩ := hx (by omega)
      exact ⟨b, off, h1, hI.st.ne b off (by omega) h2, h2 j hj⟩
    clear hx hI
    obtain ⟨p, HP⟩ : ∃ p, Hid (p = pos + k) := ⟨_, rfl⟩
    rw [← HP.out] at c1
    have HPM : Hid (p ≤ m) := by show _ ≤ _; rw [HP.out, HM.out]; exact HI.out.st.le
    have hmx : m ≤ 9223372036854775807 := by rw [HM.out]; exact HL.out
    by_cases hlt : k < 10
    · cases bad with
      | true =>
        have HF : Hid (∀ n, InDoes g (.slice ad m cap) l w none (fun (a : Nat) _ u => u = .int .u64 (a : Int)) (fun u => u = .int .u64 0) (.returned (.int .u64 0)) ((wr.drewN n).setCell ⟨g, 2, none⟩ (.bool true))) := fun n =>
          Or.inr ⟨rfl, _, _, rfl, rfl, (HI.out.st.drewN n).setBad true, (HI.out.onl.drewN n).setCell _ _⟩
        clear HI
        go_wp2
        go_quiet (fail)
        go_wp2
        go_ret
        exact HF.out _
      | false =>
        by_cases hpm : p < m
        · obtain ⟨b, off, rfl, hbg, hc⟩ := HX.out p hpm
          have hge : ¬ ((m : Int) ≤ (p : Int)) := by omega
          have hc8 := (l.getD p 0).isLt
          have HE : Hid (readNum (l.drop pos) = if (k = 9 ∧ 1 < (l.getD p 0).toNat) ∨ (0 < k ∧ (l.getD p 0).toNat = 0) then none else if (l.getD p 0).toNat < 128 then some (acc + (l.getD p 0).toNat % 128 * 2 ^ (7 * k), l.drop (p + 1)) else decNum (10 - (k + 1)) (k + 1) (acc + (l.getD p 0).toNat % 128 * 2 ^ (7 * k)) (l.drop (p + 1))) := by
            show _ = _
            have hd : l.drop p = l.getD p 0 :: l.drop (p + 1) := by
              rw [HM.out] at hpm
              rw [List.drop_eq_getElem_cons hpm, List.getD_eq_getElem?_getD, List.getElem?_eq_getElem hpm]
              rfl
            rw [HI.out.eq, ← HP.out, hd, dec_step k acc hlt]
          obtain ⟨cn, HCN⟩ : ∃ x, Hid (x = (l.getD p 0).toNat) := ⟨_, rfl⟩
          rw [← HCN.out] at hc hc8 HE
          have HA : Hid (acc < 2 ^ (7 * k)) := HI.out.lt
          have HS : Hid (∀ n, InS ((wr.drewN n).setCell ⟨g, 1, none⟩ (.int .i64 ((p : Int) + 1))) g (.slice (some ⟨b, off, none⟩) m cap) l (p + 1) false) := fun n => (HI.out.st.drewN n).setPos (p + 1) (by rw [← HM.out]; omega)
          have HO : Hid (∀ n, Only g w ((wr.drewN n).setCell ⟨g, 1, none⟩ (.int .i64 ((p : Int) + 1)))) := fun n => (HI.out.onl.drewN n).setCell _ _
          have HBad : Hid (readNum (l.drop pos) = none → ∀ n, InDoes g (.slice (some ⟨b, off, none⟩) m cap) l w (readNum (l.drop pos)) (fun (a : Nat) _ u => u = .int .u64 (a : Int)) (fun u => u = .int .u64 0) (.returned (.int .u64 0)) (((wr.drewN n).setCell ⟨g, 1, none⟩ (.int .i64 ((p : Int) + 1))).setCell ⟨g, 2, none⟩ (.bool true))) := fun hno n =>
            Or.inr ⟨hno, _, _, rfl, rfl, (HS.out n).setBad true, (HO.out n).setCell _ _⟩
          have hp1 : IntKind.i64.wrap ((p : Int) + 1) = (p : Int) + 1 := by rw [IntKind.wrap_i64]; omega
          have h7 : IntKind.i64.wrap (7 * (k : Int)) = 7 * (k : Int) := by rw [IntKind.wrap_i64]; omega
          have h7u : IntKind.u64.wrap (7 * (k : Int)) = 7 * (k : Int) := by rw [IntKind.wrap_u64]; omega
          have h70 : ¬ (7 * (k : Int) < 0) := by omega
          clear HI HX
          go_wp2
          go_quiet (fail)
          go_wp2
          go_quiet (fail)
          by_cases hA : (k = 9 ∧ 1 < cn) ∨ (0 < k ∧ cn = 0)
          · have HNo : Hid (readNum (l.drop pos) = none) := by show _ = _; rw [HE.out, if_pos hA]
            clear HE HS HO HA
            rcases hA with ⟨rfl, h1⟩ | ⟨h1, rfl⟩
            · have h1i : 1 < (cn : Int) := by omega
              clear h7 h7u h70
              go_wp2
              go_ret
              exact HBad.out HNo.out _
            · by_cases h9 : k = 9
              · subst h9
                clear h7 h7u h70
                go_wp2
                go_ret
                exact HBad.out HNo.out _
              · have h9i : ¬ ((k : Int) = 9) := by omega
                go_wp2
                go_ret
                exact HBad.out HNo.out _
          · have HG : Hid (cn % 128 * 2 ^ (7 * k) + acc < 18446744073709551616) := by
              show _ < _
              have ha := HA.out
              by_cases h9 : k = 9
              · subst h9
                simp only [Nat.reduceMul, Nat.reducePow] at ha ⊢
                omega
              · have hp : (2 : Nat) ^ (7 * k) ≤ 2 ^ 56 := Nat.pow_le_pow_right (by omega) (by omega)
                have : cn % 128 * 2 ^ (7 * k) ≤ 127 * 2 ^ 56 := Nat.mul_le_mul (by omega) hp
                simp only [Nat.reducePow] at this hp
                omega
            obtain ⟨sm, HSM⟩ : ∃ x, Hid (x = acc + cn % 128 * 2 ^ (7 * k)) := ⟨_, rfl⟩
            have HE2 : Hid (readNum (l.drop pos) = if cn < 128 then some (sm, l.drop (p + 1)) else decNum (10 - (k + 1)) (k + 1) sm (l.drop (p + 1))) := by show _ = _; rw [HE.out, if_neg hA, HSM.out]
            have hcast : (cn : Int) % 128 * 2 ^ (7 * k) = ((cn % 128 * 2 ^ (7 * k) : Nat) : Int) := by simp
            have hw1 : IntKind.u64.wrap ((cn : Int) % 128 * 2 ^ (7 * k)) = (cn : Int) % 128 * 2 ^ (7 * k) := by
              have := HG.out; rw [hcast, IntKind.wrap_u64]; omega
            have hw2 : IntKind.u64.wrap ((acc : Int) + (cn : Int) % 128 * 2 ^ (7 * k)) = (sm : Int) := by
              have := HG.out; rw [hcast, IntKind.wrap_u64, HSM.out]; omega
            clear HE hcast HBad
            by_cases hC : cn < 128
            · have hC2 : (cn : Int) < 128 := by omega
              have HF : Hid (∀ n, InDoes g (.slice (some ⟨b, off, none⟩) m cap) l w (readNum (l.drop pos)) (fun (a : Nat) _ u => u = .int .u64 (a : Int)) (fun u => u = .int .u64 0) (.returned (.int .u64 (sm : Int))) ((wr.drewN n).setCell ⟨g, 1, none⟩ (.int .i64 ((p : Int) + 1)))) := fun n =>
                Or.inl ⟨sm, p + 1, _, by rw [HE2.out, if_pos hC], rfl, rfl, HS.out n, HO.out n⟩
              clear HE2 HS HO
              by_cases h9 : k = 9
              · subst h9
                have h1 : cn = 1 := by omega
                subst h1
                have hs1 : (sm : Int) = (acc : Int) + 9223372036854775808 := by rw [HSM.out]; simp
                have hw3 : IntKind.u64.wrap ((acc : Int) + 9223372036854775808) = (acc : Int) + 9223372036854775808 := by rw [IntKind.wrap_u64]; have := HG.out; simp at this; omega
                rw [hs1] at HF
                clear hA h7 h7u h70 hw1 hw2 hs1
                go_wp2
                go_ret
                exact HF.out _
              · have h9i : ¬ ((k : Int) = 9) := by omega
                by_cases hz : cn = 0
                · have hk0 : k = 0 := by omega
                  subst hz hk0
                  have ha0 : acc = 0 := by have := HA.out; simp at this; omega
                  subst ha0
                  have hs0 : sm = 0 := HSM.out
                  subst hs0
                  clear hA h7 h7u h70 hw1 hw2
                  go_wp2
                  go_ret
                  exact HF.out _
                · have hz2 : ¬ ((cn : Int) = 0) := by omega
                  clear hA
                  by_cases hk0 : 0 < k
                  · go_wp2
                    go_ret
                    exact HF.out _
                  · go_wp2
                    go_ret
                    exact HF.out _
            · have hC2 : ¬ ((cn : Int) < 128) := by omega
              have hz2 : ¬ ((cn : Int) = 0) := by omega
              have h9i : ¬ ((k : Int) = 9) := by omega
              have HS2 : Hid (sm < 2 ^ (7 * (k + 1))) := by
                show _ < _
                rw [HSM.out, pow7]
                have h1 := HA.out
                have h2 : cn % 128 * 2 ^ (7 * k) ≤ 127 * 2 ^ (7 * k) := Nat.mul_le_mul_right _ (by omega)
                omega
              have HJ : Hid (∀ n, InInv g (.slice (some ⟨b, off, none⟩) m cap) l pos false w (k + 1) sm ((wr.drewN n).setCell ⟨g, 1, none⟩ (.int .i64 ((p : Int) + 1)))) := fun n =>
                ⟨by omega, HS2.out, by rw [HE2.out, if_neg hC, HP.out, Nat.add_assoc], by have := HS.out n; rw [HP.out, Nat.add_assoc] at this; rw [HP.out]; exact this, HO.out n⟩
              clear hA hC HE2 HS HO
              by_cases hk0 : 0 < k
              · go_wp2
                go_roundw
                case rel => exact ⟨k + 1, sm, by go_num, rfl, HJ.out _⟩
                case measure => simp [intOf]; omega
              · go_wp2
                go_roundw
                case rel => exact ⟨k + 1, sm, by go_num, rfl, HJ.out _⟩
                case measure => simp [intOf]; omega
        · have hge : (m : Int) ≤ (p : Int) := by omega
          have HNo : Hid (readNum (l.drop pos) = none) := by
            show _ = _
            rw [HI.out.eq, ← HP.out, List.drop_of_length_le (by rw [← HM.out]; omega), dec_nil k acc hlt]
          have HF : Hid (∀ n, InDoes g (.slice ad m cap) l w (readNum (l.drop pos)) (fun (a : Nat) _ u => u = .int .u64 (a : Int)) (fun u => u = .int .u64 0) (.returned (.int .u64 0)) ((wr.drewN n).setCell ⟨g, 2, none⟩ (.bool true))) := fun n =>
            Or.inr ⟨HNo.out, _, _, rfl, rfl, (HI.out.st.drewN n).setBad true, (HI.out.onl.drewN n).setCell _ _⟩
          clear HI HX
          go_wp2
          go_quiet (fail)
          go_wp2
          go_ret
          exact HF.out _
    · have hk10 : k = 10 := by omega
      subst hk10
      have HF : Hid (InDoes g (.slice ad m cap) l w (if bad then none else readNum (l.drop pos)) (fun (a : Nat) _ u => u = .int .u64 (a : Int)) (fun u => u = .int .u64 0) (.returned (.int .u64 0)) (wr.setCell ⟨g, 2, none⟩ (.bool true))) := by
        refine Or.inr ⟨?_, _, _, rfl, rfl, HI.out.st.setBad true, HI.out.onl.setCell _ _⟩
        rw [HI.out.eq]
        cases bad <;> rfl
      clear HI HX
      cases bad with
      | true =>
        go_wp2
        go_ret
        exact HF.out
      | false =>
        go_wp2
        go_ret
        exact HF.out
end Go.Proofs.YtopmeedmgjdcgaaGreatDoor
/- The walks of the reference's reader: Count and Take. -/
namespace Go.Proofs.YtopmeedmgjdcgaaGreatDoor
open Go.RowKit
set_option maxRecDepth 100000
set_option maxHeartbeats 400000 in
theorem incount_any (g : Nat) (v : Value) (l : List (BitVec 8)) (pos : Nat) (bad : Bool) (w : World) (most : Nat) (hm : most < 9223372036854775808) (h : InS w g v l pos bad) (hl : l.length ≤ 9223372036854775807) :
    Calls Tryz.prog 43 #[.pointer (some ⟨g, 0, none⟩), .int .i64 (most : Int)] w fun e w' => InDoes g v l w (if bad then none else readCount most (l.drop pos)) (fun a _ u => u = .int .i64 (a : Int)) (fun u => u = .int .i64 0) e w' := by
  have HI : Hid (InS w g v l pos bad) := h
  have HL : Hid (l.length ≤ 9223372036854775807) := hl
  have hw : IntKind.u64.wrap (most : Int) = (most : Int) := by rw [IntKind.wrap_u64]; omega
  obtain ⟨oo, HOO⟩ : ∃ x, Hid (x = if bad then none else readCount most (l.drop pos)) := ⟨_, rfl⟩
  rw [← HOO.out]
  clear h hl
  go_enter Tryz.func43, Tryz.ntmps43
  go_wp2_with fail
  refine (innum_any g v l pos bad w HI.out HL.out).mono ?_
  rintro e w1 (⟨n, p, u, ho, rfl, rfl, hs, hon⟩ | ⟨ho, u, p, rfl, rfl, hs, hon⟩)
  · have c2 : w1.cell? ⟨g, 2, none⟩ = some (.bool false) := hs.blk.cell 2
    have f2 : w1.frozen? ⟨g, 2, none⟩ = false := hs.blk.frozen 2
    have HS : Hid (InS w1 g v l p false) := hs
    have HON : Hid (Only g w w1) := hon
    have HC : Hid (oo = if n ≤ most then some (n, l.drop p) else none) := by
      show _ = _
      rw [HOO.out]
      cases bad with
      | true => simp at ho
      | false =>
        simp only [Bool.false_eq_true, if_false] at ho ⊢
        unfold readCount
        rw [ho]
    clear hs hon ho HI
    by_cases hle : n ≤ most
    · have hng : ¬ ((most : Int) < (n : Int)) := by omega
      have hwn : IntKind.i64.wrap (n : Int) = (n : Int) := by rw [IntKind.wrap_i64]; omega
      have HF : Hid (InDoes g v l w oo (fun (a : Nat) _ u => u = .int .i64 (a : Int)) (fun u => u = .int .i64 0) (.returned (.int .i64 (n : Int))) w1) := Or.inl ⟨n, p, _, by rw [HC.out, if_pos hle], rfl, rfl, HS.out, HON.out⟩
      clear HC HS HON
      go_wp2
      go_ret
      exact HF.out
    · have hg : (most : Int) < (n : Int) := by omega
      have HF : Hid (InDoes g v l w oo (fun (a : Nat) _ u => u = .int .i64 (a : Int)) (fun u => u = .int .i64 0) (.returned (.int .i64 0)) (w1.setCell ⟨g, 2, none⟩ (.bool true))) := Or.inr ⟨by rw [HC.out, if_neg hle], _, _, rfl, rfl, HS.out.setBad true, HON.out.setCell _ _⟩
      clear HC HS HON hle
      go_wp2
      go_ret
      exact HF.out
  · have c2 : w1.cell? ⟨g, 2, none⟩ = some (.bool true) := hs.blk.cell 2
    have f2 : w1.frozen? ⟨g, 2, none⟩ = false := hs.blk.frozen 2
    have HC : Hid (oo = none) := by
      show _ = _
      rw [HOO.out]
      cases bad with
      | true => rfl
      | false =>
        simp only [Bool.false_eq_true, if_false] at ho ⊢
        unfold readCount
        rw [ho]
    have HF : Hid (InDoes g v l w oo (fun (a : Nat) _ u => u = .int .i64 (a : Int)) (fun u => u = .int .i64 0) (.returned (.int .i64 0)) (w1.setCell ⟨g, 2, none⟩ (.bool true))) := Or.inr ⟨HC.out, _, _, rfl, rfl, hs.setBad true, hon.setCell _ _⟩
    clear hs hon ho HI
    go_wp2
    go_ret
    exact HF.out
def cutAd (ad : Option Addr) (p cap : Nat) : Option Addr := if cap = p then ad else ad.map (·.add p)
theorem slice_mid4 (ad : Option Addr) (m cap p n : Nat) (h2 : p + n ≤ cap) (w : World) :
    (Instr.sliceAt 23 (.slice ad m cap) (some (.int .i64 (p : Int))) (some (.int .i64 ((p : Int) + (n : Int)))) none).run Tryz.prog w = .ok (.slice (cutAd ad p cap) n (cap - p)) w := by
  have e : ((p : Int) + (n : Int)).toNat = p + n := by omega
  unfold cutAd
  simp [go_sem, Instr.sliceAt, Instr.slice, Instr.sliceBounds]
  rw [if_pos ⟨by omega, by omega⟩, e, if_pos (by omega), Nat.add_sub_cancel_left]
theorem Reads.mid {w : World} {ad : Option Addr} {m cap : Nat} {l : List (BitVec 8)} (h : Reads w (.slice ad m cap) l) (p n : Nat) (hp : p + n ≤ l.length) : Reads w (.slice (cutAd ad p cap) n (cap - p)) ((l.drop p).take n) := by
  have hm : m ≤ cap ∧ m = l.length := by
    obtain ⟨ad', cap', hv, hc, _⟩ := h
    simp only [Value.slice.injEq] at hv
    obtain ⟨_, rfl, rfl⟩ := hv
    exact ⟨hc, rfl⟩
  obtain ⟨hmc, hml⟩ := hm
  cases ad with
  | none =>
    obtain ⟨ad', cap', hv, hc, hn, hx⟩ := h
    simp only [Value.slice.injEq] at hv
    obtain ⟨rfl, _, rfl⟩ := hv
    have := hn rfl
    subst this
    have hl : l.length = 0 := by omega
    have hn0 : n = 0 := by omega
    have hp0 : p = 0 := by omega
    subst hn0 hp0
    exact ⟨Option.none, 0, by simp [cutAd], by simp, fun _ => rfl, fun h => by simp at h⟩
  | some a =>
    have h1 := (h.drop p (by omega) (if cap = p then a else a.add p) (fun hlt => by rw [if_neg (by omega)]))
    have h2 := h1.take n (by rw [List.length_drop]; omega)
    have e : cutAd (Option.some a) p cap = Option.some (if cap = p then a else a.add p) := by
      unfold cutAd
      by_cases hcp : cap = p
      · rw [if_pos hcp, if_pos hcp]
      · rw [if_neg hcp, if_neg hcp]; rfl
    rw [e]
    exact h2
theorem wp_appendB {w : World} {o : Oper} {a : Act} {K : Act → World → Prop} {Q : Exit → Act → World → Prop} (s x : Operand)
    (ho : o.op = .call { callee := .builtin .append, args := #[s, x], argTypes := #[23, 23] }) (vx : Value) (news : List (BitVec 8)) (hs : a.eval s = .slice none 0 0) (hx : a.eval x = vx) (hr : Reads w vx news)
    (hlen : news.length ≤ 140737488355328) (h : ∀ v' w', OwnB w' w.heap.size v' news → Below w.heap.size w w' → K (a.put o.dst v') w') : o.wp Tryz.prog a w K Q := by
  obtain ⟨i0, hi, hz0, hz1, hz2⟩ := info_parts Tryz.infob
  obtain ⟨ad, cap, rfl, hcap, hnn, hpos⟩ := hr
  cases ad with
  | some ad =>
    refine wp_append_own w s x 23 ho w.heap.size 5 i0 (.int .u8 0) 1 1 Tryz.underlying23 hi hz0 hz1 hz2 rfl (by decide) (.slice none 0 0) 0 [] hs (World.ownsRow_nil _ _ _ _) ad news.length cap (cb news) hx (by rw [cb_len]; omega) ?_ (cb_one _) (by unfold maxLen; omega) (by omega) (Nat.le_refl _) ?_
    · intro j u hj
      have hjl : j < news.length := by have := (List.getElem?_eq_some_iff.1 hj).1; rwa [cb_len] at this
      obtain ⟨b, off, h1, h2⟩ := hpos (by omega)
      cases h1
      rw [Addr.add_mid, h2 j hjl, ← hj, cb_get news j hjl]
    · intro v' w' h1 h2 _
      rw [List.nil_append, Nat.zero_add] at h1
      exact h v' w' h1 ((Below.refl _ _).grown h2 (Nat.le_refl _) (fun k hk => by simp [Value.ownBlock] at hk))
  | none =>
    have hn0 : news = [] := by
      cases news with
      | nil => rfl
      | cons b r => obtain ⟨b, off, h1, _⟩ := hpos (by simp); cases h1
    subst hn0
    have hc0 := hnn rfl
    subst hc0
    have hrun := run_append_owned_none (P := Tryz.prog) (w := w) w.heap.size 23 o.type 5 i0 1 Tryz.underlying23 hi (.slice none 0 0) 0 [] (World.ownsRow_nil _ _ _ _)
    unfold Oper.wp execOp
    simp only [List.length_nil] at hx
    simp only [ho, resolve, invoke, builtin, Sem.run_bind, Sem.run_pure, Result.andThen_ok, List.map_toArray, List.map_cons, List.map_nil, hs, hx, hrun]
    exact h _ w (OwnB.nil _ _) (Below.refl _ _)
set_option maxRecDepth 100000 in
set_option maxHeartbeats 1000000 in
theorem intake_any (g : Nat) (v : Value) (l : List (BitVec 8)) (pos : Nat) (bad : Bool) (w : World) (n : Nat) (hn : n ≤ 140737488355328) (h : InS w g v l pos bad) (hl : l.length ≤ 9223372036854775807) :
    Calls Tryz.prog 71 #[.pointer (some ⟨g, 0, none⟩), .int .i64 (n : Int)] w fun e w' => InDoes g v l w (if bad then none else cut n (l.drop pos)) (fun a w' u => OwnB w' w.heap.size u a) (fun u => u = .slice none 0 0) e w' := by
  have HI : Hid (InS w g v l pos bad) := h
  have c1 : w.cell? ⟨g, 1, none⟩ = some (.int .i64 (pos : Int)) := h.blk.cell 1
  have c2 : w.cell? ⟨g, 2, none⟩ = some (.bool bad) := h.blk.cell 2
  have f1 : w.frozen? ⟨g, 1, none⟩ = false := h.blk.frozen 1
  have f2 : w.frozen? ⟨g, 2, none⟩ = false := h.blk.frozen 2
  obtain ⟨ad, cap, hv, hcap, hnn, _⟩ := id h.byt
  obtain ⟨m, HM⟩ : ∃ m, Hid (m = l.length) := ⟨_, rfl⟩
  rw [← HM.out] at hv hcap
  subst hv
  have c0 : w.cell? ⟨g, 0, none⟩ = some (.slice ad m cap) := h.blk.cell 0
  have HPM : Hid (pos ≤ m) := by show _ ≤ _; rw [HM.out]; exact h.le
  have hpm := HPM.out
  have hmx : m ≤ 9223372036854775807 := by rw [HM.out]; exact hl
  have hsub : IntKind.i64.wrap ((m : Int) - (pos : Int)) = (m : Int) - (pos : Int) := by rw [IntKind.wrap_i64]; omega
  clear h hl
  cases bad with
  | true =>
    have HF : Hid (∀ k, InDoes g (.slice ad m cap) l w none (fun (a : List (BitVec 8)) w' u => OwnB w' w.heap.size u a) (fun u => u = .slice none 0 0) (.returned (.slice none 0 0)) ((w.drewN k).setCell ⟨g, 2, none⟩ (.bool true))) := fun k =>
      Or.inr ⟨rfl, _, _, rfl, rfl, (HI.out.drewN k).setBad true, ((Only.refl _ _).drewN k).setCell _ _⟩
    clear HI
    go_enter Tryz.func71, Tryz.ntmps71
    go_wp2
    go_quiet (fail)
    go_wp2
    go_ret
    exact HF.out _
  | false =>
    by_cases hle : n ≤ m - pos
    · have hng : ¬ ((m : Int) - (pos : Int) < (n : Int)) := by omega
      have hadd : IntKind.i64.wrap ((pos : Int) + (n : Int)) = (pos : Int) + (n : Int) := by rw [IntKind.wrap_i64]; omega
      have hsub2 : IntKind.i64.wrap ((pos : Int) + (n : Int) - (n : Int)) = (pos : Int) := by rw [IntKind.wrap_i64]; omega
      go_enter Tryz.func71, Tryz.ntmps71
      go_wp2
      go_quiet (fail)
      go_wp2
      have HS3 : Hid (InS ((w.drewN nq).setCell ⟨g, 1, none⟩ (.int .i64 ((pos : Int) + (n : Int)))) g (.slice ad m cap) l (pos + n) false) := (HI.out.drewN nq).setPos (pos + n) (by rw [← HM.out]; omega)
      have HO3 : Hid (Only g w ((w.drewN nq).setCell ⟨g, 1, none⟩ (.int .i64 ((pos : Int) + (n : Int))))) := ((Only.refl _ _).drewN nq).setCell _ _
      generalize (w.drewN nq).setCell ⟨g, 1, none⟩ (.int .i64 ((pos : Int) + (n : Int))) = w3 at *
      have d0 : w3.cell? ⟨g, 0, none⟩ = some (.slice ad m cap) := HS3.out.blk.cell 0
      have d1 : w3.cell? ⟨g, 1, none⟩ = some (.int .i64 ((pos : Int) + (n : Int))) := HS3.out.blk.cell 1
      clear c0 c1 c2 f1 f2 HI
      have hsl := slice_mid4 ad m cap pos n (by omega)
      have hwp : IntKind.i64.wrap (pos : Int) = (pos : Int) := by rw [IntKind.wrap_i64]; omega
      have HR3 : Hid (∀ k, Reads (w3.drewN k) (.slice (cutAd ad pos cap) n (cap - pos)) ((l.drop pos).take n)) := fun k => HS3.out.byt.mid pos n (by rw [← HM.out]; omega)
      have HLEN : Hid (((l.drop pos).take n).length ≤ 140737488355328) := by show _ ≤ _; rw [List.length_take, List.length_drop, ← HM.out]; omega
      obtain ⟨S, HSd⟩ : ∃ S : World → Prop, Hid (S = fun w' => w'.cell? ⟨g, 0, none⟩ = some (.slice ad m cap) ∧ w'.cell? ⟨g, 1, none⟩ = some (.int .i64 ((pos : Int) + (n : Int)))) := ⟨_, rfl⟩
      have hS0 : S w3.drew := by rw [HSd.out]; exact ⟨d0, d1⟩
      have hSS : ∀ wx, S wx → wx.cell? ⟨g, 0, none⟩ = some (.slice ad m cap) ∧ wx.cell? ⟨g, 1, none⟩ = some (.int .i64 ((pos : Int) + (n : Int))) := fun wx h => by rw [HSd.out] at h; exact h
      refine wp_region_held_drew (S := S) (by kernel_rfl) hS0 (fun _ => ?_)
      refine wpAnyH_take (i := 0) (v := .slice none 0 0) rfl (by kernel_rfl) (by kernel_rfl) (by kernel_rfl) (fun _ _ _ h => h) (Or.inl ⟨by rfl, fun wx _ => by simp [go_sem]⟩) hS0 ?_
      simp only [Act.put, List.getElem_toArray, List.getElem_cons_zero, List.setIfInBounds_toArray, List.set_cons_zero, List.set_cons_succ]
      refine wpAnyH_take (i := 1) (v := .pointer (some ⟨g, 0, none⟩)) rfl (by kernel_rfl) (by kernel_rfl) (by kernel_rfl) (fun _ _ _ h => h) (Or.inl ⟨by rfl, fun wx _ => by simp [go_sem]⟩) hS0 ?_
      simp only [Act.put, List.getElem_toArray, List.getElem_cons_succ, List.getElem_cons_zero, List.setIfInBounds_toArray, List.set_cons_zero, List.set_cons_succ]
      refine wpAnyH_take (i := 2) (v := .pointer (some ⟨g, 0, none⟩)) rfl (by kernel_rfl) (by kernel_rfl) (by kernel_rfl) (fun _ _ _ h => h) (Or.inl ⟨by rfl, fun wx _ => by simp [go_sem]⟩) hS0 ?_
      simp only [Act.put, List.getElem_toArray, List.getElem_cons_succ, List.getElem_cons_zero, List.setIfInBounds_toArray, List.set_cons_zero, List.set_cons_succ]
      refine wpAnyH_take (i := 3) (v := .pointer (some ⟨g, 0, none⟩)) rfl (by kernel_rfl) (by kernel_rfl) (by kernel_rfl) (fun _ _ _ h => h) (Or.inl ⟨by rfl, fun wx _ => by simp [go_sem]⟩) hS0 ?_
      simp only [Act.put, List.getElem_toArray, List.getElem_cons_succ, List.getElem_cons_zero, List.setIfInBounds_toArray, List.set_cons_zero, List.set_cons_succ]
      refine wpAnyH_take (i := 4) (v := .slice ad m cap) rfl (by kernel_rfl) (by kernel_rfl) (by kernel_rfl) (fun _ _ _ h => h) (Or.inl ⟨by rfl, fun wx hS => by simp [go_sem, (hSS wx hS).1]⟩) hS0 ?_
      simp only [Act.put, List.getElem_toArray, List.getElem_cons_succ, List.getElem_cons_zero, List.setIfInBounds_toArray, List.set_cons_zero, List.set_cons_succ]
      refine wpAnyH_take (i := 5) (v := .pointer (some ⟨g, 0, none⟩)) rfl (by kernel_rfl) (by kernel_rfl) (by kernel_rfl) (fun _ _ _ h => h) (Or.inl ⟨by rfl, fun wx _ => by simp [go_sem]⟩) hS0 ?_
      simp only [Act.put, List.getElem_toArray, List.getElem_cons_succ, List.getElem_cons_zero, List.setIfInBounds_toArray, List.set_cons_zero, List.set_cons_succ]
      refine wpAnyH_take (i := 6) (v := .pointer (some ⟨g, 0, none⟩)) rfl (by kernel_rfl) (by kernel_rfl) (by kernel_rfl) (fun _ _ _ h => h) (Or.inl ⟨by rfl, fun wx _ => by simp [go_sem]⟩) hS0 ?_
      simp only [Act.put, List.getElem_toArray, List.getElem_cons_succ, List.getElem_cons_zero, List.setIfInBounds_toArray, List.set_cons_zero, List.set_cons_succ]
      refine wpAnyH_take (i := 7) (v := .pointer (some ⟨g, 1, none⟩)) rfl (by kernel_rfl) (by kernel_rfl) (by kernel_rfl) (fun _ _ _ h => h) (Or.inl ⟨by rfl, fun wx _ => by simp [go_sem]⟩) hS0 ?_
      simp only [Act.put, List.getElem_toArray, List.getElem_cons_succ, List.getElem_cons_zero, List.setIfInBounds_toArray, List.set_cons_zero, List.set_cons_succ]
      refine wpAnyH_take (i := 8) (v := .int .i64 ((pos : Int) + (n : Int))) rfl (by kernel_rfl) (by kernel_rfl) (by kernel_rfl) (fun _ _ _ h => h) (Or.inl ⟨by rfl, fun wx hS => by simp [go_sem, (hSS wx hS).2]⟩) hS0 ?_
      simp only [Act.put, List.getElem_toArray, List.getElem_cons_succ, List.getElem_cons_zero, List.setIfInBounds_toArray, List.set_cons_zero, List.set_cons_succ]
      refine wpAnyH_take (i := 9) (v := .int .i64 (n : Int)) rfl (by kernel_rfl) (by kernel_rfl) (by kernel_rfl) (fun _ _ _ h => h) (Or.inl ⟨by rfl, fun wx _ => by simp [go_sem]⟩) hS0 ?_
      simp only [Act.put, List.getElem_toArray, List.getElem_cons_succ, List.getElem_cons_zero, List.setIfInBounds_toArray, List.set_cons_zero, List.set_cons_succ]
      refine wpAnyH_take (i := 10) (v := .int .i64 (pos : Int)) rfl (by kernel_rfl) (by kernel_rfl) (by kernel_rfl) (fun _ _ _ h => h) (Or.inl ⟨by rfl, fun wx _ => by simp [go_sem, hwp]⟩) hS0 ?_
      simp only [Act.put, List.getElem_toArray, List.getElem_cons_succ, List.getElem_cons_zero, List.setIfInBounds_toArray, List.set_cons_zero, List.set_cons_succ]
      refine wpAnyH_take (i := 11) (v := .pointer (some ⟨g, 0, none⟩)) rfl (by kernel_rfl) (by kernel_rfl) (by kernel_rfl) (fun _ _ _ h => h) (Or.inl ⟨by rfl, fun wx _ => by simp [go_sem]⟩) hS0 ?_
      simp only [Act.put, List.getElem_toArray, List.getElem_cons_succ, List.getElem_cons_zero, List.setIfInBounds_toArray, List.set_cons_zero, List.set_cons_succ]
      refine wpAnyH_take (i := 12) (v := .pointer (some ⟨g, 0, none⟩)) rfl (by kernel_rfl) (by kernel_rfl) (by kernel_rfl) (fun _ _ _ h => h) (Or.inl ⟨by rfl, fun wx _ => by simp [go_sem]⟩) hS0 ?_
      simp only [Act.put, List.getElem_toArray, List.getElem_cons_succ, List.getElem_cons_zero, List.setIfInBounds_toArray, List.set_cons_zero, List.set_cons_succ]
      refine wpAnyH_take (i := 13) (v := .pointer (some ⟨g, 1, none⟩)) rfl (by kernel_rfl) (by kernel_rfl) (by kernel_rfl) (fun _ _ _ h => h) (Or.inl ⟨by rfl, fun wx _ => by simp [go_sem]⟩) hS0 ?_
      simp only [Act.put, List.getElem_toArray, List.getElem_cons_succ, List.getElem_cons_zero, List.setIfInBounds_toArray, List.set_cons_zero, List.set_cons_succ]
      refine wpAnyH_take (i := 14) (v := .int .i64 ((pos : Int) + (n : Int))) rfl (by kernel_rfl) (by kernel_rfl) (by kernel_rfl) (fun _ _ _ h => h) (Or.inl ⟨by rfl, fun wx hS => by simp [go_sem, (hSS wx hS).2]⟩) hS0 ?_
      simp only [Act.put, List.getElem_toArray, List.getElem_cons_succ, List.getElem_cons_zero, List.setIfInBounds_toArray, List.set_cons_zero, List.set_cons_succ]
      refine wpAnyH_take (i := 15) (v := .slice (cutAd ad pos cap) n (cap - pos)) rfl (by kernel_rfl) (by kernel_rfl) (by kernel_rfl) (fun _ _ _ h => h) (Or.inl ⟨by rfl, fun wx _ => by simp [go_sem, hsl]⟩) hS0 ?_
      simp only [Act.put, List.getElem_toArray, List.getElem_cons_succ, List.getElem_cons_zero, List.setIfInBounds_toArray, List.set_cons_zero, List.set_cons_succ]
      refine wpAnyH_law 16 (by kernel_rfl) rfl (by rfl) (wp_appendB (.tmp 36) (.tmp 51) rfl _ ((l.drop pos).take n) rfl rfl (HR3.out 1) HLEN.out ?_)
      intro v4 w4 hown4 hbel4
      have HSx : S w4 := by rw [HSd.out]; exact ⟨by rw [hbel4.cell (p := ⟨g, 0, none⟩) (block_lt_of_cell d0)]; exact d0, by rw [hbel4.cell (p := ⟨g, 1, none⟩) (block_lt_of_cell d1)]; exact d1⟩
      refine ⟨HSx, ?_⟩
      simp only [Act.put, List.getElem_toArray, List.getElem_cons_succ, List.getElem_cons_zero, List.setIfInBounds_toArray, List.set_cons_zero, List.set_cons_succ]
      have HF : Hid (InDoes g (.slice ad m cap) l w (cut n (l.drop pos)) (fun (a : List (BitVec 8)) w' u => OwnB w' w.heap.size u a) (fun u => u = .slice none 0 0) (.returned v4) w4) := by
        have hb3 : Below w3.heap.size w3 w4 := (Below.refl _ _).drew.trans hbel4
        refine Or.inl ⟨(l.drop pos).take n, pos + n, v4, ?_, rfl, hown4.mono HO3.out.size, HS3.out.below hb3, HO3.out.trans (Only.of_below hb3)⟩
        unfold cut
        rw [if_pos (by rw [List.length_drop, ← HM.out]; exact hle), List.drop_drop]
      clear hown4 hbel4
      refine wpAnyH_take (i := 17) (v := v4) rfl (by kernel_rfl) (by kernel_rfl) (by kernel_rfl) (fun _ _ _ h => h) (Or.inl ⟨by rfl, fun wx _ => by simp [go_sem]⟩) HSx ?_
      simp only [Act.put, List.getElem_toArray, List.getElem_cons_succ, List.getElem_cons_zero, List.setIfInBounds_toArray, List.set_cons_zero, List.set_cons_succ]
      refine wpAnyH_done (by kernel_rfl) ?_ _
      go_wp2
      go_ret
      exact HF.out
    · have hgt : (m : Int) - (pos : Int) < (n : Int) := by omega
      have HC : Hid (cut n (l.drop pos) = none) := by show cut n _ = _; unfold cut; rw [if_neg (by rw [List.length_drop, ← HM.out]; omega)]
      have HF : Hid (∀ k, InDoes g (.slice ad m cap) l w (cut n (l.drop pos)) (fun (a : List (BitVec 8)) w' u => OwnB w' w.heap.size u a) (fun u => u = .slice none 0 0) (.returned (.slice none 0 0)) ((w.drewN k).setCell ⟨g, 2, none⟩ (.bool true))) := fun k =>
        Or.inr ⟨HC.out, _, _, rfl, rfl, (HI.out.drewN k).setBad true, ((Only.refl _ _).drewN k).setCell _ _⟩
      clear HI
      go_enter Tryz.func71, Tryz.ntmps71
      go_wp2
      go_quiet (fail)
      go_wp2
      go_ret
      exact HF.out _
end Go.Proofs.YtopmeedmgjdcgaaGreatDoor
/- The walks of the reference's reader: Text, Digest, Done. -/
namespace Go.Proofs.YtopmeedmgjdcgaaGreatDoor
open Go.RowKit
set_option maxRecDepth 100000
theorem readText_count (l : List (BitVec 8)) : readText l = match readCount 1048576 l with | none => none | some (n, r) => cut n r := by
  unfold readText readCount
  cases readNum l with
  | none => rfl
  | some p =>
    obtain ⟨n, r⟩ := p
    simp only
    by_cases h1 : n ≤ 1048576
    · simp only [if_pos h1]
      unfold cut
      by_cases h2 : n ≤ r.length
      · rw [if_pos ⟨h1, h2⟩, if_pos h2]
      · rw [if_neg (by omega), if_neg h2]
    · rw [if_neg (by omega), if_neg h1]
theorem readCount_le {most n : Nat} {l r : List (BitVec 8)} (h : readCount most l = some (n, r)) : n ≤ most := by
  unfold readCount at h
  split at h
  · cases h
  · split at h
    · simp only [Option.some.injEq, Prod.mk.injEq] at h; omega
    · cases h
set_option maxHeartbeats 400000 in
theorem intext_any (g : Nat) (v : Value) (l : List (BitVec 8)) (pos : Nat) (bad : Bool) (w : World) (h : InS w g v l pos bad) (hl : l.length ≤ 9223372036854775807) :
    Calls Tryz.prog 44 #[.pointer (some ⟨g, 0, none⟩)] w fun e w' => InDoes g v l w (if bad then none else readText (l.drop pos)) (fun a w' u => OwnB w' w.heap.size u a) (fun u => u = .slice none 0 0) e w' := by
  have HI : Hid (InS w g v l pos bad) := h
  have HL : Hid (l.length ≤ 9223372036854775807) := hl
  obtain ⟨oo, HOO⟩ : ∃ x, Hid (x = if bad then none else readText (l.drop pos)) := ⟨_, rfl⟩
  rw [← HOO.out]
  clear h hl
  go_enter Tryz.func44, Tryz.ntmps44
  go_wp2_with fail
  refine (incount_any g v l pos bad w 1048576 (by omega) HI.out (by have := HL.out; omega)).mono ?_
  rintro e w1 (⟨n, p, u, ho, rfl, rfl, hs, hon⟩ | ⟨ho, u, p, rfl, rfl, hs, hon⟩)
  · have HC : Hid (oo = cut n (l.drop p) ∧ n ≤ 1048576) := by
      cases bad with
      | true => simp at ho
      | false =>
        simp only [Bool.false_eq_true, if_false] at ho
        exact ⟨by rw [HOO.out]; simp only [Bool.false_eq_true, if_false]; rw [readText_count, ho], readCount_le ho⟩
    have HS : Hid (InS w1 g v l p false) := hs
    have HON : Hid (Only g w w1) := hon
    clear hs hon ho HI
    go_wp2_with fail
    refine (intake_any g v l p false w1 n (by have := HC.out.2; omega) HS.out HL.out).mono ?_
    rintro e w2 (⟨a, q, u, ho, rfl, hu, hs2, hon2⟩ | ⟨ho, u, q, rfl, hu, hs2, hon2⟩)
    · have HF : Hid (InDoes g v l w oo (fun (a : List (BitVec 8)) w' u => OwnB w' w.heap.size u a) (fun u => u = .slice none 0 0) (.returned u) w2) :=
        Or.inl ⟨a, q, u, by rw [HC.out.1]; simpa using ho, rfl, hu.mono HON.out.size, hs2, HON.out.trans hon2⟩
      clear ho hu hs2 hon2 HC HS HON
      go_wp2
      go_ret
      exact HF.out
    · have HF : Hid (InDoes g v l w oo (fun (a : List (BitVec 8)) w' u => OwnB w' w.heap.size u a) (fun u => u = .slice none 0 0) (.returned u) w2) :=
        Or.inr ⟨by rw [HC.out.1]; simpa using ho, u, q, rfl, hu, hs2, HON.out.trans hon2⟩
      clear ho hu hs2 hon2 HC HS HON
      go_wp2
      go_ret
      exact HF.out
  · have HC : Hid (oo = none) := by
      show _ = _
      rw [HOO.out]
      cases bad with
      | true => rfl
      | false =>
        simp only [Bool.false_eq_true, if_false] at ho ⊢
        rw [readText_count, ho]
    have HS : Hid (InS w1 g v l p true) := hs
    have HON : Hid (Only g w w1) := hon
    clear hs hon ho HI
    go_wp2_with fail
    refine (intake_any g v l p true w1 0 (by omega) HS.out HL.out).mono ?_
    rintro e w2 (⟨a, q, u, ho, rfl, hu, hs2, hon2⟩ | ⟨ho, u, q, rfl, hu, hs2, hon2⟩)
    · simp at ho
    · have HF : Hid (InDoes g v l w oo (fun (a : List (BitVec 8)) w' u => OwnB w' w.heap.size u a) (fun u => u = .slice none 0 0) (.returned u) w2) :=
        Or.inr ⟨HC.out, u, q, rfl, hu, hs2, HON.out.trans hon2⟩
      clear ho hu hs2 hon2 HC HS HON
      go_wp2
      go_ret
      exact HF.out
set_option maxRecDepth 100000 in
set_option maxHeartbeats 400000 in
theorem indone_any (g : Nat) (v : Value) (l : List (BitVec 8)) (pos : Nat) (bad : Bool) (w : World) (h : InS w g v l pos bad) :
    Calls Tryz.prog 45 #[.pointer (some ⟨g, 0, none⟩)] w fun e w' => e = .returned (.bool (!bad && decide (pos = l.length))) ∧ ∃ k, w' = w.drewN k := by
  have c1 : w.cell? ⟨g, 1, none⟩ = some (.int .i64 (pos : Int)) := h.blk.cell 1
  have c2 : w.cell? ⟨g, 2, none⟩ = some (.bool bad) := h.blk.cell 2
  obtain ⟨ad, cap, hv, hcap, hnn, _⟩ := id h.byt
  obtain ⟨m, HM⟩ : ∃ m, Hid (m = l.length) := ⟨_, rfl⟩
  rw [← HM.out] at hv ⊢
  subst hv
  have c0 : w.cell? ⟨g, 0, none⟩ = some (.slice ad m cap) := h.blk.cell 0
  have hnot : ∀ (x : Bool) (w : World), (Op.unary .not (.bool x)).run Tryz.prog w = .ok (.bool (!x)) w := fun _ _ => rfl
  clear h
  cases bad with
  | true =>
    go_enter Tryz.func45, Tryz.ntmps45
    go_wp2
    go_quiet (fail)
    go_wp2
    go_ret
    exact ⟨by simp, _, rfl⟩
  | false =>
    by_cases he : pos = m
    · subst he
      go_enter Tryz.func45, Tryz.ntmps45
      go_wp2
      go_quiet (fail)
      go_wp2
      go_ret
      exact ⟨by simp, _, rfl⟩
    · have hei : ¬ ((pos : Int) = (m : Int)) := by omega
      go_enter Tryz.func45, Tryz.ntmps45
      go_wp2
      go_quiet (fail)
      go_wp2
      go_ret
      exact ⟨by simp [he]; omega, _, rfl⟩
def fillD (a : List (BitVec 8)) : Nat → List (BitVec 8)
  | 0 => zb32
  | k + 1 => (fillD a k).set k (a.getD k 0)
structure DgInv4 (D : Nat) (a : List (BitVec 8)) (w2 : World) (u : Value) (k : Nat) (wr : World) : Prop where
  le : k ≤ a.length
  res : Blk wr D (cb zb32) 155
  out : Blk wr (D + 1) (cb (fillD a k)) 155
  own : OwnB wr (D + 2) u a
  onl : Only (D + 1) w2 wr
end Go.Proofs.YtopmeedmgjdcgaaGreatDoor

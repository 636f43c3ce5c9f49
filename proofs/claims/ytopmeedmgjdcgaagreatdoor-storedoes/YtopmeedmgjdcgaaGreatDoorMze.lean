/- Texts that the proof leans on, one behind the other: The walks of the reference's Batch and of the statements' light (layer 15). The walks of the reader's Fail and take: bytes from their front on; what is thrown. The walks of the reader's Num and Count. .. -/
import Derived.Test.YtopmeedmgjdcgaaGreatDoorMzd
import Derived.Defers
import Derived.Recover
import Derived.Laws.Pointers
import Derived.BigQuiet
import Derived.Deep.RegionHeld3
import Derived.Laws.Rows
set_option maxRecDepth 100000
set_option maxHeartbeats 16000000
namespace Go.Proofs.YtopmeedmgjdcgaaGreatDoor
open Go.RowKit
theorem build_y1 (f : Operand → Value) (o : Oper) (b : BitVec 8) (ho : o.op = .buildSlice 23 1 #[(0, .const (.int .u8 (b.toNat : Int)))]) (hf : f (.const (.int .u8 (b.toNat : Int))) = .int .u8 (b.toNat : Int)) (w : World) : (execOp f o).run Tryz.prog w = .ok (.value (.slice (some ⟨w.heap.size, 0, none⟩) 1 1)) (w.alloc (.cells (cb [b]).toArray 5)) := by
 unfold execOp
 rw [ho]
 simp only [List.map_toArray, List.map_cons, List.map_nil, hf]
 kernel_rfl
theorem wpSeq_buildY1 {ops : Array Oper} {Q : Exit → Act → World → Prop} {rest : List Oper} {o : Oper} {a : Act} {w : World} (b : BitVec 8) (ho : o.op = .buildSlice 23 1 #[(0, .const (.int .u8 (b.toNat : Int)))]) (hw : Region.wanted o (yielded ops a.tmps) = true)
 (h : ∀ g w', NewR (cb [b]) 5 w g w' → wpList Tryz.prog ops Q rest (a.put o.dst (.slice (some ⟨g, 0, none⟩) 1 1)) w') : wpList Tryz.prog ops Q (o :: rest) a w :=
 wpSeq_val _ _ hw (build_y1 _ _ b ho rfl _) (h _ _ (NewR.of _ _ w))
theorem oBatch_any (v : Value) (l : List ActT) (w : World) (hr : ReadsA w v l) (hz : okZ l) : Calls Tryz.prog 18 #[v] w fun e w' => ∃ vb, e = .returned vb ∧ OwnB w' w.heap.size vb (batchB l) ∧ Below w.heap.size w w' := by
 have HR : Hid (ReadsA w v l) := hr
 have HZ : Hid (okZ l) := hz
 obtain ⟨n, HN⟩ := sqn (l.length)
 obtain ⟨ad, c, hv⟩ := hr.form
 rw [← HN.out] at hv
 subst hv
 have HNB : Hid (n ≤ 1000000) := by rw [HN.out]; exact hz.n
 have f0 : IntKind.u64.wrap (n : Int) = (n : Int) := by rw [IntKind.wrap_u64]; have := HNB.out; omega
 clear hr hz
 go_enter Tryz.func18, Tryz.ntmps18
 have tk0 : Hid True := trivial
 go_wp2_with (first
  | (clear tk0; go_at_call 47; refine (qnum_any n (by have := HNB.out; omega) _).mono ?_; rintro e0 y1 ⟨v1, rfl, ho1, hb1⟩
     have HB0 : Hid (OwnB y1 w.heap.size v1 (encNum l.length ++ encAll encA (l.take 0))) := by
      show OwnB _ _ _ _; rw [← HN.out, List.take_zero, show encAll encA [] = [] from rfl, List.append_nil]; exact ho1
     have HB1 : Hid (Below w.heap.size w y1) := hb1; obtain ⟨a1, n1, c1, hv1⟩ := ho1.reads.form; subst hv1; clear ho1 hb1))
 clear f0
 go_loopw [3, 4] (fun bv iv W => ∃ (ab : Option Addr) (nb cb i : Nat), bv = .slice ab nb cb ∧ iv = .int .i64 (i : Int) ∧ i ≤ n ∧ Hid (OwnB W w.heap.size (.slice ab nb cb) (encNum l.length ++ encAll encA (l.take i))) ∧ Hid (Below w.heap.size w W)) (fun _ iv _ => n - (intOf iv).toNat)
 case atStart => exact ⟨a1, n1, c1, 0, rfl, rfl, Nat.zero_le _, HB0, HB1⟩
 case round =>
  clear HB0 HB1
  obtain ⟨ab, nb, cbb, i, rfl, rfl, hi, HBB, HBW⟩ := hrel
  by_cases hin : i < n
  case neg =>
   have hlk : ¬ ((i : Int) < (n : Int)) := by omega
   have hall : encNum l.length ++ encAll encA (l.take i) = batchB l := by rw [List.take_of_length_le (by rw [← HN.out]; omega)]; rfl
   rw [hall] at HBB; have HBF : Hid (OwnB wr w.heap.size (.slice ab nb cbb) (batchB l)) := HBB.out; go_wp2; go_ret; exact ⟨_, rfl, HBF.out, HBW.out⟩
  case pos =>
   have hlk : (i : Int) < (n : Int) := by omega
   have f1 : IntKind.i64.wrap ((i : Int) + 1) = (i : Int) + 1 := by rw [IntKind.wrap_i64]; have := HNB.out; omega
   have HIN : Hid (i < n) := hin; have hil : i < l.length := by rw [← HN.out]; exact hin
   obtain ⟨b, off, vd, rfl, hrg, hrd⟩ := HR.out.at hil; have hbt := batch_take hil; obtain ⟨a, HA⟩ : ∃ a, Hid (a = l.getD i ⟨[], false, []⟩) := ⟨_, rfl⟩; have hmem : a ∈ l := by rw [HA.out, List.getD_eq_getElem?_getD, List.getElem?_eq_getElem hil]; exact List.getElem_mem hil
   rw [← HA.out] at hrg hrd hbt; obtain ⟨ks, HKS⟩ := sqn (strB a.key); obtain ⟨st, HST⟩ := sqn (a.set); obtain ⟨av, nv, cv, hvd⟩ := hrd.form; subst hvd; obtain ⟨bl, HBL⟩ := sqn (encNum l.length ++ encAll encA (l.take i)); rw [← HBL.out] at HBB hbt; have HBT : Hid (encNum l.length ++ encAll encA (l.take (i + 1)) = bl ++ (encText a.key ++ (if st then encNum 1 ++ encText a.data else encNum 0))) := by show _ = _; rw [hbt, encA, HST.out]
   have HLN : Hid (bl.length + (encText a.key).length + (encText a.data).length + 100 ≤ 10000000000 ∧ a.key.length + 10 ≤ 10000000000 ∧ a.data.length + 10 ≤ 10000000000) := by
    have h1 := batch_pre l i; rw [← HBL.out] at h1; have h2 := HZ.out.z; have h3 := encA_big hmem; have h4 := encA_len a; have h5 := HZ.out.d a hmem; have h6 : (encText a.key).length ≤ (encA a).length := by rw [encA, List.length_append]; omega
    have h7 : (encText a.data).length ≤ a.data.length + 10 := by rw [encText, List.length_append]; have := enc_len10 a.data.length (by omega); omega
    refine ⟨by omega, ?_, by omega⟩
    split at h4 <;> omega
   have HCL : Hid (∀ W, Below w.heap.size w W → W.rangeAt b (off + i * 3) [.string ks, .bool st, .slice av nv cv]) := fun W hW => by rw [HKS.out, HST.out]; exact range_below hrg hW (block_lt_of_cell (hrg 0 _ rfl))
   have HDD : Hid (∀ W, Below w.heap.size w W → Reads W (.slice av nv cv) a.data) := fun W hW => hrd.below hW
   clear hrg hrd hbt hmem hil; have c0 : wr.cell? ⟨b, off + i * 3, none⟩ = some (.string ks) := HCL.out wr HBW.out 0 _ rfl
   cases st with
   | false =>
    obtain ⟨tk0, tk1, tk2, tk3, tk4, tk5, tk6⟩ := sqk7
    go_wp2_with (first
     | (clear tk0; with_reducible refine wpSeq_idxA (.tmp 16) (.tmp 17) b off n c i HIN.out ?_ ?_ ?_ ?_ ?_
        · rfl
        · rfl
        · rfl
        · rfl)
     | (clear tk1; with_reducible refine wpSeq_convS (.tmp 20) ks a.key HKS.out ?_ ?_ ?_ ?_
        · rfl
        · rfl
        · rfl
        intro ak nk ck y2 hrk hbk; have HRK : Hid (Reads y2 (.slice ak nk ck) a.key) := hrk; have HB2 : Hid (Below w.heap.size w y2) := HBW.out.trans (hbk.mono HBW.out.size); have HO2 : Hid (OwnB y2 w.heap.size (.slice ab nb cbb) bl) := HBB.out.newS hbk; clear hrk hbk c0)
     | (clear tk2; go_at_call 48; refine (qtext_any _ a.key _ HRK.out (by have := HLN.out; omega)).mono ?_; rintro e0 y3 ⟨v3, rfl, hr3, hb3⟩
        have HR3 : Hid (Reads y3 v3 (encText a.key)) := hr3; have HB3 : Hid (Below w.heap.size w y3) := HB2.out.trans (hb3.mono HB2.out.size); have HO3 : Hid (OwnB y3 w.heap.size (.slice ab nb cbb) bl) := HO2.out.newS hb3; obtain ⟨a3, n3, c3, hv3⟩ := hr3.form; subst hv3; clear hr3 hb3)
     | (clear tk3; at_builtin; refine wpList_appendB rfl (.tmp 15) (.tmp 22) rfl w.heap.size _ bl rfl HO3.out _ (encText a.key) rfl HR3.out (by have := HLN.out; omega) HB3.out.size ?_
        intro v4 y4 ho4 hb4 _; have HO4 : Hid (OwnB y4 w.heap.size v4 (bl ++ encText a.key)) := ho4; have HB4 : Hid (Below w.heap.size w y4) := HB3.out.trans hb4; obtain ⟨a4, n4, c4, hv4⟩ := ho4.reads.form; subst hv4; have c1 : y4.cell? ⟨b, off + i * 3 + 1, none⟩ = some (.bool false) := HCL.out y4 HB4.out 1 _ rfl; clear ho4 hb4)
     | (clear tk4; with_reducible refine wpSeq_idxA (.tmp 24) (.tmp 25) b off n c i HIN.out ?_ ?_ ?_ ?_ ?_
        · rfl
        · rfl
        · rfl
        · rfl)
     | (clear tk5; with_reducible refine wpSeq_buildY1 0 ?_ ?_ ?_
        · rfl
        · rfl
        intro g5 y5 nn; have HR5 : Hid (Reads y5 (.slice (some ⟨g5, 0, none⟩) 1 1) [0]) := nn.blk.reads rfl (Nat.le_refl _); have HB5 : Hid (Below w.heap.size w y5) := HB4.out.trans (nn.below.mono HB4.out.size); have HO5 : Hid (OwnB y5 w.heap.size (.slice a4 n4 c4) (bl ++ encText a.key)) := HO4.out.newS nn.below; clear nn c1)
     | (clear tk6; at_builtin; refine wpList_appendB rfl (.tmp 40) (.tmp 41) rfl w.heap.size _ _ rfl HO5.out _ [0] rfl HR5.out (by rw [List.length_append]; have := HLN.out; simp; omega) HB5.out.size ?_
        intro v9 y9 ho9 hb9 _
        have HO9 : Hid (OwnB y9 w.heap.size v9 (encNum l.length ++ encAll encA (l.take (i + 1)))) := by
         have hbt := HBT.out; simp only [Bool.false_eq_true, if_false] at hbt; show OwnB _ _ _ _; rw [hbt, ← List.append_assoc, encNum_lt (by decide)]
         exact ho9
        have HB9 : Hid (Below w.heap.size w y9) := HB5.out.trans hb9; obtain ⟨a9, n9, c9, hv9⟩ := ho9.reads.form; subst hv9; clear ho9 hb9))
    go_roundw
    case rel => exact ⟨a9, n9, c9, i + 1, rfl, by simp, by omega, HO9, HB9⟩
    case measure => simp [intOf]; omega
   | true =>
    obtain ⟨tk0, tk1, tk2, tk3, tk4, tk5, tk6, tk7, tk8, tk9⟩ := sqk10
    go_wp2_with (first
     | (clear tk0; with_reducible refine wpSeq_idxA (.tmp 16) (.tmp 17) b off n c i HIN.out ?_ ?_ ?_ ?_ ?_
        · rfl
        · rfl
        · rfl
        · rfl)
     | (clear tk1; with_reducible refine wpSeq_convS (.tmp 20) ks a.key HKS.out ?_ ?_ ?_ ?_
        · rfl
        · rfl
        · rfl
        intro ak nk ck y2 hrk hbk; have HRK : Hid (Reads y2 (.slice ak nk ck) a.key) := hrk; have HB2 : Hid (Below w.heap.size w y2) := HBW.out.trans (hbk.mono HBW.out.size); have HO2 : Hid (OwnB y2 w.heap.size (.slice ab nb cbb) bl) := HBB.out.newS hbk; clear hrk hbk c0)
     | (clear tk2; go_at_call 48; refine (qtext_any _ a.key _ HRK.out (by have := HLN.out; omega)).mono ?_; rintro e0 y3 ⟨v3, rfl, hr3, hb3⟩
        have HR3 : Hid (Reads y3 v3 (encText a.key)) := hr3; have HB3 : Hid (Below w.heap.size w y3) := HB2.out.trans (hb3.mono HB2.out.size); have HO3 : Hid (OwnB y3 w.heap.size (.slice ab nb cbb) bl) := HO2.out.newS hb3; obtain ⟨a3, n3, c3, hv3⟩ := hr3.form; subst hv3; clear hr3 hb3)
     | (clear tk3; at_builtin; refine wpList_appendB rfl (.tmp 15) (.tmp 22) rfl w.heap.size _ bl rfl HO3.out _ (encText a.key) rfl HR3.out (by have := HLN.out; omega) HB3.out.size ?_
        intro v4 y4 ho4 hb4 _; have HO4 : Hid (OwnB y4 w.heap.size v4 (bl ++ encText a.key)) := ho4; have HB4 : Hid (Below w.heap.size w y4) := HB3.out.trans hb4; obtain ⟨a4, n4, c4, hv4⟩ := ho4.reads.form; subst hv4; have c1 : y4.cell? ⟨b, off + i * 3 + 1, none⟩ = some (.bool true) := HCL.out y4 HB4.out 1 _ rfl; clear ho4 hb4)
     | (clear tk4; with_reducible refine wpSeq_idxA (.tmp 24) (.tmp 25) b off n c i HIN.out ?_ ?_ ?_ ?_ ?_
        · rfl
        · rfl
        · rfl
        · rfl)
     | (clear tk5; with_reducible refine wpSeq_buildY1 1 ?_ ?_ ?_
        · rfl
        · rfl
        intro g5 y5 nn; have HR5 : Hid (Reads y5 (.slice (some ⟨g5, 0, none⟩) 1 1) [1]) := nn.blk.reads rfl (Nat.le_refl _); have HB5 : Hid (Below w.heap.size w y5) := HB4.out.trans (nn.below.mono HB4.out.size); have HO5 : Hid (OwnB y5 w.heap.size (.slice a4 n4 c4) (bl ++ encText a.key)) := HO4.out.newS nn.below; clear nn c1)
     | (clear tk6; at_builtin; refine wpList_appendB rfl (.tmp 29) (.tmp 30) rfl w.heap.size _ _ rfl HO5.out _ [1] rfl HR5.out (by rw [List.length_append]; have := HLN.out; simp; omega) HB5.out.size ?_
        intro v6 y6 ho6 hb6 _; have HO6 : Hid (OwnB y6 w.heap.size v6 (bl ++ encText a.key ++ [1])) := ho6; have HB6 : Hid (Below w.heap.size w y6) := HB5.out.trans hb6; obtain ⟨a6, n6, c6, hv6⟩ := ho6.reads.form; subst hv6; have c2 : y6.cell? ⟨b, off + i * 3 + 2, none⟩ = some (.slice av nv cv) := HCL.out y6 HB6.out 2 _ rfl; clear ho6 hb6)
     | (clear tk7; with_reducible refine wpSeq_idxA (.tmp 33) (.tmp 34) b off n c i HIN.out ?_ ?_ ?_ ?_ ?_
        · rfl
        · rfl
        · rfl
        · rfl)
     | (clear tk8; go_at_call 48; refine (qtext_any _ a.data _ (HDD.out _ HB6.out) (by have := HLN.out; omega)).mono ?_; rintro e0 y7 ⟨v7, rfl, hr7, hb7⟩
        have HR7 : Hid (Reads y7 v7 (encText a.data)) := hr7; have HB7 : Hid (Below w.heap.size w y7) := HB6.out.trans (hb7.mono HB6.out.size); have HO7 : Hid (OwnB y7 w.heap.size (.slice a6 n6 c6) (bl ++ encText a.key ++ [1])) := HO6.out.newS hb7; obtain ⟨a7, n7, c7, hv7⟩ := hr7.form; subst hv7; clear hr7 hb7 c2)
     | (clear tk9; at_builtin; refine wpList_appendB rfl (.tmp 32) (.tmp 38) rfl w.heap.size _ _ rfl HO7.out _ (encText a.data) rfl HR7.out (by rw [List.length_append, List.length_append]; have := HLN.out; simp; omega) HB7.out.size ?_
        intro v9 y9 ho9 hb9 _
        have HO9 : Hid (OwnB y9 w.heap.size v9 (encNum l.length ++ encAll encA (l.take (i + 1)))) := by
         have hbt := HBT.out; simp only [if_true] at hbt; show OwnB _ _ _ _; rw [hbt, encNum_lt (by decide)]
         simp only [List.append_assoc] at ho9 ⊢; exact ho9
        have HB9 : Hid (Below w.heap.size w y9) := HB7.out.trans hb9; obtain ⟨a9, n9, c9, hv9⟩ := ho9.reads.form; subst hv9; clear ho9 hb9))
    go_roundw
    case rel => exact ⟨a9, n9, c9, i + 1, rfl, by simp, by omega, HO9, HB9⟩
    case measure => simp [intOf]; omega
structure Rd (w : World) (gr gi : Nat) (v : Value) (l : List (BitVec 8)) : Prop where
 rd : Blk w gr [.pointer (some ⟨gi, 0, none⟩)] 122
 inp : Blk w gi [v, .bool true, .bool false] 120
 byt : Reads w v l
def thrown (gi : Nat) : Ending := .panicked [{ v := .iface 118 (.pointer (some ⟨gi, 0, none⟩)), recovered := false }]
structure Threw (gi : Nat) (w : World) (e : Ending) (w' : World) : Prop where
 eq : e = thrown gi
 bad : ∃ v, Blk w' gi [v, .bool true, .bool true] 120 ∧ ∃ ad n c, v = .slice ad n c
 onl : Only gi w w'
theorem Rd.ne {w : World} {gr gi : Nat} {v : Value} {l : List (BitVec 8)} (h : Rd w gr gi v l) : gr ≠ gi := by
 intro he
 have h1 := h.rd
 have h2 := h.inp
 subst he
 unfold Blk at h1 h2
 rw [h1] at h2
 simp at h2
theorem Rd.slice {w : World} {gr gi : Nat} {v : Value} {l : List (BitVec 8)} (h : Rd w gr gi v l) : ∃ ad c, v = .slice ad l.length c := by
 obtain ⟨ad, c, hv, _⟩ := h.byt
 exact ⟨ad, c, hv⟩
theorem Blk.apart {w : World} {gi : Nat} {u : Value} {x y : Bool} {t : TypeId} {l : List (BitVec 8)} (hb : Blk w gi [u, .bool x, .bool y] t) (hu : ∃ ad n c, u = .slice ad n c) : ∀ b off, 0 < l.length → (∀ j, j < l.length → w.cell? ⟨b, off + j, none⟩ = some (.int .u8 ((l.getD j 0).toNat : Int))) → b ≠ gi := by
 intro b off hp hc he
 subst he
 have h0 := hc 0 hp
 rw [hb.cell] at h0
 obtain ⟨ad, n, c, rfl⟩ := hu
 match off, h0 with
 | 0, h0 => simp at h0
 | 1, h0 => simp at h0
 | 2, h0 => simp at h0
 | k + 3, h0 => simp at h0
theorem Reads.only {w w' : World} {gi : Nat} {v u : Value} {x y : Bool} {t : TypeId} {l : List (BitVec 8)} (h : Reads w v l) (hb : Blk w gi [u, .bool x, .bool y] t) (hu : ∃ ad n c, u = .slice ad n c) (ho : Only gi w w') : Reads w' v l := by
 have ha := hb.apart (l := l) hu
 obtain ⟨ad, cap, rfl, hc, hn, hx⟩ := h
 refine ⟨ad, cap, rfl, hc, hn, fun hp => ?_⟩
 obtain ⟨b, off, h1, h2⟩ := hx hp
 exact ⟨b, off, h1, fun j hj => ho.cell (p := ⟨b, off + j, Option.none⟩) (ha b off hp h2) (h2 j hj)⟩
theorem Reads.take {w : World} {ad : Option Addr} {n c : Nat} {l : List (BitVec 8)} (h : Reads w (.slice ad n c) l) (k : Nat) (hk : k ≤ l.length) : Reads w (.slice ad k c) (l.take k) := by
 obtain ⟨ad', cap, hv, hc, hn, hx⟩ := h
 simp only [Value.slice.injEq] at hv
 obtain ⟨rfl, rfl, rfl⟩ := hv
 have hl : (l.take k).length = k := by rw [List.length_take]; omega
 refine ⟨ad, c, by rw [hl], by omega, hn, fun hp => ?_⟩
 rw [hl] at hp ⊢
 obtain ⟨b, off, h1, h2⟩ := hx (by omega)
 refine ⟨b, off, h1, fun j hj => ?_⟩
 rw [h2 j (by omega)]
 simp [hj]
theorem Reads.drop {w : World} {ad : Addr} {n c : Nat} {l : List (BitVec 8)} (h : Reads w (.slice (Option.some ad) n c) l) (k : Nat) (hk : k ≤ l.length) (o : Addr) (ho : k < l.length → o = ad.add k) : Reads w (.slice (Option.some o) (n - k) (c - k)) (l.drop k) := by
 obtain ⟨ad', cap, hv, hc, hn, hx⟩ := h
 simp only [Value.slice.injEq] at hv
 obtain ⟨rfl, rfl, rfl⟩ := hv
 have hl : (l.drop k).length = l.length - k := by rw [List.length_drop]
 refine ⟨_, c - k, by rw [hl], by omega, (fun h => by cases h), fun hp => ?_⟩
 rw [hl] at hp ⊢
 obtain ⟨b', off', h1, h2⟩ := hx (by omega)
 simp only [Option.some.injEq] at h1
 subst h1
 have := ho (by omega)
 rw [Addr.add_mid] at this
 subst this
 refine ⟨b', _, rfl, fun j hj => ?_⟩
 rw [Nat.add_assoc, h2 (k + j) (by omega)]
 simp
theorem Rd.next {w : World} {gr gi : Nat} {v : Value} {l : List (BitVec 8)} (h : Rd w gr gi v l) (v2 : Value) (l2 : List (BitVec 8)) (h2 : Reads w v2 l2) : Rd (w.setCell ⟨gi, 0, none⟩ v2) gr gi v2 l2 := by
 obtain ⟨ad, c, hv⟩ := h.slice
 exact ⟨h.rd.other _ _ (by exact h.ne), h.inp.set 0 v2, h2.only h.inp ⟨ad, _, c, hv⟩ ((Only.refl _ _).setCell _ _)⟩
theorem cfail_any (gr gi : Nat) (v : Value) (l : List (BitVec 8)) (w : World) (h : Rd w gr gi v l) :
 Calls Tryz.prog 42 #[.pointer (some ⟨gr, 0, none⟩)] w fun e w' => e = thrown gi ∧ w' = w.setCell ⟨gi, 2, none⟩ (.bool true) := by
 have c1 : w.cell? ⟨gr, 0, none⟩ = some (.pointer (some ⟨gi, 0, none⟩)) := h.rd.cell 0
 have c2 : w.cell? ⟨gi, 1, none⟩ = some (.bool true) := h.inp.cell 1
 have c3 : w.cell? ⟨gi, 2, none⟩ = some (.bool false) := h.inp.cell 2
 have f3 : w.frozen? ⟨gi, 2, none⟩ = false := h.inp.frozen 2
 have hne := h.ne
 unfold thrown
 clear h
 go_enter Tryz.func42, Tryz.ntmps42
 go_wp2
 exact ⟨rfl, rfl, rfl⟩
theorem Rd.threw {w : World} {gr gi : Nat} {v : Value} {l : List (BitVec 8)} (h : Rd w gr gi v l) : Threw gi w (thrown gi) (w.setCell ⟨gi, 2, none⟩ (.bool true)) := by
 obtain ⟨ad, c, hv⟩ := h.slice
 exact ⟨rfl, ⟨v, h.inp.set 2 (.bool true), ad, _, c, hv⟩, (Only.refl _ _).setCell _ _⟩
theorem Threw.after {gi : Nat} {w w1 w2 : World} {e : Ending} (ho : Only gi w w1) (h : Threw gi w1 e w2) : Threw gi w e w2 := ⟨h.eq, h.bad, ho.trans h.onl⟩
def RdDoes {α : Type} (gr gi : Nat) (v0 : Value) (w : World) (o : Option (α × List (BitVec 8))) (R : α → World → Value → Prop) (e : Ending) (w' : World) : Prop :=
 (∃ a r v v', o = some (a, r) ∧ e = .returned v ∧ R a w' v ∧ Rd w' gr gi v' r ∧ Only gi w w' ∧ v'.ownBlock = v0.ownBlock) ∨ (o = none ∧ Threw gi w e w')
def cut (n : Nat) (l : List (BitVec 8)) : Option (List (BitVec 8) × List (BitVec 8)) := if n ≤ l.length then some (l.take n, l.drop n) else none
theorem take_any (gr gi n : Nat) (v : Value) (l : List (BitVec 8)) (w : World) (h : Rd w gr gi v l) (hn : n < 4611686018427387904) :
 Calls Tryz.prog 96 #[.pointer (some ⟨gr, 0, none⟩), .int .i64 (n : Int)] w fun e w' => RdDoes gr gi v w (cut n l) (fun a w' v => Reads w' v a) e w' := by
 have HR : Hid (Rd w gr gi v l) := h
 have c1 : w.cell? ⟨gr, 0, none⟩ = some (.pointer (some ⟨gi, 0, none⟩)) := h.rd.cell 0
 have c0 : w.cell? ⟨gi, 0, none⟩ = some v := h.inp.cell 0
 have c3 : w.cell? ⟨gi, 2, none⟩ = some (.bool false) := h.inp.cell 2
 have f0 : w.frozen? ⟨gi, 0, none⟩ = false := h.inp.frozen 0
 have hne := h.ne
 obtain ⟨ad, cap, rfl, hcap, hnn, hx⟩ := id h.byt
 obtain ⟨m, HM⟩ := sqn (l.length)
 rw [← HM.out] at HR c0 hcap
 rw [← HM.out]
 clear hx h
 by_cases hlt : n ≤ m
 · have hng : ¬ ((m : Int) < (n : Int)) := by omega
   have HC : Hid (cut n l = some (l.take n, l.drop n)) := by show cut n l = _; unfold cut; rw [if_pos (by rw [← HM.out]; exact hlt)]
   have HK : Hid (n ≤ l.length) := by rw [← HM.out]; exact hlt
   have hfin : ∀ v1 v2, Reads w v1 (l.take n) → Reads w v2 (l.drop n) → v2.ownBlock = (Value.slice ad m cap).ownBlock → RdDoes gr gi (.slice ad m cap) w (cut n l) (fun a w' v => Reads w' v a) (.returned v1) (w.setCell ⟨gi, 0, none⟩ v2) := fun v1 v2 h1 h2 h3 =>
    Or.inl ⟨_, _, v1, v2, HC.out, rfl, h1.only HR.out.inp ⟨_, _, _, rfl⟩ ((Only.refl _ _).setCell _ _), HR.out.next v2 _ h2, (Only.refl _ _).setCell _ _, h3⟩
   have HF : Hid (∀ v1 v2, Reads w v1 (l.take n) → Reads w v2 (l.drop n) → v2.ownBlock = (Value.slice ad m cap).ownBlock → RdDoes gr gi (.slice ad m cap) w (cut n l) (fun a w' v => Reads w' v a) (.returned v1) (w.setCell ⟨gi, 0, none⟩ v2)) := hfin
   clear hfin
   cases ad with
   | none =>
    have hc0 := hnn rfl; subst hc0; have hm0 : m = 0 := by omega
    subst hm0; have hn0 : n = 0 := by omega
    subst hn0; clear hnn hng hlt hcap
    go_enter Tryz.func96, Tryz.ntmps96
    go_wp2; go_ret; have hl0 : l = [] := List.eq_nil_of_length_eq_zero HM.out.symm; refine HF.out _ _ ?_ ?_ rfl
    · rw [List.take_zero]; exact ⟨none, 0, rfl, Nat.le_refl _, fun _ => rfl, fun h => by cases h⟩
    · rw [List.drop_zero, hl0]; exact ⟨none, 0, rfl, Nat.le_refl _, fun _ => rfl, fun h => by cases h⟩
   | some ad =>
    clear hnn
    by_cases hcn : cap = n
    · subst hcn
      have hmn : m = cap := by omega
      subst hmn; have HZ : Hid (m - m = 0) := Nat.sub_self m
      go_enter Tryz.func96, Tryz.ntmps96
      go_wp2; go_ret; refine HF.out _ _ ((HR.out.byt).take m HK.out) ?_ rfl; have := HR.out.byt.drop m HK.out ad (fun h => by have := HM.out; omega)
      rw [HZ.out] at this
      first | exact this | (rw [HZ.out]; exact this)
    · go_enter Tryz.func96, Tryz.ntmps96
      go_wp2; go_ret; exact HF.out _ _ ((HR.out.byt).take n HK.out) (HR.out.byt.drop n HK.out _ (fun _ => rfl)) (by simp [Value.ownBlock, Addr.add]; split <;> rfl)
 · have hgt : (m : Int) < (n : Int) := by omega
   have HC : Hid (cut n l = none) := by show cut n l = _; unfold cut; rw [if_neg (by rw [← HM.out]; exact hlt)]
   go_enter Tryz.func96, Tryz.ntmps96
   go_wp2_with fail
   refine (cfail_any gr gi (.slice ad m cap) l w HR.out).mono ?_; rintro e w1 ⟨rfl, rfl⟩; have hT := HR.out.threw; obtain ⟨w1, HW1⟩ : ∃ x, Hid (x = w.setCell ⟨gi, 2, none⟩ (.bool true)) := ⟨_, rfl⟩; rw [← HW1.out] at hT ⊢; unfold thrown at hT ⊢; go_wp2; exact ⟨rfl, Or.inr ⟨HC.out, hT⟩⟩
structure RnInv (gr gi : Nat) (v0 : Value) (w : World) (l : List (BitVec 8)) (k acc : Nat) (rest : List (BitVec 8)) (wr : World) : Prop where
 le : k ≤ 10
 lt : acc < 2 ^ (7 * k)
 eq : readNum l = decNum (10 - k) k acc rest
 rd : ∃ v, Rd wr gr gi v rest ∧ v.ownBlock = v0.ownBlock
 onl : Only gi w wr
theorem dec_step (k acc : Nat) (hk : k < 10) (c : BitVec 8) (r : List (BitVec 8)) : decNum (10 - k) k acc (c :: r) =
 if (k = 9 ∧ 1 < c.toNat) ∨ (0 < k ∧ c.toNat = 0) then none else if c.toNat < 128 then some (acc + c.toNat % 128 * 2 ^ (7 * k), r) else decNum (10 - (k + 1)) (k + 1) (acc + c.toNat % 128 * 2 ^ (7 * k)) r := by
 rw [show 10 - k = (10 - (k + 1)) + 1 by omega, decNum]
theorem dec_nil (k acc : Nat) (hk : k < 10) : decNum (10 - k) k acc [] = none := by
 rw [show 10 - k = (10 - (k + 1)) + 1 by omega, decNum]
theorem or_add (acc g k : Nat) (hk : k < 10) (h : acc < 2 ^ (7 * k)) (h2 : g * 2 ^ (7 * k) < 18446744073709551616) : bits .or .u64 (acc : Int) (IntKind.u64.wrap ((g : Int) * 2 ^ (7 * k))) = ((acc + g * 2 ^ (7 * k) : Nat) : Int) := by
 have e : (g : Int) * 2 ^ (7 * k) = ((g * 2 ^ (7 * k) : Nat) : Int) := by simp
 have hs : acc + g * 2 ^ (7 * k) < 18446744073709551616 ∧ acc ||| g * 2 ^ (7 * k) = acc + g * 2 ^ (7 * k) := by
  have h3 := Nat.two_pow_add_eq_or_of_lt h g
  rw [Nat.mul_comm] at h3
  have h4 : g * 2 ^ (7 * k) ||| acc = acc ||| g * 2 ^ (7 * k) := Nat.or_comm _ _
  have h5 : acc ||| g * 2 ^ (7 * k) < 2 ^ 64 := by
   by_cases hg : g = 0
   · subst hg
     simp only [Nat.zero_mul, Nat.or_zero] at *
     exact Nat.lt_of_lt_of_le h (Nat.pow_le_pow_right (by omega) (by omega))
   · apply Nat.or_lt_two_pow
     · have : 2 ^ (7 * k) ≤ g * 2 ^ (7 * k) := Nat.le_mul_of_pos_left _ (by omega)
       omega
     · omega
  omega
 rw [e]
 have hw : IntKind.u64.wrap ((g * 2 ^ (7 * k) : Nat) : Int) = ((g * 2 ^ (7 * k) : Nat) : Int) := by rw [IntKind.wrap_u64]; omega
 rw [hw]
 generalize g * 2 ^ (7 * k) = x at *
 show IntKind.u64.wrap ((BitVec.ofInt 64 (acc : Int) ||| BitVec.ofInt 64 (x : Int)).toNat : Int) = _
 rw [BitVec.ofInt_natCast, BitVec.ofInt_natCast, BitVec.toNat_or, BitVec.toNat_ofNat, BitVec.toNat_ofNat, Nat.mod_eq_of_lt (by omega), Nat.mod_eq_of_lt (by omega), hs.2, IntKind.wrap_u64]
 omega
theorem top_small (k g : Nat) (hk : k < 10) (hg : g < 128) (h : 18446744073709551615 / 2 ^ (7 * k) < g) : k = 9 ∧ 1 < g := by
 by_cases h9 : k = 9
 · subst h9
   simp only [Nat.reduceMul, Nat.reducePow, Nat.reduceDiv] at h; omega
 · exfalso
   have h1 : 18446744073709551615 / 2 ^ 56 ≤ 18446744073709551615 / 2 ^ (7 * k) := Nat.div_le_div_left (Nat.pow_le_pow_right (by omega) (by omega)) (Nat.pow_pos (by omega))
   simp only [Nat.reducePow, Nat.reduceDiv] at h1; omega
theorem top_cast (k : Nat) : (18446744073709551615 : Int) / 2 ^ (7 * k) = ((18446744073709551615 / 2 ^ (7 * k) : Nat) : Int) := by simp
theorem crnum_any (gr gi : Nat) (v : Value) (l : List (BitVec 8)) (w : World) (h : Rd w gr gi v l) :
 Calls Tryz.prog 68 #[.pointer (some ⟨gr, 0, none⟩)] w fun e w' => RdDoes gr gi v w (readNum l) (fun a _ v => v = .int .u64 (a : Int)) e w' := by
 have hI : RnInv gr gi v w l 0 0 l w := ⟨by omega, by simp, rfl, ⟨v, h, rfl⟩, Only.refl _ _⟩
 clear h
 go_enter Tryz.func68, Tryz.ntmps68
 go_wp2
 go_loopw [3, 8] (fun x i wr => ∃ (k acc : Nat) (rest : List (BitVec 8)), i = .int .i64 (k : Int) ∧ x = .int .u64 (acc : Int) ∧ RnInv gr gi v w l k acc rest wr) (fun _ i _ => 10 - (intOf i).toNat)
 case atStart => exact ⟨0, 0, l, rfl, rfl, hI⟩
 case round =>
  clear hI
  obtain ⟨k, acc, rest, rfl, rfl, hI⟩ := hrel
  have hk := hI.le
  have HI : Hid (RnInv gr gi v w l k acc rest wr) := hI
  clear hI
  by_cases hlt : k < 10
  · go_wp2_with fail
    obtain ⟨v1, h1, hob1⟩ := HI.out.rd; refine (take_any gr gi 1 v1 rest wr h1 (by omega)).mono ?_
    rintro e w1 hT
    rcases hT with ⟨a, r, va, v2, hc, rfl, hr, hrd, ho, hob⟩ | ⟨hc, hT⟩
    · obtain ⟨c, rest2, rfl⟩ : ∃ c rest2, rest = c :: rest2 := by
       cases rest with
       | nil => simp [cut] at hc
       | cons c r => exact ⟨c, r, rfl⟩
      simp [cut] at hc
      obtain ⟨rfl, rfl⟩ := hc; obtain ⟨ad, cap, rfl, _, _, hx⟩ := hr; obtain ⟨b, off, rfl, hy⟩ := hx (by simp)
      have cc := hy 0 (by simp)
      simp at cc
      have hc8 := c.isLt
      have HE : Hid (readNum l = if (k = 9 ∧ 1 < c.toNat) ∨ (0 < k ∧ c.toNat = 0) then none else if c.toNat < 128 then some (acc + c.toNat % 128 * 2 ^ (7 * k), rest2) else decNum (10 - (k + 1)) (k + 1) (acc + c.toNat % 128 * 2 ^ (7 * k)) rest2) := by
       show _ = _; rw [HI.out.eq, dec_step k acc hlt]
      obtain ⟨cn, HCN⟩ := sqn (c.toNat); rw [← HCN.out] at cc hc8 HE; have HRD : Hid (Rd w1 gr gi v2 rest2) := hrd; have HOB : Hid (v2.ownBlock = v.ownBlock) := hob.trans hob1; clear hob hob1; have HO : Hid (Only gi w w1) := HI.out.onl.trans ho; have HA : Hid (acc < 2 ^ (7 * k)) := HI.out.lt; clear hx hy hrd ho h1 HI; have h7 : IntKind.i64.wrap (7 * (k : Int)) = 7 * (k : Int) := by rw [IntKind.wrap_i64]; omega
      have h70 : ¬ (7 * (k : Int) < 0) := by omega
      have HT := top_cast k
      by_cases hA : 18446744073709551615 / 2 ^ (7 * k) < cn % 128
      · have hAi : (18446744073709551615 : Int) / 2 ^ (7 * k) < (cn : Int) % 128 := by rw [HT]; omega
        have HNo : Hid (readNum l = none) := by
         show _ = _; obtain ⟨h9, h10⟩ := top_small k _ hlt (by omega) hA
         rw [HE.out, if_pos (Or.inl ⟨h9, by omega⟩)]
        clear HT hA HE
        go_wp2_with fail
        refine (cfail_any gr gi v2 rest2 w1 HRD.out).mono ?_; rintro e w2 ⟨rfl, rfl⟩; have hT := HRD.out.threw.after HO.out; obtain ⟨w2, HW2⟩ : ∃ x, Hid (x = w1.setCell ⟨gi, 2, none⟩ (.bool true)) := ⟨_, rfl⟩; rw [← HW2.out] at hT ⊢; unfold thrown at hT ⊢; go_wp2; exact ⟨rfl, Or.inr ⟨HNo.out, hT⟩⟩
      · have hAi : ¬ ((18446744073709551615 : Int) / 2 ^ (7 * k) < (cn : Int) % 128) := by rw [HT]; omega
        have HG : Hid (cn % 128 * 2 ^ (7 * k) < 18446744073709551616) := by
         have h1 : cn % 128 * 2 ^ (7 * k) ≤ 18446744073709551615 / 2 ^ (7 * k) * 2 ^ (7 * k) := Nat.mul_le_mul_right _ (by omega)
         have h2 := Nat.div_mul_le_self 18446744073709551615 (2 ^ (7 * k)); show _ < _; omega
        have hor := or_add acc (cn % 128) k hlt HA.out HG.out; rw [show ((cn % 128 : Nat) : Int) = (cn : Int) % 128 by omega] at hor
        obtain ⟨sm, HSM⟩ := sqn (acc + cn % 128 * 2 ^ (7 * k)); rw [← HSM.out] at hor HE
        have HS2 : Hid (sm < 2 ^ (7 * (k + 1))) := by
         show _ < _; rw [HSM.out, pow7]; have h1 := HA.out; have h2 : cn % 128 * 2 ^ (7 * k) ≤ 127 * 2 ^ (7 * k) := Nat.mul_le_mul_right _ (by omega)
         omega
        clear HT hA
        by_cases hB : 0 < k ∧ cn = 0
        · obtain ⟨hk0, rfl⟩ := hB
          have HNo : Hid (readNum l = none) := by show _ = _; rw [HE.out, if_pos (Or.inr ⟨hk0, rfl⟩)]
          clear HE hor
          go_wp2_with fail
          refine (cfail_any gr gi v2 rest2 w1 HRD.out).mono ?_; rintro e w2 ⟨rfl, rfl⟩; have hT := HRD.out.threw.after HO.out; obtain ⟨w2, HW2⟩ : ∃ x, Hid (x = w1.setCell ⟨gi, 2, none⟩ (.bool true)) := ⟨_, rfl⟩; rw [← HW2.out] at hT ⊢; unfold thrown at hT ⊢; go_wp2; exact ⟨rfl, Or.inr ⟨HNo.out, hT⟩⟩
        · by_cases hC : cn < 128
          · have hC2 : (cn : Int) < 128 := by omega
            have HYes : Hid (readNum l = if k = 9 ∧ 1 < cn then none else some (sm, rest2)) := by
             show _ = _; rw [HE.out, if_pos hC]
             by_cases h9 : k = 9 ∧ 1 < cn
             · rw [if_pos (Or.inl h9), if_pos h9]
             · rw [if_neg (by rintro (h | h); exact h9 h; exact hB h), if_neg h9]
            have H9 : Hid (¬ (k = 9 ∧ 1 < cn)) := by
             rintro ⟨rfl, h⟩; have := HG.out; simp only [Nat.reduceMul, Nat.reducePow] at this; omega
            have HY2 : Hid (readNum l = some (sm, rest2)) := by show _ = _; rw [HYes.out, if_neg H9.out]
            clear HE HYes
            by_cases hz : cn = 0
            · have hk0 : k = 0 := by omega
              subst hz hk0; have ha0 : acc = 0 := by have := HA.out; simp at this; omega
              subst ha0; have hs0 : sm = 0 := HSM.out; subst hs0; clear hor hB h70 h7 hAi; go_wp2; go_ret; exact Or.inl ⟨0, rest2, _, v2, HY2.out, rfl, rfl, HRD.out, HO.out, HOB.out⟩
            · have hz2 : ¬ ((cn : Int) = 0) := by omega
              clear hB; go_wp2; go_ret; exact Or.inl ⟨sm, rest2, _, v2, HY2.out, rfl, rfl, HRD.out, HO.out, HOB.out⟩
          · have hC2 : ¬ ((cn : Int) < 128) := by omega
            have hz2 : ¬ ((cn : Int) = 0) := by omega
            have HD : Hid (readNum l = decNum (10 - (k + 1)) (k + 1) sm rest2) := by
             show _ = _; rw [HE.out, if_neg hC]
             by_cases h9 : k = 9
             · subst h9
               rw [if_pos (Or.inl ⟨rfl, by omega⟩)]; rfl
             · rw [if_neg (by omega)]
            clear HE hB hC; go_wp2; go_roundw
            case rel => exact ⟨k + 1, sm, rest2, by go_num, rfl, by omega, HS2.out, HD.out, ⟨v2, HRD.out, HOB.out⟩, HO.out⟩
            case measure => simp [intOf]; omega
    · have hn : rest = [] := by
       cases rest with
       | nil => rfl
       | cons c r => simp [cut] at hc
      subst hn; have HNo : Hid (readNum l = none) := by show _ = _; rw [HI.out.eq, dec_nil k acc hlt]
      have hT2 := hT.after HI.out.onl; obtain rfl := hT.eq; unfold thrown at hT2 ⊢; clear hT HI h1; go_wp2; exact ⟨rfl, Or.inr ⟨HNo.out, hT2⟩⟩
  · have hk10 : k = 10 := by omega
    subst hk10; have HNo : Hid (readNum l = none) := by show _ = _; rw [HI.out.eq]; rfl
    obtain ⟨v1, h1, hob1⟩ := HI.out.rd; have HO := HI.out.onl; have HRD : Hid (Rd wr gr gi v1 rest) := h1; clear HI h1
    go_wp2_with fail
    refine (cfail_any gr gi v1 rest wr HRD.out).mono ?_; rintro e w2 ⟨rfl, rfl⟩; have hT := HRD.out.threw.after HO; obtain ⟨w2, HW2⟩ : ∃ x, Hid (x = wr.setCell ⟨gi, 2, none⟩ (.bool true)) := ⟨_, rfl⟩; rw [← HW2.out] at hT ⊢; unfold thrown at hT ⊢; go_wp2; exact ⟨rfl, Or.inr ⟨HNo.out, hT⟩⟩
def readCount (most : Nat) (l : List (BitVec 8)) : Option (Nat × List (BitVec 8)) :=
 match readNum l with
 | none => none
 | some (n, r) => if n ≤ most then some (n, r) else none
theorem ccount_any (gr gi most : Nat) (hm : most < 9223372036854775808) (v : Value) (l : List (BitVec 8)) (w : World) (h : Rd w gr gi v l) :
 Calls Tryz.prog 40 #[.pointer (some ⟨gr, 0, none⟩), .int .i64 (most : Int)] w fun e w' => RdDoes gr gi v w (readCount most l) (fun a _ v => v = .int .i64 (a : Int)) e w' := by
 have HR : Hid (Rd w gr gi v l) := h
 have hw : IntKind.u64.wrap (most : Int) = (most : Int) := by rw [IntKind.wrap_u64]; omega
 have h0 : ¬ ((most : Int) < 0) := by omega
 clear h
 go_enter Tryz.func40, Tryz.ntmps40
 go_wp2_with fail
 refine (crnum_any gr gi v l w HR.out).mono ?_
 rintro e w1 (⟨n, r, va, v2, hc, rfl, rfl, hrd, ho, hob⟩ | ⟨hc, hT⟩)
 · have HRD : Hid (Rd w1 gr gi v2 r) := hrd
   have HOB : Hid (v2.ownBlock = v.ownBlock) := hob; clear hob; have HO : Hid (Only gi w w1) := ho; have HC : Hid (readCount most l = if n ≤ most then some (n, r) else none) := by show _ = _; unfold readCount; rw [hc]
   clear hrd ho hc
   by_cases hle : n ≤ most
   · have hng : ¬ ((most : Int) < (n : Int)) := by omega
     have hwn : IntKind.i64.wrap (n : Int) = (n : Int) := by rw [IntKind.wrap_i64]; omega
     have HC2 : Hid (readCount most l = some (n, r)) := by show _ = _; rw [HC.out, if_pos hle]
     clear HC; go_wp2; go_ret; exact Or.inl ⟨n, r, _, v2, HC2.out, rfl, rfl, HRD.out, HO.out, HOB.out⟩
   · have hg : (most : Int) < (n : Int) := by omega
     have HC2 : Hid (readCount most l = none) := by show _ = _; rw [HC.out, if_neg hle]
     clear HC hle
     go_wp2_with fail
     refine (cfail_any gr gi v2 r w1 HRD.out).mono ?_; rintro e w2 ⟨rfl, rfl⟩; have hT := HRD.out.threw.after HO.out; obtain ⟨w2, HW2⟩ : ∃ x, Hid (x = w1.setCell ⟨gi, 2, none⟩ (.bool true)) := ⟨_, rfl⟩; rw [← HW2.out] at hT ⊢; unfold thrown at hT ⊢; go_wp2; exact ⟨rfl, Or.inr ⟨HC2.out, hT⟩⟩
 · have HC2 : Hid (readCount most l = none) := by show _ = _; unfold readCount; rw [hc]
   have hT2 := hT; obtain rfl := hT.eq; unfold thrown at hT2 ⊢; clear hT hc; go_wp2; exact ⟨rfl, Or.inr ⟨HC2.out, hT2⟩⟩
theorem OwnB.zero (w : World) (base g : Nat) (hg : base ≤ g) (h : Blk w g [] 5) : OwnB w base (.slice (some ⟨g, 0, none⟩) 0 0) [] :=
 OwnB.of_blk (l := []) (c := 0) h hg rfl (by unfold maxLen; omega) (Nat.le_refl _) rfl
theorem clone_any (v : Value) (l : List (BitVec 8)) (w : World) (h : Reads w v l) (hl : l.length ≤ 140737488355328) :
 Calls Tryz.prog 64 #[v] w fun e w' => ∃ v', e = .returned v' ∧ OwnB w' w.heap.size v' l ∧ Below w.heap.size w w' := by
 have HR : Hid (Reads w v l) := h
 have HL : Hid (l.length ≤ 140737488355328) := hl
 obtain ⟨ad, cap, rfl, _, hn, hx⟩ := h
 cases ad with
 | none =>
  have h0 : l = [] := by
   cases l with
   | nil => rfl
   | cons b r => obtain ⟨b, off, h1, _⟩ := hx (by simp); cases h1
  subst h0
  have := hn rfl
  subst this
  clear hx hn hl
  have hnil : ∀ (a : Option Addr) (n c : Nat) (w : World), (binOp .eql 23 (.slice a n c) (.slice none 0 0)).run Tryz.prog w = .ok (.bool a.isNone) w := fun a n c w => Lib.run_eql_slice_nil w 23 5 a n c 0 0 Tryz.underlying23
  go_enter Tryz.func64, Tryz.ntmps64
  go_wp2
  go_ret
  exact ⟨_, rfl, OwnB.nil _ _, Below.refl _ _⟩
 | some ad =>
  clear hx hn hl
  obtain ⟨m, HM⟩ := sqn (l.length)
  rw [← HM.out] at HR ⊢
  have HB := below_alloc w (.cells ([] : List Value).toArray 5)
  have HO : Hid (OwnB (w.alloc (.cells ([] : List Value).toArray 5)) w.heap.size (.slice (some ⟨w.heap.size, 0, none⟩) 0 0) []) := OwnB.zero _ _ _ (Nat.le_refl _) (Blk.new w [] 5)
  have HR1 : Hid (Reads (w.alloc (.cells ([] : List Value).toArray 5)) (.slice (some ad) m cap) l) := HR.out.below HB
  have HBB : Hid (Below w.heap.size w (w.alloc (.cells ([] : List Value).toArray 5))) := HB
  clear HB
  have hnil : ∀ (a : Option Addr) (n c : Nat) (w : World), (binOp .eql 23 (.slice a n c) (.slice none 0 0)).run Tryz.prog w = .ok (.bool a.isNone) w := fun a n c w => Lib.run_eql_slice_nil w 23 5 a n c 0 0 Tryz.underlying23
  go_enter Tryz.func64, Tryz.ntmps64
  go_wp2_with (at_builtin; refine wpList_appendB rfl (.tmp 5) (.tmp 6) rfl w.heap.size _ [] rfl HO.out _ l rfl HR1.out (by have := HL.out; simp; omega) HBB.out.size ?_; intro v2 w2 hown2 hb2 _)
  have hB2 := HBB.out.trans hb2
  go_wp2
  go_ret
  exact ⟨_, rfl, hown2, hB2⟩
theorem Rd.below {w w' : World} {gr gi : Nat} {v : Value} {l : List (BitVec 8)} (h : Rd w gr gi v l) (hb : Below w.heap.size w w') : Rd w' gr gi v l := ⟨h.rd.below hb h.rd.lt, h.inp.below hb h.inp.lt, h.byt.below hb⟩
theorem Threw.down {gi : Nat} {w w1 : World} {e : Ending} (h : Threw gi w e w1) : e = .panicked [{ v := .iface 118 (.pointer (some ⟨gi, 0, none⟩)), recovered := false }] := h.eq
theorem crtext_any (gr gi : Nat) (v : Value) (l : List (BitVec 8)) (w : World) (h : Rd w gr gi v l) :
 Calls Tryz.prog 69 #[.pointer (some ⟨gr, 0, none⟩)] w fun e w' => RdDoes gr gi v w (readText l) (fun a w' v => OwnB w' w.heap.size v a) e w' := by
 have HR : Hid (Rd w gr gi v l) := h
 clear h
 go_enter Tryz.func69, Tryz.ntmps69
 go_wp2_with fail
 refine (ccount_any gr gi 1048576 (by omega) v l w HR.out).mono ?_
 rintro e w1 (⟨n, r, va, v2, hc, rfl, rfl, hrd, ho, hob⟩ | ⟨hc, hT⟩)
 · obtain ⟨hn, HT⟩ : n ≤ 1048576 ∧ Hid (readText l = if n ≤ r.length then some (r.take n, r.drop n) else none) := by
    unfold readCount at hc
    cases h1 : readNum l with
    | none => rw [h1] at hc; cases hc
    | some p =>
     obtain ⟨m, s⟩ := p; rw [h1] at hc; simp only at hc
     split at hc
     · rename_i hle
       simp only [Option.some.injEq, Prod.mk.injEq] at hc; obtain ⟨rfl, rfl⟩ := hc; refine ⟨hle, ?_⟩; show _ = _; unfold readText; rw [h1]; simp only [hle, true_and]
     · cases hc
   have HRD : Hid (Rd w1 gr gi v2 r) := hrd; have HO : Hid (Only gi w w1) := ho; clear hrd ho hc
   go_wp2_with fail
   refine (take_any gr gi n v2 r w1 HRD.out (by omega)).mono ?_
   rintro e w2 (⟨a, r2, va, v3, hc, rfl, hr, hrd, ho, hob2⟩ | ⟨hc, hT⟩)
   · have hle : n ≤ r.length := by
      unfold cut at hc
      split at hc
      · assumption
      · cases hc
     have HT2 : Hid (readText l = some (a, r2)) := by
      show _ = _; rw [HT.out, if_pos hle]; unfold cut at hc; rw [if_pos hle] at hc; exact hc
     have HA : Hid (a.length ≤ 1048576) := by
      unfold cut at hc; rw [if_pos hle] at hc; simp only [Option.some.injEq, Prod.mk.injEq] at hc; show _ ≤ _; rw [← hc.1, List.length_take]; omega
     have HRD2 : Hid (Rd w2 gr gi v3 r2) := hrd; have HO2 : Hid (Only gi w w2) := HO.out.trans ho; have HRR : Hid (Reads w2 va a) := hr; clear hrd ho hc hr HT HRD HO hle
     go_wp2_with fail
     refine (clone_any va a w2 HRR.out (by have := HA.out; omega)).mono ?_
     rintro e w3 ⟨v4, rfl, hown, hb⟩
     have HF : Hid (RdDoes gr gi v w (readText l) (fun a w' v => OwnB w' w.heap.size v a) (.returned v4) w3) :=
      Or.inl ⟨a, r2, v4, v3, HT2.out, rfl, ⟨hown.1, hown.2.imp id (fun ⟨g, c, cur, h1, h2, h3⟩ => ⟨g, c, cur, h1, Nat.le_trans HO2.out.size h2, h3⟩)⟩, HRD2.out.below hb, HO2.out.trans (Only.of_below hb), hob2.trans hob⟩
     clear hown hb; go_wp2; go_ret; exact HF.out
   · have hle : ¬ n ≤ r.length := by
      unfold cut at hc
      split at hc
      · cases hc
      · assumption
     have HT2 : Hid (readText l = none) := by show _ = _; rw [HT.out, if_neg hle]
     have hT2 := hT.after HO.out; obtain rfl := hT.down; clear hT hc HT hle; go_wp2; exact ⟨rfl, Or.inr ⟨HT2.out, hT2⟩⟩
 · have HC2 : Hid (readText l = none) := by
    show _ = _; unfold readText; unfold readCount at hc
    cases h1 : readNum l with
    | none => rfl
    | some p =>
     obtain ⟨m, s⟩ := p; rw [h1] at hc; simp only at hc ⊢
     split at hc
     · cases hc
     · rename_i hle
       rw [if_neg (by omega)]
   have hT2 := hT; obtain rfl := hT.down; clear hT hc; go_wp2; exact ⟨rfl, Or.inr ⟨HC2.out, hT2⟩⟩
theorem Rd.others {w w' : World} {gr gi B : Nat} {v : Value} {l : List (BitVec 8)} (h : Rd w gr gi v l) (hgr : gr < B) (hgi : gi < B) (hv : 0 < l.length → ∀ k, v.ownBlock = some k → k < B) {C : Nat} (hC : B ≤ C) (hb : Below C w w') : Rd w' gr gi v l := by
 refine ⟨h.rd.below hb (by omega), h.inp.below hb (by omega), ?_⟩
 obtain ⟨ad, cap, rfl, hc, hn, hx⟩ := h.byt
 refine ⟨ad, cap, rfl, hc, hn, fun hp => ?_⟩
 obtain ⟨b, off, rfl, hy⟩ := hx hp
 refine ⟨b, off, rfl, fun j hj => ?_⟩
 have : b < C := Nat.lt_of_lt_of_le (hv hp b rfl) hC
 rw [hb.cell (p := ⟨b, off + j, none⟩) this]
 exact hy j hj
theorem catch_threw (gin ge gi : Nat) (v : Value) (x : Int) (w : World) (ad : Option Addr) (n c : Nat) (hv : v = .slice ad n c) (hin : Blk w gin [.pointer (some ⟨gi, 0, none⟩)] 118) (hi : Blk w gi [v, .bool true, .bool true] 120) (he : Blk w ge [.int .i64 x] 26) :
 CallsD Tryz.prog 67 #[.pointer (some ⟨gin, 0, none⟩), .pointer (some ⟨ge, 0, none⟩)] (.panicking [{ v := .iface 118 (.pointer (some ⟨gi, 0, none⟩)), recovered := false }]) w fun e u' w' =>
  e = .returned (.tuple #[]) ∧ u' = .panicking [{ v := .iface 118 (.pointer (some ⟨gi, 0, none⟩)), recovered := true }] ∧ w' = (w.setCells gi 0 [.slice none 0 0, .bool false, .bool false]).setCell ⟨ge, 0, none⟩ (.int .i64 3) := by
 subst hv
 have ci : w.cell? ⟨gin, 0, none⟩ = some (.pointer (some ⟨gi, 0, none⟩)) := hin.cell 0
 have c2 : w.cell? ⟨gi, 2, none⟩ = some (.bool true) := hi.cell 2
 have c0 : w.cell? ⟨gi, 0, none⟩ = some (.slice ad n c) := hi.cell 0
 have c1 : w.cell? ⟨gi, 1, none⟩ = some (.bool true) := hi.cell 1
 have f0 : w.frozen? ⟨gi, 0, none⟩ = false := hi.frozen 0
 have f1 : w.frozen? ⟨gi, 1, none⟩ = false := hi.frozen 1
 have f2 : w.frozen? ⟨gi, 2, none⟩ = false := hi.frozen 2
 have ce : w.cell? ⟨ge, 0, none⟩ = some (.int .i64 x) := he.cell 0
 have fe : w.frozen? ⟨ge, 0, none⟩ = false := he.frozen 0
 have hge : ge ≠ gi := by
  intro h
  subst h
  unfold Blk at he hi
  rw [he] at hi
  simp at hi
 have hta : ∀ (pv : Value) (w : World), (Instr.typeAssert (.iface 118 pv) 20 118 true).run Tryz.prog w = .ok (.tuple #[pv, .bool true]) w := fun _ _ => by kernel_rfl
 have hnot : ∀ (x : Bool) (w : World), (Op.unary .not (.bool x)).run Tryz.prog w = .ok (.bool (!x)) w := fun _ _ => rfl
 refine callsD_of_wpS Tryz.func67 rfl fun c₀ cs hu => ?_
 simp only [Tryz.ntmps67, List.size_toArray, List.length_cons, List.length_nil, Nat.reduceAdd, Nat.reduceSub, Array.replicate_succ, Array.replicate_zero, List.push_toArray, List.append_toArray, List.nil_append, List.cons_append]
 apply wpS_seq
 refine wpS_of_wp ?_
 go_wp2
 simp only [Exit.thenS]
 apply wpS_seq
 refine wpS_of_wp ?_
 go_wp2
 simp only [Exit.thenS]
 apply wpS_seq
 refine wpS_of_wp ?_
 go_wp2
 simp only [Exit.thenS]
 apply wpS_seq
 apply wpS_region
 simp [wpOpsS, go_sem, recoverD, hu, Exit.thenS]
 refine wpS_of_wp ?_
 go_wp2
 exact ⟨rfl, _, rfl, _, results_none rfl _ _ _, rfl, rfl, rfl⟩
theorem catch_idle (gin ge gi : Nat) (v : Value) (x : Int) (w : World) (ad : Option Addr) (n c : Nat) (hv : v = .slice ad n c) (hin : Blk w gin [.pointer (some ⟨gi, 0, none⟩)] 118) (hi : Blk w gi [v, .bool true, .bool false] 120) (he : Blk w ge [.int .i64 x] 26) :
 CallsD Tryz.prog 67 #[.pointer (some ⟨gin, 0, none⟩), .pointer (some ⟨ge, 0, none⟩)] .returning w fun e u' w' =>
  e = .returned (.tuple #[]) ∧ u' = .returning ∧ w' = if n = 0 then ((w.setCells gi 0 [.slice none 0 0, .bool false, .bool false]).setCell ⟨ge, 0, none⟩ (.int .i64 3)).setCell ⟨ge, 0, none⟩ (.int .i64 0) else (w.setCells gi 0 [.slice none 0 0, .bool false, .bool false]).setCell ⟨ge, 0, none⟩ (.int .i64 3) := by
 subst hv
 have ci : w.cell? ⟨gin, 0, none⟩ = some (.pointer (some ⟨gi, 0, none⟩)) := hin.cell 0
 have c2 : w.cell? ⟨gi, 2, none⟩ = some (.bool false) := hi.cell 2
 have c0 : w.cell? ⟨gi, 0, none⟩ = some (.slice ad n c) := hi.cell 0
 have c1 : w.cell? ⟨gi, 1, none⟩ = some (.bool true) := hi.cell 1
 have f0 : w.frozen? ⟨gi, 0, none⟩ = false := hi.frozen 0
 have f1 : w.frozen? ⟨gi, 1, none⟩ = false := hi.frozen 1
 have f2 : w.frozen? ⟨gi, 2, none⟩ = false := hi.frozen 2
 have ce : w.cell? ⟨ge, 0, none⟩ = some (.int .i64 x) := he.cell 0
 have fe : w.frozen? ⟨ge, 0, none⟩ = false := he.frozen 0
 have hge : ge ≠ gi := by
  intro h
  subst h
  unfold Blk at he hi
  rw [he] at hi
  simp at hi
 have hnot : ∀ (x : Bool) (w : World), (Op.unary .not (.bool x)).run Tryz.prog w = .ok (.bool (!x)) w := fun _ _ => rfl
 by_cases hn : n = 0
 · subst hn
   rw [if_pos rfl]; refine callsD_of_wpS Tryz.func67 rfl fun c₀ cs hu => ?_
   simp only [Tryz.ntmps67, List.size_toArray, List.length_cons, List.length_nil, Nat.reduceAdd, Nat.reduceSub, Array.replicate_succ, Array.replicate_zero, List.push_toArray, List.append_toArray, List.nil_append, List.cons_append]
   apply wpS_seq
   refine wpS_of_wp ?_; go_wp2; simp only [Exit.thenS]
   apply wpS_seq
   refine wpS_of_wp ?_; go_wp2; simp only [Exit.thenS]
   apply wpS_seq
   refine wpS_of_wp ?_; go_wp2; simp only [Exit.thenS]
   apply wpS_seq
   apply wpS_region
   simp [wpOpsS, go_sem, recoverD, hu, Exit.thenS]
   refine wpS_of_wp ?_; go_wp2; exact ⟨rfl, _, rfl, _, results_none rfl _ _ _, rfl, hu, rfl⟩
 · rw [if_neg hn]
   have hn2 : ¬ ((n : Int) = 0) := by omega
   refine callsD_of_wpS Tryz.func67 rfl fun c₀ cs hu => ?_
   simp only [Tryz.ntmps67, List.size_toArray, List.length_cons, List.length_nil, Nat.reduceAdd, Nat.reduceSub, Array.replicate_succ, Array.replicate_zero, List.push_toArray, List.append_toArray, List.nil_append, List.cons_append]
   apply wpS_seq
   refine wpS_of_wp ?_; go_wp2; simp only [Exit.thenS]
   apply wpS_seq
   refine wpS_of_wp ?_; go_wp2; simp only [Exit.thenS]
   apply wpS_seq
   refine wpS_of_wp ?_; go_wp2; simp only [Exit.thenS]
   apply wpS_seq
   apply wpS_region
   simp [wpOpsS, go_sem, recoverD, hu, Exit.thenS]
   refine wpS_of_wp ?_; go_wp2; exact ⟨rfl, _, rfl, _, results_none rfl _ _ _, rfl, hu, rfl⟩
structure Does (H : Nat) (A : List (BitVec 8) → World → Prop) (B : World → Prop) (w1 : World) (e : Ending) (w2 : World) : Prop where
 size : w1.heap.size ≤ w2.heap.size
 kept : ∀ k, H ≤ k → k < H + 4 → k ≠ H + 1 → w2.heap[k]? = w1.heap[k]?
 way : (e = .returned (.tuple #[]) ∧ ∃ v2 l2, Rd w2 (H + 3) (H + 1) v2 l2 ∧ A l2 w2) ∨ (e = thrown (H + 1) ∧ (∃ v ad n c, v = .slice ad n c ∧ Blk w2 (H + 1) [v, .bool true, .bool true] 120) ∧ B w2)
structure Past (H : Nat) (w w' : World) : Prop where
 os : w'.os = w.os
 tape : w'.tape = w.tape
 output : w'.output = w.output
 size : w'.heap.size = w.heap.size
 block : ∀ k, k < H ∨ H + 4 ≤ k → w'.heap[k]? = w.heap[k]?
theorem Past.refl (H : Nat) (w : World) : Past H w w := ⟨rfl, rfl, rfl, rfl, fun _ _ => rfl⟩
theorem Past.setCell {H : Nat} {w w' : World} (h : Past H w w') (a : Addr) (ha : H ≤ a.block ∧ a.block < H + 4) (v : Value) : Past H w (w'.setCell a v) :=
 ⟨h.os, h.tape, h.output, by have := h.size; simp [World.setCell]; omega, fun k hk => (Below.heap_setCell _ _ _ _ (by omega)).trans (h.block k hk)⟩
theorem read_any (F : Nat) (caps : Array Value) (vb : Value) (l : List (BitVec 8)) (A : List (BitVec 8) → World → Prop) (B : World → Prop) (w : World) (hb : Reads w vb l) (hen : ∀ xs w, (callFunc F xs).run Tryz.prog w = .ok (.enter F xs) w)
 (hf : ∀ w1, w1.heap.size = w.heap.size + 4 → Below w.heap.size w w1 → Rd w1 (w.heap.size + 3) (w.heap.size + 1) vb l → Calls Tryz.prog F (#[.pointer (some ⟨w.heap.size + 3, 0, none⟩)] ++ caps) w1 (Does w.heap.size A B w1)) :
 Calls Tryz.prog 38 #[vb, .func (.func F) #[] caps] w fun e w' => ∃ w2, Past w.heap.size w2 w' ∧ ((∃ l2, A l2 w2 ∧ e = .returned (.int .i64 (if l2 = [] then 0 else 3))) ∨ (B w2 ∧ e = .returned (.int .i64 3))) := by
 have hmf : ∀ (fn : Fn) (first cap : Array Value) (w : World), (Instr.makeFunc fn first cap).run Tryz.prog w = .ok (.func fn first cap) w := fun _ _ _ _ => rfl
 have HF : Hid (∀ w1, w1.heap.size = w.heap.size + 4 → Below w.heap.size w w1 → Rd w1 (w.heap.size + 3) (w.heap.size + 1) vb l → Calls Tryz.prog F (#[.pointer (some ⟨w.heap.size + 3, 0, none⟩)] ++ caps) w1 (Does w.heap.size A B w1)) := hf
 have HB : Hid (Reads w vb l) := hb
 obtain ⟨ad, cap, rfl, _, _, _⟩ := id hb
 obtain ⟨n, HN⟩ := sqn (l.length)
 rw [← HN.out] at HF HB ⊢
 have HE : Hid (∀ xs w, (callFunc F xs).run Tryz.prog w = .ok (.enter F xs) w) := hen
 clear hb hf hen
 have hB1 : Below w.heap.size w ((((w.alloc (.cells #[.int .i64 0] 26)).alloc (.cells #[.slice ad n cap, .bool true, .bool false] 120)).alloc (.cells #[.pointer (some ⟨w.heap.size + 1, 0, none⟩)] 118)).alloc (.cells #[.pointer (some ⟨w.heap.size + 1, 0, none⟩)] 122)) :=
  ((((Below.refl _ _).alloc (Nat.le_refl _) _).alloc (by simp) _).alloc (by simp; omega) _).alloc (by simp; omega) _
 have g0 : Blk ((((w.alloc (.cells #[.int .i64 0] 26)).alloc (.cells #[.slice ad n cap, .bool true, .bool false] 120)).alloc (.cells #[.pointer (some ⟨w.heap.size + 1, 0, none⟩)] 118)).alloc (.cells #[.pointer (some ⟨w.heap.size + 1, 0, none⟩)] 122)) w.heap.size [.int .i64 0] 26 := (((Blk.new w [.int .i64 0] 26).alloc _).alloc _).alloc _
 have g1 : Blk ((((w.alloc (.cells #[.int .i64 0] 26)).alloc (.cells #[.slice ad n cap, .bool true, .bool false] 120)).alloc (.cells #[.pointer (some ⟨w.heap.size + 1, 0, none⟩)] 118)).alloc (.cells #[.pointer (some ⟨w.heap.size + 1, 0, none⟩)] 122)) (w.heap.size + 1) [.slice ad n cap, .bool true, .bool false] 120 := ((Blk.new_at (w := w.alloc (.cells #[.int .i64 0] 26)) (by simp) [.slice ad n cap, .bool true, .bool false] 120).alloc _).alloc _
 have g2 : Blk ((((w.alloc (.cells #[.int .i64 0] 26)).alloc (.cells #[.slice ad n cap, .bool true, .bool false] 120)).alloc (.cells #[.pointer (some ⟨w.heap.size + 1, 0, none⟩)] 118)).alloc (.cells #[.pointer (some ⟨w.heap.size + 1, 0, none⟩)] 122)) (w.heap.size + 2) [.pointer (some ⟨w.heap.size + 1, 0, none⟩)] 118 := (Blk.new_at (w := (w.alloc (.cells #[.int .i64 0] 26)).alloc (.cells #[.slice ad n cap, .bool true, .bool false] 120)) (by simp) [.pointer (some ⟨w.heap.size + 1, 0, none⟩)] 118).alloc _
 have g3 : Blk ((((w.alloc (.cells #[.int .i64 0] 26)).alloc (.cells #[.slice ad n cap, .bool true, .bool false] 120)).alloc (.cells #[.pointer (some ⟨w.heap.size + 1, 0, none⟩)] 118)).alloc (.cells #[.pointer (some ⟨w.heap.size + 1, 0, none⟩)] 122)) (w.heap.size + 3) [.pointer (some ⟨w.heap.size + 1, 0, none⟩)] 122 := Blk.new_at (w := ((w.alloc (.cells #[.int .i64 0] 26)).alloc (.cells #[.slice ad n cap, .bool true, .bool false] 120)).alloc (.cells #[.pointer (some ⟨w.heap.size + 1, 0, none⟩)] 118)) (by simp) [.pointer (some ⟨w.heap.size + 1, 0, none⟩)] 122
 have hrd := HF.out _ (by simp) hB1 ⟨g3, g1, HB.out.below hB1⟩
 have HC : Hid (Calls Tryz.prog F (#[.pointer (some ⟨w.heap.size + 3, 0, none⟩)] ++ caps) ((((w.alloc (.cells #[.int .i64 0] 26)).alloc (.cells #[.slice ad n cap, .bool true, .bool false] 120)).alloc (.cells #[.pointer (some ⟨w.heap.size + 1, 0, none⟩)] 118)).alloc (.cells #[.pointer (some ⟨w.heap.size + 1, 0, none⟩)] 122)) (fun e w2 => Does w.heap.size A B ((((w.alloc (.cells #[.int .i64 0] 26)).alloc (.cells #[.slice ad n cap, .bool true, .bool false] 120)).alloc (.cells #[.pointer (some ⟨w.heap.size + 1, 0, none⟩)] 118)).alloc (.cells #[.pointer (some ⟨w.heap.size + 1, 0, none⟩)] 122)) e w2)) := hrd
 have HG0 : Hid (Blk _ w.heap.size [.int .i64 0] 26) := g0
 have HG2 : Hid (Blk _ (w.heap.size + 2) [.pointer (some ⟨w.heap.size + 1, 0, none⟩)] 118) := g2
 clear hrd g0 g1 g2 g3 hB1 HF
 go_enter_defers Tryz.func38, Tryz.ntmps38
 go_wp2_with fail
 rw [HE.out, Oper.upon_enter]
 generalize World.alloc _ (.cells #[.pointer (some ⟨w.heap.size + 1, 0, none⟩)] 122) = w1 at *
 refine Calls.mono HC.out ?_
 intro e w2 hD
 have e0 : Blk w2 w.heap.size [.int .i64 0] 26 := by
  have := HG0.out; unfold Blk at this ⊢; rw [hD.kept _ (by omega) (by omega) (by omega)]; exact this
 have e2 : Blk w2 (w.heap.size + 2) [.pointer (some ⟨w.heap.size + 1, 0, none⟩)] 118 := by
  have := HG2.out; unfold Blk at this ⊢; rw [hD.kept _ (by omega) (by omega) (by omega)]; exact this
 rcases hD.way with ⟨rfl, v2, l2, hrd2, hA⟩ | ⟨rfl, ⟨v, ad2, n2, c2, hv2, hbad⟩, hBB⟩
 · have ce : w2.cell? ⟨w.heap.size, 0, none⟩ = some (.int .i64 0) := e0.cell 0
   have fe : w2.frozen? ⟨w.heap.size, 0, none⟩ = false := e0.frozen 0; obtain ⟨ad2, c2, hv2⟩ := hrd2.slice; have HB2 : Hid (Blk w2 (w.heap.size + 1) [v2, .bool true, .bool false] 120) := hrd2.inp; have HE2 : Hid (Blk w2 (w.heap.size + 2) [.pointer (some ⟨w.heap.size + 1, 0, none⟩)] 118) := e2; have HE0 : Hid (Blk w2 w.heap.size [.int .i64 0] 26) := e0; have HV2 : Hid (v2 = .slice ad2 l2.length c2) := hv2; have HAA : Hid (A l2 w2) := hA; clear hrd2 e0 e2 hv2 hD hA HC HG0 HG2; go_wp2; refine leaves_cons (f := 67) (args := #[.pointer (some ⟨w.heap.size + 2, 0, none⟩), .pointer (some ⟨w.heap.size, 0, none⟩)]) (by simp) (by simp [go_sem]) ?_
   refine (catch_idle (w.heap.size + 2) w.heap.size (w.heap.size + 1) v2 0 _ ad2 l2.length c2 HV2.out (HE2.out.other _ _ (by simp)) (HB2.out.other _ _ (by simp)) (by simpa using HE0.out.set 0 (.int .i64 0))).mono ?_
   rintro e u' w'' ⟨rfl, rfl, hw⟩
   obtain ⟨hc, hP⟩ : w''.cell? ⟨w.heap.size, 0, none⟩ = some (.int .i64 (if l2 = [] then 0 else 3)) ∧ Past w.heap.size w2 w'' := by
    have h1 : Past w.heap.size w2 ((w2.setCell ⟨w.heap.size, 0, none⟩ (.int .i64 0)).setCells (w.heap.size + 1) 0 [.slice none 0 0, .bool false, .bool false]) := ((((Past.refl _ _).setCell _ (by simp) _).setCell _ (by simp) _).setCell _ (by simp) _).setCell _ (by simp) _
    have hE : Blk ((w2.setCell ⟨w.heap.size, 0, none⟩ (.int .i64 0)).setCells (w.heap.size + 1) 0 [.slice none 0 0, .bool false, .bool false]) w.heap.size [.int .i64 0] 26 := Blk.others _ _ _ _ (by simpa using HE0.out.set 0 (.int .i64 0)) (by omega)
    by_cases h0 : l2 = []
    · subst h0
      rw [if_pos (by rfl)] at hw
      rw [if_pos rfl]; subst hw; exact ⟨by rw [((hE.set 0 (.int .i64 3)).set 0 (.int .i64 0)).cell]; rfl, (h1.setCell _ (by simp) _).setCell _ (by simp) _⟩
    · rw [if_neg (by simpa using h0)] at hw
      rw [if_neg h0]; subst hw; exact ⟨by rw [(hE.set 0 (.int .i64 3)).cell]; rfl, h1.setCell _ (by simp) _⟩
   clear hw; have HFin : Hid (∃ w2, Past w.heap.size w2 w'' ∧ ((∃ l2', A l2' w2 ∧ Ending.returned (.int .i64 (if l2 = [] then 0 else 3)) = Ending.returned (.int .i64 (if l2' = [] then 0 else 3))) ∨ (B w2 ∧ Ending.returned (.int .i64 (if l2 = [] then 0 else 3)) = .returned (.int .i64 3)))) := ⟨w2, hP, Or.inl ⟨l2, HAA.out, rfl⟩⟩
   generalize (if l2 = [] then (0 : Int) else 3) = x at hc HFin; clear hP; simp [Leaves, settle, results, Tryz.results38, go_sem, hc]
   simpa using HFin.out
 · have HE2 : Hid (Blk w2 (w.heap.size + 2) [.pointer (some ⟨w.heap.size + 1, 0, none⟩)] 118) := e2
   have HE0 : Hid (Blk w2 w.heap.size [.int .i64 0] 26) := e0; clear e0 e2 hD HC HG0 HG2; unfold thrown; go_wp2; refine leaves_cons (f := 67) (args := #[.pointer (some ⟨w.heap.size + 2, 0, none⟩), .pointer (some ⟨w.heap.size, 0, none⟩)]) (by simp) (by simp [go_sem]) ?_
   refine (catch_threw (w.heap.size + 2) w.heap.size (w.heap.size + 1) v 0 _ ad2 n2 c2 hv2 HE2.out hbad HE0.out).mono ?_; rintro e u' w'' ⟨rfl, rfl, hw⟩
   obtain ⟨hc, hP⟩ : w''.cell? ⟨w.heap.size, 0, none⟩ = some (.int .i64 3) ∧ Past w.heap.size w2 w'' := by
    have h1 : Past w.heap.size w2 (w2.setCells (w.heap.size + 1) 0 [.slice none 0 0, .bool false, .bool false]) := (((Past.refl _ _).setCell _ (by simp) _).setCell _ (by simp) _).setCell _ (by simp) _
    have hE : Blk (w2.setCells (w.heap.size + 1) 0 [.slice none 0 0, .bool false, .bool false]) w.heap.size [.int .i64 0] 26 := Blk.others _ _ _ _ HE0.out (by omega)
    subst hw; exact ⟨by rw [(hE.set 0 (.int .i64 3)).cell]; rfl, h1.setCell _ (by simp) _⟩
   clear hw; have HFin : Hid (∃ w2, Past w.heap.size w2 w'' ∧ ((∃ l2', A l2' w2 ∧ Ending.returned (.int .i64 3) = Ending.returned (.int .i64 (if l2' = [] then 0 else 3))) ∨ (B w2 ∧ Ending.returned (.int .i64 3) = .returned (.int .i64 3)))) := ⟨w2, hP, Or.inr ⟨hBB, rfl⟩⟩; clear hP; simp [Leaves, settle, results, Tryz.results38, go_sem, hc]
   simpa using HFin.out
theorem OwnB.mono {w : World} {base B : Nat} {v : Value} {l : List (BitVec 8)} (h : OwnB w base v l) (hB : B ≤ base) : OwnB w B v l := by
 obtain ⟨h1, h2⟩ := h
 refine ⟨h1, h2.imp id ?_⟩
 rintro ⟨g, cap, cur, e, hg, r⟩
 exact ⟨g, cap, cur, e, Nat.le_trans hB hg, r⟩
theorem readCount_le {most n : Nat} {l r : List (BitVec 8)} (h : readCount most l = some (n, r)) : n ≤ most := by
 unfold readCount at h
 split at h
 · cases h
 · split at h
   · simp only [Option.some.injEq, Prod.mk.injEq] at h; omega
   · cases h
theorem wpOp_enterP {P : Program} {ops : Array Oper} {Q : Exit → Act → World → Prop} {K : Act → World → Prop} {a : Act} {w : World} (i : Nat) {oi : Oper} {f : FuncId} {args : Array Value} {R : Ending → World → Prop}
 (hi : ops[i]? = some oi) (hw : Region.wanted oi (yielded ops a.tmps) = true) (he : (execOp a.eval oi).run P w = .ok (.enter f args) w) (hc : Calls P f args w R)
 (h : ∀ e w', R e w' → (∃ v, e = .returned v ∧ K (a.put oi.dst v) w') ∨ (∃ ch, e = .panicked ch ∧ Q (.panic ch) a w')) : wpOp P ops Q i K a w := by
 unfold wpOp
 rw [hi]
 simp only [hw, if_true]
 left
 unfold Oper.wp
 rw [he, Oper.upon_enter]
 refine hc.mono ?_
 intro e w' hR
 rcases h e w' hR with ⟨v, rfl, hv⟩ | ⟨ch, rfl, hv⟩
 · exact hv
 · exact hv
theorem wpAnyH_enterP {P : Program} {md : Region.Mode} {ops : Array Oper} {Q : Exit → Act → World → Prop} {S : World → Prop} {fuel : Nat} {listed : Array Bool} {a : Act} {w : World} (i : Nat) {oi : Oper} {f : FuncId} {args : Array Value} {R : Ending → World → Prop}
 (hr : Region.ready md ops listed = [i]) (hi : ops[i]? = some oi) (hw : Region.wanted oi (yielded ops a.tmps) = true) (he : (execOp a.eval oi).run P w = .ok (.enter f args) w) (hc : Calls P f args w R)
 (h : ∀ e w', R e w' → (∃ v, e = .returned v ∧ S w' ∧ wpAnyH P md ops Q S fuel (listed.setIfInBounds i true) (a.put oi.dst v) w') ∨ (∃ ch, e = .panicked ch ∧ Q (.panic ch) a w')) : wpAnyH P md ops Q S (fuel + 1) listed a w := by
 refine wpAnyH_all hr (by simp) (fun j hj => ?_)
 obtain rfl : j = i := by simpa using hj
 exact wpOp_enterP j hi hw he hc (fun e w' hR => (h e w' hR).imp (fun ⟨v, h1, h2⟩ => ⟨v, h1, h2⟩) id)
theorem readCt_eq (m : Nat) (l : Bs) : readCt m l = readCount m l := rfl
theorem readA_key {l : Bs} (h : readText l = none) : readA l = none := by unfold readA; rw [h]
theorem readA_num {l k r : Bs} (h : readText l = some (k, r)) (h2 : readCount 1 r = none) : readA l = none := by unfold readA; rw [h]; simp only; rw [readCt_eq, h2]
theorem readA_unset {l k r s : Bs} {n : Nat} (h : readText l = some (k, r)) (h2 : readCount 1 r = some (n, s)) (hn : n ≠ 1) : readA l = some (⟨k, false, []⟩, s) := by unfold readA; rw [h]; simp only; rw [readCt_eq, h2]; simp only; rw [if_neg hn]
theorem readA_nodata {l k r s : Bs} (h : readText l = some (k, r)) (h2 : readCount 1 r = some (1, s)) (h3 : readText s = none) : readA l = none := by unfold readA; rw [h]; simp only; rw [readCt_eq, h2]; simp only [if_true]; rw [h3]
theorem readA_set {l k r s d t : Bs} (h : readText l = some (k, r)) (h2 : readCount 1 r = some (1, s)) (h3 : readText s = some (d, t)) : readA l = some (⟨k, true, d⟩, t) := by unfold readA; rw [h]; simp only; rw [readCt_eq, h2]; simp only [if_true]; rw [h3]
structure Ra (w : World) (gr gi g2 : Nat) (v0 v : Value) (r : Bs) (W : World) : Prop where
 rd : Rd W gr gi v r
 onl : Only gi w W
 res : Blk W g2 zA 62
 own : v.ownBlock = v0.ownBlock
 ge : w.heap.size ≤ g2
 gi : gi < w.heap.size
theorem Ra.new {w W W' : World} {gr gi g2 : Nat} {v0 v : Value} {r : Bs} (h : Ra w gr gi g2 v0 v r W) (hb : Below W.heap.size W W') : Ra w gr gi g2 v0 v r W' := ⟨h.rd.below hb, h.onl.trans (Only.of_below hb), h.res.below hb h.res.lt, h.own, h.ge, h.gi⟩
theorem Ra.call {w W W' : World} {gr gi g2 : Nat} {v0 v v' : Value} {r r' : Bs} (h : Ra w gr gi g2 v0 v r W) (hr : Rd W' gr gi v' r') (ho : Only gi W W') (hv : v'.ownBlock = v.ownBlock) : Ra w gr gi g2 v0 v' r' W' := ⟨hr, h.onl.trans ho, blk_same h.res (ho.block g2 (by have := h.ge; have := h.gi; omega) h.res.lt), hv.trans h.own, h.ge, h.gi⟩
theorem wpAnyH_tri3 {P : Program} {md : Region.Mode} {ops : Array Oper} {Q : Exit → Act → World → Prop} {S : World → Prop} {fuel : Nat} {listed : Array Bool} {a : Act} {w : World} (i j k : Nat) (hr : Region.ready md ops listed = [i, j, k])
 (h1 : wpOp P ops Q i (fun a' w' => S w' ∧ wpAnyH P md ops Q S fuel (listed.setIfInBounds i true) a' w') a w) (h2 : wpOp P ops Q j (fun a' w' => S w' ∧ wpAnyH P md ops Q S fuel (listed.setIfInBounds j true) a' w') a w) (h3 : wpOp P ops Q k (fun a' w' => S w' ∧ wpAnyH P md ops Q S fuel (listed.setIfInBounds k true) a' w') a w) : wpAnyH P md ops Q S (fuel + 1) listed a w := by
 refine wpAnyH_all hr (by simp) (fun m hm => ?_)
 simp only [List.mem_cons, List.not_mem_nil, or_false] at hm
 rcases hm with rfl | rfl | rfl
 · exact h1
 · exact h2
 · exact h3
theorem conv_s (f : Operand → Value) (o : Oper) (x : Operand) (ho : o.op = .convert 23 9 x) (v : Value) (hx : f x = v) (k : Bs) (w : World) (hr : Reads w v k) : (execOp f o).run Tryz.prog w = .ok (.value (.string (strB k))) w := by
 unfold execOp
 rw [ho]
 simp only [hx, Sem.run_bind, conv_reads hr]
 rfl
theorem reads_in {w : World} {v : Value} {l : Bs} (h : Reads w v l) (hp : 0 < l.length) : ∀ k, v.ownBlock = some k → k < w.heap.size := fun k hk => by
 obtain ⟨ad, cap, rfl, _, _, h4⟩ := h
 obtain ⟨b, off, rfl, h6⟩ := h4 hp
 simp [Value.ownBlock] at hk
 subst hk
 exact block_lt_of_cell (h6 0 hp)
theorem text_pos {l k r : Bs} (h : readText l = some (k, r)) : 0 < l.length := by
 obtain ⟨_, rfl⟩ := (readText_iff _ _ _).1 h
 rw [encText, List.length_append, List.length_append]
 have := encNum_pos k.length
 omega
theorem built_ka (s : ByteArray) (b : Bool) : ∀ ps, ps = [(0, Value.string s), (1, .bool b)] → Tryz.prog.built 62 ps = some [Value.string s, .bool b, .slice none 0 0].toArray := fun ps h => by subst h; kernel_rfl
theorem one_act0 (s : ByteArray) (b : Bool) : ∀ v ∈ [Value.string s, .bool b, .slice none 0 0], v.oneCell' = true := one_act s b none 0 0
theorem sReadAct_any (gr gi : Nat) (v : Value) (l : Bs) (w : World) (h : Rd w gr gi v l) : Calls Tryz.prog 41 #[.pointer (some ⟨gr, 0, none⟩)] w fun e w' => RdDoes gr gi v w (readA l) (fun a w' va => ∃ vd, va = .agg (actC a vd).toArray ∧ OwnB w' w.heap.size vd a.data) e w' := by
 have HR0 : Hid (Rd w gr gi v l) := h
 clear h
 go_enter Tryz.func41, Tryz.ntmps41
 have tk0 : Hid True := trivial
 go_wp2_with (first
  | (clear tk0; with_reducible refine wpSeq_allocA ?_ ?_ ?_
     · rfl
     · rfl
     intro g2 y1 nn; have HRA : Hid (Ra w gr gi g2 v v l y1) := ⟨HR0.out.below nn.below, Only.of_below nn.below, nn.blk, rfl, nn.ge, HR0.out.inp.lt⟩; clear nn))
 refine wp_region_held_drew (S := fun _ => True) (by kernel_rfl) trivial ?_
 intro hS
 replace HRA : Hid (Ra w gr gi g2 v v l (World.drew y1)) := HRA.out.new (Below.refl _ _).drew
 change wpAnyH _ _ _ _ _ _ _ _ (World.drew y1)
 generalize World.drew y1 = y2 at *
 refine tkc 0 (.pointer (some ⟨gr, 0, none⟩)) rfl hS ?_
 simp only [Act.put, sq]
 refine tkc 3 (.pointer (some ⟨gr, 0, none⟩)) rfl hS ?_
 simp only [Act.put, sq]
 refine wpAnyH_pair 1 7 (by kernel_rfl) ?_ ?_
 · refine wpOp_enterP 1 rfl (by rfl) (f := 69) (args := #[.pointer (some ⟨gr, 0, none⟩)]) (by simp [go_sem]) (crtext_any gr gi _ _ _ HRA.out.rd) ?_
   rintro e z3 (⟨ky, r1, va1, vc1, hc, rfl, hown, hrd, ho, hob⟩ | ⟨hc, hT⟩)
   case inr =>
    obtain rfl := hT.eq; exact Or.inr ⟨_, rfl, rfl, Or.inr ⟨readA_key hc, Threw.after HRA.out.onl hT⟩⟩
   refine Or.inl ⟨_, rfl, trivial, ?_⟩; have HLE : Hid (w.heap.size ≤ y2.heap.size) := HRA.out.onl.size; replace HRA := HRA.out.call hrd ho hob; have HT1 : Hid (readText l = some (ky, r1)) := hc; obtain ⟨a1, n1, c1, hv1⟩ := hown.reads.form; subst hv1; have HON1 : Hid (OwnB z3 y2.heap.size (.slice a1 n1 c1) ky) := hown; replace HRA : Hid (Ra w gr gi g2 v vc1 r1 z3) := HRA; clear hown hrd ho hob hc; simp only [Act.put, sq]; refine wpAnyH_tri3 2 4 7 (by kernel_rfl) ?_ ?_ ?_
   · refine wpOp_vl 2 _ _ rfl (by rfl) (conv_s _ _ (.tmp 5) rfl _ rfl ky z3 HON1.out.reads) ⟨trivial, ?_⟩
     simp only [Act.put, sq]; refine wpAnyH_pair 4 7 (by kernel_rfl) ?_ ?_
     · refine wpOp_enterP 4 rfl (by rfl) (f := 40) (args := #[.pointer (some ⟨gr, 0, none⟩), .int .i64 ((1 : Nat) : Int)]) (by simp [go_sem]) (ccount_any gr gi 1 (by decide) _ _ _ HRA.out.rd) ?_
       rintro e z5 (⟨nn1, r2, va2, vc2, hc, rfl, rfl, hrd, ho, hob⟩ | ⟨hc, hT⟩)
       case inr =>
        obtain rfl := hT.eq; exact Or.inr ⟨_, rfl, rfl, Or.inr ⟨readA_num HT1.out hc, Threw.after HRA.out.onl hT⟩⟩
       refine Or.inl ⟨_, rfl, trivial, ?_⟩; replace HRA := HRA.out.call hrd ho hob; have HT2 : Hid (readCount 1 r1 = some (nn1, r2)) := hc; have HE2 : Hid (((nn1 : Int) == 1) = decide (nn1 = 1)) := by show _ = _; rw [Bool.eq_iff_iff, beq_iff_eq, decide_eq_true_eq]; omega
       replace HRA : Hid (Ra w gr gi g2 v vc2 r2 z5) := HRA; clear hrd ho hob hc; simp only [Act.put, sq]; obtain ⟨sb, HSB⟩ : ∃ b, Hid (((nn1 : Int) == 1) = b) := ⟨_, rfl⟩; refine tka 5 (.bool sb) rfl (fun wx hx => by (have hb := HSB.out; simp [go_sem, hb])) trivial ?_
       simp only [Act.put, sq]; obtain ⟨ks, HKS⟩ := sqn (strB ky); rw [← HKS.out]; have HVB : Hid (∀ k, v.ownBlock = some k → k < w.heap.size) := reads_in HR0.out.byt (text_pos HT1.out); refine tka 6 (.agg [.string ks, .bool sb, .slice none 0 0].toArray) rfl (fun wx hx => by exact build_op _ _ 62 [(0, .tmp 6), (1, .tmp 9)] rfl _ (built_ka _ _ _ rfl) _) trivial ?_
       simp only [Act.put, sq]; refine wpAnyH_step 7 _ _ (by kernel_rfl) rfl (by rfl) (alloc_act _ _ rfl _) trivial ?_
       obtain ⟨g3, z6, e3, e3w, n3⟩ : ∃ g y, g = z5.heap.size ∧ y = z5.alloc (.cells zA.toArray 62) ∧ NewR zA 62 z5 g y := ⟨_, _, rfl, rfl, NewR.of _ _ _⟩; rw [← e3w, ← e3]; clear e3 e3w; have HG3 : Hid (Blk z6 g3 zA 62 ∧ w.heap.size ≤ g3 ∧ g3 ≠ g2) := ⟨n3.blk, Nat.le_trans HRA.out.onl.size n3.ge, by have h1 := HRA.out.res.lt; have h2 := n3.ge; omega⟩
       replace HRA : Hid (Ra w gr gi g2 v vc2 r2 z6) := HRA.out.new n3.below; clear n3; simp only [Act.put, sq]; refine wpAnyH_storeRow 8 62 (.tmp 3) (.tmp 10) g3 zA [.string ks, .bool sb, .slice none 0 0] HG3.out.1 rfl (info_act15 _ _ _) (one_act0 _ _) (by kernel_rfl) rfl (by rfl) rfl rfl rfl ?_
       intro y8 hset; refine ⟨trivial, ?_⟩; have HK3 : Hid (Blk y8 g3 [.string ks, .bool sb, .slice none 0 0] 62) := hset.blk; have hb8 : Below w.heap.size z6 y8 := hset.only.below HG3.out.2.1 HRA.out.onl.size; have HON : Hid (Only gi w y8) := ⟨hb8.os.trans HRA.out.onl.os, hb8.tape.trans HRA.out.onl.tape, hb8.output.trans HRA.out.onl.output, Nat.le_trans HRA.out.onl.size hb8.size, fun k hk hlt => (hb8.block k hlt).trans (HRA.out.onl.block k hk hlt)⟩
       have HRD : Hid (Rd y8 gr gi vc2 r2) := HRA.out.rd.others HR0.out.rd.lt HRA.out.gi (fun _ k hk => HVB.out k (by rw [← HRA.out.own]; exact hk)) (Nat.le_refl _) hb8
       have HRS : Hid (Blk y8 g2 zA 62) := blk_same HRA.out.res (hset.only.block g2 (fun e => HG3.out.2.2 e.symm) HRA.out.res.lt)
       have HOW : Hid (vc2.ownBlock = v.ownBlock ∧ w.heap.size ≤ g2 ∧ gi < w.heap.size ∧ w.heap.size ≤ g3 ∧ g3 ≠ g2) := ⟨HRA.out.own, HRA.out.ge, HRA.out.gi, HG3.out.2⟩; clear hset HRA HG3 hb8; simp only [Act.put, sq]; refine wpAnyH_done (by kernel_rfl) ?_ _
       have d1 : y8.cell? ⟨g3, 1, none⟩ = some (.bool sb) := HK3.out.cell 1
       by_cases h1 : nn1 = 1
       case neg =>
        obtain rfl : sb = false := by rw [← HSB.out, beq_eq_false_iff_ne]; omega
        have HSP : Hid (readA l = some (⟨ky, false, []⟩, r2)) := readA_unset HT1.out HT2.out h1; clear h1 HSB; obtain ⟨tq0, tq1⟩ := sqk2
        go_wp2_with (first
         | (clear tq0; with_reducible refine wpSeq_loadW 62 (.tmp 3) g3 0 [.string ks, .bool false, .slice none 0 0] _ (Blk.range HK3.out) Tryz.underlying62 rfl (info_act15 _ _ _) ?_ ?_ ?_ ?_
            · rfl
            · rfl
            · rfl)
         | (clear tq1; with_reducible refine wpSeq_storeRow 62 (.tmp 2) (.tmp 16) g2 zA [.string ks, .bool false, .slice none 0 0] HRS.out rfl (info_act15 _ _ _) (one_act0 _ _) ?_ ?_ ?_ ?_ ?_
            · rfl
            · rfl
            · rfl
            · rfl
            intro y9 hset; have HB9 : Hid (Below w.heap.size y8 y9) := hset.only.below HOW.out.2.1 HON.out.size; have HK9 : Hid (Blk y9 g2 [.string ks, .bool false, .slice none 0 0] 62) := hset.blk; have HO9 : Hid (Only gi w y9) := ⟨hset.only.os.trans HON.out.os, hset.only.tape.trans HON.out.tape, hset.only.output.trans HON.out.output, Nat.le_trans HON.out.size hset.only.size, fun k hk hlt => (hset.only.block k (by have := HOW.out.2.1; omega) (Nat.lt_of_lt_of_le hlt HON.out.size)).trans (HON.out.block k hk hlt)⟩
            clear hset d1))
        refine bodyPost_ret (v := .agg [.string ks, .bool false, .slice none 0 0].toArray) (results_cell_row (by rfl) _ _ g2 62 ([Value.string ks, Value.bool false, Value.slice none 0 0] : List Value).toArray (0, 0) _ rfl HK9.out Tryz.underlying62 rfl (info_act15 _ _ _)) rfl (Or.inl ⟨⟨ky, false, []⟩, r2, _, vc2, HSP.out, rfl, ⟨.slice none 0 0, by rw [actC, HKS.out], OwnB.nil _ _⟩, HRD.out.others HR0.out.rd.lt HOW.out.2.2.1 (fun _ k hk => HVB.out k (by rw [← HOW.out.1]; exact hk)) (Nat.le_refl _) HB9.out, HO9.out, HOW.out.1⟩)
       case pos =>
        subst h1; obtain rfl : sb = true := by rw [← HSB.out]; rfl
        have HCT : Hid (Calls Tryz.prog 69 #[.pointer (some ⟨gr, 0, none⟩)] y8 fun e w' => RdDoes gr gi vc2 y8 (readText r2) (fun a w' v => OwnB w' y8.heap.size v a) e w') := crtext_any gr gi vc2 r2 y8 HRD.out
        clear HSB
        go_wp2_with fail
        refine HCT.out.mono ?_; rintro e y9 (⟨dd, r3, va3, vc3, hc, rfl, hown, hrd, ho, hob⟩ | ⟨hc, hT⟩)
        case inr =>
         have HD : Hid (RdDoes gr gi v w (readA l) (fun a w' va => ∃ vd, va = .agg (actC a vd).toArray ∧ OwnB w' w.heap.size vd a.data) (thrown gi) y9) := Or.inr ⟨readA_nodata HT1.out HT2.out hc, Threw.after HON.out (hT.eq ▸ hT)⟩
         obtain rfl := hT.eq; unfold thrown at HD ⊢; clear hT; go_wp2; exact ⟨rfl, HD.out⟩
        have HSP : Hid (readA l = some (⟨ky, true, dd⟩, r3)) := readA_set HT1.out HT2.out hc; have HK9 : Hid (Blk y9 g3 [.string ks, .bool true, .slice none 0 0] 62) := blk_same HK3.out (ho.block g3 (by have h1 := HOW.out.2.2.1; have h2 := HOW.out.2.2.2.1; omega) HK3.out.lt)
        have HR9 : Hid (Blk y9 g2 zA 62) := blk_same HRS.out (ho.block g2 (by have h1 := HOW.out.2.2.1; have h2 := HOW.out.2.1; omega) HRS.out.lt)
        have HOD : Hid (OwnB y9 y8.heap.size va3 dd) := hown; have HL3 : Hid (2 < [Value.string ks, .bool true, .slice none 0 0].length) := by show 2 < 3; omega
        have HG8 : Hid (g3 < y8.heap.size ∧ g2 < y8.heap.size) := ⟨HK3.out.lt, HRS.out.lt⟩; have HRD9 : Hid (Rd y9 gr gi vc3 r3) := hrd; have HON9 : Hid (Only gi w y9) := HON.out.trans ho; have HOW9 : Hid (vc3.ownBlock = v.ownBlock) := hob.trans HOW.out.1; obtain ⟨av, nv, cv, hv3⟩ := hown.reads.form; subst hv3; clear hown hrd ho hob hc HK3 HRS HRD d1; obtain ⟨tq0, tq1, tq2⟩ := sqk3
        go_wp2_with (first
         | (clear tq0; with_reducible refine wpSeq_cellY (.tmp 15) (.tmp 14) g3 2 [.string ks, .bool true, .slice none 0 0] av nv cv 62 HL3.out HK9.out ?_ ?_ ?_ ?_ ?_
            · rfl
            · rfl
            · rfl
            · rfl
            intro y10 hb10 ho10; have HKX : Hid (Blk y10 g3 [.string ks, .bool true, .slice av nv cv] 62) := hb10; have HRX : Hid (Blk y10 g2 zA 62) := blk_same HR9.out (ho10.block g2 (fun e => HOW.out.2.2.2.2 e.symm) HR9.out.lt)
            have HBX : Hid (Below w.heap.size y9 y10) := ho10.below HOW.out.2.2.2.1 HON9.out.size; have HOX : Hid (OwnB y10 y8.heap.size (.slice av nv cv) dd) := HOD.out.sameS (fun k hk => ho10.block k (by have h1 := (HOD.out.ltS k hk).1; have h2 := HG8.out.1; omega) (HOD.out.ltS k hk).2)
            clear hb10 ho10)
         | (clear tq1; with_reducible refine wpSeq_loadW 62 (.tmp 3) g3 0 [.string ks, .bool true, .slice av nv cv] _ (Blk.range HKX.out) Tryz.underlying62 rfl (info_act15 _ _ _) ?_ ?_ ?_ ?_
            · rfl
            · rfl
            · rfl)
         | (clear tq2; with_reducible refine wpSeq_storeRow 62 (.tmp 2) (.tmp 16) g2 zA [.string ks, .bool true, .slice av nv cv] HRX.out rfl (info_act15 _ _ _) (one_act _ _ _ _ _) ?_ ?_ ?_ ?_ ?_
            · rfl
            · rfl
            · rfl
            · rfl
            intro y11 hset; have HBY : Hid (Below w.heap.size y9 y11) := HBX.out.trans (hset.only.below HOW.out.2.1 (Nat.le_trans HON9.out.size HBX.out.size)); have HKY : Hid (Blk y11 g2 [.string ks, .bool true, .slice av nv cv] 62) := hset.blk; have HOY : Hid (OwnB y11 w.heap.size (.slice av nv cv) dd) := (HOX.out.sameS (fun k hk => hset.only.block k (by have h1 := (HOX.out.ltS k hk).1; have h2 := HG8.out.2; omega) (HOX.out.ltS k hk).2)).mono HON.out.size
            have HNY : Hid (Only gi w y11) := ⟨HBY.out.os.trans HON9.out.os, HBY.out.tape.trans HON9.out.tape, HBY.out.output.trans HON9.out.output, Nat.le_trans HON9.out.size HBY.out.size, fun k hk hlt => (HBY.out.block k hlt).trans (HON9.out.block k hk hlt)⟩
            clear hset))
        refine bodyPost_ret (v := .agg [.string ks, .bool true, .slice av nv cv].toArray) (results_cell_row (by rfl) _ _ g2 62 ([Value.string ks, Value.bool true, Value.slice av nv cv] : List Value).toArray (0, 0) _ rfl HKY.out Tryz.underlying62 rfl (info_act15 _ _ _)) rfl (Or.inl ⟨⟨ky, true, dd⟩, r3, _, vc3, HSP.out, rfl, ⟨.slice av nv cv, by rw [actC, HKS.out], HOY.out⟩, HRD9.out.others HR0.out.rd.lt HOW.out.2.2.1 (fun _ k hk => HVB.out k (by rw [← HOW9.out]; exact hk)) (Nat.le_refl _) HBY.out, HNY.out, HOW9.out⟩)
     · refine wpOp_vl 7 _ _ rfl (by rfl) (alloc_act _ _ rfl _) ⟨trivial, ?_⟩
       obtain ⟨g3, z7, e3, e3w, n3⟩ : ∃ g y, g = z3.heap.size ∧ y = z3.alloc (.cells zA.toArray 62) ∧ NewR zA 62 z3 g y := ⟨_, _, rfl, rfl, NewR.of _ _ _⟩; rw [← e3w, ← e3]; clear e3 e3w; have HG3 : Hid (Blk z7 g3 zA 62 ∧ w.heap.size ≤ g3 ∧ g3 ≠ g2) := ⟨n3.blk, Nat.le_trans HRA.out.onl.size n3.ge, by have h1 := HRA.out.res.lt; have h2 := n3.ge; omega⟩
       replace HRA : Hid (Ra w gr gi g2 v vc1 r1 z7) := HRA.out.new n3.below; clear n3; simp only [Act.put, sq]; refine wpAnyH_enterP 4 (by kernel_rfl) rfl (by rfl) (f := 40) (args := #[.pointer (some ⟨gr, 0, none⟩), .int .i64 ((1 : Nat) : Int)]) (by simp [go_sem]) (ccount_any gr gi 1 (by decide) _ _ _ HRA.out.rd) ?_
       rintro e z9 (⟨nn1, r2, va2, vc2, hc, rfl, rfl, hrd, ho, hob⟩ | ⟨hc, hT⟩)
       case inr =>
        obtain rfl := hT.eq; exact Or.inr ⟨_, rfl, rfl, Or.inr ⟨readA_num HT1.out hc, Threw.after HRA.out.onl hT⟩⟩
       refine Or.inl ⟨_, rfl, trivial, ?_⟩; replace HRA := HRA.out.call hrd ho hob; have HT2 : Hid (readCount 1 r1 = some (nn1, r2)) := hc; have HE2 : Hid (((nn1 : Int) == 1) = decide (nn1 = 1)) := by show _ = _; rw [Bool.eq_iff_iff, beq_iff_eq, decide_eq_true_eq]; omega
       replace HG3 : Hid (Blk z9 g3 zA 62 ∧ w.heap.size ≤ g3 ∧ g3 ≠ g2) := ⟨blk_same HG3.out.1 (ho.block g3 (by have h1 := HG3.out.2.1; have h2 := HRA.gi; omega) HG3.out.1.lt), HG3.out.2⟩
       replace HRA : Hid (Ra w gr gi g2 v vc2 r2 z9) := HRA; clear hrd ho hob hc; simp only [Act.put, sq]; obtain ⟨sb, HSB⟩ : ∃ b, Hid (((nn1 : Int) == 1) = b) := ⟨_, rfl⟩; refine tka 5 (.bool sb) rfl (fun wx hx => by (have hb := HSB.out; simp [go_sem, hb])) trivial ?_
       simp only [Act.put, sq]; obtain ⟨ks, HKS⟩ := sqn (strB ky); rw [← HKS.out]; have HVB : Hid (∀ k, v.ownBlock = some k → k < w.heap.size) := reads_in HR0.out.byt (text_pos HT1.out); refine tka 6 (.agg [.string ks, .bool sb, .slice none 0 0].toArray) rfl (fun wx hx => by exact build_op _ _ 62 [(0, .tmp 6), (1, .tmp 9)] rfl _ (built_ka _ _ _ rfl) _) trivial ?_
       simp only [Act.put, sq]; refine wpAnyH_storeRow 8 62 (.tmp 3) (.tmp 10) g3 zA [.string ks, .bool sb, .slice none 0 0] HG3.out.1 rfl (info_act15 _ _ _) (one_act0 _ _) (by kernel_rfl) rfl (by rfl) rfl rfl rfl ?_
       intro y8 hset; refine ⟨trivial, ?_⟩; have HK3 : Hid (Blk y8 g3 [.string ks, .bool sb, .slice none 0 0] 62) := hset.blk; have hb8 : Below w.heap.size z9 y8 := hset.only.below HG3.out.2.1 HRA.out.onl.size; have HON : Hid (Only gi w y8) := ⟨hb8.os.trans HRA.out.onl.os, hb8.tape.trans HRA.out.onl.tape, hb8.output.trans HRA.out.onl.output, Nat.le_trans HRA.out.onl.size hb8.size, fun k hk hlt => (hb8.block k hlt).trans (HRA.out.onl.block k hk hlt)⟩
       have HRD : Hid (Rd y8 gr gi vc2 r2) := HRA.out.rd.others HR0.out.rd.lt HRA.out.gi (fun _ k hk => HVB.out k (by rw [← HRA.out.own]; exact hk)) (Nat.le_refl _) hb8
       have HRS : Hid (Blk y8 g2 zA 62) := blk_same HRA.out.res (hset.only.block g2 (fun e => HG3.out.2.2 e.symm) HRA.out.res.lt)
       have HOW : Hid (vc2.ownBlock = v.ownBlock ∧ w.heap.size ≤ g2 ∧ gi < w.heap.size ∧ w.heap.size ≤ g3 ∧ g3 ≠ g2) := ⟨HRA.out.own, HRA.out.ge, HRA.out.gi, HG3.out.2⟩; clear hset HRA HG3 hb8; simp only [Act.put, sq]; refine wpAnyH_done (by kernel_rfl) ?_ _
       have d1 : y8.cell? ⟨g3, 1, none⟩ = some (.bool sb) := HK3.out.cell 1
       by_cases h1 : nn1 = 1
       case neg =>
        obtain rfl : sb = false := by rw [← HSB.out, beq_eq_false_iff_ne]; omega
        have HSP : Hid (readA l = some (⟨ky, false, []⟩, r2)) := readA_unset HT1.out HT2.out h1; clear h1 HSB; obtain ⟨tq0, tq1⟩ := sqk2
        go_wp2_with (first
         | (clear tq0; with_reducible refine wpSeq_loadW 62 (.tmp 3) g3 0 [.string ks, .bool false, .slice none 0 0] _ (Blk.range HK3.out) Tryz.underlying62 rfl (info_act15 _ _ _) ?_ ?_ ?_ ?_
            · rfl
            · rfl
            · rfl)
         | (clear tq1; with_reducible refine wpSeq_storeRow 62 (.tmp 2) (.tmp 16) g2 zA [.string ks, .bool false, .slice none 0 0] HRS.out rfl (info_act15 _ _ _) (one_act0 _ _) ?_ ?_ ?_ ?_ ?_
            · rfl
            · rfl
            · rfl
            · rfl
            intro y9 hset; have HB9 : Hid (Below w.heap.size y8 y9) := hset.only.below HOW.out.2.1 HON.out.size; have HK9 : Hid (Blk y9 g2 [.string ks, .bool false, .slice none 0 0] 62) := hset.blk; have HO9 : Hid (Only gi w y9) := ⟨hset.only.os.trans HON.out.os, hset.only.tape.trans HON.out.tape, hset.only.output.trans HON.out.output, Nat.le_trans HON.out.size hset.only.size, fun k hk hlt => (hset.only.block k (by have := HOW.out.2.1; omega) (Nat.lt_of_lt_of_le hlt HON.out.size)).trans (HON.out.block k hk hlt)⟩
            clear hset d1))
        refine bodyPost_ret (v := .agg [.string ks, .bool false, .slice none 0 0].toArray) (results_cell_row (by rfl) _ _ g2 62 ([Value.string ks, Value.bool false, Value.slice none 0 0] : List Value).toArray (0, 0) _ rfl HK9.out Tryz.underlying62 rfl (info_act15 _ _ _)) rfl (Or.inl ⟨⟨ky, false, []⟩, r2, _, vc2, HSP.out, rfl, ⟨.slice none 0 0, by rw [actC, HKS.out], OwnB.nil _ _⟩, HRD.out.others HR0.out.rd.lt HOW.out.2.2.1 (fun _ k hk => HVB.out k (by rw [← HOW.out.1]; exact hk)) (Nat.le_refl _) HB9.out, HO9.out, HOW.out.1⟩)
       case pos =>
        subst h1; obtain rfl : sb = true := by rw [← HSB.out]; rfl
        have HCT : Hid (Calls Tryz.prog 69 #[.pointer (some ⟨gr, 0, none⟩)] y8 fun e w' => RdDoes gr gi vc2 y8 (readText r2) (fun a w' v => OwnB w' y8.heap.size v a) e w') := crtext_any gr gi vc2 r2 y8 HRD.out
        clear HSB
        go_wp2_with fail
        refine HCT.out.mono ?_; rintro e y9 (⟨dd, r3, va3, vc3, hc, rfl, hown, hrd, ho, hob⟩ | ⟨hc, hT⟩)
        case inr =>
         have HD : Hid (RdDoes gr gi v w (readA l) (fun a w' va => ∃ vd, va = .agg (actC a vd).toArray ∧ OwnB w' w.heap.size vd a.data) (thrown gi) y9) := Or.inr ⟨readA_nodata HT1.out HT2.out hc, Threw.after HON.out (hT.eq ▸ hT)⟩
         obtain rfl := hT.eq; unfold thrown at HD ⊢; clear hT; go_wp2; exact ⟨rfl, HD.out⟩
        have HSP : Hid (readA l = some (⟨ky, true, dd⟩, r3)) := readA_set HT1.out HT2.out hc; have HK9 : Hid (Blk y9 g3 [.string ks, .bool true, .slice none 0 0] 62) := blk_same HK3.out (ho.block g3 (by have h1 := HOW.out.2.2.1; have h2 := HOW.out.2.2.2.1; omega) HK3.out.lt)
        have HR9 : Hid (Blk y9 g2 zA 62) := blk_same HRS.out (ho.block g2 (by have h1 := HOW.out.2.2.1; have h2 := HOW.out.2.1; omega) HRS.out.lt)
        have HOD : Hid (OwnB y9 y8.heap.size va3 dd) := hown; have HL3 : Hid (2 < [Value.string ks, .bool true, .slice none 0 0].length) := by show 2 < 3; omega
        have HG8 : Hid (g3 < y8.heap.size ∧ g2 < y8.heap.size) := ⟨HK3.out.lt, HRS.out.lt⟩; have HRD9 : Hid (Rd y9 gr gi vc3 r3) := hrd; have HON9 : Hid (Only gi w y9) := HON.out.trans ho; have HOW9 : Hid (vc3.ownBlock = v.ownBlock) := hob.trans HOW.out.1; obtain ⟨av, nv, cv, hv3⟩ := hown.reads.form; subst hv3; clear hown hrd ho hob hc HK3 HRS HRD d1; obtain ⟨tq0, tq1, tq2⟩ := sqk3
        go_wp2_with (first
         | (clear tq0; with_reducible refine wpSeq_cellY (.tmp 15) (.tmp 14) g3 2 [.string ks, .bool true, .slice none 0 0] av nv cv 62 HL3.out HK9.out ?_ ?_ ?_ ?_ ?_
            · rfl
            · rfl
            · rfl
            · rfl
            intro y10 hb10 ho10; have HKX : Hid (Blk y10 g3 [.string ks, .bool true, .slice av nv cv] 62) := hb10; have HRX : Hid (Blk y10 g2 zA 62) := blk_same HR9.out (ho10.block g2 (fun e => HOW.out.2.2.2.2 e.symm) HR9.out.lt)
            have HBX : Hid (Below w.heap.size y9 y10) := ho10.below HOW.out.2.2.2.1 HON9.out.size; have HOX : Hid (OwnB y10 y8.heap.size (.slice av nv cv) dd) := HOD.out.sameS (fun k hk => ho10.block k (by have h1 := (HOD.out.ltS k hk).1; have h2 := HG8.out.1; omega) (HOD.out.ltS k hk).2)
            clear hb10 ho10)
         | (clear tq1; with_reducible refine wpSeq_loadW 62 (.tmp 3) g3 0 [.string ks, .bool true, .slice av nv cv] _ (Blk.range HKX.out) Tryz.underlying62 rfl (info_act15 _ _ _) ?_ ?_ ?_ ?_
            · rfl
            · rfl
            · rfl)
         | (clear tq2; with_reducible refine wpSeq_storeRow 62 (.tmp 2) (.tmp 16) g2 zA [.string ks, .bool true, .slice av nv cv] HRX.out rfl (info_act15 _ _ _) (one_act _ _ _ _ _) ?_ ?_ ?_ ?_ ?_
            · rfl
            · rfl
            · rfl
            · rfl
            intro y11 hset; have HBY : Hid (Below w.heap.size y9 y11) := HBX.out.trans (hset.only.below HOW.out.2.1 (Nat.le_trans HON9.out.size HBX.out.size)); have HKY : Hid (Blk y11 g2 [.string ks, .bool true, .slice av nv cv] 62) := hset.blk; have HOY : Hid (OwnB y11 w.heap.size (.slice av nv cv) dd) := (HOX.out.sameS (fun k hk => hset.only.block k (by have h1 := (HOX.out.ltS k hk).1; have h2 := HG8.out.2; omega) (HOX.out.ltS k hk).2)).mono HON.out.size
            have HNY : Hid (Only gi w y11) := ⟨HBY.out.os.trans HON9.out.os, HBY.out.tape.trans HON9.out.tape, HBY.out.output.trans HON9.out.output, Nat.le_trans HON9.out.size HBY.out.size, fun k hk hlt => (HBY.out.block k hlt).trans (HON9.out.block k hk hlt)⟩
            clear hset))
        refine bodyPost_ret (v := .agg [.string ks, .bool true, .slice av nv cv].toArray) (results_cell_row (by rfl) _ _ g2 62 ([Value.string ks, Value.bool true, Value.slice av nv cv] : List Value).toArray (0, 0) _ rfl HKY.out Tryz.underlying62 rfl (info_act15 _ _ _)) rfl (Or.inl ⟨⟨ky, true, dd⟩, r3, _, vc3, HSP.out, rfl, ⟨.slice av nv cv, by rw [actC, HKS.out], HOY.out⟩, HRD9.out.others HR0.out.rd.lt HOW.out.2.2.1 (fun _ k hk => HVB.out k (by rw [← HOW9.out]; exact hk)) (Nat.le_refl _) HBY.out, HNY.out, HOW9.out⟩)
   · refine wpOp_enterP 4 rfl (by rfl) (f := 40) (args := #[.pointer (some ⟨gr, 0, none⟩), .int .i64 ((1 : Nat) : Int)]) (by simp [go_sem]) (ccount_any gr gi 1 (by decide) _ _ _ HRA.out.rd) ?_
     rintro e z10 (⟨nn1, r2, va2, vc2, hc, rfl, rfl, hrd, ho, hob⟩ | ⟨hc, hT⟩)
     case inr =>
      obtain rfl := hT.eq; exact Or.inr ⟨_, rfl, rfl, Or.inr ⟨readA_num HT1.out hc, Threw.after HRA.out.onl hT⟩⟩
     refine Or.inl ⟨_, rfl, trivial, ?_⟩; replace HRA := HRA.out.call hrd ho hob; have HT2 : Hid (readCount 1 r1 = some (nn1, r2)) := hc; have HE2 : Hid (((nn1 : Int) == 1) = decide (nn1 = 1)) := by show _ = _; rw [Bool.eq_iff_iff, beq_iff_eq, decide_eq_true_eq]; omega
     replace HON1 : Hid (OwnB z10 (w.heap.size) (.slice a1 n1 c1) ky) := by
      have hgg := HRA.gi; exact (HON1.out.sameS (fun k hk => ho.block k (by have h1 := (HON1.out.ltS k hk).1; have h2 := HLE.out; omega) (HON1.out.ltS k hk).2)).mono HLE.out
     replace HRA : Hid (Ra w gr gi g2 v vc2 r2 z10) := HRA; clear hrd ho hob hc; simp only [Act.put, sq]; obtain ⟨sb, HSB⟩ : ∃ b, Hid (((nn1 : Int) == 1) = b) := ⟨_, rfl⟩; refine tka 5 (.bool sb) rfl (fun wx hx => by (have hb := HSB.out; simp [go_sem, hb])) trivial ?_
     simp only [Act.put, sq]; refine wpAnyH_pair 2 7 (by kernel_rfl) ?_ ?_
     · refine wpOp_vl 2 _ _ rfl (by rfl) (conv_s _ _ (.tmp 5) rfl _ rfl ky z10 HON1.out.reads) ⟨trivial, ?_⟩
       simp only [Act.put, sq]; obtain ⟨ks, HKS⟩ := sqn (strB ky); rw [← HKS.out]; have HVB : Hid (∀ k, v.ownBlock = some k → k < w.heap.size) := reads_in HR0.out.byt (text_pos HT1.out); refine tka 6 (.agg [.string ks, .bool sb, .slice none 0 0].toArray) rfl (fun wx hx => by exact build_op _ _ 62 [(0, .tmp 6), (1, .tmp 9)] rfl _ (built_ka _ _ _ rfl) _) trivial ?_
       simp only [Act.put, sq]; refine wpAnyH_step 7 _ _ (by kernel_rfl) rfl (by rfl) (alloc_act _ _ rfl _) trivial ?_
       obtain ⟨g3, z12, e3, e3w, n3⟩ : ∃ g y, g = z10.heap.size ∧ y = z10.alloc (.cells zA.toArray 62) ∧ NewR zA 62 z10 g y := ⟨_, _, rfl, rfl, NewR.of _ _ _⟩; rw [← e3w, ← e3]; clear e3 e3w; have HG3 : Hid (Blk z12 g3 zA 62 ∧ w.heap.size ≤ g3 ∧ g3 ≠ g2) := ⟨n3.blk, Nat.le_trans HRA.out.onl.size n3.ge, by have h1 := HRA.out.res.lt; have h2 := n3.ge; omega⟩
       replace HRA : Hid (Ra w gr gi g2 v vc2 r2 z12) := HRA.out.new n3.below; clear n3; simp only [Act.put, sq]; refine wpAnyH_storeRow 8 62 (.tmp 3) (.tmp 10) g3 zA [.string ks, .bool sb, .slice none 0 0] HG3.out.1 rfl (info_act15 _ _ _) (one_act0 _ _) (by kernel_rfl) rfl (by rfl) rfl rfl rfl ?_
       intro y8 hset; refine ⟨trivial, ?_⟩; have HK3 : Hid (Blk y8 g3 [.string ks, .bool sb, .slice none 0 0] 62) := hset.blk; have hb8 : Below w.heap.size z12 y8 := hset.only.below HG3.out.2.1 HRA.out.onl.size; have HON : Hid (Only gi w y8) := ⟨hb8.os.trans HRA.out.onl.os, hb8.tape.trans HRA.out.onl.tape, hb8.output.trans HRA.out.onl.output, Nat.le_trans HRA.out.onl.size hb8.size, fun k hk hlt => (hb8.block k hlt).trans (HRA.out.onl.block k hk hlt)⟩
       have HRD : Hid (Rd y8 gr gi vc2 r2) := HRA.out.rd.others HR0.out.rd.lt HRA.out.gi (fun _ k hk => HVB.out k (by rw [← HRA.out.own]; exact hk)) (Nat.le_refl _) hb8
       have HRS : Hid (Blk y8 g2 zA 62) := blk_same HRA.out.res (hset.only.block g2 (fun e => HG3.out.2.2 e.symm) HRA.out.res.lt)
       have HOW : Hid (vc2.ownBlock = v.ownBlock ∧ w.heap.size ≤ g2 ∧ gi < w.heap.size ∧ w.heap.size ≤ g3 ∧ g3 ≠ g2) := ⟨HRA.out.own, HRA.out.ge, HRA.out.gi, HG3.out.2⟩; clear hset HRA HG3 hb8; simp only [Act.put, sq]; refine wpAnyH_done (by kernel_rfl) ?_ _
       have d1 : y8.cell? ⟨g3, 1, none⟩ = some (.bool sb) := HK3.out.cell 1
       by_cases h1 : nn1 = 1
       case neg =>
        obtain rfl : sb = false := by rw [← HSB.out, beq_eq_false_iff_ne]; omega
        have HSP : Hid (readA l = some (⟨ky, false, []⟩, r2)) := readA_unset HT1.out HT2.out h1; clear h1 HSB; obtain ⟨tq0, tq1⟩ := sqk2
        go_wp2_with (first
         | (clear tq0; with_reducible refine wpSeq_loadW 62 (.tmp 3) g3 0 [.string ks, .bool false, .slice none 0 0] _ (Blk.range HK3.out) Tryz.underlying62 rfl (info_act15 _ _ _) ?_ ?_ ?_ ?_
            · rfl
            · rfl
            · rfl)
         | (clear tq1; with_reducible refine wpSeq_storeRow 62 (.tmp 2) (.tmp 16) g2 zA [.string ks, .bool false, .slice none 0 0] HRS.out rfl (info_act15 _ _ _) (one_act0 _ _) ?_ ?_ ?_ ?_ ?_
            · rfl
            · rfl
            · rfl
            · rfl
            intro y9 hset; have HB9 : Hid (Below w.heap.size y8 y9) := hset.only.below HOW.out.2.1 HON.out.size; have HK9 : Hid (Blk y9 g2 [.string ks, .bool false, .slice none 0 0] 62) := hset.blk; have HO9 : Hid (Only gi w y9) := ⟨hset.only.os.trans HON.out.os, hset.only.tape.trans HON.out.tape, hset.only.output.trans HON.out.output, Nat.le_trans HON.out.size hset.only.size, fun k hk hlt => (hset.only.block k (by have := HOW.out.2.1; omega) (Nat.lt_of_lt_of_le hlt HON.out.size)).trans (HON.out.block k hk hlt)⟩
            clear hset d1))
        refine bodyPost_ret (v := .agg [.string ks, .bool false, .slice none 0 0].toArray) (results_cell_row (by rfl) _ _ g2 62 ([Value.string ks, Value.bool false, Value.slice none 0 0] : List Value).toArray (0, 0) _ rfl HK9.out Tryz.underlying62 rfl (info_act15 _ _ _)) rfl (Or.inl ⟨⟨ky, false, []⟩, r2, _, vc2, HSP.out, rfl, ⟨.slice none 0 0, by rw [actC, HKS.out], OwnB.nil _ _⟩, HRD.out.others HR0.out.rd.lt HOW.out.2.2.1 (fun _ k hk => HVB.out k (by rw [← HOW.out.1]; exact hk)) (Nat.le_refl _) HB9.out, HO9.out, HOW.out.1⟩)
       case pos =>
        subst h1; obtain rfl : sb = true := by rw [← HSB.out]; rfl
        have HCT : Hid (Calls Tryz.prog 69 #[.pointer (some ⟨gr, 0, none⟩)] y8 fun e w' => RdDoes gr gi vc2 y8 (readText r2) (fun a w' v => OwnB w' y8.heap.size v a) e w') := crtext_any gr gi vc2 r2 y8 HRD.out
        clear HSB
        go_wp2_with fail
        refine HCT.out.mono ?_; rintro e y9 (⟨dd, r3, va3, vc3, hc, rfl, hown, hrd, ho, hob⟩ | ⟨hc, hT⟩)
        case inr =>
         have HD : Hid (RdDoes gr gi v w (readA l) (fun a w' va => ∃ vd, va = .agg (actC a vd).toArray ∧ OwnB w' w.heap.size vd a.data) (thrown gi) y9) := Or.inr ⟨readA_nodata HT1.out HT2.out hc, Threw.after HON.out (hT.eq ▸ hT)⟩
         obtain rfl := hT.eq; unfold thrown at HD ⊢; clear hT; go_wp2; exact ⟨rfl, HD.out⟩
        have HSP : Hid (readA l = some (⟨ky, true, dd⟩, r3)) := readA_set HT1.out HT2.out hc; have HK9 : Hid (Blk y9 g3 [.string ks, .bool true, .slice none 0 0] 62) := blk_same HK3.out (ho.block g3 (by have h1 := HOW.out.2.2.1; have h2 := HOW.out.2.2.2.1; omega) HK3.out.lt)
        have HR9 : Hid (Blk y9 g2 zA 62) := blk_same HRS.out (ho.block g2 (by have h1 := HOW.out.2.2.1; have h2 := HOW.out.2.1; omega) HRS.out.lt)
        have HOD : Hid (OwnB y9 y8.heap.size va3 dd) := hown; have HL3 : Hid (2 < [Value.string ks, .bool true, .slice none 0 0].length) := by show 2 < 3; omega
        have HG8 : Hid (g3 < y8.heap.size ∧ g2 < y8.heap.size) := ⟨HK3.out.lt, HRS.out.lt⟩; have HRD9 : Hid (Rd y9 gr gi vc3 r3) := hrd; have HON9 : Hid (Only gi w y9) := HON.out.trans ho; have HOW9 : Hid (vc3.ownBlock = v.ownBlock) := hob.trans HOW.out.1; obtain ⟨av, nv, cv, hv3⟩ := hown.reads.form; subst hv3; clear hown hrd ho hob hc HK3 HRS HRD d1; obtain ⟨tq0, tq1, tq2⟩ := sqk3
        go_wp2_with (first
         | (clear tq0; with_reducible refine wpSeq_cellY (.tmp 15) (.tmp 14) g3 2 [.string ks, .bool true, .slice none 0 0] av nv cv 62 HL3.out HK9.out ?_ ?_ ?_ ?_ ?_
            · rfl
            · rfl
            · rfl
            · rfl
            intro y10 hb10 ho10; have HKX : Hid (Blk y10 g3 [.string ks, .bool true, .slice av nv cv] 62) := hb10; have HRX : Hid (Blk y10 g2 zA 62) := blk_same HR9.out (ho10.block g2 (fun e => HOW.out.2.2.2.2 e.symm) HR9.out.lt)
            have HBX : Hid (Below w.heap.size y9 y10) := ho10.below HOW.out.2.2.2.1 HON9.out.size; have HOX : Hid (OwnB y10 y8.heap.size (.slice av nv cv) dd) := HOD.out.sameS (fun k hk => ho10.block k (by have h1 := (HOD.out.ltS k hk).1; have h2 := HG8.out.1; omega) (HOD.out.ltS k hk).2)
            clear hb10 ho10)
         | (clear tq1; with_reducible refine wpSeq_loadW 62 (.tmp 3) g3 0 [.string ks, .bool true, .slice av nv cv] _ (Blk.range HKX.out) Tryz.underlying62 rfl (info_act15 _ _ _) ?_ ?_ ?_ ?_
            · rfl
            · rfl
            · rfl)
         | (clear tq2; with_reducible refine wpSeq_storeRow 62 (.tmp 2) (.tmp 16) g2 zA [.string ks, .bool true, .slice av nv cv] HRX.out rfl (info_act15 _ _ _) (one_act _ _ _ _ _) ?_ ?_ ?_ ?_ ?_
            · rfl
            · rfl
            · rfl
            · rfl
            intro y11 hset; have HBY : Hid (Below w.heap.size y9 y11) := HBX.out.trans (hset.only.below HOW.out.2.1 (Nat.le_trans HON9.out.size HBX.out.size)); have HKY : Hid (Blk y11 g2 [.string ks, .bool true, .slice av nv cv] 62) := hset.blk; have HOY : Hid (OwnB y11 w.heap.size (.slice av nv cv) dd) := (HOX.out.sameS (fun k hk => hset.only.block k (by have h1 := (HOX.out.ltS k hk).1; have h2 := HG8.out.2; omega) (HOX.out.ltS k hk).2)).mono HON.out.size
            have HNY : Hid (Only gi w y11) := ⟨HBY.out.os.trans HON9.out.os, HBY.out.tape.trans HON9.out.tape, HBY.out.output.trans HON9.out.output, Nat.le_trans HON9.out.size HBY.out.size, fun k hk hlt => (HBY.out.block k hlt).trans (HON9.out.block k hk hlt)⟩
            clear hset))
        refine bodyPost_ret (v := .agg [.string ks, .bool true, .slice av nv cv].toArray) (results_cell_row (by rfl) _ _ g2 62 ([Value.string ks, Value.bool true, Value.slice av nv cv] : List Value).toArray (0, 0) _ rfl HKY.out Tryz.underlying62 rfl (info_act15 _ _ _)) rfl (Or.inl ⟨⟨ky, true, dd⟩, r3, _, vc3, HSP.out, rfl, ⟨.slice av nv cv, by rw [actC, HKS.out], HOY.out⟩, HRD9.out.others HR0.out.rd.lt HOW.out.2.2.1 (fun _ k hk => HVB.out k (by rw [← HOW9.out]; exact hk)) (Nat.le_refl _) HBY.out, HNY.out, HOW9.out⟩)
     · refine wpOp_vl 7 _ _ rfl (by rfl) (alloc_act _ _ rfl _) ⟨trivial, ?_⟩
       obtain ⟨g3, z13, e3, e3w, n3⟩ : ∃ g y, g = z10.heap.size ∧ y = z10.alloc (.cells zA.toArray 62) ∧ NewR zA 62 z10 g y := ⟨_, _, rfl, rfl, NewR.of _ _ _⟩; rw [← e3w, ← e3]; clear e3 e3w; have HG3 : Hid (Blk z13 g3 zA 62 ∧ w.heap.size ≤ g3 ∧ g3 ≠ g2) := ⟨n3.blk, Nat.le_trans HRA.out.onl.size n3.ge, by have h1 := HRA.out.res.lt; have h2 := n3.ge; omega⟩
       replace HRA : Hid (Ra w gr gi g2 v vc2 r2 z13) := HRA.out.new n3.below; replace HON1 := HON1.out.newS n3.below; replace HON1 : Hid (OwnB z13 _ (.slice a1 n1 c1) ky) := HON1; clear n3; simp only [Act.put, sq]; refine wpAnyH_step 2 _ _ (by kernel_rfl) rfl (by rfl) (conv_s _ _ (.tmp 5) rfl _ rfl ky z13 HON1.out.reads) trivial ?_
       simp only [Act.put, sq]; obtain ⟨ks, HKS⟩ := sqn (strB ky); rw [← HKS.out]; have HVB : Hid (∀ k, v.ownBlock = some k → k < w.heap.size) := reads_in HR0.out.byt (text_pos HT1.out); refine tka 6 (.agg [.string ks, .bool sb, .slice none 0 0].toArray) rfl (fun wx hx => by exact build_op _ _ 62 [(0, .tmp 6), (1, .tmp 9)] rfl _ (built_ka _ _ _ rfl) _) trivial ?_
       simp only [Act.put, sq]; refine wpAnyH_storeRow 8 62 (.tmp 3) (.tmp 10) g3 zA [.string ks, .bool sb, .slice none 0 0] HG3.out.1 rfl (info_act15 _ _ _) (one_act0 _ _) (by kernel_rfl) rfl (by rfl) rfl rfl rfl ?_
       intro y8 hset; refine ⟨trivial, ?_⟩; have HK3 : Hid (Blk y8 g3 [.string ks, .bool sb, .slice none 0 0] 62) := hset.blk; have hb8 : Below w.heap.size z13 y8 := hset.only.below HG3.out.2.1 HRA.out.onl.size; have HON : Hid (Only gi w y8) := ⟨hb8.os.trans HRA.out.onl.os, hb8.tape.trans HRA.out.onl.tape, hb8.output.trans HRA.out.onl.output, Nat.le_trans HRA.out.onl.size hb8.size, fun k hk hlt => (hb8.block k hlt).trans (HRA.out.onl.block k hk hlt)⟩
       have HRD : Hid (Rd y8 gr gi vc2 r2) := HRA.out.rd.others HR0.out.rd.lt HRA.out.gi (fun _ k hk => HVB.out k (by rw [← HRA.out.own]; exact hk)) (Nat.le_refl _) hb8
       have HRS : Hid (Blk y8 g2 zA 62) := blk_same HRA.out.res (hset.only.block g2 (fun e => HG3.out.2.2 e.symm) HRA.out.res.lt)
       have HOW : Hid (vc2.ownBlock = v.ownBlock ∧ w.heap.size ≤ g2 ∧ gi < w.heap.size ∧ w.heap.size ≤ g3 ∧ g3 ≠ g2) := ⟨HRA.out.own, HRA.out.ge, HRA.out.gi, HG3.out.2⟩; clear hset HRA HG3 hb8; simp only [Act.put, sq]; refine wpAnyH_done (by kernel_rfl) ?_ _
       have d1 : y8.cell? ⟨g3, 1, none⟩ = some (.bool sb) := HK3.out.cell 1
       by_cases h1 : nn1 = 1
       case neg =>
        obtain rfl : sb = false := by rw [← HSB.out, beq_eq_false_iff_ne]; omega
        have HSP : Hid (readA l = some (⟨ky, false, []⟩, r2)) := readA_unset HT1.out HT2.out h1; clear h1 HSB; obtain ⟨tq0, tq1⟩ := sqk2
        go_wp2_with (first
         | (clear tq0; with_reducible refine wpSeq_loadW 62 (.tmp 3) g3 0 [.string ks, .bool false, .slice none 0 0] _ (Blk.range HK3.out) Tryz.underlying62 rfl (info_act15 _ _ _) ?_ ?_ ?_ ?_
            · rfl
            · rfl
            · rfl)
         | (clear tq1; with_reducible refine wpSeq_storeRow 62 (.tmp 2) (.tmp 16) g2 zA [.string ks, .bool false, .slice none 0 0] HRS.out rfl (info_act15 _ _ _) (one_act0 _ _) ?_ ?_ ?_ ?_ ?_
            · rfl
            · rfl
            · rfl
            · rfl
            intro y9 hset; have HB9 : Hid (Below w.heap.size y8 y9) := hset.only.below HOW.out.2.1 HON.out.size; have HK9 : Hid (Blk y9 g2 [.string ks, .bool false, .slice none 0 0] 62) := hset.blk; have HO9 : Hid (Only gi w y9) := ⟨hset.only.os.trans HON.out.os, hset.only.tape.trans HON.out.tape, hset.only.output.trans HON.out.output, Nat.le_trans HON.out.size hset.only.size, fun k hk hlt => (hset.only.block k (by have := HOW.out.2.1; omega) (Nat.lt_of_lt_of_le hlt HON.out.size)).trans (HON.out.block k hk hlt)⟩
            clear hset d1))
        refine bodyPost_ret (v := .agg [.string ks, .bool false, .slice none 0 0].toArray) (results_cell_row (by rfl) _ _ g2 62 ([Value.string ks, Value.bool false, Value.slice none 0 0] : List Value).toArray (0, 0) _ rfl HK9.out Tryz.underlying62 rfl (info_act15 _ _ _)) rfl (Or.inl ⟨⟨ky, false, []⟩, r2, _, vc2, HSP.out, rfl, ⟨.slice none 0 0, by rw [actC, HKS.out], OwnB.nil _ _⟩, HRD.out.others HR0.out.rd.lt HOW.out.2.2.1 (fun _ k hk => HVB.out k (by rw [← HOW.out.1]; exact hk)) (Nat.le_refl _) HB9.out, HO9.out, HOW.out.1⟩)
       case pos =>
        subst h1; obtain rfl : sb = true := by rw [← HSB.out]; rfl
        have HCT : Hid (Calls Tryz.prog 69 #[.pointer (some ⟨gr, 0, none⟩)] y8 fun e w' => RdDoes gr gi vc2 y8 (readText r2) (fun a w' v => OwnB w' y8.heap.size v a) e w') := crtext_any gr gi vc2 r2 y8 HRD.out
        clear HSB
        go_wp2_with fail
        refine HCT.out.mono ?_; rintro e y9 (⟨dd, r3, va3, vc3, hc, rfl, hown, hrd, ho, hob⟩ | ⟨hc, hT⟩)
        case inr =>
         have HD : Hid (RdDoes gr gi v w (readA l) (fun a w' va => ∃ vd, va = .agg (actC a vd).toArray ∧ OwnB w' w.heap.size vd a.data) (thrown gi) y9) := Or.inr ⟨readA_nodata HT1.out HT2.out hc, Threw.after HON.out (hT.eq ▸ hT)⟩
         obtain rfl := hT.eq; unfold thrown at HD ⊢; clear hT; go_wp2; exact ⟨rfl, HD.out⟩
        have HSP : Hid (readA l = some (⟨ky, true, dd⟩, r3)) := readA_set HT1.out HT2.out hc; have HK9 : Hid (Blk y9 g3 [.string ks, .bool true, .slice none 0 0] 62) := blk_same HK3.out (ho.block g3 (by have h1 := HOW.out.2.2.1; have h2 := HOW.out.2.2.2.1; omega) HK3.out.lt)
        have HR9 : Hid (Blk y9 g2 zA 62) := blk_same HRS.out (ho.block g2 (by have h1 := HOW.out.2.2.1; have h2 := HOW.out.2.1; omega) HRS.out.lt)
        have HOD : Hid (OwnB y9 y8.heap.size va3 dd) := hown; have HL3 : Hid (2 < [Value.string ks, .bool true, .slice none 0 0].length) := by show 2 < 3; omega
        have HG8 : Hid (g3 < y8.heap.size ∧ g2 < y8.heap.size) := ⟨HK3.out.lt, HRS.out.lt⟩; have HRD9 : Hid (Rd y9 gr gi vc3 r3) := hrd; have HON9 : Hid (Only gi w y9) := HON.out.trans ho; have HOW9 : Hid (vc3.ownBlock = v.ownBlock) := hob.trans HOW.out.1; obtain ⟨av, nv, cv, hv3⟩ := hown.reads.form; subst hv3; clear hown hrd ho hob hc HK3 HRS HRD d1; obtain ⟨tq0, tq1, tq2⟩ := sqk3
        go_wp2_with (first
         | (clear tq0; with_reducible refine wpSeq_cellY (.tmp 15) (.tmp 14) g3 2 [.string ks, .bool true, .slice none 0 0] av nv cv 62 HL3.out HK9.out ?_ ?_ ?_ ?_ ?_
            · rfl
            · rfl
            · rfl
            · rfl
            intro y10 hb10 ho10; have HKX : Hid (Blk y10 g3 [.string ks, .bool true, .slice av nv cv] 62) := hb10; have HRX : Hid (Blk y10 g2 zA 62) := blk_same HR9.out (ho10.block g2 (fun e => HOW.out.2.2.2.2 e.symm) HR9.out.lt)
            have HBX : Hid (Below w.heap.size y9 y10) := ho10.below HOW.out.2.2.2.1 HON9.out.size; have HOX : Hid (OwnB y10 y8.heap.size (.slice av nv cv) dd) := HOD.out.sameS (fun k hk => ho10.block k (by have h1 := (HOD.out.ltS k hk).1; have h2 := HG8.out.1; omega) (HOD.out.ltS k hk).2)
            clear hb10 ho10)
         | (clear tq1; with_reducible refine wpSeq_loadW 62 (.tmp 3) g3 0 [.string ks, .bool true, .slice av nv cv] _ (Blk.range HKX.out) Tryz.underlying62 rfl (info_act15 _ _ _) ?_ ?_ ?_ ?_
            · rfl
            · rfl
            · rfl)
         | (clear tq2; with_reducible refine wpSeq_storeRow 62 (.tmp 2) (.tmp 16) g2 zA [.string ks, .bool true, .slice av nv cv] HRX.out rfl (info_act15 _ _ _) (one_act _ _ _ _ _) ?_ ?_ ?_ ?_ ?_
            · rfl
            · rfl
            · rfl
            · rfl
            intro y11 hset; have HBY : Hid (Below w.heap.size y9 y11) := HBX.out.trans (hset.only.below HOW.out.2.1 (Nat.le_trans HON9.out.size HBX.out.size)); have HKY : Hid (Blk y11 g2 [.string ks, .bool true, .slice av nv cv] 62) := hset.blk; have HOY : Hid (OwnB y11 w.heap.size (.slice av nv cv) dd) := (HOX.out.sameS (fun k hk => hset.only.block k (by have h1 := (HOX.out.ltS k hk).1; have h2 := HG8.out.2; omega) (HOX.out.ltS k hk).2)).mono HON.out.size
            have HNY : Hid (Only gi w y11) := ⟨HBY.out.os.trans HON9.out.os, HBY.out.tape.trans HON9.out.tape, HBY.out.output.trans HON9.out.output, Nat.le_trans HON9.out.size HBY.out.size, fun k hk hlt => (HBY.out.block k hlt).trans (HON9.out.block k hk hlt)⟩
            clear hset))
        refine bodyPost_ret (v := .agg [.string ks, .bool true, .slice av nv cv].toArray) (results_cell_row (by rfl) _ _ g2 62 ([Value.string ks, Value.bool true, Value.slice av nv cv] : List Value).toArray (0, 0) _ rfl HKY.out Tryz.underlying62 rfl (info_act15 _ _ _)) rfl (Or.inl ⟨⟨ky, true, dd⟩, r3, _, vc3, HSP.out, rfl, ⟨.slice av nv cv, by rw [actC, HKS.out], HOY.out⟩, HRD9.out.others HR0.out.rd.lt HOW.out.2.2.1 (fun _ k hk => HVB.out k (by rw [← HOW9.out]; exact hk)) (Nat.le_refl _) HBY.out, HNY.out, HOW9.out⟩)
   · refine wpOp_vl 7 _ _ rfl (by rfl) (alloc_act _ _ rfl _) ⟨trivial, ?_⟩
     obtain ⟨g3, z15, e3, e3w, n3⟩ : ∃ g y, g = z3.heap.size ∧ y = z3.alloc (.cells zA.toArray 62) ∧ NewR zA 62 z3 g y := ⟨_, _, rfl, rfl, NewR.of _ _ _⟩; rw [← e3w, ← e3]; clear e3 e3w; have HG3 : Hid (Blk z15 g3 zA 62 ∧ w.heap.size ≤ g3 ∧ g3 ≠ g2) := ⟨n3.blk, Nat.le_trans HRA.out.onl.size n3.ge, by have h1 := HRA.out.res.lt; have h2 := n3.ge; omega⟩
     replace HRA : Hid (Ra w gr gi g2 v vc1 r1 z15) := HRA.out.new n3.below; replace HON1 := HON1.out.newS n3.below; replace HON1 : Hid (OwnB z15 _ (.slice a1 n1 c1) ky) := HON1; clear n3; simp only [Act.put, sq]; refine wpAnyH_pair 2 4 (by kernel_rfl) ?_ ?_
     · refine wpOp_vl 2 _ _ rfl (by rfl) (conv_s _ _ (.tmp 5) rfl _ rfl ky z15 HON1.out.reads) ⟨trivial, ?_⟩
       simp only [Act.put, sq]; refine wpAnyH_enterP 4 (by kernel_rfl) rfl (by rfl) (f := 40) (args := #[.pointer (some ⟨gr, 0, none⟩), .int .i64 ((1 : Nat) : Int)]) (by simp [go_sem]) (ccount_any gr gi 1 (by decide) _ _ _ HRA.out.rd) ?_
       rintro e z17 (⟨nn1, r2, va2, vc2, hc, rfl, rfl, hrd, ho, hob⟩ | ⟨hc, hT⟩)
       case inr =>
        obtain rfl := hT.eq; exact Or.inr ⟨_, rfl, rfl, Or.inr ⟨readA_num HT1.out hc, Threw.after HRA.out.onl hT⟩⟩
       refine Or.inl ⟨_, rfl, trivial, ?_⟩; replace HRA := HRA.out.call hrd ho hob; have HT2 : Hid (readCount 1 r1 = some (nn1, r2)) := hc; have HE2 : Hid (((nn1 : Int) == 1) = decide (nn1 = 1)) := by show _ = _; rw [Bool.eq_iff_iff, beq_iff_eq, decide_eq_true_eq]; omega
       replace HG3 : Hid (Blk z17 g3 zA 62 ∧ w.heap.size ≤ g3 ∧ g3 ≠ g2) := ⟨blk_same HG3.out.1 (ho.block g3 (by have h1 := HG3.out.2.1; have h2 := HRA.gi; omega) HG3.out.1.lt), HG3.out.2⟩
       replace HRA : Hid (Ra w gr gi g2 v vc2 r2 z17) := HRA; clear hrd ho hob hc; simp only [Act.put, sq]; obtain ⟨sb, HSB⟩ : ∃ b, Hid (((nn1 : Int) == 1) = b) := ⟨_, rfl⟩; refine tka 5 (.bool sb) rfl (fun wx hx => by (have hb := HSB.out; simp [go_sem, hb])) trivial ?_
       simp only [Act.put, sq]; obtain ⟨ks, HKS⟩ := sqn (strB ky); rw [← HKS.out]; have HVB : Hid (∀ k, v.ownBlock = some k → k < w.heap.size) := reads_in HR0.out.byt (text_pos HT1.out); refine tka 6 (.agg [.string ks, .bool sb, .slice none 0 0].toArray) rfl (fun wx hx => by exact build_op _ _ 62 [(0, .tmp 6), (1, .tmp 9)] rfl _ (built_ka _ _ _ rfl) _) trivial ?_
       simp only [Act.put, sq]; refine wpAnyH_storeRow 8 62 (.tmp 3) (.tmp 10) g3 zA [.string ks, .bool sb, .slice none 0 0] HG3.out.1 rfl (info_act15 _ _ _) (one_act0 _ _) (by kernel_rfl) rfl (by rfl) rfl rfl rfl ?_
       intro y8 hset; refine ⟨trivial, ?_⟩; have HK3 : Hid (Blk y8 g3 [.string ks, .bool sb, .slice none 0 0] 62) := hset.blk; have hb8 : Below w.heap.size z17 y8 := hset.only.below HG3.out.2.1 HRA.out.onl.size; have HON : Hid (Only gi w y8) := ⟨hb8.os.trans HRA.out.onl.os, hb8.tape.trans HRA.out.onl.tape, hb8.output.trans HRA.out.onl.output, Nat.le_trans HRA.out.onl.size hb8.size, fun k hk hlt => (hb8.block k hlt).trans (HRA.out.onl.block k hk hlt)⟩
       have HRD : Hid (Rd y8 gr gi vc2 r2) := HRA.out.rd.others HR0.out.rd.lt HRA.out.gi (fun _ k hk => HVB.out k (by rw [← HRA.out.own]; exact hk)) (Nat.le_refl _) hb8
       have HRS : Hid (Blk y8 g2 zA 62) := blk_same HRA.out.res (hset.only.block g2 (fun e => HG3.out.2.2 e.symm) HRA.out.res.lt)
       have HOW : Hid (vc2.ownBlock = v.ownBlock ∧ w.heap.size ≤ g2 ∧ gi < w.heap.size ∧ w.heap.size ≤ g3 ∧ g3 ≠ g2) := ⟨HRA.out.own, HRA.out.ge, HRA.out.gi, HG3.out.2⟩; clear hset HRA HG3 hb8; simp only [Act.put, sq]; refine wpAnyH_done (by kernel_rfl) ?_ _
       have d1 : y8.cell? ⟨g3, 1, none⟩ = some (.bool sb) := HK3.out.cell 1
       by_cases h1 : nn1 = 1
       case neg =>
        obtain rfl : sb = false := by rw [← HSB.out, beq_eq_false_iff_ne]; omega
        have HSP : Hid (readA l = some (⟨ky, false, []⟩, r2)) := readA_unset HT1.out HT2.out h1; clear h1 HSB; obtain ⟨tq0, tq1⟩ := sqk2
        go_wp2_with (first
         | (clear tq0; with_reducible refine wpSeq_loadW 62 (.tmp 3) g3 0 [.string ks, .bool false, .slice none 0 0] _ (Blk.range HK3.out) Tryz.underlying62 rfl (info_act15 _ _ _) ?_ ?_ ?_ ?_
            · rfl
            · rfl
            · rfl)
         | (clear tq1; with_reducible refine wpSeq_storeRow 62 (.tmp 2) (.tmp 16) g2 zA [.string ks, .bool false, .slice none 0 0] HRS.out rfl (info_act15 _ _ _) (one_act0 _ _) ?_ ?_ ?_ ?_ ?_
            · rfl
            · rfl
            · rfl
            · rfl
            intro y9 hset; have HB9 : Hid (Below w.heap.size y8 y9) := hset.only.below HOW.out.2.1 HON.out.size; have HK9 : Hid (Blk y9 g2 [.string ks, .bool false, .slice none 0 0] 62) := hset.blk; have HO9 : Hid (Only gi w y9) := ⟨hset.only.os.trans HON.out.os, hset.only.tape.trans HON.out.tape, hset.only.output.trans HON.out.output, Nat.le_trans HON.out.size hset.only.size, fun k hk hlt => (hset.only.block k (by have := HOW.out.2.1; omega) (Nat.lt_of_lt_of_le hlt HON.out.size)).trans (HON.out.block k hk hlt)⟩
            clear hset d1))
        refine bodyPost_ret (v := .agg [.string ks, .bool false, .slice none 0 0].toArray) (results_cell_row (by rfl) _ _ g2 62 ([Value.string ks, Value.bool false, Value.slice none 0 0] : List Value).toArray (0, 0) _ rfl HK9.out Tryz.underlying62 rfl (info_act15 _ _ _)) rfl (Or.inl ⟨⟨ky, false, []⟩, r2, _, vc2, HSP.out, rfl, ⟨.slice none 0 0, by rw [actC, HKS.out], OwnB.nil _ _⟩, HRD.out.others HR0.out.rd.lt HOW.out.2.2.1 (fun _ k hk => HVB.out k (by rw [← HOW.out.1]; exact hk)) (Nat.le_refl _) HB9.out, HO9.out, HOW.out.1⟩)
       case pos =>
        subst h1; obtain rfl : sb = true := by rw [← HSB.out]; rfl
        have HCT : Hid (Calls Tryz.prog 69 #[.pointer (some ⟨gr, 0, none⟩)] y8 fun e w' => RdDoes gr gi vc2 y8 (readText r2) (fun a w' v => OwnB w' y8.heap.size v a) e w') := crtext_any gr gi vc2 r2 y8 HRD.out
        clear HSB
        go_wp2_with fail
        refine HCT.out.mono ?_; rintro e y9 (⟨dd, r3, va3, vc3, hc, rfl, hown, hrd, ho, hob⟩ | ⟨hc, hT⟩)
        case inr =>
         have HD : Hid (RdDoes gr gi v w (readA l) (fun a w' va => ∃ vd, va = .agg (actC a vd).toArray ∧ OwnB w' w.heap.size vd a.data) (thrown gi) y9) := Or.inr ⟨readA_nodata HT1.out HT2.out hc, Threw.after HON.out (hT.eq ▸ hT)⟩
         obtain rfl := hT.eq; unfold thrown at HD ⊢; clear hT; go_wp2; exact ⟨rfl, HD.out⟩
        have HSP : Hid (readA l = some (⟨ky, true, dd⟩, r3)) := readA_set HT1.out HT2.out hc; have HK9 : Hid (Blk y9 g3 [.string ks, .bool true, .slice none 0 0] 62) := blk_same HK3.out (ho.block g3 (by have h1 := HOW.out.2.2.1; have h2 := HOW.out.2.2.2.1; omega) HK3.out.lt)
        have HR9 : Hid (Blk y9 g2 zA 62) := blk_same HRS.out (ho.block g2 (by have h1 := HOW.out.2.2.1; have h2 := HOW.out.2.1; omega) HRS.out.lt)
        have HOD : Hid (OwnB y9 y8.heap.size va3 dd) := hown; have HL3 : Hid (2 < [Value.string ks, .bool true, .slice none 0 0].length) := by show 2 < 3; omega
        have HG8 : Hid (g3 < y8.heap.size ∧ g2 < y8.heap.size) := ⟨HK3.out.lt, HRS.out.lt⟩; have HRD9 : Hid (Rd y9 gr gi vc3 r3) := hrd; have HON9 : Hid (Only gi w y9) := HON.out.trans ho; have HOW9 : Hid (vc3.ownBlock = v.ownBlock) := hob.trans HOW.out.1; obtain ⟨av, nv, cv, hv3⟩ := hown.reads.form; subst hv3; clear hown hrd ho hob hc HK3 HRS HRD d1; obtain ⟨tq0, tq1, tq2⟩ := sqk3
        go_wp2_with (first
         | (clear tq0; with_reducible refine wpSeq_cellY (.tmp 15) (.tmp 14) g3 2 [.string ks, .bool true, .slice none 0 0] av nv cv 62 HL3.out HK9.out ?_ ?_ ?_ ?_ ?_
            · rfl
            · rfl
            · rfl
            · rfl
            intro y10 hb10 ho10; have HKX : Hid (Blk y10 g3 [.string ks, .bool true, .slice av nv cv] 62) := hb10; have HRX : Hid (Blk y10 g2 zA 62) := blk_same HR9.out (ho10.block g2 (fun e => HOW.out.2.2.2.2 e.symm) HR9.out.lt)
            have HBX : Hid (Below w.heap.size y9 y10) := ho10.below HOW.out.2.2.2.1 HON9.out.size; have HOX : Hid (OwnB y10 y8.heap.size (.slice av nv cv) dd) := HOD.out.sameS (fun k hk => ho10.block k (by have h1 := (HOD.out.ltS k hk).1; have h2 := HG8.out.1; omega) (HOD.out.ltS k hk).2)
            clear hb10 ho10)
         | (clear tq1; with_reducible refine wpSeq_loadW 62 (.tmp 3) g3 0 [.string ks, .bool true, .slice av nv cv] _ (Blk.range HKX.out) Tryz.underlying62 rfl (info_act15 _ _ _) ?_ ?_ ?_ ?_
            · rfl
            · rfl
            · rfl)
         | (clear tq2; with_reducible refine wpSeq_storeRow 62 (.tmp 2) (.tmp 16) g2 zA [.string ks, .bool true, .slice av nv cv] HRX.out rfl (info_act15 _ _ _) (one_act _ _ _ _ _) ?_ ?_ ?_ ?_ ?_
            · rfl
            · rfl
            · rfl
            · rfl
            intro y11 hset; have HBY : Hid (Below w.heap.size y9 y11) := HBX.out.trans (hset.only.below HOW.out.2.1 (Nat.le_trans HON9.out.size HBX.out.size)); have HKY : Hid (Blk y11 g2 [.string ks, .bool true, .slice av nv cv] 62) := hset.blk; have HOY : Hid (OwnB y11 w.heap.size (.slice av nv cv) dd) := (HOX.out.sameS (fun k hk => hset.only.block k (by have h1 := (HOX.out.ltS k hk).1; have h2 := HG8.out.2; omega) (HOX.out.ltS k hk).2)).mono HON.out.size
            have HNY : Hid (Only gi w y11) := ⟨HBY.out.os.trans HON9.out.os, HBY.out.tape.trans HON9.out.tape, HBY.out.output.trans HON9.out.output, Nat.le_trans HON9.out.size HBY.out.size, fun k hk hlt => (HBY.out.block k hlt).trans (HON9.out.block k hk hlt)⟩
            clear hset))
        refine bodyPost_ret (v := .agg [.string ks, .bool true, .slice av nv cv].toArray) (results_cell_row (by rfl) _ _ g2 62 ([Value.string ks, Value.bool true, Value.slice av nv cv] : List Value).toArray (0, 0) _ rfl HKY.out Tryz.underlying62 rfl (info_act15 _ _ _)) rfl (Or.inl ⟨⟨ky, true, dd⟩, r3, _, vc3, HSP.out, rfl, ⟨.slice av nv cv, by rw [actC, HKS.out], HOY.out⟩, HRD9.out.others HR0.out.rd.lt HOW.out.2.2.1 (fun _ k hk => HVB.out k (by rw [← HOW9.out]; exact hk)) (Nat.le_refl _) HBY.out, HNY.out, HOW9.out⟩)
     · refine wpOp_enterP 4 rfl (by rfl) (f := 40) (args := #[.pointer (some ⟨gr, 0, none⟩), .int .i64 ((1 : Nat) : Int)]) (by simp [go_sem]) (ccount_any gr gi 1 (by decide) _ _ _ HRA.out.rd) ?_
       rintro e z18 (⟨nn1, r2, va2, vc2, hc, rfl, rfl, hrd, ho, hob⟩ | ⟨hc, hT⟩)
       case inr =>
        obtain rfl := hT.eq; exact Or.inr ⟨_, rfl, rfl, Or.inr ⟨readA_num HT1.out hc, Threw.after HRA.out.onl hT⟩⟩
       refine Or.inl ⟨_, rfl, trivial, ?_⟩; replace HRA := HRA.out.call hrd ho hob; have HT2 : Hid (readCount 1 r1 = some (nn1, r2)) := hc; have HE2 : Hid (((nn1 : Int) == 1) = decide (nn1 = 1)) := by show _ = _; rw [Bool.eq_iff_iff, beq_iff_eq, decide_eq_true_eq]; omega
       replace HG3 : Hid (Blk z18 g3 zA 62 ∧ w.heap.size ≤ g3 ∧ g3 ≠ g2) := ⟨blk_same HG3.out.1 (ho.block g3 (by have h1 := HG3.out.2.1; have h2 := HRA.gi; omega) HG3.out.1.lt), HG3.out.2⟩
       replace HON1 : Hid (OwnB z18 (w.heap.size) (.slice a1 n1 c1) ky) := by
        have hgg := HRA.gi; exact (HON1.out.sameS (fun k hk => ho.block k (by have h1 := (HON1.out.ltS k hk).1; have h2 := HLE.out; omega) (HON1.out.ltS k hk).2)).mono HLE.out
       replace HRA : Hid (Ra w gr gi g2 v vc2 r2 z18) := HRA; clear hrd ho hob hc; simp only [Act.put, sq]; obtain ⟨sb, HSB⟩ : ∃ b, Hid (((nn1 : Int) == 1) = b) := ⟨_, rfl⟩; refine tka 5 (.bool sb) rfl (fun wx hx => by (have hb := HSB.out; simp [go_sem, hb])) trivial ?_
       simp only [Act.put, sq]; refine wpAnyH_step 2 _ _ (by kernel_rfl) rfl (by rfl) (conv_s _ _ (.tmp 5) rfl _ rfl ky z18 HON1.out.reads) trivial ?_
       simp only [Act.put, sq]; obtain ⟨ks, HKS⟩ := sqn (strB ky); rw [← HKS.out]; have HVB : Hid (∀ k, v.ownBlock = some k → k < w.heap.size) := reads_in HR0.out.byt (text_pos HT1.out); refine tka 6 (.agg [.string ks, .bool sb, .slice none 0 0].toArray) rfl (fun wx hx => by exact build_op _ _ 62 [(0, .tmp 6), (1, .tmp 9)] rfl _ (built_ka _ _ _ rfl) _) trivial ?_
       simp only [Act.put, sq]; refine wpAnyH_storeRow 8 62 (.tmp 3) (.tmp 10) g3 zA [.string ks, .bool sb, .slice none 0 0] HG3.out.1 rfl (info_act15 _ _ _) (one_act0 _ _) (by kernel_rfl) rfl (by rfl) rfl rfl rfl ?_
       intro y8 hset; refine ⟨trivial, ?_⟩; have HK3 : Hid (Blk y8 g3 [.string ks, .bool sb, .slice none 0 0] 62) := hset.blk; have hb8 : Below w.heap.size z18 y8 := hset.only.below HG3.out.2.1 HRA.out.onl.size; have HON : Hid (Only gi w y8) := ⟨hb8.os.trans HRA.out.onl.os, hb8.tape.trans HRA.out.onl.tape, hb8.output.trans HRA.out.onl.output, Nat.le_trans HRA.out.onl.size hb8.size, fun k hk hlt => (hb8.block k hlt).trans (HRA.out.onl.block k hk hlt)⟩
       have HRD : Hid (Rd y8 gr gi vc2 r2) := HRA.out.rd.others HR0.out.rd.lt HRA.out.gi (fun _ k hk => HVB.out k (by rw [← HRA.out.own]; exact hk)) (Nat.le_refl _) hb8
       have HRS : Hid (Blk y8 g2 zA 62) := blk_same HRA.out.res (hset.only.block g2 (fun e => HG3.out.2.2 e.symm) HRA.out.res.lt)
       have HOW : Hid (vc2.ownBlock = v.ownBlock ∧ w.heap.size ≤ g2 ∧ gi < w.heap.size ∧ w.heap.size ≤ g3 ∧ g3 ≠ g2) := ⟨HRA.out.own, HRA.out.ge, HRA.out.gi, HG3.out.2⟩; clear hset HRA HG3 hb8; simp only [Act.put, sq]; refine wpAnyH_done (by kernel_rfl) ?_ _
       have d1 : y8.cell? ⟨g3, 1, none⟩ = some (.bool sb) := HK3.out.cell 1
       by_cases h1 : nn1 = 1
       case neg =>
        obtain rfl : sb = false := by rw [← HSB.out, beq_eq_false_iff_ne]; omega
        have HSP : Hid (readA l = some (⟨ky, false, []⟩, r2)) := readA_unset HT1.out HT2.out h1; clear h1 HSB; obtain ⟨tq0, tq1⟩ := sqk2
        go_wp2_with (first
         | (clear tq0; with_reducible refine wpSeq_loadW 62 (.tmp 3) g3 0 [.string ks, .bool false, .slice none 0 0] _ (Blk.range HK3.out) Tryz.underlying62 rfl (info_act15 _ _ _) ?_ ?_ ?_ ?_
            · rfl
            · rfl
            · rfl)
         | (clear tq1; with_reducible refine wpSeq_storeRow 62 (.tmp 2) (.tmp 16) g2 zA [.string ks, .bool false, .slice none 0 0] HRS.out rfl (info_act15 _ _ _) (one_act0 _ _) ?_ ?_ ?_ ?_ ?_
            · rfl
            · rfl
            · rfl
            · rfl
            intro y9 hset; have HB9 : Hid (Below w.heap.size y8 y9) := hset.only.below HOW.out.2.1 HON.out.size; have HK9 : Hid (Blk y9 g2 [.string ks, .bool false, .slice none 0 0] 62) := hset.blk; have HO9 : Hid (Only gi w y9) := ⟨hset.only.os.trans HON.out.os, hset.only.tape.trans HON.out.tape, hset.only.output.trans HON.out.output, Nat.le_trans HON.out.size hset.only.size, fun k hk hlt => (hset.only.block k (by have := HOW.out.2.1; omega) (Nat.lt_of_lt_of_le hlt HON.out.size)).trans (HON.out.block k hk hlt)⟩
            clear hset d1))
        refine bodyPost_ret (v := .agg [.string ks, .bool false, .slice none 0 0].toArray) (results_cell_row (by rfl) _ _ g2 62 ([Value.string ks, Value.bool false, Value.slice none 0 0] : List Value).toArray (0, 0) _ rfl HK9.out Tryz.underlying62 rfl (info_act15 _ _ _)) rfl (Or.inl ⟨⟨ky, false, []⟩, r2, _, vc2, HSP.out, rfl, ⟨.slice none 0 0, by rw [actC, HKS.out], OwnB.nil _ _⟩, HRD.out.others HR0.out.rd.lt HOW.out.2.2.1 (fun _ k hk => HVB.out k (by rw [← HOW.out.1]; exact hk)) (Nat.le_refl _) HB9.out, HO9.out, HOW.out.1⟩)
       case pos =>
        subst h1; obtain rfl : sb = true := by rw [← HSB.out]; rfl
        have HCT : Hid (Calls Tryz.prog 69 #[.pointer (some ⟨gr, 0, none⟩)] y8 fun e w' => RdDoes gr gi vc2 y8 (readText r2) (fun a w' v => OwnB w' y8.heap.size v a) e w') := crtext_any gr gi vc2 r2 y8 HRD.out
        clear HSB
        go_wp2_with fail
        refine HCT.out.mono ?_; rintro e y9 (⟨dd, r3, va3, vc3, hc, rfl, hown, hrd, ho, hob⟩ | ⟨hc, hT⟩)
        case inr =>
         have HD : Hid (RdDoes gr gi v w (readA l) (fun a w' va => ∃ vd, va = .agg (actC a vd).toArray ∧ OwnB w' w.heap.size vd a.data) (thrown gi) y9) := Or.inr ⟨readA_nodata HT1.out HT2.out hc, Threw.after HON.out (hT.eq ▸ hT)⟩
         obtain rfl := hT.eq; unfold thrown at HD ⊢; clear hT; go_wp2; exact ⟨rfl, HD.out⟩
        have HSP : Hid (readA l = some (⟨ky, true, dd⟩, r3)) := readA_set HT1.out HT2.out hc; have HK9 : Hid (Blk y9 g3 [.string ks, .bool true, .slice none 0 0] 62) := blk_same HK3.out (ho.block g3 (by have h1 := HOW.out.2.2.1; have h2 := HOW.out.2.2.2.1; omega) HK3.out.lt)
        have HR9 : Hid (Blk y9 g2 zA 62) := blk_same HRS.out (ho.block g2 (by have h1 := HOW.out.2.2.1; have h2 := HOW.out.2.1; omega) HRS.out.lt)
        have HOD : Hid (OwnB y9 y8.heap.size va3 dd) := hown; have HL3 : Hid (2 < [Value.string ks, .bool true, .slice none 0 0].length) := by show 2 < 3; omega
        have HG8 : Hid (g3 < y8.heap.size ∧ g2 < y8.heap.size) := ⟨HK3.out.lt, HRS.out.lt⟩; have HRD9 : Hid (Rd y9 gr gi vc3 r3) := hrd; have HON9 : Hid (Only gi w y9) := HON.out.trans ho; have HOW9 : Hid (vc3.ownBlock = v.ownBlock) := hob.trans HOW.out.1; obtain ⟨av, nv, cv, hv3⟩ := hown.reads.form; subst hv3; clear hown hrd ho hob hc HK3 HRS HRD d1; obtain ⟨tq0, tq1, tq2⟩ := sqk3
        go_wp2_with (first
         | (clear tq0; with_reducible refine wpSeq_cellY (.tmp 15) (.tmp 14) g3 2 [.string ks, .bool true, .slice none 0 0] av nv cv 62 HL3.out HK9.out ?_ ?_ ?_ ?_ ?_
            · rfl
            · rfl
            · rfl
            · rfl
            intro y10 hb10 ho10; have HKX : Hid (Blk y10 g3 [.string ks, .bool true, .slice av nv cv] 62) := hb10; have HRX : Hid (Blk y10 g2 zA 62) := blk_same HR9.out (ho10.block g2 (fun e => HOW.out.2.2.2.2 e.symm) HR9.out.lt)
            have HBX : Hid (Below w.heap.size y9 y10) := ho10.below HOW.out.2.2.2.1 HON9.out.size; have HOX : Hid (OwnB y10 y8.heap.size (.slice av nv cv) dd) := HOD.out.sameS (fun k hk => ho10.block k (by have h1 := (HOD.out.ltS k hk).1; have h2 := HG8.out.1; omega) (HOD.out.ltS k hk).2)
            clear hb10 ho10)
         | (clear tq1; with_reducible refine wpSeq_loadW 62 (.tmp 3) g3 0 [.string ks, .bool true, .slice av nv cv] _ (Blk.range HKX.out) Tryz.underlying62 rfl (info_act15 _ _ _) ?_ ?_ ?_ ?_
            · rfl
            · rfl
            · rfl)
         | (clear tq2; with_reducible refine wpSeq_storeRow 62 (.tmp 2) (.tmp 16) g2 zA [.string ks, .bool true, .slice av nv cv] HRX.out rfl (info_act15 _ _ _) (one_act _ _ _ _ _) ?_ ?_ ?_ ?_ ?_
            · rfl
            · rfl
            · rfl
            · rfl
            intro y11 hset; have HBY : Hid (Below w.heap.size y9 y11) := HBX.out.trans (hset.only.below HOW.out.2.1 (Nat.le_trans HON9.out.size HBX.out.size)); have HKY : Hid (Blk y11 g2 [.string ks, .bool true, .slice av nv cv] 62) := hset.blk; have HOY : Hid (OwnB y11 w.heap.size (.slice av nv cv) dd) := (HOX.out.sameS (fun k hk => hset.only.block k (by have h1 := (HOX.out.ltS k hk).1; have h2 := HG8.out.2; omega) (HOX.out.ltS k hk).2)).mono HON.out.size
            have HNY : Hid (Only gi w y11) := ⟨HBY.out.os.trans HON9.out.os, HBY.out.tape.trans HON9.out.tape, HBY.out.output.trans HON9.out.output, Nat.le_trans HON9.out.size HBY.out.size, fun k hk hlt => (HBY.out.block k hlt).trans (HON9.out.block k hk hlt)⟩
            clear hset))
        refine bodyPost_ret (v := .agg [.string ks, .bool true, .slice av nv cv].toArray) (results_cell_row (by rfl) _ _ g2 62 ([Value.string ks, Value.bool true, Value.slice av nv cv] : List Value).toArray (0, 0) _ rfl HKY.out Tryz.underlying62 rfl (info_act15 _ _ _)) rfl (Or.inl ⟨⟨ky, true, dd⟩, r3, _, vc3, HSP.out, rfl, ⟨.slice av nv cv, by rw [actC, HKS.out], HOY.out⟩, HRD9.out.others HR0.out.rd.lt HOW.out.2.2.1 (fun _ k hk => HVB.out k (by rw [← HOW9.out]; exact hk)) (Nat.le_refl _) HBY.out, HNY.out, HOW9.out⟩)
 · refine wpOp_vl 7 _ _ rfl (by rfl) (alloc_act _ _ rfl _) ⟨trivial, ?_⟩
   obtain ⟨g3, z20, e3, e3w, n3⟩ : ∃ g y, g = y2.heap.size ∧ y = y2.alloc (.cells zA.toArray 62) ∧ NewR zA 62 y2 g y := ⟨_, _, rfl, rfl, NewR.of _ _ _⟩; rw [← e3w, ← e3]; clear e3 e3w; have HG3 : Hid (Blk z20 g3 zA 62 ∧ w.heap.size ≤ g3 ∧ g3 ≠ g2) := ⟨n3.blk, Nat.le_trans HRA.out.onl.size n3.ge, by have h1 := HRA.out.res.lt; have h2 := n3.ge; omega⟩
   replace HRA : Hid (Ra w gr gi g2 v v l z20) := HRA.out.new n3.below; clear n3; simp only [Act.put, sq]; refine wpAnyH_enterP 1 (by kernel_rfl) rfl (by rfl) (f := 69) (args := #[.pointer (some ⟨gr, 0, none⟩)]) (by simp [go_sem]) (crtext_any gr gi _ _ _ HRA.out.rd) ?_
   rintro e z21 (⟨ky, r1, va1, vc1, hc, rfl, hown, hrd, ho, hob⟩ | ⟨hc, hT⟩)
   case inr =>
    obtain rfl := hT.eq; exact Or.inr ⟨_, rfl, rfl, Or.inr ⟨readA_key hc, Threw.after HRA.out.onl hT⟩⟩
   refine Or.inl ⟨_, rfl, trivial, ?_⟩; have HLE : Hid (w.heap.size ≤ z20.heap.size) := HRA.out.onl.size; replace HRA := HRA.out.call hrd ho hob; have HT1 : Hid (readText l = some (ky, r1)) := hc; obtain ⟨a1, n1, c1, hv1⟩ := hown.reads.form; subst hv1; replace HG3 : Hid (Blk z21 g3 zA 62 ∧ w.heap.size ≤ g3 ∧ g3 ≠ g2) := ⟨blk_same HG3.out.1 (ho.block g3 (by have h1 := HG3.out.2.1; have h2 := HRA.gi; omega) HG3.out.1.lt), HG3.out.2⟩
   have HON1 : Hid (OwnB z21 z20.heap.size (.slice a1 n1 c1) ky) := hown; replace HRA : Hid (Ra w gr gi g2 v vc1 r1 z21) := HRA; clear hown hrd ho hob hc; simp only [Act.put, sq]; refine wpAnyH_pair 2 4 (by kernel_rfl) ?_ ?_
   · refine wpOp_vl 2 _ _ rfl (by rfl) (conv_s _ _ (.tmp 5) rfl _ rfl ky z21 HON1.out.reads) ⟨trivial, ?_⟩
     simp only [Act.put, sq]; refine wpAnyH_enterP 4 (by kernel_rfl) rfl (by rfl) (f := 40) (args := #[.pointer (some ⟨gr, 0, none⟩), .int .i64 ((1 : Nat) : Int)]) (by simp [go_sem]) (ccount_any gr gi 1 (by decide) _ _ _ HRA.out.rd) ?_
     rintro e z23 (⟨nn1, r2, va2, vc2, hc, rfl, rfl, hrd, ho, hob⟩ | ⟨hc, hT⟩)
     case inr =>
      obtain rfl := hT.eq; exact Or.inr ⟨_, rfl, rfl, Or.inr ⟨readA_num HT1.out hc, Threw.after HRA.out.onl hT⟩⟩
     refine Or.inl ⟨_, rfl, trivial, ?_⟩; replace HRA := HRA.out.call hrd ho hob; have HT2 : Hid (readCount 1 r1 = some (nn1, r2)) := hc; have HE2 : Hid (((nn1 : Int) == 1) = decide (nn1 = 1)) := by show _ = _; rw [Bool.eq_iff_iff, beq_iff_eq, decide_eq_true_eq]; omega
     replace HG3 : Hid (Blk z23 g3 zA 62 ∧ w.heap.size ≤ g3 ∧ g3 ≠ g2) := ⟨blk_same HG3.out.1 (ho.block g3 (by have h1 := HG3.out.2.1; have h2 := HRA.gi; omega) HG3.out.1.lt), HG3.out.2⟩
     replace HRA : Hid (Ra w gr gi g2 v vc2 r2 z23) := HRA; clear hrd ho hob hc; simp only [Act.put, sq]; obtain ⟨sb, HSB⟩ : ∃ b, Hid (((nn1 : Int) == 1) = b) := ⟨_, rfl⟩; refine tka 5 (.bool sb) rfl (fun wx hx => by (have hb := HSB.out; simp [go_sem, hb])) trivial ?_
     simp only [Act.put, sq]; obtain ⟨ks, HKS⟩ := sqn (strB ky); rw [← HKS.out]; have HVB : Hid (∀ k, v.ownBlock = some k → k < w.heap.size) := reads_in HR0.out.byt (text_pos HT1.out); refine tka 6 (.agg [.string ks, .bool sb, .slice none 0 0].toArray) rfl (fun wx hx => by exact build_op _ _ 62 [(0, .tmp 6), (1, .tmp 9)] rfl _ (built_ka _ _ _ rfl) _) trivial ?_
     simp only [Act.put, sq]; refine wpAnyH_storeRow 8 62 (.tmp 3) (.tmp 10) g3 zA [.string ks, .bool sb, .slice none 0 0] HG3.out.1 rfl (info_act15 _ _ _) (one_act0 _ _) (by kernel_rfl) rfl (by rfl) rfl rfl rfl ?_
     intro y8 hset; refine ⟨trivial, ?_⟩; have HK3 : Hid (Blk y8 g3 [.string ks, .bool sb, .slice none 0 0] 62) := hset.blk; have hb8 : Below w.heap.size z23 y8 := hset.only.below HG3.out.2.1 HRA.out.onl.size; have HON : Hid (Only gi w y8) := ⟨hb8.os.trans HRA.out.onl.os, hb8.tape.trans HRA.out.onl.tape, hb8.output.trans HRA.out.onl.output, Nat.le_trans HRA.out.onl.size hb8.size, fun k hk hlt => (hb8.block k hlt).trans (HRA.out.onl.block k hk hlt)⟩
     have HRD : Hid (Rd y8 gr gi vc2 r2) := HRA.out.rd.others HR0.out.rd.lt HRA.out.gi (fun _ k hk => HVB.out k (by rw [← HRA.out.own]; exact hk)) (Nat.le_refl _) hb8
     have HRS : Hid (Blk y8 g2 zA 62) := blk_same HRA.out.res (hset.only.block g2 (fun e => HG3.out.2.2 e.symm) HRA.out.res.lt)
     have HOW : Hid (vc2.ownBlock = v.ownBlock ∧ w.heap.size ≤ g2 ∧ gi < w.heap.size ∧ w.heap.size ≤ g3 ∧ g3 ≠ g2) := ⟨HRA.out.own, HRA.out.ge, HRA.out.gi, HG3.out.2⟩; clear hset HRA HG3 hb8; simp only [Act.put, sq]; refine wpAnyH_done (by kernel_rfl) ?_ _
     have d1 : y8.cell? ⟨g3, 1, none⟩ = some (.bool sb) := HK3.out.cell 1
     by_cases h1 : nn1 = 1
     case neg =>
      obtain rfl : sb = false := by rw [← HSB.out, beq_eq_false_iff_ne]; omega
      have HSP : Hid (readA l = some (⟨ky, false, []⟩, r2)) := readA_unset HT1.out HT2.out h1; clear h1 HSB; obtain ⟨tq0, tq1⟩ := sqk2
      go_wp2_with (first
       | (clear tq0; with_reducible refine wpSeq_loadW 62 (.tmp 3) g3 0 [.string ks, .bool false, .slice none 0 0] _ (Blk.range HK3.out) Tryz.underlying62 rfl (info_act15 _ _ _) ?_ ?_ ?_ ?_
          · rfl
          · rfl
          · rfl)
       | (clear tq1; with_reducible refine wpSeq_storeRow 62 (.tmp 2) (.tmp 16) g2 zA [.string ks, .bool false, .slice none 0 0] HRS.out rfl (info_act15 _ _ _) (one_act0 _ _) ?_ ?_ ?_ ?_ ?_
          · rfl
          · rfl
          · rfl
          · rfl
          intro y9 hset; have HB9 : Hid (Below w.heap.size y8 y9) := hset.only.below HOW.out.2.1 HON.out.size; have HK9 : Hid (Blk y9 g2 [.string ks, .bool false, .slice none 0 0] 62) := hset.blk; have HO9 : Hid (Only gi w y9) := ⟨hset.only.os.trans HON.out.os, hset.only.tape.trans HON.out.tape, hset.only.output.trans HON.out.output, Nat.le_trans HON.out.size hset.only.size, fun k hk hlt => (hset.only.block k (by have := HOW.out.2.1; omega) (Nat.lt_of_lt_of_le hlt HON.out.size)).trans (HON.out.block k hk hlt)⟩
          clear hset d1))
      refine bodyPost_ret (v := .agg [.string ks, .bool false, .slice none 0 0].toArray) (results_cell_row (by rfl) _ _ g2 62 ([Value.string ks, Value.bool false, Value.slice none 0 0] : List Value).toArray (0, 0) _ rfl HK9.out Tryz.underlying62 rfl (info_act15 _ _ _)) rfl (Or.inl ⟨⟨ky, false, []⟩, r2, _, vc2, HSP.out, rfl, ⟨.slice none 0 0, by rw [actC, HKS.out], OwnB.nil _ _⟩, HRD.out.others HR0.out.rd.lt HOW.out.2.2.1 (fun _ k hk => HVB.out k (by rw [← HOW.out.1]; exact hk)) (Nat.le_refl _) HB9.out, HO9.out, HOW.out.1⟩)
     case pos =>
      subst h1; obtain rfl : sb = true := by rw [← HSB.out]; rfl
      have HCT : Hid (Calls Tryz.prog 69 #[.pointer (some ⟨gr, 0, none⟩)] y8 fun e w' => RdDoes gr gi vc2 y8 (readText r2) (fun a w' v => OwnB w' y8.heap.size v a) e w') := crtext_any gr gi vc2 r2 y8 HRD.out
      clear HSB
      go_wp2_with fail
      refine HCT.out.mono ?_; rintro e y9 (⟨dd, r3, va3, vc3, hc, rfl, hown, hrd, ho, hob⟩ | ⟨hc, hT⟩)
      case inr =>
       have HD : Hid (RdDoes gr gi v w (readA l) (fun a w' va => ∃ vd, va = .agg (actC a vd).toArray ∧ OwnB w' w.heap.size vd a.data) (thrown gi) y9) := Or.inr ⟨readA_nodata HT1.out HT2.out hc, Threw.after HON.out (hT.eq ▸ hT)⟩
       obtain rfl := hT.eq; unfold thrown at HD ⊢; clear hT; go_wp2; exact ⟨rfl, HD.out⟩
      have HSP : Hid (readA l = some (⟨ky, true, dd⟩, r3)) := readA_set HT1.out HT2.out hc; have HK9 : Hid (Blk y9 g3 [.string ks, .bool true, .slice none 0 0] 62) := blk_same HK3.out (ho.block g3 (by have h1 := HOW.out.2.2.1; have h2 := HOW.out.2.2.2.1; omega) HK3.out.lt)
      have HR9 : Hid (Blk y9 g2 zA 62) := blk_same HRS.out (ho.block g2 (by have h1 := HOW.out.2.2.1; have h2 := HOW.out.2.1; omega) HRS.out.lt)
      have HOD : Hid (OwnB y9 y8.heap.size va3 dd) := hown; have HL3 : Hid (2 < [Value.string ks, .bool true, .slice none 0 0].length) := by show 2 < 3; omega
      have HG8 : Hid (g3 < y8.heap.size ∧ g2 < y8.heap.size) := ⟨HK3.out.lt, HRS.out.lt⟩; have HRD9 : Hid (Rd y9 gr gi vc3 r3) := hrd; have HON9 : Hid (Only gi w y9) := HON.out.trans ho; have HOW9 : Hid (vc3.ownBlock = v.ownBlock) := hob.trans HOW.out.1; obtain ⟨av, nv, cv, hv3⟩ := hown.reads.form; subst hv3; clear hown hrd ho hob hc HK3 HRS HRD d1; obtain ⟨tq0, tq1, tq2⟩ := sqk3
      go_wp2_with (first
       | (clear tq0; with_reducible refine wpSeq_cellY (.tmp 15) (.tmp 14) g3 2 [.string ks, .bool true, .slice none 0 0] av nv cv 62 HL3.out HK9.out ?_ ?_ ?_ ?_ ?_
          · rfl
          · rfl
          · rfl
          · rfl
          intro y10 hb10 ho10; have HKX : Hid (Blk y10 g3 [.string ks, .bool true, .slice av nv cv] 62) := hb10; have HRX : Hid (Blk y10 g2 zA 62) := blk_same HR9.out (ho10.block g2 (fun e => HOW.out.2.2.2.2 e.symm) HR9.out.lt)
          have HBX : Hid (Below w.heap.size y9 y10) := ho10.below HOW.out.2.2.2.1 HON9.out.size; have HOX : Hid (OwnB y10 y8.heap.size (.slice av nv cv) dd) := HOD.out.sameS (fun k hk => ho10.block k (by have h1 := (HOD.out.ltS k hk).1; have h2 := HG8.out.1; omega) (HOD.out.ltS k hk).2)
          clear hb10 ho10)
       | (clear tq1; with_reducible refine wpSeq_loadW 62 (.tmp 3) g3 0 [.string ks, .bool true, .slice av nv cv] _ (Blk.range HKX.out) Tryz.underlying62 rfl (info_act15 _ _ _) ?_ ?_ ?_ ?_
          · rfl
          · rfl
          · rfl)
       | (clear tq2; with_reducible refine wpSeq_storeRow 62 (.tmp 2) (.tmp 16) g2 zA [.string ks, .bool true, .slice av nv cv] HRX.out rfl (info_act15 _ _ _) (one_act _ _ _ _ _) ?_ ?_ ?_ ?_ ?_
          · rfl
          · rfl
          · rfl
          · rfl
          intro y11 hset; have HBY : Hid (Below w.heap.size y9 y11) := HBX.out.trans (hset.only.below HOW.out.2.1 (Nat.le_trans HON9.out.size HBX.out.size)); have HKY : Hid (Blk y11 g2 [.string ks, .bool true, .slice av nv cv] 62) := hset.blk; have HOY : Hid (OwnB y11 w.heap.size (.slice av nv cv) dd) := (HOX.out.sameS (fun k hk => hset.only.block k (by have h1 := (HOX.out.ltS k hk).1; have h2 := HG8.out.2; omega) (HOX.out.ltS k hk).2)).mono HON.out.size
          have HNY : Hid (Only gi w y11) := ⟨HBY.out.os.trans HON9.out.os, HBY.out.tape.trans HON9.out.tape, HBY.out.output.trans HON9.out.output, Nat.le_trans HON9.out.size HBY.out.size, fun k hk hlt => (HBY.out.block k hlt).trans (HON9.out.block k hk hlt)⟩
          clear hset))
      refine bodyPost_ret (v := .agg [.string ks, .bool true, .slice av nv cv].toArray) (results_cell_row (by rfl) _ _ g2 62 ([Value.string ks, Value.bool true, Value.slice av nv cv] : List Value).toArray (0, 0) _ rfl HKY.out Tryz.underlying62 rfl (info_act15 _ _ _)) rfl (Or.inl ⟨⟨ky, true, dd⟩, r3, _, vc3, HSP.out, rfl, ⟨.slice av nv cv, by rw [actC, HKS.out], HOY.out⟩, HRD9.out.others HR0.out.rd.lt HOW.out.2.2.1 (fun _ k hk => HVB.out k (by rw [← HOW9.out]; exact hk)) (Nat.le_refl _) HBY.out, HNY.out, HOW9.out⟩)
   · refine wpOp_enterP 4 rfl (by rfl) (f := 40) (args := #[.pointer (some ⟨gr, 0, none⟩), .int .i64 ((1 : Nat) : Int)]) (by simp [go_sem]) (ccount_any gr gi 1 (by decide) _ _ _ HRA.out.rd) ?_
     rintro e z24 (⟨nn1, r2, va2, vc2, hc, rfl, rfl, hrd, ho, hob⟩ | ⟨hc, hT⟩)
     case inr =>
      obtain rfl := hT.eq; exact Or.inr ⟨_, rfl, rfl, Or.inr ⟨readA_num HT1.out hc, Threw.after HRA.out.onl hT⟩⟩
     refine Or.inl ⟨_, rfl, trivial, ?_⟩; replace HRA := HRA.out.call hrd ho hob; have HT2 : Hid (readCount 1 r1 = some (nn1, r2)) := hc; have HE2 : Hid (((nn1 : Int) == 1) = decide (nn1 = 1)) := by show _ = _; rw [Bool.eq_iff_iff, beq_iff_eq, decide_eq_true_eq]; omega
     replace HG3 : Hid (Blk z24 g3 zA 62 ∧ w.heap.size ≤ g3 ∧ g3 ≠ g2) := ⟨blk_same HG3.out.1 (ho.block g3 (by have h1 := HG3.out.2.1; have h2 := HRA.gi; omega) HG3.out.1.lt), HG3.out.2⟩
     replace HON1 : Hid (OwnB z24 (w.heap.size) (.slice a1 n1 c1) ky) := by
      have hgg := HRA.gi; exact (HON1.out.sameS (fun k hk => ho.block k (by have h1 := (HON1.out.ltS k hk).1; have h2 := HLE.out; omega) (HON1.out.ltS k hk).2)).mono HLE.out
     replace HRA : Hid (Ra w gr gi g2 v vc2 r2 z24) := HRA; clear hrd ho hob hc; simp only [Act.put, sq]; obtain ⟨sb, HSB⟩ : ∃ b, Hid (((nn1 : Int) == 1) = b) := ⟨_, rfl⟩; refine tka 5 (.bool sb) rfl (fun wx hx => by (have hb := HSB.out; simp [go_sem, hb])) trivial ?_
     simp only [Act.put, sq]; refine wpAnyH_step 2 _ _ (by kernel_rfl) rfl (by rfl) (conv_s _ _ (.tmp 5) rfl _ rfl ky z24 HON1.out.reads) trivial ?_
     simp only [Act.put, sq]; obtain ⟨ks, HKS⟩ := sqn (strB ky); rw [← HKS.out]; have HVB : Hid (∀ k, v.ownBlock = some k → k < w.heap.size) := reads_in HR0.out.byt (text_pos HT1.out); refine tka 6 (.agg [.string ks, .bool sb, .slice none 0 0].toArray) rfl (fun wx hx => by exact build_op _ _ 62 [(0, .tmp 6), (1, .tmp 9)] rfl _ (built_ka _ _ _ rfl) _) trivial ?_
     simp only [Act.put, sq]; refine wpAnyH_storeRow 8 62 (.tmp 3) (.tmp 10) g3 zA [.string ks, .bool sb, .slice none 0 0] HG3.out.1 rfl (info_act15 _ _ _) (one_act0 _ _) (by kernel_rfl) rfl (by rfl) rfl rfl rfl ?_
     intro y8 hset; refine ⟨trivial, ?_⟩; have HK3 : Hid (Blk y8 g3 [.string ks, .bool sb, .slice none 0 0] 62) := hset.blk; have hb8 : Below w.heap.size z24 y8 := hset.only.below HG3.out.2.1 HRA.out.onl.size; have HON : Hid (Only gi w y8) := ⟨hb8.os.trans HRA.out.onl.os, hb8.tape.trans HRA.out.onl.tape, hb8.output.trans HRA.out.onl.output, Nat.le_trans HRA.out.onl.size hb8.size, fun k hk hlt => (hb8.block k hlt).trans (HRA.out.onl.block k hk hlt)⟩
     have HRD : Hid (Rd y8 gr gi vc2 r2) := HRA.out.rd.others HR0.out.rd.lt HRA.out.gi (fun _ k hk => HVB.out k (by rw [← HRA.out.own]; exact hk)) (Nat.le_refl _) hb8
     have HRS : Hid (Blk y8 g2 zA 62) := blk_same HRA.out.res (hset.only.block g2 (fun e => HG3.out.2.2 e.symm) HRA.out.res.lt)
     have HOW : Hid (vc2.ownBlock = v.ownBlock ∧ w.heap.size ≤ g2 ∧ gi < w.heap.size ∧ w.heap.size ≤ g3 ∧ g3 ≠ g2) := ⟨HRA.out.own, HRA.out.ge, HRA.out.gi, HG3.out.2⟩; clear hset HRA HG3 hb8; simp only [Act.put, sq]; refine wpAnyH_done (by kernel_rfl) ?_ _
     have d1 : y8.cell? ⟨g3, 1, none⟩ = some (.bool sb) := HK3.out.cell 1
     by_cases h1 : nn1 = 1
     case neg =>
      obtain rfl : sb = false := by rw [← HSB.out, beq_eq_false_iff_ne]; omega
      have HSP : Hid (readA l = some (⟨ky, false, []⟩, r2)) := readA_unset HT1.out HT2.out h1; clear h1 HSB; obtain ⟨tq0, tq1⟩ := sqk2
      go_wp2_with (first
       | (clear tq0; with_reducible refine wpSeq_loadW 62 (.tmp 3) g3 0 [.string ks, .bool false, .slice none 0 0] _ (Blk.range HK3.out) Tryz.underlying62 rfl (info_act15 _ _ _) ?_ ?_ ?_ ?_
          · rfl
          · rfl
          · rfl)
       | (clear tq1; with_reducible refine wpSeq_storeRow 62 (.tmp 2) (.tmp 16) g2 zA [.string ks, .bool false, .slice none 0 0] HRS.out rfl (info_act15 _ _ _) (one_act0 _ _) ?_ ?_ ?_ ?_ ?_
          · rfl
          · rfl
          · rfl
          · rfl
          intro y9 hset; have HB9 : Hid (Below w.heap.size y8 y9) := hset.only.below HOW.out.2.1 HON.out.size; have HK9 : Hid (Blk y9 g2 [.string ks, .bool false, .slice none 0 0] 62) := hset.blk; have HO9 : Hid (Only gi w y9) := ⟨hset.only.os.trans HON.out.os, hset.only.tape.trans HON.out.tape, hset.only.output.trans HON.out.output, Nat.le_trans HON.out.size hset.only.size, fun k hk hlt => (hset.only.block k (by have := HOW.out.2.1; omega) (Nat.lt_of_lt_of_le hlt HON.out.size)).trans (HON.out.block k hk hlt)⟩
          clear hset d1))
      refine bodyPost_ret (v := .agg [.string ks, .bool false, .slice none 0 0].toArray) (results_cell_row (by rfl) _ _ g2 62 ([Value.string ks, Value.bool false, Value.slice none 0 0] : List Value).toArray (0, 0) _ rfl HK9.out Tryz.underlying62 rfl (info_act15 _ _ _)) rfl (Or.inl ⟨⟨ky, false, []⟩, r2, _, vc2, HSP.out, rfl, ⟨.slice none 0 0, by rw [actC, HKS.out], OwnB.nil _ _⟩, HRD.out.others HR0.out.rd.lt HOW.out.2.2.1 (fun _ k hk => HVB.out k (by rw [← HOW.out.1]; exact hk)) (Nat.le_refl _) HB9.out, HO9.out, HOW.out.1⟩)
     case pos =>
      subst h1; obtain rfl : sb = true := by rw [← HSB.out]; rfl
      have HCT : Hid (Calls Tryz.prog 69 #[.pointer (some ⟨gr, 0, none⟩)] y8 fun e w' => RdDoes gr gi vc2 y8 (readText r2) (fun a w' v => OwnB w' y8.heap.size v a) e w') := crtext_any gr gi vc2 r2 y8 HRD.out
      clear HSB
      go_wp2_with fail
      refine HCT.out.mono ?_; rintro e y9 (⟨dd, r3, va3, vc3, hc, rfl, hown, hrd, ho, hob⟩ | ⟨hc, hT⟩)
      case inr =>
       have HD : Hid (RdDoes gr gi v w (readA l) (fun a w' va => ∃ vd, va = .agg (actC a vd).toArray ∧ OwnB w' w.heap.size vd a.data) (thrown gi) y9) := Or.inr ⟨readA_nodata HT1.out HT2.out hc, Threw.after HON.out (hT.eq ▸ hT)⟩
       obtain rfl := hT.eq; unfold thrown at HD ⊢; clear hT; go_wp2; exact ⟨rfl, HD.out⟩
      have HSP : Hid (readA l = some (⟨ky, true, dd⟩, r3)) := readA_set HT1.out HT2.out hc; have HK9 : Hid (Blk y9 g3 [.string ks, .bool true, .slice none 0 0] 62) := blk_same HK3.out (ho.block g3 (by have h1 := HOW.out.2.2.1; have h2 := HOW.out.2.2.2.1; omega) HK3.out.lt)
      have HR9 : Hid (Blk y9 g2 zA 62) := blk_same HRS.out (ho.block g2 (by have h1 := HOW.out.2.2.1; have h2 := HOW.out.2.1; omega) HRS.out.lt)
      have HOD : Hid (OwnB y9 y8.heap.size va3 dd) := hown; have HL3 : Hid (2 < [Value.string ks, .bool true, .slice none 0 0].length) := by show 2 < 3; omega
      have HG8 : Hid (g3 < y8.heap.size ∧ g2 < y8.heap.size) := ⟨HK3.out.lt, HRS.out.lt⟩; have HRD9 : Hid (Rd y9 gr gi vc3 r3) := hrd; have HON9 : Hid (Only gi w y9) := HON.out.trans ho; have HOW9 : Hid (vc3.ownBlock = v.ownBlock) := hob.trans HOW.out.1; obtain ⟨av, nv, cv, hv3⟩ := hown.reads.form; subst hv3; clear hown hrd ho hob hc HK3 HRS HRD d1; obtain ⟨tq0, tq1, tq2⟩ := sqk3
      go_wp2_with (first
       | (clear tq0; with_reducible refine wpSeq_cellY (.tmp 15) (.tmp 14) g3 2 [.string ks, .bool true, .slice none 0 0] av nv cv 62 HL3.out HK9.out ?_ ?_ ?_ ?_ ?_
          · rfl
          · rfl
          · rfl
          · rfl
          intro y10 hb10 ho10; have HKX : Hid (Blk y10 g3 [.string ks, .bool true, .slice av nv cv] 62) := hb10; have HRX : Hid (Blk y10 g2 zA 62) := blk_same HR9.out (ho10.block g2 (fun e => HOW.out.2.2.2.2 e.symm) HR9.out.lt)
          have HBX : Hid (Below w.heap.size y9 y10) := ho10.below HOW.out.2.2.2.1 HON9.out.size; have HOX : Hid (OwnB y10 y8.heap.size (.slice av nv cv) dd) := HOD.out.sameS (fun k hk => ho10.block k (by have h1 := (HOD.out.ltS k hk).1; have h2 := HG8.out.1; omega) (HOD.out.ltS k hk).2)
          clear hb10 ho10)
       | (clear tq1; with_reducible refine wpSeq_loadW 62 (.tmp 3) g3 0 [.string ks, .bool true, .slice av nv cv] _ (Blk.range HKX.out) Tryz.underlying62 rfl (info_act15 _ _ _) ?_ ?_ ?_ ?_
          · rfl
          · rfl
          · rfl)
       | (clear tq2; with_reducible refine wpSeq_storeRow 62 (.tmp 2) (.tmp 16) g2 zA [.string ks, .bool true, .slice av nv cv] HRX.out rfl (info_act15 _ _ _) (one_act _ _ _ _ _) ?_ ?_ ?_ ?_ ?_
          · rfl
          · rfl
          · rfl
          · rfl
          intro y11 hset; have HBY : Hid (Below w.heap.size y9 y11) := HBX.out.trans (hset.only.below HOW.out.2.1 (Nat.le_trans HON9.out.size HBX.out.size)); have HKY : Hid (Blk y11 g2 [.string ks, .bool true, .slice av nv cv] 62) := hset.blk; have HOY : Hid (OwnB y11 w.heap.size (.slice av nv cv) dd) := (HOX.out.sameS (fun k hk => hset.only.block k (by have h1 := (HOX.out.ltS k hk).1; have h2 := HG8.out.2; omega) (HOX.out.ltS k hk).2)).mono HON.out.size
          have HNY : Hid (Only gi w y11) := ⟨HBY.out.os.trans HON9.out.os, HBY.out.tape.trans HON9.out.tape, HBY.out.output.trans HON9.out.output, Nat.le_trans HON9.out.size HBY.out.size, fun k hk hlt => (HBY.out.block k hlt).trans (HON9.out.block k hk hlt)⟩
          clear hset))
      refine bodyPost_ret (v := .agg [.string ks, .bool true, .slice av nv cv].toArray) (results_cell_row (by rfl) _ _ g2 62 ([Value.string ks, Value.bool true, Value.slice av nv cv] : List Value).toArray (0, 0) _ rfl HKY.out Tryz.underlying62 rfl (info_act15 _ _ _)) rfl (Or.inl ⟨⟨ky, true, dd⟩, r3, _, vc3, HSP.out, rfl, ⟨.slice av nv cv, by rw [actC, HKS.out], HOY.out⟩, HRD9.out.others HR0.out.rd.lt HOW.out.2.2.1 (fun _ k hk => HVB.out k (by rw [← HOW9.out]; exact hk)) (Nat.le_refl _) HBY.out, HNY.out, HOW9.out⟩)
theorem Tryz.infoact : (Tryz.prog.info? 62).map (fun i => (i.zero, i.size, i.bytes)) = some (some (.agg zA.toArray), 3, 48) := by kernel_rfl
def rowP (ps : List (ActT × Value)) : List Value := (ps.map fun p => actC p.1 p.2).flatten
theorem rowP_snoc (ps : List (ActT × Value)) (p : ActT × Value) : rowP (ps ++ [p]) = rowP ps ++ actC p.1 p.2 := by simp [rowP]
theorem rowP_len (ps : List (ActT × Value)) : (rowP ps).length = ps.length * 3 := by
 induction ps with
 | nil => rfl
 | cons p ps ih => simp only [rowP, List.map_cons, List.flatten_cons, List.length_append, List.length_cons] at *; rw [ih, actC]; simp; omega
theorem rowP_at : ∀ (ps : List (ActT × Value)) (j i : Nat) (p : ActT × Value) (v : Value), ps[j]? = some p → (actC p.1 p.2)[i]? = some v → (rowP ps)[j * 3 + i]? = some v
 | [], j, _, _, _, h, _ => by simp at h
 | q :: ps, 0, i, p, v, h, hv => by
  simp at h
  subst h
  have hi : i < (actC q.1 q.2).length := (List.getElem?_eq_some_iff.1 hv).1
  show (actC q.1 q.2 ++ rowP ps)[0 * 3 + i]? = _
  rw [Nat.zero_mul, Nat.zero_add, List.getElem?_append_left hi]
  exact hv
 | q :: ps, j + 1, i, p, v, h, hv => by
  simp at h
  show (actC q.1 q.2 ++ rowP ps)[(j + 1) * 3 + i]? = _
  rw [List.getElem?_append_right (by simp [actC]; omega), show (j + 1) * 3 + i - (actC q.1 q.2).length = j * 3 + i by simp [actC]; omega]
  exact rowP_at ps j i p v h hv
structure OwnA (W : World) (base : Nat) (v : Value) (ps : List (ActT × Value)) : Prop where
 row : W.ownsRow base 62 3 v ps.length (rowP ps)
 dat : ∀ p ∈ ps, OwnB W base p.2 p.1.data
theorem OwnA.nil (W : World) (base : Nat) : OwnA W base (.slice none 0 0) [] := ⟨World.ownsRow_nil _ _ _ _, fun p hp => by cases hp⟩
theorem OwnA.form {W : World} {base : Nat} {v : Value} {ps : List (ActT × Value)} (h : OwnA W base v ps) : ∃ a c, v = .slice a ps.length c := by
 obtain ⟨_, h2⟩ := h.row
 rcases h2 with ⟨rfl, h0⟩ | ⟨g, cap, cur, rfl, _⟩
 · exact ⟨none, 0, by rw [h0]⟩
 · exact ⟨_, cap, rfl⟩
theorem OwnA.lt {W : World} {base : Nat} {v : Value} {ps : List (ActT × Value)} (h : OwnA W base v ps) : ∀ k, v.ownBlock = some k → base ≤ k ∧ k < W.heap.size := World.ownsRow.lt h.row
theorem OwnA.same {W W' : World} {base : Nat} {v : Value} {ps : List (ActT × Value)} (h : OwnA W base v ps) (hs : ∀ k, base ≤ k → k < W.heap.size → W'.heap[k]? = W.heap[k]?) : OwnA W' base v ps := by
 refine ⟨?_, fun p hp => (h.dat p hp).sameS (fun k hk => hs k ((h.dat p hp).ltS k hk).1 ((h.dat p hp).ltS k hk).2)⟩
 have hlt := h.lt
 obtain ⟨h1, h2⟩ := h.row
 refine ⟨h1, ?_⟩
 rcases h2 with h2 | ⟨g, cap, cur, rfl, hg, hh, r⟩
 · exact Or.inl h2
 · exact Or.inr ⟨g, cap, cur, rfl, hg, by rw [hs g hg (hlt g rfl).2]; exact hh, r⟩
theorem OwnA.reads {W : World} {base : Nat} {v : Value} {ps : List (ActT × Value)} (h : OwnA W base v ps) : ReadsA W v (ps.map (·.1)) := by
 obtain ⟨h1, h2⟩ := id h.row
 rcases h2 with ⟨rfl, h0⟩ | ⟨g, cap, cur, rfl, hg, hh, hc, hm, hs, ht⟩
 · have : ps = [] := List.eq_nil_of_length_eq_zero h0
   subst this; exact ReadsA.nil W
 · refine ⟨_, cap, by rw [List.length_map], by rw [List.length_map]; exact hc, (fun e => by cases e), fun _ => ⟨g, 0, rfl, fun j hj => ?_⟩⟩
   rw [List.length_map] at hj; obtain ⟨p, hp⟩ : ∃ p, ps[j]? = some p := ⟨ps[j], List.getElem?_eq_getElem hj⟩; have e : (ps.map (·.1)).getD j ⟨[], false, []⟩ = p.1 := by rw [List.getD_eq_getElem?_getD, List.getElem?_map, hp]; rfl
   rw [e]; refine ⟨p.2, fun i u hu => ?_, (h.dat p (List.mem_of_getElem? hp)).reads⟩
   have hr := rowP_at ps j i p u hp hu; have hi : j * 3 + i < (rowP ps).length := (List.getElem?_eq_some_iff.1 hr).1; rw [rowP_len] at hi; rw [cell_of_row W g (0 + j * 3 + i) cur _ (0, 0) hh, Nat.zero_add]; rw [← ht, List.getElem?_take_of_lt hi] at hr
   simpa using hr
theorem build_a1 (f : Operand → Value) (o : Oper) (x : Operand) (s : ByteArray) (b : Bool) (ad : Option Addr) (n c : Nat) (hx : f x = .agg [.string s, .bool b, .slice ad n c].toArray) (ho : o.op = .buildSlice 22 1 #[(0, x)]) (w : World) : (execOp f o).run Tryz.prog w = .ok (.value (.slice (some ⟨w.heap.size, 0, none⟩) 1 1)) (w.alloc (.cells [.string s, .bool b, .slice ad n c].toArray 62)) := by
 unfold execOp
 rw [ho]
 simp only [List.map_toArray, List.map_cons, List.map_nil, hx]
 kernel_rfl
theorem wp_appendA {o : Oper} {a : Act} {w : World} {K : Act → World → Prop} {Q : Exit → Act → World → Prop} (s x : Operand) (base : Nat) (v : Value) (ps : List (ActT × Value)) (p : ActT × Value) (g : Nat)
 (hown : OwnA w base v ps) (hb : Blk w g (actC p.1 p.2) 62) (hg : v.ownBlock ≠ some g) (hd : OwnB w base p.2 p.1.data) (hlen : ps.length < 1000000) (hbase : base ≤ w.heap.size)
 (ho : o.op = .call { callee := .builtin .append, args := #[s, x], argTypes := #[22, 22] }) (hs : a.eval s = v) (hx : a.eval x = .slice (some ⟨g, 0, none⟩) 1 1)
 (h : ∀ v' w', OwnA w' base v' (ps ++ [p]) → w.grownBy w' v.ownBlock → K (a.put o.dst v') w') : o.wp Tryz.prog a w K Q := by
 obtain ⟨i0, hi, hz0, hz1, hz2⟩ := info_parts Tryz.infoact
 obtain ⟨av, nv, cv, hpv⟩ := hd.reads.form
 obtain ⟨v', w', hr, h2, h3, h4, h5⟩ := run_append_own_at (P := Tryz.prog) w base 22 o.type 62 i0 (.agg zA.toArray) 3 48 Tryz.underlying22 hi hz0 hz1 hz2 rfl (by decide) v ps.length (rowP ps) hown.row ⟨g, 0, none⟩ 1 1 (actC p.1 p.2) rfl (fun j u hj => by rw [Addr.add_mid, Nat.zero_add, hb.cell]; exact hj) (by rw [actC, hpv]; exact one_act _ _ _ _ _) (by unfold maxLen; omega) (by omega) hbase
 unfold Oper.wp execOp
 simp only [ho, resolve, invoke, builtin, Sem.run_bind, Sem.run_pure, Result.andThen_ok, List.map_toArray, List.map_cons, List.map_nil, hs, hx, hr]
 have hne : ∀ q : ActT × Value, OwnB w base q.2 q.1.data → OwnB w' base q.2 q.1.data := fun q hq => hq.sameS (fun k hk => h3.block k (hq.ltS k hk).2 (fun e => by
  obtain ⟨h6, h7⟩ := hown.row
  rcases h7 with ⟨rfl, _⟩ | ⟨g2, cap, cur, rfl, _, hh, _⟩
  · cases e
  · simp [Value.ownBlock] at e
    subst e; have hb2 : Blk w k cur.toList 62 := by unfold Blk; rw [hh]
    exact hq.neA hb2 (by decide) hk))
 refine h v' w' ⟨by rw [List.length_append, rowP_snoc]; exact h2, fun q hq => ?_⟩ h3
 rcases List.mem_append.1 hq with hq | hq
 · exact hne q (hown.dat q hq)
 · rw [List.mem_singleton.1 hq]; exact hne p hd
theorem readAll_snoc {r s : Bs} {a : ActT} : ∀ (k : Nat) (l : Bs) (xs : List ActT), readAll readA k l = some (xs, r) → readA r = some (a, s) → readAll readA (k + 1) l = some (xs ++ [a], s)
 | 0, l, xs, h, h2 => by
  simp only [readAll, Option.some.injEq, Prod.mk.injEq] at h
  obtain ⟨rfl, rfl⟩ := h
  simp only [readAll, h2, List.nil_append]
 | k + 1, l, xs, h, h2 => by
  rw [readAll] at h ⊢
  cases h1 : readA l with
  | none => rw [h1] at h; cases h
  | some p =>
   obtain ⟨b, q⟩ := p; rw [h1] at h; simp only at h ⊢
   cases h3 : readAll readA k q with
   | none => rw [h3] at h; cases h
   | some p2 =>
    obtain ⟨l2, t⟩ := p2; rw [h3] at h; simp only [Option.some.injEq, Prod.mk.injEq] at h; obtain ⟨rfl, rfl⟩ := h; rw [readAll_snoc k q l2 h3 h2]
    rfl
theorem readAll_stop {r : Bs} : ∀ (k m : Nat) (l : Bs) (xs : List ActT), readAll readA k l = some (xs, r) → readA r = none → k < m → readAll readA m l = none
 | 0, m, l, xs, h, h2, hm => by
  simp only [readAll, Option.some.injEq, Prod.mk.injEq] at h
  obtain ⟨rfl, rfl⟩ := h
  obtain ⟨m, rfl⟩ : ∃ j, m = j + 1 := ⟨m - 1, by omega⟩
  simp only [readAll, h2]
 | k + 1, m, l, xs, h, h2, hm => by
  obtain ⟨m, rfl⟩ : ∃ j, m = j + 1 := ⟨m - 1, by omega⟩
  rw [readAll] at h ⊢
  cases h1 : readA l with
  | none => rfl
  | some p =>
   obtain ⟨b, q⟩ := p; rw [h1] at h; simp only at h ⊢
   cases h3 : readAll readA k q with
   | none => rw [h3] at h; cases h
   | some p2 =>
    obtain ⟨l2, t⟩ := p2; rw [h3] at h; simp only [Option.some.injEq, Prod.mk.injEq] at h; obtain ⟨rfl, rfl⟩ := h; rw [readAll_stop k m q l2 h3 h2 (by omega)]
theorem readB_of {l r s : Bs} {n : Nat} {xs : List ActT} (h : readCount 4096 l = some (n, r)) (h2 : readAll readA n r = some (xs, s)) : readB l = if s = [] then (if goodF [] xs = true then some xs else none) else none := by
 unfold readCount at h
 unfold readB readList
 cases h1 : readNum l with
 | none => rw [h1] at h; cases h
 | some p =>
  obtain ⟨m, q⟩ := p
  rw [h1] at h
  simp only at h ⊢
  split at h
  next hm =>
   simp only [Option.some.injEq, Prod.mk.injEq] at h; obtain ⟨rfl, rfl⟩ := h; rw [if_pos hm, h2]
   cases s with
   | nil => rw [if_pos rfl]
   | cons x s => rw [if_neg (by simp)]
  · cases h
theorem readB_cnt {l : Bs} (h : readCount 4096 l = none) : readB l = none := by
 unfold readCount at h
 unfold readB readList
 cases h1 : readNum l with
 | none => rfl
 | some p =>
  obtain ⟨m, q⟩ := p
  rw [h1] at h
  simp only at h ⊢
  split at h
  · cases h
  next hm => simp [hm]
theorem readB_all {l r : Bs} {n : Nat} (h : readCount 4096 l = some (n, r)) (h2 : readAll readA n r = none) : readB l = none := by
 unfold readCount at h
 unfold readB readList
 cases h1 : readNum l with
 | none => rfl
 | some p =>
  obtain ⟨m, q⟩ := p
  rw [h1] at h
  simp only at h ⊢
  split at h
  next hm =>
   simp only [Option.some.injEq, Prod.mk.injEq] at h; obtain ⟨rfl, rfl⟩ := h; rw [if_pos hm, h2]
  · cases h
theorem wp_cellA {o : Oper} {a : Act} {w : World} {K : Act → World → Prop} {Q : Exit → Act → World → Prop} (x y : Operand) (g k : Nat) (cs : List Value) (ad : Option Addr) (n c : Nat) (tb : TypeId) (hk : k < cs.length) (hb : Blk w g cs tb) (ho : o.op = .store 22 x y) (hx : a.eval x = .pointer (some ⟨g, k, none⟩)) (hy : a.eval y = .slice ad n c)
 (h : ∀ w', Blk w' g (cs.set k (.slice ad n c)) tb → Only g w w' → K (a.put o.dst undef) w') : o.wp Tryz.prog a w K Q := by
 have hc : w.cell? ⟨g, k, none⟩ = some cs[k] := by rw [hb.cell, List.getElem?_eq_getElem hk]
 have hf : w.frozen? ⟨g, k, none⟩ = false := hb.frozen k
 have he : (execOp a.eval o).run Tryz.prog w = .ok .skip (w.setCell ⟨g, k, none⟩ (.slice ad n c)) := by
  clear h
  generalize a.eval = f at hx hy ⊢
  unfold execOp
  rw [ho]
  simp [go_sem, hx, hy, hc, hf]
 unfold Oper.wp
 rw [he, Oper.upon_skip]
 exact h _ (hb.set k _) (Only.setCell (Only.refl g w) k _)
theorem cnt_pos {l r : Bs} {m n : Nat} (h : readCount m l = some (n, r)) : 0 < l.length := by
 cases l with
 | nil => simp [readCount, readNum, decNum] at h
 | cons x l => simp
structure Rb (w : World) (H gl : Nat) (v0 : Value) (va v : Value) (ps : List (ActT × Value)) (r : Bs) (W : World) : Prop where
 rd : Rd W (H + 3) (H + 1) v r
 own : v.ownBlock = v0.ownBlock
 box : Blk W gl [va] 22
 lst : OwnA W (H + 4) va ps
 sz : w.heap.size = H + 4
 lt : gl < H
 size : w.heap.size ≤ W.heap.size
 os : W.os = w.os
 tape : W.tape = w.tape
 output : W.output = w.output
 fr : ∀ k, k < w.heap.size → k ≠ H + 1 → k ≠ gl → W.heap[k]? = w.heap[k]?
theorem Rb.new {w W W' : World} {H gl : Nat} {v0 va v : Value} {ps : List (ActT × Value)} {r : Bs} (h : Rb w H gl v0 va v ps r W) (hb : Below W.heap.size W W') : Rb w H gl v0 va v ps r W' :=
 ⟨h.rd.below hb, h.own, h.box.below hb h.box.lt, h.lst.same (fun k _ hk => hb.block k hk), h.sz, h.lt, Nat.le_trans h.size hb.size, hb.os.trans h.os, hb.tape.trans h.tape, hb.output.trans h.output, fun k hk h1 h2 => (hb.block k (Nat.lt_of_lt_of_le hk h.size)).trans (h.fr k hk h1 h2)⟩
theorem Rb.call {w W W' : World} {H gl : Nat} {v0 va v v' : Value} {ps : List (ActT × Value)} {r r' : Bs} (h : Rb w H gl v0 va v ps r W) (hr : Rd W' (H + 3) (H + 1) v' r') (ho : Only (H + 1) W W') (hv : v'.ownBlock = v.ownBlock) : Rb w H gl v0 va v' ps r' W' :=
 ⟨hr, hv.trans h.own, blk_same h.box (ho.block gl (by have := h.lt; omega) h.box.lt), h.lst.same (fun k h1 hk => ho.block k (by omega) hk), h.sz, h.lt, Nat.le_trans h.size ho.size, ho.os.trans h.os, ho.tape.trans h.tape, ho.output.trans h.output, fun k hk h1 h2 => (ho.block k h1 (Nat.lt_of_lt_of_le hk h.size)).trans (h.fr k hk h1 h2)⟩
theorem Rb.ownLt {w W : World} {H gl : Nat} {v0 va v : Value} {ps : List (ActT × Value)} {r : Bs} (h : Rb w H gl v0 va v ps r W) (h0 : ∀ k, v0.ownBlock = some k → k < H ∧ k ≠ gl) : ∀ k, v.ownBlock = some k → k < H ∧ k ≠ gl := fun k hk => h0 k (by rw [← h.own]; exact hk)
theorem Rb.put {w W W6 W' : World} {H gl : Nat} {v0 va va' v : Value} {ps : List (ActT × Value)} {p : ActT × Value} {r : Bs} (h : Rb w H gl v0 va v ps r W) (h0 : ∀ k, v0.ownBlock = some k → k < H ∧ k ≠ gl) (ho : OwnA W6 (H + 4) va' (ps ++ [p])) (hg : W.grownBy W6 va.ownBlock) (hb : Blk W' gl [va'] 22) (hon : Only gl W6 W') : Rb w H gl v0 va' v (ps ++ [p]) r W' := by
 have hlt := h.lst.lt
 have hsz := h.sz
 have hgl := h.lt
 have up : ∀ k, k < W.heap.size → k < H + 4 → k ≠ gl → W'.heap[k]? = W.heap[k]? := fun k hk h4 hne => (hon.block k hne (Nat.lt_of_lt_of_le hk hg.size)).trans (hg.block k hk (fun e => by have := (hlt k e.symm).1; omega))
 have hs : W.heap.size ≤ W'.heap.size := Nat.le_trans hg.size hon.size
 have hrl := h.rd.rd.lt
 have hil := h.rd.inp.lt
 refine ⟨⟨blk_same h.rd.rd (up _ hrl (by omega) (by omega)), blk_same h.rd.inp (up _ hil (by omega) (by omega)), ?_⟩, h.own, hb, ho.same (fun k h1 hk => hon.block k (by omega) hk), h.sz, h.lt, Nat.le_trans h.size hs, hon.os.trans (hg.os.trans h.os), hon.tape.trans (hg.tape.trans h.tape), hon.output.trans (hg.output.trans h.output), fun k hk h1 h2 => (up k (Nat.lt_of_lt_of_le hk h.size) (by omega) h2).trans (h.fr k hk h1 h2)⟩
 obtain ⟨ad, cap, rfl, h2, h3, h4⟩ := h.rd.byt
 refine ⟨ad, cap, rfl, h2, h3, fun hp => ?_⟩
 obtain ⟨b, off, rfl, h6⟩ := h4 hp
 have hbk := h.ownLt h0 b rfl
 refine ⟨b, off, rfl, fun j hj => ?_⟩
 have h7 := h6 j hj
 have hb2 : W'.heap[b]? = W.heap[b]? := up b (block_lt_of_cell h7) (by omega) hbk.2
 unfold World.cell? at h7 ⊢
 rw [hb2]
 exact h7
def RbA (w : World) (H gl : Nat) (l : Bs) (l2 : Bs) (W : World) : Prop := ∃ va v ps, Rb w H gl v va v ps l2 W ∧ readB l = (if l2 = [] then some (ps.map (·.1)) else none)
def RbB (w : World) (H gl : Nat) (l : Bs) (W : World) : Prop := readB l = none ∧ w.heap.size ≤ W.heap.size ∧ W.os = w.os ∧ W.tape = w.tape ∧ W.output = w.output ∧ ∀ k, k < w.heap.size → k ≠ H + 1 → k ≠ gl → W.heap[k]? = w.heap[k]?
theorem Rb.threw {w W W' : World} {H gl : Nat} {v0 va v : Value} {ps : List (ActT × Value)} {r l : Bs} {e : Ending} (h : Rb w H gl v0 va v ps r W) (hT : Threw (H + 1) W e W') (hn : readB l = none) : Does H (RbA w H gl l) (RbB w H gl l) w (thrown (H + 1)) W' := by
 obtain ⟨v', hb, ad, m, c, hv⟩ := hT.bad
 have up : ∀ k, k < w.heap.size → k ≠ H + 1 → k ≠ gl → W'.heap[k]? = w.heap[k]? := fun k hk h1 h2 => (hT.onl.block k h1 (Nat.lt_of_lt_of_le hk h.size)).trans (h.fr k hk h1 h2)
 have hsz := h.sz
 have hgl := h.lt
 exact ⟨Nat.le_trans h.size hT.onl.size, fun k h1 h2 h3 => up k (by omega) h3 (by omega), Or.inr ⟨rfl, ⟨v', ad, m, c, hv, hb⟩, hn, Nat.le_trans h.size hT.onl.size, hT.onl.os.trans h.os, hT.onl.tape.trans h.tape, hT.onl.output.trans h.output, up⟩⟩
theorem Rb.done {w W : World} {H gl : Nat} {v0 va v : Value} {ps : List (ActT × Value)} {r l : Bs} (h : Rb w H gl v0 va v ps r W) (hn : readB l = (if r = [] then some (ps.map (·.1)) else none)) : Does H (RbA w H gl l) (RbB w H gl l) w (.returned (.tuple #[])) W := by
 have hsz := h.sz
 have hgl := h.lt
 exact ⟨h.size, fun k h1 h2 h3 => h.fr k (by omega) h3 (by omega), Or.inl ⟨rfl, v, r, h.rd, va, v, ps, ⟨h.rd, rfl, h.box, h.lst, h.sz, h.lt, h.size, h.os, h.tape, h.output, h.fr⟩, hn⟩⟩
theorem sReadBatch1_any (H gl : Nat) (vb : Value) (l : Bs) (w : World) (hsz : w.heap.size = H + 4) (hgl : gl < H) (hbox : Blk w gl [.slice none 0 0] 22) (h0 : 0 < l.length → ∀ k, vb.ownBlock = some k → k < H ∧ k ≠ gl) (hrd : Rd w (H + 3) (H + 1) vb l) :
 Calls Tryz.prog 39 #[.pointer (some ⟨H + 3, 0, none⟩), .pointer (some ⟨gl, 0, none⟩)] w (Does H (RbA w H gl l) (RbB w H gl l) w) := by
 have HRB0 : Hid (Rb w H gl vb (.slice none 0 0) vb [] l w) := ⟨hrd, rfl, hbox, OwnA.nil _ _, hsz, hgl, Nat.le_refl _, rfl, rfl, rfl, fun _ _ _ _ => rfl⟩
 have HH0 : Hid (0 < l.length → ∀ k, vb.ownBlock = some k → k < H ∧ k ≠ gl) := h0
 have HCT : Hid (Calls Tryz.prog 40 #[.pointer (some ⟨H + 3, 0, none⟩), .int .i64 4096] w fun e w' => RdDoes (H + 3) (H + 1) vb w (readCount 4096 l) (fun a _ v => v = .int .i64 (a : Int)) e w') := ccount_any (H + 3) (H + 1) 4096 (by decide) vb l w hrd
 obtain ⟨gr, HGR⟩ := sqn (H + 3)
 rw [← HGR.out] at HCT ⊢
 clear hsz hgl hbox h0 hrd
 go_enter Tryz.func39, Tryz.ntmps39
 go_wp2_with fail
 refine HCT.out.mono ?_
 rintro e y1 (⟨n, r1, va1, vc1, hc, rfl, rfl, hrd, ho, hob⟩ | ⟨hc, hT⟩)
 case inr =>
  have HD : Hid (Does H (RbA w H gl l) (RbB w H gl l) w (thrown (H + 1)) y1) := HRB0.out.threw hT (readB_cnt hc)
  obtain rfl := hT.eq
  unfold thrown at HD ⊢
  clear hT
  go_wp2
  exact ⟨rfl, HD.out⟩
 have HC1 : Hid (readCount 4096 l = some (n, r1)) := hc
 have H00 : Hid (∀ k, vb.ownBlock = some k → k < H ∧ k ≠ gl) := HH0.out (cnt_pos hc)
 have HN1 : Hid (n ≤ 4096) := readCount_le hc
 have HRB1 : Hid (Rb w H gl vb (.slice none 0 0) vc1 [] r1 y1) := HRB0.out.call (by rw [HGR.out] at hrd; exact hrd) ho hob
 clear hc hrd ho hob HCT HRB0
 go_wp2
 go_loopw [5] (fun iv W => ∃ (i : Nat) (a0 : Option Addr) (c0 : Nat) (v : Value) (ps : List (ActT × Value)) (r : Bs), i ≤ n ∧ iv = .int .i64 (i : Int) ∧ Hid (ps.length = i) ∧ Hid (Rb w H gl vb (.slice a0 i c0) v ps r W) ∧ Hid (readAll readA i r1 = some (ps.map (·.1), r))) (fun iv _ => n - (intOf iv).toNat)
 case atStart => exact ⟨0, none, 0, vc1, [], r1, Nat.zero_le _, rfl, rfl, HRB1, rfl⟩
 case round =>
  clear HRB1
  obtain ⟨i, a0, c0, v, ps, r, hi, rfl, HPL, HRB, HAL⟩ := hrel
  by_cases hin : i < n
  case neg =>
   have hlk : ¬ ((i : Int) < (n : Int)) := by omega
   obtain rfl : i = n := by omega
   have q0 : wr.cell? ⟨gl, 0, none⟩ = some (.slice a0 i c0) := HRB.out.box.cell 0; have HCK : Hid (Calls Tryz.prog 11 #[.slice a0 i c0] wr fun e w' => e = .returned (.int .i64 (chkL (ps.map (·.1)))) ∧ Below wr.heap.size wr w') := sCheck_any _ _ _ HRB.out.lst.reads (by rw [List.length_map, HPL.out]; have := HN1.out; omega)
   have hof := readB_of HC1.out HAL.out; obtain ⟨X, HX⟩ := sqn (chkL (ps.map (·.1))); rw [← HX.out] at HCK; have HCF : Hid (∀ W, Rd W gr (H + 1) v r → Calls Tryz.prog 42 #[.pointer (some ⟨gr, 0, none⟩)] W fun e w' => Threw (H + 1) W e w') := fun W hW => (cfail_any gr (H + 1) v r W hW).mono (fun e w' h => by obtain ⟨rfl, rfl⟩ := h; exact hW.threw)
   rcases chkL_or (ps.map (·.1)) with h | h
   · have HGD : Hid (readB l = (if r = [] then some (ps.map (·.1)) else none)) := by show _ = _; rw [hof, if_pos (chkL_ok.1 h).2]
     obtain rfl : X = 0 := by rw [HX.out]; exact h
     clear h hof hi hin; have tk0 : Hid True := trivial
     go_wp2_with (first
      | (clear tk0; go_at_call 11; refine (HCK.out).mono ?_; rintro e0 y2 ⟨rfl, hz⟩
         replace HRB : Hid (Rb w H gl vb (.slice a0 i c0) v ps r y2) := HRB.out.new hz; clear hz q0))
     refine bodyPost_ret (results_none rfl _ _ _) rfl ?_; exact HRB.out.done HGD.out
   · have HBD : Hid (readB l = none) := by
      show _ = _; have hg : ¬ (goodF [] (ps.map (·.1)) = true) := fun hg => by rw [chkL_ok.2 ⟨by rw [List.length_map, HPL.out]; exact HN1.out, hg⟩] at h; cases h
      rw [hof, if_neg hg]
      split <;> rfl
     obtain rfl : X = 1 := by rw [HX.out]; exact h
     clear h hof hi hin; have tk0 : Hid True := trivial
     go_wp2_with (first
      | (clear tk0; go_at_call 11; refine (HCK.out).mono ?_; rintro e0 y2 ⟨rfl, hz⟩
         replace HRB : Hid (Rb w H gl vb (.slice a0 i c0) v ps r y2) := HRB.out.new hz; clear hz q0))
     refine (HCF.out _ (by rw [HGR.out]; exact HRB.out.rd)).mono ?_
     rintro e y3 hT; have HD : Hid (Does H (RbA w H gl l) (RbB w H gl l) w (thrown (H + 1)) y3) := HRB.out.threw hT HBD.out; obtain rfl := hT.eq; unfold thrown at HD ⊢; clear hT; go_wp2; exact ⟨rfl, HD.out⟩
  case pos =>
   have hlk : (i : Int) < (n : Int) := by omega
   have f1 : IntKind.i64.wrap ((i : Int) + 1) = (i : Int) + 1 := by rw [IntKind.wrap_i64]; have := HN1.out; omega
   have HIN : Hid (i < n) := hin
   go_wp2_with fail
   refine wp_region_held_drew (S := fun _ => True) (by kernel_rfl) trivial ?_
   intro hS; replace HRB : Hid (Rb w H gl vb (.slice a0 i c0) v ps r (World.drew wr)) := HRB.out.new (Below.refl _ _).drew
   change wpAnyH _ _ _ _ _ _ _ _ (World.drew wr)
   generalize World.drew wr = y2 at *
   refine tkc 1 (.pointer (some ⟨gr, 0, none⟩)) rfl hS ?_; simp only [Act.put, sq]; refine wpAnyH_pair 0 2 (by kernel_rfl) ?_ ?_
   · refine wpOp_vl 0 (.slice a0 i c0) y2 rfl (by rfl) (by have hc := HRB.out.box.cell 0; simp at hc; simp [go_sem, hc]) ⟨trivial, ?_⟩
     simp only [Act.put, sq]; refine wpAnyH_enterP 2 (by kernel_rfl) rfl (by rfl) (f := 41) (args := #[.pointer (some ⟨gr, 0, none⟩)]) (by simp [go_sem]) (sReadAct_any gr (H + 1) _ _ _ (by rw [HGR.out]; exact HRB.out.rd)) ?_
     rintro e z2 (⟨a, r2, va2, v2, hc, rfl, ⟨vd, rfl, hown⟩, hrd, ho, hob⟩ | ⟨hc, hT⟩)
     case inr =>
      have hd := HRB.out.threw hT (readB_all HC1.out (readAll_stop i n r1 _ HAL.out hc HIN.out)); obtain rfl := hT.eq; exact Or.inr ⟨_, rfl, rfl, hd⟩
     refine Or.inl ⟨_, rfl, trivial, ?_⟩; have HOD : Hid (OwnB z2 (H + 4) vd a.data) := hown.mono (by rw [← HRB.out.sz]; exact HRB.out.size)
     replace HRB := HRB.out.call (by rw [HGR.out] at hrd; exact hrd) ho hob
     replace HRB : Hid (Rb w H gl vb (.slice a0 i c0) v2 ps r2 z2) := HRB; have HAL2 : Hid (readAll readA (i + 1) r1 = some ((ps ++ [(a, vd)]).map (·.1), r2)) := by show _ = _; rw [List.map_append]; exact readAll_snoc i r1 _ HAL.out hc
     obtain ⟨av, nv, cv, hvd⟩ := hown.reads.form; subst hvd; obtain ⟨ks, HKS⟩ := sqn (strB a.key); obtain ⟨st, HST⟩ := sqn (a.set); have HCE : Hid (actC a (.slice av nv cv) = [.string ks, .bool st, .slice av nv cv]) := by show _ = _; rw [actC, HKS.out, HST.out]
     rw [HCE.out]; clear hown hrd ho hob hc; simp only [Act.put, sq]; refine wpAnyH_step 3 _ _ (by kernel_rfl) rfl (by rfl) (build_a1 _ _ (.tmp 9) ks st av nv cv rfl rfl _) trivial ?_
     obtain ⟨g10, z3, e3, e3w, n3⟩ : ∃ g y, g = z2.heap.size ∧ y = z2.alloc (.cells [.string ks, .bool st, .slice av nv cv].toArray 62) ∧ NewR [.string ks, .bool st, .slice av nv cv] 62 z2 g y := ⟨_, _, rfl, rfl, NewR.of _ _ _⟩; rw [← e3w, ← e3]; clear e3 e3w; have HB10 : Hid (Blk z3 g10 (actC a (.slice av nv cv)) 62) := by rw [HCE.out]; exact n3.blk
     have HNE : Hid ((Value.slice a0 i c0).ownBlock ≠ some g10) := fun e => by have h1 := (HRB.out.lst.lt g10 e).2; have h2 := n3.ge; omega
     replace HOD : Hid (OwnB z3 (H + 4) (.slice av nv cv) a.data) := HOD.out.newS n3.below; replace HRB : Hid (Rb w H gl vb (.slice a0 i c0) v2 ps r2 z3) := HRB.out.new n3.below; clear n3; simp only [Act.put, sq]; refine wpAnyH_law 4 (by kernel_rfl) rfl (by rfl) (wp_appendA (.tmp 7) (.tmp 10) (H + 4) (.slice a0 i c0) ps (a, .slice av nv cv) g10 HRB.out.lst HB10.out HNE.out HOD.out (by rw [HPL.out]; have h1 := HN1.out; have h2 := HIN.out; omega) (by rw [← HRB.out.sz]; exact HRB.out.size) rfl rfl rfl ?_)
     intro v4 z4 ho4 hg4; refine ⟨trivial, ?_⟩; obtain ⟨a4, c4, hv4⟩ := ho4.form; rw [List.length_append, HPL.out] at hv4; replace hv4 : v4 = .slice a4 (i + 1) c4 := hv4; subst hv4; have HBX : Hid (Blk z4 gl [.slice a0 i c0] 22) := blk_same HRB.out.box (hg4.block gl HRB.out.box.lt (fun e => by have h1 := (HRB.out.lst.lt gl e.symm).1; have h2 := HRB.out.lt; omega))
     simp only [Act.put, sq]; refine wpAnyH_law 5 (by kernel_rfl) rfl (by rfl) (wp_cellA (.tmp 1) (.tmp 11) gl 0 [.slice a0 i c0] a4 (i + 1) c4 22 (by simp) HBX.out rfl rfl rfl ?_)
     intro z5 hb5 ho5; refine ⟨trivial, ?_⟩; have HRB5 : Hid (Rb w H gl vb (.slice a4 (i + 1) c4) v2 (ps ++ [(a, .slice av nv cv)]) r2 z5) := HRB.out.put H00.out ho4 hg4 hb5 ho5; have HPL5 : Hid ((ps ++ [(a, Value.slice av nv cv)]).length = i + 1) := by show _ = _; rw [List.length_append, HPL.out]; rfl
     clear ho4 hg4 hb5 ho5; simp only [Act.put, sq]; refine wpAnyH_done (by kernel_rfl) ?_ _
     go_wp2; go_roundw
     case rel => exact ⟨i + 1, a4, c4, v2, ps ++ [(a, .slice av nv cv)], r2, by omega, by simp, HPL5, HRB5, HAL2⟩
     case measure => simp [intOf]; omega
   · refine wpOp_enterP 2 rfl (by rfl) (f := 41) (args := #[.pointer (some ⟨gr, 0, none⟩)]) (by simp [go_sem]) (sReadAct_any gr (H + 1) _ _ _ (by rw [HGR.out]; exact HRB.out.rd)) ?_
     rintro e z2 (⟨a, r2, va2, v2, hc, rfl, ⟨vd, rfl, hown⟩, hrd, ho, hob⟩ | ⟨hc, hT⟩)
     case inr =>
      have hd := HRB.out.threw hT (readB_all HC1.out (readAll_stop i n r1 _ HAL.out hc HIN.out)); obtain rfl := hT.eq; exact Or.inr ⟨_, rfl, rfl, hd⟩
     refine Or.inl ⟨_, rfl, trivial, ?_⟩; have HOD : Hid (OwnB z2 (H + 4) vd a.data) := hown.mono (by rw [← HRB.out.sz]; exact HRB.out.size)
     replace HRB := HRB.out.call (by rw [HGR.out] at hrd; exact hrd) ho hob
     replace HRB : Hid (Rb w H gl vb (.slice a0 i c0) v2 ps r2 z2) := HRB; have HAL2 : Hid (readAll readA (i + 1) r1 = some ((ps ++ [(a, vd)]).map (·.1), r2)) := by show _ = _; rw [List.map_append]; exact readAll_snoc i r1 _ HAL.out hc
     obtain ⟨av, nv, cv, hvd⟩ := hown.reads.form; subst hvd; obtain ⟨ks, HKS⟩ := sqn (strB a.key); obtain ⟨st, HST⟩ := sqn (a.set); have HCE : Hid (actC a (.slice av nv cv) = [.string ks, .bool st, .slice av nv cv]) := by show _ = _; rw [actC, HKS.out, HST.out]
     rw [HCE.out]; clear hown hrd ho hob hc; simp only [Act.put, sq]; refine wpAnyH_pair 0 3 (by kernel_rfl) ?_ ?_
     · refine wpOp_vl 0 (.slice a0 i c0) z2 rfl (by rfl) (by have hc := HRB.out.box.cell 0; simp at hc; simp [go_sem, hc]) ⟨trivial, ?_⟩
       simp only [Act.put, sq]; refine wpAnyH_step 3 _ _ (by kernel_rfl) rfl (by rfl) (build_a1 _ _ (.tmp 9) ks st av nv cv rfl rfl _) trivial ?_
       obtain ⟨g10, z3, e3, e3w, n3⟩ : ∃ g y, g = z2.heap.size ∧ y = z2.alloc (.cells [.string ks, .bool st, .slice av nv cv].toArray 62) ∧ NewR [.string ks, .bool st, .slice av nv cv] 62 z2 g y := ⟨_, _, rfl, rfl, NewR.of _ _ _⟩; rw [← e3w, ← e3]; clear e3 e3w; have HB10 : Hid (Blk z3 g10 (actC a (.slice av nv cv)) 62) := by rw [HCE.out]; exact n3.blk
       have HNE : Hid ((Value.slice a0 i c0).ownBlock ≠ some g10) := fun e => by have h1 := (HRB.out.lst.lt g10 e).2; have h2 := n3.ge; omega
       replace HOD : Hid (OwnB z3 (H + 4) (.slice av nv cv) a.data) := HOD.out.newS n3.below; replace HRB : Hid (Rb w H gl vb (.slice a0 i c0) v2 ps r2 z3) := HRB.out.new n3.below; clear n3; simp only [Act.put, sq]; refine wpAnyH_law 4 (by kernel_rfl) rfl (by rfl) (wp_appendA (.tmp 7) (.tmp 10) (H + 4) (.slice a0 i c0) ps (a, .slice av nv cv) g10 HRB.out.lst HB10.out HNE.out HOD.out (by rw [HPL.out]; have h1 := HN1.out; have h2 := HIN.out; omega) (by rw [← HRB.out.sz]; exact HRB.out.size) rfl rfl rfl ?_)
       intro v4 z4 ho4 hg4; refine ⟨trivial, ?_⟩; obtain ⟨a4, c4, hv4⟩ := ho4.form; rw [List.length_append, HPL.out] at hv4; replace hv4 : v4 = .slice a4 (i + 1) c4 := hv4; subst hv4; have HBX : Hid (Blk z4 gl [.slice a0 i c0] 22) := blk_same HRB.out.box (hg4.block gl HRB.out.box.lt (fun e => by have h1 := (HRB.out.lst.lt gl e.symm).1; have h2 := HRB.out.lt; omega))
       simp only [Act.put, sq]; refine wpAnyH_law 5 (by kernel_rfl) rfl (by rfl) (wp_cellA (.tmp 1) (.tmp 11) gl 0 [.slice a0 i c0] a4 (i + 1) c4 22 (by simp) HBX.out rfl rfl rfl ?_)
       intro z5 hb5 ho5; refine ⟨trivial, ?_⟩; have HRB5 : Hid (Rb w H gl vb (.slice a4 (i + 1) c4) v2 (ps ++ [(a, .slice av nv cv)]) r2 z5) := HRB.out.put H00.out ho4 hg4 hb5 ho5; have HPL5 : Hid ((ps ++ [(a, Value.slice av nv cv)]).length = i + 1) := by show _ = _; rw [List.length_append, HPL.out]; rfl
       clear ho4 hg4 hb5 ho5; simp only [Act.put, sq]; refine wpAnyH_done (by kernel_rfl) ?_ _
       go_wp2; go_roundw
       case rel => exact ⟨i + 1, a4, c4, v2, ps ++ [(a, .slice av nv cv)], r2, by omega, by simp, HPL5, HRB5, HAL2⟩
       case measure => simp [intOf]; omega
     · refine wpOp_vl 3 _ _ rfl (by rfl) (build_a1 _ _ (.tmp 9) ks st av nv cv rfl rfl _) ⟨trivial, ?_⟩
       obtain ⟨g10, z3, e3, e3w, n3⟩ : ∃ g y, g = z2.heap.size ∧ y = z2.alloc (.cells [.string ks, .bool st, .slice av nv cv].toArray 62) ∧ NewR [.string ks, .bool st, .slice av nv cv] 62 z2 g y := ⟨_, _, rfl, rfl, NewR.of _ _ _⟩; rw [← e3w, ← e3]; clear e3 e3w; have HB10 : Hid (Blk z3 g10 (actC a (.slice av nv cv)) 62) := by rw [HCE.out]; exact n3.blk
       have HNE : Hid ((Value.slice a0 i c0).ownBlock ≠ some g10) := fun e => by have h1 := (HRB.out.lst.lt g10 e).2; have h2 := n3.ge; omega
       replace HOD : Hid (OwnB z3 (H + 4) (.slice av nv cv) a.data) := HOD.out.newS n3.below; replace HRB : Hid (Rb w H gl vb (.slice a0 i c0) v2 ps r2 z3) := HRB.out.new n3.below; clear n3; simp only [Act.put, sq]; refine wpAnyH_step 0 (.slice a0 i c0) z3 (by kernel_rfl) rfl (by rfl) (by have hc := HRB.out.box.cell 0; simp at hc; simp [go_sem, hc]) trivial ?_
       simp only [Act.put, sq]; refine wpAnyH_law 4 (by kernel_rfl) rfl (by rfl) (wp_appendA (.tmp 7) (.tmp 10) (H + 4) (.slice a0 i c0) ps (a, .slice av nv cv) g10 HRB.out.lst HB10.out HNE.out HOD.out (by rw [HPL.out]; have h1 := HN1.out; have h2 := HIN.out; omega) (by rw [← HRB.out.sz]; exact HRB.out.size) rfl rfl rfl ?_)
       intro v4 z4 ho4 hg4; refine ⟨trivial, ?_⟩; obtain ⟨a4, c4, hv4⟩ := ho4.form; rw [List.length_append, HPL.out] at hv4; replace hv4 : v4 = .slice a4 (i + 1) c4 := hv4; subst hv4; have HBX : Hid (Blk z4 gl [.slice a0 i c0] 22) := blk_same HRB.out.box (hg4.block gl HRB.out.box.lt (fun e => by have h1 := (HRB.out.lst.lt gl e.symm).1; have h2 := HRB.out.lt; omega))
       simp only [Act.put, sq]; refine wpAnyH_law 5 (by kernel_rfl) rfl (by rfl) (wp_cellA (.tmp 1) (.tmp 11) gl 0 [.slice a0 i c0] a4 (i + 1) c4 22 (by simp) HBX.out rfl rfl rfl ?_)
       intro z5 hb5 ho5; refine ⟨trivial, ?_⟩; have HRB5 : Hid (Rb w H gl vb (.slice a4 (i + 1) c4) v2 (ps ++ [(a, .slice av nv cv)]) r2 z5) := HRB.out.put H00.out ho4 hg4 hb5 ho5; have HPL5 : Hid ((ps ++ [(a, Value.slice av nv cv)]).length = i + 1) := by show _ = _; rw [List.length_append, HPL.out]; rfl
       clear ho4 hg4 hb5 ho5; simp only [Act.put, sq]; refine wpAnyH_done (by kernel_rfl) ?_ _
       go_wp2; go_roundw
       case rel => exact ⟨i + 1, a4, c4, v2, ps ++ [(a, .slice av nv cv)], r2, by omega, by simp, HPL5, HRB5, HAL2⟩
       case measure => simp [intOf]; omega
theorem doesMono15 {H : Nat} {A A' : List (BitVec 8) → World → Prop} {B B' : World → Prop} {w1 w2 : World} {e : Ending} (h : Does H A B w1 e w2) (ha : ∀ l, A l w2 → A' l w2) (hb : B w2 → B' w2) : Does H A' B' w1 e w2 :=
 ⟨h.size, h.kept, h.way.elim (fun ⟨h1, v2, l2, h2, h3⟩ => Or.inl ⟨h1, v2, l2, h2, ha l2 h3⟩) (fun ⟨h1, h2, h3⟩ => Or.inr ⟨h1, h2, hb h3⟩)⟩
theorem enters_rb : ∀ xs w, (callFunc 39 xs).run Tryz.prog w = .ok (.enter 39 xs) w := enters_of Tryz.func39 (by kernel_rfl) rfl
def BtR (w : World) (b : Bs) (e : Ending) (w' : World) : Prop :=
 Below w.heap.size w w' ∧ ((∃ va ps, readB b = some (ps.map (·.1)) ∧ e = .returned (.tuple #[va, .int .i64 0]) ∧ OwnA w' w.heap.size va ps) ∨ (readB b = none ∧ e = .returned (.tuple #[.slice none 0 0, .int .i64 3])))
theorem OwnA.mono {W : World} {base B : Nat} {v : Value} {ps : List (ActT × Value)} (h : OwnA W base v ps) (hB : B ≤ base) : OwnA W B v ps := by
 refine ⟨?_, fun p hp => (h.dat p hp).mono hB⟩
 obtain ⟨h1, h2⟩ := h.row
 refine ⟨h1, h2.imp id ?_⟩
 rintro ⟨g, cap, cur, e, hg, r⟩
 exact ⟨g, cap, cur, e, Nat.le_trans hB hg, r⟩
structure Rz (w : World) (gl : Nat) (b : Bs) (en : Int) (w' : World) : Prop where
 bel : Below w.heap.size w w'
 out : (en = 0 ∧ ∃ va ps, readB b = some (ps.map (·.1)) ∧ Blk w' gl [va] 22 ∧ OwnA w' w.heap.size va ps) ∨ (en = 3 ∧ readB b = none)
theorem rb_read (vb : Value) (b : Bs) (gl : Nat) (w y1 : World) (hb : Below w.heap.size w y1) (hr : Reads w vb b) (hg : Blk y1 gl [.slice none 0 0] 22) (hge : w.heap.size ≤ gl) :
 Calls Tryz.prog 38 #[vb, .func (.func 39) #[] #[.pointer (some ⟨gl, 0, none⟩)]] y1 fun e w' => ∃ en : Int, e = .returned (.int .i64 en) ∧ Rz w gl b en w' := by
 obtain ⟨H, eH⟩ : ∃ H, H = y1.heap.size := ⟨_, rfl⟩
 have hgl : gl < H := by rw [eH]; exact hg.lt
 have hz : w.heap.size ≤ H := by omega
 have h := read_any 39 #[.pointer (some ⟨gl, 0, none⟩)] vb b (fun l2 W => ∃ w1 : World, w1.heap.size = H + 4 ∧ Below H y1 w1 ∧ RbA w1 H gl b l2 W) (fun W => ∃ w1 : World, w1.heap.size = H + 4 ∧ Below H y1 w1 ∧ RbB w1 H gl b W) y1 (hr.below hb) enters_rb (fun w1 h1 h2 h3 => by
  rw [← eH] at h1 h2 h3 ⊢
  have hbx : Blk w1 gl [.slice none 0 0] 22 := hg.below (by rw [← eH]; exact h2) hg.lt
  exact (sReadBatch1_any H gl vb b w1 h1 hgl hbx (fun hp k hk => by have := reads_in hr hp k hk; omega) h3).mono (fun e w' hd => doesMono15 hd (fun l hl => ⟨w1, h1, h2, hl⟩) (fun hl => ⟨w1, h1, h2, hl⟩)))
 rw [← eH] at h
 refine h.mono (fun e w' hh => ?_)
 obtain ⟨w2, hpast, hh⟩ := hh
 have hlow : ∀ w1 : World, w1.heap.size = H + 4 → Below H y1 w1 → w1.heap.size ≤ w2.heap.size → w2.os = w1.os → w2.tape = w1.tape → w2.output = w1.output → (∀ k, k < w1.heap.size → k ≠ H + 1 → k ≠ gl → w2.heap[k]? = w1.heap[k]?) → Below w.heap.size w w' := fun w1 s1 b1 s2 o1 o2 o3 f1 => by
  refine ⟨hpast.os.trans (o1.trans (b1.os.trans hb.os)), hpast.tape.trans (o2.trans (b1.tape.trans hb.tape)), hpast.output.trans (o3.trans (b1.output.trans hb.output)), by rw [hpast.size]; omega, fun k hk => ?_⟩
  rw [hpast.block k (Or.inl (by omega)), f1 k (by omega) (by omega) (by omega), b1.block k (by omega), hb.block k hk]
 rcases hh with ⟨l2, ⟨w1, s1, b1, va, v, ps, hrb, hread⟩, rfl⟩ | ⟨⟨w1, s1, b1, hn, s2, o1, o2, o3, f1⟩, rfl⟩
 · have hB := hlow w1 s1 b1 hrb.size hrb.os hrb.tape hrb.output hrb.fr
   by_cases hl : l2 = []
   · rw [if_pos hl] at hread ⊢
     refine ⟨0, rfl, hB, Or.inl ⟨rfl, va, ps, hread, ?_, ?_⟩⟩
     · exact blk_same hrb.box (hpast.block gl (Or.inl hgl))
     · exact (hrb.lst.same (fun k h1 _ => hpast.block k (Or.inr h1))).mono (by omega)
   · rw [if_neg hl] at hread ⊢
     exact ⟨3, rfl, hB, Or.inr ⟨rfl, hread⟩⟩
 · exact ⟨3, rfl, hlow w1 s1 b1 s2 o1 o2 o3 f1, Or.inr ⟨rfl, hn⟩⟩
theorem alloc_acts (f : Operand → Value) (o : Oper) (ho : o.op = .alloc 22) (w : World) : (execOp f o).run Tryz.prog w = .ok (.value (.pointer (some ⟨w.heap.size, 0, none⟩))) (w.alloc (.cells [Value.slice none 0 0].toArray 22)) := by
 unfold execOp
 rw [ho]
 kernel_rfl
theorem wpSeq_allocAs {ops : Array Oper} {Q : Exit → Act → World → Prop} {rest : List Oper} {o : Oper} {a : Act} {w : World} (ho : o.op = .alloc 22) (hw : Region.wanted o (yielded ops a.tmps) = true)
 (h : ∀ g w', NewR [.slice none 0 0] 22 w g w' → wpList Tryz.prog ops Q rest (a.put o.dst (.pointer (some ⟨g, 0, none⟩))) w') : wpList Tryz.prog ops Q (o :: rest) a w :=
 wpSeq_val _ _ hw (alloc_acts _ _ ho _) (h _ _ (NewR.of _ _ w))
theorem sReadBatch_any (vb : Value) (b : Bs) (w : World) (hr : Reads w vb b) : Calls Tryz.prog 12 #[vb] w fun e w' => BtR w b e w' := by
 have hmf : ∀ (fn : Fn) (first cap : Array Value) (w : World), (Instr.makeFunc fn first cap).run Tryz.prog w = .ok (.func fn first cap) w := fun _ _ _ _ => rfl
 have HR : Hid (Reads w vb b) := hr
 obtain ⟨ad, n, c, hv⟩ := hr.form
 subst hv
 clear hr
 go_enter Tryz.func12, Tryz.ntmps12
 obtain ⟨tk0, tk1⟩ := sqk2
 go_wp2_with (first
  | (clear tk0; with_reducible refine wpSeq_allocAs ?_ ?_ ?_
     · rfl
     · rfl
     intro gl y1 nn; have HG : Hid (Blk y1 gl [.slice none 0 0] 22 ∧ w.heap.size ≤ gl) := ⟨nn.blk, nn.ge⟩; have HB1 : Hid (Below w.heap.size w y1) := nn.below; have HCR : Hid (Calls Tryz.prog 38 #[.slice ad n c, .func (.func 39) #[] #[.pointer (some ⟨gl, 0, none⟩)]] y1 fun e w' => ∃ en : Int, e = .returned (.int .i64 en) ∧ Rz w gl b en w') := rb_read (.slice ad n c) b gl w y1 nn.below HR.out nn.blk nn.ge
     clear nn)
  | (clear tk1; go_at_call 38; refine (HCR.out).mono ?_; rintro e0 y2 ⟨en, rfl, hz⟩
     have HRZ : Hid (Rz w gl b en y2) := hz; clear hz
     rcases HRZ.out.out with ⟨h1, va, ps, h2, h3, h4⟩ | ⟨h1, h2⟩
     all_goals (first
      | (have HP : Hid (readB b = some (ps.map (·.1)) ∧ OwnA y2 w.heap.size va ps) := ⟨h2, h4⟩
         have q1 : y2.cell? ⟨gl, 0, none⟩ = some va := h3.cell 0; obtain ⟨a2, c2, hv2⟩ := h4.form; subst hv2; subst h1; clear h2 h3 h4)
      | (have HN : Hid (readB b = none) := h2
         subst h1; clear h2))))
 · refine bodyPost_ret (results_tmp2 rfl _ _ _) rfl ?_
   exact ⟨HRZ.out.bel, Or.inl ⟨_, ps, HP.out.1, rfl, HP.out.2⟩⟩
 · refine bodyPost_ret (results_tmp2 rfl _ _ _) rfl ?_
   exact ⟨HRZ.out.bel, Or.inr ⟨HN.out, rfl⟩⟩
def wtA (a : ActT) : Nat := a.key.length + a.data.length
def sumA (l : List ActT) : Nat := (l.map wtA).sum
theorem sumA_snoc (l : List ActT) (x : ActT) : sumA (l ++ [x]) = sumA l + wtA x := by simp [sumA]
theorem sumA_take {l : List ActT} {k : Nat} (hk : k < l.length) : sumA (l.take (k + 1)) = sumA (l.take k) + wtA (l.getD k ⟨[], false, []⟩) := by
 rw [take_act hk]
 exact sumA_snoc _ _
structure szA (a : ActT) : Prop where
 k : a.key.length ≤ 1125899906842624
 d : a.data.length ≤ 1125899906842624
def LightJ (l : List ActT) (ok : Bool) : Prop := ok = true → l.length ≤ 60 ∧ sumA l ≤ 20000
def LightR (l : List ActT) (e : Ending) : Prop := ∃ ok, e = .returned (.bool ok) ∧ LightJ l ok
theorem light15_any (v : Value) (l : List ActT) (w : World) (hr : ReadsA w v l) (hs : ∀ a ∈ l, szA a) : Calls Tryz.prog 9 #[v] w fun e w' => LightR l e ∧ Below w.heap.size w w' := by
 have HR : Hid (ReadsA w v l) := hr
 have HS : Hid (∀ a ∈ l, szA a) := hs
 obtain ⟨ad, c, hv⟩ := hr.form
 obtain ⟨n, HN⟩ := sqn (l.length)
 rw [← HN.out] at hv
 subst hv
 clear hs hr
 by_cases hl : 60 < n
 · have q1 : (60 : Int) < (n : Int) := by omega
   go_enter Tryz.func9, Tryz.ntmps9
   go_wp2; go_ret; exact ⟨⟨false, rfl, fun h => by cases h⟩, Below.refl _ _⟩
 have q1 : ¬ ((60 : Int) < (n : Int)) := by omega
 have HNB : Hid (n ≤ 60) := by show _ ≤ _; omega
 clear hl
 go_enter Tryz.func9, Tryz.ntmps9
 go_wp2
 clear q1
 go_loopw [3, 4] (fun a i4 wr => ∃ (m i : Nat), a = .int .i64 (m : Int) ∧ i4 = .int .i64 (i : Int) ∧ i ≤ n ∧ m < 9007199254740992 ∧ Hid (m ≤ 20000 → m = sumA (l.take i)) ∧ Hid (Below w.heap.size w wr)) (fun _ i4 _ => n - (intOf i4).toNat)
 case atStart => exact ⟨0, 0, rfl, rfl, Nat.zero_le _, by decide, fun _ => rfl, Below.refl _ _⟩
 case round =>
  obtain ⟨m, i, rfl, rfl, hi, hm, HM, HBB⟩ := hrel
  by_cases hin : i < n
  case neg =>
   have hlk : ¬ ((i : Int) < (n : Int)) := by omega
   by_cases hm2 : m ≤ 20000
   · have q2 : (m : Int) ≤ 20000 := by omega
     have HE : Hid (sumA l ≤ 20000) := by
      have h1 := HM.out hm2; rw [List.take_of_length_le (by rw [← HN.out]; omega)] at h1
      show _ ≤ _; omega
     go_wp2; go_ret; exact ⟨⟨true, rfl, fun _ => ⟨by rw [← HN.out]; exact HNB.out, HE.out⟩⟩, HBB.out⟩
   · have q2 : ¬ ((m : Int) ≤ 20000) := by omega
     go_wp2; go_ret; exact ⟨⟨false, rfl, fun h => by cases h⟩, HBB.out⟩
  case pos =>
   have hlk : (i : Int) < (n : Int) := by omega
   by_cases hm2 : m ≤ 20000
   case neg =>
    have q2 : ¬ ((m : Int) ≤ 20000) := by omega
    go_wp2; go_ret; exact ⟨⟨false, rfl, fun h => by cases h⟩, HBB.out⟩
   case pos =>
    have q2 : (m : Int) ≤ 20000 := by omega
    have HIN : Hid (i < n) := hin; have hio : i < l.length := by rw [← HN.out]; exact hin
    obtain ⟨b, off, vd, rfl, hrg, rD⟩ := (HR.out.below HBB.out).at hio; obtain ⟨o, HO⟩ : ∃ o, Hid (o = l.getD i ⟨[], false, []⟩) := ⟨_, rfl⟩; rw [← HO.out] at hrg rD; have hmem : o ∈ l := by rw [HO.out, List.getD_eq_getElem?_getD, List.getElem?_eq_getElem hio]; exact List.getElem_mem hio
    have hsz := HS.out o hmem; have hst := sumA_take hio; rw [← HO.out] at hst; obtain ⟨lK, HLK⟩ := sqn (o.key.length); obtain ⟨lD, HLD⟩ := sqn (o.data.length); obtain ⟨aD, cD, hvD, _⟩ := rD; rw [← HLD.out] at hvD; subst hvD; obtain ⟨ks, HKS⟩ := sqn (strB o.key); have hks : ks.size = lK := by rw [HKS.out, strB_size, HLK.out]
    have hK := hsz.k; have hD := hsz.d; rw [← HLK.out] at hK; rw [← HLD.out] at hD; obtain ⟨m1, HM1⟩ := sqn (m + lK); obtain ⟨m2, HM2⟩ := sqn (m1 + lD); have hm1 := HM1.out; have hm22 := HM2.out; have f1 : IntKind.i64.wrap ((m : Int) + (lK : Int)) = (m1 : Int) := aJ HM1.out (by omega)
    have f2 : IntKind.i64.wrap ((m1 : Int) + (lD : Int)) = (m2 : Int) := aJ HM2.out (by omega)
    have f3 : IntKind.i64.wrap ((i : Int) + 1) = (i : Int) + 1 := by rw [IntKind.wrap_i64]; have := HNB.out; omega
    have HST : Hid (m2 = sumA (l.take (i + 1))) := by
     show _ = _; rw [hst, ← HM.out hm2, wtA, ← HLK.out, ← HLD.out]; omega
    have HM2B : Hid (m2 < 4503599627370496) := by show _ < _; omega
    have HC1 : Hid (wr.cell? ⟨b, off + i * 3, none⟩ = some (.string ks)) := by rw [HKS.out]; exact hrg 0 _ rfl
    have HC2 : Hid (wr.cell? ⟨b, off + i * 3 + 2, none⟩ = some (.slice aD lD cD)) := hrg 2 _ rfl; clear hst hsz hK hD hm1 hm22 hmem hrg
    go_wp2_with fail
    refine wp_region_held_drew (S := Over (World.drew wr)) (by kernel_rfl) (Over.refl _) ?_
    intro hS; replace HC1 : Hid ((World.drew wr).cell? ⟨b, off + i * 3, none⟩ = some (.string ks)) := HC1.out; replace HC2 : Hid ((World.drew wr).cell? ⟨b, off + i * 3 + 2, none⟩ = some (.slice aD lD cD)) := HC2.out; replace HBB : Hid (Below w.heap.size w (World.drew wr)) := HBB.out.drew
    change wpAnyH _ _ _ _ _ _ _ _ (World.drew wr)
    generalize World.drew wr = y1 at *
    refine tkc 0 (.int .i64 (m : Int)) rfl hS ?_; simp only [Act.put, sq]; refine tkc 1 (.slice (some ⟨b, off, none⟩) n c) rfl hS ?_; simp only [Act.put, sq]; refine tkc 2 (.int .i64 (i : Int)) rfl hS ?_; simp only [Act.put, sq]; refine tka 3 (.pointer (some ⟨b, off + i * 3, none⟩)) rfl (fun wx hx => by exact idxA b off n c i HIN.out _ _ _ _ rfl rfl rfl _) hS ?_
    simp only [Act.put, sq]; refine tkc 4 (.pointer (some ⟨b, off + i * 3, none⟩)) rfl hS ?_; simp only [Act.put, sq]; refine tka 5 (.string ks) rfl (fun wx hx => by (have hc := below_cell hx HC1.out; simp [go_sem, hc])) hS ?_
    simp only [Act.put, sq]; refine tka 6 (.int .i64 (lK : Int)) rfl (fun wx hx => by simp [go_sem, hks]) hS ?_
    simp only [Act.put, sq]; refine tka 7 (.int .i64 (m1 : Int)) rfl (fun wx hx => by simp [go_sem, f1]) hS ?_
    simp only [Act.put, sq]; refine tkc 8 (.slice (some ⟨b, off, none⟩) n c) rfl hS ?_; simp only [Act.put, sq]; refine tkc 9 (.int .i64 (i : Int)) rfl hS ?_; simp only [Act.put, sq]; refine tka 10 (.pointer (some ⟨b, off + i * 3, none⟩)) rfl (fun wx hx => by exact idxA b off n c i HIN.out _ _ _ _ rfl rfl rfl _) hS ?_
    simp only [Act.put, sq]; refine tkc 11 (.pointer (some ⟨b, off + i * 3 + 2, none⟩)) rfl hS ?_; simp only [Act.put, sq]; refine tka 12 (.slice aD lD cD) rfl (fun wx hx => by (have hc := below_cell hx HC2.out; simp [go_sem, hc])) hS ?_
    simp only [Act.put, sq]; refine tkc 13 (.int .i64 (lD : Int)) rfl hS ?_; simp only [Act.put, sq]; refine tka 14 (.int .i64 (m2 : Int)) rfl (fun wx hx => by simp [go_sem, f2]) hS ?_
    simp only [Act.put, sq]; refine tkc 15 (.int .i64 (m2 : Int)) rfl hS ?_; simp only [Act.put, sq]; refine wpAnyH_done (by kernel_rfl) ?_ _
    clear hS; go_wp2; go_roundw
    case rel => exact ⟨m2, i + 1, rfl, by simp, by omega, by have := HM2B.out; omega, fun _ => HST.out, HBB⟩
    case measure => simp [intOf]; omega
theorem act_ext (a b : ActT) : (a.key = b.key ∧ a.set = b.set ∧ a.data = b.data) ↔ a = b := by
 constructor
 · intro h
   cases a
   cases b
   obtain ⟨h1, h2, h3⟩ := h; simp only at h1 h2 h3; rw [h1, h2, h3]
 · intro h
   rw [h]; exact ⟨rfl, rfl, rfl⟩
instance : DecidableEq ActT := fun a b => decidable_of_iff _ (act_ext a b)
theorem acts_step {a b : List ActT} {i : Nat} (ha : i < a.length) (hb : i < b.length) (h : a.take i = b.take i) (he : a.getD i ⟨[], false, []⟩ = b.getD i ⟨[], false, []⟩) : a.take (i + 1) = b.take (i + 1) := by
 rw [take_act ha, take_act hb, h, he]
theorem acts_ne {a b : List ActT} (i : Nat) (h : a.getD i ⟨[], false, []⟩ ≠ b.getD i ⟨[], false, []⟩) : decide (a = b) = false := decide_eq_false (fun he => h (by rw [he]))
theorem oSameActs_any (va vb : Value) (la lb : List ActT) (w : World) (ha : ReadsA w va la) (hb : ReadsA w vb lb) (hl : la.length < 4611686018427387904) : Calls Tryz.prog 15 #[va, vb] w fun e w' => e = .returned (.bool (decide (la = lb))) ∧ Below w.heap.size w w' := by
 have HR : Hid (ReadsA w va la) := ha
 have HR2 : Hid (ReadsA w vb lb) := hb
 obtain ⟨ad, c, hv⟩ := ha.form
 obtain ⟨ad2, c2, hv2⟩ := hb.form
 obtain ⟨n, HN⟩ := sqn (la.length)
 obtain ⟨n2, HN2⟩ := sqn (lb.length)
 rw [← HN.out] at hv hl
 rw [← HN2.out] at hv2
 subst hv hv2
 clear ha hb
 obtain ⟨X, HXX⟩ := sqn (decide (la = lb))
 rw [← HXX.out]
 by_cases hnn : n = n2
 case neg =>
  have q1 : ¬ ((n : Int) = (n2 : Int)) := by omega
  obtain rfl : X = false := by rw [HXX.out]; exact decide_eq_false (fun h => hnn (by rw [HN.out, HN2.out, h]))
  clear hnn
  go_enter Tryz.func15, Tryz.ntmps15
  go_wp2
  go_ret
  exact ⟨rfl, Below.refl _ _⟩
 subst hnn
 have HNL : Hid (n < 4611686018427387904) := hl
 clear hl
 go_enter Tryz.func15, Tryz.ntmps15
 go_wp2
 go_loopw [5] (fun iv W => ∃ i : Nat, i ≤ n ∧ iv = .int .i64 (i : Int) ∧ Hid (la.take i = lb.take i) ∧ Hid (Below w.heap.size w W)) (fun iv _ => n - (intOf iv).toNat)
 case atStart => exact ⟨0, Nat.zero_le _, rfl, rfl, Below.refl _ _⟩
 case round =>
  obtain ⟨i, hi, rfl, HE, HBB⟩ := hrel
  by_cases hin : i < n
  case neg =>
   have hlk : ¬ ((i : Int) < (n : Int)) := by omega
   obtain rfl : X = true := by
    have h := HE.out; rw [List.take_of_length_le (by rw [← HN.out]; omega), List.take_of_length_le (by rw [← HN2.out]; omega)] at h
    rw [HXX.out]; exact decide_eq_true h
   go_wp2; go_ret; exact ⟨rfl, HBB.out⟩
  case pos =>
   have hlk : (i : Int) < (n : Int) := by omega
   have f1 : IntKind.i64.wrap ((i : Int) + 1) = (i : Int) + 1 := by rw [IntKind.wrap_i64]; have := HNL.out; omega
   have HIN : Hid (i < n) := hin; have hia : i < la.length := by rw [← HN.out]; exact hin
   have hib : i < lb.length := by rw [← HN2.out]; exact hin
   obtain ⟨b, off, vd, rfl, hrg, hrd⟩ := (HR.out.below HBB.out).at hia; obtain ⟨b2, off2, vd2, rfl, hrg2, hrd2⟩ := (HR2.out.below HBB.out).at hib; have HSTEP := acts_step hia hib HE.out; have HNO := acts_ne (a := la) (b := lb) i; obtain ⟨x, HX⟩ : ∃ a, Hid (a = la.getD i ⟨[], false, []⟩) := ⟨_, rfl⟩; obtain ⟨y, HY⟩ : ∃ a, Hid (a = lb.getD i ⟨[], false, []⟩) := ⟨_, rfl⟩; rw [← HX.out] at hrg hrd HSTEP HNO; rw [← HY.out] at hrg2 hrd2 HSTEP HNO; replace HSTEP : Hid (x = y → la.take (i + 1) = lb.take (i + 1)) := HSTEP; replace HNO : Hid (x ≠ y → decide (la = lb) = false) := HNO; have HRD : Hid (Reads wr vd x.data) := hrd; have HRD2 : Hid (Reads wr vd2 y.data) := hrd2; obtain ⟨ks, HKS⟩ := sqn (strB x.key); obtain ⟨ks2, HKS2⟩ := sqn (strB y.key); obtain ⟨st, HST⟩ := sqn (x.set); obtain ⟨st2, HST2⟩ := sqn (y.set); have HKQ : Hid ((!(ks.toList == ks2.toList)) = !decide (x.key = y.key)) := by show _ = _; rw [HKS.out, HKS2.out, strB_inj]
   have HA0 : Hid (wr.cell? ⟨b, off + i * 3, none⟩ = some (.string ks)) := by rw [HKS.out]; exact hrg 0 _ rfl
   have HA1 : Hid (wr.cell? ⟨b, off + i * 3 + 1, none⟩ = some (.bool st)) := by rw [HST.out]; exact hrg 1 _ rfl
   have HA2 : Hid (wr.cell? ⟨b, off + i * 3 + 2, none⟩ = some vd) := hrg 2 _ rfl; have HB0 : Hid (wr.cell? ⟨b2, off2 + i * 3, none⟩ = some (.string ks2)) := by rw [HKS2.out]; exact hrg2 0 _ rfl
   have HB1 : Hid (wr.cell? ⟨b2, off2 + i * 3 + 1, none⟩ = some (.bool st2)) := by rw [HST2.out]; exact hrg2 1 _ rfl
   have HB2 : Hid (wr.cell? ⟨b2, off2 + i * 3 + 2, none⟩ = some vd2) := hrg2 2 _ rfl; clear hrg hrg2 hrd hrd2
   by_cases hk : x.key = y.key
   case neg =>
    have HKN : Hid ((!(ks.toList == ks2.toList)) = true) := by show _ = _; rw [HKQ.out, decide_eq_false hk]; rfl
    obtain rfl : X = false := by rw [HXX.out]; exact HNO.out (fun h => hk (by rw [h]))
    go_wp2_with fail
    refine wp_region_held_drew (S := Over (World.drew wr)) (by kernel_rfl) (Over.refl _) ?_
    intro hS; replace HA0 : Hid ((World.drew wr).cell? ⟨b, off + i * 3, none⟩ = some (.string ks)) := HA0.out; replace HA1 : Hid ((World.drew wr).cell? ⟨b, off + i * 3 + 1, none⟩ = some (.bool st)) := HA1.out; replace HA2 : Hid ((World.drew wr).cell? ⟨b, off + i * 3 + 2, none⟩ = some vd) := HA2.out; replace HB0 : Hid ((World.drew wr).cell? ⟨b2, off2 + i * 3, none⟩ = some (.string ks2)) := HB0.out; replace HB1 : Hid ((World.drew wr).cell? ⟨b2, off2 + i * 3 + 1, none⟩ = some (.bool st2)) := HB1.out; replace HB2 : Hid ((World.drew wr).cell? ⟨b2, off2 + i * 3 + 2, none⟩ = some vd2) := HB2.out; replace HRD : Hid (Reads (World.drew wr) vd x.data) := HRD.out; replace HRD2 : Hid (Reads (World.drew wr) vd2 y.data) := HRD2.out; replace HBB : Hid (Below w.heap.size w (World.drew wr)) := HBB.out.drew
    change wpAnyH _ _ _ _ _ _ _ _ (World.drew wr)
    generalize World.drew wr = y1 at *
    refine tkc 0 (.slice (some ⟨b, off, none⟩) n c) rfl hS ?_; simp only [Act.put, sq]; refine tkc 1 (.int .i64 (i : Int)) rfl hS ?_; simp only [Act.put, sq]; refine tka 2 (.pointer (some ⟨b, off + i * 3, none⟩)) rfl (fun wx hx => by exact idxA b off n c i HIN.out _ _ _ _ rfl rfl rfl _) hS ?_
    simp only [Act.put, sq]; refine tkc 3 (.pointer (some ⟨b, off + i * 3, none⟩)) rfl hS ?_; simp only [Act.put, sq]; refine tka 4 (.string ks) rfl (fun wx hx => by (have hc := below_cell hx HA0.out; simp [go_sem, hc])) hS ?_
    simp only [Act.put, sq]; refine tkc 5 (.slice (some ⟨b2, off2, none⟩) n c2) rfl hS ?_; simp only [Act.put, sq]; refine tkc 6 (.int .i64 (i : Int)) rfl hS ?_; simp only [Act.put, sq]; refine tka 7 (.pointer (some ⟨b2, off2 + i * 3, none⟩)) rfl (fun wx hx => by exact idxA b2 off2 n c2 i HIN.out _ _ _ _ rfl rfl rfl _) hS ?_
    simp only [Act.put, sq]; refine tkc 8 (.pointer (some ⟨b2, off2 + i * 3, none⟩)) rfl hS ?_; simp only [Act.put, sq]; refine tka 9 (.string ks2) rfl (fun wx hx => by (have hc := below_cell hx HB0.out; simp [go_sem, hc])) hS ?_
    simp only [Act.put, sq]; refine tka 10 (.bool true) rfl (fun wx hx => by exact run_strOp .neq ks ks2 _ HKN.out (Or.inr (Or.inr (Or.inr rfl))) _ _ _ _ rfl rfl rfl _) hS ?_
    simp only [Act.put, sq]; refine tkc 11 (.bool true) rfl hS ?_; simp only [Act.put, sq]; refine tkb 12 rfl hS ?_; simp only [Act.put, sq]; refine tkb 13 rfl hS ?_; simp only [Act.put, sq]; refine tkb 14 rfl hS ?_; simp only [Act.put, sq]; refine tkb 15 rfl hS ?_; simp only [Act.put, sq]; refine tkb 16 rfl hS ?_; simp only [Act.put, sq]; refine tkb 17 rfl hS ?_; simp only [Act.put, sq]; refine tkb 18 rfl hS ?_; simp only [Act.put, sq]; refine tkb 19 rfl hS ?_; simp only [Act.put, sq]; refine tkb 20 rfl hS ?_; simp only [Act.put, sq]; refine tkb 21 rfl hS ?_; simp only [Act.put, sq]; refine tkb 22 rfl hS ?_; simp only [Act.put, sq]; refine tkc 23 (.bool true) rfl hS ?_; simp only [Act.put, sq]; refine tkc 24 (.bool true) rfl hS ?_; simp only [Act.put, sq]; refine tkb 25 rfl hS ?_; simp only [Act.put, sq]; refine tkb 26 rfl hS ?_; simp only [Act.put, sq]; refine tkb 27 rfl hS ?_; simp only [Act.put, sq]; refine tkb 28 rfl hS ?_; simp only [Act.put, sq]; refine tkb 29 rfl hS ?_; simp only [Act.put, sq]; refine tkb 30 rfl hS ?_; simp only [Act.put, sq]; refine tkb 31 rfl hS ?_; simp only [Act.put, sq]; refine tkb 32 rfl hS ?_; simp only [Act.put, sq]; refine tkb 33 rfl hS ?_; simp only [Act.put, sq]; refine tkb 34 rfl hS ?_; simp only [Act.put, sq]; refine tkb 35 rfl hS ?_; simp only [Act.put, sq]; refine tkb 36 rfl hS ?_; simp only [Act.put, sq]; refine tkc 37 (.bool true) rfl hS ?_; simp only [Act.put, sq]; refine wpAnyH_done (by kernel_rfl) ?_ _
    clear hS; go_wp2; go_ret; exact ⟨rfl, HBB.out⟩
   have HKN : Hid ((!(ks.toList == ks2.toList)) = false) := by show _ = _; rw [HKQ.out, decide_eq_true hk]; rfl
   have HXK : Hid (x.key = y.key) := hk; clear hk
   by_cases hs : st = st2
   case neg =>
    obtain rfl : X = false := by rw [HXX.out]; exact HNO.out (fun h => hs (by rw [HST.out, HST2.out, h]))
    have HSN : Hid ((st != st2) = true) := by show _ = _; cases st <;> cases st2 <;> first | rfl | exact absurd rfl hs
    clear hs
    go_wp2_with fail
    refine wp_region_held_drew (S := Over (World.drew wr)) (by kernel_rfl) (Over.refl _) ?_
    intro hS; replace HA0 : Hid ((World.drew wr).cell? ⟨b, off + i * 3, none⟩ = some (.string ks)) := HA0.out; replace HA1 : Hid ((World.drew wr).cell? ⟨b, off + i * 3 + 1, none⟩ = some (.bool st)) := HA1.out; replace HA2 : Hid ((World.drew wr).cell? ⟨b, off + i * 3 + 2, none⟩ = some vd) := HA2.out; replace HB0 : Hid ((World.drew wr).cell? ⟨b2, off2 + i * 3, none⟩ = some (.string ks2)) := HB0.out; replace HB1 : Hid ((World.drew wr).cell? ⟨b2, off2 + i * 3 + 1, none⟩ = some (.bool st2)) := HB1.out; replace HB2 : Hid ((World.drew wr).cell? ⟨b2, off2 + i * 3 + 2, none⟩ = some vd2) := HB2.out; replace HRD : Hid (Reads (World.drew wr) vd x.data) := HRD.out; replace HRD2 : Hid (Reads (World.drew wr) vd2 y.data) := HRD2.out; replace HBB : Hid (Below w.heap.size w (World.drew wr)) := HBB.out.drew
    change wpAnyH _ _ _ _ _ _ _ _ (World.drew wr)
    generalize World.drew wr = y1 at *
    refine tkc 0 (.slice (some ⟨b, off, none⟩) n c) rfl hS ?_; simp only [Act.put, sq]; refine tkc 1 (.int .i64 (i : Int)) rfl hS ?_; simp only [Act.put, sq]; refine tka 2 (.pointer (some ⟨b, off + i * 3, none⟩)) rfl (fun wx hx => by exact idxA b off n c i HIN.out _ _ _ _ rfl rfl rfl _) hS ?_
    simp only [Act.put, sq]; refine tkc 3 (.pointer (some ⟨b, off + i * 3, none⟩)) rfl hS ?_; simp only [Act.put, sq]; refine tka 4 (.string ks) rfl (fun wx hx => by (have hc := below_cell hx HA0.out; simp [go_sem, hc])) hS ?_
    simp only [Act.put, sq]; refine tkc 5 (.slice (some ⟨b2, off2, none⟩) n c2) rfl hS ?_; simp only [Act.put, sq]; refine tkc 6 (.int .i64 (i : Int)) rfl hS ?_; simp only [Act.put, sq]; refine tka 7 (.pointer (some ⟨b2, off2 + i * 3, none⟩)) rfl (fun wx hx => by exact idxA b2 off2 n c2 i HIN.out _ _ _ _ rfl rfl rfl _) hS ?_
    simp only [Act.put, sq]; refine tkc 8 (.pointer (some ⟨b2, off2 + i * 3, none⟩)) rfl hS ?_; simp only [Act.put, sq]; refine tka 9 (.string ks2) rfl (fun wx hx => by (have hc := below_cell hx HB0.out; simp [go_sem, hc])) hS ?_
    simp only [Act.put, sq]; refine tka 10 (.bool false) rfl (fun wx hx => by exact run_strOp .neq ks ks2 _ HKN.out (Or.inr (Or.inr (Or.inr rfl))) _ _ _ _ rfl rfl rfl _) hS ?_
    simp only [Act.put, sq]; refine tkc 11 (.bool false) rfl hS ?_; simp only [Act.put, sq]; refine tkc 12 (.slice (some ⟨b, off, none⟩) n c) rfl hS ?_; simp only [Act.put, sq]; refine tkc 13 (.int .i64 (i : Int)) rfl hS ?_; simp only [Act.put, sq]; refine tka 14 (.pointer (some ⟨b, off + i * 3, none⟩)) rfl (fun wx hx => by exact idxA b off n c i HIN.out _ _ _ _ rfl rfl rfl _) hS ?_
    simp only [Act.put, sq]; refine tkc 15 (.pointer (some ⟨b, off + i * 3 + 1, none⟩)) rfl hS ?_; simp only [Act.put, sq]; refine tka 16 (.bool st) rfl (fun wx hx => by (have hc := below_cell hx HA1.out; simp [go_sem, hc])) hS ?_
    simp only [Act.put, sq]; refine tkc 17 (.slice (some ⟨b2, off2, none⟩) n c2) rfl hS ?_; simp only [Act.put, sq]; refine tkc 18 (.int .i64 (i : Int)) rfl hS ?_; simp only [Act.put, sq]; refine tka 19 (.pointer (some ⟨b2, off2 + i * 3, none⟩)) rfl (fun wx hx => by exact idxA b2 off2 n c2 i HIN.out _ _ _ _ rfl rfl rfl _) hS ?_
    simp only [Act.put, sq]; refine tkc 20 (.pointer (some ⟨b2, off2 + i * 3 + 1, none⟩)) rfl hS ?_; simp only [Act.put, sq]; refine tka 21 (.bool st2) rfl (fun wx hx => by (have hc := below_cell hx HB1.out; simp [go_sem, hc])) hS ?_
    simp only [Act.put, sq]; refine tka 22 (.bool true) rfl (fun wx hx => by (have h := HSN.out; cases st <;> cases st2 <;> first | (exact absurd h (by decide)) | simp [go_sem])) hS ?_
    simp only [Act.put, sq]; refine tkc 23 (.bool true) rfl hS ?_; simp only [Act.put, sq]; refine tkc 24 (.bool true) rfl hS ?_; simp only [Act.put, sq]; refine tkb 25 rfl hS ?_; simp only [Act.put, sq]; refine tkb 26 rfl hS ?_; simp only [Act.put, sq]; refine tkb 27 rfl hS ?_; simp only [Act.put, sq]; refine tkb 28 rfl hS ?_; simp only [Act.put, sq]; refine tkb 29 rfl hS ?_; simp only [Act.put, sq]; refine tkb 30 rfl hS ?_; simp only [Act.put, sq]; refine tkb 31 rfl hS ?_; simp only [Act.put, sq]; refine tkb 32 rfl hS ?_; simp only [Act.put, sq]; refine tkb 33 rfl hS ?_; simp only [Act.put, sq]; refine tkb 34 rfl hS ?_; simp only [Act.put, sq]; refine tkb 35 rfl hS ?_; simp only [Act.put, sq]; refine tkb 36 rfl hS ?_; simp only [Act.put, sq]; refine tkc 37 (.bool true) rfl hS ?_; simp only [Act.put, sq]; refine wpAnyH_done (by kernel_rfl) ?_ _
    clear hS; go_wp2; go_ret; exact ⟨rfl, HBB.out⟩
   have HXS : Hid (x.set = y.set) := by show _ = _; rw [← HST.out, ← HST2.out]; exact hs
   subst hs
   by_cases hd : x.data = y.data
   case neg =>
    obtain rfl : X = false := by rw [HXX.out]; exact HNO.out (fun h => hd (by rw [h]))
    have HDD : Hid (decide (x.data = y.data) = false) := decide_eq_false hd; clear hd
    go_wp2_with fail
    refine wp_region_held_drew (S := Over (World.drew wr)) (by kernel_rfl) (Over.refl _) ?_
    intro hS; replace HA0 : Hid ((World.drew wr).cell? ⟨b, off + i * 3, none⟩ = some (.string ks)) := HA0.out; replace HA1 : Hid ((World.drew wr).cell? ⟨b, off + i * 3 + 1, none⟩ = some (.bool st)) := HA1.out; replace HA2 : Hid ((World.drew wr).cell? ⟨b, off + i * 3 + 2, none⟩ = some vd) := HA2.out; replace HB0 : Hid ((World.drew wr).cell? ⟨b2, off2 + i * 3, none⟩ = some (.string ks2)) := HB0.out; replace HB1 : Hid ((World.drew wr).cell? ⟨b2, off2 + i * 3 + 1, none⟩ = some (.bool st)) := HB1.out; replace HB2 : Hid ((World.drew wr).cell? ⟨b2, off2 + i * 3 + 2, none⟩ = some vd2) := HB2.out; replace HRD : Hid (Reads (World.drew wr) vd x.data) := HRD.out; replace HRD2 : Hid (Reads (World.drew wr) vd2 y.data) := HRD2.out; replace HBB : Hid (Below w.heap.size w (World.drew wr)) := HBB.out.drew
    change wpAnyH _ _ _ _ _ _ _ _ (World.drew wr)
    generalize World.drew wr = y1 at *
    refine tkc 0 (.slice (some ⟨b, off, none⟩) n c) rfl hS ?_; simp only [Act.put, sq]; refine tkc 1 (.int .i64 (i : Int)) rfl hS ?_; simp only [Act.put, sq]; refine tka 2 (.pointer (some ⟨b, off + i * 3, none⟩)) rfl (fun wx hx => by exact idxA b off n c i HIN.out _ _ _ _ rfl rfl rfl _) hS ?_
    simp only [Act.put, sq]; refine tkc 3 (.pointer (some ⟨b, off + i * 3, none⟩)) rfl hS ?_; simp only [Act.put, sq]; refine tka 4 (.string ks) rfl (fun wx hx => by (have hc := below_cell hx HA0.out; simp [go_sem, hc])) hS ?_
    simp only [Act.put, sq]; refine tkc 5 (.slice (some ⟨b2, off2, none⟩) n c2) rfl hS ?_; simp only [Act.put, sq]; refine tkc 6 (.int .i64 (i : Int)) rfl hS ?_; simp only [Act.put, sq]; refine tka 7 (.pointer (some ⟨b2, off2 + i * 3, none⟩)) rfl (fun wx hx => by exact idxA b2 off2 n c2 i HIN.out _ _ _ _ rfl rfl rfl _) hS ?_
    simp only [Act.put, sq]; refine tkc 8 (.pointer (some ⟨b2, off2 + i * 3, none⟩)) rfl hS ?_; simp only [Act.put, sq]; refine tka 9 (.string ks2) rfl (fun wx hx => by (have hc := below_cell hx HB0.out; simp [go_sem, hc])) hS ?_
    simp only [Act.put, sq]; refine tka 10 (.bool false) rfl (fun wx hx => by exact run_strOp .neq ks ks2 _ HKN.out (Or.inr (Or.inr (Or.inr rfl))) _ _ _ _ rfl rfl rfl _) hS ?_
    simp only [Act.put, sq]; refine tkc 11 (.bool false) rfl hS ?_; simp only [Act.put, sq]; refine tkc 12 (.slice (some ⟨b, off, none⟩) n c) rfl hS ?_; simp only [Act.put, sq]; refine tkc 13 (.int .i64 (i : Int)) rfl hS ?_; simp only [Act.put, sq]; refine tka 14 (.pointer (some ⟨b, off + i * 3, none⟩)) rfl (fun wx hx => by exact idxA b off n c i HIN.out _ _ _ _ rfl rfl rfl _) hS ?_
    simp only [Act.put, sq]; refine tkc 15 (.pointer (some ⟨b, off + i * 3 + 1, none⟩)) rfl hS ?_; simp only [Act.put, sq]; refine tka 16 (.bool st) rfl (fun wx hx => by (have hc := below_cell hx HA1.out; simp [go_sem, hc])) hS ?_
    simp only [Act.put, sq]; refine tkc 17 (.slice (some ⟨b2, off2, none⟩) n c2) rfl hS ?_; simp only [Act.put, sq]; refine tkc 18 (.int .i64 (i : Int)) rfl hS ?_; simp only [Act.put, sq]; refine tka 19 (.pointer (some ⟨b2, off2 + i * 3, none⟩)) rfl (fun wx hx => by exact idxA b2 off2 n c2 i HIN.out _ _ _ _ rfl rfl rfl _) hS ?_
    simp only [Act.put, sq]; refine tkc 20 (.pointer (some ⟨b2, off2 + i * 3 + 1, none⟩)) rfl hS ?_; simp only [Act.put, sq]; refine tka 21 (.bool st) rfl (fun wx hx => by (have hc := below_cell hx HB1.out; simp [go_sem, hc])) hS ?_
    simp only [Act.put, sq]; refine tka 22 (.bool false) rfl (fun wx hx => by (cases st <;> simp [go_sem])) hS ?_
    simp only [Act.put, sq]; refine tkc 23 (.bool false) rfl hS ?_; simp only [Act.put, sq]; refine tkc 24 (.bool false) rfl hS ?_; simp only [Act.put, sq]; refine tkc 25 (.slice (some ⟨b, off, none⟩) n c) rfl hS ?_; simp only [Act.put, sq]; refine tkc 26 (.int .i64 (i : Int)) rfl hS ?_; simp only [Act.put, sq]; refine tka 27 (.pointer (some ⟨b, off + i * 3, none⟩)) rfl (fun wx hx => by exact idxA b off n c i HIN.out _ _ _ _ rfl rfl rfl _) hS ?_
    simp only [Act.put, sq]; refine tkc 28 (.pointer (some ⟨b, off + i * 3 + 2, none⟩)) rfl hS ?_; simp only [Act.put, sq]; refine tka 29 (vd) rfl (fun wx hx => by (have hc := below_cell hx HA2.out; simp [go_sem, hc])) hS ?_
    simp only [Act.put, sq]; refine tkc 30 (.slice (some ⟨b2, off2, none⟩) n c2) rfl hS ?_; simp only [Act.put, sq]; refine tkc 31 (.int .i64 (i : Int)) rfl hS ?_; simp only [Act.put, sq]; refine tka 32 (.pointer (some ⟨b2, off2 + i * 3, none⟩)) rfl (fun wx hx => by exact idxA b2 off2 n c2 i HIN.out _ _ _ _ rfl rfl rfl _) hS ?_
    simp only [Act.put, sq]; refine tkc 33 (.pointer (some ⟨b2, off2 + i * 3 + 2, none⟩)) rfl hS ?_; simp only [Act.put, sq]; refine tka 34 (vd2) rfl (fun wx hx => by (have hc := below_cell hx HB2.out; simp [go_sem, hc])) hS ?_
    simp only [Act.put, sq]; refine wpAnyH_enter 35 (by kernel_rfl) rfl (by rfl) (f := 16) (args := #[vd, vd2]) (by simp [go_sem]) (same_any _ _ x.data y.data _ HRD.out HRD2.out) ?_
    rintro e1 y3 ⟨rfl, rfl⟩; refine ⟨_, rfl, hS, ?_⟩; rw [HDD.out]; simp only [Act.put, sq]; refine tkc 36 (.bool true) rfl hS ?_; simp only [Act.put, sq]; refine tkc 37 (.bool true) rfl hS ?_; simp only [Act.put, sq]; refine wpAnyH_done (by kernel_rfl) ?_ _
    clear hS; go_wp2; go_ret; exact ⟨rfl, HBB.out⟩
   have HSM : Hid (la.take (i + 1) = lb.take (i + 1)) := HSTEP.out ((act_ext x y).1 ⟨HXK.out, HXS.out, hd⟩); have HDD : Hid (decide (x.data = y.data) = true) := decide_eq_true hd; clear hd
   go_wp2_with fail
   refine wp_region_held_drew (S := Over (World.drew wr)) (by kernel_rfl) (Over.refl _) ?_
   intro hS; replace HA0 : Hid ((World.drew wr).cell? ⟨b, off + i * 3, none⟩ = some (.string ks)) := HA0.out; replace HA1 : Hid ((World.drew wr).cell? ⟨b, off + i * 3 + 1, none⟩ = some (.bool st)) := HA1.out; replace HA2 : Hid ((World.drew wr).cell? ⟨b, off + i * 3 + 2, none⟩ = some vd) := HA2.out; replace HB0 : Hid ((World.drew wr).cell? ⟨b2, off2 + i * 3, none⟩ = some (.string ks2)) := HB0.out; replace HB1 : Hid ((World.drew wr).cell? ⟨b2, off2 + i * 3 + 1, none⟩ = some (.bool st)) := HB1.out; replace HB2 : Hid ((World.drew wr).cell? ⟨b2, off2 + i * 3 + 2, none⟩ = some vd2) := HB2.out; replace HRD : Hid (Reads (World.drew wr) vd x.data) := HRD.out; replace HRD2 : Hid (Reads (World.drew wr) vd2 y.data) := HRD2.out; replace HBB : Hid (Below w.heap.size w (World.drew wr)) := HBB.out.drew
   change wpAnyH _ _ _ _ _ _ _ _ (World.drew wr)
   generalize World.drew wr = y1 at *
   refine tkc 0 (.slice (some ⟨b, off, none⟩) n c) rfl hS ?_; simp only [Act.put, sq]; refine tkc 1 (.int .i64 (i : Int)) rfl hS ?_; simp only [Act.put, sq]; refine tka 2 (.pointer (some ⟨b, off + i * 3, none⟩)) rfl (fun wx hx => by exact idxA b off n c i HIN.out _ _ _ _ rfl rfl rfl _) hS ?_
   simp only [Act.put, sq]; refine tkc 3 (.pointer (some ⟨b, off + i * 3, none⟩)) rfl hS ?_; simp only [Act.put, sq]; refine tka 4 (.string ks) rfl (fun wx hx => by (have hc := below_cell hx HA0.out; simp [go_sem, hc])) hS ?_
   simp only [Act.put, sq]; refine tkc 5 (.slice (some ⟨b2, off2, none⟩) n c2) rfl hS ?_; simp only [Act.put, sq]; refine tkc 6 (.int .i64 (i : Int)) rfl hS ?_; simp only [Act.put, sq]; refine tka 7 (.pointer (some ⟨b2, off2 + i * 3, none⟩)) rfl (fun wx hx => by exact idxA b2 off2 n c2 i HIN.out _ _ _ _ rfl rfl rfl _) hS ?_
   simp only [Act.put, sq]; refine tkc 8 (.pointer (some ⟨b2, off2 + i * 3, none⟩)) rfl hS ?_; simp only [Act.put, sq]; refine tka 9 (.string ks2) rfl (fun wx hx => by (have hc := below_cell hx HB0.out; simp [go_sem, hc])) hS ?_
   simp only [Act.put, sq]; refine tka 10 (.bool false) rfl (fun wx hx => by exact run_strOp .neq ks ks2 _ HKN.out (Or.inr (Or.inr (Or.inr rfl))) _ _ _ _ rfl rfl rfl _) hS ?_
   simp only [Act.put, sq]; refine tkc 11 (.bool false) rfl hS ?_; simp only [Act.put, sq]; refine tkc 12 (.slice (some ⟨b, off, none⟩) n c) rfl hS ?_; simp only [Act.put, sq]; refine tkc 13 (.int .i64 (i : Int)) rfl hS ?_; simp only [Act.put, sq]; refine tka 14 (.pointer (some ⟨b, off + i * 3, none⟩)) rfl (fun wx hx => by exact idxA b off n c i HIN.out _ _ _ _ rfl rfl rfl _) hS ?_
   simp only [Act.put, sq]; refine tkc 15 (.pointer (some ⟨b, off + i * 3 + 1, none⟩)) rfl hS ?_; simp only [Act.put, sq]; refine tka 16 (.bool st) rfl (fun wx hx => by (have hc := below_cell hx HA1.out; simp [go_sem, hc])) hS ?_
   simp only [Act.put, sq]; refine tkc 17 (.slice (some ⟨b2, off2, none⟩) n c2) rfl hS ?_; simp only [Act.put, sq]; refine tkc 18 (.int .i64 (i : Int)) rfl hS ?_; simp only [Act.put, sq]; refine tka 19 (.pointer (some ⟨b2, off2 + i * 3, none⟩)) rfl (fun wx hx => by exact idxA b2 off2 n c2 i HIN.out _ _ _ _ rfl rfl rfl _) hS ?_
   simp only [Act.put, sq]; refine tkc 20 (.pointer (some ⟨b2, off2 + i * 3 + 1, none⟩)) rfl hS ?_; simp only [Act.put, sq]; refine tka 21 (.bool st) rfl (fun wx hx => by (have hc := below_cell hx HB1.out; simp [go_sem, hc])) hS ?_
   simp only [Act.put, sq]; refine tka 22 (.bool false) rfl (fun wx hx => by (cases st <;> simp [go_sem])) hS ?_
   simp only [Act.put, sq]; refine tkc 23 (.bool false) rfl hS ?_; simp only [Act.put, sq]; refine tkc 24 (.bool false) rfl hS ?_; simp only [Act.put, sq]; refine tkc 25 (.slice (some ⟨b, off, none⟩) n c) rfl hS ?_; simp only [Act.put, sq]; refine tkc 26 (.int .i64 (i : Int)) rfl hS ?_; simp only [Act.put, sq]; refine tka 27 (.pointer (some ⟨b, off + i * 3, none⟩)) rfl (fun wx hx => by exact idxA b off n c i HIN.out _ _ _ _ rfl rfl rfl _) hS ?_
   simp only [Act.put, sq]; refine tkc 28 (.pointer (some ⟨b, off + i * 3 + 2, none⟩)) rfl hS ?_; simp only [Act.put, sq]; refine tka 29 (vd) rfl (fun wx hx => by (have hc := below_cell hx HA2.out; simp [go_sem, hc])) hS ?_
   simp only [Act.put, sq]; refine tkc 30 (.slice (some ⟨b2, off2, none⟩) n c2) rfl hS ?_; simp only [Act.put, sq]; refine tkc 31 (.int .i64 (i : Int)) rfl hS ?_; simp only [Act.put, sq]; refine tka 32 (.pointer (some ⟨b2, off2 + i * 3, none⟩)) rfl (fun wx hx => by exact idxA b2 off2 n c2 i HIN.out _ _ _ _ rfl rfl rfl _) hS ?_
   simp only [Act.put, sq]; refine tkc 33 (.pointer (some ⟨b2, off2 + i * 3 + 2, none⟩)) rfl hS ?_; simp only [Act.put, sq]; refine tka 34 (vd2) rfl (fun wx hx => by (have hc := below_cell hx HB2.out; simp [go_sem, hc])) hS ?_
   simp only [Act.put, sq]; refine wpAnyH_enter 35 (by kernel_rfl) rfl (by rfl) (f := 16) (args := #[vd, vd2]) (by simp [go_sem]) (same_any _ _ x.data y.data _ HRD.out HRD2.out) ?_
   rintro e1 y3 ⟨rfl, rfl⟩; refine ⟨_, rfl, hS, ?_⟩; rw [HDD.out]; simp only [Act.put, sq]; refine tkc 36 (.bool false) rfl hS ?_; simp only [Act.put, sq]; refine tkc 37 (.bool false) rfl hS ?_; simp only [Act.put, sq]; refine wpAnyH_done (by kernel_rfl) ?_ _
   clear hS; go_wp2; go_roundw
   case rel => exact ⟨i + 1, by omega, by simp, HSM, HBB⟩
   case measure => simp [intOf]; omega
theorem wpSeq_buildA1 {ops : Array Oper} {Q : Exit → Act → World → Prop} {rest : List Oper} {o : Oper} {a : Act} {w : World} (x : Operand) (s : ByteArray) (b : Bool) (ad : Option Addr) (n c : Nat) (ho : o.op = .buildSlice 22 1 #[(0, x)]) (hx : a.eval x = .agg [.string s, .bool b, .slice ad n c].toArray) (hw : Region.wanted o (yielded ops a.tmps) = true)
 (h : ∀ g w', NewR [.string s, .bool b, .slice ad n c] 62 w g w' → wpList Tryz.prog ops Q rest (a.put o.dst (.slice (some ⟨g, 0, none⟩) 1 1)) w') : wpList Tryz.prog ops Q (o :: rest) a w :=
 wpSeq_val _ _ hw (build_a1 _ _ x s b ad n c hx ho _) (h _ _ (NewR.of _ _ w))
def ReadsAA (w : World) (v : Value) (ls : List (List ActT)) : Prop :=
 ∃ ad cap, v = .slice ad ls.length cap ∧ ls.length ≤ cap ∧ (0 < ls.length → ∃ b off, ad = some ⟨b, off, none⟩ ∧ ∀ j, j < ls.length → ∃ va, w.cell? ⟨b, off + j, none⟩ = some va ∧ ReadsA w va (ls.getD j []))
theorem ReadsAA.below {w w' : World} {v : Value} {ls : List (List ActT)} (h : ReadsAA w v ls) (hb : Below w.heap.size w w') : ReadsAA w' v ls := by
 obtain ⟨ad, cap, h1, h2, h4⟩ := h
 refine ⟨ad, cap, h1, h2, fun hp => ?_⟩
 obtain ⟨b, off, h5, h6⟩ := h4 hp
 refine ⟨b, off, h5, fun j hj => ?_⟩
 obtain ⟨va, h7, h8⟩ := h6 j hj
 exact ⟨va, by rw [hb.cell (p := ⟨b, off + j, none⟩) (block_lt_of_cell h7)]; exact h7, h8.below hb⟩
theorem ReadsAA.at {w : World} {ad : Option Addr} {n c : Nat} {ls : List (List ActT)} (h : ReadsAA w (.slice ad n c) ls) {j : Nat} (hj : j < ls.length) : ∃ b off va, ad = some ⟨b, off, none⟩ ∧ w.cell? ⟨b, off + j, none⟩ = some va ∧ ReadsA w va (ls.getD j []) := by
 obtain ⟨ad', cap, h1, h2, h4⟩ := h
 simp only [Value.slice.injEq] at h1
 obtain ⟨rfl, _, _⟩ := h1
 obtain ⟨b, off, h5, h6⟩ := h4 (Nat.lt_of_le_of_lt (Nat.zero_le _) hj)
 obtain ⟨va, h7, h8⟩ := h6 j hj
 exact ⟨b, off, va, h5, h7, h8⟩
def FewP (ls : List (List ActT)) (ok : Bool) : Prop := ok = true → ls.length ≤ 20 ∧ ∀ l ∈ ls, l.length ≤ 60 ∧ sumA l ≤ 20000
def FewQ (ls : List (List ActT)) (e : Ending) : Prop := ∃ ok, e = .returned (.bool ok) ∧ FewP ls ok
theorem few_step {ls : List (List ActT)} {i : Nat} (h : i < ls.length) (hf : ∀ l ∈ ls.take i, l.length ≤ 60 ∧ sumA l ≤ 20000) (hl : (ls.getD i []).length ≤ 60 ∧ sumA (ls.getD i []) ≤ 20000) : ∀ l ∈ ls.take (i + 1), l.length ≤ 60 ∧ sumA l ≤ 20000 := by
 intro l hm
 rw [List.take_add_one, List.getElem?_eq_getElem h] at hm
 rw [List.getD_eq_getElem?_getD, List.getElem?_eq_getElem h] at hl
 rcases List.mem_append.1 hm with hm | hm
 · exact hf l hm
 · have he : l = ls[i] := by simpa using hm
   rw [he]; exact hl
theorem few15_any (v : Value) (ls : List (List ActT)) (w : World) (hr : ReadsAA w v ls) (hs : ∀ l ∈ ls, ∀ a ∈ l, szA a) : Calls Tryz.prog 20 #[v] w fun e w' => FewQ ls e ∧ Below w.heap.size w w' := by
 have HR : Hid (ReadsAA w v ls) := hr
 have HS : Hid (∀ l ∈ ls, ∀ a ∈ l, szA a) := hs
 obtain ⟨ad, c, hv, _⟩ := hr
 obtain ⟨n, HN⟩ := sqn (ls.length)
 rw [← HN.out] at hv
 subst hv
 clear hs
 by_cases hl : 20 < n
 · have q1 : (20 : Int) < (n : Int) := by omega
   go_enter Tryz.func20, Tryz.ntmps20
   go_wp2; go_ret; exact ⟨⟨false, rfl, fun h => by cases h⟩, Below.refl _ _⟩
 have q1 : ¬ ((20 : Int) < (n : Int)) := by omega
 have HNB : Hid (n ≤ 20) := by show _ ≤ _; omega
 clear hl
 go_enter Tryz.func20, Tryz.ntmps20
 go_wp2
 clear q1
 go_loopw [3] (fun iv W => ∃ i : Nat, i ≤ n ∧ iv = .int .i64 (i : Int) ∧ Hid (∀ l ∈ ls.take i, l.length ≤ 60 ∧ sumA l ≤ 20000) ∧ Hid (Below w.heap.size w W)) (fun iv _ => n - (intOf iv).toNat)
 case atStart => exact ⟨0, Nat.zero_le _, rfl, fun l hl => by simp at hl, Below.refl _ _⟩
 case round =>
  obtain ⟨i, hi, rfl, HF, HBB⟩ := hrel
  by_cases hin : i < n
  case neg =>
   have hlk : ¬ ((i : Int) < (n : Int)) := by omega
   have HE : Hid (∀ l ∈ ls, l.length ≤ 60 ∧ sumA l ≤ 20000) := by
    have h := HF.out; rw [List.take_of_length_le (by rw [← HN.out]; omega)] at h
    exact h
   go_wp2; go_ret; exact ⟨⟨true, rfl, fun _ => ⟨by rw [← HN.out]; exact HNB.out, HE.out⟩⟩, HBB.out⟩
  case pos =>
   have hlk : (i : Int) < (n : Int) := by omega
   have k0 : (0 : Int) ≤ (i : Int) := by omega
   have f1 : IntKind.i64.wrap ((i : Int) + 1) = (i : Int) + 1 := by rw [IntKind.wrap_i64]; have := HNB.out; omega
   have hil : i < ls.length := by rw [← HN.out]; exact hin
   obtain ⟨b, off, va, rfl, hc, hra⟩ := (HR.out.below HBB.out).at hil; have hsz := HS.out (ls.getD i []) (by rw [List.getD_eq_getElem?_getD, List.getElem?_eq_getElem hil]; exact List.getElem_mem hil)
   have HLC : Hid (Calls Tryz.prog 9 #[va] wr fun e w' => LightR (ls.getD i []) e ∧ Below wr.heap.size wr w') := light15_any va _ wr hra hsz
   have HSTEP : Hid ((ls.getD i []).length ≤ 60 ∧ sumA (ls.getD i []) ≤ 20000 → ∀ l ∈ ls.take (i + 1), l.length ≤ 60 ∧ sumA l ≤ 20000) := few_step hil HF.out; clear hsz hra; have tk0 : Hid True := trivial
   go_wp2_with (first
    | (clear tk0; go_at_call 9; refine (HLC.out).mono ?_; rintro e0 y1 ⟨⟨ok, rfl, hj⟩, hb⟩
       have HB1 : Hid (Below w.heap.size w y1) := HBB.out.trans (hb.mono HBB.out.size); have HJ : Hid (LightJ (ls.getD i []) ok) := hj; clear hj hb
       cases ok))
   · go_ret
     exact ⟨⟨false, rfl, fun h => by cases h⟩, HB1.out⟩
   · go_roundw
     case rel => exact ⟨i + 1, by omega, by simp, HSTEP.out (HJ.out rfl), HB1⟩
     case measure => simp [intOf]; omega
end Go.Proofs.YtopmeedmgjdcgaaGreatDoor

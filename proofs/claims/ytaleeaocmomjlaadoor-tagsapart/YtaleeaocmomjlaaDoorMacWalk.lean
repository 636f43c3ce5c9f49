/- The walk of mac.Mac: the keyed digest of the parts, one behind the other. -/
import Derived.Test.YtaleeaocmomjlaaDoorClo
import Derived.Test.YtaleeaocmomjlaaDoorLists
namespace Go.Proofs.YtaleeaocmomjlaaDoor
open Go.RowKit
structure McInv (w : World) (gb gi : Nat) (kb m : List (BitVec 8)) (wr : World) : Prop where
  res : Blk wr w.heap.size (cb zb32) 23
  blk : Blk wr gb (cb kb) 77
  hash : HashIs 79 wr gi m
  bel : Below w.heap.size w wr
theorem McInv.write {w wr w' : World} {gb gi : Nat} {kb m m' : List (BitVec 8)} (h : McInv w gb gi kb m wr) (hlt : w.heap.size < gb) (hlt2 : gb < gi) (hh : HashIs 79 w' gi m') (ho : Only gi wr w') : McInv w gb gi kb m' w' :=
  ⟨h.res.only ho (by omega), h.blk.only ho (by omega), hh, h.bel.trans (ho.below (by omega) h.bel.size)⟩
theorem ReadsL.bytes_at {w wr : World} {ad : Option Addr} {n cap k g : Nat} {ls : List (List (BitVec 8))} (h : ReadsL w (.slice ad n cap) ls) (hn : n = ls.length) (hk : k < n) (hb : Below w.heap.size w wr) (hg : w.heap.size ≤ g) :
    ∃ b off vj, ad = some ⟨b, off, none⟩ ∧ wr.cell? ⟨b, off + k, none⟩ = some vj ∧ Bytes wr g vj (ls.getD k []) := by
  obtain ⟨ad', cap', hv, _, _, hx⟩ := h
  simp only [Value.slice.injEq] at hv
  obtain ⟨rfl, _, rfl⟩ := hv
  obtain ⟨b, off, rfl, hc⟩ := hx (by omega)
  obtain ⟨vj, h1, h2⟩ := hc k (by omega)
  exact ⟨b, off, vj, rfl, by rw [hb.cell (p := ⟨b, off + k, none⟩) (block_lt_of_cell h1)]; exact h1, (h2.bytes hg).below hb⟩
set_option maxRecDepth 100000 in
set_option maxHeartbeats 1000000 in
theorem mac_any (vk vp : Value) (key : List (BitVec 8)) (ls : List (List (BitVec 8))) (w : World) (hK : KOk w) (hk : Reads w vk key) (hp : ReadsL w vp ls) (hkl : key.length < 2305843009213693952) (hl : ls.flatten.length < 1152921504606846976) (hn : ls.length < 4611686018427387904) :
    Calls Tryd.prog 39 #[vk, vp] w fun e w' => e = .returned (.agg (cb (hmac key ls.flatten)).toArray) ∧ Below w.heap.size w w' := by
  have HK : Hid (KOk w) := hK
  have HKR : Hid (Reads w vk key) := hk
  have HP : Hid (ReadsL w vp ls) := hp
  have HLK : Hid (key.length < 2305843009213693952) := hkl
  have HL : Hid (ls.flatten.length < 1152921504606846976) := hl
  obtain ⟨ad, cap, hv, hcap, _, _⟩ := hp
  obtain ⟨n, HNN⟩ : ∃ n, Hid (n = ls.length) := ⟨_, rfl⟩
  rw [← HNN.out] at hv hcap hn
  subst hv
  clear hK hk hkl hl
  go_enter Tryd.func39, Tryd.ntmps39
  go_wp2_with fail
  generalize h0 : Obj.cells _ 23 = o32
  have ho : o32 = Obj.cells (cb zb32).toArray 23 := h0.symm
  clear h0
  subst ho
  have hb0 := below_alloc w (Obj.cells (cb zb32).toArray 23)
  refine (bw_any vk key _ (HK.out.below hb0 HK.out.lt) (HKR.out.below hb0) HLK.out).mono ?_
  rintro e w1 ⟨gb, rfl, hgb, hB1, hb1⟩
  simp at hgb hb1
  have HS1 : Hid (Below w.heap.size w w1) := hb0.trans (hb1.mono (by omega))
  have HR1 : Hid (Blk w1 w.heap.size (cb zb32) 23) := (Blk.new w (cb zb32) 23).below hb1 (by omega)
  have HB1 : Hid (Blk w1 gb (cb (kblock key)) 77) := hB1
  have HKB : Hid ((kblock key).length = 64) := len_kblock key
  have HM : Hid (hmac key ls.flatten = dig (turnB 92 (kblock key) ++ dig (turnB 54 (kblock key) ++ ls.flatten))) := rfl
  clear hb0 hb1 hB1 HKR HLK
  generalize kblock key = kb at *
  go_wp2_with fail
  refine (new_any _).mono ?_
  rintro e w2 ⟨gi, rfl, hgi, hh2, hb2⟩
  have HG : Hid (w.heap.size < gb ∧ gb < gi ∧ 0 ≠ gi) := ⟨by omega, by have := HB1.out.lt; omega, by have := HK.out.lt; have := HS1.out.size; omega⟩
  have hI2 : McInv w gb gi kb [] w2 := ⟨HR1.out.below hb2 HR1.out.lt, HB1.out.below hb2 HB1.out.lt, hh2, HS1.out.trans (hb2.mono HS1.out.size)⟩
  clear hb2 hh2 hgi hgb HS1 HR1 HB1
  go_wp2_with fail
  refine (clo_any gb gi kb [] 54 w2 (HK.out.below hI2.bel HK.out.lt) HG.out.2.2 hI2.blk HKB.out hI2.hash (by simp)).mono ?_
  rintro e w3 ⟨rfl, hh3, ho3⟩
  have hI3 : McInv w gb gi kb (turnB 54 kb) w3 := by
    rw [List.nil_append] at hh3
    exact hI2.write HG.out.1 HG.out.2.1 hh3 ho3
  clear hh3 ho3 hI2
  go_wp2
  go_loopw [19] (fun i wr => ∃ k : Nat, k ≤ n ∧ i = .int .i64 k ∧ McInv w gb gi kb (turnB 54 kb ++ (ls.take k).flatten) wr) (fun i _ => n - (intOf i).toNat)
  case atStart => exact ⟨0, by omega, rfl, by simpa using hI3⟩
  case round =>
    clear hI3
    obtain ⟨k, hkn, rfl, hI⟩ := hrel
    by_cases hlt : k < n
    · obtain ⟨b, off, vj, rfl, cj, hj⟩ := HP.out.bytes_at (g := gi) HNN.out hlt hI.bel (by have := HG.out; omega)
      obtain ⟨bk, HBK⟩ : ∃ x, Hid (x = ls.getD k []) := ⟨_, rfl⟩
      rw [← HBK.out] at hj
      have HF : Hid ((ls.take (k + 1)).flatten = (ls.take k).flatten ++ bk) := by rw [HBK.out]; exact flat_take ls k (by rw [← HNN.out]; exact hlt)
      have HL1 : Hid ((ls.take k).flatten.length + bk.length < 1152921504606846976) := by
        have h1 := flat_le ls (k + 1)
        rw [HF.out, List.length_append] at h1
        exact Nat.lt_of_le_of_lt h1 HL.out
      have HJ : Hid (Bytes wr gi vj bk) := hj
      have HI : Hid (McInv w gb gi kb (turnB 54 kb ++ (ls.take k).flatten) wr) := hI
      clear hj hI
      go_wp2_with fail
      refine (write_any gi (turnB 54 kb ++ (ls.take k).flatten) bk vj wr HG.out.2.2 (HK.out.below HI.out.bel HK.out.lt) HI.out.hash HJ.out (by have := HL1.out; have := HKB.out; rw [List.length_append, len_turnB]; omega)).mono ?_
      rintro e w4 ⟨rfl, hh4, ho4⟩
      have hI4 : McInv w gb gi kb (turnB 54 kb ++ (ls.take (k + 1)).flatten) w4 := by
        rw [List.append_assoc, ← HF.out] at hh4
        exact HI.out.write HG.out.1 HG.out.2.1 hh4 ho4
      clear hh4 ho4 HI HJ cj
      go_wp2
      exact ⟨⟨k + 1, by omega, by go_num, hI4⟩, by simp [intOf]; omega⟩
    · have hkn' : k = n := by omega
      subst hkn'
      rw [HNN.out, List.take_of_length_le (Nat.le_refl _)] at hI
      obtain ⟨m, HMM⟩ : ∃ x, Hid (x = turnB 54 kb ++ ls.flatten) := ⟨_, rfl⟩
      have HLm : Hid (m.length < 1152921504606847976) := by show _ < _; rw [HMM.out, List.length_append, len_turnB, HKB.out]; have := HL.out; omega
      rw [← HMM.out] at hI HM
      have HI : Hid (McInv w gb gi kb m wr) := hI
      clear hI
      go_wp2_with fail
      refine (digest_any gi m _ (HK.out.below HI.out.bel HK.out.lt) HI.out.hash (by have := HLm.out; omega)).mono ?_
      rintro e w5 ⟨rfl, hb5⟩
      obtain ⟨dd, HD⟩ : ∃ x, Hid (x = dig m) := ⟨_, rfl⟩
      have HDL : Hid (dd.length = 32) := by show _ = _; rw [HD.out]; exact len_dig' _
      rw [← HD.out]
      rw [← HD.out] at HM
      have HR5 : Hid (Blk w5 w.heap.size (cb zb32) 23) := HI.out.res.below hb5 HI.out.res.lt
      have HB5 : Hid (Blk w5 gb (cb kb) 77) := HI.out.blk.below hb5 HI.out.blk.lt
      have HS5 : Hid (Below w.heap.size w w5) := HI.out.bel.trans (hb5.mono HI.out.bel.size)
      clear hb5 HI HD HMM HLm HG
      obtain ⟨ds, HDS⟩ : ∃ x, Hid (x = cb dd) := ⟨_, rfl⟩
      have HLd : Hid (ds.length = 32) := by show _ = _; rw [HDS.out, cb_len, HDL.out]
      have HZ : Hid ((Tryd.prog.info? 23).map (·.size) = some ds.length) := by show _ = _; rw [HLd.out]; exact Tryd.info23
      have H1 : Hid (∀ v ∈ ds, v.oneCell' = true) := by show ∀ _, _; rw [HDS.out]; exact cb_one _
      rw [← HDS.out]
      go_wp2_with (refine wpList_store_mid rfl 23 _ _ rfl _ 0 ds.toArray rfl rfl ?_ (by simpa using HZ.out) (all_oneCell_toArray H1.out) ?_; exact Blk.there (Blk.new_at rfl (cb zb32) _) _ _ (by rw [List.size_toArray, HLd.out, cb_len, len_zb32]; omega); refine Hid.out ?_)
      generalize h0 : Obj.cells _ 23 = o32
      have ho : o32 = Obj.cells (cb zb32).toArray 23 := h0.symm
      clear h0
      subst ho
      have b6 : Below w5.heap.size w5 ((w5.alloc (.cells (cb zb32).toArray 23)).setCells w5.heap.size 0 ds) := Below.setCells _ (Nat.le_refl _) _ _ _ (below_alloc _ _)
      have HD6 : Hid (Blk ((w5.alloc (.cells (cb zb32).toArray 23)).setCells w5.heap.size 0 ds) w5.heap.size (cb dd) 23) := by
        rw [← HDS.out]
        exact (Blk.new w5 (cb zb32) 23).whole ds (by rw [HLd.out, cb_len, len_zb32])
      generalize World.setCells _ _ _ _ = w6 at *
      have HR6 : Hid (Blk w6 w.heap.size (cb zb32) 23) := HR5.out.below b6 HR5.out.lt
      have HB6 : Hid (Blk w6 gb (cb kb) 77) := HB5.out.below b6 HB5.out.lt
      have HS6 : Hid (Below w.heap.size w w6) := HS5.out.trans (b6.mono HS5.out.size)
      have HG6 : Hid (w.heap.size < w5.heap.size ∧ gb < w5.heap.size) := ⟨HR5.out.lt, HB5.out.lt⟩
      generalize w5.heap.size = gd at *
      clear b6 HR5 HB5 HS5 HDS HLd HZ H1
      unfold Hid
      go_wp2_with fail
      refine (new_any _).mono ?_
      rintro e w7 ⟨go, rfl, hgo, hh7, hb7⟩
      have HG7 : Hid (w.heap.size < go ∧ gb < go ∧ gd < go ∧ 0 ≠ go) := by
        have h1 := HD6.out.lt
        have h2 := HG6.out
        have h3 := HK.out.lt
        exact ⟨by omega, by omega, by omega, by omega⟩
      have HR7 : Hid (Blk w7 w.heap.size (cb zb32) 23) := HR6.out.below hb7 HR6.out.lt
      have HB7 : Hid (Blk w7 gb (cb kb) 77) := HB6.out.below hb7 HB6.out.lt
      have HD7 : Hid (Blk w7 gd (cb dd) 23) := HD6.out.below hb7 HD6.out.lt
      have HS7 : Hid (Below w.heap.size w w7) := HS6.out.trans (hb7.mono HS6.out.size)
      have HH7 : Hid (HashIs 79 w7 go []) := hh7
      clear hgo hh7 hb7 HR6 HB6 HD6 HS6 HG6
      go_wp2_with fail
      refine (clo_any gb go kb [] 92 w7 (HK.out.below HS7.out HK.out.lt) HG7.out.2.2.2 HB7.out HKB.out HH7.out (by simp)).mono ?_
      rintro e w8 ⟨rfl, hh8, ho8⟩
      have HR8 : Hid (Blk w8 w.heap.size (cb zb32) 23) := HR7.out.only ho8 (by have := HG7.out; omega)
      have HD8 : Hid (Blk w8 gd (cb dd) 23) := HD7.out.only ho8 (by have := HG7.out; omega)
      have HS8 : Hid (Below w.heap.size w w8) := HS7.out.trans (ho8.below (by have := HG7.out; omega) HS7.out.size)
      have HH8 : Hid (HashIs 79 w8 go (turnB 92 kb)) := hh8
      clear hh8 ho8 HR7 HB7 HD7 HS7 HH7
      go_wp2_with fail
      refine (write_any go (turnB 92 kb) dd _ w8 HG7.out.2.2.2 (HK.out.below HS8.out HK.out.lt) HH8.out (HD8.out.bytes (by have := HG7.out; omega) HDL.out.symm (by have := HDL.out; omega)) (by have := HDL.out; have := HKB.out; rw [len_turnB]; omega)).mono ?_
      rintro e w9 ⟨rfl, hh9, ho9⟩
      have HR9 : Hid (Blk w9 w.heap.size (cb zb32) 23) := HR8.out.only ho9 (by have := HG7.out; omega)
      have HS9 : Hid (Below w.heap.size w w9) := HS8.out.trans (ho9.below (by have := HG7.out; omega) HS8.out.size)
      have HH9 : Hid (HashIs 79 w9 go (turnB 92 kb ++ dd)) := hh9
      clear hh9 ho9 HR8 HD8 HS8 HH8
      go_wp2_with fail
      refine (digest_any go (turnB 92 kb ++ dd) _ (HK.out.below HS9.out HK.out.lt) HH9.out (by have := HDL.out; have := HKB.out; rw [List.length_append, len_turnB]; omega)).mono ?_
      rintro e w10 ⟨rfl, hb10⟩
      rw [← HM.out]
      obtain ⟨es, HES⟩ : ∃ x, Hid (x = cb (hmac key ls.flatten)) := ⟨_, rfl⟩
      have HLe : Hid (es.length = 32) := by show _ = _; rw [HES.out, cb_len, len_hmac]
      have HZe : Hid ((Tryd.prog.info? 23).map (·.size) = some es.length) := by show _ = _; rw [HLe.out]; exact Tryd.info23
      have H1e : Hid (∀ v ∈ es, v.oneCell' = true) := by show ∀ _, _; rw [HES.out]; exact cb_one _
      have HR10 : Hid (Blk w10 w.heap.size (cb zb32) 23) := HR9.out.below hb10 HR9.out.lt
      rw [← HES.out]
      go_wp2_with (refine wpList_store_mid rfl 23 _ _ rfl w.heap.size 0 es.toArray rfl rfl (HR10.out.there 0 _ (by rw [List.size_toArray, HLe.out, cb_len, len_zb32]; omega)) (by simpa using HZe.out) (all_oneCell_toArray H1e.out) ?_)
      have hB := HR10.out.whole es (by rw [HLe.out, cb_len, len_zb32])
      refine bodyPost_ret (v := .agg es.toArray) (results_cell_row (by rfl) _ _ w.heap.size 23 _ (0, 0) _ rfl hB Tryd.underlying23 rfl (by simpa using HZe.out)) rfl ⟨by rw [HES.out], Below.setCells _ (Nat.le_refl _) _ _ _ (HS9.out.trans (hb10.mono HS9.out.size))⟩
end Go.Proofs.YtaleeaocmomjlaaDoor

import Derived.Test.YtphmmnffgknkcabGreatDoorMxb
import Derived.Test.YtphmmnffgknkcabGreatDoorMxe
import Derived.RangeFuncFrom
import Derived.Maps.RangeWalk
import Derived.Shelf.SlLaysF0
import Derived.Test.YtphmmnffgknkcabGreatDoorProg
import Derived.Shelf.SlSortCmp.NoneTotal
namespace Go.Proofs.YtphmmnffgknkcabGreatDoor
open Go.RowKit
set_option maxRecDepth 100000
theorem cells_of_cell {w : World} {b o : Nat} {v : Value} (h : w.cell? ⟨b, o, none⟩ = some v) : ∃ cs t fr, w.heap[b]? = some (.cells cs t fr) := by
  unfold World.cell? at h
  split at h
  · rename_i cs t fr e; exact ⟨cs, t, fr, e⟩
  all_goals first | cases h | skip
theorem Reads.mapped {w w' : World} {gm n : Nat} {F : By → Option Nat} {v : Value} {l : By} (h : Reads w v l) (ho : Only gm w w') (hm : MapP w gm n F) : Reads w' v l := by
  obtain ⟨ad, cap, rfl, h2, h3, h4⟩ := h
  refine ⟨ad, cap, rfl, h2, h3, fun hp => ?_⟩
  obtain ⟨b, off, rfl, h5⟩ := h4 hp
  refine ⟨b, off, rfl, fun j hj => ?_⟩
  obtain ⟨cs, t, fr, e⟩ := cells_of_cell (h5 j hj)
  rw [World.cell?_of_block (w := w) (ho.block b (fun e2 => hm.ne e e2.symm) (block_lt_of_cell (h5 j hj)))]
  exact h5 j hj
theorem Row17.mapped {w w' : World} {gm n g nn c : Nat} {F : By → Option Nat} {ps : List By} (h : Row17 w g nn c ps) (ho : Only gm w w') (hm : MapP w gm n F) : Row17 w' g nn c ps := by
  have key : ∀ {b o : Nat} {u : Value}, w.cell? ⟨b, o, none⟩ = some u → w'.cell? ⟨b, o, none⟩ = some u := fun {b o u} hc => by
    obtain ⟨cs, t, fr, e⟩ := cells_of_cell hc
    rw [World.cell?_of_block (w := w) (ho.block b (fun e2 => hm.ne e e2.symm) (block_lt_of_cell hc))]
    exact hc
  refine ⟨h.len, fun j hj => ?_, ?_⟩
  · obtain ⟨u, h1, h2⟩ := h.at_ j hj
    exact ⟨u, key h1, h2.mapped ho hm⟩
  · obtain ⟨ad, cap, h1, h2, h3, h4⟩ := h.rd
    refine ⟨ad, cap, h1, h2, h3, fun hp => ?_⟩
    obtain ⟨b, off, h5, h6⟩ := h4 hp
    refine ⟨b, off, h5, fun j hj => ?_⟩
    obtain ⟨vj, h7, h8⟩ := h6 j hj
    exact ⟨vj, key h7, h8.mapped ho hm⟩
theorem Blk.mapped {w w' : World} {gm n g : Nat} {F : By → Option Nat} {cs : List Value} {t : TypeId} (h : Blk w g cs t) (ho : Only gm w w') (hm : MapP w gm n F) : Blk w' g cs t := h.only ho fun e => hm.ne (show w.heap[g]? = some (.cells cs.toArray t) from h) e.symm
theorem MapP.look1 {w : World} {gm n : Nat} {F : By → Option Nat} (h : MapP w gm n F) {x : By} (hx : x.length = 32) : (Instr.lookup 53 (.map (some gm)) (.agg (cb x).toArray) false).run Tryz.prog w = .ok (.int .i64 (((F x).getD 0 : Nat) : Int)) w := by
  obtain ⟨D, h1, h2⟩ := h.ex
  obtain ⟨v, ps, hr, hv⟩ := h1.lookup kD Tryz.underlying53 (z := .int .i64 0) (by kernel_rfl) (intE (i := 0) (by decide)) (keyD hx)
  obtain ⟨h3, h4⟩ := h2 x hx
  cases hf : F x with
  | some i =>
    have hv2 : plainElem (H := Unit) Tryz.prog 3 v = some (.lit (.int .i64 (i : Int)), ps) := by rw [← h4 i hf]; exact hv
    rw [intE_inv hv2] at hr
    exact hr
  | none =>
    have hn : Maps.has D (litD x) = false := by rw [h3, hf]; rfl
    rw [Maps.atKey_of_not_has hn] at hv
    have hv2 : v = .int .i64 0 := intE_inv hv
    rw [hv2] at hr
    exact hr
def keyIn (ks : List (List Lf)) (x : By) : Prop := ∃ l ∈ ks, ∃ p ∈ saveL 0 l, dig p = x
theorem keyIn_snoc {ks : List (List Lf)} {l : List Lf} {x : By} : keyIn (ks ++ [l]) x ↔ keyIn ks x ∨ ∃ p ∈ saveL 0 l, dig p = x := by
  unfold keyIn
  constructor
  · rintro ⟨m, hm, h⟩
    rcases List.mem_append.1 hm with h1 | h1
    · exact Or.inl ⟨m, h1, h⟩
    · rw [List.mem_singleton.1 h1] at h; exact Or.inr h
  · rintro (⟨m, hm, h⟩ | h)
    · exact ⟨m, List.mem_append_left _ hm, h⟩
    · exact ⟨l, List.mem_append_right _ (List.mem_singleton.2 rfl), h⟩
structure GoodT (ps : List By) (l : List Lf) : Prop where
  ok : okLf l
  up : Up l
  few : l.length ≤ 60
  has : ∀ p ∈ saveL 0 l, p ∈ ps
theorem GoodT.fits {ps : List By} {l : List Lf} (h : GoodT ps l) : Fits l 0 := fits_zero h.ok h.up
theorem top_mem (l : List Lf) : topPg 0 l ∈ saveL 0 l := by rw [save_top]; simp
theorem GoodT.same {ps : List By} {l m : List Lf} (h : GoodT ps l) (h2 : GoodT ps m) (ha : Apart17 ps) (he : dig (topPg 0 l) = dig (topPg 0 m)) : l = m := by
  have e := apart_mem ha _ (h.has _ (top_mem l)) _ (h2.has _ (top_mem m)) he
  have hi : Inj17 (saveL 0 l).tail (saveL 0 m).tail := fun p hp q hq hd => apart_mem ha p (h.has p (by rw [save_top]; exact List.mem_cons_of_mem _ hp)) q (h2.has q (by rw [save_top]; exact List.mem_cons_of_mem _ hq)) hd
  exact ((top_pc 256 0 l rfl h.fits).same [] [] (top_pc 256 0 m rfl h2.fits) hi (by rw [List.append_nil, List.append_nil, e])).1
theorem nodup_sub_len {α : Type} [DecidableEq α] : ∀ {a b : List α}, a.Nodup → (∀ x ∈ a, x ∈ b) → a.length ≤ b.length
  | [], b, _, _ => Nat.zero_le _
  | x :: a, b, hn, hs => by
    obtain ⟨h1, h2⟩ := List.nodup_cons.1 hn
    have hx : x ∈ b := hs x (by simp)
    have h3 := nodup_sub_len h2 (b := b.erase x) fun y hy => by
      rw [List.mem_erase_of_ne (fun e => h1 (by rw [← e]; exact hy))]
      exact hs y (List.mem_cons_of_mem _ hy)
    rw [List.length_erase_of_mem hx] at h3
    have : 0 < b.length := List.length_pos_of_mem hx
    rw [List.length_cons]; omega
structure KnI (w : World) (gm n : Nat) (F : By → Option Nat) (ks : List (List Lf)) (W : World) : Prop where
  bel : Below w.heap.size w W
  ge : w.heap.size ≤ gm
  mp : MapP W gm n F
  has : ∀ x, (F x).isSome = true ↔ keyIn ks x
  two : ∀ x i, F x = some i → (i = 1 ∨ i = 2) ∧ (i = 2 → ∃ l ∈ ks, x = dig (topPg 0 l))
theorem knI_new {w W : World} {gm : Nat} (hb : Below w.heap.size w W) (hg : w.heap.size ≤ gm) (hm : MapP W gm 0 (fun _ => none)) : KnI w gm 0 (fun _ => none) [] W :=
  ⟨hb, hg, hm, fun x => ⟨fun h => by simp at h, fun ⟨l, h, _⟩ => by cases h⟩, fun x i h => by simp at h⟩
theorem KnI.next {w W W' : World} {gm n : Nat} {F : By → Option Nat} {ks : List (List Lf)} (h : KnI w gm n F ks W) (hb : Below W.heap.size W W') : KnI w gm n F ks W' :=
  ⟨h.bel.trans (hb.mono h.bel.size), h.ge, h.mp.next hb, h.has, h.two⟩
structure KnJ (w : World) (gm n : Nat) (F : By → Option Nat) (ks : List (List Lf)) (q : List By) (W : World) : Prop where
  bel : Below w.heap.size w W
  ge : w.heap.size ≤ gm
  mp : MapP W gm n F
  has : ∀ x, (F x).isSome = true ↔ keyIn ks x ∨ ∃ p ∈ q, dig p = x
  two : ∀ x i, F x = some i → (i = 1 ∨ i = 2) ∧ (i = 2 → ∃ l ∈ ks, x = dig (topPg 0 l))
theorem KnJ.next {w W W' : World} {gm n : Nat} {F : By → Option Nat} {ks : List (List Lf)} {q : List By} (h : KnJ w gm n F ks q W) (hb : Below W.heap.size W W') : KnJ w gm n F ks q W' :=
  ⟨h.bel.trans (hb.mono h.bel.size), h.ge, h.mp.next hb, h.has, h.two⟩
theorem KnJ.lay {w W W' : World} {gm n n2 : Nat} {F : By → Option Nat} {ks : List (List Lf)} {q : List By} {p : By} (h : KnJ w gm n F ks q W) (hm : MapP W' gm n2 (fun x => if x = dig p then some 1 else F x)) (ho : Only gm W W') : KnJ w gm n2 (fun x => if x = dig p then some 1 else F x) ks (q ++ [p]) W' := by
  refine ⟨h.bel.trans (ho.below h.ge h.bel.size), h.ge, hm, fun x => ?_, fun x i hx => ?_⟩
  · by_cases e : x = dig p
    · simp only [if_pos e, Option.isSome_some, true_iff]
      exact Or.inr ⟨p, by simp, e.symm⟩
    · simp only [if_neg e]
      rw [h.has x]
      constructor
      · rintro (h1 | ⟨r, h1, h2⟩)
        · exact Or.inl h1
        · exact Or.inr ⟨r, List.mem_append_left _ h1, h2⟩
      · rintro (h1 | ⟨r, h1, h2⟩)
        · exact Or.inl h1
        · rcases List.mem_append.1 h1 with h3 | h3
          · exact Or.inr ⟨r, h3, h2⟩
          · rw [List.mem_singleton.1 h3] at h2; exact absurd h2.symm e
  · by_cases e : x = dig p
    · simp only [if_pos e, Option.some.injEq] at hx
      subst hx
      exact ⟨Or.inl rfl, fun h => by cases h⟩
    · simp only [if_neg e] at hx
      exact h.two x i hx
theorem KnJ.done {w W W' : World} {gm n n2 : Nat} {F : By → Option Nat} {ks : List (List Lf)} {l : List Lf} (h : KnJ w gm n F ks (saveL 0 l) W) (hm : MapP W' gm n2 (fun x => if x = dig (topPg 0 l) then some 2 else F x)) (ho : Only gm W W') : KnI w gm n2 (fun x => if x = dig (topPg 0 l) then some 2 else F x) (ks ++ [l]) W' := by
  refine ⟨h.bel.trans (ho.below h.ge h.bel.size), h.ge, hm, fun x => ?_, fun x i hx => ?_⟩
  · rw [keyIn_snoc, ← h.has x]
    by_cases e : x = dig (topPg 0 l)
    · simp only [if_pos e, Option.isSome_some, true_iff]
      rw [h.has x]
      exact Or.inr ⟨_, top_mem l, e.symm⟩
    · simp only [if_neg e]
  · by_cases e : x = dig (topPg 0 l)
    · simp only [if_pos e, Option.some.injEq] at hx
      subst hx
      exact ⟨Or.inr rfl, fun _ => ⟨l, by simp, e⟩⟩
    · simp only [if_neg e] at hx
      exact ⟨(h.two x i hx).1, fun h2 => by obtain ⟨m, h3, h4⟩ := (h.two x i hx).2 h2; exact ⟨m, List.mem_append_left _ h3, h4⟩⟩
theorem KnI.again {w W : World} {gm n : Nat} {F : By → Option Nat} {ks : List (List Lf)} {l : List Lf} {ps : List By} (h : KnI w gm n F ks W) (hg : ∀ m ∈ ks, GoodT ps m) (hl : GoodT ps l) (ha : Apart17 ps) (h2 : F (dig (topPg 0 l)) = some 2) : KnI w gm n F (ks ++ [l]) W := by
  obtain ⟨m, hm, he⟩ := (h.two _ _ h2).2 rfl
  have e := hl.same (hg m hm) ha he
  refine ⟨h.bel, h.ge, h.mp, fun x => ?_, fun x i hx => ⟨(h.two x i hx).1, fun h3 => by obtain ⟨k, h4, h5⟩ := (h.two x i hx).2 h3; exact ⟨k, List.mem_append_left _ h4, h5⟩⟩⟩
  rw [h.has x, keyIn_snoc]
  exact ⟨Or.inl, fun h3 => h3.elim id fun ⟨p, h4, h5⟩ => ⟨m, hm, p, by rw [← e]; exact h4, h5⟩⟩
theorem wpSeq_idxD17 {ops : Array Oper} {Q : Exit → Act → World → Prop} {rest : List Oper} {o : Oper} {a : Act} {w : World} (x y : Operand) (b off n c k : Nat) (hk : k < n) (ho : o.op = .indexAddr 22 x y) (hx : a.eval x = .slice (some ⟨b, off, none⟩) n c) (hy : a.eval y = .int .i64 (k : Int)) (hw : Region.wanted o (yielded ops a.tmps) = true)
    (h : wpList Tryz.prog ops Q rest (a.put o.dst (.pointer (some ⟨b, off + k * 32, none⟩))) w) : wpList Tryz.prog ops Q (o :: rest) a w :=
  wpSeq_val _ _ hw (idxD17 b off c n k hk _ _ x y ho hx hy w) h
theorem wpSeq_ldAt17 {ops : Array Oper} {Q : Exit → Act → World → Prop} {rest : List Oper} {o : Oper} {a : Act} {w : World} (x : Operand) (b off : Nat) (d : By) (hd : d.length = 32) (hr : w.rangeAt b off (cb d)) (ho : o.op = .load 40 x) (hx : a.eval x = .pointer (some ⟨b, off, none⟩)) (hw : Region.wanted o (yielded ops a.tmps) = true)
    (h : wpList Tryz.prog ops Q rest (a.put o.dst (.agg (cb d).toArray)) w) : wpList Tryz.prog ops Q (o :: rest) a w :=
  wpSeq_val _ _ hw (load_run 40 x ho b off hx (cb d) _ hr Tryz.underlying40 rfl (by rw [cb_len, hd]; exact info_digest)) h
set_option maxRecDepth 100000 in
set_option maxHeartbeats 16000000 in
theorem reapKnown_any (vl vp : Value) (ks : List (List Lf)) (ps : List By) (w : World) (hK : KOk w) (hD : ReadsD w vl (ks.map fun l => dig (topPg 0 l))) (hP : ReadsL w vp ps) (hg : ∀ l ∈ ks, GoodT ps l) (ha : Apart17 ps) (hk : ks.length ≤ 1000) (hn : ps.length < 100000) (hb : ∀ p ∈ ps, p.length < 1000000) :
    Calls Tryz.prog 16 #[vl, vp] w fun e w' => ∃ gm n F, e = .returned (.tuple #[.map (some gm), .int .i64 0]) ∧ KnI w gm n F ks w' ∧ n ≤ ks.length * 30000 := by
  have HK : Hid (KOk w) := hK
  have HP : Hid (ReadsL w vp ps) := hP
  have HG : Hid (∀ l ∈ ks, GoodT ps l) := hg
  have HA : Hid (Apart17 ps) := ha
  have HKL : Hid (ks.length ≤ 1000) := hk
  have HPL : Hid (ps.length < 100000 ∧ ∀ p ∈ ps, p.length < 1000000) := ⟨hn, hb⟩
  have HD : Hid (ReadsD w vl (ks.map fun l => dig (topPg 0 l))) := hD
  obtain ⟨adl, cpl, hvl⟩ := hD.slice
  obtain ⟨m, HM⟩ : ∃ z, Hid (z = ks.length) := ⟨_, rfl⟩
  rw [List.length_map, ← HM.out] at hvl
  subst hvl
  clear hK hP hg ha hk hn hb hD
  go_enter Tryz.func16, Tryz.ntmps16
  have ta0 : Hid True := trivial
  go_wp2_with (first
    | (clear ta0; with_reducible refine wpSeq_mkMapP ?_ ?_ ?_
       · rfl
       · rfl
       intro gm w1 hm hge hb1
       have HI0 : Hid (KnI w gm 0 (fun _ => none) [] w1) := knI_new hb1 hge hm
       clear hm hge hb1))
  go_loopw [18] (fun i W => ∃ (k n : Nat) (F : By → Option Nat), k ≤ m ∧ i = .int .i64 (k : Int) ∧ Hid (KnI w gm n F (ks.take k) W) ∧ n ≤ k * 30000) (fun i _ => m - (intOf i).toNat)
  case atStart => exact ⟨0, 0, fun _ => none, Nat.zero_le _, rfl, HI0.out, Nat.zero_le _⟩
  case round =>
    obtain ⟨k, n, F, hk, rfl, HI, hn⟩ := hrel
    by_cases hlt : k < m
    case pos =>
      have hlti : (k : Int) < (m : Int) := by omega
      have hk1 : k < ks.length := by rw [← HM.out]; exact hlt
      have fk : IntKind.i64.wrap ((k : Int) + 1) = (k : Int) + 1 := by rw [IntKind.wrap_i64]; have := HKL.out; omega
      obtain ⟨l, HL⟩ : ∃ z, Hid (z = ks.getD k []) := ⟨_, rfl⟩
      have hlm : l ∈ ks := by rw [HL.out, List.getD_eq_getElem?_getD, List.getElem?_eq_getElem hk1]; exact List.getElem_mem hk1
      have HGL : Hid (GoodT ps l) := HG.out l hlm
      have HTK : Hid (ks.take (k + 1) = ks.take k ++ [l]) := by show _ = _; rw [HL.out, List.take_add_one, List.getElem?_eq_getElem hk1, List.getD_eq_getElem?_getD, List.getElem?_eq_getElem hk1, Option.toList_some, Option.getD_some]
      have HGK : Hid (∀ l ∈ ks.take k, GoodT ps l) := fun l hl => HG.out l (List.mem_of_mem_take hl)
      obtain ⟨d, HDD⟩ : ∃ z, Hid (z = dig (topPg 0 l)) := ⟨_, rfl⟩
      have HDL : Hid (d.length = 32) := by show _ = _; rw [HDD.out]; exact len_dig' _
      obtain ⟨bl, ol, cl2, hva, hya⟩ := HD.out.at (by rw [List.length_map]; omega)
      rw [List.length_map, ← HM.out] at hva
      simp only [Value.slice.injEq, true_and] at hva
      obtain ⟨rfl, rfl⟩ := hva
      have hrk := hya k (by rw [List.length_map]; exact hk1)
      have hdk : (ks.map fun l => dig (topPg 0 l)).getD k [] = d := by
        rw [HDD.out, HL.out, List.getD_eq_getElem?_getD, List.getElem?_map, List.getElem?_eq_getElem hk1, List.getD_eq_getElem?_getD, List.getElem?_eq_getElem hk1, Option.map_some, Option.getD_some, Option.getD_some]
      rw [hdk] at hrk
      have HRK : Hid (∀ W, Below w.heap.size w W → W.rangeAt bl (ol + k * 32) (cb d)) := fun W hW => rangeAt_below hrk hW (range_lt hrk (by rw [cb_len, HDL.out]; decide))
      clear hya hrk hdk hlm
      by_cases h2 : F d = some 2
      case pos =>
        have e2 : ((((F d).getD 0 : Nat) : Int) == 2) = true := by rw [h2]; rfl
        have HF2 : Hid (F d = some 2) := h2
        obtain ⟨fv, HFV⟩ : ∃ z, Hid (z = (F d).getD 0) := ⟨_, rfl⟩
        clear h2
        have tb0 : Hid True := trivial
        have tb1 : Hid True := trivial
        have tb2 : Hid True := trivial
        have tb3 : Hid True := trivial
        have tb4 : Hid True := trivial
        go_wp2_with (first
          | (clear tb0; with_reducible refine wpSeq_idxD17 (.tmp 16) (.tmp 18) bl ol m cpl k hlt ?_ ?_ ?_ ?_ ?_
             · rfl
             · rfl
             · rfl
             · rfl
             have HQ1 : Hid True := trivial)
          | (clear tb1; with_reducible refine wpSeq_ldAt17 (.tmp 20) bl (ol + k * 32) d HDL.out (HRK.out _ HI.out.bel) ?_ ?_ ?_ ?_
             · rfl
             · rfl
             · rfl
             have HQ2 : Hid True := trivial)
          | (clear tb2; with_reducible refine wpSeq_allocD ?_ ?_ ?_
             · rfl
             · rfl
             intro g8 w2 nn
             have HNN : Hid (Blk w2 g8 (cb zb32) 40 ∧ wr.heap.size ≤ g8 ∧ Below wr.heap.size wr w2) := ⟨nn.blk, nn.ge, nn.below⟩
             clear nn)
          | (clear tb3; with_reducible refine wpSeq_storeD (.tmp 8) (.tmp 21) g8 zb32 d zb32_len HDL.out HNN.out.1 ?_ ?_ ?_ ?_ ?_
             · rfl
             · rfl
             · rfl
             · rfl
             intro w3 h9
             have hb : Below wr.heap.size wr w3 := HNN.out.2.2.trans (h9.only.below HNN.out.2.1 HNN.out.2.2.size)
             have H8 : Hid (Blk w3 g8 (cb d) 40) := h9.blk
             replace HI : Hid (KnI w gm n F (ks.take k) w3) := HI.out.next hb
             have hlk := HI.out.mp.look1 HDL.out
             clear h9 HNN hb)
          | (clear tb4; with_reducible refine wpSeq_loadD (.tmp 8) g8 d HDL.out H8.out ?_ ?_ ?_ ?_
             · rfl
             · rfl
             · rfl
             have HQ3 : Hid True := trivial))
        go_roundw
        case rel => exact ⟨k + 1, n, F, by omega, by simp, by rw [HTK.out]; exact HI.out.again HGK.out HGL.out HA.out (by rw [← HDD.out]; exact HF2.out), by omega⟩
        case measure => simp [intOf]; omega
      case neg =>
        have e2 : ((((F d).getD 0 : Nat) : Int) == 2) = false := by
          rw [beq_eq_false_iff_ne]
          intro h
          cases hf : F d with
          | none => rw [hf] at h; simp at h
          | some i => rw [hf] at h; simp only [Option.getD_some] at h; exact h2 (by rw [hf]; congr 1; omega)
        clear h2
        obtain ⟨S, HS⟩ : ∃ z, Hid (z = saveL 0 l) := ⟨_, rfl⟩
        have HSL : Hid (S.length ≤ 25601) := by show _ ≤ _; rw [HS.out]; exact save_few HGL.out.ok HGL.out.up (by have := HGL.out.few; omega)
        have HLD : Hid (∀ W, Below w.heap.size w W → Calls Tryz.prog 10 #[.agg (cb d).toArray, vp] W fun e w' => ∃ g, e = .returned (.tuple #[.pointer (some ⟨g, 0, none⟩), .int .i64 0]) ∧ TT w' g l ∧ Below W.heap.size W w') := fun W hW => by
          rw [HDD.out]
          exact pgLoad_ok l vp ps W (HK.out.below hW HK.out.lt) HGL.out.ok HGL.out.up HGL.out.few (HP.out.below hW) HPL.out.1 (fun p hp => Nat.lt_trans (HPL.out.2 p hp) (by decide)) (fun p hp q hq he => apart_mem HA.out q hq p (HGL.out.has p hp) he) (by
            have h3 := save_nodup 256 0 l (by omega) HGL.out.fits (fun p hp q hq hd => apart_mem HA.out p (HGL.out.has p hp) q (HGL.out.has q hq) hd)
            have h4 := nodup_sub_len h3 HGL.out.has
            omega) HGL.out.has
        have tc0 : Hid True := trivial
        have tc1 : Hid True := trivial
        have tc2 : Hid True := trivial
        have tc3 : Hid True := trivial
        have tc4 : Hid True := trivial
        have tc5 : Hid True := trivial
        have tc6 : Hid True := trivial
        have tc7 : Hid True := trivial
        have tc8 : Hid True := trivial
        have tc9 : Hid True := trivial
        go_wp2_with (first
          | (clear tc0; with_reducible refine wpSeq_idxD17 (.tmp 16) (.tmp 18) bl ol m cpl k hlt ?_ ?_ ?_ ?_ ?_
             · rfl
             · rfl
             · rfl
             · rfl
             have HQ1 : Hid True := trivial)
          | (clear tc1; with_reducible refine wpSeq_ldAt17 (.tmp 20) bl (ol + k * 32) d HDL.out (HRK.out _ HI.out.bel) ?_ ?_ ?_ ?_
             · rfl
             · rfl
             · rfl
             have HQ2 : Hid True := trivial)
          | (clear tc2; with_reducible refine wpSeq_allocD ?_ ?_ ?_
             · rfl
             · rfl
             intro g8 w2 nn
             have HNN : Hid (Blk w2 g8 (cb zb32) 40 ∧ wr.heap.size ≤ g8 ∧ Below wr.heap.size wr w2) := ⟨nn.blk, nn.ge, nn.below⟩
             clear nn)
          | (clear tc3; with_reducible refine wpSeq_storeD (.tmp 8) (.tmp 21) g8 zb32 d zb32_len HDL.out HNN.out.1 ?_ ?_ ?_ ?_ ?_
             · rfl
             · rfl
             · rfl
             · rfl
             intro w3 h9
             have hb : Below wr.heap.size wr w3 := HNN.out.2.2.trans (h9.only.below HNN.out.2.1 HNN.out.2.2.size)
             have H8 : Hid (Blk w3 g8 (cb d) 40) := h9.blk
             replace HI : Hid (KnI w gm n F (ks.take k) w3) := HI.out.next hb
             have hlk := HI.out.mp.look1 HDL.out
             clear h9 HNN hb)
          | (clear tc4; with_reducible refine wpSeq_loadD (.tmp 8) g8 d HDL.out H8.out ?_ ?_ ?_ ?_
             · rfl
             · rfl
             · rfl
             have HQ3 : Hid True := trivial)
          | (clear tc5; with_reducible refine wpSeq_loadD (.tmp 8) g8 d HDL.out H8.out ?_ ?_ ?_ ?_
             · rfl
             · rfl
             · rfl
             have HQ4 : Hid True := trivial)
          | (clear tc6; go_at_call 10; refine (HLD.out _ HI.out.bel).mono ?_; rintro e w4 ⟨gt, rfl, ht, hb⟩
             have HT : Hid (TT w4 gt l) := ht
             replace H8 : Hid (Blk w4 g8 (cb d) 40) := H8.out.below hb H8.out.lt
             replace HI : Hid (KnI w gm n F (ks.take k) w4) := HI.out.next hb
             clear ht hb hlk)
          | (clear tc7; go_at_call 22; refine (pgSave_any gt l _ (HK.out.below HI.out.bel HK.out.lt) HT.out (Nat.le_trans HGL.out.few (by decide))).mono ?_; rintro e w5 ⟨vv5, us5, rfl, hp, hb⟩
             rw [← HDD.out]
             obtain ⟨gs, ns, cs, hvv, hrow⟩ := row17_of hp (save_pos 0 l)
             subst hvv
             rw [← HS.out] at hrow
             have HRW : Hid (Row17 w5 gs ns cs S) := hrow
             replace H8 : Hid (Blk w5 g8 (cb d) 40) := H8.out.below hb H8.out.lt
             replace HI : Hid (KnI w gm n F (ks.take k) w5) := HI.out.next hb
             clear hp hrow hb HT)
          | (clear tc8; with_reducible refine wpSeq_allocD ?_ ?_ ?_
             · rfl
             · rfl
             intro g11 w6 nn
             have HNN : Hid (Blk w6 g11 (cb zb32) 40 ∧ w5.heap.size ≤ g11 ∧ Below w5.heap.size w5 w6) := ⟨nn.blk, nn.ge, nn.below⟩
             clear nn)
          | (clear tc9; with_reducible refine wpSeq_storeD (.tmp 11) (.tmp 38) g11 zb32 d zb32_len HDL.out HNN.out.1 ?_ ?_ ?_ ?_ ?_
             · rfl
             · rfl
             · rfl
             · rfl
             intro w7 h9
             have hb : Below w5.heap.size w5 w7 := HNN.out.2.2.trans (h9.only.below HNN.out.2.1 HNN.out.2.2.size)
             replace H8 : Hid (Blk w7 g8 (cb d) 40) := H8.out.below hb H8.out.lt
             replace HI : Hid (KnI w gm n F (ks.take k) w7) := HI.out.next hb
             replace HRW : Hid (Row17 w7 gs ns cs S) := HRW.out.next hb
             clear h9 HNN hb))
        have HNS : Hid (ns = S.length) := HRW.out.len
        have HJ0 : Hid (KnJ w gm n F (ks.take k) [] w7) := ⟨HI.out.bel, HI.out.ge, HI.out.mp, fun x => by rw [HI.out.has x]; exact ⟨Or.inl, fun h => h.elim id fun ⟨p, hp, _⟩ => by cases hp⟩, HI.out.two⟩
        clear HI
        go_loopw [42] (fun i W => ∃ (j n2 : Nat) (F2 : By → Option Nat), j ≤ ns ∧ i = .int .i64 (j : Int) ∧ Hid (KnJ w gm n2 F2 (ks.take k) (S.take j) W) ∧ n2 ≤ n + j ∧ Hid (Row17 W gs ns cs S) ∧ Hid (Blk W g8 (cb d) 40)) (fun i _ => ns - (intOf i).toNat)
        case atStart => exact ⟨0, n, F, Nat.zero_le _, rfl, HJ0.out, Nat.le_refl _, HRW.out, H8.out⟩
        case round =>
          rename World => wq
          clear HRW H8
          obtain ⟨j, n2, F2, hj, rfl, HJ, hn2, HRW, H8⟩ := hrel
          by_cases hjl : j < ns
          case pos =>
            have hjli : (j : Int) < (ns : Int) := by omega
            have fj : IntKind.i64.wrap ((j : Int) + 1) = (j : Int) + 1 := by rw [IntKind.wrap_i64]; have := HSL.out; have := HNS.out; omega
            have hjs : j < S.length := by rw [← HNS.out]; exact hjl
            obtain ⟨p, HPP⟩ : ∃ z, Hid (z = S.getD j []) := ⟨_, rfl⟩
            have HTJ : Hid (S.take (j + 1) = S.take j ++ [p]) := by show _ = _; rw [HPP.out, List.take_add_one, List.getElem?_eq_getElem hjs, List.getD_eq_getElem?_getD, List.getElem?_eq_getElem hjs, Option.toList_some, Option.getD_some]
            obtain ⟨u, hc, hr⟩ := HRW.out.at_ j hjl
            rw [← HPP.out] at hr
            obtain ⟨np, HNP⟩ : ∃ z, Hid (z = p.length) := ⟨_, rfl⟩
            obtain ⟨ap, cp, hvu⟩ : ∃ a c, u = .slice a np c := by
              obtain ⟨a, c, h1, _⟩ := hr
              exact ⟨a, c, by rw [h1, HNP.out]⟩
            subst hvu
            have HRP : Hid (Reads wq (.slice ap np cp) p) := hr
            have HPS : Hid (p.length < 2305843009213693952) := by
              have hm : p ∈ saveL 0 l := by rw [← HS.out, HPP.out, List.getD_eq_getElem?_getD, List.getElem?_eq_getElem hjs]; exact List.getElem_mem hjs
              show _ < _
              have := HPL.out.2 p (HGL.out.has p hm)
              omega
            obtain ⟨x, HX⟩ : ∃ z, Hid (z = dig p) := ⟨_, rfl⟩
            have HXL : Hid (x.length = 32) := by show _ = _; rw [HX.out]; exact len_dig' _
            have hnb : n2 < 100000000 := by have := HKL.out; have := HSL.out; have := HNS.out; have := HM.out; have : k * 30000 ≤ 1000 * 30000 := Nat.mul_le_mul_right _ (by omega); omega
            have HNB : Hid (n2 < 100000000) := hnb
            clear hr hnb
            have td0 : Hid True := trivial
            have td1 : Hid True := trivial
            go_wp2_with (first
              | (clear td0; with_reducible refine wpSeq_idxQ17 (.tmp 40) (.tmp 42) gs 0 ns cs j hjl ?_ ?_ ?_ ?_ ?_
                 · rfl
                 · rfl
                 · rfl
                 · rfl
                 rw [Nat.zero_add]
                 have HQ5 : Hid True := trivial)
              | (clear td1; go_at_call 17; refine (tOf_any _ p _ (HK.out.below HJ.out.bel HK.out.lt) HRP.out HPS.out).mono ?_; rintro e w8 ⟨rfl, hb⟩
                 rw [← HX.out]
                 obtain ⟨w9, hrun0, hm9, ho9⟩ := (HJ.out.mp.next hb).lay HNB.out HXL.out (i := 1) (by decide)
                 have hrun : (Instr.mapUpdate 53 (.map (some gm)) (.agg (cb x).toArray) (.int .i64 1)).run Tryz.prog w8 = .ok () w9 := hrun0
                 have hm8 := HJ.out.mp.next hb
                 have HJ9 : Hid (KnJ w gm (n2 + 1) (fun y => if y = x then some 1 else F2 y) (ks.take k) (S.take (j + 1)) w9) := by
                   have h := (HJ.out.next hb).lay (p := p) (by rw [← HX.out]; exact hm9) ho9
                   rw [← HX.out, ← HTJ.out] at h
                   exact h
                 have HR9 : Hid (Row17 w9 gs ns cs S) := (HRW.out.next hb).mapped ho9 hm8
                 have H89 : Hid (Blk w9 g8 (cb d) 40) := (H8.out.below hb H8.out.lt).mapped ho9 hm8
                 clear hrun0 hm9 ho9 hm8 hb HJ HRW H8 hc))
            clear hrun
            go_roundw
            case rel => exact ⟨j + 1, n2 + 1, _, by omega, by simp, HJ9.out, by omega, HR9.out, H89.out⟩
            case measure => simp [intOf]; omega
          case neg =>
            have hje : j = ns := by omega
            have HNB : Hid (n2 < 100000000) := by have := HKL.out; have := HSL.out; have := HNS.out; have := HM.out; have : k * 30000 ≤ 1000 * 30000 := Nat.mul_le_mul_right _ (by omega); show _ < _; omega
            have hJ := HJ.out
            rw [hje, HNS.out, List.take_length] at hJ
            have HJ2 : Hid (KnJ w gm n2 F2 (ks.take k) S wq) := hJ
            obtain ⟨w9, hrun0, hm9, ho9⟩ := hJ.mp.lay HNB.out HDL.out (i := 2) (by decide)
            have hrun : (Instr.mapUpdate 53 (.map (some gm)) (.agg (cb d).toArray) (.int .i64 2)).run Tryz.prog wq = .ok () w9 := hrun0
            have HI9 : Hid (KnI w gm (n2 + 1) (fun y => if y = d then some 2 else F2 y) (ks.take (k + 1)) w9) := by
              rw [HS.out] at hJ
              have h := hJ.done (l := l) (by rw [← HDD.out]; exact hm9) ho9
              rw [← HDD.out, ← HTK.out] at h
              exact h
            subst hje
            have hnn : n2 + 1 ≤ (k + 1) * 30000 := by have := HSL.out; have := HNS.out; omega
            clear hrun0 hm9 ho9 hJ HJ HJ2
            have te0 : Hid True := trivial
            go_wp2_with (first
              | (clear te0; with_reducible refine wpSeq_loadD (.tmp 8) g8 d HDL.out H8.out ?_ ?_ ?_ ?_
                 · rfl
                 · rfl
                 · rfl
                 have HQ6 : Hid True := trivial))
            clear hrun
            go_roundw
            case rel => exact ⟨k + 1, n2 + 1, _, by omega, by simp, HI9.out, hnn⟩
            case measure => simp [intOf]; omega
    case neg =>
      have hke : k = m := by omega
      have HF : Hid (KnI w gm n F ks wr ∧ n ≤ ks.length * 30000) := by
        have h := HI.out
        rw [hke, HM.out, List.take_length] at h
        exact ⟨h, by rw [← HM.out, ← hke]; exact hn⟩
      subst hke
      go_wp2
      refine bodyPost_ret (results_tmp2 rfl _ _ _) rfl ?_
      exact ⟨gm, n, F, rfl, HF.out.1, HF.out.2⟩
end Go.Proofs.YtphmmnffgknkcabGreatDoor
namespace Go.Proofs.YtphmmnffgknkcabGreatDoor
open Go.RowKit
set_option maxRecDepth 100000
theorem OwnB.zero9 (w : World) (base g : Nat) (hg : base ≤ g) (h : Blk w g [] 5) : OwnB w base (.slice (some ⟨g, 0, none⟩) 0 0) [] :=
  ⟨by simp [cb], Or.inr ⟨g, 0, #[], rfl, hg, h, Nat.le_refl _, by unfold maxLen; omega, rfl, rfl⟩⟩
set_option maxRecDepth 100000 in
set_option maxHeartbeats 4000000 in
theorem bclone_any (v : Value) (l : List (BitVec 8)) (w : World) (h : Reads w v l) (hl : l.length ≤ 140737488355328) :
    Calls Tryz.prog 18 #[v] w fun e w' => ∃ v', e = .returned v' ∧ OwnB w' w.heap.size v' l ∧ Below w.heap.size w w' := by
  have HR : Hid (Reads w v l) := h
  have HL : Hid (l.length ≤ 140737488355328) := hl
  obtain ⟨ad, cap, rfl, _, hn, hx⟩ := h
  cases ad with
  | none =>
    have h0 : l = [] := by
      cases l with
      | nil => rfl
      | cons b r => obtain ⟨b, off, h1, _⟩ := hx (by simp); cases h1
    subst h0
    have := hn rfl
    subst this
    clear hx hn hl
    have hnil : ∀ (a : Option Addr) (n c : Nat) (w : World), (binOp .eql 49 (.slice a n c) (.slice none 0 0)).run Tryz.prog w = .ok (.bool a.isNone) w := fun a n c w => Lib.run_eql_slice_nil w 49 5 a n c 0 0 Tryz.underlying49
    go_enter Tryz.func18, Tryz.ntmps18
    go_wp2
    go_ret
    exact ⟨_, rfl, OwnB.nil _ _, Below.refl _ _⟩
  | some ad =>
    clear hx hn hl
    obtain ⟨m, HM⟩ : ∃ m, Hid (m = l.length) := ⟨_, rfl⟩
    rw [← HM.out] at HR ⊢
    have HB := below_alloc w (.cells ([] : List Value).toArray 5)
    have HO : Hid (OwnB (w.alloc (.cells ([] : List Value).toArray 5)) w.heap.size (.slice (some ⟨w.heap.size, 0, none⟩) 0 0) []) := OwnB.zero9 _ _ _ (Nat.le_refl _) (Blk.new w [] 5)
    have HR1 : Hid (Reads (w.alloc (.cells ([] : List Value).toArray 5)) (.slice (some ad) m cap) l) := HR.out.below HB
    have HBB : Hid (Below w.heap.size w (w.alloc (.cells ([] : List Value).toArray 5))) := HB
    clear HB
    have hnil : ∀ (a : Option Addr) (n c : Nat) (w : World), (binOp .eql 49 (.slice a n c) (.slice none 0 0)).run Tryz.prog w = .ok (.bool a.isNone) w := fun a n c w => Lib.run_eql_slice_nil w 49 5 a n c 0 0 Tryz.underlying49
    go_enter Tryz.func18, Tryz.ntmps18
    go_wp2_with (at_builtin; refine wpList_appendB rfl (.tmp 5) (.tmp 6) rfl w.heap.size _ [] rfl HO.out _ l rfl HR1.out (by have := HL.out; simp; omega) HBB.out.size ?_; intro v2 w2 hown2 hb2 _)
    have hB2 := HBB.out.trans hb2
    go_wp2
    go_ret
    exact ⟨_, rfl, hown2, hB2⟩
theorem results_tmp3 {fn : Func} {u0 u1 u2 : Tmp} (h : fn.results = #[.tmp u0, .tmp u1, .tmp u2]) (tmps : Array Value) (P : Program) (w : World) : (results fn tmps).run P w = .ok (.tuple #[tmps.getD u0 undef, tmps.getD u1 undef, tmps.getD u2 undef]) w := by
  simp [results, h, go_sem]
def needB (ks : List (List Lf)) (p : By) : Bool := ks.any fun l => (saveL 0 l).any fun q => decide (dig q = dig p)
theorem needB_iff {ks : List (List Lf)} {p : By} : needB ks p = true ↔ keyIn ks (dig p) := by
  unfold needB keyIn
  simp only [List.any_eq_true, decide_eq_true_eq]
structure Sp2 (wk : World) (B : Nat) (v : Value) (us : List Value) (ps : List By) (v5 : Value) (us5 : List Value) (ps5 : List By) (W : World) : Prop where
  bel : Below B wk W
  le : B ≤ W.heap.size
  a : PgS W B v us ps (fun k => v5.ownBlock = some k)
  b : PgS W B v5 us5 ps5 (fun k => v.ownBlock = some k)
  ne : ∀ k, v.ownBlock = some k → v5.ownBlock ≠ some k
theorem Sp2.swap {wk W : World} {B : Nat} {v v5 : Value} {us us5 : List Value} {ps ps5 : List By} (h : Sp2 wk B v us ps v5 us5 ps5 W) : Sp2 wk B v5 us5 ps5 v us ps W := ⟨h.bel, h.le, h.b, h.a, fun k h5 h4 => h.ne k h4 h5⟩
theorem Sp2.next {wk W W' : World} {B : Nat} {v v5 : Value} {us us5 : List Value} {ps ps5 : List By} (h : Sp2 wk B v us ps v5 us5 ps5 W) (hb : Below W.heap.size W W') : Sp2 wk B v us ps v5 us5 ps5 W' := ⟨h.bel.trans (hb.mono h.le), Nat.le_trans h.le hb.size, h.a.next hb, h.b.next hb, h.ne⟩
theorem Sp2.add {wk W W' : World} {B : Nat} {v v' v5 u : Value} {us us5 : List Value} {ps ps5 : List By} {p : By} (h : Sp2 wk B v us ps v5 us5 ps5 W) (ho : OwnX W' B v' (us ++ [u])) (hg : GrV W v W' v') (hu : Reads W u p) (hk : ∀ k, u.ownBlock = some k → k < W.heap.size ∧ v.ownBlock ≠ some k ∧ v5.ownBlock ≠ some k) : Sp2 wk B v' (us ++ [u]) (ps ++ [p]) v5 us5 ps5 W' := by
  refine ⟨h.bel.trans (hg.below h.le fun k hk => (h.a.own.lt k hk).1), Nat.le_trans h.le hg.mt.size, h.a.more ho hg hu hk, ?_, fun k h1 h5 => ?_⟩
  · refine ⟨h.b.own.same fun k hk5 => hg.other (h.b.own.lt k hk5).2 (fun e => h.ne k e hk5), h.b.len, fun j x hj => ?_⟩
    obtain ⟨h1, h2⟩ := h.b.good j x hj
    refine ⟨h1.sameP fun k hk2 => hg.other (h2 k hk2).1 (h2 k hk2).2.2, fun k hk2 => ⟨Nat.lt_of_lt_of_le (h2 k hk2).1 hg.mt.size, (h2 k hk2).2.1, fun e => ?_⟩⟩
    rcases hg.lies k e with e2 | e2
    · exact (h2 k hk2).2.2 e2
    · have := (h2 k hk2).1; omega
  · rcases hg.lies k h1 with e2 | e2
    · exact h.ne k e2 h5
    · have := (h.b.own.lt k h5).2; omega
theorem filter_snoc {S : List By} {j : Nat} (hj : j < S.length) (f : By → Bool) : (S.take (j + 1)).filter f = (S.take j).filter f ++ (if f (S.getD j []) = true then [S.getD j []] else []) := by
  have e : S.take (j + 1) = S.take j ++ [S.getD j []] := by rw [List.take_add_one, List.getElem?_eq_getElem hj, List.getD_eq_getElem?_getD, List.getElem?_eq_getElem hj, Option.toList_some, Option.getD_some]
  rw [e, List.filter_append]
  congr 1
  generalize S.getD j [] = q
  cases h : f q <;> simp [h]
set_option maxRecDepth 100000 in
set_option maxHeartbeats 16000000 in
theorem reapSplit_any (vl vp : Value) (ks : List (List Lf)) (ps : List By) (w : World) (hK : KOk w) (hD : ReadsD w vl (ks.map fun l => dig (topPg 0 l))) (hP : ReadsL w vp ps) (hg : ∀ l ∈ ks, GoodT ps l) (ha : Apart17 ps) (hk : ks.length ≤ 1000) (hn : ps.length < 100000) (hb : ∀ p ∈ ps, p.length < 1000000) :
    Calls Tryz.prog 9 #[vl, vp] w fun e w' => ∃ v4 v5, e = .returned (.tuple #[v4, v5, .int .i64 0]) ∧ ReadsL w' v4 (ps.filter (needB ks)) ∧ ReadsL w' v5 (ps.filter fun p => !needB ks p) ∧ Below w.heap.size w w' := by
  have HKN : Hid (Calls Tryz.prog 16 #[vl, vp] w fun e w' => ∃ gm n F, e = .returned (.tuple #[.map (some gm), .int .i64 0]) ∧ KnI w gm n F ks w' ∧ n ≤ ks.length * 30000) := reapKnown_any vl vp ks ps w hK hD hP hg ha hk hn hb
  have HK : Hid (KOk w) := hK
  have HPL : Hid (ps.length < 100000 ∧ ∀ p ∈ ps, p.length < 1000000) := ⟨hn, hb⟩
  obtain ⟨adp, cpp, hvp, _, _, hxp⟩ := id hP
  obtain ⟨m, HM⟩ : ∃ z, Hid (z = ps.length) := ⟨_, rfl⟩
  rw [← HM.out] at hvp
  subst hvp
  have HXP : Hid (0 < ps.length → ∃ b off, adp = some ⟨b, off, none⟩ ∧ ∀ j, j < ps.length → ∃ vj, w.cell? ⟨b, off + j, none⟩ = some vj ∧ Reads w vj (ps.getD j [])) := hxp
  clear hK hD hP hg ha hk hn hb hxp
  go_enter Tryz.func9, Tryz.ntmps9
  have ta0 : Hid True := trivial
  go_wp2_with (first
    | (clear ta0; go_at_call 16; refine (HKN.out).mono ?_; rintro e wk ⟨gm, nm, F, rfl, hI, hnm⟩
       have HI : Hid (KnI w gm nm F ks wk) := hI
       clear hI hnm HKN))
  obtain ⟨B, HB⟩ : ∃ z, Hid (z = wk.heap.size) := ⟨_, rfl⟩
  have HW : Hid (∀ W, Below B wk W → Below w.heap.size w W ∧ KOk W ∧ MapP W gm nm F) := fun W hW => by
    rw [HB.out] at hW
    exact ⟨HI.out.bel.trans (hW.mono HI.out.bel.size), HK.out.below (HI.out.bel.trans (hW.mono HI.out.bel.size)) HK.out.lt, HI.out.mp.next hW⟩
  have H0 : Hid (Sp2 wk B (.slice none 0 0) [] [] (.slice none 0 0) [] [] wk) := ⟨Below.refl _ _, (by rw [HB.out]; exact Nat.le_refl _), PgS.nil _ _ _, PgS.nil _ _ _, fun k h => by cases h⟩
  have HHS : Hid (∀ x, (F x).isSome = true ↔ keyIn ks x) := HI.out.has
  have HTW : Hid (∀ x i, F x = some i → i = 1 ∨ i = 2) := fun x i h => (HI.out.two x i h).1
  clear HI
  go_loopw [4, 5, 21] (fun a b i W => ∃ (j : Nat) (a4 : Option Addr) (n4 c4 : Nat) (us4 : List Value) (a5 : Option Addr) (n5 c5 : Nat) (us5 : List Value), j ≤ m ∧ a = .slice a4 n4 c4 ∧ b = .slice a5 n5 c5 ∧ i = .int .i64 (j : Int) ∧ Hid (Sp2 wk B (.slice a4 n4 c4) us4 ((ps.take j).filter (needB ks)) (.slice a5 n5 c5) us5 ((ps.take j).filter fun p => !needB ks p) W)) (fun _ _ i _ => m - (intOf i).toNat)
  case atStart => exact ⟨0, none, 0, 0, [], none, 0, 0, [], Nat.zero_le _, rfl, rfl, rfl, H0.out⟩
  case round =>
    obtain ⟨j, a4, n4, c4, us4, a5, n5, c5, us5, hj, rfl, rfl, rfl, HR⟩ := hrel
    by_cases hjl : j < m
    case pos =>
      have hjli : (j : Int) < (m : Int) := by omega
      have hjs : j < ps.length := by rw [← HM.out]; exact hjl
      have fj : IntKind.i64.wrap ((j : Int) + 1) = (j : Int) + 1 := by rw [IntKind.wrap_i64]; have := HPL.out.1; have := HM.out; omega
      obtain ⟨bp, op, rfl, hat⟩ := HXP.out (by omega)
      obtain ⟨u, hc, hr⟩ := hat j hjs
      obtain ⟨p, HPP⟩ : ∃ z, Hid (z = ps.getD j []) := ⟨_, rfl⟩
      rw [← HPP.out] at hr
      obtain ⟨np, HNP⟩ : ∃ z, Hid (z = p.length) := ⟨_, rfl⟩
      obtain ⟨ap, cp, hvu⟩ : ∃ a c, u = .slice a np c := by
        obtain ⟨a, c, h1, _⟩ := hr
        exact ⟨a, c, by rw [h1, HNP.out]⟩
      subst hvu
      have HRP : Hid (∀ W, Below w.heap.size w W → W.cell? ⟨bp, op + j, none⟩ = some (.slice ap np cp) ∧ Reads W (.slice ap np cp) p) := fun W hW => ⟨by rw [hW.cell (p := ⟨bp, op + j, none⟩) (block_lt_of_cell hc)]; exact hc, hr.below hW⟩
      have HPS : Hid (p.length < 1000000) := HPL.out.2 p (by rw [HPP.out, List.getD_eq_getElem?_getD, List.getElem?_eq_getElem hjs]; exact List.getElem_mem hjs)
      obtain ⟨x, HX⟩ : ∃ z, Hid (z = dig p) := ⟨_, rfl⟩
      have HXL : Hid (x.length = 32) := by show _ = _; rw [HX.out]; exact len_dig' _
      have HFA : Hid ((ps.take (j + 1)).filter (needB ks) = (ps.take j).filter (needB ks) ++ (if needB ks p = true then [p] else [])) := by show _ = _; rw [HPP.out]; exact filter_snoc hjs _
      have HFB : Hid ((ps.take (j + 1)).filter (fun p => !needB ks p) = (ps.take j).filter (fun p => !needB ks p) ++ (if (!needB ks p) = true then [p] else [])) := by show _ = _; rw [HPP.out]; exact filter_snoc hjs _
      obtain ⟨P4, HP4⟩ : ∃ z, Hid (z = (ps.take j).filter (needB ks)) := ⟨_, rfl⟩
      obtain ⟨P5, HP5⟩ : ∃ z, Hid (z = (ps.take j).filter fun p => !needB ks p) := ⟨_, rfl⟩
      rw [← HP4.out] at HR HFA
      rw [← HP5.out] at HR HFB
      have HLN : Hid (P4.length < 100000 ∧ P5.length < 100000) := by
        show _ ∧ _
        rw [HP4.out, HP5.out]
        have h1 := List.length_filter_le (needB ks) (ps.take j)
        have h2 := List.length_filter_le (fun p => !needB ks p) (ps.take j)
        rw [List.length_take] at h1 h2
        have := HPL.out.1
        omega
      obtain ⟨nb, HNB⟩ : ∃ z, Hid (z = needB ks p) := ⟨_, rfl⟩
      have e0 : ((((F x).getD 0 : Nat) : Int) == 0) = !nb := by
        rw [HNB.out]
        cases hf : F x with
        | none =>
          have : needB ks p = false := by
            cases hq : needB ks p with
            | false => rfl
            | true => have h1 := (HHS.out x).2 (by rw [HX.out]; exact needB_iff.1 hq); rw [hf] at h1; cases h1
          rw [this]; rfl
        | some i =>
          have h1 : needB ks p = true := needB_iff.2 (by rw [← HX.out]; exact (HHS.out x).1 (by rw [hf]; rfl))
          rw [h1, Bool.not_true, beq_eq_false_iff_ne]
          have := HTW.out x i hf
          simp only [Option.getD_some]
          omega
      have hce := (HRP.out wr (HW.out _ HR.out.bel).1).1
      rw [← HNB.out] at HFA HFB
      clear hat hc hr HXP
      cases nb with
      | true =>
        have HGA : Hid ((ps.take (j + 1)).filter (needB ks) = P4 ++ [p] ∧ (ps.take (j + 1)).filter (fun p => !needB ks p) = P5) := ⟨by rw [HFA.out, if_pos rfl], by rw [HFB.out, if_neg (by decide), List.append_nil]⟩
        clear HFA HFB
        have tb0 : Hid True := trivial
        have tb1 : Hid True := trivial
        have tb2 : Hid True := trivial
        have tb3 : Hid True := trivial
        have tb4 : Hid True := trivial
        go_wp2_with (first
          | (clear tb0; with_reducible refine wpSeq_idxQ17 (.tmp 19) (.tmp 21) bp op m cpp j hjl ?_ ?_ ?_ ?_ ?_
             · rfl
             · rfl
             · rfl
             · rfl
             have HQ1 : Hid True := trivial)
          | (clear tb1; go_at_call 17; refine (tOf_any _ p _ (HW.out _ HR.out.bel).2.1 (HRP.out _ (HW.out _ HR.out.bel).1).2 (Nat.lt_trans HPS.out (by decide))).mono ?_; rintro e w2 ⟨rfl, hb⟩
             rw [← HX.out]
             replace HR : Hid (Sp2 wk B (.slice a4 n4 c4) us4 P4 (.slice a5 n5 c5) us5 P5 w2) := HR.out.next hb
             have hlk := (HW.out _ HR.out.bel).2.2.look1 HXL.out
             clear hb hce)
          | (clear tb2; go_at_call 18; refine (bclone_any (.slice ap np cp) p _ (HRP.out _ (HW.out _ HR.out.bel).1).2 (by have := HPS.out; omega)).mono ?_; rintro e w3 ⟨u3, rfl, ho, hb⟩
             obtain ⟨a3, c3, hu3⟩ := ho.formP
             rw [← HNP.out] at hu3
             subst hu3
             have HUB : Hid (∀ k, (Value.slice a3 np c3).ownBlock = some k → k < w3.heap.size ∧ (Value.slice a4 n4 c4).ownBlock ≠ some k ∧ (Value.slice a5 n5 c5).ownBlock ≠ some k) := fun k hk => ⟨(ho.ltP k hk).2, (fun e => by have h1 := (ho.ltP k hk).1; have h2 := (HR.out.a.own.lt k e).2; omega), fun e => by have h1 := (ho.ltP k hk).1; have h2 := (HR.out.b.own.lt k e).2; omega⟩
             have HU3 : Hid (Reads w3 (.slice a3 np c3) p) := ho.reads
             replace HR : Hid (Sp2 wk B (.slice a4 n4 c4) us4 P4 (.slice a5 n5 c5) us5 P5 w3) := HR.out.next hb
             clear ho hb hlk)
          | (clear tb3; with_reducible refine wpSeq_buildX (.tmp 37) a3 np c3 ?_ ?_ ?_ ?_
             · rfl
             · rfl
             · rfl
             intro g4 w4 hy hge hb
             have HY : Hid (Blk w4 g4 [.slice a3 np c3] 49) := hy
             replace HUB : Hid (∀ k, (Value.slice a3 np c3).ownBlock = some k → k < w4.heap.size ∧ (Value.slice a4 n4 c4).ownBlock ≠ some k ∧ (Value.slice a5 n5 c5).ownBlock ≠ some k) := fun k hk => ⟨Nat.lt_of_lt_of_le (HUB.out k hk).1 hb.size, (HUB.out k hk).2⟩
             replace HU3 : Hid (Reads w4 (.slice a3 np c3) p) := HU3.out.below hb
             replace HR : Hid (Sp2 wk B (.slice a4 n4 c4) us4 P4 (.slice a5 n5 c5) us5 P5 w4) := HR.out.next hb
             clear hy hge hb)
          | (clear tb4; with_reducible refine wpSeq_appX (.tmp 35) (.tmp 38) B (Value.slice a4 n4 c4) (.slice a3 np c3) us4 g4 HR.out.a.own HY.out rfl (by have h1 := HR.out.a.len; have h2 := HLN.out; omega) HR.out.le ?_ ?_ ?_ ?_ ?_
             · rfl
             · rfl
             · rfl
             · rfl
             intro v5x w5 ho hg
             obtain ⟨a6, c6, hv6⟩ := ho.form
             generalize hn6 : (us4 ++ [Value.slice a3 np c3]).length = n6 at hv6
             clear hn6
             subst hv6
             have HR5 : Hid (Sp2 wk B (.slice a6 n6 c6) (us4 ++ [Value.slice a3 np c3]) (P4 ++ [p]) (.slice a5 n5 c5) us5 P5 w5) := HR.out.add ho hg HU3.out HUB.out
             clear ho hg HR HU3 HUB HY))
        go_roundw
        case rel => exact ⟨j + 1, a6, n6, c6, us4 ++ [Value.slice a3 np c3], a5, n5, c5, us5, by omega, rfl, rfl, by simp, by rw [HGA.out.1, HGA.out.2]; exact HR5.out⟩
        case measure => simp [intOf]; omega
      | false =>
        have HGA : Hid ((ps.take (j + 1)).filter (needB ks) = P4 ∧ (ps.take (j + 1)).filter (fun p => !needB ks p) = P5 ++ [p]) := ⟨by rw [HFA.out, if_neg (by decide), List.append_nil], by rw [HFB.out, if_pos (by decide)]⟩
        clear HFA HFB
        have tc0 : Hid True := trivial
        have tc1 : Hid True := trivial
        have tc2 : Hid True := trivial
        have tc3 : Hid True := trivial
        have tc4 : Hid True := trivial
        go_wp2_with (first
          | (clear tc0; with_reducible refine wpSeq_idxQ17 (.tmp 19) (.tmp 21) bp op m cpp j hjl ?_ ?_ ?_ ?_ ?_
             · rfl
             · rfl
             · rfl
             · rfl
             have HQ1 : Hid True := trivial)
          | (clear tc1; go_at_call 17; refine (tOf_any _ p _ (HW.out _ HR.out.bel).2.1 (HRP.out _ (HW.out _ HR.out.bel).1).2 (Nat.lt_trans HPS.out (by decide))).mono ?_; rintro e w2 ⟨rfl, hb⟩
             rw [← HX.out]
             replace HR : Hid (Sp2 wk B (.slice a4 n4 c4) us4 P4 (.slice a5 n5 c5) us5 P5 w2) := HR.out.next hb
             have hlk := (HW.out _ HR.out.bel).2.2.look1 HXL.out
             clear hb hce)
          | (clear tc2; go_at_call 18; refine (bclone_any (.slice ap np cp) p _ (HRP.out _ (HW.out _ HR.out.bel).1).2 (by have := HPS.out; omega)).mono ?_; rintro e w3 ⟨u3, rfl, ho, hb⟩
             obtain ⟨a3, c3, hu3⟩ := ho.formP
             rw [← HNP.out] at hu3
             subst hu3
             have HUB : Hid (∀ k, (Value.slice a3 np c3).ownBlock = some k → k < w3.heap.size ∧ (Value.slice a5 n5 c5).ownBlock ≠ some k ∧ (Value.slice a4 n4 c4).ownBlock ≠ some k) := fun k hk => ⟨(ho.ltP k hk).2, (fun e => by have h1 := (ho.ltP k hk).1; have h2 := (HR.out.b.own.lt k e).2; omega), fun e => by have h1 := (ho.ltP k hk).1; have h2 := (HR.out.a.own.lt k e).2; omega⟩
             have HU3 : Hid (Reads w3 (.slice a3 np c3) p) := ho.reads
             replace HR : Hid (Sp2 wk B (.slice a4 n4 c4) us4 P4 (.slice a5 n5 c5) us5 P5 w3) := HR.out.next hb
             clear ho hb hlk)
          | (clear tc3; with_reducible refine wpSeq_buildX (.tmp 32) a3 np c3 ?_ ?_ ?_ ?_
             · rfl
             · rfl
             · rfl
             intro g4 w4 hy hge hb
             have HY : Hid (Blk w4 g4 [.slice a3 np c3] 49) := hy
             replace HUB : Hid (∀ k, (Value.slice a3 np c3).ownBlock = some k → k < w4.heap.size ∧ (Value.slice a5 n5 c5).ownBlock ≠ some k ∧ (Value.slice a4 n4 c4).ownBlock ≠ some k) := fun k hk => ⟨Nat.lt_of_lt_of_le (HUB.out k hk).1 hb.size, (HUB.out k hk).2⟩
             replace HU3 : Hid (Reads w4 (.slice a3 np c3) p) := HU3.out.below hb
             replace HR : Hid (Sp2 wk B (.slice a4 n4 c4) us4 P4 (.slice a5 n5 c5) us5 P5 w4) := HR.out.next hb
             clear hy hge hb)
          | (clear tc4; with_reducible refine wpSeq_appX (.tmp 30) (.tmp 33) B (Value.slice a5 n5 c5) (.slice a3 np c3) us5 g4 HR.out.b.own HY.out rfl (by have h1 := HR.out.b.len; have h2 := HLN.out; omega) HR.out.le ?_ ?_ ?_ ?_ ?_
             · rfl
             · rfl
             · rfl
             · rfl
             intro v5x w5 ho hg
             obtain ⟨a6, c6, hv6⟩ := ho.form
             generalize hn6 : (us5 ++ [Value.slice a3 np c3]).length = n6 at hv6
             clear hn6
             subst hv6
             have HR5 : Hid (Sp2 wk B (.slice a4 n4 c4) us4 P4 (.slice a6 n6 c6) (us5 ++ [Value.slice a3 np c3]) (P5 ++ [p]) w5) := (HR.out.swap.add ho hg HU3.out HUB.out).swap
             clear ho hg HR HU3 HUB HY))
        go_roundw
        case rel => exact ⟨j + 1, a4, n4, c4, us4, a6, n6, c6, us5 ++ [Value.slice a3 np c3], by omega, rfl, rfl, by simp, by rw [HGA.out.1, HGA.out.2]; exact HR5.out⟩
        case measure => simp [intOf]; omega
    case neg =>
      have hje : j = m := by omega
      have hR := HR.out
      rw [hje, HM.out, List.take_length] at hR
      have HF : Hid (ReadsL wr (.slice a4 n4 c4) (ps.filter (needB ks)) ∧ ReadsL wr (.slice a5 n5 c5) (ps.filter fun p => !needB ks p) ∧ Below w.heap.size w wr) := ⟨hR.a.readsL, hR.b.readsL, (HW.out _ hR.bel).1⟩
      subst hje
      clear hR
      go_wp2
      refine bodyPost_ret (results_tmp3 rfl _ _ _) rfl ?_
      exact ⟨_, _, rfl, HF.out.1, HF.out.2.1, HF.out.2.2⟩
end Go.Proofs.YtphmmnffgknkcabGreatDoor
namespace Go.Proofs.YtphmmnffgknkcabGreatDoor
open Go.RowKit
set_option maxRecDepth 100000
def Fr4 (v5 v6 v7 : Value) (g8 : Nat) (W : World) (k : Nat) : Prop := k < W.heap.size ∧ v5.ownBlock ≠ some k ∧ v6.ownBlock ≠ some k ∧ v7.ownBlock ≠ some k ∧ k ≠ g8
structure St4 (v5 v6 v7 v5' v6' v7' : Value) (g8 : Nat) (W W' : World) : Prop where
  size : W.heap.size ≤ W'.heap.size
  keep : ∀ k, Fr4 v5 v6 v7 g8 W k → W'.heap[k]? = W.heap[k]?
  l5 : ∀ k, v5'.ownBlock = some k → v5.ownBlock = some k ∨ W.heap.size ≤ k
  l6 : ∀ k, v6'.ownBlock = some k → v6.ownBlock = some k ∨ W.heap.size ≤ k
  l7 : ∀ k, v7'.ownBlock = some k → v7.ownBlock = some k ∨ W.heap.size ≤ k
theorem St4.of_below {v5 v6 v7 : Value} {g8 : Nat} {W W' : World} (h : Below W.heap.size W W') : St4 v5 v6 v7 v5 v6 v7 g8 W W' := ⟨h.size, fun k hk => h.block k hk.1, fun _ h => Or.inl h, fun _ h => Or.inl h, fun _ h => Or.inl h⟩
theorem St4.of_five {v5 v6 v7 v5' : Value} {g8 B : Nat} {W W' : World} (h : Grow B W v5 W' v5') : St4 v5 v6 v7 v5' v6 v7 g8 W W' :=
  ⟨h.below.size, fun k hk => h.other k (fun e => hk.2.1 e.symm) hk.1, fun _ hk => h.lies.elim (fun e => Or.inl (by rw [← e]; exact hk)) (fun e => Or.inr (by rw [e] at hk; cases hk; exact Nat.le_refl _)), fun _ h => Or.inl h, fun _ h => Or.inl h⟩
theorem St4.of_six {v5 v6 v7 v6' : Value} {g8 : Nat} {W W' : World} (h : GrV W v6 W' v6') : St4 v5 v6 v7 v5 v6' v7 g8 W W' := ⟨h.mt.size, fun _ hk => h.other hk.1 hk.2.2.1, fun _ h => Or.inl h, h.lies, fun _ h => Or.inl h⟩
theorem St4.of_seven {v5 v6 v7 v7' : Value} {g8 : Nat} {W W' : World} (h : GrV W v7 W' v7') : St4 v5 v6 v7 v5 v6 v7' g8 W W' := ⟨h.mt.size, fun _ hk => h.other hk.1 hk.2.2.2.1, fun _ h => Or.inl h, fun _ h => Or.inl h, h.lies⟩
theorem St4.of_set {v5 v6 v7 : Value} {g8 : Nat} {W W' : World} (h : Only g8 W W') : St4 v5 v6 v7 v5 v6 v7 g8 W W' := ⟨h.size, fun k hk => h.block k hk.2.2.2.2 hk.1, fun _ h => Or.inl h, fun _ h => Or.inl h, fun _ h => Or.inl h⟩
theorem Fr4.step {v5 v6 v7 v5' v6' v7' : Value} {g8 k : Nat} {W W' : World} (h : Fr4 v5 v6 v7 g8 W k) (s : St4 v5 v6 v7 v5' v6' v7' g8 W W') : Fr4 v5' v6' v7' g8 W' k := by
  obtain ⟨h1, h2, h3, h4, h5⟩ := h
  exact ⟨Nat.lt_of_lt_of_le h1 s.size, fun e => (s.l5 k e).elim h2 (fun h => by omega), fun e => (s.l6 k e).elim h3 (fun h => by omega), fun e => (s.l7 k e).elim h4 (fun h => by omega), h5⟩
def RdF (v5 v6 v7 : Value) (g8 : Nat) (W : World) (u : Value) (p : By) : Prop := Reads W u p ∧ ∀ k, u.ownBlock = some k → Fr4 v5 v6 v7 g8 W k
theorem RdF.step {v5 v6 v7 v5' v6' v7' : Value} {g8 : Nat} {W W' : World} {u : Value} {p : By} (h : RdF v5 v6 v7 g8 W u p) (s : St4 v5 v6 v7 v5' v6' v7' g8 W W') : RdF v5' v6' v7' g8 W' u p :=
  ⟨h.1.sameP fun k hk => s.keep k (h.2 k hk), fun k hk => (h.2 k hk).step s⟩
theorem ReadsD.same18 {W W' : World} {v : Value} {ds : List By} (h : ReadsD W v ds) (hs : ∀ k, v.ownBlock = some k → W'.heap[k]? = W.heap[k]?) : ReadsD W' v ds := by
  obtain ⟨⟨ad, cap, rfl, h2, h3, h4⟩, h5⟩ := h
  refine ⟨⟨ad, cap, rfl, h2, h3, fun hp => ?_⟩, h5⟩
  obtain ⟨b, off, rfl, h6⟩ := h4 hp
  exact ⟨b, off, rfl, fun j hj i v hv => by rw [World.cell?_of_block (w := W) (hs b rfl)]; exact h6 j hj i v hv⟩
def LfF (v5 v6 v7 : Value) (g8 : Nat) (W : World) (xa xv : Value) (l : List Lf) : Prop := ReadsLf W xa xv l ∧ ∀ k, (xa.ownBlock = some k ∨ xv.ownBlock = some k) → Fr4 v5 v6 v7 g8 W k
theorem LfF.step {v5 v6 v7 v5' v6' v7' : Value} {g8 : Nat} {W W' : World} {xa xv : Value} {l : List Lf} (h : LfF v5 v6 v7 g8 W xa xv l) (s : St4 v5 v6 v7 v5' v6' v7' g8 W W') : LfF v5' v6' v7' g8 W' xa xv l :=
  ⟨⟨h.1.1.same18 fun k hk => s.keep k (h.2 k (Or.inl hk)), h.1.2.same18 fun k hk => s.keep k (h.2 k (Or.inr hk))⟩, fun k hk => (h.2 k hk).step s⟩
def flatT (ts : List (Value × Value)) : List Value := (ts.map fun t => [t.1, t.2]).flatten
def OwnT18 (W : World) (B : Nat) (v : Value) (ts : List (Value × Value)) : Prop := W.ownsRow B 47 2 v ts.length (flatT ts)
theorem OwnT18.nil (W : World) (B : Nat) : OwnT18 W B (.slice none 0 0) [] := World.ownsRow_nil _ _ _ _
theorem OwnT18.lt {W : World} {B : Nat} {v : Value} {ts : List (Value × Value)} (h : OwnT18 W B v ts) : ∀ k, v.ownBlock = some k → B ≤ k ∧ k < W.heap.size := World.ownsRow.lt h
theorem ownsRow_same18 {W W' : World} {B z n : Nat} {t : TypeId} {v : Value} {xs : List Value} (h : W.ownsRow B t z v n xs) (hs : ∀ k, v.ownBlock = some k → W'.heap[k]? = W.heap[k]?) : W'.ownsRow B t z v n xs := by
  rcases h with ⟨h1, ⟨rfl, h2⟩ | ⟨g, cap, cur, rfl, hg, hh, h3⟩⟩
  · exact ⟨h1, Or.inl ⟨rfl, h2⟩⟩
  · exact ⟨h1, Or.inr ⟨g, cap, cur, rfl, hg, by rw [hs g rfl]; exact hh, h3⟩⟩
theorem rows_ne18 {W : World} {B B2 z z2 n n2 : Nat} {t t2 : TypeId} {v v2 : Value} {xs xs2 : List Value} (h : W.ownsRow B t z v n xs) (h2 : W.ownsRow B2 t2 z2 v2 n2 xs2) (ht : t ≠ t2) : ∀ k, v.ownBlock = some k → v2.ownBlock ≠ some k := fun k hk e => by
  rcases h with ⟨_, ⟨rfl, _⟩ | ⟨g, cap, cur, rfl, _, hh, _⟩⟩
  · cases hk
  rcases h2 with ⟨_, ⟨rfl, _⟩ | ⟨g2, cap2, cur2, rfl, _, hh2, _⟩⟩
  · cases e
  simp only [Value.ownBlock, Option.some.injEq] at hk e
  rw [← e] at hk
  rw [hk, hh2] at hh
  simp only [Option.some.injEq, Obj.cells.injEq] at hh
  exact ht hh.2.1.symm
structure AlI (w1 : World) (B g8 : Nat) (v5 v6 v7 xa xv : Value) (us : List Value) (ts : List (Value × Value)) (ds5 : List By) (ks : List (List Lf)) (ps : List By) (l : List Lf) (W : World) : Prop where
  bel : Below B w1 W
  le : B ≤ W.heap.size
  ge : B ≤ g8
  n7 : v7.ownBlock ≠ some g8
  own5 : OwnD W B v5 ds5
  own6 : OwnX W B v6 us
  own7 : OwnT18 W B v7 ts
  len6 : us.length = ps.length
  e6 : ∀ (j : Nat) (u : Value), us[j]? = some u → RdF v5 v6 v7 g8 W u (ps.getD j [])
  len7 : ts.length = ks.length
  e7 : ∀ (j : Nat) (t : Value × Value), ts[j]? = some t → LfF v5 v6 v7 g8 W t.1 t.2 (ks.getD j [])
  b8 : Blk W g8 [xa, xv] 47
  e8 : LfF v5 v6 v7 g8 W xa xv l
theorem blk_ne18 {W : World} {B z n g : Nat} {t t2 : TypeId} {v : Value} {xs cs : List Value} (h : W.ownsRow B t z v n xs) (hb : Blk W g cs t2) (ht : t ≠ t2) : v.ownBlock ≠ some g := fun e => by
  rcases h with ⟨_, ⟨rfl, _⟩ | ⟨g2, cap, cur, rfl, _, hh, _⟩⟩
  · cases e
  simp only [Value.ownBlock, Option.some.injEq] at e
  subst e
  unfold Blk at hb
  rw [hh] at hb
  simp only [Option.some.injEq, Obj.cells.injEq] at hb
  exact ht hb.2.1
section
variable {w1 W W' : World} {B g8 : Nat} {v5 v6 v7 xa xv : Value} {us : List Value} {ts : List (Value × Value)} {ds5 : List By} {ks : List (List Lf)} {ps : List By} {l : List Lf}
theorem AlI.next (h : AlI w1 B g8 v5 v6 v7 xa xv us ts ds5 ks ps l W) (hb : Below W.heap.size W W') : AlI w1 B g8 v5 v6 v7 xa xv us ts ds5 ks ps l W' :=
  have s : St4 v5 v6 v7 v5 v6 v7 g8 W W' := .of_below hb
  ⟨h.bel.trans (hb.mono h.le), Nat.le_trans h.le hb.size, h.ge, h.n7, ⟨ownsRow_same18 h.own5.1 fun k hk => hb.block k (h.own5.lt k hk).2, h.own5.2⟩, h.own6.same fun k hk => hb.block k (h.own6.lt k hk).2, ownsRow_same18 h.own7 fun k hk => hb.block k (h.own7.lt k hk).2, h.len6, fun j u hj => (h.e6 j u hj).step s, h.len7, fun j t hj => (h.e7 j t hj).step s, h.b8.below hb h.b8.lt, h.e8.step s⟩
theorem AlI.set {ya yv : Value} {l' : List Lf} (h : AlI w1 B g8 v5 v6 v7 xa xv us ts ds5 ks ps l W) (hb : Blk W' g8 [ya, yv] 47) (ho : Only g8 W W') (he : LfF v5 v6 v7 g8 W ya yv l') : AlI w1 B g8 v5 v6 v7 ya yv us ts ds5 ks ps l' W' :=
  have s : St4 v5 v6 v7 v5 v6 v7 g8 W W' := .of_set ho
  have h5 : v5.ownBlock ≠ some g8 := blk_ne18 h.own5.1 h.b8 (by decide)
  have h6 : v6.ownBlock ≠ some g8 := blk_ne18 h.own6 h.b8 (by decide)
  ⟨h.bel.trans (ho.below h.ge h.le), Nat.le_trans h.le ho.size, h.ge, h.n7, ⟨ownsRow_same18 h.own5.1 fun k hk => ho.block k (fun e => h5 (e ▸ hk)) (h.own5.lt k hk).2, h.own5.2⟩, h.own6.same fun k hk => ho.block k (fun e => h6 (e ▸ hk)) (h.own6.lt k hk).2, ownsRow_same18 h.own7 fun k hk => ho.block k (fun e => h.n7 (e ▸ hk)) (h.own7.lt k hk).2, h.len6, fun j u hj => (h.e6 j u hj).step s, h.len7, fun j t hj => (h.e7 j t hj).step s, hb, he.step s⟩
theorem AlI.add5 {v5' : Value} {d : By} (h : AlI w1 B g8 v5 v6 v7 xa xv us ts ds5 ks ps l W) (ho : OwnD W' B v5' (ds5 ++ [d])) (hg : Grow B W v5 W' v5') : AlI w1 B g8 v5' v6 v7 xa xv us ts (ds5 ++ [d]) ks ps l W' :=
  have s : St4 v5 v6 v7 v5' v6 v7 g8 W W' := .of_five hg
  ⟨h.bel.trans hg.below, Nat.le_trans h.le hg.below.size, h.ge, h.n7, ho, h.own6.same fun k hk => hg.other k (fun e => rows_ne18 h.own5.1 h.own6 (by decide) k e.symm hk) (h.own6.lt k hk).2, ownsRow_same18 h.own7 fun k hk => hg.other k (fun e => rows_ne18 h.own5.1 h.own7 (by decide) k e.symm hk) (h.own7.lt k hk).2, h.len6, fun j u hj => (h.e6 j u hj).step s, h.len7, fun j t hj => (h.e7 j t hj).step s, by
    have hl := h.b8.lt
    have hb := h.b8
    unfold Blk at hb ⊢
    rw [hg.other g8 (fun e => blk_ne18 h.own5.1 h.b8 (by decide) e.symm) hl]
    exact hb, h.e8.step s⟩
theorem AlI.add6 {v6' u : Value} {p : By} (h : AlI w1 B g8 v5 v6 v7 xa xv us ts ds5 ks ps l W) (ho : OwnX W' B v6' (us ++ [u])) (hg : GrV W v6 W' v6') (hu : RdF v5 v6 v7 g8 W u p) : AlI w1 B g8 v5 v6' v7 xa xv (us ++ [u]) ts ds5 ks (ps ++ [p]) l W' :=
  have s : St4 v5 v6 v7 v5 v6' v7 g8 W W' := .of_six hg
  ⟨h.bel.trans (hg.below h.le fun k hk => (h.own6.lt k hk).1), Nat.le_trans h.le hg.mt.size, h.ge, h.n7, ⟨ownsRow_same18 h.own5.1 fun k hk => hg.other (h.own5.lt k hk).2 fun e => rows_ne18 h.own6 h.own5.1 (by decide) k e hk, h.own5.2⟩, ho, ownsRow_same18 h.own7 fun k hk => hg.other (h.own7.lt k hk).2 (fun e => rows_ne18 h.own6 h.own7 (by decide) k e hk), by rw [List.length_append, List.length_append, h.len6]; rfl, fun j x hj => by
    rcases Nat.lt_or_ge j us.length with hl | hl
    · rw [List.getElem?_append_left hl] at hj
      rw [List.getD_eq_getElem?_getD, List.getElem?_append_left (by rw [← h.len6]; exact hl), ← List.getD_eq_getElem?_getD]
      exact (h.e6 j x hj).step s
    · rw [List.getElem?_append_right hl] at hj
      have hj0 : j - us.length = 0 := by have := (List.getElem?_eq_some_iff.1 hj).1; simp at this; omega
      rw [hj0] at hj
      cases hj
      rw [List.getD_eq_getElem?_getD, List.getElem?_append_right (by rw [← h.len6]; exact hl), ← h.len6, hj0]
      exact hu.step s, h.len7, fun j t hj => (h.e7 j t hj).step s, hg.mt.blk h.b8 fun e => blk_ne18 h.own6 h.b8 (by decide) e, h.e8.step s⟩
theorem AlI.add7 {v7' : Value} (h : AlI w1 B g8 v5 v6 v7 xa xv us ts ds5 ks ps l W) (ho : OwnT18 W' B v7' (ts ++ [(xa, xv)])) (hg : GrV W v7 W' v7') : AlI w1 B g8 v5 v6 v7' xa xv us (ts ++ [(xa, xv)]) ds5 (ks ++ [l]) ps l W' :=
  have s : St4 v5 v6 v7 v5 v6 v7' g8 W W' := .of_seven hg
  ⟨h.bel.trans (hg.below h.le fun k hk => (h.own7.lt k hk).1), Nat.le_trans h.le hg.mt.size, h.ge, (fun e => (hg.lies g8 e).elim h.n7 fun h1 => by have := h.b8.lt; omega), ⟨ownsRow_same18 h.own5.1 fun k hk => hg.other (h.own5.lt k hk).2 fun e => rows_ne18 h.own7 h.own5.1 (by decide) k e hk, h.own5.2⟩, h.own6.same fun k hk => hg.other (h.own6.lt k hk).2 (fun e => rows_ne18 h.own7 h.own6 (by decide) k e hk), ho, h.len6, fun j u hj => (h.e6 j u hj).step s, by rw [List.length_append, List.length_append, h.len7]; rfl, fun j t hj => by
    rcases Nat.lt_or_ge j ts.length with hl | hl
    · rw [List.getElem?_append_left hl] at hj
      rw [List.getD_eq_getElem?_getD, List.getElem?_append_left (by rw [← h.len7]; exact hl), ← List.getD_eq_getElem?_getD]
      exact (h.e7 j t hj).step s
    · rw [List.getElem?_append_right hl] at hj
      have hj0 : j - ts.length = 0 := by have := (List.getElem?_eq_some_iff.1 hj).1; simp at this; omega
      rw [hj0] at hj
      cases hj
      rw [List.getD_eq_getElem?_getD, List.getElem?_append_right (by rw [← h.len7]; exact hl), ← h.len7, hj0]
      exact h.e8.step s, hg.mt.blk h.b8 h.n7, h.e8.step s⟩
end
structure MoR (v5 v6 v7 : Value) (g8 gm : Nat) (usm : List Value) (psm : List By) (W : World) : Prop where
  fr : Fr4 v5 v6 v7 g8 W gm
  cl : ∀ (j : Nat) (u : Value), usm[j]? = some u → W.cell? ⟨gm, j, none⟩ = some u
  len : usm.length = psm.length
  e : ∀ (j : Nat) (u : Value), usm[j]? = some u → RdF v5 v6 v7 g8 W u (psm.getD j [])
theorem MoR.step {v5 v6 v7 v5' v6' v7' : Value} {g8 gm : Nat} {usm : List Value} {psm : List By} {W W' : World} (h : MoR v5 v6 v7 g8 gm usm psm W) (s : St4 v5 v6 v7 v5' v6' v7' g8 W W') : MoR v5' v6' v7' g8 gm usm psm W' :=
  ⟨h.fr.step s, fun j u hj => by rw [World.cell?_of_block (w := W) (s.keep gm h.fr)]; exact h.cl j u hj, h.len, fun j u hj => (h.e j u hj).step s⟩
theorem Tryz.infoLv18 : (Tryz.prog.info? 47).map (fun i => (i.zero, i.size, i.bytes)) = some (some (.agg #[.slice none 0 0, .slice none 0 0]), 2, 48) := by kernel_rfl
theorem flatT_snoc (ts : List (Value × Value)) (t : Value × Value) : flatT (ts ++ [t]) = flatT ts ++ [t.1, t.2] := by simp [flatT]
theorem wpSeq_appT18 {ops : Array Oper} {Q : Exit → Act → World → Prop} {rest : List Oper} {o : Oper} {a : Act} {w : World} (s x : Operand) (base : Nat) (v xa xv : Value) (ts : List (Value × Value)) (g : Nat)
    (hown : OwnT18 w base v ts) (hu : Blk w g [xa, xv] 47) (h1 : ∀ u ∈ [xa, xv], u.oneCell' = true) (hlen : ts.length < 1000) (hbase : base ≤ w.heap.size)
    (ho : o.op = .call { callee := .builtin .append, args := #[s, x], argTypes := #[27, 27] }) (hs : a.eval s = v) (hx : a.eval x = .slice (some ⟨g, 0, none⟩) 1 1) (hgd : o.guard = none)
    (h : ∀ v' w', OwnT18 w' base v' (ts ++ [(xa, xv)]) → GrV w v w' v' → wpList Tryz.prog ops Q rest (a.put o.dst v') w') : wpList Tryz.prog ops Q (o :: rest) a w := by
  obtain ⟨i0, hi, hz0, hz1, hz2⟩ := info_parts Tryz.infoLv18
  refine wpList_append_own_at (P := Tryz.prog) w hgd s x 27 ho base 47 i0 (.agg #[.slice none 0 0, .slice none 0 0]) 2 48 Tryz.underlying27 hi hz0 hz1 hz2 rfl (by decide) v ts.length (flatT ts) hs hown ⟨g, 0, none⟩ 1 1 [xa, xv] hx rfl (fun j q hj => by rw [Addr.add_mid, Nat.zero_add, hu.cell]; exact hj) h1 (by unfold maxLen; omega) (by omega) hbase ?_
  intro v' w' h2 h3 _ h5
  refine h v' w' ?_ ⟨mut_grown h3, fun k hk => ?_⟩
  · unfold OwnT18; rw [flatT_snoc, List.length_append]; exact h2
  · rcases h5 with h5 | h5
    · exact Or.inl (h5 ▸ hk)
    · rw [h5] at hk; cases hk; exact Or.inr (Nat.le_refl _)
theorem build_t18 (f : Operand → Value) (o : Oper) (x : Operand) (a1 a2 : Option Addr) (n1 n2 c1 c2 : Nat) (hx : f x = .agg #[.slice a1 n1 c1, .slice a2 n2 c2]) (ho : o.op = .buildSlice 27 1 #[(0, x)]) (w : World) : (execOp f o).run Tryz.prog w = .ok (.value (.slice (some ⟨w.heap.size, 0, none⟩) 1 1)) (w.alloc (.cells [Value.slice a1 n1 c1, .slice a2 n2 c2].toArray 47)) := by
  unfold execOp
  rw [ho]
  simp only [List.map_toArray, List.map_cons, List.map_nil, hx]
  kernel_rfl
theorem wpSeq_buildT18 {ops : Array Oper} {Q : Exit → Act → World → Prop} {rest : List Oper} {o : Oper} {a : Act} {w : World} (x : Operand) (a1 a2 : Option Addr) (n1 n2 c1 c2 : Nat) (hx : a.eval x = .agg #[.slice a1 n1 c1, .slice a2 n2 c2]) (ho : o.op = .buildSlice 27 1 #[(0, x)]) (hw : Region.wanted o (yielded ops a.tmps) = true)
    (h : ∀ g w', Blk w' g [.slice a1 n1 c1, .slice a2 n2 c2] 47 → w.heap.size ≤ g → Below w.heap.size w w' → wpList Tryz.prog ops Q rest (a.put o.dst (.slice (some ⟨g, 0, none⟩) 1 1)) w') : wpList Tryz.prog ops Q (o :: rest) a w :=
  wpSeq_val _ _ hw (build_t18 _ o x a1 a2 n1 n2 c1 c2 hx ho w) (h _ _ (Blk.new w _ _) (Nat.le_refl _) (below_alloc w _))
def ReadsBo (w : World) (v : Value) (bs : List Bool) : Prop := ∃ ad cap, v = .slice ad bs.length cap ∧ (0 < bs.length → ∃ b off, ad = some ⟨b, off, none⟩ ∧ ∀ j, j < bs.length → w.cell? ⟨b, off + j, none⟩ = some (.bool (bs.getD j false)))
theorem ReadsBo.below {w w' : World} {v : Value} {bs : List Bool} (h : ReadsBo w v bs) (hb : Below w.heap.size w w') : ReadsBo w' v bs := by
  obtain ⟨ad, cap, h1, h2⟩ := h
  refine ⟨ad, cap, h1, fun hp => ?_⟩
  obtain ⟨b, off, h3, h4⟩ := h2 hp
  exact ⟨b, off, h3, fun j hj => by rw [hb.cell (p := ⟨b, off + j, none⟩) (block_lt_of_cell (h4 j hj))]; exact h4 j hj⟩
def addNew (P m : List By) : List By := m.foldl (fun P p => if p ∈ P then P else P ++ [p]) P
theorem addNew_snoc (P m : List By) (p : By) : addNew P (m ++ [p]) = if p ∈ addNew P m then addNew P m else addNew P m ++ [p] := by unfold addNew; rw [List.foldl_append]; rfl
theorem addNew_spec : ∀ (m P : List By), P.Nodup → (addNew P m).Nodup ∧ (∀ p, p ∈ addNew P m ↔ p ∈ P ∨ p ∈ m) ∧ (addNew P m).length ≤ P.length + m.length
  | [], P, h => ⟨h, fun p => by simp [addNew], Nat.le_refl _⟩
  | q :: m, P, h => by
    have e : addNew P (q :: m) = addNew (if q ∈ P then P else P ++ [q]) m := rfl
    by_cases hq : q ∈ P
    · rw [e, if_pos hq]
      obtain ⟨h1, h2, h3⟩ := addNew_spec m P h
      refine ⟨h1, fun p => ?_, by rw [List.length_cons]; omega⟩
      rw [h2, List.mem_cons]
      exact ⟨fun h => h.elim Or.inl fun h => Or.inr (Or.inr h), fun h => h.elim Or.inl fun h => h.elim (fun e => Or.inl (e ▸ hq)) Or.inr⟩
    · rw [e, if_neg hq]
      obtain ⟨h1, h2, h3⟩ := addNew_spec m (P ++ [q]) (List.nodup_append.2 ⟨h, by simp, fun a ha b hb hab => hq (by rw [List.mem_singleton.1 hb] at hab; exact hab ▸ ha)⟩)
      refine ⟨h1, fun p => ?_, by rw [List.length_append] at h3; simp at h3; rw [List.length_cons]; omega⟩
      rw [h2, List.mem_append, List.mem_singleton, List.mem_cons]
      exact ⟨fun h => h.elim (fun h => h.elim Or.inl fun h => Or.inr (Or.inl h)) fun h => Or.inr (Or.inr h), fun h => h.elim (fun h => Or.inl (Or.inl h)) fun h => h.elim (fun h => Or.inl (Or.inr h)) Or.inr⟩
def allL (z : List Lf) (i : Nat) : List Lf := ofL (z.take i)
def pgs (z : List Lf) : Nat → List By
  | 0 => []
  | i + 1 => addNew (pgs z i) (saveL 0 (allL z (i + 1)))
def kps (z : List Lf) (bs : List Bool) : Nat → List (List Lf)
  | 0 => []
  | i + 1 => kps z bs i ++ (if i < bs.length ∧ bs.getD i false = true then [allL z (i + 1)] else [])
theorem allL_succ {z : List Lf} {i : Nat} (hi : i < z.length) : allL z (i + 1) = putL (allL z i) (z.getD i ([], [])).1 (z.getD i ([], [])).2 := by
  unfold allL
  rw [take_map hi, ofL_snoc]
theorem allL_ok {z : List Lf} (hz : okLf z) (i : Nat) : okLf (allL z i) ∧ Up (allL z i) ∧ (allL z i).length ≤ i := by
  have h := ofL_good (z.take i) fun p hp => hz p (List.mem_of_mem_take hp)
  have h2 := ofL_len (z.take i)
  rw [List.length_take] at h2
  exact ⟨h.1, h.2, Nat.le_trans h2 (Nat.min_le_left _ _)⟩
theorem pgs_spec {z : List Lf} (hz : okLf z) : ∀ i, (pgs z i).Nodup ∧ (∀ j, 1 ≤ j → j ≤ i → ∀ p ∈ saveL 0 (allL z j), p ∈ pgs z i) ∧ (∀ p ∈ pgs z i, 1 ≤ p.length ∧ p.length ≤ 512) ∧ (pgs z i).length ≤ i + 128 * (i * (i + 1))
  | 0 => ⟨by simp [pgs], fun j h1 h2 => by omega, fun p hp => by simp [pgs] at hp, Nat.le_refl _⟩
  | i + 1 => by
    obtain ⟨h1, h2, h3, h4⟩ := pgs_spec hz i
    obtain ⟨o1, o2, o3⟩ := allL_ok hz (i + 1)
    obtain ⟨a1, a2, a3⟩ := addNew_spec (saveL 0 (allL z (i + 1))) (pgs z i) h1
    refine ⟨a1, fun j hj1 hj2 p hp => (a2 p).2 ?_, fun p hp => ?_, ?_⟩
    · rcases Nat.lt_or_ge i j with h | h
      · have : j = i + 1 := by omega
        subst this
        exact Or.inr hp
      · exact Or.inl (h2 j hj1 h p hp)
    · rcases (a2 p).1 hp with h | h
      · exact h3 p h
      · exact save_short 256 0 _ (by omega) (fits_zero o1 o2) p h
    · have hc := save_count 256 0 _ rfl (fits_zero o1 o2)
      have e : (pgs z (i + 1)).length ≤ (pgs z i).length + (1 + 256 * (i + 1)) := Nat.le_trans a3 (Nat.add_le_add_left (Nat.le_trans hc (Nat.add_le_add_left (Nat.mul_le_mul_left 256 o3) 1)) _)
      have e2 : (i + 1) * (i + 1 + 1) = i * (i + 1) + 2 * (i + 1) := by rw [Nat.add_mul, Nat.mul_add i (i + 1) 1]; omega
      rw [e2]; omega
theorem kps_of {z : List Lf} {bs : List Bool} : ∀ i, ∀ l ∈ kps z bs i, ∃ j, 1 ≤ j ∧ j ≤ i ∧ l = allL z j
  | 0, l, h => by cases h
  | i + 1, l, h => by
    simp only [kps, List.mem_append] at h
    rcases h with h | h
    · obtain ⟨j, h1, h2, h3⟩ := kps_of i l h
      exact ⟨j, h1, by omega, h3⟩
    · split at h
      · exact ⟨i + 1, by omega, Nat.le_refl _, List.mem_singleton.1 h⟩
      · cases h
theorem kps_len {z : List Lf} {bs : List Bool} : ∀ i, (kps z bs i).length ≤ i
  | 0 => Nat.le_refl _
  | i + 1 => by
    have := kps_len (z := z) (bs := bs) i
    simp only [kps, List.length_append]
    split <;> simp <;> omega
theorem kps_good {z : List Lf} {bs : List Bool} (hz : okLf z) {i : Nat} (hi : i ≤ 20) : ∀ l ∈ kps z bs i, GoodT (pgs z i) l := fun l hl => by
  obtain ⟨j, h1, h2, rfl⟩ := kps_of i l hl
  obtain ⟨o1, o2, o3⟩ := allL_ok hz j
  exact ⟨o1, o2, by omega, (pgs_spec hz i).2.1 j h1 h2⟩
end Go.Proofs.YtphmmnffgknkcabGreatDoor
namespace Go.Proofs.YtphmmnffgknkcabGreatDoor
open Go.RowKit
set_option maxRecDepth 100000
theorem wpAnyH_one {P : Program} {md : Region.Mode} {ops : Array Oper} {Q : Exit → Act → World → Prop} {S : World → Prop} {fuel : Nat} {listed : Array Bool} {a : Act} {w : World} (i : Nat) (hr : Region.ready md ops listed = [i])
    (h1 : wpOp P ops Q i (fun a' w' => S w' ∧ wpAnyH P md ops Q S fuel (listed.setIfInBounds i true) a' w') a w) : wpAnyH P md ops Q S (fuel + 1) listed a w := by
  refine wpAnyH_all hr (by simp) (fun k hk => ?_)
  obtain rfl : k = i := by simpa using hk
  exact h1
theorem wpAnyH_storeRow {md : Region.Mode} {ops : Array Oper} {Q : Exit → Act → World → Prop} {S : World → Prop} {fuel : Nat} {listed : Array Bool} {a : Act} {w : World} (i : Nat) {oi : Oper} (ty : TypeId) (x y : Operand) (g : Nat) (cs ns : List Value) (hb : Blk w g cs ty) (hl : ns.length = cs.length) (hi0 : (Tryz.prog.info? ty).map (·.size) = some ns.length) (h1 : ∀ v ∈ ns, v.oneCell' = true)
    (hr : Region.ready md ops listed = [i]) (hi : ops[i]? = some oi) (hw : Region.wanted oi (yielded ops a.tmps) = true) (ho : oi.op = .store ty x y) (hx : a.eval x = .pointer (some ⟨g, 0, none⟩)) (hy : a.eval y = .agg ns.toArray)
    (h : ∀ w', SetR ns ty w g w' → S w' ∧ wpAnyH Tryz.prog md ops Q S fuel (listed.setIfInBounds i true) (a.put oi.dst undef) w') : wpAnyH Tryz.prog md ops Q S (fuel + 1) listed a w :=
  wpAnyH_law i hr hi hw (wp_store_mid ty x y ho g 0 ns.toArray hx hy (hb.there 0 _ (by rw [List.size_toArray, hl]; omega)) (by rw [List.size_toArray]; exact hi0) (all_oneCell_toArray h1) (by rw [List.toList_toArray]; exact h _ (SetR.of hb hl)))
theorem one_nil18 : ∀ v ∈ [nilV, nilV], v.oneCell' = true := fun v hv => by
  simp only [List.mem_cons, List.not_mem_nil, or_false] at hv
  rcases hv with rfl | rfl <;> rfl
theorem alI_new {w1 W : World} {g8 : Nat} (hb : Below w1.heap.size w1 W) (hg : w1.heap.size ≤ g8) (h8 : Blk W g8 [nilV, nilV] 47) : AlI w1 w1.heap.size g8 (.slice none 0 0) (.slice none 0 0) (.slice none 0 0) (.slice none 0 0) (.slice none 0 0) [] [] [] [] [] [] W :=
  ⟨hb, hb.size, hg, (by intro e; cases e), OwnD.nil _ _, OwnX.nil _ _, OwnT18.nil _ _, rfl, (fun j u h => by simp at h), rfl, (fun j t h => by simp at h), h8, ⟨⟨(OwnD.nil W 0).readsD, (OwnD.nil W 0).readsD⟩, fun k h => by rcases h with h | h <;> cases h⟩⟩
def TrsR (w : World) (v : Value) (ks : List (List Lf)) : Prop := ∃ ad cap, v = .slice ad ks.length cap ∧ (0 < ks.length → ∃ g, ad = some ⟨g, 0, none⟩ ∧ ∀ j, j < ks.length → ∃ a1 n1 c1 a2 n2 c2, w.rangeAt g (j * 2) [.slice a1 n1 c1, .slice a2 n2 c2] ∧ ReadsLf w (.slice a1 n1 c1) (.slice a2 n2 c2) (ks.getD j []))
theorem flatT_at : ∀ (ts : List (Value × Value)) (j : Nat) (t : Value × Value), ts[j]? = some t → (flatT ts)[j * 2]? = some t.1 ∧ (flatT ts)[j * 2 + 1]? = some t.2
  | [], j, t, h => by simp at h
  | s :: r, 0, t, h => by simp only [List.getElem?_cons_zero, Option.some.injEq] at h; subst h; exact ⟨rfl, rfl⟩
  | s :: r, j + 1, t, h => by
    have h2 := flatT_at r j t (by simpa using h)
    have e : flatT (s :: r) = s.1 :: s.2 :: flatT r := rfl
    rw [e, show (j + 1) * 2 = j * 2 + 1 + 1 by omega]
    simpa using h2
theorem slice_of_row18 {W : World} {B z n : Nat} {t : TypeId} {v : Value} {xs : List Value} (h : W.ownsRow B t z v n xs) : ∃ a m c, v = .slice a m c := by
  rcases h with ⟨_, ⟨rfl, _⟩ | ⟨g, cap, cur, rfl, _⟩⟩
  · exact ⟨none, 0, 0, rfl⟩
  · exact ⟨_, _, _, rfl⟩
section
variable {w1 W : World} {B g8 : Nat} {v5 v6 v7 xa xv : Value} {us : List Value} {ts : List (Value × Value)} {ds5 : List By} {ks : List (List Lf)} {ps : List By} {l : List Lf}
theorem AlI.readsL (h : AlI w1 B g8 v5 v6 v7 xa xv us ts ds5 ks ps l W) : ReadsL W v6 ps := by
  have hl := h.len6
  rcases h.own6 with ⟨_, ⟨e1, h2⟩ | ⟨g, cap, cur, e1, hg, hh, hc, hm, hs, ht⟩⟩
  · have : ps = [] := List.eq_nil_of_length_eq_zero (by rw [← hl]; exact h2)
    subst this
    exact ⟨none, 0, e1, Nat.le_refl _, fun _ => rfl, fun hp => by simp at hp⟩
  · refine ⟨_, cap, by rw [e1, hl], by rw [← hl]; exact hc, (fun e => by cases e), fun hp => ⟨g, 0, rfl, fun j hj => ?_⟩⟩
    have hju : j < us.length := by rw [hl]; exact hj
    obtain ⟨g2, c2, e2, hc2, _⟩ := h.own6.at (j := j) (u := us[j]) (by rw [List.getElem?_eq_getElem hju])
    rw [e1] at e2
    cases e2
    exact ⟨us[j], by rw [Nat.zero_add]; exact hc2, (h.e6 j us[j] (by rw [List.getElem?_eq_getElem hju])).1⟩
theorem AlI.trs (h : AlI w1 B g8 v5 v6 v7 xa xv us ts ds5 ks ps l W) : TrsR W v7 ks := by
  have hl := h.len7
  rcases h.own7 with ⟨_, ⟨e1, h2⟩ | ⟨g, cap, cur, e1, hg, hh, hc, hm, hs, ht⟩⟩
  · have : ks = [] := List.eq_nil_of_length_eq_zero (by rw [← hl]; exact h2)
    subst this
    exact ⟨none, 0, e1, fun hp => by simp at hp⟩
  · refine ⟨_, cap, by rw [e1, hl], fun hp => ⟨g, rfl, fun j hj => ?_⟩⟩
    have hju : j < ts.length := by rw [hl]; exact hj
    have he := h.e7 j ts[j] (List.getElem?_eq_getElem hju)
    obtain ⟨a1, c1, e3⟩ := he.1.1.slice
    obtain ⟨a2, c2, e4⟩ := he.1.2.slice
    obtain ⟨f1, f2⟩ := flatT_at ts j ts[j] (List.getElem?_eq_getElem hju)
    refine ⟨a1, _, c1, a2, _, c2, ?_, by rw [← e3, ← e4]; exact he.1⟩
    rw [← ht, List.getElem?_take_of_lt (by omega)] at f1 f2
    intro i v hv
    have hcell : ∀ i, W.cell? ⟨g, i, none⟩ = cur[i]? := fun i => cell_of_row W g i cur 47 (0, 0) hh
    match i, hv with
    | 0, hv => cases hv; rw [Nat.add_zero, hcell, ← e3]; simpa using f1
    | 1, hv => cases hv; rw [hcell, ← e4]; simpa using f2
    | _ + 2, hv => simp at hv
theorem AlI.form6 (h : AlI w1 B g8 v5 v6 v7 xa xv us ts ds5 ks ps l W) {j : Nat} (hj : j < ps.length) : ∃ g c u, v6 = .slice (some ⟨g, 0, none⟩) ps.length c ∧ us[j]? = some u ∧ W.cell? ⟨g, j, none⟩ = some u ∧ Reads W u (ps.getD j []) := by
  have hju : j < us.length := by rw [h.len6]; exact hj
  obtain ⟨g, c, e, hc, _⟩ := h.own6.at (j := j) (u := us[j]) (List.getElem?_eq_getElem hju)
  exact ⟨g, c, us[j], by rw [e, h.len6], List.getElem?_eq_getElem hju, hc, (h.e6 j _ (List.getElem?_eq_getElem hju)).1⟩
end
set_option maxRecDepth 100000 in
set_option maxHeartbeats 32000000 in
theorem all18_any (va vv vk : Value) (ds es : List By) (bs : List Bool) (w : World) (hK : KOk w) (hA : ReadsD w va ds) (hV : ReadsD w vv es) (hB : ReadsBo w vk bs) :
    Calls Tryz.prog 6 #[.agg #[va, vv, vk]] w fun e w' => ∃ v2 v3 v4, e = .returned (.tuple #[v2, v3, v4]) ∧ ReadsD w' v2 ((kps (ds.zip es) bs (min (min ds.length es.length) 20)).map fun l => dig (topPg 0 l)) ∧ ReadsL w' v3 (pgs (ds.zip es) (min (min ds.length es.length) 20)) ∧ TrsR w' v4 (kps (ds.zip es) bs (min (min ds.length es.length) 20)) ∧ Below w.heap.size w w' := by
  have HK : Hid (KOk w) := hK
  have HA : Hid (ReadsD w va ds) := hA
  have HV : Hid (ReadsD w vv es) := hV
  have HBO : Hid (ReadsBo w vk bs) := hB
  obtain ⟨z, HZ⟩ : ∃ x, Hid (x = ds.zip es) := ⟨_, rfl⟩
  obtain ⟨n, HN⟩ : ∃ x, Hid (x = min (min ds.length es.length) 20) := ⟨_, rfl⟩
  rw [← HZ.out, ← HN.out]
  have HZO : Hid (okLf z) := by rw [HZ.out]; exact zip_okR hA hV
  obtain ⟨ada, cpa, hva⟩ := hA.slice
  obtain ⟨adv, cpv, hvv⟩ := hV.slice
  obtain ⟨adk, cpk, hvk, hxk⟩ := id hB
  obtain ⟨nA, HNA⟩ : ∃ x, Hid (x = ds.length) := ⟨_, rfl⟩
  obtain ⟨nV, HNV⟩ : ∃ x, Hid (x = es.length) := ⟨_, rfl⟩
  obtain ⟨nK, HNK⟩ : ∃ x, Hid (x = bs.length) := ⟨_, rfl⟩
  rw [← HNA.out] at hva
  rw [← HNV.out] at hvv
  rw [← HNK.out] at hvk
  subst hva hvv hvk
  have HXK : Hid (0 < bs.length → ∃ b off, adk = some ⟨b, off, none⟩ ∧ ∀ j, j < bs.length → w.cell? ⟨b, off + j, none⟩ = some (.bool (bs.getD j false))) := hxk
  have hn20 : n ≤ 20 := by rw [HN.out]; omega
  have hnA : n ≤ nA := by rw [HN.out, HNA.out]; omega
  have hnV : n ≤ nV := by rw [HN.out, HNV.out]; omega
  have hn3 : n = nA ∨ n = nV ∨ n = 20 := by rw [HN.out, HNA.out, HNV.out]; omega
  have hzl : n ≤ z.length := by rw [HZ.out, List.length_zip, HN.out]; omega
  clear hK hA hV hB hxk
  go_enter Tryz.func6, Tryz.ntmps6
  have ta0 : Hid True := trivial
  have ta1 : Hid True := trivial
  have ta2 : Hid True := trivial
  go_wp2_with (first
    | (clear ta0; with_reducible refine wpSeq_boxW 25 (.tmp 0) [Value.slice ada nA cpa, .slice adv nV cpv, .slice adk nK cpk] ?_ ?_ ?_ ?_
       · rfl
       · rfl
       · rfl
       intro g1 w1 nn
       have HB1 : Hid (Below w.heap.size w w1) := nn.below
       have H1 : Hid (Blk w1 g1 [Value.slice ada nA cpa, .slice adv nV cpv, .slice adk nK cpk] 25) := nn.blk
       clear nn)
    | (clear ta1; with_reducible refine wpSeq_allocLvs ?_ ?_ ?_
       · rfl
       · rfl
       intro g8 w2 nn
       have HNN : Hid (NewR [nilV, nilV] 47 w1 g8 w2) := nn
       clear nn)
    | (clear ta2; with_reducible refine wpSeq_storeRow 47 (.tmp 8) (.tmp 15) g8 [nilV, nilV] [nilV, nilV] HNN.out.blk rfl info_lvs one_nil18 ?_ ?_ ?_ ?_ ?_
       · rfl
       · rfl
       · rfl
       · rfl
       intro w3 sr
       have HI0 : Hid (AlI w1 w1.heap.size g8 (.slice none 0 0) (.slice none 0 0) (.slice none 0 0) (.slice none 0 0) (.slice none 0 0) [] [] [] [] [] [] w3) := alI_new (HNN.out.below.trans (sr.only.below HNN.out.ge HNN.out.below.size)) HNN.out.ge sr.blk
       clear sr HNN))
  obtain ⟨B, HBB⟩ : ∃ x, Hid (x = w1.heap.size) := ⟨_, rfl⟩
  rw [← HBB.out] at HI0
  have HW : Hid (∀ W, Below B w1 W → B ≤ W.heap.size ∧ KOk W ∧ Below w.heap.size w W ∧ Blk W g1 [Value.slice ada nA cpa, .slice adv nV cpv, .slice adk nK cpk] 25) := fun W hW => by
    rw [HBB.out] at hW ⊢
    exact ⟨hW.size, (HK.out.below HB1.out HK.out.lt).below hW (HK.out.below HB1.out HK.out.lt).lt, HB1.out.trans (hW.mono HB1.out.size), H1.out.below hW H1.out.lt⟩
  clear HB1 H1
  go_wp2
  go_loopw [5, 6, 7, 9] (fun a b c i W => ∃ (q : Nat) (a5 : Option Addr) (n5 c5 : Nat) (a6 : Option Addr) (n6 c6 : Nat) (a7 : Option Addr) (n7 c7 : Nat) (us : List Value) (ts : List (Value × Value)) (axa : Option Addr) (nxa cxa : Nat) (axv : Option Addr) (nxv cxv : Nat), q ≤ n ∧ a = (.slice a5 n5 c5) ∧ b = (.slice a6 n6 c6) ∧ c = (.slice a7 n7 c7) ∧ i = .int .i64 (q : Int) ∧ Hid (AlI w1 B g8 (.slice a5 n5 c5) (.slice a6 n6 c6) (.slice a7 n7 c7) (.slice axa nxa cxa) (.slice axv nxv cxv) us ts ((kps z bs q).map fun l => dig (topPg 0 l)) (kps z bs q) (pgs z q) (allL z q) W)) (fun _ _ _ i _ => n - (intOf i).toNat)
  case atStart => exact ⟨0, none, 0, 0, none, 0, 0, none, 0, 0, [], [], none, 0, 0, none, 0, 0, Nat.zero_le _, rfl, rfl, rfl, rfl, HI0.out⟩
  case round =>
    clear HI0
    obtain ⟨q, a5, n5, c5, a6, n6, c6, a7, n7, c7, us, ts, axa, nxa, cxa, axv, nxv, cxv, hq, rfl, rfl, rfl, rfl, HI⟩ := hrel
    have cA : wr.cell? ⟨g1, 0, none⟩ = some (.slice ada nA cpa) := (HW.out _ HI.out.bel).2.2.2.cell 0
    have cV : wr.cell? ⟨g1, 1, none⟩ = some (.slice adv nV cpv) := (HW.out _ HI.out.bel).2.2.2.cell 1
    by_cases hlt : q < n
    case pos =>
      have hqA : (q : Int) < (nA : Int) := by omega
      have hqV : (q : Int) < (nV : Int) := by omega
      have hq20 : (q : Int) < 20 := by omega
      have fq : IntKind.i64.wrap ((q : Int) + 1) = (q : Int) + 1 := by rw [IntKind.wrap_i64]; omega
      obtain ⟨x, HX⟩ : ∃ y, Hid (y = ds.getD q []) := ⟨_, rfl⟩
      obtain ⟨y, HY⟩ : ∃ x, Hid (x = es.getD q []) := ⟨_, rfl⟩
      have HXL : Hid (x.length = 32) := by show _ = _; rw [HX.out]; exact getD_mem32 HA.out.2 (by rw [← HNA.out]; omega)
      have HYL : Hid (y.length = 32) := by show _ = _; rw [HY.out]; exact getD_mem32 HV.out.2 (by rw [← HNV.out]; omega)
      obtain ⟨ba, oa, ca2, hva, hya⟩ := HA.out.at (by rw [← HNA.out]; omega)
      rw [← HNA.out] at hva hya
      simp only [Value.slice.injEq, true_and] at hva
      obtain ⟨rfl, rfl⟩ := hva
      obtain ⟨bv, ov, cv2, hvv, hyv⟩ := HV.out.at (by rw [← HNV.out]; omega)
      rw [← HNV.out] at hvv hyv
      simp only [Value.slice.injEq, true_and] at hvv
      obtain ⟨rfl, rfl⟩ := hvv
      have hra := hya q (by omega)
      have hrv := hyv q (by omega)
      rw [← HX.out] at hra
      rw [← HY.out] at hrv
      have HXR : Hid (∀ W, Below B w1 W → W.rangeAt ba (oa + q * 32) (cb x) ∧ W.rangeAt bv (ov + q * 32) (cb y)) := fun W hW => ⟨rangeAt_below hra (HW.out W hW).2.2.1 (range_lt hra (by rw [cb_len, HXL.out]; decide)), rangeAt_below hrv (HW.out W hW).2.2.1 (range_lt hrv (by rw [cb_len, HYL.out]; decide))⟩
      clear hya hyv hra hrv
      obtain ⟨L, HL⟩ : ∃ y, Hid (y = allL z (q + 1)) := ⟨_, rfl⟩
      have HLP : Hid (L = putL (allL z q) x y) := by
        show _ = _
        rw [HL.out, allL_succ (by omega), HX.out, HY.out, HZ.out]
        have h1 : q < ds.length := by rw [← HNA.out]; omega
        have h2 : q < es.length := by rw [← HNV.out]; omega
        have hz : (ds.zip es)[q]? = some (ds[q], es[q]) := by rw [List.getElem?_zip_eq_some]; exact ⟨List.getElem?_eq_getElem h1, List.getElem?_eq_getElem h2⟩
        rw [List.getD_eq_getElem?_getD, hz, List.getD_eq_getElem?_getD, List.getD_eq_getElem?_getD, List.getElem?_eq_getElem h1, List.getElem?_eq_getElem h2]
        rfl
      have HLO : Hid (okLf L ∧ Up L ∧ L.length ≤ 20) := by rw [HL.out]; have h := allL_ok HZO.out (q + 1); exact ⟨h.1, h.2.1, by omega⟩
      have HLQ : Hid ((allL z q).length ≤ 20) := by show _ ≤ _; have h := (allL_ok HZO.out q).2.2; omega
      obtain ⟨S, HS⟩ : ∃ y, Hid (y = saveL 0 L) := ⟨_, rfl⟩
      have HSL : Hid (S.length ≤ 25601 ∧ ∀ p ∈ S, 1 ≤ p.length ∧ p.length ≤ 512) := by rw [HS.out]; exact ⟨save_few HLO.out.1 HLO.out.2.1 (by have := HLO.out.2.2; omega), save_short 256 0 L (by omega) (fits_zero HLO.out.1 HLO.out.2.1)⟩
      obtain ⟨d, HDD⟩ : ∃ y, Hid (y = dig (topPg 0 L)) := ⟨_, rfl⟩
      have HDL : Hid (d.length = 32) := by show _ = _; rw [HDD.out]; exact len_dig' _
      obtain ⟨P, HP⟩ : ∃ y, Hid (y = pgs z q) := ⟨_, rfl⟩
      have HPX : Hid (pgs z (q + 1) = addNew P S) := by show _ = _; rw [HS.out, HL.out, HP.out]; rfl
      have HPL : Hid (P.Nodup ∧ P.length ≤ 53780) := by
        rw [HP.out]
        have h := pgs_spec HZO.out q
        refine ⟨h.1, Nat.le_trans h.2.2.2 ?_⟩
        have : q * (q + 1) ≤ 20 * 21 := Nat.mul_le_mul (by omega) (by omega)
        omega
      rw [← HP.out] at HI
      go_wp2
      refine wp_region_held_drew (S := Below B w1) (by kernel_rfl) (HI.out.bel.drew) ?_
      intro hS
      have HId : Hid (AlI w1 B g8 (.slice a5 n5 c5) (.slice a6 n6 c6) (.slice a7 n7 c7) (.slice axa nxa cxa) (.slice axv nxv cxv) us ts ((kps z bs q).map fun l => dig (topPg 0 l)) (kps z bs q) P (allL z q) wr.drew) := HI.out.next (Below.refl _ _).drew
      clear HI cA cV
      change wpAnyH _ _ _ _ _ _ _ _ (World.drew wr)
      generalize World.drew wr = wd at *
      refine wpAnyH_take (i := 1) (v := .pointer (some ⟨g1, 0, none⟩)) rfl (by kernel_rfl) (by kernel_rfl) (by kernel_rfl) (fun _ _ _ h => h) (Or.inl ⟨by rfl, fun wx hx => by simp [go_sem]⟩) hS ?_
      simp only [Act.put, List.getElem_toArray, List.getElem_cons_succ, List.getElem_cons_zero, List.setIfInBounds_toArray, List.set_cons_zero, List.set_cons_succ]
      refine wpAnyH_take (i := 2) (v := .slice (some ⟨ba, oa, none⟩) nA cpa) rfl (by kernel_rfl) (by kernel_rfl) (by kernel_rfl) (fun _ _ _ h => h) (Or.inl ⟨by rfl, fun wx hx => by (have hq := (HW.out wx hx).2.2.2.cell 0; simp [go_sem] at hq ⊢; simp [hq])⟩) hS ?_
      simp only [Act.put, List.getElem_toArray, List.getElem_cons_succ, List.getElem_cons_zero, List.setIfInBounds_toArray, List.set_cons_zero, List.set_cons_succ]
      refine wpAnyH_take (i := 3) (v := .int .i64 (q : Int)) rfl (by kernel_rfl) (by kernel_rfl) (by kernel_rfl) (fun _ _ _ h => h) (Or.inl ⟨by rfl, fun wx hx => by simp [go_sem]⟩) hS ?_
      simp only [Act.put, List.getElem_toArray, List.getElem_cons_succ, List.getElem_cons_zero, List.setIfInBounds_toArray, List.set_cons_zero, List.set_cons_succ]
      refine wpAnyH_take (i := 4) (v := .pointer (some ⟨ba, oa + q * 32, none⟩)) rfl (by kernel_rfl) (by kernel_rfl) (by kernel_rfl) (fun _ _ _ h => h) (Or.inl ⟨by rfl, fun wx hx => by exact idxD17 ba oa cpa nA q (by omega) _ _ _ _ rfl rfl rfl _⟩) hS ?_
      simp only [Act.put, List.getElem_toArray, List.getElem_cons_succ, List.getElem_cons_zero, List.setIfInBounds_toArray, List.set_cons_zero, List.set_cons_succ]
      refine wpAnyH_take (i := 5) (v := .agg (cb x).toArray) rfl (by kernel_rfl) (by kernel_rfl) (by kernel_rfl) (fun _ _ _ h => h) (Or.inl ⟨by rfl, fun wx hx => by (have hr := (HXR.out wx hx).1; exact load_run 40 _ rfl _ _ rfl (cb x) _ hr Tryz.underlying40 rfl (by rw [cb_len, HXL.out]; exact info_digest))⟩) hS ?_
      simp only [Act.put, List.getElem_toArray, List.getElem_cons_succ, List.getElem_cons_zero, List.setIfInBounds_toArray, List.set_cons_zero, List.set_cons_succ]
      refine wpAnyH_take (i := 6) (v := .pointer (some ⟨g1, 1, none⟩)) rfl (by kernel_rfl) (by kernel_rfl) (by kernel_rfl) (fun _ _ _ h => h) (Or.inl ⟨by rfl, fun wx hx => by simp [go_sem]⟩) hS ?_
      simp only [Act.put, List.getElem_toArray, List.getElem_cons_succ, List.getElem_cons_zero, List.setIfInBounds_toArray, List.set_cons_zero, List.set_cons_succ]
      refine wpAnyH_take (i := 7) (v := .slice (some ⟨bv, ov, none⟩) nV cpv) rfl (by kernel_rfl) (by kernel_rfl) (by kernel_rfl) (fun _ _ _ h => h) (Or.inl ⟨by rfl, fun wx hx => by (have hq := (HW.out wx hx).2.2.2.cell 1; simp [go_sem] at hq ⊢; simp [hq])⟩) hS ?_
      simp only [Act.put, List.getElem_toArray, List.getElem_cons_succ, List.getElem_cons_zero, List.setIfInBounds_toArray, List.set_cons_zero, List.set_cons_succ]
      refine wpAnyH_take (i := 8) (v := .int .i64 (q : Int)) rfl (by kernel_rfl) (by kernel_rfl) (by kernel_rfl) (fun _ _ _ h => h) (Or.inl ⟨by rfl, fun wx hx => by simp [go_sem]⟩) hS ?_
      simp only [Act.put, List.getElem_toArray, List.getElem_cons_succ, List.getElem_cons_zero, List.setIfInBounds_toArray, List.set_cons_zero, List.set_cons_succ]
      refine wpAnyH_take (i := 9) (v := .pointer (some ⟨bv, ov + q * 32, none⟩)) rfl (by kernel_rfl) (by kernel_rfl) (by kernel_rfl) (fun _ _ _ h => h) (Or.inl ⟨by rfl, fun wx hx => by exact idxD17 bv ov cpv nV q (by omega) _ _ _ _ rfl rfl rfl _⟩) hS ?_
      simp only [Act.put, List.getElem_toArray, List.getElem_cons_succ, List.getElem_cons_zero, List.setIfInBounds_toArray, List.set_cons_zero, List.set_cons_succ]
      refine wpAnyH_take (i := 10) (v := .agg (cb y).toArray) rfl (by kernel_rfl) (by kernel_rfl) (by kernel_rfl) (fun _ _ _ h => h) (Or.inl ⟨by rfl, fun wx hx => by (have hr := (HXR.out wx hx).2; exact load_run 40 _ rfl _ _ rfl (cb y) _ hr Tryz.underlying40 rfl (by rw [cb_len, HYL.out]; exact info_digest))⟩) hS ?_
      simp only [Act.put, List.getElem_toArray, List.getElem_cons_succ, List.getElem_cons_zero, List.setIfInBounds_toArray, List.set_cons_zero, List.set_cons_succ]
      refine wpAnyH_one 0 (by kernel_rfl) ?_
      refine wpOp_vl 0 (.agg #[.slice axa nxa cxa, .slice axv nxv cxv]) _ (by rfl) (by rfl) (load_run 47 _ rfl _ 0 rfl [Value.slice axa nxa cxa, .slice axv nxv cxv] _ HId.out.b8.range Tryz.underlying47 rfl info_lvs) ⟨hS, ?_⟩
      simp only [Act.put, List.getElem_toArray, List.getElem_cons_zero, List.setIfInBounds_toArray, List.set_cons_zero, List.set_cons_succ]
      refine wpAnyH_enter 11 (by kernel_rfl) rfl (by rfl) (f := 14) (args := #[.agg #[.slice axa nxa cxa, .slice axv nxv cxv], .agg (cb x).toArray, .agg (cb y).toArray]) (by simp [go_sem]) (lfPut_any _ _ (allL z q) x y wd HId.out.e8.1 (by have := HLQ.out; omega) HXL.out HYL.out) ?_
      rintro e w5 ⟨ya, yv, rfl, ho, hb⟩
      rw [← HLP.out] at ho
      have hrd := ho.reads
      obtain ⟨aya, cya, hya⟩ := hrd.1.slice
      obtain ⟨ayv, cyv, hyv⟩ := hrd.2.slice
      generalize (L.map (·.1)).length = nya at hya
      generalize (L.map (·.2)).length = nyv at hyv
      subst hya hyv
      have hS5 : Below B w1 w5 := hS.trans (hb.mono (HW.out _ hS).1)
      have HI5 : Hid (AlI w1 B g8 (.slice a5 n5 c5) (.slice a6 n6 c6) (.slice a7 n7 c7) (.slice axa nxa cxa) (.slice axv nxv cxv) us ts ((kps z bs q).map fun l => dig (topPg 0 l)) (kps z bs q) P (allL z q) w5) := HId.out.next hb
      have HLF : Hid (LfF (.slice a5 n5 c5) (.slice a6 n6 c6) (.slice a7 n7 c7) g8 w5 (.slice aya nya cya) (.slice ayv nyv cyv) L) := ⟨hrd, fun k hk => by
        have h1 : wd.heap.size ≤ k ∧ k < w5.heap.size := hk.elim (fun h => ho.a.lt k h) (fun h => ho.v.lt k h)
        exact ⟨h1.2, (fun e => by have := (HId.out.own5.lt k e).2; omega), (fun e => by have := (HId.out.own6.lt k e).2; omega), (fun e => by have := (HId.out.own7.lt k e).2; omega), fun e => by have := HId.out.b8.lt; omega⟩⟩
      refine ⟨_, rfl, hS5, ?_⟩
      simp only [Act.put, List.getElem_toArray, List.getElem_cons_succ, List.getElem_cons_zero, List.setIfInBounds_toArray, List.set_cons_zero, List.set_cons_succ]
      refine wpAnyH_storeRow 12 47 (.tmp 8) (.tmp 45) g8 [Value.slice axa nxa cxa, .slice axv nxv cxv] [Value.slice aya nya cya, .slice ayv nyv cyv] HI5.out.b8 rfl info_lvs one_lvs (by kernel_rfl) rfl (by rfl) (by rfl) (by rfl) (by rfl) ?_
      intro w6 sr
      have HI : Hid (AlI w1 B g8 (.slice a5 n5 c5) (.slice a6 n6 c6) (.slice a7 n7 c7) (.slice aya nya cya) (.slice ayv nyv cyv) us ts ((kps z bs q).map fun l => dig (topPg 0 l)) (kps z bs q) P L w6) := HI5.out.set sr.blk sr.only HLF.out
      refine ⟨HI.out.bel, ?_⟩
      simp only [Act.put, List.getElem_toArray, List.getElem_cons_succ, List.getElem_cons_zero]
      refine wpAnyH_done (by kernel_rfl) ?_ _
      clear sr hS hS5 hb ho hrd HI5 HId HLF
      have tb0 : Hid True := trivial
      have tb1 : Hid True := trivial
      have tb2 : Hid True := trivial
      have tb3 : Hid True := trivial
      go_wp2_with (first
        | (clear tb0; with_reducible refine wpSeq_loadW 47 (.tmp 8) g8 0 [Value.slice aya nya cya, .slice ayv nyv cyv] _ HI.out.b8.range Tryz.underlying47 rfl info_lvs ?_ ?_ ?_ ?_
           · rfl
           · rfl
           · rfl)
        | (clear tb1; go_at_call 15; refine (eSave_zero L _ _ _ (HW.out _ HI.out.bel).2.1 (fits_zero HLO.out.1 HLO.out.2.1) HI.out.e8.1 (by have := HLO.out.2.2; omega)).mono ?_; rintro e w7 ⟨vm, usm, rfl, hp, hb⟩
           rw [← HDD.out]
           rw [← HS.out] at hp
           obtain ⟨gm, cm, hvm, hcm, hce, hon⟩ := hp.row (by rw [HS.out, save_top]; simp)
           have hml := hp.len
           rw [hml] at hvm
           have hgm := hp.own.lt gm (by rw [hvm]; rfl)
           generalize hnm : S.length = nm at hvm
           have HNM : Hid (nm = S.length ∧ nm ≤ cm) := ⟨hnm.symm, by rw [← hnm, ← hml]; exact hcm⟩
           subst hvm
           have hold : ∀ k, w6.heap.size ≤ k → k < w7.heap.size → Fr4 (.slice a5 n5 c5) (.slice a6 n6 c6) (.slice a7 n7 c7) g8 w7 k := fun k h1 h2 => ⟨h2, (fun e => by have := (HI.out.own5.lt k e).2; omega), (fun e => by have := (HI.out.own6.lt k e).2; omega), (fun e => by have := (HI.out.own7.lt k e).2; omega), fun e => by have := HI.out.b8.lt; omega⟩
           have HM : Hid (MoR (.slice a5 n5 c5) (.slice a6 n6 c6) (.slice a7 n7 c7) g8 gm usm S w7) := ⟨hold gm hgm.1 hgm.2, (fun j u hj => by have := hce j u hj; rwa [Nat.zero_add] at this), hml, fun j u hj => ⟨(hp.good j u hj).1, fun k hk => hold k (Nat.le_of_not_lt ((hp.good j u hj).2 k hk).2.2) ((hp.good j u hj).2 k hk).1⟩⟩
           replace HI : Hid (AlI w1 B g8 (.slice a5 n5 c5) (.slice a6 n6 c6) (.slice a7 n7 c7) (.slice aya nya cya) (.slice ayv nyv cyv) us ts ((kps z bs q).map fun l => dig (topPg 0 l)) (kps z bs q) P L w7) := HI.out.next hb
           clear hp hb hcm hce hon hml hgm hnm hold)
        | (clear tb2; with_reducible refine wpSeq_allocD ?_ ?_ ?_
           · rfl
           · rfl
           intro g10 w8 nn
           have HNN : Hid (Blk w8 g10 (cb zb32) 40 ∧ w7.heap.size ≤ g10 ∧ Below w7.heap.size w7 w8) := ⟨nn.blk, nn.ge, nn.below⟩
           clear nn)
        | (clear tb3; with_reducible refine wpSeq_storeD (.tmp 10) (.tmp 49) g10 zb32 d zb32_len HDL.out HNN.out.1 ?_ ?_ ?_ ?_ ?_
           · rfl
           · rfl
           · rfl
           · rfl
           intro w9 h9
           have hb : Below w7.heap.size w7 w9 := HNN.out.2.2.trans (h9.only.below HNN.out.2.1 HNN.out.2.2.size)
           have H10 : Hid (Blk w9 g10 (cb d) 40 ∧ Fr4 (.slice a5 n5 c5) (.slice a6 n6 c6) (.slice a7 n7 c7) g8 w9 g10) := ⟨h9.blk, h9.blk.lt, (fun e => by have := (HI.out.own5.lt g10 e).2; have := HNN.out.2.1; omega), (fun e => by have := (HI.out.own6.lt g10 e).2; have := HNN.out.2.1; omega), (fun e => by have := (HI.out.own7.lt g10 e).2; have := HNN.out.2.1; omega), fun e => by have := HI.out.b8.lt; have := HNN.out.2.1; omega⟩
           replace HI : Hid (AlI w1 B g8 (.slice a5 n5 c5) (.slice a6 n6 c6) (.slice a7 n7 c7) (.slice aya nya cya) (.slice ayv nyv cyv) us ts ((kps z bs q).map fun l => dig (topPg 0 l)) (kps z bs q) P L w9) := HI.out.next hb
           replace HM : Hid (MoR (.slice a5 n5 c5) (.slice a6 n6 c6) (.slice a7 n7 c7) g8 gm usm S w9) := HM.out.step (.of_below hb)
           clear h9 HNN hb))
      have HIK : Hid (AlI w1 B g8 (.slice a5 n5 c5) (.slice a6 n6 c6) (.slice a7 n7 c7) (.slice aya nya cya) (.slice ayv nyv cyv) us ts ((kps z bs q).map fun l => dig (topPg 0 l)) (kps z bs q) (addNew P (S.take 0)) L w9 ∧ n6 = us.length) := ⟨HI.out, by obtain ⟨a, c, h⟩ := HI.out.own6.form; simp only [Value.slice.injEq] at h; exact h.2.1⟩
      clear HI
      go_loopw [6, 12] (fun b i W => ∃ (k : Nat) (a6 : Option Addr) (n6 c6 : Nat) (us : List Value), k ≤ nm ∧ b = (.slice a6 n6 c6) ∧ i = .int .i64 (k : Int) ∧ Hid (AlI w1 B g8 (.slice a5 n5 c5) (.slice a6 n6 c6) (.slice a7 n7 c7) (.slice aya nya cya) (.slice ayv nyv cyv) us ts ((kps z bs q).map fun l => dig (topPg 0 l)) (kps z bs q) (addNew P (S.take k)) L W ∧ n6 = us.length) ∧ Hid (MoR (.slice a5 n5 c5) (.slice a6 n6 c6) (.slice a7 n7 c7) g8 gm usm S W) ∧ Hid (Blk W g10 (cb d) 40 ∧ Fr4 (.slice a5 n5 c5) (.slice a6 n6 c6) (.slice a7 n7 c7) g8 W g10)) (fun _ i _ => nm - (intOf i).toNat)
      case atStart => exact ⟨0, a6, n6, c6, us, Nat.zero_le _, rfl, rfl, HIK.out, HM.out, H10.out⟩
      case round =>
        rename World => wq
        clear HIK HM H10
        obtain ⟨k, a6, n6, c6, us, hk, rfl, rfl, HIK, HM, H10⟩ := hrel
        have HI : Hid (AlI w1 B g8 (.slice a5 n5 c5) (.slice a6 n6 c6) (.slice a7 n7 c7) (.slice aya nya cya) (.slice ayv nyv cyv) us ts ((kps z bs q).map fun l => dig (topPg 0 l)) (kps z bs q) (addNew P (S.take k)) L wq) := HIK.out.1
        have HN6 : Hid (n6 = us.length) := HIK.out.2
        clear HIK
        obtain ⟨Q, HQ⟩ : ∃ y, Hid (y = addNew P (S.take k)) := ⟨_, rfl⟩
        rw [← HQ.out] at HI
        have HQL : Hid (n6 = Q.length ∧ Q.length ≤ 79381) := by
          refine ⟨by rw [HN6.out, HI.out.len6], ?_⟩
          rw [HQ.out]
          have h := (addNew_spec (S.take k) P HPL.out.1).2.2
          rw [List.length_take] at h
          have := HPL.out.2
          have := HSL.out.1
          omega
        by_cases hkl : k < nm
        case pos =>
          have hkli : (k : Int) < (nm : Int) := by omega
          have fk : IntKind.i64.wrap ((k : Int) + 1) = (k : Int) + 1 := by rw [IntKind.wrap_i64]; have := HSL.out.1; have := HNM.out.1; omega
          have hks : k < S.length := by rw [← HNM.out.1]; exact hkl
          obtain ⟨p, HPP⟩ : ∃ y, Hid (y = S.getD k []) := ⟨_, rfl⟩
          have HTK : Hid (addNew P (S.take (k + 1)) = if p ∈ Q then Q else Q ++ [p]) := by
            show _ = _
            have e : S.take (k + 1) = S.take k ++ [p] := by rw [HPP.out, List.take_add_one, List.getElem?_eq_getElem hks, List.getD_eq_getElem?_getD, List.getElem?_eq_getElem hks, Option.toList_some, Option.getD_some]
            rw [e, addNew_snoc, HQ.out]
          obtain ⟨um, hum⟩ : ∃ u, usm[k]? = some u := ⟨usm[k]'(by rw [HM.out.len]; exact hks), List.getElem?_eq_getElem _⟩
          have hrm := (HM.out.e k um hum).1
          rw [← HPP.out] at hrm
          obtain ⟨np, HNP⟩ : ∃ y, Hid (y = p.length) := ⟨_, rfl⟩
          obtain ⟨ap, cp, hvu⟩ : ∃ a c, um = .slice a np c := by
            obtain ⟨a, c, h1, _⟩ := hrm
            exact ⟨a, c, by rw [h1, HNP.out]⟩
          subst hvu
          have HRM : Hid (∀ W, Below wq.heap.size wq W → W.cell? ⟨gm, k, none⟩ = some (.slice ap np cp) ∧ RdF (.slice a5 n5 c5) (.slice a6 n6 c6) (.slice a7 n7 c7) g8 W (.slice ap np cp) p) := fun W hW => by
            have h := HM.out.step (.of_below hW)
            refine ⟨h.cl k _ hum, ?_⟩
            have h2 := h.e k _ hum
            rw [← HPP.out] at h2
            exact h2
          clear hrm hum
          go_wp2
          go_loopw [13, 14] (fun t i W => ∃ (j : Nat) (tb : Bool), j ≤ n6 ∧ t = .bool tb ∧ i = .int .i64 (j : Int) ∧ Hid (tb = decide (p ∈ Q.take j)) ∧ Hid (Below wq.heap.size wq W)) (fun _ i _ => n6 - (intOf i).toNat)
          case atStart => exact ⟨0, false, Nat.zero_le _, rfl, rfl, (by show _ = _; simp), Below.refl _ _⟩
          case round =>
            rename World => wj
            obtain ⟨j, tb, hj, rfl, rfl, HTB, HBQ⟩ := hrel
            by_cases hjl : j < n6
            case pos =>
              have hjli : (j : Int) < (n6 : Int) := by omega
              have fj : IntKind.i64.wrap ((j : Int) + 1) = (j : Int) + 1 := by rw [IntKind.wrap_i64]; have := HQL.out; omega
              have hjq : j < Q.length := by rw [← HQL.out.1]; exact hjl
              obtain ⟨r, HR⟩ : ∃ y, Hid (y = Q.getD j []) := ⟨_, rfl⟩
              obtain ⟨c2, HC2⟩ : ∃ y, Hid (y = decide (r = p)) := ⟨_, rfl⟩
              have HTM : Hid (decide (p ∈ Q.take (j + 1)) = (tb || c2)) := by show _ = _; rw [mem_take17 Q p j hjq, ← HTB.out, HC2.out, HR.out]
              have HBQ2 : Hid (Below wq.heap.size wq wj.drew) := HBQ.out.drew
              cases tb with
              | true =>
                have HT1 : Hid (true = decide (p ∈ Q.take (j + 1))) := by show _ = _; rw [HTM.out]; rfl
                go_wp2
                refine wp_region_held_drew (S := fun W => W = wj.drew) (by kernel_rfl) rfl ?_
                intro hS
                obtain ⟨yy, HYY⟩ : ∃ z, z = wj.drew := ⟨_, rfl⟩
                rw [← HYY] at HBQ2 hS ⊢
                refine wpAnyH_take (i := 0) (v := .bool true) rfl (by kernel_rfl) (by kernel_rfl) (by kernel_rfl) (fun _ _ _ h => h) (Or.inl ⟨by rfl, fun wx hx => by simp [go_sem]⟩) hS ?_
                simp only [Act.put, List.getElem_toArray, List.getElem_cons_zero, List.setIfInBounds_toArray, List.set_cons_zero, List.set_cons_succ]
                refine wpAnyH_take (i := 1) (v := .bool true) rfl (by kernel_rfl) (by kernel_rfl) (by kernel_rfl) (fun _ _ _ h => h) (Or.inl ⟨by rfl, fun wx hx => by simp [go_sem]⟩) hS ?_
                simp only [Act.put, List.getElem_toArray, List.getElem_cons_succ, List.getElem_cons_zero, List.setIfInBounds_toArray, List.set_cons_zero, List.set_cons_succ]
                refine wpAnyH_take (i := 2) (v := undef) rfl (by kernel_rfl) (by kernel_rfl) (by kernel_rfl) (fun _ _ _ h => h) (Or.inr ⟨by rfl, rfl⟩) hS ?_
                simp only [Act.put, List.getElem_toArray, List.getElem_cons_succ, List.getElem_cons_zero, List.setIfInBounds_toArray, List.set_cons_zero, List.set_cons_succ]
                refine wpAnyH_take (i := 3) (v := undef) rfl (by kernel_rfl) (by kernel_rfl) (by kernel_rfl) (fun _ _ _ h => h) (Or.inr ⟨by rfl, rfl⟩) hS ?_
                simp only [Act.put, List.getElem_toArray, List.getElem_cons_succ, List.getElem_cons_zero, List.setIfInBounds_toArray, List.set_cons_zero, List.set_cons_succ]
                refine wpAnyH_take (i := 4) (v := undef) rfl (by kernel_rfl) (by kernel_rfl) (by kernel_rfl) (fun _ _ _ h => h) (Or.inr ⟨by rfl, rfl⟩) hS ?_
                simp only [Act.put, List.getElem_toArray, List.getElem_cons_succ, List.getElem_cons_zero, List.setIfInBounds_toArray, List.set_cons_zero, List.set_cons_succ]
                refine wpAnyH_take (i := 5) (v := undef) rfl (by kernel_rfl) (by kernel_rfl) (by kernel_rfl) (fun _ _ _ h => h) (Or.inr ⟨by rfl, rfl⟩) hS ?_
                simp only [Act.put, List.getElem_toArray, List.getElem_cons_succ, List.getElem_cons_zero, List.setIfInBounds_toArray, List.set_cons_zero, List.set_cons_succ]
                refine wpAnyH_take (i := 6) (v := undef) rfl (by kernel_rfl) (by kernel_rfl) (by kernel_rfl) (fun _ _ _ h => h) (Or.inr ⟨by rfl, rfl⟩) hS ?_
                simp only [Act.put, List.getElem_toArray, List.getElem_cons_succ, List.getElem_cons_zero, List.setIfInBounds_toArray, List.set_cons_zero, List.set_cons_succ]
                refine wpAnyH_take (i := 7) (v := undef) rfl (by kernel_rfl) (by kernel_rfl) (by kernel_rfl) (fun _ _ _ h => h) (Or.inr ⟨by rfl, rfl⟩) hS ?_
                simp only [Act.put, List.getElem_toArray, List.getElem_cons_succ, List.getElem_cons_zero, List.setIfInBounds_toArray, List.set_cons_zero, List.set_cons_succ]
                refine wpAnyH_take (i := 8) (v := undef) rfl (by kernel_rfl) (by kernel_rfl) (by kernel_rfl) (fun _ _ _ h => h) (Or.inr ⟨by rfl, rfl⟩) hS ?_
                simp only [Act.put, List.getElem_toArray, List.getElem_cons_succ, List.getElem_cons_zero, List.setIfInBounds_toArray, List.set_cons_zero, List.set_cons_succ]
                refine wpAnyH_take (i := 9) (v := undef) rfl (by kernel_rfl) (by kernel_rfl) (by kernel_rfl) (fun _ _ _ h => h) (Or.inr ⟨by rfl, rfl⟩) hS ?_
                simp only [Act.put, List.getElem_toArray, List.getElem_cons_succ, List.getElem_cons_zero, List.setIfInBounds_toArray, List.set_cons_zero, List.set_cons_succ]
                refine wpAnyH_take (i := 10) (v := undef) rfl (by kernel_rfl) (by kernel_rfl) (by kernel_rfl) (fun _ _ _ h => h) (Or.inr ⟨by rfl, rfl⟩) hS ?_
                simp only [Act.put, List.getElem_toArray, List.getElem_cons_succ, List.getElem_cons_zero, List.setIfInBounds_toArray, List.set_cons_zero, List.set_cons_succ]
                refine wpAnyH_take (i := 11) (v := undef) rfl (by kernel_rfl) (by kernel_rfl) (by kernel_rfl) (fun _ _ _ h => h) (Or.inr ⟨by rfl, rfl⟩) hS ?_
                simp only [Act.put, List.getElem_toArray, List.getElem_cons_succ, List.getElem_cons_zero, List.setIfInBounds_toArray, List.set_cons_zero, List.set_cons_succ]
                refine wpAnyH_take (i := 12) (v := undef) rfl (by kernel_rfl) (by kernel_rfl) (by kernel_rfl) (fun _ _ _ h => h) (Or.inr ⟨by rfl, rfl⟩) hS ?_
                simp only [Act.put, List.getElem_toArray, List.getElem_cons_succ, List.getElem_cons_zero, List.setIfInBounds_toArray, List.set_cons_zero, List.set_cons_succ]
                refine wpAnyH_take (i := 13) (v := .bool true) rfl (by kernel_rfl) (by kernel_rfl) (by kernel_rfl) (fun _ _ _ h => h) (Or.inl ⟨by rfl, fun wx hx => by simp [go_sem]⟩) hS ?_
                simp only [Act.put, List.getElem_toArray, List.getElem_cons_succ, List.getElem_cons_zero, List.setIfInBounds_toArray, List.set_cons_zero, List.set_cons_succ]
                refine wpAnyH_take (i := 14) (v := .bool true) rfl (by kernel_rfl) (by kernel_rfl) (by kernel_rfl) (fun _ _ _ h => h) (Or.inl ⟨by rfl, fun wx hx => by simp [go_sem]⟩) hS ?_
                simp only [Act.put, List.getElem_toArray, List.getElem_cons_succ, List.getElem_cons_zero, List.setIfInBounds_toArray, List.set_cons_zero, List.set_cons_succ]
                refine wpAnyH_done (by kernel_rfl) ?_ _
                clear hS HYY
                go_wp2
                go_roundw
                case rel => exact ⟨j + 1, true, by omega, rfl, by simp, HT1, HBQ2⟩
                case measure => simp [intOf]; omega
              | false =>
                have HT1 : Hid (c2 = decide (p ∈ Q.take (j + 1))) := by show _ = _; rw [HTM.out]; rfl
                obtain ⟨g6, c6', u2, e6, hu2, hc2, hr2⟩ := (HI.out.next HBQ2.out).form6 hjq
                simp only [Value.slice.injEq] at e6
                obtain ⟨rfl, _, rfl⟩ := e6
                rw [← HR.out] at hr2
                obtain ⟨n2, HN2⟩ : ∃ z, Hid (z = r.length) := ⟨_, rfl⟩
                obtain ⟨a2, p2, hv2⟩ : ∃ a c, u2 = .slice a n2 c := by
                  obtain ⟨a, c, h1, _⟩ := hr2
                  exact ⟨a, c, by rw [h1, HN2.out]⟩
                subst hv2
                have HR2 : Hid (Reads wj.drew (.slice a2 n2 p2) r) := hr2
                have HCE2 : Hid (wj.drew.cell? ⟨g6, j, none⟩ = some (.slice a2 n2 p2)) := hc2
                have HR3 : Hid (Reads wj.drew (.slice ap np cp) p) := (HRM.out _ HBQ2.out).2.1
                have HCE3 : Hid (wj.drew.cell? ⟨gm, k, none⟩ = some (.slice ap np cp)) := (HRM.out _ HBQ2.out).1
                have HEQ : Hid (((strB r).toList == (strB p).toList) = c2) := by show _ = _; rw [strB_inj, HC2.out]
                clear hc2 hr2 hu2
                go_wp2
                refine wp_region_held_drew (S := fun W => W = wj.drew) (by kernel_rfl) rfl ?_
                intro hS
                obtain ⟨yy, HYY⟩ : ∃ z, z = wj.drew := ⟨_, rfl⟩
                rw [← HYY] at HBQ2 HR2 HR3 HCE2 HCE3 hS ⊢
                refine wpAnyH_take (i := 0) (v := .bool false) rfl (by kernel_rfl) (by kernel_rfl) (by kernel_rfl) (fun _ _ _ h => h) (Or.inl ⟨by rfl, fun wx hx => by simp [go_sem]⟩) hS ?_
                simp only [Act.put, List.getElem_toArray, List.getElem_cons_zero, List.setIfInBounds_toArray, List.set_cons_zero, List.set_cons_succ]
                refine wpAnyH_take (i := 1) (v := .bool false) rfl (by kernel_rfl) (by kernel_rfl) (by kernel_rfl) (fun _ _ _ h => h) (Or.inl ⟨by rfl, fun wx hx => by simp [go_sem]⟩) hS ?_
                simp only [Act.put, List.getElem_toArray, List.getElem_cons_succ, List.getElem_cons_zero, List.setIfInBounds_toArray, List.set_cons_zero, List.set_cons_succ]
                refine wpAnyH_take (i := 2) (v := .slice (some ⟨g6, 0, none⟩) n6 c6) rfl (by kernel_rfl) (by kernel_rfl) (by kernel_rfl) (fun _ _ _ h => h) (Or.inl ⟨by rfl, fun wx hx => by simp [go_sem]⟩) hS ?_
                simp only [Act.put, List.getElem_toArray, List.getElem_cons_succ, List.getElem_cons_zero, List.setIfInBounds_toArray, List.set_cons_zero, List.set_cons_succ]
                refine wpAnyH_take (i := 3) (v := .int .i64 (j : Int)) rfl (by kernel_rfl) (by kernel_rfl) (by kernel_rfl) (fun _ _ _ h => h) (Or.inl ⟨by rfl, fun wx hx => by simp [go_sem]⟩) hS ?_
                simp only [Act.put, List.getElem_toArray, List.getElem_cons_succ, List.getElem_cons_zero, List.setIfInBounds_toArray, List.set_cons_zero, List.set_cons_succ]
                refine wpAnyH_take (i := 4) (v := .pointer (some ⟨g6, j, none⟩)) rfl (by kernel_rfl) (by kernel_rfl) (by kernel_rfl) (fun _ _ _ h => h) (Or.inl ⟨by rfl, fun wx hx => by exact idxP g6 n6 c6 j hjl _ _ _ _ rfl rfl rfl _⟩) hS ?_
                simp only [Act.put, List.getElem_toArray, List.getElem_cons_succ, List.getElem_cons_zero, List.setIfInBounds_toArray, List.set_cons_zero, List.set_cons_succ]
                refine wpAnyH_take (i := 5) (v := .slice a2 n2 p2) rfl (by kernel_rfl) (by kernel_rfl) (by kernel_rfl) (fun _ _ _ h => h) (Or.inl ⟨by rfl, fun wx hx => by (rw [hx]; have hc := HCE2.out; simp [go_sem, hc])⟩) hS ?_
                simp only [Act.put, List.getElem_toArray, List.getElem_cons_succ, List.getElem_cons_zero, List.setIfInBounds_toArray, List.set_cons_zero, List.set_cons_succ]
                refine wpAnyH_take (i := 6) (v := .string (strB r)) rfl (by kernel_rfl) (by kernel_rfl) (by kernel_rfl) (fun _ _ _ h => h) (Or.inl ⟨by rfl, fun wx hx => by (rw [hx]; have hc := conv_reads HR2.out; simp [go_sem, hc])⟩) hS ?_
                simp only [Act.put, List.getElem_toArray, List.getElem_cons_succ, List.getElem_cons_zero, List.setIfInBounds_toArray, List.set_cons_zero, List.set_cons_succ]
                refine wpAnyH_take (i := 7) (v := .slice (some ⟨gm, 0, none⟩) nm cm) rfl (by kernel_rfl) (by kernel_rfl) (by kernel_rfl) (fun _ _ _ h => h) (Or.inl ⟨by rfl, fun wx hx => by simp [go_sem]⟩) hS ?_
                simp only [Act.put, List.getElem_toArray, List.getElem_cons_succ, List.getElem_cons_zero, List.setIfInBounds_toArray, List.set_cons_zero, List.set_cons_succ]
                refine wpAnyH_take (i := 8) (v := .int .i64 (k : Int)) rfl (by kernel_rfl) (by kernel_rfl) (by kernel_rfl) (fun _ _ _ h => h) (Or.inl ⟨by rfl, fun wx hx => by simp [go_sem]⟩) hS ?_
                simp only [Act.put, List.getElem_toArray, List.getElem_cons_succ, List.getElem_cons_zero, List.setIfInBounds_toArray, List.set_cons_zero, List.set_cons_succ]
                refine wpAnyH_take (i := 9) (v := .pointer (some ⟨gm, k, none⟩)) rfl (by kernel_rfl) (by kernel_rfl) (by kernel_rfl) (fun _ _ _ h => h) (Or.inl ⟨by rfl, fun wx hx => by exact idxP gm nm cm k hkl _ _ _ _ rfl rfl rfl _⟩) hS ?_
                simp only [Act.put, List.getElem_toArray, List.getElem_cons_succ, List.getElem_cons_zero, List.setIfInBounds_toArray, List.set_cons_zero, List.set_cons_succ]
                refine wpAnyH_take (i := 10) (v := .slice ap np cp) rfl (by kernel_rfl) (by kernel_rfl) (by kernel_rfl) (fun _ _ _ h => h) (Or.inl ⟨by rfl, fun wx hx => by (rw [hx]; have hc := HCE3.out; simp [go_sem, hc])⟩) hS ?_
                simp only [Act.put, List.getElem_toArray, List.getElem_cons_succ, List.getElem_cons_zero, List.setIfInBounds_toArray, List.set_cons_zero, List.set_cons_succ]
                refine wpAnyH_take (i := 11) (v := .string (strB p)) rfl (by kernel_rfl) (by kernel_rfl) (by kernel_rfl) (fun _ _ _ h => h) (Or.inl ⟨by rfl, fun wx hx => by (rw [hx]; have hc := conv_reads HR3.out; simp [go_sem, hc])⟩) hS ?_
                simp only [Act.put, List.getElem_toArray, List.getElem_cons_succ, List.getElem_cons_zero, List.setIfInBounds_toArray, List.set_cons_zero, List.set_cons_succ]
                refine wpAnyH_take (i := 12) (v := .bool c2) rfl (by kernel_rfl) (by kernel_rfl) (by kernel_rfl) (fun _ _ _ h => h) (Or.inl ⟨by rfl, fun wx hx => by (have hs := HEQ.out; simp [go_sem, hs])⟩) hS ?_
                simp only [Act.put, List.getElem_toArray, List.getElem_cons_succ, List.getElem_cons_zero, List.setIfInBounds_toArray, List.set_cons_zero, List.set_cons_succ]
                refine wpAnyH_take (i := 13) (v := .bool c2) rfl (by kernel_rfl) (by kernel_rfl) (by kernel_rfl) (fun _ _ _ h => h) (Or.inl ⟨by rfl, fun wx hx => by simp [go_sem]⟩) hS ?_
                simp only [Act.put, List.getElem_toArray, List.getElem_cons_succ, List.getElem_cons_zero, List.setIfInBounds_toArray, List.set_cons_zero, List.set_cons_succ]
                refine wpAnyH_take (i := 14) (v := .bool c2) rfl (by kernel_rfl) (by kernel_rfl) (by kernel_rfl) (fun _ _ _ h => h) (Or.inl ⟨by rfl, fun wx hx => by simp [go_sem]⟩) hS ?_
                simp only [Act.put, List.getElem_toArray, List.getElem_cons_succ, List.getElem_cons_zero, List.setIfInBounds_toArray, List.set_cons_zero, List.set_cons_succ]
                refine wpAnyH_done (by kernel_rfl) ?_ _
                clear hS HYY
                go_wp2
                go_roundw
                case rel => exact ⟨j + 1, c2, by omega, rfl, by simp, HT1, HBQ2⟩
                case measure => simp [intOf]; omega
            case neg =>
              have hje : j = n6 := by omega
              have HTA : Hid (tb = decide (p ∈ Q)) := by show _ = _; rw [HTB.out, hje, HQL.out.1, List.take_length]
              have HIJ : Hid (AlI w1 B g8 (.slice a5 n5 c5) (.slice a6 n6 c6) (.slice a7 n7 c7) (.slice aya nya cya) (.slice ayv nyv cyv) us ts ((kps z bs q).map fun l => dig (topPg 0 l)) (kps z bs q) Q L wj) := HI.out.next HBQ.out
              have HMJ : Hid (MoR (.slice a5 n5 c5) (.slice a6 n6 c6) (.slice a7 n7 c7) g8 gm usm S wj) := HM.out.step (.of_below HBQ.out)
              have H1J : Hid (Blk wj g10 (cb d) 40 ∧ Fr4 (.slice a5 n5 c5) (.slice a6 n6 c6) (.slice a7 n7 c7) g8 wj g10) := ⟨H10.out.1.below HBQ.out H10.out.1.lt, H10.out.2.step (.of_below HBQ.out)⟩
              have ckm := (HRM.out _ HBQ.out).1
              have HRJ : Hid (RdF (.slice a5 n5 c5) (.slice a6 n6 c6) (.slice a7 n7 c7) g8 wj (.slice ap np cp) p) := (HRM.out _ HBQ.out).2
              subst hje
              cases tb with
              | true =>
                have HNX : Hid (addNew P (S.take (k + 1)) = Q) := by show _ = _; rw [HTK.out, if_pos (of_decide_eq_true HTA.out.symm)]
                go_wp2
                go_roundw
                case rel => exact ⟨k + 1, a6, j, c6, us, by omega, rfl, by simp, ⟨by rw [HNX.out]; exact HIJ.out, HN6.out⟩, HMJ.out, H1J.out⟩
                case measure => simp [intOf]; omega
              | false =>
                have HNX : Hid (addNew P (S.take (k + 1)) = Q ++ [p]) := by show _ = _; rw [HTK.out, if_neg (of_decide_eq_false HTA.out.symm)]
                clear HI HM H10 HRM HBQ
                have tc0 : Hid True := trivial
                have tc1 : Hid True := trivial
                have tc2 : Hid True := trivial
                go_wp2_with (first
                  | (clear tc0; with_reducible refine wpSeq_idxQ17 (.tmp 80) (.tmp 81) gm 0 nm cm k hkl ?_ ?_ ?_ ?_ ?_
                     · rfl
                     · rfl
                     · rfl
                     · rfl
                     rw [Nat.zero_add]
                     have HQ1 : Hid True := trivial)
                  | (clear tc1; with_reducible refine wpSeq_buildX (.tmp 83) ap np cp ?_ ?_ ?_ ?_
                     · rfl
                     · rfl
                     · rfl
                     intro gX w14 hy hge hb
                     have HY : Hid (Blk w14 gX [.slice ap np cp] 49) := hy
                     replace HIJ : Hid (AlI w1 B g8 (.slice a5 n5 c5) (.slice a6 j c6) (.slice a7 n7 c7) (.slice aya nya cya) (.slice ayv nyv cyv) us ts ((kps z bs q).map fun l => dig (topPg 0 l)) (kps z bs q) Q L w14) := HIJ.out.next hb
                     replace HMJ : Hid (MoR (.slice a5 n5 c5) (.slice a6 j c6) (.slice a7 n7 c7) g8 gm usm S w14) := HMJ.out.step (.of_below hb)
                     replace HRJ : Hid (RdF (.slice a5 n5 c5) (.slice a6 j c6) (.slice a7 n7 c7) g8 w14 (.slice ap np cp) p) := HRJ.out.step (.of_below hb)
                     replace H1J : Hid (Blk w14 g10 (cb d) 40 ∧ Fr4 (.slice a5 n5 c5) (.slice a6 j c6) (.slice a7 n7 c7) g8 w14 g10) := ⟨H1J.out.1.below hb H1J.out.1.lt, H1J.out.2.step (.of_below hb)⟩
                     clear hy hge hb ckm)
                  | (clear tc2; with_reducible refine wpSeq_appX (.tmp 79) (.tmp 84) B (.slice a6 j c6) (.slice ap np cp) us gX HIJ.out.own6 HY.out rfl (by have h1 := HN6.out; have h2 := HQL.out; omega) HIJ.out.le ?_ ?_ ?_ ?_ ?_
                     · rfl
                     · rfl
                     · rfl
                     · rfl
                     intro v15 w15 ho hg
                     obtain ⟨a15, c15, hv15⟩ := ho.form
                     have hn15 : (us ++ [Value.slice ap np cp]).length = (us ++ [Value.slice ap np cp]).length := rfl
                     generalize hn16 : (us ++ [Value.slice ap np cp]).length = n15 at hv15
                     subst hv15
                     have HI15 : Hid (AlI w1 B g8 (.slice a5 n5 c5) (Value.slice a15 n15 c15) (.slice a7 n7 c7) (.slice aya nya cya) (.slice ayv nyv cyv) (us ++ [Value.slice ap np cp]) ts ((kps z bs q).map fun l => dig (topPg 0 l)) (kps z bs q) (Q ++ [p]) L w15 ∧ n15 = (us ++ [Value.slice ap np cp]).length) := ⟨HIJ.out.add6 ho hg HRJ.out, hn16.symm⟩
                     have HM15 : Hid (MoR (.slice a5 n5 c5) (Value.slice a15 n15 c15) (.slice a7 n7 c7) g8 gm usm S w15) := HMJ.out.step (.of_six hg)
                     have H115 : Hid (Blk w15 g10 (cb d) 40 ∧ Fr4 (.slice a5 n5 c5) (Value.slice a15 n15 c15) (.slice a7 n7 c7) g8 w15 g10) := ⟨hg.mt.blk H1J.out.1 fun e => H1J.out.2.2.2.1 e, H1J.out.2.step (.of_six hg)⟩
                     clear ho hg HY hn15 hn16 HIJ HMJ HRJ H1J))
                go_roundw
                case rel => exact ⟨k + 1, a15, n15, c15, us ++ [Value.slice ap np cp], by omega, rfl, by simp, ⟨by rw [HNX.out]; exact HI15.out.1, HI15.out.2⟩, HM15.out, H115.out⟩
                case measure => simp [intOf]; omega
        case neg =>
          have hke : k = nm := by omega
          have HQP : Hid (Q = pgs z (q + 1)) := by show _ = _; rw [HQ.out, hke, HNM.out.1, List.take_length, HPX.out]
          subst hke
          have cK : wq.cell? ⟨g1, 2, none⟩ = some (.slice adk nK cpk) := (HW.out _ HI.out.bel).2.2.2.cell 2
          obtain ⟨kb, HKB⟩ : ∃ y, Hid (y = (decide (q < bs.length) && bs.getD q false)) := ⟨_, rfl⟩
          have HKX : Hid (kps z bs (q + 1) = kps z bs q ++ (if kb = true then [L] else [])) := by
            show _ = _
            rw [HKB.out, HL.out]
            simp only [kps, Bool.and_eq_true, decide_eq_true_eq]
          rw [HQP.out] at HI
          by_cases hkk : q < nK
          case neg =>
            have hkki : ¬ (q : Int) < (nK : Int) := by omega
            have HK0 : Hid (kps z bs (q + 1) = kps z bs q) := by
              show _ = _
              rw [HKX.out, HKB.out, decide_eq_false (by rw [← HNK.out]; exact hkk), Bool.false_and, if_neg (by decide), List.append_nil]
            go_wp2
            go_roundw
            case rel => exact ⟨q + 1, a5, n5, c5, a6, n6, c6, a7, n7, c7, us, ts, aya, nya, cya, ayv, nyv, cyv, by omega, rfl, rfl, rfl, by simp, by rw [HK0.out, ← HL.out]; exact HI.out⟩
            case measure => simp [intOf]; omega
          case pos =>
            have hkki : (q : Int) < (nK : Int) := by omega
            obtain ⟨bk, ok, rfl, hkc⟩ := HXK.out (by rw [← HNK.out]; omega)
            have hkq := hkc q (by rw [← HNK.out]; exact hkk)
            have ckb : wq.cell? ⟨bk, ok + q, none⟩ = some (.bool kb) := by
              rw [(HW.out _ HI.out.bel).2.2.1.cell (p := ⟨bk, ok + q, none⟩) (block_lt_of_cell hkq), hkq, HKB.out, decide_eq_true (by rw [← HNK.out]; exact hkk), Bool.true_and]
            clear hkc hkq
            cases kb with
            | false =>
              have HK0 : Hid (kps z bs (q + 1) = kps z bs q) := by show _ = _; rw [HKX.out, if_neg (by decide), List.append_nil]
              go_wp2
              go_roundw
              case rel => exact ⟨q + 1, a5, n5, c5, a6, n6, c6, a7, n7, c7, us, ts, aya, nya, cya, ayv, nyv, cyv, by omega, rfl, rfl, rfl, by simp, by rw [HK0.out, ← HL.out]; exact HI.out⟩
              case measure => simp [intOf]; omega
            | true =>
              have HK0 : Hid (kps z bs (q + 1) = kps z bs q ++ [L]) := by show _ = _; rw [HKX.out, if_pos rfl]
              obtain ⟨E5, HE5⟩ : ∃ y, Hid (y = (kps z bs q).map fun l => dig (topPg 0 l)) := ⟨_, rfl⟩
              have HE6 : Hid ((kps z bs (q + 1)).map (fun l => dig (topPg 0 l)) = E5 ++ [d]) := by show _ = _; rw [HK0.out, List.map_append, List.map_cons, List.map_nil, HE5.out, HDD.out]
              have HEL : Hid (E5.length < 2000000 ∧ ts.length < 1000) := by
                have h := kps_len (z := z) (bs := bs) q
                refine ⟨by rw [HE5.out, List.length_map]; omega, by rw [HI.out.len7]; omega⟩
              rw [← HE5.out] at HI
              clear HM HKX
              have td0 : Hid True := trivial
              have td1 : Hid True := trivial
              have td2 : Hid True := trivial
              have td3 : Hid True := trivial
              have td4 : Hid True := trivial
              have td5 : Hid True := trivial
              go_wp2_with (first
                | (clear td0; with_reducible refine wpSeq_loadD (.tmp 10) g10 d HDL.out H10.out.1 ?_ ?_ ?_ ?_
                   · rfl
                   · rfl
                   · rfl
                   have HQ2 : Hid True := trivial)
                | (clear td1; with_reducible refine wpSeq_buildD (.tmp 99) d HDL.out ?_ ?_ ?_ ?_
                   · rfl
                   · rfl
                   · rfl
                   intro gD w14 n8
                   have HY : Hid (Blk w14 gD (cb d) 40) := n8.blk
                   replace HI : Hid (AlI w1 B g8 (.slice a5 n5 c5) (.slice a6 n6 c6) (.slice a7 n7 c7) (.slice aya nya cya) (.slice ayv nyv cyv) us ts E5 (kps z bs q) (pgs z (q + 1)) L w14) := HI.out.next n8.below
                   clear n8 cK ckb H10)
                | (clear td2; with_reducible refine wpSeq_appendD (.tmp 98) (.tmp 100) B (.slice a5 n5 c5) E5 d gD HI.out.own5 HY.out HDL.out HEL.out.1 HI.out.le ?_ ?_ ?_ ?_ ?_
                   · rfl
                   · rfl
                   · rfl
                   · rfl
                   intro v15 w15 ho hg
                   obtain ⟨a15, c15, hv15⟩ := ho.slice
                   generalize hn15 : (E5 ++ [d]).length = n15 at hv15
                   clear hn15
                   subst hv15
                   replace HI : Hid (AlI w1 B g8 (Value.slice a15 n15 c15) (.slice a6 n6 c6) (.slice a7 n7 c7) (.slice aya nya cya) (.slice ayv nyv cyv) us ts (E5 ++ [d]) (kps z bs q) (pgs z (q + 1)) L w15) := HI.out.add5 ho hg
                   clear ho hg HY)
                | (clear td3; with_reducible refine wpSeq_loadW 47 (.tmp 8) g8 0 [Value.slice aya nya cya, .slice ayv nyv cyv] _ HI.out.b8.range Tryz.underlying47 rfl info_lvs ?_ ?_ ?_ ?_
                   · rfl
                   · rfl
                   · rfl
                   have HQ3 : Hid True := trivial)
                | (clear td4; with_reducible refine wpSeq_buildT18 (.tmp 103) aya ayv nya nyv cya cyv ?_ ?_ ?_ ?_
                   · rfl
                   · rfl
                   · rfl
                   intro gT w16 hy hge hb
                   have HY : Hid (Blk w16 gT [Value.slice aya nya cya, .slice ayv nyv cyv] 47) := hy
                   replace HI : Hid (AlI w1 B g8 (Value.slice a15 n15 c15) (.slice a6 n6 c6) (.slice a7 n7 c7) (.slice aya nya cya) (.slice ayv nyv cyv) us ts (E5 ++ [d]) (kps z bs q) (pgs z (q + 1)) L w16) := HI.out.next hb
                   clear hy hge hb)
                | (clear td5; with_reducible refine wpSeq_appT18 (.tmp 102) (.tmp 104) B (.slice a7 n7 c7) (.slice aya nya cya) (.slice ayv nyv cyv) ts gT HI.out.own7 HY.out one_lvs HEL.out.2 HI.out.le ?_ ?_ ?_ ?_ ?_
                   · rfl
                   · rfl
                   · rfl
                   · rfl
                   intro v17 w17 ho hg
                   obtain ⟨a17, n17, c17, hv17⟩ := slice_of_row18 ho
                   subst hv17
                   have HI17 : Hid (AlI w1 B g8 (Value.slice a15 n15 c15) (.slice a6 n6 c6) (Value.slice a17 n17 c17) (.slice aya nya cya) (.slice ayv nyv cyv) us (ts ++ [(Value.slice aya nya cya, Value.slice ayv nyv cyv)]) (E5 ++ [d]) (kps z bs q ++ [L]) (pgs z (q + 1)) L w17) := HI.out.add7 ho hg
                   clear ho hg HY HI))
              go_roundw
              case rel => exact ⟨q + 1, a15, n15, c15, a6, n6, c6, a17, n17, c17, us, ts ++ [(Value.slice aya nya cya, Value.slice ayv nyv cyv)], aya, nya, cya, ayv, nyv, cyv, by omega, rfl, rfl, rfl, by simp, by rw [HE6.out, HK0.out, ← HL.out]; exact HI17.out⟩
              case measure => simp [intOf]; omega
    case neg =>
      have hqe : q = n := by omega
      have HFI : Hid (ReadsD wr (.slice a5 n5 c5) ((kps z bs n).map fun l => dig (topPg 0 l)) ∧ ReadsL wr (.slice a6 n6 c6) (pgs z n) ∧ TrsR wr (.slice a7 n7 c7) (kps z bs n) ∧ Below w.heap.size w wr) := by
        rw [← hqe]
        exact ⟨HI.out.own5.readsD, HI.out.readsL, HI.out.trs, (HW.out _ HI.out.bel).2.2.1⟩
      subst hqe
      clear HI
      have key : (¬ (q : Int) < (nA : Int)) ∨ ((q : Int) < (nA : Int) ∧ ¬ (q : Int) < (nV : Int)) ∨ ((q : Int) < (nA : Int) ∧ (q : Int) < (nV : Int) ∧ ¬ (q : Int) < 20) := by omega
      rcases key with k1 | ⟨k1, k2⟩ | ⟨k1, k2, k3⟩
      all_goals
        go_wp2
        refine bodyPost_ret (results_tmp3 rfl _ _ _) rfl ?_
        exact ⟨_, _, _, rfl, HFI.out.1, HFI.out.2.1, HFI.out.2.2.1, HFI.out.2.2.2⟩
end Go.Proofs.YtphmmnffgknkcabGreatDoor
namespace Go.Proofs.YtphmmnffgknkcabGreatDoor
open Go.RowKit
set_option maxRecDepth 100000
abbrev Dg := { l : By // l.length = 32 }
abbrev encD (x : Dg) : Array Value := #[.agg (cb x.1).toArray]
theorem lits_inv (d : Nat) (cs : List Value) : ∀ (L : List Nat) (ls : List (List Lit)), L.mapM (fun i => Tryz.prog.keyLits (d + 1) 5 ((cs.drop (i * 1)).take 1)) = some ls → ∀ i ∈ L, ∃ b : BitVec 8, (cs.drop (i * 1)).take 1 = [.int .u8 (b.toNat : Int)]
  | [], _, _, i, hi => by cases hi
  | j :: L, ls, h, i, hi => by
    rw [List.mapM_cons] at h
    cases h1 : Tryz.prog.keyLits (d + 1) 5 ((cs.drop (j * 1)).take 1) with
    | none => rw [h1] at h; cases h
    | some l1 =>
      rw [h1] at h
      cases h2 : L.mapM (fun i => Tryz.prog.keyLits (d + 1) 5 ((cs.drop (i * 1)).take 1)) with
      | none => rw [h2] at h; cases h
      | some l2 =>
        rcases List.mem_cons.1 hi with e | e
        · subst e
          have hlen : ((cs.drop (i * 1)).take 1).length ≤ 1 := by rw [List.length_take]; omega
          generalize (cs.drop (i * 1)).take 1 = vs at h1 hlen ⊢
          match vs, hlen, h1 with
          | [], _, h1 => simp [Program.keyLits, Tryz.underlying5] at h1
          | v :: w :: t, hlen, _ => simp at hlen
          | [v], hl2, h1 =>
            clear hl2 hlen
            cases v <;> simp [Program.keyLits, Tryz.underlying5] at h1
            rename_i q' n'
            obtain ⟨⟨rfl, hw⟩, _⟩ := h1
            have hw2 : 0 ≤ n' ∧ n' < 256 := by
              simp [Lit.wf, IntKind.min, IntKind.max, IntKind.signed, IntKind.bits] at hw
              omega
            refine ⟨BitVec.ofNat 8 n'.toNat, ?_⟩
            have e2 : (((BitVec.ofNat 8 n'.toNat).toNat : Nat) : Int) = n' := by
              rw [BitVec.toNat_ofNat, Nat.mod_eq_of_lt (by omega)]
              omega
            rw [e2]
        · exact lits_inv d cs L l2 h2 i e
theorem key_dig {key : Value} {kl : Lit} (h : keyOf Tryz.prog 40 key = some kl) : ∃ x : Dg, key = .agg (cb x.1).toArray ∧ kl = litD x.1 := by
  obtain ⟨m0, hm0⟩ := typesP
  have h0 := h
  unfold keyOf at h
  simp only [arrD.hu] at h
  split at h
  · rename_i hf
    rw [Bool.and_eq_true] at hf
    obtain ⟨xs, rfl, hxs⟩ : ∃ xs : Array Value, key = .agg xs ∧ xs.size = 32 := by
      have h1 := hf.2
      unfold Value.formed at h1
      split at h1
      all_goals first
        | (simp [arrD.hu] at h1; done)
        | skip
      all_goals first
        | (simp only [arrD.hu, arrD.size, beq_iff_eq] at h1; rename_i xs; exact ⟨xs, rfl, by simpa using h1⟩)
        | skip
    cases h2 : Tryz.prog.keyLits (Tryz.prog.types.size + 1) 40 xs.toList with
    | none => rw [show (Value.agg xs).cells.toList = xs.toList from rfl, h2] at h; cases h
    | some ls =>
      rw [hm0] at h2
      unfold Program.keyLits at h2
      simp only [arrD.hu] at h2
      split at h2
      · rw [arrD.one] at h2
        cases h3 : (List.range 32).mapM (fun i => Tryz.prog.keyLits (m0 + 1) 5 ((xs.toList.drop (i * 1)).take 1)) with
        | none => rw [h3] at h2; cases h2
        | some l3 =>
          have hall := lits_inv m0 xs.toList (List.range 32) l3 h3
          have hx : ∃ x : By, xs.toList = cb x := by
            have key : ∀ (vs : List Value), (∀ i, i < vs.length → ∃ b : BitVec 8, (vs.drop (i * 1)).take 1 = [.int .u8 (b.toNat : Int)]) → ∃ x : By, vs = cb x := by
              intro vs
              induction vs with
              | nil => intro _; exact ⟨[], rfl⟩
              | cons v vs ih =>
                intro hv
                obtain ⟨b, hb⟩ := hv 0 (by simp)
                obtain ⟨x, hx⟩ := ih (fun i hi => by
                  obtain ⟨c, hc⟩ := hv (i + 1) (by simp; omega)
                  exact ⟨c, by simpa using hc⟩)
                refine ⟨b :: x, ?_⟩
                simp at hb
                rw [hb, hx]
                rfl
            exact key xs.toList (fun i hi => hall i (List.mem_range.2 (by simp [hxs] at hi; exact hi)))
          obtain ⟨x, hx⟩ := hx
          have hl : x.length = 32 := by
            have := congrArg List.length hx
            rw [cb_len] at this
            simp [hxs] at this
            exact this.symm
          have e : Value.agg xs = .agg (cb x).toArray := by rw [← hx]
          rw [e, keyD hl] at h0
          exact ⟨⟨x, hl⟩, e, (Option.some.inj h0).symm⟩
      · cases h2
  · cases h
theorem sameD (x y : Dg) : (litD x.1).sameKey (litD y.1) = decide (x = y) := by
  by_cases e : x = y
  · subst e
    simp [litD, Lit.sameKey]
  · rw [decide_eq_false e]
    have h : litD x.1 ≠ litD y.1 := fun h => e (Subtype.ext (litD_inj x.2 y.2 h))
    simp only [litD, Lit.sameKey]
    exact beq_eq_false_iff_ne.2 (fun h2 => h (by unfold litD; rw [h2]))
theorem wpSeqIn_val8 {n : Nat} {ops : Array Oper} {rest : List Oper} {Q : Exit → Act → World → Prop} {o : Oper} {v : Value} {a : Act} {w w' : World} (hg : o.guard = none) (he : (execOp a.eval o).run Tryz.prog w = .ok (.value v) w') (h : wpListIn Fence.wide n Tryz.prog ops Q rest (a.put o.dst v) w') : wpListIn Fence.wide n Tryz.prog ops Q (o :: rest) a w := wpListIn_plain hg fun K hK => by
  refine ⟨fun _ _ => trivial, ?_⟩
  show Oper.uponIn _ _ _ _ _ _ _ ((execOp a.eval o).run Tryz.prog w)
  rw [he]
  exact hK _ _ h
theorem roundIn_wide18 {m k : Nat} {P : Program} {l : Nat} {f : FuncId} {tmps : Array Value} {assign body : Code} {w : World} {R : Ending → World → Prop} (h : RoundIn Fence.wide m P l f tmps assign body w R) : RoundIn Fence.wide k P l f tmps assign body w R := ⟨h.1, fun c cs _ => h.2 c cs (room_wide _)⟩
theorem wpSeqIn_round8 {n m : Nat} {ops : Array Oper} {rest : List Oper} {Q : Exit → Act → World → Prop} {o : Oper} {l : Nat} {fn : FuncId} {tmps : Array Value} {assign body : Code} {a : Act} {w : World} {R : Ending → World → Prop} (hg : o.guard = none) (he : (execOp a.eval o).run Tryz.prog w = .ok (.round l fn tmps assign body) w) (hR : RoundIn Fence.wide m Tryz.prog l fn tmps assign body w R) (h : ∀ e w', R e w' → ∃ v, e = .returned v ∧ wpListIn Fence.wide n Tryz.prog ops Q rest (a.put o.dst v) w') : wpListIn Fence.wide n Tryz.prog ops Q (o :: rest) a w := wpListIn_plain hg fun K hK => by
  refine ⟨fun _ _ => trivial, ?_⟩
  show Oper.uponIn _ _ _ _ _ _ _ ((execOp a.eval o).run Tryz.prog w)
  rw [he, Oper.uponIn_round]
  refine ⟨fun h => (by cases h), (roundIn_wide18 hR).mono fun e w' hr => ?_⟩
  obtain ⟨v, rfl, hk⟩ := h e w' hr
  exact hK _ _ hk
def SD (F : By → Option Nat) : List Dg → Prop := fun xs => xs.Nodup ∧ ∀ x : Dg, x ∈ xs ↔ (F x.1).isSome = true
structure RgD (gm r nn : Nat) (F : By → Option Nat) (D : DataW Unit) (ss : List Dg) (left : Lit → Bool) (cnt : Nat) (W : World) : Prop where
  rg : W.ranges Tryz.prog 40 (plainElem Tryz.prog 3) gm r nn D left cnt
  cs : ss.length + cnt ≤ nn
  nd : ss.Nodup
  sub : ∀ x ∈ ss, (F x.1).isSome = true
  lf : ∀ x : Dg, left (litD x.1) = true ↔ (F x.1).isSome = true ∧ x ∉ ss
theorem RgD.all {gm r nn cnt : Nat} {F : By → Option Nat} {D : DataW Unit} {ss : List Dg} {left : Lit → Bool} {W : World} (h : RgD gm r nn F D ss left cnt W) (h0 : ∀ kl, left kl = false) : SD F ss := by
  refine ⟨h.nd, fun x => ⟨h.sub x, fun hx => ?_⟩⟩
  by_cases hm : x ∈ ss
  · exact hm
  · have := (h.lf x).2 ⟨hx, hm⟩
    rw [h0] at this
    cases this
theorem RgD.step {gm r nn cnt cnt1 : Nat} {F : By → Option Nat} {D : DataW Unit} {ss : List Dg} {left : Lit → Bool} {W W1 : World} {x : Dg} (h : RgD gm r nn F D ss left cnt W) (hl : left (litD x.1) = true) (hr : W1.ranges Tryz.prog 40 (plainElem Tryz.prog 3) gm r nn D (fun z => left z && !z.sameKey (litD x.1)) cnt1) (hc : cnt1 < cnt) : RgD gm r nn F D (ss ++ [x]) (fun z => left z && !z.sameKey (litD x.1)) cnt1 W1 := by
  obtain ⟨h1, h2⟩ := (h.lf x).1 hl
  refine ⟨hr, by have := h.cs; rw [List.length_append]; simp; omega, ?_, fun y hy => ?_, fun y => ?_⟩
  · rw [List.nodup_append]
    refine ⟨h.nd, by simp, fun a ha b hb e => ?_⟩
    rw [List.mem_singleton] at hb
    subst hb
    subst e
    exact h2 ha
  · rcases List.mem_append.1 hy with hy | hy
    · exact h.sub y hy
    · rw [List.mem_singleton.1 hy]; exact h1
  · rw [sameD, Bool.and_eq_true, h.lf y, List.mem_append, List.mem_singleton]
    simp
    constructor
    · rintro ⟨⟨a, b⟩, c⟩
      exact ⟨a, b, c⟩
    · rintro ⟨a, b, c⟩
      exact ⟨⟨a, b⟩, c⟩
theorem int_form {v : Value} {y : DataW Unit × List MemPlace} (h : plainElem Tryz.prog 3 v = some y) : ∃ i : Int, v = .int .i64 i := by
  obtain ⟨i, h1, _⟩ := plainElem_int_inv Tryz.underlying3 h
  exact ⟨i, h1⟩
set_option maxRecDepth 100000 in
set_option maxHeartbeats 4000000 in
theorem keys1_stops (n : Nat) {gm nn gb : Nat} {F : By → Option Nat} (w : World) (hB : Blk w gb [.map (some gm)] 53) (hm : MapP w gm nn F) : SeqStopsK Fence.wide n Tryz.prog 40 #[.pointer (some ⟨gb, 0, none⟩)] encD KeepsWalks (fun xs => SD F xs ∧ xs.length ≤ nn) (fun _ => True) nn w := fun lab J Jx W hW hJ hJx hY h0 => by
  have hmW : MapP W gm nn F := hm.next hW
  obtain ⟨D, h1, h2⟩ := hmW.ex
  have hBW : Blk W gb [.map (some gm)] 53 := hB.below hW hB.lt
  have HD : Hid (W.ownsMap Tryz.prog 40 (plainElem Tryz.prog 3) gm nn D) := h1
  have HH : Hid (∀ x : Dg, Maps.has D (litD x.1) = (F x.1).isSome) := fun x => (h2 x.1 x.2).1
  have HSZ : Hid (Maps.size D ≤ nn) := h1.size_le
  have HY : Aside (∀ pre x X, J pre X → pre.length < nn → YieldAt Fence.wide (n - 1) Tryz.prog lab (encD x) X fun e Y => (e = .returned (.bool true) ∧ J (pre ++ [x]) Y ∧ KeepsWalks X Y) ∨ (e = .returned (.bool false) ∧ Jx (pre ++ [x]) Y)) := hY
  have HJ : Hid (AbidesFrom W.heap.size J) := hJ
  have HJX : Hid (AbidesFrom W.heap.size Jx) := hJx
  have HJ0 : Hid (J [] W) := h0
  have c0 : W.cell? ⟨gb, 0, none⟩ = some (.map (some gm)) := hBW.cell 0
  clear hB hm hW hJ hJx hY h0 hmW h1 h2 hBW
  refine callsIn_wide.2 ?_
  simp only [List.append_toArray, List.cons_append, List.nil_append]
  go_enter Tryz.func40, Tryz.ntmps40
  have tk1 : Hid True := trivial
  go_wp2_with (first
    | (clear tk1; at_range; refine wpList_range_own W rfl _ 53 rfl 40 3 kD Tryz.underlying53 (plainElem Tryz.prog 3) gm nn D rfl HD.out ?_
       intro y1 hrg hg1 hs1
       have HI0 : Hid (RgD gm W.heap.size nn F D [] (Maps.has D) (Maps.size D) y1) := ⟨hrg, by have := HSZ.out; simpa using this, List.nodup_nil, (fun p hp => by cases hp), fun x => by rw [HH.out x]; simp⟩
       have HJ1 : Hid (J [] y1) := HJ.out [] W y1 none HJ0.out hg1 (fun r e => by cases e)
       have HGS : Hid (W.heap.size ≤ y1.heap.size) := hg1.size
       clear hrg hg1 hs1 c0))
  go_frame
  obtain ⟨r, HR⟩ : ∃ x, Hid (x = W.heap.size) := ⟨_, rfl⟩
  have HJ2 : Hid (AbidesFrom r J ∧ AbidesFrom r Jx) := by rw [HR.out]; exact ⟨HJ.out, HJX.out⟩
  rw [← HR.out] at HI0 ⊢
  clear HJ HJX HJ0 HD HSZ HGS
  go_loopw [3] (fun _ wr => ∃ ss left cnt, RgD gm r nn F D ss left cnt wr ∧ J ss wr) (fun _ wr => wr.rangeLeft gm r)
  case atStart => exact ⟨[], _, _, HI0.out, HJ1.out⟩
  case round =>
    clear HI0 HJ1
    obtain ⟨ss, left, cnt, hI, hj⟩ := hrel
    have HI : Hid (RgD gm r nn F D ss left cnt wr ∧ J ss wr) := ⟨hI, hj⟩
    clear hI hj
    have tk2 : Hid True := trivial
    have tk3 : Hid True := trivial
    have tk4 : Hid True := trivial
    go_upto_region 3 with (first
      | (clear tk2; at_next; refine wpList_next_ranges wr rfl _ rfl 40 kD (plainElem Tryz.prog 3) (fun x : Dg => Value.agg (cb x.1).toArray) (fun i : Int => Value.int .i64 i) (fun key kl h => by obtain ⟨x, h, _⟩ := key_dig h; exact ⟨x, h⟩) (fun v y h => int_form h) gm r nn D left cnt rfl HI.out.1.rg (fun hc0 hl0 => ?_) (fun x c kl y w1 cnt1 hkey hlk hv hat hrg1 hlt hg1 hs1 hen => ?_))
      | (clear tk3; with_reducible refine wpSeq_allocD ?_ ?_ ?_
         · rfl
         · rfl
         intro g5 y3 nnb
         have HN3 : Hid (NewB zb32 w1 g5 y3) := nnb
         clear nnb)
      | (clear tk4; with_reducible refine wpSeq_storeD (.tmp 3) (.tmp 9) g5 zb32 x.1 zb32_len x.2 HN3.out.blk ?_ ?_ ?_ ?_ ?_
         · rfl
         · rfl
         · rfl
         · rfl
         intro y4 sb
         have HB4 : Hid (Blk y4 g5 (cb x.1) 40) := sb.blk
         have HW4 : Hid (Below w1.heap.size w1 y4) := sb.only.below HN3.out.ge HN3.out.below.size |> HN3.out.below.trans
         clear sb HN3))
    · go_end0
      exact ⟨⟨_, rfl⟩, Or.inl ⟨ss, ⟨HI.out.1.all hl0, Nat.le_trans (Nat.le_add_right _ _) HI.out.1.cs⟩, HI.out.2⟩⟩
    · obtain ⟨x2, ex, ek⟩ := key_dig hkey
      have exx : x2 = x := by
        simp only [Value.agg.injEq] at ex
        exact Subtype.ext (cb_injP (by simpa using ex.symm))
      subst exx
      subst ek
      have hwi := HI.out.1.rg.iter_walk
      have HI1 : Hid (RgD gm r nn F D (ss ++ [x2]) (fun z => left z && !z.sameKey (litD x2.1)) cnt1 w1) := HI.out.1.step hlk hrg1 hlt
      have hj1 : J ss w1 := HJ2.out.1 ss wr w1 (some r) HI.out.2 hg1 (fun k e => by cases e; exact ⟨Nat.le_refl _, hwi⟩)
      have hg4 : w1.grownBy y4 none := ⟨HW4.out.os, HW4.out.tape, HW4.out.output, HW4.out.size, fun k hk _ => HW4.out.block k hk⟩
      have hj4 : J ss y4 := HJ2.out.1 ss w1 y4 none hj1 hg4 (fun k e => by cases e)
      have hln : ss.length < nn := by have := HI1.out.cs; rw [List.length_append] at this; simp at this; omega
      obtain ⟨fn, tmps, assign, body, hyr, hR⟩ := HY.out ss x2 y4 hj4 hln
      dsimp only [encD] at hyr
      have HR4 : Hid (y4.ranges Tryz.prog 40 (plainElem Tryz.prog 3) gm r nn D (fun z => left z && !z.sameKey (litD x2.1)) cnt1) := HI1.out.rg.kept hg4 (by simp) (by simp)
      have HLT : Hid (cnt1 < cnt) := hlt
      have HLE : Hid (wr.rangeLeft gm r = cnt) := HI.out.1.rg.left_eq
      clear hkey hlk hv hat hrg1 hlt hg1 hs1 hen hj1 hg4 hj4 hwi
      refine (wpIn_wide (n := n)).1 ?_
      refine wpIn_region_lit ?_
      refine wpSeqIn_val8 (v := .func (.yield lab) #[] #[]) (w' := y4) rfl (by simp [go_sem]) ?_
      simp only [Act.put, List.setIfInBounds_toArray, List.set_cons_zero, List.set_cons_succ]
      refine wpSeqIn_val8 (v := .agg (cb x2.1).toArray) (w' := y4) rfl (loadDigest (.tmp 3) g5 x2.1 x2.2 HB4.out rfl rfl) ?_
      simp only [Act.put, List.setIfInBounds_toArray, List.set_cons_zero, List.set_cons_succ]
      refine wpSeqIn_round8 rfl (by simp [go_sem, hyr]) hR ?_
      rintro e5 y5 (⟨rfl, hj, hkp⟩ | ⟨rfl, hj⟩)
      · refine ⟨_, rfl, ?_⟩
        simp only [Act.put, List.setIfInBounds_toArray, List.set_cons_zero, List.set_cons_succ]
        refine wpSeqIn_val8 (v := .bool false) (w' := y5) rfl (by simp [go_sem]) ?_
        simp only [Act.put, List.setIfInBounds_toArray, List.set_cons_zero, List.set_cons_succ]
        refine wpListIn_nil ?_
        have hr5 := HR4.out.of_walks hkp
        have HF : Hid (RgD gm r nn F D (ss ++ [x2]) (fun z => left z && !z.sameKey (litD x2.1)) cnt1 y5 ∧ J (ss ++ [x2]) y5) := ⟨⟨hr5, HI1.out.cs, HI1.out.nd, HI1.out.sub, HI1.out.lf⟩, hj⟩
        clear hj hkp hyr hR hr5
        go_wp2
        go_roundw
        case rel => exact ⟨_, _, _, HF.out.1, HF.out.2⟩
        case measure =>
          rw [HF.out.1.rg.left_eq, HLE.out]
          exact HLT.out
      · refine ⟨_, rfl, ?_⟩
        simp only [Act.put, List.setIfInBounds_toArray, List.set_cons_zero, List.set_cons_succ]
        refine wpSeqIn_val8 (v := .bool true) (w' := y5) rfl (by simp [go_sem]) ?_
        simp only [Act.put, List.setIfInBounds_toArray, List.set_cons_zero, List.set_cons_succ]
        refine wpListIn_nil ?_
        have HF : Hid (Jx (ss ++ [x2]) y5) := hj
        clear hj hyr hR
        go_wp2
        refine bodyPost_ret (results_none rfl _ _ _) rfl ?_
        exact ⟨⟨_, rfl⟩, Or.inr ⟨_, trivial, HF.out⟩⟩
end Go.Proofs.YtphmmnffgknkcabGreatDoor
namespace Go.Proofs.YtphmmnffgknkcabGreatDoor
open Go.RowKit
set_option maxRecDepth 100000
theorem own_growsD {β : Type} {B : Nat} {I : β → World → Prop} (h : OwnFrom B I) {s : β} {X Y : World} (hs : I s X) (hb : Below X.heap.size X Y) : I s Y :=
  h s X Y none hs ⟨hb.os, hb.tape, hb.output, hb.size, fun k hk _ => hb.block k hk⟩ (fun r e => by cases e)
theorem walks_below {X Y : World} (hb : Below X.heap.size X Y) : KeepsWalks X Y := ⟨hb.size, fun k _ hk _ => (hb.block k (Array.getElem?_eq_some_iff.1 hk).1).trans hk⟩
structure LpAd (L : LoopState → Option Code → Loop) (n : Nat) (s : LoopState) (p : Option Code) (X : World) : Prop where
  lp : X.heap[n + 1]? = some (.loop (L s p))
  df : X.heap[n]? = some (.deferred (some []))
theorem LpAd.grows {L : LoopState → Option Code → Loop} {n : Nat} {s : LoopState} {p : Option Code} {X Y : World} (h : LpAd L n s p X) (hb : Below X.heap.size X Y) : LpAd L n s p Y :=
  ⟨(hb.block _ (Array.getElem?_eq_some_iff.1 h.lp).1).trans h.lp, (hb.block _ (Array.getElem?_eq_some_iff.1 h.df).1).trans h.df⟩
theorem LpAd.put {L : LoopState → Option Code → Loop} {n : Nat} {s : LoopState} {p : Option Code} {X : World} (h : LpAd L n s p X) (s' : LoopState) (p' : Option Code) : LpAd L n s' p' (X.putObj (n + 1) (.loop (L s' p'))) :=
  ⟨World.putObj_heap_same (Array.getElem?_eq_some_iff.1 h.lp).1, (World.putObj_heap_other (by omega)).trans h.df⟩
theorem LpAd.others {L : LoopState → Option Code → Loop} {n : Nat} {s : LoopState} {p : Option Code} {X Y : World} (h : LpAd L n s p X) (hk : KeepsOthers X Y) : LpAd L n s p Y := ⟨hk.same _ _ h.lp rfl, hk.same _ _ h.df rfl⟩
theorem LpAd.walk {L : LoopState → Option Code → Loop} {n : Nat} {s : LoopState} {p : Option Code} {X Y : World} {row : Option Nat} (h : LpAd L n s p X) (hg : X.grownBy Y row) (hr : ∀ r, row = some r → n + 1 < r) : LpAd L n s p Y :=
  ⟨(hg.block _ (Array.getElem?_eq_some_iff.1 h.lp).1 (fun e => by have := hr _ e.symm; omega)).trans h.lp, (hg.block _ (Array.getElem?_eq_some_iff.1 h.df).1 (fun e => by have := hr _ e.symm; omega)).trans h.df⟩
theorem range_dig {n : Nat} {g : Operand} {pv : Tmp} {assign body : Code} {Q : Exit → Act → World → Prop} {a : Act} {w : World} (h1 : 1 ≤ n) {gf : Nat} {lb : Array Value} (hg : a.eval g = .func (.func gf) #[] lb) (eg : ∀ args w, (callFunc gf args).run Tryz.prog w = .ok (.enter gf args) w)
    {S Sp : List Dg → Prop} {N : Nat} {w0 : World} (hseq : SeqStopsK Fence.wide (n - 1) Tryz.prog gf lb encD KeepsWalks S Sp N w0) (hb0 : Below w0.heap.size w0 w)
    (I : List Dg → World → Prop) (hI : OwnFrom w.heap.size I) (h0 : I [] w) (a₁ : Nat → Dg → Act)
    (hassign : ∀ (l : Nat) (x : Dg) (W : World) (K : Act → World → Prop), (∀ g5 W2, W.heap.size ≤ g5 → Blk W2 g5 (cb x.1) 40 → Below W.heap.size W W2 → K (a₁ g5 x) W2) → assign.wpIn (Fence.wide.inRound l) (n - 1 - 1) Tryz.prog (Exit.then K (fun _ _ _ => False)) { tmps := a.tmps.setIfInBounds pv (.agg (cb x.1).toArray), defers := [] } W)
    (hbody : ∀ (l : Nat) (pre : List Dg) (x : Dg) (g5 : Nat) (W : World), I pre W → Blk W g5 (cb x.1) 40 → pre.length < N → body.wpIn (Fence.wide.inRound l) (n - 1 - 1) Tryz.prog (ownPostK KeepsWalks I (fun _ _ _ => False) (pre ++ [x]) W) (a₁ g5 x) W)
    (hdone : ∀ (D : Nat) (xs : List Dg) (W : World), w.heap.size ≤ D → S xs → I xs W → W.heap[D]? = some (.deferred (some [])) → Q .normal { a with defers := { target := .collected D, args := #[] } :: a.defers } W) :
    (Code.rangeFunc g #[pv] assign body).wpIn Fence.wide n Tryz.prog Q a w := by
  refine wpIn_rangeFunc fun fn hfn => ?_
  obtain ⟨L, hL⟩ : ∃ L : LoopState → Option Code → Loop, ∀ s p, L s p = { state := s, pending := p, fn := fn, tmps := a.tmps, params := #[pv], assign := assign, body := body, defers := w.heap.size } := ⟨fun s p => { state := s, pending := p, fn := fn, tmps := a.tmps, params := #[pv], assign := assign, body := body, defers := w.heap.size }, fun _ _ => rfl⟩
  obtain ⟨V, hV⟩ : ∃ V, V = (w.alloc (.deferred (some []))).alloc (.loop (L .ready none)) := ⟨_, rfl⟩
  have hVs : V.heap.size = w.heap.size + 2 := by rw [hV]; simp
  have hbw : Below w.heap.size w V := by
    rw [hV]
    exact ((Below.refl _ w).alloc (Nat.le_refl _) _).alloc (by simp) _
  have hat : LpAd L w.heap.size .ready none V := by
    rw [hV]
    refine ⟨?_, (Below.heap_alloc _ _ _ (by simp)).trans (World.alloc_heap_new w _)⟩
    have := World.alloc_heap_new (w.alloc (.deferred (some []))) (.loop (L .ready none))
    rwa [World.size_alloc] at this
  refine ⟨w.heap.size + 1, [{ target := .collected w.heap.size, args := #[] }], V, { target := .fn (.func gf) lb, args := #[.func (.yield (w.heap.size + 1)) #[] #[]] }, V, gf, #[.func (.yield (w.heap.size + 1)) #[] #[]] ++ lb, V, ?_, ?_, fun _ _ => trivial, ?_, fun _ => h1, ?_⟩
  · rw [hV, hL]
    exact run_enterLoop_outer _ _ _ _ _
  · simp only [resolve, hg]
    simp [go_sem]
  · simp [invoke, go_sem, eg]
  have hput : ∀ {b : List Dg} {X : World} {s : LoopState} {p : Option Code}, I b X → LpAd L w.heap.size s p X → ∀ s' p', I b (X.putObj (w.heap.size + 1) (.loop (L s' p'))) := fun hb hl s' p' => hI.putObj _ hb (by omega) hl.lp rfl
  have hkp : ∀ {X : World} {s : LoopState} {p : Option Code}, LpAd L w.heap.size s p X → ∀ s' p', KeepsWalks X (X.putObj (w.heap.size + 1) (.loop (L s' p'))) := fun hl s' p' => KeepsWalks.putObj _ hl.lp rfl
  refine (hseq (w.heap.size + 1) (fun pre X => I pre X ∧ LpAd L w.heap.size .ready none X) (fun _ _ => False) V (hb0.trans (hbw.mono hb0.size)) (fun s X Y row h hgr hr => ⟨hI s X Y row h.1 hgr (fun r e => ?_), h.2.walk hgr (fun r e => ?_)⟩) (fun s X Y row h _ _ => h.elim) ?_ ⟨own_growsD hI h0 hbw, hat⟩).mono ?_
  · obtain ⟨h2, o, ho, hw⟩ := hr r e
    exact ⟨by omega, o, ho, Obj.not_cells_of_walk hw⟩
  · have := (hr r e).1
    omega
  · rintro pre x X ⟨hi, hl⟩ hlen
    have hy := run_yield (P := Tryz.prog) (args := encD x) hl.lp (by rw [hL]; rfl)
    rw [hL] at hy
    have hz : ∀ v : Value, (#[pv].zip #[v]).foldl (fun t (p, v) => t.setIfInBounds p v) a.tmps = a.tmps.setIfInBounds pv v := fun v => by simp
    refine ⟨fn, _, assign, body, hy, roundIn_of_wpIn hfn ?_⟩
    simp only [encD, hz]
    refine hassign _ x X _ fun g5 X2 hg5 hB5 hbX => ?_
    have hl2 := hl.grows hbX
    have hi2 := own_growsD hI hi hbX
    have hbg := run_beginRound (P := Tryz.prog) hl2.lp (by rw [hL])
    have hbz : ({ L .ready none with state := .busy } : Loop) = L .busy none := by rw [hL, hL]
    rw [hbz] at hbg
    refine ⟨_, hbg, ?_⟩
    have hl3 := hl2.put .busy none
    have hlt := (Array.getElem?_eq_some_iff.1 hl.lp).1
    have hB6 : Blk (X2.putObj (w.heap.size + 1) (.loop (L .busy none))) g5 (cb x.1) 40 := (World.putObj_heap_other (by omega)).trans hB5
    refine wpIn_mono (hbody _ pre x g5 _ (hput hi2 hl2 .busy none) hB6 hlen) ?_
    have hend : ∀ (Z : World), KeepsOthers (X2.putObj (w.heap.size + 1) (.loop (L .busy none))) Z → LpAd L w.heap.size .busy none Z ∧ (Instr.endRound (w.heap.size + 1) none).run Tryz.prog Z = .ok (.bool true) (Z.putObj (w.heap.size + 1) (.loop (L .ready none))) := fun Z hk => by
      have hz := hl3.others hk
      have he := run_endRound (P := Tryz.prog) none hz.lp
      have e2 : ({ L .busy none with state := if (none : Option Code).isNone then .ready else .done, pending := none } : Loop) = L .ready none := by rw [hL, hL]; rfl
      rw [e2] at he
      exact ⟨hz, he⟩
    intro e b Z hp
    cases e with
    | normal =>
      obtain ⟨hk, hkz, hiz⟩ := hp
      obtain ⟨hz, he⟩ := hend Z hk
      exact ⟨_, _, he, Or.inl ⟨rfl, ⟨hput hiz hz .ready none, hz.put .ready none⟩, (walks_below hbX).trans (((hkp hl2 .busy none).trans hkz).trans (hkp hz .ready none))⟩⟩
    | ret => exact hp.2.elim
    | exit id => exact hp.2.elim
    | goto t => exact hp.2.elim
    | panic ch => exact hp.elim
    | outgrown => exact hp.elim
  · rintro e Y ⟨⟨v, rfl⟩, ⟨xs, hS, hi, hl⟩ | ⟨pre, hSp, hf⟩⟩
    · have he := run_endLoop (P := Tryz.prog) hl.lp (by rw [hL]; simp)
      have e2 : ({ L .ready none with state := .exhausted } : Loop) = L .exhausted none := by rw [hL, hL]
      rw [e2, show (L .ready none).pending = none by rw [hL]] at he
      exact ⟨none, _, he, hdone _ xs _ (Nat.le_refl _) hS (hput hi hl .exhausted none) (hl.put .exhausted none).df⟩
    · exact hf.elim
theorem others_walks {X Y : World} (h : KeepsOthers X Y) : KeepsWalks X Y := ⟨h.size, fun k o hk hw => h.same k o hk (Obj.not_cells_of_walk hw)⟩
theorem others_below {X Y : World} (hb : Below X.heap.size X Y) : KeepsOthers X Y := ⟨hb.size, fun k _ hk _ => (hb.block k (Array.getElem?_eq_some_iff.1 hk).1).trans hk⟩
structure ApI (w1 : World) (gb : Nat) (xs : List Dg) (v : Value) (W : World) : Prop where
  bx : Blk W gb [v] 22
  own : OwnD W w1.heap.size v (xs.map (·.1))
  bel : Below w1.heap.size w1 W
theorem OwnD.neB {w : World} {base : Nat} {v : Value} {ds : List By} (h : OwnD w base v ds) {k : Nat} {o : Obj} (hk : w.heap[k]? = some o) (ho : ∀ cur, o ≠ .cells cur 40 (0, 0)) : v.ownBlock ≠ some k := fun e => by
  rcases h.1 with ⟨_, ⟨rfl, _⟩ | ⟨g, cap, cur, rfl, _, hh, _⟩⟩
  · cases e
  · have : g = k := by simpa [Value.ownBlock] using e
    subst this
    rw [hh] at hk
    exact ho _ (Option.some.inj hk).symm
theorem ApI.grow {w1 W Y : World} {gb : Nat} {xs : List Dg} {v : Value} {row : Option Nat} (h : ApI w1 gb xs v W) (hg : W.grownBy Y row) (hr : ∀ r, row = some r → w1.heap.size ≤ r ∧ ∃ o : Obj, W.heap[r]? = some o ∧ o.isCells = false) : ApI w1 gb xs v Y := by
  refine ⟨?_, ⟨h.own.1.kept hg ?_, h.own.2⟩, h.bel.grown hg h.bel.size (fun k e => (hr k e).1)⟩
  · refine (hg.block gb h.bx.lt (fun e => ?_)).trans h.bx
    obtain ⟨_, o, ho, hc⟩ := hr gb e.symm
    have := h.bx
    unfold Blk at this
    rw [this] at ho
    cases ho
    cases hc
  · cases row with
    | none =>
      cases hv : v.ownBlock with
      | none => exact Or.inl rfl
      | some k => exact Or.inr (by simp)
    | some r =>
      obtain ⟨_, o, ho, hc⟩ := hr r rfl
      exact Or.inr (h.own.neB ho (fun cur e => by rw [e] at hc; cases hc))
theorem ApI.new {w1 W Y : World} {gb : Nat} {xs : List Dg} {v : Value} (h : ApI w1 gb xs v W) (hb : Below W.heap.size W Y) : ApI w1 gb xs v Y :=
  h.grow (row := none) ⟨hb.os, hb.tape, hb.output, hb.size, fun k hk _ => hb.block k hk⟩ (fun r e => by cases e)
def ApJ (w1 : World) (gb : Nat) (xs : List Dg) (W : World) : Prop := ∃ v, ApI w1 gb xs v W
theorem apJ_own (w1 : World) (gb B : Nat) (hB : w1.heap.size ≤ B) : OwnFrom B (ApJ w1 gb) := fun s W W' row h hg hr => by
  obtain ⟨v, hv⟩ := h
  exact ⟨v, hv.grow hg (fun r e => ⟨Nat.le_trans hB (hr r e).1, (hr r e).2⟩)⟩
set_option maxRecDepth 100000 in
set_option maxHeartbeats 4000000 in
theorem appSeq_any {gf : Nat} {lb : Array Value} (eg : ∀ args w, (callFunc gf args).run Tryz.prog w = .ok (.enter gf args) w) {S Sp : List Dg → Prop} {N : Nat} {w0 w : World} (hseq : SeqStopsK Fence.wide 2 Tryz.prog gf lb encD KeepsWalks S Sp N w0) (hb0 : Below w0.heap.size w0 w) (hN : N < 1000000) :
    Calls Tryz.prog 68 #[.slice none 0 0, .func (.func gf) #[] lb] w fun e w' => ∃ v xs, e = .returned v ∧ S xs ∧ OwnD w' w.heap.size v (xs.map (·.1)) ∧ Below w.heap.size w w' := by
  have HSQ : Aside (SeqStopsK Fence.wide 2 Tryz.prog gf lb encD KeepsWalks S Sp N w0) := hseq
  have HB0 : Hid (Below w0.heap.size w0 w) := hb0
  have HN : Hid (N < 1000000) := hN
  have HEG : Aside (∀ args w, (callFunc gf args).run Tryz.prog w = .ok (.enter gf args) w) := eg
  clear hseq hb0 hN eg
  refine (callsIn_wide (n := 3)).1 ?_
  refine callsIn_of_wp_marks Tryz.func68 rfl trivial ?_ rfl
  simp only [Tryz.ntmps68, List.size_toArray, List.length_cons, List.length_nil, Nat.reduceAdd, Nat.reduceSub, Array.replicate_succ, Array.replicate_zero, List.push_toArray, List.append_toArray, List.nil_append, List.cons_append]
  gi_wp2
  obtain ⟨gb, HGB⟩ : ∃ z, Hid (z = w.heap.size) := ⟨_, rfl⟩
  have HA0 : Hid (ApI w gb [] (.slice none 0 0) (w.alloc (.cells #[.slice none 0 0] 22))) := ⟨by rw [HGB.out]; exact Blk.new w [.slice none 0 0] 22, OwnD.nil _ _, below_alloc _ _⟩
  rw [← HGB.out]
  generalize w.alloc (.cells #[.slice none 0 0] 22) = v1 at *
  refine range_dig (by omega) (gf := gf) (lb := lb) rfl HEG.out HSQ.out (HB0.out.trans (HA0.out.bel.mono HB0.out.size)) (ApJ w gb) (apJ_own w gb _ HA0.out.bel.size) ⟨_, HA0.out⟩
    (fun g5 x => { tmps := #[.slice none 0 0, .func (.func gf) #[] lb, .pointer (some ⟨gb, 0, none⟩), undef, .slice none 0 0, .pointer (some ⟨g5, 0, none⟩), .func (.func gf) #[] lb, .agg (cb x.1).toArray, undef, undef, undef, undef, undef], defers := [] }) ?assign ?body ?done
  case assign =>
    intro l x W K hK
    have HK : Aside (∀ g5 W2, W.heap.size ≤ g5 → Blk W2 g5 (cb x.1) 40 → Below W.heap.size W W2 → K { tmps := #[.slice none 0 0, .func (.func gf) #[] lb, .pointer (some ⟨gb, 0, none⟩), undef, .slice none 0 0, .pointer (some ⟨g5, 0, none⟩), .func (.func gf) #[] lb, .agg (cb x.1).toArray, undef, undef, undef, undef, undef], defers := [] } W2) := hK
    clear hK
    have td0 : Hid True := trivial
    have td1 : Hid True := trivial
    repeat (first | refine wpIn_round_list (by kernel_rfl) (by rintro ⟨_, _, h⟩; exact h) ?_ | gi_step)
    change wpList _ _ _ _ { tmps := #[.slice none 0 0, .func (.func gf) #[] lb, .pointer (some ⟨gb, 0, none⟩), undef, .slice none 0 0, undef, .func (.func gf) #[] lb, .agg (cb x.1).toArray, undef, undef, undef, undef, undef], defers := [] } _
    go_wp2_with (first
      | (clear td0; with_reducible refine wpSeq_allocD ?_ ?_ ?_
         · rfl
         · rfl
         intro g5 y3 nnb
         have HN3 : Hid (NewB zb32 W g5 y3) := nnb
         clear nnb)
      | (clear td1; with_reducible refine wpSeq_storeD (.tmp 5) (.tmp 7) g5 zb32 x.1 zb32_len x.2 HN3.out.blk ?_ ?_ ?_ ?_ ?_
         · rfl
         · rfl
         · rfl
         · rfl
         intro y4 sb
         have HB4 : Hid (Blk y4 g5 (cb x.1) 40 ∧ Below W.heap.size W y4) := ⟨sb.blk, HN3.out.below.trans (sb.only.below HN3.out.ge HN3.out.below.size)⟩
         clear sb))
    exact HK.out g5 y4 HN3.out.ge HB4.out.1 HB4.out.2
  case body =>
    rintro lab pre x g5 W ⟨v, hv⟩ hB5 hln
    obtain ⟨ad, cp, rfl⟩ := hv.own.slice
    have HI : Hid (ApI w gb pre (.slice ad (pre.map (·.1)).length cp) W) := hv
    have H5 : Hid (Blk W g5 (cb x.1) 40) := hB5
    have HL : Hid ((pre.map (·.1)).length < 2000000) := by show _ < _; rw [List.length_map]; have := HN.out; omega
    generalize hnn : (pre.map (·.1)).length = nn at HI
    clear hv hB5 hln hnn
    have c2 : W.cell? ⟨gb, 0, none⟩ = some (.slice ad nn cp) := HI.out.bx.cell 0
    repeat (first | refine wpIn_round_list (by kernel_rfl) (by rintro ⟨_, _, h⟩; exact h) ?_ | gi_step)
    have td0 : Hid True := trivial
    have td1 : Hid True := trivial
    have td2 : Hid True := trivial
    go_wp2_with (first
      | (clear td0; with_reducible refine wpSeq_loadD (.tmp 5) g5 x.1 x.2 H5.out ?_ ?_ ?_ ?_
         · rfl
         · rfl
         · rfl)
      | (clear td1; with_reducible refine wpSeq_buildD (.tmp 9) x.1 x.2 ?_ ?_ ?_ ?_
         · rfl
         · rfl
         · rfl
         intro gD y3 nb
         have HY : Hid (Blk y3 gD (cb x.1) 40) := nb.blk
         have HI3 : Hid (ApI w gb pre (.slice ad nn cp) y3 ∧ KeepsOthers W y3) := ⟨HI.out.new nb.below, others_below nb.below⟩
         clear nb c2)
      | (clear td2; with_reducible refine wpSeq_appendD (.tmp 8) (.tmp 10) w.heap.size (.slice ad nn cp) (pre.map (·.1)) x.1 gD HI3.out.1.own HY.out x.2 HL.out HI3.out.1.bel.size ?_ ?_ ?_ ?_ ?_
         · rfl
         · rfl
         · rfl
         · rfl
         intro v4 y4 ho hg
         obtain ⟨a4, k4, hv4⟩ := ho.slice
         generalize hn4 : (pre.map (·.1) ++ [x.1]).length = n4 at hv4
         clear hn4
         subst hv4
         have HO4 : Hid (OwnD y4 w.heap.size (.slice a4 n4 k4) ((pre ++ [x]).map (·.1))) := by rw [List.map_append]; exact ho
         have HB4 : Hid (Blk y4 gb [.slice ad nn cp] 22) := by
           refine (hg.other gb (fun e => ?_) HI3.out.1.bx.lt).trans HI3.out.1.bx
           exact HI3.out.1.own.neB HI3.out.1.bx (fun cur e2 => by simp at e2) e.symm
         have HW4 : Hid (Below w.heap.size w y4 ∧ KeepsOthers W y4) := by
           refine ⟨HI3.out.1.bel.trans hg.below, HI3.out.2.trans ⟨hg.below.size, fun k o hk ho2 => (hg.other k (fun e => ?_) (Array.getElem?_eq_some_iff.1 hk).1).trans hk⟩⟩
           exact HI3.out.1.own.neB hk (fun cur e2 => by rw [e2] at ho2; cases ho2) e.symm
         have c4 : y4.cell? ⟨gb, 0, none⟩ = some (.slice ad nn cp) := HB4.out.cell 0
         have d4 : y4.frozen? ⟨gb, 0, none⟩ = false := HB4.out.frozen 0
         clear ho hg))
    have ho5 : Only gb y4 (y4.setCell ⟨gb, 0, none⟩ (.slice a4 n4 k4)) := Only.setCell (Only.refl _ _) _ _
    have hB5 : Blk (y4.setCell ⟨gb, 0, none⟩ (.slice a4 n4 k4)) gb [.slice a4 n4 k4] 22 := HB4.out.set 0 _
    generalize y4.setCell ⟨gb, 0, none⟩ (.slice a4 n4 k4) = y5 at *
    have hgb : w.heap.size ≤ gb := by rw [HGB.out]; exact Nat.le_refl _
    have hb5 : Below w.heap.size y4 y5 := ho5.below hgb HW4.out.1.size
    have hg5 : y4.grownBy y5 (some gb) := ⟨hb5.os, hb5.tape, hb5.output, hb5.size, fun k hk hne => ho5.block k (fun e => hne (by rw [e])) hk⟩
    have hk5 : KeepsOthers W y5 := HW4.out.2.trans ⟨hb5.size, fun k o hk ho2 => (ho5.block k (fun e => by
      have h := HB4.out
      unfold Blk at h
      rw [← e, hk] at h
      cases h
      cases ho2) (Array.getElem?_eq_some_iff.1 hk).1).trans hk⟩
    exact ⟨hk5, others_walks hk5, _, hB5, ⟨HO4.out.1.kept hg5 (Or.inr (HO4.out.neB HB4.out (fun cur e2 => by simp at e2))), HO4.out.2⟩, HW4.out.1.trans hb5⟩
  case done =>
    rintro Dd xs W hD hxs ⟨v, hv⟩ hK
    obtain ⟨ad, cp, rfl⟩ := hv.own.slice
    have HI : Hid (ApI w gb xs (.slice ad (xs.map (·.1)).length cp) W) := hv
    have HKD : Hid (W.heap[Dd]? = some (.deferred (some []))) := hK
    have HKG : Hid (w.heap.size ≤ Dd) := Nat.le_trans HA0.out.bel.size hD
    have HXS : Hid (S xs) := hxs
    generalize hnn : (xs.map (·.1)).length = nn at HI
    have c2 : W.cell? ⟨gb, 0, none⟩ = some (.slice ad nn cp) := HI.out.bx.cell 0
    clear hv hK hD hxs hnn
    gi_wp2
    have hgp := grownBy_putObj' W Dd (.deferred none)
    have hbl : Below w.heap.size w (W.putObj Dd (.deferred none)) := HI.out.bel.grown hgp HI.out.bel.size (fun k e => by cases e; exact HKG.out)
    have how : OwnD (W.putObj Dd (.deferred none)) w.heap.size (.slice ad nn cp) (xs.map (·.1)) := ⟨HI.out.own.1.kept hgp (Or.inr (HI.out.own.neB HKD.out (fun cur e2 => by cases e2))), HI.out.own.2⟩
    refine ⟨by simp, .inl ⟨_, _, rfl, run_takeDeferred HKD.out, ?_⟩⟩
    exact ⟨_, results_tmp rfl _ _ _, Value.slice ad nn cp, xs, rfl, HXS.out, how, hbl⟩
set_option maxRecDepth 100000 in
set_option maxHeartbeats 4000000 in
theorem collect_any {gf : Nat} {lb : Array Value} (eg : ∀ args w, (callFunc gf args).run Tryz.prog w = .ok (.enter gf args) w) {S Sp : List Dg → Prop} {N : Nat} {w0 w : World} (hseq : SeqStopsK Fence.wide 2 Tryz.prog gf lb encD KeepsWalks S Sp N w0) (hb0 : Below w0.heap.size w0 w) (hN : N < 1000000) :
    Calls Tryz.prog 38 #[.func (.func gf) #[] lb] w fun e w' => ∃ v xs, e = .returned v ∧ S xs ∧ OwnD w' w.heap.size v (xs.map (·.1)) ∧ Below w.heap.size w w' := by
  have HC := appSeq_any eg hseq hb0 hN
  go_enter Tryz.func38, Tryz.ntmps38
  go_wp2_with (go_at_call 68; refine HC.mono ?_; rintro e w' ⟨v, xs, rfl, h1, h2, h3⟩)
  go_ret
  exact ⟨v, xs, rfl, h1, h2, h3⟩
set_option maxRecDepth 100000 in
set_option maxHeartbeats 4000000 in
theorem keys_any (gm : Nat) (w : World) : Calls Tryz.prog 25 #[.map (some gm)] w fun e w' => ∃ gb, e = .returned (.func (.func 40) #[] #[.pointer (some ⟨gb, 0, none⟩)]) ∧ Blk w' gb [.map (some gm)] 53 ∧ Below w.heap.size w w' := by
  go_enter Tryz.func25, Tryz.ntmps25
  go_wp2
  go_ret
  exact ⟨_, rfl, Blk.new w [.map (some gm)] 53, below_alloc _ _⟩
end Go.Proofs.YtphmmnffgknkcabGreatDoor
namespace Go.Proofs.YtphmmnffgknkcabGreatDoor
open Go.Shelf
set_option maxRecDepth 100000
def sortA_ren : Go.Shelf.Ren := ⟨fun | 6 => 39 | 15 => 70 | 14 => 69 | 28 => 98 | 29 => 99 | 20 => 90 | 21 => 91 | 22 => 92 | 23 => 93 | 24 => 94 | 25 => 95 | 26 => 96 | 27 => 97 | 46 => 106 | 47 => 107 | 48 => 108 | 49 => 109 | 50 => 110 | 57 => 114 | n => n, fun | 22 => 22 | 24 => 40 | 25 => 69 | 3 => 3 | 39 => 91 | 0 => 0 | 53 => 87 | 55 => 35 | 4 => 4 | 46 => 143 | 45 => 142 | 50 => 74 | 5 => 5 | 9 => 9 | 66 => 154 | 70 => 158 | 76 => 163 | 77 => 164 | n => n, fun | n => n⟩
theorem sortA : Go.Proofs.SlLaysF0.n6 Tryz.prog sortA_ren := {
  mixed := by kernel_rfl
  f6 := ⟨Tryz.f39.name, by decide, Tryz.func39.trans (congrArg some (by kernel_rfl))⟩
  f14 := ⟨Tryz.f69.name, by decide, Tryz.func69.trans (congrArg some (by kernel_rfl))⟩
  f15 := Tryz.func70.trans (congrArg some (by kernel_rfl))
  f20 := ⟨Tryz.f90.name, by decide, Tryz.func90.trans (congrArg some (by kernel_rfl))⟩
  f21 := ⟨Tryz.f91.name, by decide, Tryz.func91.trans (congrArg some (by kernel_rfl))⟩
  f22 := ⟨Tryz.f92.name, by decide, Tryz.func92.trans (congrArg some (by kernel_rfl))⟩
  f23 := ⟨Tryz.f93.name, by decide, Tryz.func93.trans (congrArg some (by kernel_rfl))⟩
  f24 := ⟨Tryz.f94.name, by decide, Tryz.func94.trans (congrArg some (by kernel_rfl))⟩
  f25 := ⟨Tryz.f95.name, by decide, Tryz.func95.trans (congrArg some (by kernel_rfl))⟩
  f26 := ⟨Tryz.f96.name, by decide, Tryz.func96.trans (congrArg some (by kernel_rfl))⟩
  f27 := ⟨Tryz.f97.name, by decide, Tryz.func97.trans (congrArg some (by kernel_rfl))⟩
  f28 := Tryz.func98.trans (congrArg some (by kernel_rfl))
  f29 := Tryz.func99.trans (congrArg some (by kernel_rfl))
  f46 := ⟨Tryz.f106.name, by decide, Tryz.func106.trans (congrArg some (by kernel_rfl))⟩
  f47 := Tryz.func107.trans (congrArg some (by kernel_rfl))
  f48 := Tryz.func108.trans (congrArg some (by kernel_rfl))
  f49 := ⟨Tryz.f109.name, by decide, Tryz.func109.trans (congrArg some (by kernel_rfl))⟩
  f50 := ⟨Tryz.f110.name, by decide, Tryz.func110.trans (congrArg some (by kernel_rfl))⟩
  f57 := ⟨Tryz.f114.name, by decide, Tryz.func114.trans (congrArg some (by kernel_rfl))⟩
  t0 := Tryz.underlying0
  a0 := Tryz.isAgg0
  z0 := Tryz.sizeOf0
  v0 := Tryz.zeroValue0
  t3 := Tryz.underlying3
  a3 := Tryz.isAgg3
  z3 := Tryz.sizeOf3
  v3 := Tryz.zeroValue3
  t4 := Tryz.underlying4
  a4 := Tryz.isAgg4
  z4 := Tryz.sizeOf4
  v4 := Tryz.zeroValue4
  t5 := Tryz.underlying5
  a5 := Tryz.isAgg5
  z5 := Tryz.sizeOf5
  v5 := Tryz.zeroValue5
  t9 := Tryz.underlying9
  a9 := Tryz.isAgg9
  z9 := Tryz.sizeOf9
  v9 := Tryz.zeroValue9
  t22 := Tryz.underlying22
  a22 := Tryz.isAgg22
  z22 := Tryz.sizeOf22
  v22 := Tryz.zeroValue22
  t25 := Tryz.underlying69
  a25 := Tryz.isAgg69
  z25 := Tryz.sizeOf69
  v25 := Tryz.zeroValue69
  t39 := Tryz.underlying91
  a39 := Tryz.isAgg91
  z39 := Tryz.sizeOf91
  v39 := Tryz.zeroValue91
  t45 := Tryz.underlying142
  a45 := Tryz.isAgg142
  z45 := Tryz.sizeOf142
  v45 := Tryz.zeroValue142
  t46 := Tryz.underlying143
  a46 := Tryz.isAgg143
  z46 := Tryz.sizeOf143
  v46 := Tryz.zeroValue143
  t50 := Tryz.underlying74
  a50 := Tryz.isAgg74
  z50 := Tryz.sizeOf74
  v50 := Tryz.zeroValue74
  t53 := Tryz.underlying87
  a53 := Tryz.isAgg87
  z53 := Tryz.sizeOf87
  v53 := Tryz.zeroValue87
  t55 := Tryz.underlying35
  a55 := Tryz.isAgg35
  z55 := Tryz.sizeOf35
  v55 := Tryz.zeroValue35
  t66 := Tryz.underlying154
  a66 := Tryz.isAgg154
  z66 := Tryz.sizeOf154
  v66 := Tryz.zeroValue154
  t70 := Tryz.underlying158
  a70 := Tryz.isAgg158
  z70 := Tryz.sizeOf158
  v70 := Tryz.zeroValue158
  t76 := Tryz.underlying163
  a76 := Tryz.isAgg163
  z76 := Tryz.sizeOf163
  v76 := Tryz.zeroValue163
  t77 := Tryz.underlying164
  a77 := Tryz.isAgg164
  z77 := Tryz.sizeOf164
  v77 := Tryz.zeroValue164 }
end Go.Proofs.YtphmmnffgknkcabGreatDoor
namespace Go.Proofs.YtphmmnffgknkcabGreatDoor
open Go.RowKit Go.Shelf
set_option maxRecDepth 100000
@[reducible] def dgI : Inhabited Dg := ⟨⟨zb32, zb32_len⟩⟩
def encG (x : Dg) : List Value := cb x.1
def cfD (x y : Dg) : Int := cmpB x.1 y.1
theorem lessB_tri : ∀ (x y : By), x.length = y.length → lessB x y = true ∨ x = y ∨ lessB y x = true
  | [], [], _ => Or.inr (Or.inl rfl)
  | [], _ :: _, h => by simp at h
  | _ :: _, [], h => by simp at h
  | a :: x, b :: y, h => by
    by_cases e : a = b
    · subst e
      rcases lessB_tri x y (by simpa using h) with h1 | h1 | h1
      · exact Or.inl (by simp [lessB, h1])
      · exact Or.inr (Or.inl (by rw [h1]))
      · exact Or.inr (Or.inr (by simp [lessB, h1]))
    · have e2 : ¬ b = a := fun h => e h.symm
      by_cases h1 : a.toNat < b.toNat
      · exact Or.inl (by simp [lessB, e, h1])
      · refine Or.inr (Or.inr ?_)
        have : b.toNat < a.toNat := by
          have : a.toNat ≠ b.toNat := fun h2 => e (BitVec.eq_of_toNat_eq h2)
          omega
        simp [lessB, e2, this]
theorem lt_cfD (x y : Dg) : ltOf cfD x y = lessB x.1 y.1 := by
  unfold ltOf cfD
  exact cmp_less _ _ (by rw [x.2, y.2])
theorem lessB_asym {x y : By} (h : lessB x y = true) : lessB y x = false := by
  cases h2 : lessB y x with
  | false => rfl
  | true =>
    have := lessB_trans _ _ _ h h2
    rw [lessB_self] at this
    cases this
theorem swoD : Sort.SWO (ltOf cfD) where
  irrefl x := by rw [lt_cfD, lessB_self]
  trans x y z h1 h2 := by rw [lt_cfD] at *; exact lessB_trans _ _ _ h1 h2
  ntrans x y z h1 h2 := by
    rw [lt_cfD] at *
    cases h3 : lessB x.1 z.1 with
    | false => rfl
    | true =>
      rcases lessB_tri x.1 y.1 (by rw [x.2, y.2]) with h | h | h
      · rw [h] at h1; cases h1
      · rw [h, h2] at h3; cases h3
      · rw [lessB_trans _ _ _ h h3] at h2; cases h2
set_option maxRecDepth 100000 in
set_option maxHeartbeats 4000000 in
theorem live1_any (x y : Dg) (W : World) : Calls Tryz.prog 26 #[.agg (encG x).toArray, .agg (encG y).toArray] W fun e w' => e = .returned (.int .i64 (cfD x y)) ∧ ∃ q os', w' = Sort.grow (W.drewN q) os' := by
  unfold encG
  obtain ⟨ca, HCA⟩ : ∃ z, Hid (z = cb x.1) := ⟨_, rfl⟩
  obtain ⟨ce, HCE⟩ : ∃ z, Hid (z = cb y.1) := ⟨_, rfl⟩
  rw [← HCA.out, ← HCE.out]
  have h1 := Blk.new W ca 40
  have h2 := Blk.new (W.alloc (.cells ca.toArray 40)) ce 40
  have h1b : Blk ((W.alloc (.cells ca.toArray 40)).alloc (.cells ce.toArray 40)) W.heap.size ca 40 := h1.below (below_alloc _ _) h1.lt
  obtain ⟨w1, HW1⟩ : ∃ z, Hid (z = (W.alloc (.cells ca.toArray 40)).alloc (.cells ce.toArray 40)) := ⟨_, rfl⟩
  obtain ⟨c, HC⟩ : ∃ c, Hid (c = cfD x y) := ⟨_, rfl⟩
  rw [← HC.out]
  rw [HCA.out, HCE.out] at h1b h2
  rw [World.size_alloc] at h2
  have HCON : Hid (Calls Tryz.prog 27 #[.slice (some ⟨W.heap.size, 0, none⟩) 32 32, .slice (some ⟨W.heap.size + 1, 0, none⟩) 32 32] w1.drew fun e w' => e = .returned (.int .i64 c) ∧ w' = w1.drew) := by
    show Calls _ _ _ _ _
    rw [HC.out, HW1.out]
    refine bCompareR_any x.1 y.1 x.2 y.2 _ _ 0 0 _ ?_ ?_
    · rw [HCA.out, HCE.out]; exact h1b.drew.range
    · rw [HCA.out, HCE.out]; exact h2.drew.range
  have HFIN : Hid (∃ q os', w1.drew = Sort.grow (W.drewN q) os') := by
    rw [HW1.out]
    exact ⟨1, _, by rw [Sort.alloc_eq_grow, Sort.alloc_eq_grow, Sort.grow_grow]; rfl⟩
  clear h1 h2 h1b
  go_enter Tryz.func26, Tryz.ntmps26
  go_wp2_with fail
  rw [← HW1.out]
  refine wp_region_any (by kernel_rfl) ?_
  change wpAny _ _ _ _ _ _ _ (World.drew w1)
  refine wpAny_take (i := 0) (v := .slice (some ⟨W.heap.size, 0, none⟩) 32 32) rfl (by kernel_rfl) (by kernel_rfl) (by kernel_rfl) (fun _ _ _ h => h) (Or.inl ⟨by rfl, fun wx => by simp [execOp, Act.eval, slice_dig17]⟩) ?_
  simp only [Act.put, List.getElem_toArray, List.getElem_cons_zero, List.setIfInBounds_toArray, List.set_cons_zero, List.set_cons_succ]
  refine wpAny_take (i := 1) (v := .slice (some ⟨W.heap.size + 1, 0, none⟩) 32 32) rfl (by kernel_rfl) (by kernel_rfl) (by kernel_rfl) (fun _ _ _ h => h) (Or.inl ⟨by rfl, fun wx => by simp [execOp, Act.eval, slice_dig17]⟩) ?_
  simp only [Act.put, List.getElem_toArray, List.getElem_cons_succ, List.getElem_cons_zero, List.setIfInBounds_toArray, List.set_cons_zero, List.set_cons_succ]
  refine wpAny_enter 2 (by kernel_rfl) rfl (by rfl) (f := 27) (args := #[.slice (some ⟨W.heap.size, 0, none⟩) 32 32, .slice (some ⟨W.heap.size + 1, 0, none⟩) 32 32]) (by simp [go_sem]) HCON.out ?_
  rintro e wz ⟨rfl, hz⟩
  rw [hz]; clear hz wz
  refine ⟨_, rfl, ?_⟩
  simp only [Act.put, List.getElem_toArray, List.getElem_cons_succ, List.getElem_cons_zero, List.setIfInBounds_toArray, List.set_cons_zero, List.set_cons_succ]
  refine wpAny_take (i := 3) (v := .int .i64 c) rfl (by kernel_rfl) (by kernel_rfl) (by kernel_rfl) (fun _ _ _ h => h) (Or.inl ⟨by rfl, fun wx => by simp [go_sem]⟩) ?_
  simp only [Act.put, List.getElem_toArray, List.getElem_cons_succ, List.getElem_cons_zero, List.setIfInBounds_toArray, List.set_cons_zero, List.set_cons_succ]
  refine wpAny_done (by kernel_rfl) ?_ _
  go_wp2
  go_ret
  exact ⟨rfl, HFIN.out⟩
theorem cmpLaysD (blk off size : Nat) (w : World) : letI := dgI; CmpLays Tryz.prog 26 #[] encG 32 cfD blk off size w := by
  letI := dgI
  exact fun _ _ _ _ x y => live1_any x y _
theorem agg_dig : ∀ w, (isAgg 40).run Tryz.prog w = .ok true w := fun w => by kernel_rfl
theorem size_dig : ∀ w, (Go.sizeOf 40).run Tryz.prog w = .ok 32 w := fun w => by kernel_rfl
theorem flat_dig (ps : List Dg) (t : Nat) (ht : t < ps.length * 32) : letI := dgI; (flatD (ps.map (·.1)))[t]? = some (Sort.flatK encG 32 ps.toArray)[t]! := by
  letI := dgI
  rw [Sort.get_flatK _ _ _ _ (by simpa using ht)]
  have hq : t / 32 < ps.length := by omega
  have h3 : t % 32 < 32 := Nat.mod_lt _ (by decide)
  have e1 : (ps.toArray)[t / 32]! = ps[t / 32] := by
    rw [getElem!_pos _ _ (by simpa using hq)]
    simp
  rw [e1]
  have hl : (cb ps[t / 32].1).length = 32 := by rw [cb_len, ps[t / 32].2]
  have h4 := flatD_at (ds := ps.map (·.1)) (fun d hd => by obtain ⟨z, _, e⟩ := List.mem_map.1 hd; rw [← e]; exact z.2) (t / 32) (t % 32) ((cb ps[t / 32].1)[t % 32]'(by rw [hl]; exact h3)) (by simpa using hq) (by
    rw [List.getD_eq_getElem?_getD, List.getElem?_map, List.getElem?_eq_getElem hq]
    simp only [Option.map_some, Option.getD_some]
    exact List.getElem?_eq_getElem _)
  rw [show t / 32 * 32 + t % 32 = t from by omega] at h4
  rw [h4]
  exact congrArg some (getElem!_pos (encG ps[t / 32]) (t % 32) (by unfold encG; rw [hl]; exact h3)).symm
def RiseD (xs : List Dg) : Prop := xs.Pairwise fun a b => lessB a.1 b.1 = true
theorem sorted_rise {ts : List Dg} (hn : ts.Nodup) (hs : ts.Pairwise fun a b => lessB b.1 a.1 = false) : RiseD ts := by
  induction ts with
  | nil => exact List.Pairwise.nil
  | cons t ts ih =>
    obtain ⟨h1, h2⟩ := List.nodup_cons.1 hn
    obtain ⟨h3, h4⟩ := List.pairwise_cons.1 hs
    refine List.pairwise_cons.2 ⟨fun d hd => ?_, ih h2 h4⟩
    rcases lessB_tri t.1 d.1 (by rw [t.2, d.2]) with h | h | h
    · exact h
    · exact absurd (Subtype.ext h ▸ hd) h1
    · rw [h3 d hd] at h; cases h
set_option maxRecDepth 100000 in
theorem sortD_any {W : World} {base : Nat} {v : Value} {ps : List Dg} (hnd : ps.Nodup) (how : OwnD W base v (ps.map (·.1))) (hl : ps.length < 1000000) (hb : base ≤ W.heap.size) :
    Calls Tryz.prog 39 #[v, .func (.func 26) #[] #[]] W fun e w' => e = .returned (.tuple #[]) ∧ ∃ ts : List Dg, ts.Perm ps ∧ RiseD ts ∧ OwnD w' base v (ts.map (·.1)) ∧ Below base W w' := by
  letI := dgI
  have hdl : ∀ qs : List Dg, ∀ d ∈ qs.map (·.1), d.length = 32 := fun qs d hd => by obtain ⟨z, _, e⟩ := List.mem_map.1 hd; rw [← e]; exact z.2
  have hmap : (ps.map (·.1)).length = ps.length := List.length_map _
  obtain ⟨hl1, ⟨rfl, h0⟩ | ⟨g, cap, cur, rfl, hg, hh, hc, hm, hs, ht⟩⟩ := how.1
  · have hp0 : ps = [] := List.eq_nil_of_length_eq_zero (by rw [← hmap]; exact h0)
    subst hp0
    refine (AnyF.slices_SortFunc_none sortA none 0 (.func (.func 26) #[] #[]) W).mono ?_
    rintro e w' ⟨rfl, rfl⟩
    exact ⟨rfl, [], List.Perm.nil, List.Pairwise.nil, how, Below.refl _ _⟩
  rw [hmap] at hc ht
  have hlt : g < W.heap.size := (Array.getElem?_eq_some_iff.1 hh).1
  obtain ⟨d, hd⟩ : ∃ d : Array Dg, d = ps.toArray := ⟨_, rfl⟩
  have hds : d.size = ps.length := by rw [hd]; simp
  have hH : Sort.HoldsK encG 32 W g 0 d := fun t htl => by
    rw [Sort.size_flatK, hds] at htl
    have h1 := flat_dig ps t htl
    rw [← hd, ← ht, List.getElem?_take_of_lt htl] at h1
    refine ⟨?_, ?_⟩
    · rw [Nat.zero_add, World.cell?, hh]
      simpa using h1
    · simp [World.frozen?, hh]
  have eg : ∀ args w, (callFunc 26 args).run Tryz.prog w = .ok (.enter 26 args) w := enters_of Tryz.func26 (by kernel_rfl) rfl
  have hcon := AnyQ.slices_SortFunc sortA 32 agg_dig size_dig encG (fun x => by unfold encG; rw [cb_len, x.2]) (fun x v hv => cb_one x.1 v hv) cfD swoD 26 #[] g 0 cap d W eg (cmpLaysD g 0 d.size W) hH hlt (by rw [hds]; omega)
  rw [hds] at hcon
  rw [hmap]
  refine hcon.mono ?_
  rintro e w' ⟨rfl, d', n, os, ⟨hp1, _, hp3⟩, hso, rfl⟩
  have hd's : d'.size = ps.length := hp1.trans hds
  have hperm : d'.toList.Perm ps := by
    have e1 : (d'.extract 0 ps.length).toList = d'.toList := by rw [← hd's]; simp
    have e2 : (d.extract 0 ps.length).toList = d.toList := by rw [← hds]; simp
    rw [e1, e2, hd] at hp3
    exact hp3
  have hlts : d'.toList.length = ps.length := hperm.length_eq
  refine ⟨rfl, d'.toList, hperm, sorted_rise (hperm.nodup_iff.2 hnd) ?_, ⟨⟨by rw [flatD_len _ (hdl _), List.length_map], Or.inr ⟨g, cap, Sort.putCells id 0 (Sort.flatK encG 32 d') cur, by rw [List.length_map, hlts], hg, ?_, by rw [List.length_map, hlts]; exact hc, hm, ?_, ?_⟩⟩, hdl _⟩, ?_⟩
  · rw [List.pairwise_iff_getElem]
    intro i j hi hj hij
    have h1 := hso i j (Nat.zero_le _) hij (by rw [← hd's]; simpa using hj)
    rw [lt_cfD, getElem!_pos d' i (by simpa using hi), getElem!_pos d' j (by simpa using hj)] at h1
    simpa using h1
  · unfold sortWorldK
    rw [Sort.heap_grow_old _ _ (by simp [Sort.putRowK]; exact hlt)]
    simp [Sort.putRowK, Sort.putRow, Sort.mapBlock, Array.getElem?_modify, hh, Sort.onCells]
  · simp [Sort.putCells, hs]
  · apply List.ext_getElem?
    intro t
    rw [List.length_map, hlts]
    by_cases htl : t < ps.length * 32
    · rw [List.getElem?_take_of_lt htl]
      have h1 := flat_dig d'.toList t (by rw [hlts]; exact htl)
      rw [h1]
      have hcz : t < cur.size := by rw [hs]; have := Nat.mul_le_mul_right 32 hc; omega
      simp [Sort.putCells, hcz, hd's, htl]
    · rw [List.getElem?_eq_none (by simp; omega), List.getElem?_eq_none (by rw [flatD_len _ (hdl _), List.length_map, hlts]; omega)]
  · refine ⟨rfl, rfl, rfl, by simp [sortWorldK, Sort.putRowK], fun k hk => ?_⟩
    have hkl : k < W.heap.size := Nat.lt_of_lt_of_le hk hb
    unfold sortWorldK
    rw [Sort.heap_grow_old _ _ (by simp [Sort.putRowK]; exact hkl)]
    simp [Sort.putRowK, Sort.putRow, Sort.mapBlock, Array.getElem?_modify, show g ≠ k by omega]
end Go.Proofs.YtphmmnffgknkcabGreatDoor
namespace Go.Proofs.YtphmmnffgknkcabGreatDoor
open Go.RowKit
set_option maxRecDepth 100000
set_option maxRecDepth 100000 in
set_option maxHeartbeats 16000000 in
theorem reapKnown_none (vl vp : Value) (x : By) (ps : List By) (w : World) (hK : KOk w) (hx : x.length = 32) (hD : ReadsD w vl [x]) (hP : ReadsL w vp ps) (hn : ps.length < 100000) (hb : ∀ p ∈ ps, p.length < 1000000) (hp : ∀ p ∈ ps, dig p ≠ x) :
    Calls Tryz.prog 16 #[vl, vp] w fun e w' => e = .returned (.tuple #[.map none, .int .i64 7]) ∧ Below w.heap.size w w' := by
  have HK : Hid (KOk w) := hK
  have HP : Hid (ReadsL w vp ps) := hP
  have HPL : Hid (ps.length < 100000 ∧ ∀ p ∈ ps, p.length < 1000000) := ⟨hn, hb⟩
  have HNO : Hid (∀ p ∈ ps, dig p ≠ x) := hp
  have HD : Hid (ReadsD w vl [x]) := hD
  obtain ⟨adl, cpl, hvl⟩ := hD.slice
  obtain ⟨m, HM⟩ : ∃ z : Nat, Hid (z = 1) := ⟨1, rfl⟩
  rw [show [x].length = 1 from rfl, ← HM.out] at hvl
  subst hvl
  obtain ⟨d, HDD⟩ : ∃ z, Hid (z = x) := ⟨_, rfl⟩
  have HDL : Hid (d.length = 32) := by show _ = _; rw [HDD.out]; exact hx
  clear hK hP hn hb hp hD hx
  go_enter Tryz.func16, Tryz.ntmps16
  have ta0 : Hid True := trivial
  go_wp2_with (first
    | (clear ta0; with_reducible refine wpSeq_mkMapP ?_ ?_ ?_
       · rfl
       · rfl
       intro gm w1 hm hge hb1
       have HI0 : Hid (KnI w gm 0 (fun _ => none) [] w1) := knI_new hb1 hge hm
       clear hm hge hb1))
  go_loopw [18] (fun i W => ∃ (k n : Nat) (F : By → Option Nat), i = .int .i64 (k : Int) ∧ Hid (k = 0 ∧ F d = none) ∧ Hid (KnI w gm n F [] W)) (fun i _ => m - (intOf i).toNat)
  case atStart => exact ⟨0, 0, fun _ => none, rfl, ⟨rfl, rfl⟩, HI0.out⟩
  case round =>
    obtain ⟨k, n, F, rfl, HK0, HI⟩ := hrel
    have hlt : k < m := by have h1 := HK0.out.1; have h2 := HM.out; omega
    have hlti : (k : Int) < (m : Int) := by omega
    obtain ⟨bl, ol, cl2, hva, hya⟩ := HD.out.at (by simp)
    rw [show [x].length = 1 from rfl, ← HM.out] at hva
    simp only [Value.slice.injEq, true_and] at hva
    obtain ⟨rfl, rfl⟩ := hva
    have hrk := hya 0 (by simp)
    have hdk : [x].getD 0 [] = d := HDD.out.symm
    rw [hdk, show (0 : Nat) = k from HK0.out.1.symm] at hrk
    have HRK : Hid (∀ W, Below w.heap.size w W → W.rangeAt bl (ol + k * 32) (cb d)) := fun W hW => rangeAt_below hrk hW (range_lt hrk (by rw [cb_len, HDL.out]; decide))
    clear hya hrk hdk
    have e2 : ((((F d).getD 0 : Nat) : Int) == 2) = false := by rw [HK0.out.2]; rfl
    have HLD : Hid (∀ W, Below w.heap.size w W → Calls Tryz.prog 10 #[.agg (cb d).toArray, vp] W fun e w' => e = .returned (.tuple #[.pointer none, .int .i64 7]) ∧ Below W.heap.size W w') := fun W hW => by
      have hdl := HDL.out
      rw [HDD.out] at hdl ⊢
      exact pgLoad_none x vp ps W (HK.out.below hW HK.out.lt) hdl (HP.out.below hW) HPL.out.1 (fun p hp => Nat.lt_trans (HPL.out.2 p hp) (by decide)) HNO.out
    have tb0 : Hid True := trivial
    have tb1 : Hid True := trivial
    have tb2 : Hid True := trivial
    have tb3 : Hid True := trivial
    have tb4 : Hid True := trivial
    have tb5 : Hid True := trivial
    have tb6 : Hid True := trivial
    go_wp2_with (first
      | (clear tb0; with_reducible refine wpSeq_idxD17 (.tmp 16) (.tmp 18) bl ol m cpl k hlt ?_ ?_ ?_ ?_ ?_
         · rfl
         · rfl
         · rfl
         · rfl
         have HQ1 : Hid True := trivial)
      | (clear tb1; with_reducible refine wpSeq_ldAt17 (.tmp 20) bl (ol + k * 32) d HDL.out (HRK.out _ HI.out.bel) ?_ ?_ ?_ ?_
         · rfl
         · rfl
         · rfl
         have HQ2 : Hid True := trivial)
      | (clear tb2; with_reducible refine wpSeq_allocD ?_ ?_ ?_
         · rfl
         · rfl
         intro g8 w2 nn
         have HNN : Hid (Blk w2 g8 (cb zb32) 40 ∧ wr.heap.size ≤ g8 ∧ Below wr.heap.size wr w2) := ⟨nn.blk, nn.ge, nn.below⟩
         clear nn)
      | (clear tb3; with_reducible refine wpSeq_storeD (.tmp 8) (.tmp 21) g8 zb32 d zb32_len HDL.out HNN.out.1 ?_ ?_ ?_ ?_ ?_
         · rfl
         · rfl
         · rfl
         · rfl
         intro w3 h9
         have hb : Below wr.heap.size wr w3 := HNN.out.2.2.trans (h9.only.below HNN.out.2.1 HNN.out.2.2.size)
         have H8 : Hid (Blk w3 g8 (cb d) 40) := h9.blk
         replace HI : Hid (KnI w gm n F [] w3) := HI.out.next hb
         have hlk := HI.out.mp.look1 HDL.out
         clear h9 HNN hb)
      | (clear tb4; with_reducible refine wpSeq_loadD (.tmp 8) g8 d HDL.out H8.out ?_ ?_ ?_ ?_
         · rfl
         · rfl
         · rfl
         have HQ3 : Hid True := trivial)
      | (clear tb5; with_reducible refine wpSeq_loadD (.tmp 8) g8 d HDL.out H8.out ?_ ?_ ?_ ?_
         · rfl
         · rfl
         · rfl
         have HQ4 : Hid True := trivial)
      | (clear tb6; go_at_call 10; refine (HLD.out _ HI.out.bel).mono ?_; rintro e w4 ⟨rfl, hb⟩
         replace HI : Hid (KnI w gm n F [] w4) := HI.out.next hb
         clear hb hlk))
    refine bodyPost_ret (results_tmp2 rfl _ _ _) rfl ?_
    exact ⟨rfl, HI.out.bel⟩
end Go.Proofs.YtphmmnffgknkcabGreatDoor
namespace Go.Proofs.YtphmmnffgknkcabGreatDoor
open Go.RowKit
set_option maxRecDepth 100000
set_option maxRecDepth 100000 in
set_option maxHeartbeats 16000000 in
theorem sorted_any {gf : Nat} {lb : Array Value} (eg : ∀ args w, (callFunc gf args).run Tryz.prog w = .ok (.enter gf args) w) {F : By → Option Nat} {Sp : List Dg → Prop} {N : Nat} {w0 w : World} (hseq : SeqStopsK Fence.wide 2 Tryz.prog gf lb encD KeepsWalks (fun xs => SD F xs ∧ xs.length ≤ N) Sp N w0) (hb0 : Below w0.heap.size w0 w) (hN : N < 1000000) :
    Calls Tryz.prog 24 #[.func (.func gf) #[] lb, .func (.func 26) #[] #[]] w fun e w' => ∃ v ts, e = .returned v ∧ RiseD ts ∧ SD F ts ∧ OwnD w' w.heap.size v (ts.map (·.1)) ∧ Below w.heap.size w w' := by
  have HC := collect_any eg hseq hb0 hN
  have HS : Aside (∀ {W : World} {v : Value} {ps : List Dg}, ps.Nodup → OwnD W w.heap.size v (ps.map (·.1)) → ps.length < 1000000 → w.heap.size ≤ W.heap.size → Calls Tryz.prog 39 #[v, .func (.func 26) #[] #[]] W fun e w' => e = .returned (.tuple #[]) ∧ ∃ ts : List Dg, ts.Perm ps ∧ RiseD ts ∧ OwnD w' w.heap.size v (ts.map (·.1)) ∧ Below w.heap.size W w') := fun h1 h2 h3 h4 => sortD_any h1 h2 h3 h4
  go_enter Tryz.func24, Tryz.ntmps24
  go_wp2_with (first
    | (go_at_call 38; refine HC.mono ?_; rintro e w1 ⟨v, xs, rfl, h1, h2, h3⟩
       have HX : Hid (SD F xs ∧ xs.length ≤ N ∧ OwnD w1 w.heap.size v (xs.map (·.1)) ∧ Below w.heap.size w w1) := ⟨h1.1, h1.2, h2, h3⟩
       clear h1 h2 h3)
    | (go_at_call 39; refine (HS.out HX.out.1.1 HX.out.2.2.1 (Nat.lt_of_le_of_lt HX.out.2.1 hN) HX.out.2.2.2.size).mono ?_; rintro e w2 ⟨rfl, ts, k1, k2, k3, k4⟩
       have HY : Hid (ts.Perm xs ∧ RiseD ts ∧ OwnD w2 w.heap.size v (ts.map (·.1)) ∧ Below w.heap.size w1 w2) := ⟨k1, k2, k3, k4⟩
       clear k1 k2 k3 k4))
  refine ⟨rfl, _, results_tmp rfl _ _ _, ?_⟩
  refine ⟨v, ts, rfl, HY.out.2.1, ⟨HY.out.1.nodup_iff.2 HX.out.1.1, fun y => ?_⟩, HY.out.2.2.1, HX.out.2.2.2.trans HY.out.2.2.2⟩
  rw [HY.out.1.mem_iff]
  exact HX.out.1.2 y
set_option maxRecDepth 100000 in
set_option maxHeartbeats 16000000 in
theorem live_any (vl vp : Value) (ks : List (List Lf)) (ps : List By) (w : World) (hK : KOk w) (hD : ReadsD w vl (ks.map fun l => dig (topPg 0 l))) (hP : ReadsL w vp ps) (hg : ∀ l ∈ ks, GoodT ps l) (ha : Apart17 ps) (hk : ks.length ≤ 20) (hn : ps.length < 100000) (hb : ∀ p ∈ ps, p.length < 1000000) :
    Calls Tryz.prog 12 #[vl, vp] w fun e w' => ∃ v ts, e = .returned (.tuple #[v, .int .i64 0]) ∧ RiseD ts ∧ (∀ x : Dg, x ∈ ts ↔ keyIn ks x.1) ∧ OwnD w' w.heap.size v (ts.map (·.1)) ∧ Below w.heap.size w w' := by
  have HKN : Hid (Calls Tryz.prog 16 #[vl, vp] w fun e w' => ∃ gm n F, e = .returned (.tuple #[.map (some gm), .int .i64 0]) ∧ KnI w gm n F ks w' ∧ n ≤ ks.length * 30000) := reapKnown_any vl vp ks ps w hK hD hP hg ha (by omega) hn hb
  have HKL : Hid (ks.length ≤ 20) := hk
  clear hK hD hP hg ha hk hn hb
  go_enter Tryz.func12, Tryz.ntmps12
  go_wp2_with (first
    | (go_at_call 16; refine HKN.out.mono ?_; rintro e w1 ⟨gm, n, F, rfl, h1, h2⟩
       have HI : Hid (KnI w gm n F ks w1 ∧ n < 1000000) := ⟨h1, by have := HKL.out; have : ks.length * 30000 ≤ 20 * 30000 := Nat.mul_le_mul_right _ (by omega); omega⟩
       clear h1 h2)
    | (go_at_call 25; refine (keys_any gm _).mono ?_; rintro e w2 ⟨gb, rfl, h1, h2⟩
       have HB2 : Hid (Blk w2 gb [.map (some gm)] 53 ∧ Below w1.heap.size w1 w2) := ⟨h1, h2⟩
       clear h1 h2)
    | (go_at_call 24; refine (sorted_any (enters_of Tryz.func40 (by kernel_rfl) rfl) (keys1_stops 2 w2 HB2.out.1 (HI.out.1.mp.next HB2.out.2)) (Below.refl _ _) HI.out.2).mono ?_; rintro e w3 ⟨v, ts, rfl, h1, h2, h3, h4⟩
       have HT : Hid (RiseD ts ∧ SD F ts ∧ OwnD w3 w2.heap.size v (ts.map (·.1)) ∧ Below w2.heap.size w2 w3) := ⟨h1, h2, h3, h4⟩
       clear h1 h2 h3 h4))
  refine ⟨rfl, _, results_tmp2 rfl _ _ _, ?_⟩
  have hs : w.heap.size ≤ w2.heap.size := Nat.le_trans HI.out.1.bel.size HB2.out.2.size
  refine ⟨v, ts, rfl, HT.out.1, fun y => ?_, HT.out.2.2.1.mono hs, (HI.out.1.bel.trans (HB2.out.2.mono HI.out.1.bel.size)).trans (HT.out.2.2.2.mono hs)⟩
  rw [HT.out.2.1.2 y]
  exact HI.out.1.has y.1
set_option maxRecDepth 100000 in
set_option maxHeartbeats 16000000 in
theorem live_none (vl vp : Value) (x : By) (ps : List By) (w : World) (hK : KOk w) (hx : x.length = 32) (hD : ReadsD w vl [x]) (hP : ReadsL w vp ps) (hn : ps.length < 100000) (hb : ∀ p ∈ ps, p.length < 1000000) (hp : ∀ p ∈ ps, dig p ≠ x) :
    Calls Tryz.prog 12 #[vl, vp] w fun e w' => e = .returned (.tuple #[.slice none 0 0, .int .i64 7]) ∧ Below w.heap.size w w' := by
  have HKN : Hid (Calls Tryz.prog 16 #[vl, vp] w fun e w' => e = .returned (.tuple #[.map none, .int .i64 7]) ∧ Below w.heap.size w w') := reapKnown_none vl vp x ps w hK hx hD hP hn hb hp
  clear hK hD hP hn hb hp hx
  go_enter Tryz.func12, Tryz.ntmps12
  go_wp2_with (first
    | (go_at_call 16; refine HKN.out.mono ?_; rintro e w1 ⟨rfl, h1⟩
       have HI : Hid (Below w.heap.size w w1) := h1
       clear h1))
  refine ⟨rfl, _, results_tmp2 rfl _ _ _, ?_⟩
  exact ⟨rfl, HI.out⟩
end Go.Proofs.YtphmmnffgknkcabGreatDoor
namespace Go.Proofs.YtphmmnffgknkcabGreatDoor
open Go.RowKit
set_option maxRecDepth 100000
theorem whole_0 : wholeL 0 [] = [0] := by rfl
theorem dig_0 : dig [0] ≠ zb32 := by decide +kernel
theorem dig_07 : dig [0] ≠ dig [7] := by decide +kernel
theorem save_0 : saveL 0 [] = [[0]] ∧ topPg 0 [] = [0] := by
  have h : (wholeL 0 []).length ≤ 512 := by rw [whole_0]; decide
  exact ⟨by rw [save_one h, whole_0], by rw [top_one h, whole_0]⟩
theorem good_0 {ps : List By} (h : [0] ∈ ps) : GoodT ps [] := ⟨(fun p hp => by cases hp), List.Pairwise.nil, by decide, fun p hp => by rw [save_0.1, List.mem_singleton] at hp; rw [hp]; exact h⟩
theorem keyIn_0 {x : By} : keyIn [[]] x ↔ dig [0] = x := by
  unfold keyIn
  constructor
  · rintro ⟨l, hl, p, hp, e⟩
    rw [List.mem_singleton.1 hl, save_0.1, List.mem_singleton] at hp
    rw [← hp]; exact e
  · intro e
    exact ⟨[], List.mem_singleton.2 rfl, [0], by rw [save_0.1]; exact List.mem_singleton.2 rfl, e⟩
theorem need_0 : needB [[]] [0] = true ∧ needB [[]] [7] = false := by
  refine ⟨needB_iff.2 (keyIn_0.2 rfl), ?_⟩
  cases h : needB [[]] [7] with
  | false => rfl
  | true => exact absurd (keyIn_0.1 (needB_iff.1 h)) dig_07
theorem apart_1 (t : By) : Apart17 [t] := fun i j hi hj => by simp at hi; omega
theorem apart_07 : Apart17 [[0], [7]] := fun i j hi hj he => by
  have hi2 : i < 2 := hi
  have h1 : i = 1 := by omega
  have h2 : j = 0 := by omega
  subst h1
  subst h2
  exact absurd he dig_07
theorem rise_one {ts : List Dg} {a : Dg} (hr : RiseD ts) (hm : ∀ x : Dg, x ∈ ts ↔ x = a) : ts = [a] := by
  match ts, hr, hm with
  | [], _, hm => exact absurd ((hm a).2 rfl) (by simp)
  | [b], _, hm => rw [(hm b).1 (by simp)]
  | b :: c :: r, hr, hm =>
    have h1 := (List.pairwise_cons.1 hr).1 c (by simp)
    rw [(hm b).1 (by simp), (hm c).1 (by simp), lessB_self] at h1
    cases h1
theorem build_l0 (f : Operand → Value) (o : Oper) (ho : o.op = .build 47 #[]) (w : World) : (execOp f o).run Tryz.prog w = .ok (.value (.agg [.slice none 0 0, .slice none 0 0].toArray)) w := by
  unfold execOp
  rw [ho]
  kernel_rfl
theorem wpSeq_buildL0 {ops : Array Oper} {Q : Exit → Act → World → Prop} {rest : List Oper} {o : Oper} {a : Act} {w : World} (ho : o.op = .build 47 #[]) (hw : Region.wanted o (yielded ops a.tmps) = true)
    (h : wpList Tryz.prog ops Q rest (a.put o.dst (.agg [.slice none 0 0, .slice none 0 0].toArray)) w) : wpList Tryz.prog ops Q (o :: rest) a w :=
  wpSeq_val _ _ hw (build_l0 _ o ho w) h
theorem build_z0 (f : Operand → Value) (o : Oper) (ho : o.op = .build 40 #[]) (w : World) : (execOp f o).run Tryz.prog w = .ok (.value (.agg (cb zb32).toArray)) w := by
  unfold execOp
  rw [ho]
  kernel_rfl
theorem wpSeq_buildZD {ops : Array Oper} {Q : Exit → Act → World → Prop} {rest : List Oper} {o : Oper} {a : Act} {w : World} (ho : o.op = .build 40 #[]) (hw : Region.wanted o (yielded ops a.tmps) = true)
    (h : wpList Tryz.prog ops Q rest (a.put o.dst (.agg (cb zb32).toArray)) w) : wpList Tryz.prog ops Q (o :: rest) a w :=
  wpSeq_val _ _ hw (build_z0 _ o ho w) h
theorem readsD_1 {w : World} {g : Nat} {p : By} (hp : p.length = 32) (h : Blk w g (cb p) 40) : ReadsD w (.slice (some ⟨g, 0, none⟩) 1 1) [p] :=
  ⟨⟨_, 1, rfl, Nat.le_refl _, (fun e => by cases e), fun _ => ⟨g, 0, rfl, fun j hj => by
    match j, hj with
    | 0, _ => exact h.range⟩⟩, fun d hd => by rw [List.mem_singleton.1 hd]; exact hp⟩
abbrev SvQ (W : World) (dg : By) (e : Ending) (w' : World) : Prop := ∃ gv cv ub uo un uc, e = .returned (.tuple #[.agg (cb dg).toArray, .slice (some ⟨gv, 0, none⟩) 1 cv]) ∧ ReadsL w' (.slice (some ⟨gv, 0, none⟩) 1 cv) [[0]] ∧ w'.cell? ⟨gv, 0, none⟩ = some (.slice (some ⟨ub, uo, none⟩) un uc) ∧ Reads w' (.slice (some ⟨ub, uo, none⟩) un uc) [0] ∧ Below W.heap.size W w'
theorem save_w0 (W : World) (hK : KOk W) : Calls Tryz.prog 15 #[.agg #[.slice none 0 0, .slice none 0 0], .int .i64 0] W (SvQ W (dig [0])) := by
  have hn : ReadsD W (.slice none 0 0) [] := ⟨⟨none, 0, rfl, Nat.le_refl _, (fun _ => rfl), fun h => by cases h⟩, fun d hd => by cases hd⟩
  have h := eSave_any 256 0 (by omega) [] (.slice none 0 0) (.slice none 0 0) W hK (fits_zero (fun p hp => by cases hp) List.Pairwise.nil) ⟨hn, hn⟩ (by decide) (by decide)
  refine h.mono ?_
  rintro e w' ⟨v, us, rfl, hp, hb⟩
  rw [save_0.1] at hp
  rw [save_0.2]
  have hlen : us.length = 1 := hp.len
  obtain ⟨u, hu⟩ := List.length_eq_one_iff.1 hlen
  subst hu
  obtain ⟨gv, cv, hv, hcell, _⟩ := hp.own.at (j := 0) (u := u) rfl
  have hv : v = .slice (some ⟨gv, 0, none⟩) 1 cv := hv
  subst hv
  have hrd := (hp.good 0 u rfl).1
  rw [List.getD_cons_zero] at hrd
  obtain ⟨ad, c, rfl, h2, h3, h4⟩ := id hrd
  obtain ⟨b, off, rfl, _⟩ := h4 (by decide)
  exact ⟨gv, cv, b, off, _, c, rfl, hp.readsL, hcell, hrd, hb⟩
abbrev LvQ (W : World) (dg : By) (e : Ending) (w' : World) : Prop := ∃ b o c, e = .returned (.tuple #[.slice (some ⟨b, o, none⟩) 1 c, .int .i64 0]) ∧ w'.rangeAt b o (cb dg) ∧ Below W.heap.size W w'
theorem live_w0 (W : World) (vl vp : Value) (hK : KOk W) (hD : ReadsD W vl [dig [0]]) (hP : ReadsL W vp [[0]]) : Calls Tryz.prog 12 #[vl, vp] W (LvQ W (dig [0])) := by
  have h := live_any vl vp [[]] [[0]] W hK (by rw [List.map_cons, List.map_nil, save_0.2]; exact hD) hP (fun l hl => by rw [List.mem_singleton.1 hl]; exact good_0 (by simp)) (apart_1 _) (by decide) (by decide) (fun p hp => by rw [List.mem_singleton.1 hp]; decide)
  refine h.mono ?_
  rintro e w' ⟨v, ts, rfl, hr, hm, ho, hb⟩
  have e1 : ts = [⟨dig [0], len_dig' _⟩] := rise_one hr (fun x => by
    rw [hm x, keyIn_0]
    exact ⟨fun h => Subtype.ext h.symm, fun h => by rw [h]⟩)
  subst e1
  obtain ⟨b, off, c, hv, hy⟩ := ho.readsD.at (by simp)
  have hy0 := hy 0 (by simp)
  rw [Nat.zero_mul, Nat.add_zero] at hy0
  exact ⟨b, off, c, by rw [hv]; rfl, hy0, hb⟩
theorem live_w1 (W : World) (vl vp : Value) (hK : KOk W) (hD : ReadsD W vl [zb32]) (hP : ReadsL W vp [[0]]) : Calls Tryz.prog 12 #[vl, vp] W fun e w' => e = .returned (.tuple #[.slice none 0 0, .int .i64 7]) ∧ Below W.heap.size W w' :=
  live_none vl vp zb32 [[0]] W hK zb32_len hD hP (by decide) (fun p hp => by rw [List.mem_singleton.1 hp]; decide) (fun p hp => by rw [List.mem_singleton.1 hp]; exact dig_0)
abbrev SpQ (W : World) (e : Ending) (w' : World) : Prop := ∃ a4 c4 a5 c5, e = .returned (.tuple #[.slice a4 1 c4, .slice a5 1 c5, .int .i64 0]) ∧ Below W.heap.size W w'
theorem split_w0 (W : World) (vl vp : Value) (hK : KOk W) (hD : ReadsD W vl [dig [0]]) (hP : ReadsL W vp [[0], [7]]) : Calls Tryz.prog 9 #[vl, vp] W (SpQ W) := by
  have h := reapSplit_any vl vp [[]] [[0], [7]] W hK (by rw [List.map_cons, List.map_nil, save_0.2]; exact hD) hP (fun l hl => by rw [List.mem_singleton.1 hl]; exact good_0 (by simp)) apart_07 (by decide) (by decide) (fun p hp => by
    simp only [List.mem_cons, List.not_mem_nil, or_false] at hp
    rcases hp with rfl | rfl <;> decide)
  refine h.mono ?_
  rintro e w' ⟨v4, v5, rfl, h4, h5, hb⟩
  have e4 : [[0], [7]].filter (needB [[]]) = [[(0 : BitVec 8)]] := by rw [List.filter_cons, need_0.1, if_pos rfl, List.filter_cons, need_0.2]; rfl
  have e5 : ([[0], [7]].filter fun p => !needB [[]] p) = [[(7 : BitVec 8)]] := by rw [List.filter_cons, need_0.1, List.filter_cons, need_0.2]; rfl
  rw [e4] at h4
  rw [e5] at h5
  obtain ⟨a4, c4, hv4, _⟩ := h4
  obtain ⟨a5, c5, hv5, _⟩ := h5
  exact ⟨a4, c4, a5, c5, by rw [hv4, hv5]; rfl, hb⟩
end Go.Proofs.YtphmmnffgknkcabGreatDoor
namespace Go.Proofs.YtphmmnffgknkcabGreatDoor
open Go.RowKit
set_option maxRecDepth 100000
theorem rangeAt_grow {w w' : World} {b o : Nat} {x : By} (h : w.rangeAt b o (cb x)) (hb : Below w.heap.size w w') : w'.rangeAt b o (cb x) := fun j v hj => by
  have h1 := h j v hj
  rw [hb.cell (p := ⟨b, o + j, none⟩) (block_lt_of_cell h1)]
  exact h1
theorem wpOp_newW {P : Program} {ops : Array Oper} {Q : Exit → Act → World → Prop} {K : Act → World → Prop} {a : Act} {w : World} (i : Nat) {oi : Oper} (cs : List Value) (t : TypeId) (n : Nat) (hi : ops[i]? = some oi) (hw : Region.wanted oi (yielded ops a.tmps) = true)
    (he : (execOp a.eval oi).run P w = .ok (.value (.slice (some ⟨w.heap.size, 0, none⟩) n n)) (w.alloc (.cells cs.toArray t))) (h : ∀ g w', NewR cs t w g w' → K (a.put oi.dst (.slice (some ⟨g, 0, none⟩) n n)) w') : wpOp P ops Q i K a w :=
  wpOp_vl i _ _ hi hw he (h _ _ (NewR.of cs t w))
theorem build_b7 (f : Operand → Value) (o : Oper) (ho : o.op = .buildSlice 49 1 #[(0, .const (.int .u8 7))]) (hf : f (.const (.int .u8 7)) = .int .u8 7) (w : World) : (execOp f o).run Tryz.prog w = .ok (.value (.slice (some ⟨w.heap.size, 0, none⟩) 1 1)) (w.alloc (.cells [Value.int .u8 7].toArray 5)) := by
  unfold execOp
  rw [ho]
  simp only [List.map_toArray, List.map_cons, List.map_nil, hf]
  kernel_rfl
theorem build_t2 (f : Operand → Value) (o : Oper) (x y : Operand) (ho : o.op = .buildSlice 26 2 #[(0, x), (1, y)]) (a b : Option Addr) (n c m d : Nat) (hx : f x = .slice a n c) (hy : f y = .slice b m d) (w : World) : (execOp f o).run Tryz.prog w = .ok (.value (.slice (some ⟨w.heap.size, 0, none⟩) 2 2)) (w.alloc (.cells [Value.slice a n c, .slice b m d].toArray 49)) := by
  unfold execOp
  rw [ho]
  simp only [List.map_toArray, List.map_cons, List.map_nil, hx, hy]
  kernel_rfl
theorem reads_b1 {w : World} {g : Nat} (h : Blk w g [.int .u8 7] 5) : Reads w (.slice (some ⟨g, 0, none⟩) 1 1) [7] :=
  ⟨_, 1, rfl, Nat.le_refl _, (fun e => by cases e), fun _ => ⟨g, 0, rfl, fun j hj => by
    have hj0 : j = 0 := by simp at hj; exact hj
    subst hj0
    exact h.cell 0⟩⟩
theorem readsL_2b {w : World} {g : Nat} {va vb : Value} {la lb : By} (h : Blk w g [va, vb] 49) (ha : Reads w va la) (hb : Reads w vb lb) : ReadsL w (.slice (some ⟨g, 0, none⟩) 2 2) [la, lb] :=
  ⟨_, 2, rfl, Nat.le_refl _, (fun e => by cases e), fun _ => ⟨g, 0, rfl, fun j hj => by
    match j, hj with
    | 0, _ => exact ⟨va, h.cell 0, ha⟩
    | 1, _ => exact ⟨vb, h.cell 1, hb⟩⟩⟩
structure PrW (gv cv : Nat) (ub uo un uc : Nat) (W : World) : Prop where
  rl : ReadsL W (.slice (some ⟨gv, 0, none⟩) 1 cv) [[0]]
  cl : W.cell? ⟨gv, 0, none⟩ = some (.slice (some ⟨ub, uo, none⟩) un uc)
  rd : Reads W (.slice (some ⟨ub, uo, none⟩) un uc) [0]
theorem PrW.next {gv cv ub uo un uc : Nat} {W W' : World} (h : PrW gv cv ub uo un uc W) (hb : Below W.heap.size W W') : PrW gv cv ub uo un uc W' :=
  ⟨h.rl.below hb, by rw [hb.cell (p := ⟨gv, 0, none⟩) (block_lt_of_cell h.cl)]; exact h.cl, h.rd.below hb⟩
set_option maxRecDepth 100000 in
set_option maxHeartbeats 16000000 in
theorem works18_any (w : World) (hK : KOk w) : Calls Tryz.prog 8 #[] w fun e w' => e = .returned (.bool true) ∧ Below w.heap.size w w' := by
  have HK : Hid (KOk w) := hK
  have HBW : Hid (Below w.heap.size w w) := Below.refl _ _
  obtain ⟨dg, HDG⟩ : ∃ x, Hid (x = dig [0]) := ⟨_, rfl⟩
  have HDL : Hid (dg.length = 32) := by show _ = _; rw [HDG.out]; exact len_dig' _
  have hq : ∀ wx : World, (Op.equalIn 10000 40 (.agg (cb dg).toArray) (.agg (cb dg).toArray)).run Tryz.prog wx = .ok true wx := fun wx => eq_dig_same dg HDL.out wx
  obtain ⟨zz, HZ⟩ : ∃ x, Hid (x = zb32) := ⟨_, rfl⟩
  have HSV : Hid (∀ W, KOk W → Calls Tryz.prog 15 #[.agg #[.slice none 0 0, .slice none 0 0], .int .i64 0] W (SvQ W dg)) := fun W h => by rw [HDG.out]; exact save_w0 W h
  have HL0 : Hid (∀ W vl vp, KOk W → ReadsD W vl [dg] → ReadsL W vp [[0]] → Calls Tryz.prog 12 #[vl, vp] W (LvQ W dg)) := fun W vl vp h1 h2 h3 => by rw [HDG.out] at h2 ⊢; exact live_w0 W vl vp h1 h2 h3
  have HL1 : Hid (∀ W vl vp, KOk W → ReadsD W vl [zz] → ReadsL W vp [[0]] → Calls Tryz.prog 12 #[vl, vp] W fun e w' => e = .returned (.tuple #[.slice none 0 0, .int .i64 7]) ∧ Below W.heap.size W w') := fun W vl vp h1 h2 h3 => by rw [HZ.out] at h2; exact live_w1 W vl vp h1 h2 h3
  have HSP : Hid (∀ W vl vp, KOk W → ReadsD W vl [dg] → ReadsL W vp [[0], [7]] → Calls Tryz.prog 9 #[vl, vp] W (SpQ W)) := fun W vl vp h1 h2 h3 => by rw [HDG.out] at h2; exact split_w0 W vl vp h1 h2 h3
  have HZL : Hid (zz.length = 32) := by show _ = _; rw [HZ.out]; exact zb32_len
  clear hK
  go_enter Tryz.func8, Tryz.ntmps8
  have tk0 : Hid True := trivial
  have tk1 : Hid True := trivial
  have tk2 : Hid True := trivial
  have tk3 : Hid True := trivial
  have tk4 : Hid True := trivial
  have tk5 : Hid True := trivial
  have tk6 : Hid True := trivial
  have tk7 : Hid True := trivial
  have tk8 : Hid True := trivial
  have tk9 : Hid True := trivial
  go_wp2_with (first
    | (clear tk0; with_reducible refine wpSeq_buildL0 ?_ ?_ ?_
       · rfl
       · rfl
       have HQ0 : Hid True := trivial)
    | (clear tk1; go_at_call 15; refine (HSV.out _ HK.out).mono ?_; rintro e w1 ⟨gv, cv, ub, uo, un, uc, rfl, h1, h2, h3, hb⟩
       have HPR : Hid (PrW gv cv ub uo un uc w1) := ⟨h1, h2, h3⟩
       clear h1 h2 h3
       replace HK : Hid (KOk w1) := HK.out.below hb HK.out.lt
       replace HBW : Hid (Below w.heap.size w w1) := HBW.out.trans (hb.mono HBW.out.size)
       clear hb)
    | (clear tk2; with_reducible refine wpSeq_allocD ?_ ?_ ?_
       · rfl
       · rfl
       intro g1 w2 nn
       have HNN : Hid (Blk w2 g1 (cb zb32) 40 ∧ w1.heap.size ≤ g1 ∧ Below w1.heap.size w1 w2) := ⟨nn.blk, nn.ge, nn.below⟩
       clear nn)
    | (clear tk3; with_reducible refine wpSeq_storeD (.tmp 1) (.tmp 13) g1 zb32 dg zb32_len HDL.out HNN.out.1 ?_ ?_ ?_ ?_ ?_
       · rfl
       · rfl
       · rfl
       · rfl
       intro w3 h9
       have hb : Below w1.heap.size w1 w3 := HNN.out.2.2.trans (h9.only.below HNN.out.2.1 HNN.out.2.2.size)
       have HG1 : Hid (Blk w3 g1 (cb dg) 40) := h9.blk
       clear h9 HNN
       replace HPR : Hid (PrW gv cv ub uo un uc w3) := HPR.out.next hb
       replace HK : Hid (KOk w3) := HK.out.below hb HK.out.lt
       replace HBW : Hid (Below w.heap.size w w3) := HBW.out.trans (hb.mono HBW.out.size)
       clear hb)
    | (clear tk4; with_reducible refine wpSeq_loadD (.tmp 1) g1 dg HDL.out HG1.out ?_ ?_ ?_ ?_
       · rfl
       · rfl
       · rfl
       have HQ1 : Hid True := trivial)
    | (clear tk5; with_reducible refine wpSeq_buildD (.tmp 16) dg HDL.out ?_ ?_ ?_ ?_
       · rfl
       · rfl
       · rfl
       intro ga w4 nn
       have hb := nn.below
       have HGA : Hid (Blk w4 ga (cb dg) 40) := nn.blk
       clear nn
       replace HPR : Hid (PrW gv cv ub uo un uc w4) := HPR.out.next hb
       replace HG1 : Hid (Blk w4 g1 (cb dg) 40) := HG1.out.below hb HG1.out.lt
       replace HK : Hid (KOk w4) := HK.out.below hb HK.out.lt
       replace HBW : Hid (Below w.heap.size w w4) := HBW.out.trans (hb.mono HBW.out.size)
       clear hb)
    | (clear tk6; go_at_call 12; refine (HL0.out _ _ _ HK.out (readsD_1 HDL.out HGA.out) HPR.out.rl).mono ?_; rintro e w5 ⟨lb, lo, lc, rfl, h1, hb⟩
       have HLV : Hid (w5.rangeAt lb lo (cb dg)) := h1
       clear h1 HGA
       replace HPR : Hid (PrW gv cv ub uo un uc w5) := HPR.out.next hb
       replace HG1 : Hid (Blk w5 g1 (cb dg) 40) := HG1.out.below hb HG1.out.lt
       replace HK : Hid (KOk w5) := HK.out.below hb HK.out.lt
       replace HBW : Hid (Below w.heap.size w w5) := HBW.out.trans (hb.mono HBW.out.size)
       clear hb)
    | (clear tk7; with_reducible refine wpSeq_buildZD ?_ ?_ ?_
       · rfl
       · rfl
       rw [← HZ.out])
    | (clear tk8; with_reducible refine wpSeq_buildD (.tmp 23) zz HZL.out ?_ ?_ ?_ ?_
       · rfl
       · rfl
       · rfl
       intro gz w6 nn
       have hb := nn.below
       have HGZ : Hid (Blk w6 gz (cb zz) 40) := nn.blk
       clear nn
       replace HPR : Hid (PrW gv cv ub uo un uc w6) := HPR.out.next hb
       replace HG1 : Hid (Blk w6 g1 (cb dg) 40) := HG1.out.below hb HG1.out.lt
       replace HLV : Hid (w6.rangeAt lb lo (cb dg)) := rangeAt_grow HLV.out hb
       replace HK : Hid (KOk w6) := HK.out.below hb HK.out.lt
       replace HBW : Hid (Below w.heap.size w w6) := HBW.out.trans (hb.mono HBW.out.size)
       clear hb)
    | (clear tk9; go_at_call 12; refine (HL1.out _ _ _ HK.out (readsD_1 HZL.out HGZ.out) HPR.out.rl).mono ?_; rintro e w7 ⟨rfl, hb⟩
       clear HGZ
       replace HPR : Hid (PrW gv cv ub uo un uc w7) := HPR.out.next hb
       replace HG1 : Hid (Blk w7 g1 (cb dg) 40) := HG1.out.below hb HG1.out.lt
       replace HLV : Hid (w7.rangeAt lb lo (cb dg)) := rangeAt_grow HLV.out hb
       replace HK : Hid (KOk w7) := HK.out.below hb HK.out.lt
       replace HBW : Hid (Below w.heap.size w w7) := HBW.out.trans (hb.mono HBW.out.size)
       clear hb))
  go_cut [7, 8, 9] from 29 to 40 (fun a b c W => ∃ (a4 : Option Addr) (c4 : Nat) (a5 : Option Addr) (c5 : Nat), a = .slice a4 1 c4 ∧ b = .slice a5 1 c5 ∧ c = .int .i64 0 ∧ W.rangeAt lb lo (cb dg) ∧ Blk W g1 (cb dg) 40 ∧ Below w.heap.size w W)
  case first =>
    refine wp_region_held_drew (S := Below w7.heap.size w7.drew) (by kernel_rfl) (Below.refl _ _) ?_
    intro hS
    clear hS
    have hbd : Below w7.heap.size w7 w7.drew := (Below.refl _ _).drew
    have HKd : Hid (KOk w7.drew) := HK.out.below hbd HK.out.lt
    have HPRd : Hid (PrW gv cv ub uo un uc w7.drew) := HPR.out.next hbd
    have HG1d : Hid (Blk w7.drew g1 (cb dg) 40) := HG1.out.below hbd HG1.out.lt
    have HLVd : Hid (w7.drew.rangeAt lb lo (cb dg)) := rangeAt_grow HLV.out hbd
    have HBWd : Hid (Below w.heap.size w w7.drew) := HBW.out.trans (hbd.mono HBW.out.size)
    have HLE : Hid (w.heap.size ≤ w7.heap.size) := HBW.out.size
    clear HK HPR HG1 HLV HBW hbd
    obtain ⟨B, HBB⟩ : ∃ x, Hid (x = w7.heap.size) := ⟨_, rfl⟩
    have HBD : Hid (w7.drew.heap.size = B) := by rw [HBB.out]; rfl
    rw [← HBB.out] at HLE ⊢
    change wpAnyH _ _ _ _ _ _ _ _ (World.drew w7)
    generalize World.drew w7 = wd at *
    clear HBB
    have hS : Below B wd wd := Below.refl _ _
    have HX : Hid (∀ W, Below B wd W → B ≤ W.heap.size ∧ PrW gv cv ub uo un uc W ∧ Blk W g1 (cb dg) 40 ∧ KOk W ∧ W.rangeAt lb lo (cb dg) ∧ Below w.heap.size w W) := fun W hW =>
      have hW2 : Below wd.heap.size wd W := hW.mono (Nat.le_of_eq HBD.out)
      ⟨by have := hW.size; rw [HBD.out] at this; exact this, HPRd.out.next hW2, HG1d.out.below hW2 HG1d.out.lt, HKd.out.below hW2 HKd.out.lt, rangeAt_grow HLVd.out hW2, HBWd.out.trans (hW.mono HLE.out)⟩
    clear HKd HPRd HG1d HLVd HBWd
    refine wpAnyH_take (i := 0) (v := .agg (cb dg).toArray) rfl (by kernel_rfl) (by kernel_rfl) (by kernel_rfl) (fun _ _ _ h => h) (Or.inl ⟨by rfl, fun wx hx => by exact loadDigest (.tmp 1) g1 dg HDL.out (HX.out wx hx).2.2.1 rfl rfl⟩) hS ?_
    simp only [Act.put, List.getElem_toArray, List.getElem_cons_zero, List.setIfInBounds_toArray, List.set_cons_zero, List.set_cons_succ]
    refine wpAnyH_take (i := 2) (v := .slice (some ⟨gv, 0, none⟩) 1 cv) rfl (by kernel_rfl) (by kernel_rfl) (by kernel_rfl) (fun _ _ _ h => h) (Or.inl ⟨by rfl, fun wx hx => by simp [go_sem]⟩) hS ?_
    simp only [Act.put, List.getElem_toArray, List.getElem_cons_succ, List.getElem_cons_zero, List.setIfInBounds_toArray, List.set_cons_zero, List.set_cons_succ]
    refine wpAnyH_take (i := 3) (v := .pointer (some ⟨gv, 0, none⟩)) rfl (by kernel_rfl) (by kernel_rfl) (by kernel_rfl) (fun _ _ _ h => h) (Or.inl ⟨by rfl, fun wx hx => by exact idxQ gv 0 1 cv 0 (by decide) _ _ (.tmp 32) (.const (.int .i64 0)) rfl rfl rfl wx⟩) hS ?_
    simp only [Act.put, List.getElem_toArray, List.getElem_cons_succ, List.getElem_cons_zero, List.setIfInBounds_toArray, List.set_cons_zero, List.set_cons_succ]
    refine wpAnyH_take (i := 4) (v := .slice (some ⟨ub, uo, none⟩) un uc) rfl (by kernel_rfl) (by kernel_rfl) (by kernel_rfl) (fun _ _ _ h => h) (Or.inl ⟨by rfl, fun wx hx => by (have cx := (HX.out wx hx).2.1.cl; simp [go_sem, cx])⟩) hS ?_
    simp only [Act.put, List.getElem_toArray, List.getElem_cons_succ, List.getElem_cons_zero, List.setIfInBounds_toArray, List.set_cons_zero, List.set_cons_succ]
    refine wpAnyH_pair 1 5 (by kernel_rfl) ?_ ?_
    · skip
      refine wpOp_newW 1 (cb dg) 40 1 rfl (by rfl) (buildD _ _ (.tmp 30) rfl dg HDL.out rfl _) ?_
      intro ga1 wx1 nn1
      have hS1 : Below B wd wx1 := hS.trans (nn1.below.mono (HX.out _ hS).1)
      have F1_1 : Hid (Blk wx1 ga1 (cb dg) 40) := nn1.blk
      clear nn1
      refine ⟨hS1, ?_⟩
      simp only [Act.put, List.getElem_toArray, List.getElem_cons_succ, List.getElem_cons_zero, List.setIfInBounds_toArray, List.set_cons_zero, List.set_cons_succ]
      refine wpAnyH_one 5 (by kernel_rfl) ?_
      refine wpOp_newW 5 [Value.int .u8 7] 5 1 rfl (by rfl) (build_b7 _ _ rfl rfl _) ?_
      intro gb5 wx2 nn2
      have hS2 : Below B wd wx2 := hS1.trans (nn2.below.mono (HX.out _ hS1).1)
      have F5_2 : Hid (Blk wx2 gb5 [.int .u8 7] 5) := nn2.blk
      have F1_2 : Hid (Blk wx2 ga1 (cb dg) 40) := F1_1.out.below nn2.below F1_1.out.lt
      clear nn2
      refine ⟨hS2, ?_⟩
      simp only [Act.put, List.getElem_toArray, List.getElem_cons_succ, List.getElem_cons_zero, List.setIfInBounds_toArray, List.set_cons_zero, List.set_cons_succ]
      refine wpAnyH_one 6 (by kernel_rfl) ?_
      refine wpOp_newW 6 [Value.slice (some ⟨ub, uo, none⟩) un uc, .slice (some ⟨gb5, 0, none⟩) 1 1] 49 2 rfl (by rfl) (build_t2 _ _ (.tmp 34) (.tmp 35) rfl _ _ _ _ _ _ rfl rfl _) ?_
      intro gc6 wx3 nn3
      have hS3 : Below B wd wx3 := hS2.trans (nn3.below.mono (HX.out _ hS2).1)
      have F6_3 : Hid (Blk wx3 gc6 [.slice (some ⟨ub, uo, none⟩) un uc, .slice (some ⟨gb5, 0, none⟩) 1 1] 49) := nn3.blk
      have F1_3 : Hid (Blk wx3 ga1 (cb dg) 40) := F1_2.out.below nn3.below F1_2.out.lt
      have F5_3 : Hid (Blk wx3 gb5 [.int .u8 7] 5) := F5_2.out.below nn3.below F5_2.out.lt
      clear nn3
      refine ⟨hS3, ?_⟩
      simp only [Act.put, List.getElem_toArray, List.getElem_cons_succ, List.getElem_cons_zero, List.setIfInBounds_toArray, List.set_cons_zero, List.set_cons_succ]
      refine wpAnyH_enter 7 (by kernel_rfl) rfl (by rfl) (f := 9) (args := #[.slice (some ⟨ga1, 0, none⟩) 1 1, .slice (some ⟨gc6, 0, none⟩) 2 2]) (by simp [go_sem]) (HSP.out _ _ _ (HX.out _ hS3).2.2.2.1 (readsD_1 HDL.out F1_3.out) (readsL_2b F6_3.out (HX.out _ hS3).2.1.rd (reads_b1 F5_3.out))) ?_
      rintro e wy ⟨a4, c4, a5, c5, rfl, hby⟩
      have hSy : Below B wd wy := hS3.trans (hby.mono (HX.out _ hS3).1)
      refine ⟨_, rfl, hSy, ?_⟩
      simp only [Act.put, List.getElem_toArray, List.getElem_cons_succ, List.getElem_cons_zero, List.setIfInBounds_toArray, List.set_cons_zero, List.set_cons_succ]
      refine wpAnyH_take (i := 8) (v := .tuple #[.slice a4 1 c4, .slice a5 1 c5, .int .i64 0]) rfl (by kernel_rfl) (by kernel_rfl) (by kernel_rfl) (fun _ _ _ h => h) (Or.inl ⟨by rfl, fun wx hx => by simp [go_sem]⟩) hSy ?_
      simp only [Act.put, List.getElem_toArray, List.getElem_cons_succ, List.getElem_cons_zero, List.setIfInBounds_toArray, List.set_cons_zero, List.set_cons_succ]
      refine wpAnyH_take (i := 9) (v := .slice a4 1 c4) rfl (by kernel_rfl) (by kernel_rfl) (by kernel_rfl) (fun _ _ _ h => h) (Or.inl ⟨by rfl, fun wx hx => by simp [go_sem]⟩) hSy ?_
      simp only [Act.put, List.getElem_toArray, List.getElem_cons_succ, List.getElem_cons_zero, List.setIfInBounds_toArray, List.set_cons_zero, List.set_cons_succ]
      refine wpAnyH_take (i := 10) (v := .slice a5 1 c5) rfl (by kernel_rfl) (by kernel_rfl) (by kernel_rfl) (fun _ _ _ h => h) (Or.inl ⟨by rfl, fun wx hx => by simp [go_sem]⟩) hSy ?_
      simp only [Act.put, List.getElem_toArray, List.getElem_cons_succ, List.getElem_cons_zero, List.setIfInBounds_toArray, List.set_cons_zero, List.set_cons_succ]
      refine wpAnyH_take (i := 11) (v := .int .i64 0) rfl (by kernel_rfl) (by kernel_rfl) (by kernel_rfl) (fun _ _ _ h => h) (Or.inl ⟨by rfl, fun wx hx => by simp [go_sem]⟩) hSy ?_
      simp only [Act.put, List.getElem_toArray, List.getElem_cons_succ, List.getElem_cons_zero, List.setIfInBounds_toArray, List.set_cons_zero, List.set_cons_succ]
      refine wpAnyH_take (i := 12) (v := .slice a4 1 c4) rfl (by kernel_rfl) (by kernel_rfl) (by kernel_rfl) (fun _ _ _ h => h) (Or.inl ⟨by rfl, fun wx hx => by simp [go_sem]⟩) hSy ?_
      simp only [Act.put, List.getElem_toArray, List.getElem_cons_succ, List.getElem_cons_zero, List.setIfInBounds_toArray, List.set_cons_zero, List.set_cons_succ]
      refine wpAnyH_take (i := 13) (v := .slice a5 1 c5) rfl (by kernel_rfl) (by kernel_rfl) (by kernel_rfl) (fun _ _ _ h => h) (Or.inl ⟨by rfl, fun wx hx => by simp [go_sem]⟩) hSy ?_
      simp only [Act.put, List.getElem_toArray, List.getElem_cons_succ, List.getElem_cons_zero, List.setIfInBounds_toArray, List.set_cons_zero, List.set_cons_succ]
      refine wpAnyH_take (i := 14) (v := .int .i64 0) rfl (by kernel_rfl) (by kernel_rfl) (by kernel_rfl) (fun _ _ _ h => h) (Or.inl ⟨by rfl, fun wx hx => by simp [go_sem]⟩) hSy ?_
      simp only [Act.put, List.getElem_toArray, List.getElem_cons_succ, List.getElem_cons_zero, List.setIfInBounds_toArray, List.set_cons_zero, List.set_cons_succ]
      refine wpAnyH_done (by kernel_rfl) ?_ _
      go_wp2
      go_meet
      case rel => exact ⟨a4, c4, a5, c5, rfl, rfl, rfl, (HX.out _ hSy).2.2.2.2.1, (HX.out _ hSy).2.2.1, (HX.out _ hSy).2.2.2.2.2⟩
    · skip
      refine wpOp_newW 5 [Value.int .u8 7] 5 1 rfl (by rfl) (build_b7 _ _ rfl rfl _) ?_
      intro gb5 wx4 nn4
      have hS4 : Below B wd wx4 := hS.trans (nn4.below.mono (HX.out _ hS).1)
      have F5_4 : Hid (Blk wx4 gb5 [.int .u8 7] 5) := nn4.blk
      clear nn4
      refine ⟨hS4, ?_⟩
      simp only [Act.put, List.getElem_toArray, List.getElem_cons_succ, List.getElem_cons_zero, List.setIfInBounds_toArray, List.set_cons_zero, List.set_cons_succ]
      refine wpAnyH_pair 1 6 (by kernel_rfl) ?_ ?_
      · skip
        refine wpOp_newW 1 (cb dg) 40 1 rfl (by rfl) (buildD _ _ (.tmp 30) rfl dg HDL.out rfl _) ?_
        intro ga1 wx5 nn5
        have hS5 : Below B wd wx5 := hS4.trans (nn5.below.mono (HX.out _ hS4).1)
        have F1_5 : Hid (Blk wx5 ga1 (cb dg) 40) := nn5.blk
        have F5_5 : Hid (Blk wx5 gb5 [.int .u8 7] 5) := F5_4.out.below nn5.below F5_4.out.lt
        clear nn5
        refine ⟨hS5, ?_⟩
        simp only [Act.put, List.getElem_toArray, List.getElem_cons_succ, List.getElem_cons_zero, List.setIfInBounds_toArray, List.set_cons_zero, List.set_cons_succ]
        refine wpAnyH_one 6 (by kernel_rfl) ?_
        refine wpOp_newW 6 [Value.slice (some ⟨ub, uo, none⟩) un uc, .slice (some ⟨gb5, 0, none⟩) 1 1] 49 2 rfl (by rfl) (build_t2 _ _ (.tmp 34) (.tmp 35) rfl _ _ _ _ _ _ rfl rfl _) ?_
        intro gc6 wx6 nn6
        have hS6 : Below B wd wx6 := hS5.trans (nn6.below.mono (HX.out _ hS5).1)
        have F6_6 : Hid (Blk wx6 gc6 [.slice (some ⟨ub, uo, none⟩) un uc, .slice (some ⟨gb5, 0, none⟩) 1 1] 49) := nn6.blk
        have F5_6 : Hid (Blk wx6 gb5 [.int .u8 7] 5) := F5_5.out.below nn6.below F5_5.out.lt
        have F1_6 : Hid (Blk wx6 ga1 (cb dg) 40) := F1_5.out.below nn6.below F1_5.out.lt
        clear nn6
        refine ⟨hS6, ?_⟩
        simp only [Act.put, List.getElem_toArray, List.getElem_cons_succ, List.getElem_cons_zero, List.setIfInBounds_toArray, List.set_cons_zero, List.set_cons_succ]
        refine wpAnyH_enter 7 (by kernel_rfl) rfl (by rfl) (f := 9) (args := #[.slice (some ⟨ga1, 0, none⟩) 1 1, .slice (some ⟨gc6, 0, none⟩) 2 2]) (by simp [go_sem]) (HSP.out _ _ _ (HX.out _ hS6).2.2.2.1 (readsD_1 HDL.out F1_6.out) (readsL_2b F6_6.out (HX.out _ hS6).2.1.rd (reads_b1 F5_6.out))) ?_
        rintro e wy ⟨a4, c4, a5, c5, rfl, hby⟩
        have hSy : Below B wd wy := hS6.trans (hby.mono (HX.out _ hS6).1)
        refine ⟨_, rfl, hSy, ?_⟩
        simp only [Act.put, List.getElem_toArray, List.getElem_cons_succ, List.getElem_cons_zero, List.setIfInBounds_toArray, List.set_cons_zero, List.set_cons_succ]
        refine wpAnyH_take (i := 8) (v := .tuple #[.slice a4 1 c4, .slice a5 1 c5, .int .i64 0]) rfl (by kernel_rfl) (by kernel_rfl) (by kernel_rfl) (fun _ _ _ h => h) (Or.inl ⟨by rfl, fun wx hx => by simp [go_sem]⟩) hSy ?_
        simp only [Act.put, List.getElem_toArray, List.getElem_cons_succ, List.getElem_cons_zero, List.setIfInBounds_toArray, List.set_cons_zero, List.set_cons_succ]
        refine wpAnyH_take (i := 9) (v := .slice a4 1 c4) rfl (by kernel_rfl) (by kernel_rfl) (by kernel_rfl) (fun _ _ _ h => h) (Or.inl ⟨by rfl, fun wx hx => by simp [go_sem]⟩) hSy ?_
        simp only [Act.put, List.getElem_toArray, List.getElem_cons_succ, List.getElem_cons_zero, List.setIfInBounds_toArray, List.set_cons_zero, List.set_cons_succ]
        refine wpAnyH_take (i := 10) (v := .slice a5 1 c5) rfl (by kernel_rfl) (by kernel_rfl) (by kernel_rfl) (fun _ _ _ h => h) (Or.inl ⟨by rfl, fun wx hx => by simp [go_sem]⟩) hSy ?_
        simp only [Act.put, List.getElem_toArray, List.getElem_cons_succ, List.getElem_cons_zero, List.setIfInBounds_toArray, List.set_cons_zero, List.set_cons_succ]
        refine wpAnyH_take (i := 11) (v := .int .i64 0) rfl (by kernel_rfl) (by kernel_rfl) (by kernel_rfl) (fun _ _ _ h => h) (Or.inl ⟨by rfl, fun wx hx => by simp [go_sem]⟩) hSy ?_
        simp only [Act.put, List.getElem_toArray, List.getElem_cons_succ, List.getElem_cons_zero, List.setIfInBounds_toArray, List.set_cons_zero, List.set_cons_succ]
        refine wpAnyH_take (i := 12) (v := .slice a4 1 c4) rfl (by kernel_rfl) (by kernel_rfl) (by kernel_rfl) (fun _ _ _ h => h) (Or.inl ⟨by rfl, fun wx hx => by simp [go_sem]⟩) hSy ?_
        simp only [Act.put, List.getElem_toArray, List.getElem_cons_succ, List.getElem_cons_zero, List.setIfInBounds_toArray, List.set_cons_zero, List.set_cons_succ]
        refine wpAnyH_take (i := 13) (v := .slice a5 1 c5) rfl (by kernel_rfl) (by kernel_rfl) (by kernel_rfl) (fun _ _ _ h => h) (Or.inl ⟨by rfl, fun wx hx => by simp [go_sem]⟩) hSy ?_
        simp only [Act.put, List.getElem_toArray, List.getElem_cons_succ, List.getElem_cons_zero, List.setIfInBounds_toArray, List.set_cons_zero, List.set_cons_succ]
        refine wpAnyH_take (i := 14) (v := .int .i64 0) rfl (by kernel_rfl) (by kernel_rfl) (by kernel_rfl) (fun _ _ _ h => h) (Or.inl ⟨by rfl, fun wx hx => by simp [go_sem]⟩) hSy ?_
        simp only [Act.put, List.getElem_toArray, List.getElem_cons_succ, List.getElem_cons_zero, List.setIfInBounds_toArray, List.set_cons_zero, List.set_cons_succ]
        refine wpAnyH_done (by kernel_rfl) ?_ _
        go_wp2
        go_meet
        case rel => exact ⟨a4, c4, a5, c5, rfl, rfl, rfl, (HX.out _ hSy).2.2.2.2.1, (HX.out _ hSy).2.2.1, (HX.out _ hSy).2.2.2.2.2⟩
      · skip
        refine wpOp_newW 6 [Value.slice (some ⟨ub, uo, none⟩) un uc, .slice (some ⟨gb5, 0, none⟩) 1 1] 49 2 rfl (by rfl) (build_t2 _ _ (.tmp 34) (.tmp 35) rfl _ _ _ _ _ _ rfl rfl _) ?_
        intro gc6 wx7 nn7
        have hS7 : Below B wd wx7 := hS4.trans (nn7.below.mono (HX.out _ hS4).1)
        have F6_7 : Hid (Blk wx7 gc6 [.slice (some ⟨ub, uo, none⟩) un uc, .slice (some ⟨gb5, 0, none⟩) 1 1] 49) := nn7.blk
        have F5_7 : Hid (Blk wx7 gb5 [.int .u8 7] 5) := F5_4.out.below nn7.below F5_4.out.lt
        clear nn7
        refine ⟨hS7, ?_⟩
        simp only [Act.put, List.getElem_toArray, List.getElem_cons_succ, List.getElem_cons_zero, List.setIfInBounds_toArray, List.set_cons_zero, List.set_cons_succ]
        refine wpAnyH_one 1 (by kernel_rfl) ?_
        refine wpOp_newW 1 (cb dg) 40 1 rfl (by rfl) (buildD _ _ (.tmp 30) rfl dg HDL.out rfl _) ?_
        intro ga1 wx8 nn8
        have hS8 : Below B wd wx8 := hS7.trans (nn8.below.mono (HX.out _ hS7).1)
        have F1_8 : Hid (Blk wx8 ga1 (cb dg) 40) := nn8.blk
        have F5_8 : Hid (Blk wx8 gb5 [.int .u8 7] 5) := F5_7.out.below nn8.below F5_7.out.lt
        have F6_8 : Hid (Blk wx8 gc6 [.slice (some ⟨ub, uo, none⟩) un uc, .slice (some ⟨gb5, 0, none⟩) 1 1] 49) := F6_7.out.below nn8.below F6_7.out.lt
        clear nn8
        refine ⟨hS8, ?_⟩
        simp only [Act.put, List.getElem_toArray, List.getElem_cons_succ, List.getElem_cons_zero, List.setIfInBounds_toArray, List.set_cons_zero, List.set_cons_succ]
        refine wpAnyH_enter 7 (by kernel_rfl) rfl (by rfl) (f := 9) (args := #[.slice (some ⟨ga1, 0, none⟩) 1 1, .slice (some ⟨gc6, 0, none⟩) 2 2]) (by simp [go_sem]) (HSP.out _ _ _ (HX.out _ hS8).2.2.2.1 (readsD_1 HDL.out F1_8.out) (readsL_2b F6_8.out (HX.out _ hS8).2.1.rd (reads_b1 F5_8.out))) ?_
        rintro e wy ⟨a4, c4, a5, c5, rfl, hby⟩
        have hSy : Below B wd wy := hS8.trans (hby.mono (HX.out _ hS8).1)
        refine ⟨_, rfl, hSy, ?_⟩
        simp only [Act.put, List.getElem_toArray, List.getElem_cons_succ, List.getElem_cons_zero, List.setIfInBounds_toArray, List.set_cons_zero, List.set_cons_succ]
        refine wpAnyH_take (i := 8) (v := .tuple #[.slice a4 1 c4, .slice a5 1 c5, .int .i64 0]) rfl (by kernel_rfl) (by kernel_rfl) (by kernel_rfl) (fun _ _ _ h => h) (Or.inl ⟨by rfl, fun wx hx => by simp [go_sem]⟩) hSy ?_
        simp only [Act.put, List.getElem_toArray, List.getElem_cons_succ, List.getElem_cons_zero, List.setIfInBounds_toArray, List.set_cons_zero, List.set_cons_succ]
        refine wpAnyH_take (i := 9) (v := .slice a4 1 c4) rfl (by kernel_rfl) (by kernel_rfl) (by kernel_rfl) (fun _ _ _ h => h) (Or.inl ⟨by rfl, fun wx hx => by simp [go_sem]⟩) hSy ?_
        simp only [Act.put, List.getElem_toArray, List.getElem_cons_succ, List.getElem_cons_zero, List.setIfInBounds_toArray, List.set_cons_zero, List.set_cons_succ]
        refine wpAnyH_take (i := 10) (v := .slice a5 1 c5) rfl (by kernel_rfl) (by kernel_rfl) (by kernel_rfl) (fun _ _ _ h => h) (Or.inl ⟨by rfl, fun wx hx => by simp [go_sem]⟩) hSy ?_
        simp only [Act.put, List.getElem_toArray, List.getElem_cons_succ, List.getElem_cons_zero, List.setIfInBounds_toArray, List.set_cons_zero, List.set_cons_succ]
        refine wpAnyH_take (i := 11) (v := .int .i64 0) rfl (by kernel_rfl) (by kernel_rfl) (by kernel_rfl) (fun _ _ _ h => h) (Or.inl ⟨by rfl, fun wx hx => by simp [go_sem]⟩) hSy ?_
        simp only [Act.put, List.getElem_toArray, List.getElem_cons_succ, List.getElem_cons_zero, List.setIfInBounds_toArray, List.set_cons_zero, List.set_cons_succ]
        refine wpAnyH_take (i := 12) (v := .slice a4 1 c4) rfl (by kernel_rfl) (by kernel_rfl) (by kernel_rfl) (fun _ _ _ h => h) (Or.inl ⟨by rfl, fun wx hx => by simp [go_sem]⟩) hSy ?_
        simp only [Act.put, List.getElem_toArray, List.getElem_cons_succ, List.getElem_cons_zero, List.setIfInBounds_toArray, List.set_cons_zero, List.set_cons_succ]
        refine wpAnyH_take (i := 13) (v := .slice a5 1 c5) rfl (by kernel_rfl) (by kernel_rfl) (by kernel_rfl) (fun _ _ _ h => h) (Or.inl ⟨by rfl, fun wx hx => by simp [go_sem]⟩) hSy ?_
        simp only [Act.put, List.getElem_toArray, List.getElem_cons_succ, List.getElem_cons_zero, List.setIfInBounds_toArray, List.set_cons_zero, List.set_cons_succ]
        refine wpAnyH_take (i := 14) (v := .int .i64 0) rfl (by kernel_rfl) (by kernel_rfl) (by kernel_rfl) (fun _ _ _ h => h) (Or.inl ⟨by rfl, fun wx hx => by simp [go_sem]⟩) hSy ?_
        simp only [Act.put, List.getElem_toArray, List.getElem_cons_succ, List.getElem_cons_zero, List.setIfInBounds_toArray, List.set_cons_zero, List.set_cons_succ]
        refine wpAnyH_done (by kernel_rfl) ?_ _
        go_wp2
        go_meet
        case rel => exact ⟨a4, c4, a5, c5, rfl, rfl, rfl, (HX.out _ hSy).2.2.2.2.1, (HX.out _ hSy).2.2.1, (HX.out _ hSy).2.2.2.2.2⟩
  case rest =>
    clear HK HPR HG1 HLV HBW HSV HL0 HL1 HSP
    obtain ⟨a4, c4, a5, c5, rfl, rfl, rfl, hr, hb1, hbw⟩ := hcut
    have HBZ : Hid (Below w.heap.size w wc) := hbw
    clear hbw
    go_wp2_with fail
    refine wp_region_held_drew (S := fun wx => wx.rangeAt lb lo (cb dg) ∧ Blk wx g1 (cb dg) 40) (by kernel_rfl) ⟨hr, hb1.drew⟩ ?_
    intro hS
    change wpAnyH _ _ _ _ _ _ _ _ (World.drew wc)
    refine wpAnyH_take (i := 0) (v := .int .i64 0) rfl (by kernel_rfl) (by kernel_rfl) (by kernel_rfl) (fun _ _ _ h => h) (Or.inl ⟨by rfl, fun wx hx => by simp [go_sem]⟩) hS ?_
    simp only [Act.put, List.getElem_toArray, List.getElem_cons_zero, List.setIfInBounds_toArray, List.set_cons_zero, List.set_cons_succ]
    refine wpAnyH_take (i := 1) (v := .bool true) rfl (by kernel_rfl) (by kernel_rfl) (by kernel_rfl) (fun _ _ _ h => h) (Or.inl ⟨by rfl, fun wx hx => by simp [go_sem]⟩) hS ?_
    simp only [Act.put, List.getElem_toArray, List.getElem_cons_succ, List.getElem_cons_zero, List.setIfInBounds_toArray, List.set_cons_zero, List.set_cons_succ]
    refine wpAnyH_take (i := 2) (v := .bool true) rfl (by kernel_rfl) (by kernel_rfl) (by kernel_rfl) (fun _ _ _ h => h) (Or.inl ⟨by rfl, fun wx hx => by simp [go_sem]⟩) hS ?_
    simp only [Act.put, List.getElem_toArray, List.getElem_cons_succ, List.getElem_cons_zero, List.setIfInBounds_toArray, List.set_cons_zero, List.set_cons_succ]
    refine wpAnyH_take (i := 3) (v := .slice (some ⟨lb, lo, none⟩) 1 lc) rfl (by kernel_rfl) (by kernel_rfl) (by kernel_rfl) (fun _ _ _ h => h) (Or.inl ⟨by rfl, fun wx hx => by simp [go_sem]⟩) hS ?_
    simp only [Act.put, List.getElem_toArray, List.getElem_cons_succ, List.getElem_cons_zero, List.setIfInBounds_toArray, List.set_cons_zero, List.set_cons_succ]
    refine wpAnyH_take (i := 4) (v := .int .i64 1) rfl (by kernel_rfl) (by kernel_rfl) (by kernel_rfl) (fun _ _ _ h => h) (Or.inl ⟨by rfl, fun wx hx => by simp [go_sem]⟩) hS ?_
    simp only [Act.put, List.getElem_toArray, List.getElem_cons_succ, List.getElem_cons_zero, List.setIfInBounds_toArray, List.set_cons_zero, List.set_cons_succ]
    refine wpAnyH_take (i := 5) (v := .bool true) rfl (by kernel_rfl) (by kernel_rfl) (by kernel_rfl) (fun _ _ _ h => h) (Or.inl ⟨by rfl, fun wx hx => by simp [go_sem]⟩) hS ?_
    simp only [Act.put, List.getElem_toArray, List.getElem_cons_succ, List.getElem_cons_zero, List.setIfInBounds_toArray, List.set_cons_zero, List.set_cons_succ]
    refine wpAnyH_take (i := 6) (v := .bool true) rfl (by kernel_rfl) (by kernel_rfl) (by kernel_rfl) (fun _ _ _ h => h) (Or.inl ⟨by rfl, fun wx hx => by simp [go_sem]⟩) hS ?_
    simp only [Act.put, List.getElem_toArray, List.getElem_cons_succ, List.getElem_cons_zero, List.setIfInBounds_toArray, List.set_cons_zero, List.set_cons_succ]
    refine wpAnyH_take (i := 7) (v := .bool true) rfl (by kernel_rfl) (by kernel_rfl) (by kernel_rfl) (fun _ _ _ h => h) (Or.inl ⟨by rfl, fun wx hx => by simp [go_sem]⟩) hS ?_
    simp only [Act.put, List.getElem_toArray, List.getElem_cons_succ, List.getElem_cons_zero, List.setIfInBounds_toArray, List.set_cons_zero, List.set_cons_succ]
    refine wpAnyH_take (i := 8) (v := .slice (some ⟨lb, lo, none⟩) 1 lc) rfl (by kernel_rfl) (by kernel_rfl) (by kernel_rfl) (fun _ _ _ h => h) (Or.inl ⟨by rfl, fun wx hx => by simp [go_sem]⟩) hS ?_
    simp only [Act.put, List.getElem_toArray, List.getElem_cons_succ, List.getElem_cons_zero, List.setIfInBounds_toArray, List.set_cons_zero, List.set_cons_succ]
    refine wpAnyH_take (i := 9) (v := .pointer (some ⟨lb, lo, none⟩)) rfl (by kernel_rfl) (by kernel_rfl) (by kernel_rfl) (fun _ _ _ h => h) (Or.inl ⟨by rfl, fun wx hx => by exact idxD17 lb lo lc 1 0 (by decide) _ _ (.tmp 49) (.const (.int .i64 0)) rfl rfl rfl wx⟩) hS ?_
    simp only [Act.put, List.getElem_toArray, List.getElem_cons_succ, List.getElem_cons_zero, List.setIfInBounds_toArray, List.set_cons_zero, List.set_cons_succ]
    refine wpAnyH_take (i := 10) (v := .agg (cb dg).toArray) rfl (by kernel_rfl) (by kernel_rfl) (by kernel_rfl) (fun _ _ _ h => h) (Or.inl ⟨by rfl, fun wx hx => by exact load_run 40 (.tmp 50) rfl lb lo rfl (cb dg) _ hx.1 Tryz.underlying40 rfl (by rw [cb_len, HDL.out]; exact info_digest)⟩) hS ?_
    simp only [Act.put, List.getElem_toArray, List.getElem_cons_succ, List.getElem_cons_zero, List.setIfInBounds_toArray, List.set_cons_zero, List.set_cons_succ]
    refine wpAnyH_take (i := 11) (v := .agg (cb dg).toArray) rfl (by kernel_rfl) (by kernel_rfl) (by kernel_rfl) (fun _ _ _ h => h) (Or.inl ⟨by rfl, fun wx hx => by exact loadDigest (.tmp 1) g1 dg HDL.out hx.2 rfl rfl⟩) hS ?_
    simp only [Act.put, List.getElem_toArray, List.getElem_cons_succ, List.getElem_cons_zero, List.setIfInBounds_toArray, List.set_cons_zero, List.set_cons_succ]
    refine wpAnyH_take (i := 12) (v := .bool true) rfl (by kernel_rfl) (by kernel_rfl) (by kernel_rfl) (fun _ _ _ h => h) (Or.inl ⟨by rfl, fun wx hx => by simp [go_sem, hq]⟩) hS ?_
    simp only [Act.put, List.getElem_toArray, List.getElem_cons_succ, List.getElem_cons_zero, List.setIfInBounds_toArray, List.set_cons_zero, List.set_cons_succ]
    refine wpAnyH_take (i := 13) (v := .bool true) rfl (by kernel_rfl) (by kernel_rfl) (by kernel_rfl) (fun _ _ _ h => h) (Or.inl ⟨by rfl, fun wx hx => by simp [go_sem]⟩) hS ?_
    simp only [Act.put, List.getElem_toArray, List.getElem_cons_succ, List.getElem_cons_zero, List.setIfInBounds_toArray, List.set_cons_zero, List.set_cons_succ]
    refine wpAnyH_take (i := 14) (v := .bool true) rfl (by kernel_rfl) (by kernel_rfl) (by kernel_rfl) (fun _ _ _ h => h) (Or.inl ⟨by rfl, fun wx hx => by simp [go_sem]⟩) hS ?_
    simp only [Act.put, List.getElem_toArray, List.getElem_cons_succ, List.getElem_cons_zero, List.setIfInBounds_toArray, List.set_cons_zero, List.set_cons_succ]
    refine wpAnyH_take (i := 15) (v := .int .i64 7) rfl (by kernel_rfl) (by kernel_rfl) (by kernel_rfl) (fun _ _ _ h => h) (Or.inl ⟨by rfl, fun wx hx => by simp [go_sem]⟩) hS ?_
    simp only [Act.put, List.getElem_toArray, List.getElem_cons_succ, List.getElem_cons_zero, List.setIfInBounds_toArray, List.set_cons_zero, List.set_cons_succ]
    refine wpAnyH_take (i := 16) (v := .bool true) rfl (by kernel_rfl) (by kernel_rfl) (by kernel_rfl) (fun _ _ _ h => h) (Or.inl ⟨by rfl, fun wx hx => by simp [go_sem]⟩) hS ?_
    simp only [Act.put, List.getElem_toArray, List.getElem_cons_succ, List.getElem_cons_zero, List.setIfInBounds_toArray, List.set_cons_zero, List.set_cons_succ]
    refine wpAnyH_take (i := 17) (v := .bool true) rfl (by kernel_rfl) (by kernel_rfl) (by kernel_rfl) (fun _ _ _ h => h) (Or.inl ⟨by rfl, fun wx hx => by simp [go_sem]⟩) hS ?_
    simp only [Act.put, List.getElem_toArray, List.getElem_cons_succ, List.getElem_cons_zero, List.setIfInBounds_toArray, List.set_cons_zero, List.set_cons_succ]
    refine wpAnyH_take (i := 18) (v := .bool true) rfl (by kernel_rfl) (by kernel_rfl) (by kernel_rfl) (fun _ _ _ h => h) (Or.inl ⟨by rfl, fun wx hx => by simp [go_sem]⟩) hS ?_
    simp only [Act.put, List.getElem_toArray, List.getElem_cons_succ, List.getElem_cons_zero, List.setIfInBounds_toArray, List.set_cons_zero, List.set_cons_succ]
    refine wpAnyH_take (i := 19) (v := .int .i64 0) rfl (by kernel_rfl) (by kernel_rfl) (by kernel_rfl) (fun _ _ _ h => h) (Or.inl ⟨by rfl, fun wx hx => by simp [go_sem]⟩) hS ?_
    simp only [Act.put, List.getElem_toArray, List.getElem_cons_succ, List.getElem_cons_zero, List.setIfInBounds_toArray, List.set_cons_zero, List.set_cons_succ]
    refine wpAnyH_take (i := 20) (v := .bool true) rfl (by kernel_rfl) (by kernel_rfl) (by kernel_rfl) (fun _ _ _ h => h) (Or.inl ⟨by rfl, fun wx hx => by simp [go_sem]⟩) hS ?_
    simp only [Act.put, List.getElem_toArray, List.getElem_cons_succ, List.getElem_cons_zero, List.setIfInBounds_toArray, List.set_cons_zero, List.set_cons_succ]
    refine wpAnyH_take (i := 21) (v := .bool true) rfl (by kernel_rfl) (by kernel_rfl) (by kernel_rfl) (fun _ _ _ h => h) (Or.inl ⟨by rfl, fun wx hx => by simp [go_sem]⟩) hS ?_
    simp only [Act.put, List.getElem_toArray, List.getElem_cons_succ, List.getElem_cons_zero, List.setIfInBounds_toArray, List.set_cons_zero, List.set_cons_succ]
    refine wpAnyH_take (i := 22) (v := .bool true) rfl (by kernel_rfl) (by kernel_rfl) (by kernel_rfl) (fun _ _ _ h => h) (Or.inl ⟨by rfl, fun wx hx => by simp [go_sem]⟩) hS ?_
    simp only [Act.put, List.getElem_toArray, List.getElem_cons_succ, List.getElem_cons_zero, List.setIfInBounds_toArray, List.set_cons_zero, List.set_cons_succ]
    refine wpAnyH_take (i := 23) (v := .slice a4 1 c4) rfl (by kernel_rfl) (by kernel_rfl) (by kernel_rfl) (fun _ _ _ h => h) (Or.inl ⟨by rfl, fun wx hx => by simp [go_sem]⟩) hS ?_
    simp only [Act.put, List.getElem_toArray, List.getElem_cons_succ, List.getElem_cons_zero, List.setIfInBounds_toArray, List.set_cons_zero, List.set_cons_succ]
    refine wpAnyH_take (i := 24) (v := .int .i64 1) rfl (by kernel_rfl) (by kernel_rfl) (by kernel_rfl) (fun _ _ _ h => h) (Or.inl ⟨by rfl, fun wx hx => by simp [go_sem]⟩) hS ?_
    simp only [Act.put, List.getElem_toArray, List.getElem_cons_succ, List.getElem_cons_zero, List.setIfInBounds_toArray, List.set_cons_zero, List.set_cons_succ]
    refine wpAnyH_take (i := 25) (v := .bool true) rfl (by kernel_rfl) (by kernel_rfl) (by kernel_rfl) (fun _ _ _ h => h) (Or.inl ⟨by rfl, fun wx hx => by simp [go_sem]⟩) hS ?_
    simp only [Act.put, List.getElem_toArray, List.getElem_cons_succ, List.getElem_cons_zero, List.setIfInBounds_toArray, List.set_cons_zero, List.set_cons_succ]
    refine wpAnyH_take (i := 26) (v := .bool true) rfl (by kernel_rfl) (by kernel_rfl) (by kernel_rfl) (fun _ _ _ h => h) (Or.inl ⟨by rfl, fun wx hx => by simp [go_sem]⟩) hS ?_
    simp only [Act.put, List.getElem_toArray, List.getElem_cons_succ, List.getElem_cons_zero, List.setIfInBounds_toArray, List.set_cons_zero, List.set_cons_succ]
    refine wpAnyH_take (i := 27) (v := .bool true) rfl (by kernel_rfl) (by kernel_rfl) (by kernel_rfl) (fun _ _ _ h => h) (Or.inl ⟨by rfl, fun wx hx => by simp [go_sem]⟩) hS ?_
    simp only [Act.put, List.getElem_toArray, List.getElem_cons_succ, List.getElem_cons_zero, List.setIfInBounds_toArray, List.set_cons_zero, List.set_cons_succ]
    refine wpAnyH_take (i := 28) (v := .slice a5 1 c5) rfl (by kernel_rfl) (by kernel_rfl) (by kernel_rfl) (fun _ _ _ h => h) (Or.inl ⟨by rfl, fun wx hx => by simp [go_sem]⟩) hS ?_
    simp only [Act.put, List.getElem_toArray, List.getElem_cons_succ, List.getElem_cons_zero, List.setIfInBounds_toArray, List.set_cons_zero, List.set_cons_succ]
    refine wpAnyH_take (i := 29) (v := .int .i64 1) rfl (by kernel_rfl) (by kernel_rfl) (by kernel_rfl) (fun _ _ _ h => h) (Or.inl ⟨by rfl, fun wx hx => by simp [go_sem]⟩) hS ?_
    simp only [Act.put, List.getElem_toArray, List.getElem_cons_succ, List.getElem_cons_zero, List.setIfInBounds_toArray, List.set_cons_zero, List.set_cons_succ]
    refine wpAnyH_take (i := 30) (v := .bool true) rfl (by kernel_rfl) (by kernel_rfl) (by kernel_rfl) (fun _ _ _ h => h) (Or.inl ⟨by rfl, fun wx hx => by simp [go_sem]⟩) hS ?_
    simp only [Act.put, List.getElem_toArray, List.getElem_cons_succ, List.getElem_cons_zero, List.setIfInBounds_toArray, List.set_cons_zero, List.set_cons_succ]
    refine wpAnyH_take (i := 31) (v := .bool true) rfl (by kernel_rfl) (by kernel_rfl) (by kernel_rfl) (fun _ _ _ h => h) (Or.inl ⟨by rfl, fun wx hx => by simp [go_sem]⟩) hS ?_
    simp only [Act.put, List.getElem_toArray, List.getElem_cons_succ, List.getElem_cons_zero, List.setIfInBounds_toArray, List.set_cons_zero, List.set_cons_succ]
    refine wpAnyH_take (i := 32) (v := .bool true) rfl (by kernel_rfl) (by kernel_rfl) (by kernel_rfl) (fun _ _ _ h => h) (Or.inl ⟨by rfl, fun wx hx => by simp [go_sem]⟩) hS ?_
    simp only [Act.put, List.getElem_toArray, List.getElem_cons_succ, List.getElem_cons_zero, List.setIfInBounds_toArray, List.set_cons_zero]
    refine wpAnyH_done (by kernel_rfl) ?_ _
    go_wp2
    refine ⟨rfl, _, results_tmp rfl _ _ _, ?_⟩
    exact ⟨rfl, HBZ.out.drew⟩
end Go.Proofs.YtphmmnffgknkcabGreatDoor
namespace Go.Proofs.YtphmmnffgknkcabGreatDoor
open Go.RowKit
set_option maxRecDepth 100000
def mostL : List (List Lf) → Nat
  | [] => 0
  | l :: r => 1 + 256 * l.length + mostL r
theorem mostL_le : ∀ {ks : List (List Lf)}, (∀ l ∈ ks, l.length ≤ 20) → mostL ks ≤ ks.length * 5121
  | [], _ => Nat.le_refl _
  | k :: ks, h => by
    have h1 := mostL_le (ks := ks) fun l hl => h l (List.mem_cons_of_mem _ hl)
    have h2 := h k (by simp)
    rw [mostL, List.length_cons]
    omega
theorem saves_most : ∀ {ks : List (List Lf)}, (∀ l ∈ ks, Fits l 0) → (ks.flatMap fun l => (saveL 0 l).map dig).length ≤ mostL ks
  | [], _ => Nat.le_refl _
  | k :: ks, h => by
    have h1 := saves_most (ks := ks) fun l hl => h l (List.mem_cons_of_mem _ hl)
    have h2 := save_count 256 0 k rfl (h k (by simp))
    rw [List.flatMap_cons, List.length_append, List.length_map, mostL]
    omega
theorem rise_nd : ∀ {ts : List Dg}, RiseD ts → (ts.map (·.1)).Nodup
  | [], _ => List.nodup_nil
  | t :: ts, h => by
    obtain ⟨h1, h2⟩ := List.pairwise_cons.1 h
    rw [List.map_cons]
    refine List.nodup_cons.2 ⟨fun hm => ?_, rise_nd h2⟩
    obtain ⟨y, hy, e⟩ := List.mem_map.1 hm
    have := h1 y hy
    rw [e, lessB_self] at this
    cases this
theorem live_few {ts : List Dg} {ks : List (List Lf)} (hr : RiseD ts) (hm : ∀ x : Dg, x ∈ ts ↔ keyIn ks x.1) (hf : ∀ l ∈ ks, Fits l 0) : ts.length ≤ mostL ks := by
  refine Nat.le_trans ?_ (saves_most hf)
  have h := nodup_sub_len (rise_nd hr) (b := ks.flatMap fun l => (saveL 0 l).map dig) fun x hx => by
    obtain ⟨y, hy, e⟩ := List.mem_map.1 hx
    obtain ⟨l, hl, p, hp, e2⟩ := (hm y).1 hy
    rw [← e, ← e2]
    exact List.mem_flatMap.2 ⟨l, hl, List.mem_map.2 ⟨p, hp, rfl⟩⟩
  rwa [List.length_map] at h
theorem TrsR.below {w w' : World} {v : Value} {ks : List (List Lf)} (h : TrsR w v ks) (hb : Below w.heap.size w w') : TrsR w' v ks := by
  obtain ⟨ad, cap, h1, h2⟩ := h
  refine ⟨ad, cap, h1, fun hp => ?_⟩
  obtain ⟨g, h3, h4⟩ := h2 hp
  refine ⟨g, h3, fun j hj => ?_⟩
  obtain ⟨a1, n1, c1, a2, n2, c2, h5, h6⟩ := h4 j hj
  exact ⟨a1, n1, c1, a2, n2, c2, fun i v hi => by rw [hb.cell (p := ⟨g, j * 2 + i, none⟩) (block_lt_of_cell (h5 i v hi))]; exact h5 i v hi, h6.below hb⟩
theorem info_trees18 {a b c : Value} : (Tryz.prog.info? 25).map (·.size) = some [a, b, c].length := by kernel_rfl
end Go.Proofs.YtphmmnffgknkcabGreatDoor
namespace Go.Proofs.YtphmmnffgknkcabGreatDoor
open Go.RowKit
set_option maxRecDepth 100000
theorem apart_of {ls : List By} (h : ∀ p ∈ ls, ∀ q ∈ ls, dig p = dig q → p = q) : Apart17 ls := fun i j hi hj he => by
  have h1 : ls.getD i [] ∈ ls := by rw [List.getD_eq_getElem?_getD, List.getElem?_eq_getElem hi]; exact List.getElem_mem hi
  have hj2 : j < ls.length := by omega
  have h2 : ls.getD j [] ∈ ls := by rw [List.getD_eq_getElem?_getD, List.getElem?_eq_getElem hj2]; exact List.getElem_mem hj2
  exact h _ h2 _ h1 he
end Go.Proofs.YtphmmnffgknkcabGreatDoor

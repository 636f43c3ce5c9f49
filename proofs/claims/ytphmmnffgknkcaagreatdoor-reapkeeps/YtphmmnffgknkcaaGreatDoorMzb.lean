import Derived.Test.YtphmmnffgknkcaaGreatDoorMza
import Derived.Deep.RegionHeld3
import Derived.Laws.ResultCell
import Derived.RangeFuncNested
import Derived.RangeFuncBound
import Derived.RangeFuncCalls
import Derived.RangeFuncLeaves
import Derived.Shelf.Abstract
import Derived.Shelf.RegionOpen
import Derived.WalkKit
import Derived.OwnWalkIn
import Derived.TacticsInMore
import Derived.LoopNIn
import Derived.LoopIn
import Derived.Scope
import Derived.Lib.BytesEntry
import Derived.Great.BuildSlice
import Derived.Maps.AppendAt
import Derived.Deep.DeepCutAuto
namespace Go.Proofs.YtphmmnffgknkcaaGreatDoor
open Go.RowKit
set_option maxRecDepth 100000
abbrev By:=List (BitVec 8)
def oneP1 (l:List Lf):By:=match l with | [] => [0] | p :: _ => 1 :: (p.1 ++ p.2)
def wholeF:Nat → Nat → List Lf → By
  | 0,_,l => oneP1 l
  | f + 1,d,l => if l.length < 2 then oneP1 l else 2 :: (wholeF f (d + 1) (halfL l d false) ++ wholeF f (d + 1) (halfL l d true))
def wholeL (d:Nat) (l:List Lf):By:=wholeF (256 - d) d l
theorem whole_few {d:Nat} {l:List Lf} (h:l.length < 2):wholeL d l = oneP1 l:=by
  unfold wholeL
  cases 256 - d with
  | zero => rfl
  | succ f => rw [wholeF,if_pos h]
theorem whole_two {d:Nat} {l:List Lf} (hd:d < 256) (h:2 ≤ l.length):wholeL d l = 2 :: (wholeL (d + 1) (halfL l d false) ++ wholeL (d + 1) (halfL l d true)):=by
  unfold wholeL
  rw [show 256 - d = (256 - (d + 1)) + 1 by omega,wholeF,if_neg (by omega)]
theorem one_le {l:List Lf} (h:okLf l) (h2:l.length < 2):(oneP1 l).length = 1 + 64 * l.length:=by
  match l,h2 with
  | [],_ => rfl
  | [p],_ =>
    have:=h p (by simp)
    simp only [oneP1,List.length_cons,List.length_append,this.1,this.2,List.length_nil]
theorem whole_le:∀ (f d:Nat) (l:List Lf),256 = d + f → Fits l d → (wholeL d l).length ≤ 1 + l.length * (64 + 2 * f) ∧ 65 * l.length ≤ (wholeL d l).length ∧ 1 ≤ (wholeL d l).length:=by
  intro f
  induction f with
  | zero =>
    intro d l hd hF
    have h2:l.length < 2:=by
      rcases Nat.lt_or_ge l.length 2 with h | h
      · exact h
      · have:=hF.lt h;omega
    rw [whole_few h2,one_le hF.1 h2]
    omega
  | succ f ih =>
    intro d l hd hF
    rcases Nat.lt_or_ge l.length 2 with h2 | h2
    · rw [whole_few h2,one_le hF.1 h2]
      have:l.length = 0 ∨ l.length = 1:=by omega
      rcases this with h | h <;> rw [h] <;> omega
    · have h0:=ih (d + 1) (halfL l d false) (by omega) (hF.half false)
      have h1:=ih (d + 1) (halfL l d true) (by omega) (hF.half true)
      rw [whole_two (by omega) h2,List.length_cons,List.length_append]
      have hl:=half_len hF
      rw [hl] at h2 ⊢
      generalize (halfL l d false).length = a at *
      generalize (halfL l d true).length = b at *
      have e:(a + b) * (64 + 2 * (f + 1)) = a * (64 + 2 * f) + b * (64 + 2 * f) + 2 * (a + b):=by
        rw [show 64 + 2 * (f + 1) = (64 + 2 * f) + 2 by omega,Nat.mul_add,Nat.add_mul,Nat.mul_comm (a + b) 2]
      rw [e]
      omega
def saveF:Nat → Nat → List Lf → List By
  | 0,d,l => [wholeL d l]
  | f + 1,d,l => if (wholeL d l).length ≤ 512 then [wholeL d l] else
      (2 :: ((if (halfL l d false).length < 2 then wholeL (d + 1) (halfL l d false) else 3 :: dig ((saveF f (d + 1) (halfL l d false)).headD [])) ++ (if (halfL l d true).length < 2 then wholeL (d + 1) (halfL l d true) else 3 :: dig ((saveF f (d + 1) (halfL l d true)).headD []))))
        :: ((if (halfL l d false).length < 2 then [] else saveF f (d + 1) (halfL l d false)) ++ (if (halfL l d true).length < 2 then [] else saveF f (d + 1) (halfL l d true)))
def saveL (d:Nat) (l:List Lf):List By:=saveF (256 - d) d l
def topPg (d:Nat) (l:List Lf):By:=(saveL d l).headD []
def sidePg (d:Nat) (l:List Lf):By:=if l.length < 2 then wholeL d l else 3 :: dig (topPg d l)
def restPg (d:Nat) (l:List Lf):List By:=if l.length < 2 then [] else saveL d l
theorem save_one {d:Nat} {l:List Lf} (h:(wholeL d l).length ≤ 512):saveL d l = [wholeL d l]:=by
  unfold saveL
  cases 256 - d with
  | zero => rfl
  | succ f => rw [saveF,if_pos h]
theorem save_more {d:Nat} {l:List Lf} (hd:d < 256) (h:512 < (wholeL d l).length):saveL d l = (2 :: (sidePg (d + 1) (halfL l d false) ++ sidePg (d + 1) (halfL l d true))) :: (restPg (d + 1) (halfL l d false) ++ restPg (d + 1) (halfL l d true)):=by
  unfold saveL
  rw [show 256 - d = (256 - (d + 1)) + 1 by omega,saveF,if_neg (by omega)]
  rfl
theorem save_cons (d:Nat) (l:List Lf):∃ t,saveL d l = topPg d l :: t:=by
  unfold topPg saveL
  cases 256 - d with
  | zero => exact ⟨[],rfl⟩
  | succ f =>
    rw [saveF]
    split
    · exact ⟨[],rfl⟩
    · exact ⟨_,rfl⟩
theorem long_two {d:Nat} {l:List Lf} (hF:Fits l d) (h:512 < (wholeL d l).length):2 ≤ l.length ∧ d < 256:=by
  have h2:2 ≤ l.length:=by
    rcases Nat.lt_or_ge l.length 2 with h2 | h2
    · rw [whole_few h2,one_le hF.1 h2] at h;omega
    · exact h2
  exact ⟨h2,hF.lt h2⟩
theorem top_one {d:Nat} {l:List Lf} (h:(wholeL d l).length ≤ 512):topPg d l = wholeL d l:=by unfold topPg;rw [save_one h];rfl
theorem top_more {d:Nat} {l:List Lf} (hd:d < 256) (h:512 < (wholeL d l).length):topPg d l = 2 :: (sidePg (d + 1) (halfL l d false) ++ sidePg (d + 1) (halfL l d true)):=by unfold topPg;rw [save_more hd h];rfl
theorem side_len {d:Nat} {l:List Lf} (h:okLf l):1 ≤ (sidePg d l).length ∧ (sidePg d l).length ≤ 65:=by
  unfold sidePg
  split
  · rename_i h2
    rw [whole_few h2,one_le h h2];omega
  · rw [List.length_cons,len_dig'];omega
theorem save_short:∀ (f d:Nat) (l:List Lf),256 ≤ d + f → Fits l d → ∀ p ∈ saveL d l,1 ≤ p.length ∧ p.length ≤ 512:=by
  intro f
  induction f with
  | zero =>
    intro d l hd hF p hp
    have hs:(wholeL d l).length ≤ 512:=by
      rcases Nat.lt_or_ge 512 (wholeL d l).length with h | h
      · have:=(long_two hF h).2;omega
      · exact h
    have h2:l.length < 2:=by
      rcases Nat.lt_or_ge l.length 2 with h | h
      · exact h
      · have:=hF.lt h;omega
    rw [save_one hs] at hp
    cases List.mem_singleton.1 hp
    rw [whole_few h2,one_le hF.1 h2];omega
  | succ f ih =>
    intro d l hd hF p hp
    rcases Nat.lt_or_ge 512 (wholeL d l).length with h | h
    · have h2:=long_two hF h
      rw [save_more h2.2 h] at hp
      rcases List.mem_cons.1 hp with rfl | hp
      · have a:=side_len (d:=d + 1) (hF.half false).1
        have b:=side_len (d:=d + 1) (hF.half true).1
        rw [List.length_cons,List.length_append];omega
      · rcases List.mem_append.1 hp with hp | hp
        · unfold restPg at hp
          split at hp
          · cases hp
          · exact ih (d + 1) _ (by omega) (hF.half false) p hp
        · unfold restPg at hp
          split at hp
          · cases hp
          · exact ih (d + 1) _ (by omega) (hF.half true) p hp
    · rw [save_one h] at hp
      cases List.mem_singleton.1 hp
      refine ⟨?_,h⟩
      rcases Nat.lt_or_ge l.length 2 with h2 | h2
      · rw [whole_few h2,one_le hF.1 h2];omega
      · rw [whole_two (hF.lt h2) h2,List.length_cons];omega
theorem save_count:∀ (f d:Nat) (l:List Lf),256 = d + f → Fits l d → (saveL d l).length ≤ 1 + f * l.length:=by
  intro f
  induction f with
  | zero =>
    intro d l hd hF
    have hs:(wholeL d l).length ≤ 512:=by
      rcases Nat.lt_or_ge 512 (wholeL d l).length with h | h
      · have:=(long_two hF h).2;omega
      · exact h
    rw [save_one hs];simp
  | succ f ih =>
    intro d l hd hF
    rcases Nat.lt_or_ge 512 (wholeL d l).length with h | h
    · have h2:=long_two hF h
      rw [save_more h2.2 h,List.length_cons,List.length_append]
      have hr:∀ b,(restPg (d + 1) (halfL l d b)).length ≤ (f + 1) * (halfL l d b).length:=by
        intro b
        unfold restPg
        split
        · simp
        · have:=ih (d + 1) _ (by omega) (hF.half b)
          rw [Nat.add_mul,Nat.one_mul];omega
      have:=hr false
      have:=hr true
      rw [half_len hF,Nat.mul_add];omega
    · rw [save_one h];simp
end Go.Proofs.YtphmmnffgknkcaaGreatDoor
namespace Go.Proofs.YtphmmnffgknkcaaGreatDoor
open Go.RowKit
set_option maxRecDepth 100000
theorem wpSeq_val {P:Program} {ops:Array Oper} {Q:Exit → Act → World → Prop} {rest:List Oper} {o:Oper} {a:Act} {w:World} (v:Value) (w':World) (hw:Region.wanted o (yielded ops a.tmps) = true)
    (he:(execOp a.eval o).run P w = .ok (.value v) w') (h:wpList P ops Q rest (a.put o.dst v) w'):wpList P ops Q (o :: rest) a w:=by
  unfold wpList
  simp only [hw,if_true]
  left
  unfold Oper.wp
  rw [he,Oper.upon_value]
  exact h
theorem info_digest:(Tryz.prog.info? 39).map (·.size) = some 32:=by kernel_rfl
theorem allocDigest (f:Operand → Value) (o:Oper) (ho:o.op = .alloc 39) (w:World):(execOp f o).run Tryz.prog w = .ok (.value (.pointer (some ⟨w.heap.size,0,none⟩))) (w.alloc (.cells (cb zb32).toArray 39)):=by
  unfold execOp
  rw [ho]
  kernel_rfl
structure NewB (x:List (BitVec 8)) (w:World) (g:Nat) (w':World):Prop where
  ge:w.heap.size ≤ g
  blk:Blk w' g (cb x) 39
  below:Below w.heap.size w w'
theorem NewB.of (x:List (BitVec 8)) (w:World):NewB x w w.heap.size (w.alloc (.cells (cb x).toArray 39)):=⟨Nat.le_refl _,Blk.new w _ _,below_alloc w _⟩
theorem zb32_len:zb32.length = 32:=rfl
theorem wpSeq_allocD {ops:Array Oper} {Q:Exit → Act → World → Prop} {rest:List Oper} {o:Oper} {a:Act} {w:World} (ho:o.op = .alloc 39) (hw:Region.wanted o (yielded ops a.tmps) = true)
    (h:∀ g w',NewB zb32 w g w' → wpList Tryz.prog ops Q rest (a.put o.dst (.pointer (some ⟨g,0,none⟩))) w'):wpList Tryz.prog ops Q (o :: rest) a w:=
  wpSeq_val _ _ hw (allocDigest _ _ ho _) (h _ _ (NewB.of zb32 w))
theorem boxDigest (f:Operand → Value) (o:Oper) (x:Operand) (ho:o.op = .box 39 x) (l:List (BitVec 8)) (hx:f x = .agg (cb l).toArray) (w:World):(execOp f o).run Tryz.prog w = .ok (.value (.pointer (some ⟨w.heap.size,0,none⟩))) (w.alloc (.cells (cb l).toArray 39)):=by
  unfold execOp
  rw [ho]
  simp only [hx]
  rfl
theorem wpSeq_boxD {ops:Array Oper} {Q:Exit → Act → World → Prop} {rest:List Oper} {o:Oper} {a:Act} {w:World} (x:Operand) (l:List (BitVec 8)) (ho:o.op = .box 39 x) (hx:a.eval x = .agg (cb l).toArray) (hw:Region.wanted o (yielded ops a.tmps) = true)
    (h:∀ g w',NewB l w g w' → wpList Tryz.prog ops Q rest (a.put o.dst (.pointer (some ⟨g,0,none⟩))) w'):wpList Tryz.prog ops Q (o :: rest) a w:=
  wpSeq_val _ _ hw (boxDigest _ _ x ho l hx _) (h _ _ (NewB.of l w))
theorem loadDigest {a:Act} {o:Oper} {w:World} (x:Operand) (g:Nat) (l:List (BitVec 8)) (hl:l.length = 32) (hb:Blk w g (cb l) 39) (ho:o.op = .load 39 x) (hx:a.eval x = .pointer (some ⟨g,0,none⟩)):(execOp a.eval o).run Tryz.prog w = .ok (.value (.agg (cb l).toArray)) w:=
  load_run 39 x ho g 0 hx (cb l) _ hb.range Tryz.underlying39 rfl (by rw [cb_len,hl];exact info_digest)
theorem wpSeq_loadD {ops:Array Oper} {Q:Exit → Act → World → Prop} {rest:List Oper} {o:Oper} {a:Act} {w:World} (x:Operand) (g:Nat) (l:List (BitVec 8)) (hl:l.length = 32) (hb:Blk w g (cb l) 39) (ho:o.op = .load 39 x) (hx:a.eval x = .pointer (some ⟨g,0,none⟩)) (hw:Region.wanted o (yielded ops a.tmps) = true)
    (h:wpList Tryz.prog ops Q rest (a.put o.dst (.agg (cb l).toArray)) w):wpList Tryz.prog ops Q (o :: rest) a w:=
  wpSeq_val _ _ hw (loadDigest x g l hl hb ho hx) h
structure SetB (x:List (BitVec 8)) (w:World) (g:Nat) (w':World):Prop where
  blk:Blk w' g (cb x) 39
  only:Only g w w'
theorem SetB.of (l x:List (BitVec 8)) (hl:l.length = 32) (hx:x.length = 32) {w:World} {g:Nat} (hb:Blk w g (cb l) 39):SetB x w g (w.setCells g 0 (cb x)):=
  ⟨hb.whole (cb x) (by rw [cb_len,cb_len];omega),Only.setCells _ _ _ (Only.refl g w)⟩
theorem wpSeq_storeD {ops:Array Oper} {Q:Exit → Act → World → Prop} {rest:List Oper} {o:Oper} {a:Act} {w:World} (x y:Operand) (g:Nat) (l n:List (BitVec 8)) (hl:l.length = 32) (hn:n.length = 32) (hb:Blk w g (cb l) 39) (ho:o.op = .store 39 x y) (hx:a.eval x = .pointer (some ⟨g,0,none⟩)) (hy:a.eval y = .agg (cb n).toArray) (hgd:o.guard = none)
    (h:∀ w',SetB n w g w' → wpList Tryz.prog ops Q rest (a.put o.dst undef) w'):wpList Tryz.prog ops Q (o :: rest) a w:=
  wpList_store_mid hgd 39 x y ho g 0 _ hx hy (hb.there 0 _ (by rw [List.size_toArray,cb_len,cb_len];omega)) (by rw [List.size_toArray,cb_len,hn];exact info_digest) (all_oneCell_toArray (cb_one n))
    (by rw [List.toList_toArray];exact h _ (SetB.of l n hl hn hb))
theorem indexDig (k g:Nat) (hk:k < 32) (f:Operand → Value) (o:Oper) (x y:Operand) (ho:o.op = .indexAddr 39 x y) (h1:f x = .pointer (some ⟨g,0,none⟩)) (h2:f y = .int .i64 (k:Int)) (w:World) :
    (execOp f o).run Tryz.prog w = .ok (.value (.pointer (some ⟨g,k,none⟩))) w:=by
  have k0:(0:Int) ≤ (k:Int):=by omega
  have k1:(k:Int) < 32:=by omega
  unfold execOp
  rw [ho]
  simp [go_sem,h1,h2,k0,k1]
theorem Over.blk {w0 wx:World} {g:Nat} {cs:List Value} {t:TypeId} (h:Over w0 wx) (hb:Blk w0 g cs t):Blk wx g cs t:=hb.below h hb.lt
theorem wpAny_storeB {md:Region.Mode} {ops:Array Oper} {Q:Exit → Act → World → Prop} {fuel:Nat} {listed:Array Bool} {a:Act} {w:World} (i:Nat) {oi:Oper} (x y:Operand) (g k:Nat) (l:List (BitVec 8)) (b:BitVec 8)
    (hr:Region.ready md ops listed = [i]) (hi:ops[i]? = some oi) (hw:Region.wanted oi (yielded ops a.tmps) = true) (ho:oi.op = .store 5 x y) (hx:a.eval x = .pointer (some ⟨g,k,none⟩)) (hy:a.eval y = .int .u8 (b.toNat:Int)) (hk:k < l.length) (hb:Blk w g (cb l) 39)
    (h:∀ w',SetB (l.set k b) w g w' → wpAny Tryz.prog md ops Q fuel (listed.setIfInBounds i true) (a.put oi.dst undef) w'):wpAny Tryz.prog md ops Q (fuel + 1) listed a w:=by
  have hc:w.cell? ⟨g,k,none⟩ = some (.int .u8 ((l.getD k 0).toNat:Int)):=by rw [hb.cell,cb_get l k hk]
  have hf:w.frozen? ⟨g,k,none⟩ = false:=hb.frozen k
  refine wpAny_all hr (by simp) (fun j hj => ?_)
  obtain rfl:j = i:=by simpa using hj
  unfold wpOp
  rw [hi]
  simp only [hw,if_true]
  left
  have he:(execOp a.eval oi).run Tryz.prog w = .ok .skip (w.setCell ⟨g,k,none⟩ (.int .u8 (b.toNat:Int))):=by
    clear h hw hi
    generalize a.eval = f at hx hy ⊢
    unfold execOp
    rw [ho]
    simp [go_sem,hx,hy,hc,hf]
  unfold Oper.wp
  rw [he]
  refine h _ ⟨?_,Only.setCell (Only.refl g w) k _⟩
  have:=hb.set k (.int .u8 (b.toNat:Int))
  rwa [cb_set] at this
theorem SetB.byte {l:List (BitVec 8)} {w:World} {g k:Nat} {b:BitVec 8} (hb:Blk w g (cb l) 39):SetB (l.set k b) w g (w.setCell ⟨g,k,none⟩ (.int .u8 (b.toNat:Int))):=by
  refine ⟨?_,Only.setCell (Only.refl g w) k _⟩
  have:=hb.set k (.int .u8 (b.toNat:Int))
  rwa [cb_set] at this
end Go.Proofs.YtphmmnffgknkcaaGreatDoor
namespace Go.Proofs.YtphmmnffgknkcaaGreatDoor
open Go.RowKit
set_option maxRecDepth 100000
theorem isBit_any (i:Int) (w:World):Calls Tryz.prog 89 #[.int .i64 i] w fun e w' => e = .returned (.bool (isB i)) ∧ w' = w:=by
  go_enter Tryz.func89,Tryz.ntmps89
  go_wp2
  · rename_i h
    go_ret
    exact ⟨by simp [isB,h],rfl⟩
  · rename_i h
    go_ret
    exact ⟨by simp [isB];omega,rfl⟩
theorem mask_nat:∀ k:Fin 8,((128#8 >>> k.val).toNat:Int) = 128 / 2 ^ k.val:=by decide +kernel
theorem bitOf_any (n:Nat) (w:World):Calls Tryz.prog 90 #[.int .i64 (n:Int)] w fun e w' => e = .returned (.int .u8 ((mask n).toNat:Int)) ∧ w' = w:=by
  have e1:Int.tmod (n:Int) 8 = ((n % 8:Nat):Int):=by rw [Int.tmod_eq_emod_of_nonneg (by omega)];omega
  have e2:=mask_nat ⟨n % 8,by omega⟩
  simp only at e2
  go_enter Tryz.func90,Tryz.ntmps90
  go_wp2
  go_ret
  exact ⟨by rw [mask,e2];rfl,rfl⟩
theorem ofInt_toNat8 (x:BitVec 8):BitVec.ofInt 8 (x.toNat:Int) = x:=by apply BitVec.eq_of_toNat_eq;simp
theorem wrap_lt8 (x:BitVec 8):IntKind.u8.wrap (x.toNat:Int) = (x.toNat:Int):=by
  have:=x.isLt
  simp [IntKind.wrap,IntKind.bits,IntKind.signed];omega
theorem u8_and (x y:BitVec 8):bits .and .u8 (x.toNat:Int) (y.toNat:Int) = ((x &&& y).toNat:Int):=by
  show IntKind.u8.wrap ((BitVec.ofInt 8 (x.toNat:Int) &&& BitVec.ofInt 8 (y.toNat:Int)).toNat:Int) = _
  rw [ofInt_toNat8,ofInt_toNat8,wrap_lt8]
theorem u8_or (x y:BitVec 8):bits .or .u8 (x.toNat:Int) (y.toNat:Int) = ((x ||| y).toNat:Int):=by
  show IntKind.u8.wrap ((BitVec.ofInt 8 (x.toNat:Int) ||| BitVec.ofInt 8 (y.toNat:Int)).toNat:Int) = _
  rw [ofInt_toNat8,ofInt_toNat8,wrap_lt8]
theorem u8_andNot (x y:BitVec 8):bits .andNot .u8 (x.toNat:Int) (y.toNat:Int) = ((x &&& ~~~y).toNat:Int):=by
  show IntKind.u8.wrap ((BitVec.ofInt 8 (x.toNat:Int) &&& ~~~(BitVec.ofInt 8 (y.toNat:Int))).toNat:Int) = _
  rw [ofInt_toNat8,ofInt_toNat8,wrap_lt8]
set_option maxHeartbeats 1000000 in
theorem pBit_any (x:List (BitVec 8)) (hx:x.length = 32) (i:Int) (w:World):Calls Tryz.prog 62 #[.agg (cb x).toArray,.int .i64 i] w fun e w' => e = .returned (.bool (bitI x i)) ∧ Below w.heap.size w w':=by
  by_cases hb:isB i = true
  · obtain ⟨h0,h1⟩:=(isB_iff i).1 hb
    obtain ⟨n,rfl⟩:∃ n:Nat,i = (n:Int):=⟨i.toNat,by omega⟩
    obtain ⟨k,hk⟩:∃ k,k = n / 8:=⟨_,rfl⟩
    have e1:Int.tdiv (n:Int) 8 = (k:Int):=by rw [Int.tdiv_eq_ediv_of_nonneg (by omega)];omega
    have e2:IntKind.i64.wrap (k:Int) = (k:Int):=by simp [IntKind.wrap,IntKind.bits,IntKind.signed];omega
    have k0:(0:Int) ≤ (k:Int):=by omega
    have k1:(k:Int) < 32:=by omega
    obtain ⟨b,hbb⟩:∃ b,b = x.getD k 0:=⟨_,rfl⟩
    have hc:(w.alloc (.cells (cb x).toArray 39)).cell? ⟨w.heap.size,k,none⟩ = some (.int .u8 (b.toNat:Int)):=by
      rw [(Blk.new w (cb x) 39).cell,cb_get x k (by omega),hbb]
    have hand:=u8_and b (mask n)
    have hz:Hid (((((b.toNat &&& (mask n).toNat:Nat):Int)) != 0) = bt x n):=by
      have h:=mask_and b ⟨n % 8,by omega⟩
      have hm:mask n = 128#8 >>> (n % 8):=rfl
      simp only [← hm] at h
      have e:bt x n = b.getMsbD (n % 8):=by rw [hbb,hk];rfl
      show _ = _
      rw [e,← BitVec.toNat_and]
      cases hg:b.getMsbD (n % 8)
      · rw [hg] at h
        have h2:=of_decide_eq_true (h.trans rfl)
        rw [h2];rfl
      · rw [hg] at h
        have h2:=of_decide_eq_false (h.trans rfl)
        rw [bne_iff_ne]
        intro h3
        exact h2 (BitVec.eq_of_toNat_eq (by simpa using h3))
    clear h0 h1 hk hbb
    have HB:Hid (isB (n:Int) = true):=hb
    clear hb
    go_enter Tryz.func62,Tryz.ntmps62
    go_wp2_with fail
    go_region_held3 (fun wx => wx.cell? ⟨w.heap.size,k,none⟩ = some (.int .u8 (b.toNat:Int))) (go_keep)
      (first | (go_at_call 89;refine (isBit_any _ _).mono ?_;rintro e w' ⟨rfl,rfl⟩;rw [HB.out]) | (go_at_call 90;refine (bitOf_any _ _).mono ?_;rintro e w' ⟨rfl,rfl⟩))
    go_wp2
    go_ret
    refine ⟨?_,?_⟩
    · rw [bitI,HB.out,Bool.true_and,Int.toNat_natCast,← hz.out];rfl
    · exact (below_alloc w _).drew
  · have hb':isB i = false:=by simpa using hb
    clear hb
    have HB:Hid (isB i = false):=hb'
    clear hb'
    go_enter Tryz.func62,Tryz.ntmps62
    go_wp2_with fail
    refine wp_region_any (by kernel_rfl) ?_
    change wpAny _ _ _ _ _ _ _ (World.drew _)
    refine wpAny_take (i:=0) (v:=.int .i64 i) rfl (by kernel_rfl) (by kernel_rfl) (by kernel_rfl) (fun _ _ _ h => h) (Or.inl ⟨by rfl,fun wx => by simp [go_sem]⟩) ?_
    simp only [Act.put,List.getElem_toArray,List.getElem_cons_zero,List.setIfInBounds_toArray,List.set_cons_zero,List.set_cons_succ]
    refine wpAny_enter 1 (by kernel_rfl) rfl (by rfl) (f:=89) (args:=#[.int .i64 i]) (by simp [go_sem]) (isBit_any _ _) ?_
    rintro e w1 ⟨rfl,rfl⟩
    refine ⟨_,rfl,?_⟩
    rw [HB.out]
    simp only [Act.put,List.getElem_toArray,List.getElem_cons_succ,List.getElem_cons_zero,List.setIfInBounds_toArray,List.set_cons_zero,List.set_cons_succ]
    refine wpAny_take (i:=2) (v:=.bool false) rfl (by kernel_rfl) (by kernel_rfl) (by kernel_rfl) (fun _ _ _ h => h) (Or.inl ⟨by rfl,fun wx => by simp [go_sem]⟩) ?_
    simp only [Act.put,List.getElem_toArray,List.getElem_cons_succ,List.getElem_cons_zero,List.setIfInBounds_toArray,List.set_cons_zero,List.set_cons_succ]
    refine wpAny_take (i:=3) (v:=undef) rfl (by kernel_rfl) (by kernel_rfl) (by kernel_rfl) (fun _ _ _ h => h) (Or.inr ⟨by rfl,rfl⟩) ?_
    simp only [Act.put,List.getElem_toArray,List.getElem_cons_succ,List.getElem_cons_zero,List.setIfInBounds_toArray,List.set_cons_zero,List.set_cons_succ]
    refine wpAny_take (i:=4) (v:=undef) rfl (by kernel_rfl) (by kernel_rfl) (by kernel_rfl) (fun _ _ _ h => h) (Or.inr ⟨by rfl,rfl⟩) ?_
    simp only [Act.put,List.getElem_toArray,List.getElem_cons_succ,List.getElem_cons_zero,List.setIfInBounds_toArray,List.set_cons_zero,List.set_cons_succ]
    refine wpAny_take (i:=5) (v:=undef) rfl (by kernel_rfl) (by kernel_rfl) (by kernel_rfl) (fun _ _ _ h => h) (Or.inr ⟨by rfl,rfl⟩) ?_
    simp only [Act.put,List.getElem_toArray,List.getElem_cons_succ,List.getElem_cons_zero,List.setIfInBounds_toArray,List.set_cons_zero,List.set_cons_succ]
    refine wpAny_take (i:=6) (v:=undef) rfl (by kernel_rfl) (by kernel_rfl) (by kernel_rfl) (fun _ _ _ h => h) (Or.inr ⟨by rfl,rfl⟩) ?_
    simp only [Act.put,List.getElem_toArray,List.getElem_cons_succ,List.getElem_cons_zero,List.setIfInBounds_toArray,List.set_cons_zero,List.set_cons_succ]
    refine wpAny_take (i:=7) (v:=undef) rfl (by kernel_rfl) (by kernel_rfl) (by kernel_rfl) (fun _ _ _ h => h) (Or.inr ⟨by rfl,rfl⟩) ?_
    simp only [Act.put,List.getElem_toArray,List.getElem_cons_succ,List.getElem_cons_zero,List.setIfInBounds_toArray,List.set_cons_zero,List.set_cons_succ]
    refine wpAny_take (i:=8) (v:=undef) rfl (by kernel_rfl) (by kernel_rfl) (by kernel_rfl) (fun _ _ _ h => h) (Or.inr ⟨by rfl,rfl⟩) ?_
    simp only [Act.put,List.getElem_toArray,List.getElem_cons_succ,List.getElem_cons_zero,List.setIfInBounds_toArray,List.set_cons_zero,List.set_cons_succ]
    refine wpAny_take (i:=9) (v:=undef) rfl (by kernel_rfl) (by kernel_rfl) (by kernel_rfl) (fun _ _ _ h => h) (Or.inr ⟨by rfl,rfl⟩) ?_
    simp only [Act.put,List.getElem_toArray,List.getElem_cons_succ,List.getElem_cons_zero,List.setIfInBounds_toArray,List.set_cons_zero,List.set_cons_succ]
    refine wpAny_take (i:=10) (v:=undef) rfl (by kernel_rfl) (by kernel_rfl) (by kernel_rfl) (fun _ _ _ h => h) (Or.inr ⟨by rfl,rfl⟩) ?_
    simp only [Act.put,List.getElem_toArray,List.getElem_cons_succ,List.getElem_cons_zero,List.setIfInBounds_toArray,List.set_cons_zero,List.set_cons_succ]
    refine wpAny_take (i:=11) (v:=.bool false) rfl (by kernel_rfl) (by kernel_rfl) (by kernel_rfl) (fun _ _ _ h => h) (Or.inl ⟨by rfl,fun wx => by simp [go_sem]⟩) ?_
    simp only [Act.put,List.getElem_toArray,List.getElem_cons_succ,List.getElem_cons_zero,List.setIfInBounds_toArray,List.set_cons_zero,List.set_cons_succ]
    refine wpAny_take (i:=12) (v:=.bool false) rfl (by kernel_rfl) (by kernel_rfl) (by kernel_rfl) (fun _ _ _ h => h) (Or.inl ⟨by rfl,fun wx => by simp [go_sem]⟩) ?_
    simp only [Act.put,List.getElem_toArray,List.getElem_cons_succ,List.getElem_cons_zero,List.setIfInBounds_toArray,List.set_cons_zero,List.set_cons_succ]
    refine wpAny_done (by kernel_rfl) ?_ _
    go_wp2
    go_ret
    exact ⟨by rw [bitI,HB.out];rfl,(below_alloc w _).drew⟩
theorem binOr (f:Operand → Value) (o:Oper) (x y:Operand) (ho:o.op = .binOp .or 5 x y 5) (a b:BitVec 8) (hx:f x = .int .u8 (a.toNat:Int)) (hy:f y = .int .u8 (b.toNat:Int)) (w:World):(execOp f o).run Tryz.prog w = .ok (.value (.int .u8 ((a ||| b).toNat:Int))) w:=by
  unfold execOp
  rw [ho]
  simp only [hx,hy]
  have h:=u8_or a b
  simp [go_sem,h]
theorem binAndNot (f:Operand → Value) (o:Oper) (x y:Operand) (ho:o.op = .binOp .andNot 5 x y 5) (a b:BitVec 8) (hx:f x = .int .u8 (a.toNat:Int)) (hy:f y = .int .u8 (b.toNat:Int)) (w:World):(execOp f o).run Tryz.prog w = .ok (.value (.int .u8 ((a &&& ~~~b).toNat:Int))) w:=by
  unfold execOp
  rw [ho]
  simp only [hx,hy]
  have h:=u8_andNot a b
  simp [go_sem,h]
set_option maxHeartbeats 1000000 in
theorem pSet_any (x:List (BitVec 8)) (hx:x.length = 32) (i:Int) (on:Bool) (w:World):Calls Tryz.prog 88 #[.agg (cb x).toArray,.int .i64 i,.bool on] w fun e w' => e = .returned (.agg (cb (setI x i on)).toArray) ∧ Below w.heap.size w w':=by
  by_cases hb:isB i = true
  · obtain ⟨h0,h1⟩:=(isB_iff i).1 hb
    obtain ⟨n,rfl⟩:∃ n:Nat,i = (n:Int):=⟨i.toNat,by omega⟩
    obtain ⟨k,hk⟩:∃ k,k = n / 8:=⟨_,rfl⟩
    have e1:Int.tdiv (n:Int) 8 = (k:Int):=by rw [Int.tdiv_eq_ediv_of_nonneg (by omega)];omega
    have e2:IntKind.i64.wrap (k:Int) = (k:Int):=by simp [IntKind.wrap,IntKind.bits,IntKind.signed];omega
    have HK32:Hid (k < 32):=by show _ < _;omega
    have HKX:Hid (k < x.length):=by show _ < _;omega
    obtain ⟨b,hbb⟩:∃ b,b = x.getD k 0:=⟨_,rfl⟩
    clear h0 h1
    have HB:Hid (isB (n:Int) = true):=hb
    clear hb
    have HK:Hid (k = n / 8):=hk
    clear hk
    have HBB:Hid (b = x.getD k 0):=hbb
    clear hbb
    have HX:Hid (x.length = 32):=hx
    clear hx
    cases on
    · have HF:Hid (setI x (n:Int) false = x.set k (b &&& ~~~(mask n))):=by
        show _ = _
        rw [setI,if_pos HB.out,Int.toNat_natCast,setN,← HK.out,← HBB.out];rfl
      go_enter Tryz.func88,Tryz.ntmps88
      go_wp2_with (first
        | (with_reducible refine wpSeq_boxD (.tmp 0) x ?_ ?_ ?_ ?_
           · rfl
           · rfl
           · rfl
           intro g0 w1 n1)
        | (with_reducible refine wpSeq_allocD ?_ ?_ ?_
           · rfl
           · rfl
           intro g1 w2 n2
           have H0:Hid (Blk w2 g0 (cb x) 39):=n1.blk.below n2.below n1.blk.lt
           have H1:Hid (Blk w2 g1 (cb zb32) 39):=n2.blk
           have HG:Hid (w.heap.size ≤ g0 ∧ g0 < g1 ∧ w.heap.size ≤ w2.heap.size):=⟨n1.ge,Nat.lt_of_lt_of_le n1.blk.lt n2.ge,Nat.le_trans n1.below.size n2.below.size⟩
           have HBW:Hid (Below w.heap.size w w2):=n1.below.trans (n2.below.mono n1.below.size)
           clear n1 n2)
        | (go_at_call 89;refine (isBit_any _ _).mono ?_;rintro e wz ⟨rfl,hz⟩;rw [hz,HB.out];clear hz wz))
      have hcell:w2.drew.cell? ⟨g0,k,none⟩ = some (.int .u8 (b.toNat:Int)):=by rw [H0.out.drew.cell,cb_get x k HKX.out,HBB.out]
      refine wp_region_any (by kernel_rfl) ?_
      change wpAny _ _ _ _ _ _ _ (World.drew _)
      refine wpAny_take (i:=0) (v:=.int .i64 (n:Int)) rfl (by kernel_rfl) (by kernel_rfl) (by kernel_rfl) (fun _ _ _ h => h) (Or.inl ⟨by rfl,fun wx => by simp [go_sem]⟩) ?_
      simp only [Act.put,List.getElem_toArray,List.getElem_cons_zero,List.setIfInBounds_toArray,List.set_cons_zero,List.set_cons_succ]
      refine wpAny_take (i:=1) (v:=.int .i64 (k:Int)) rfl (by kernel_rfl) (by kernel_rfl) (by kernel_rfl) (fun _ _ _ h => h) (Or.inl ⟨by rfl,fun wx => by simp [go_sem,e1,e2]⟩) ?_
      simp only [Act.put,List.getElem_toArray,List.getElem_cons_succ,List.getElem_cons_zero,List.setIfInBounds_toArray,List.set_cons_zero,List.set_cons_succ]
      refine wpAny_take (i:=2) (v:=.pointer (some ⟨g0,k,none⟩)) rfl (by kernel_rfl) (by kernel_rfl) (by kernel_rfl) (fun _ _ _ h => h) (Or.inl ⟨by rfl,fun wx => by exact indexDig k g0 HK32.out _ _ _ _ rfl rfl rfl wx⟩) ?_
      simp only [Act.put,List.getElem_toArray,List.getElem_cons_succ,List.getElem_cons_zero,List.setIfInBounds_toArray,List.set_cons_zero,List.set_cons_succ]
      refine wpAny_take (i:=4) (v:=.int .i64 (n:Int)) rfl (by kernel_rfl) (by kernel_rfl) (by kernel_rfl) (fun _ _ _ h => h) (Or.inl ⟨by rfl,fun wx => by simp [go_sem]⟩) ?_
      simp only [Act.put,List.getElem_toArray,List.getElem_cons_succ,List.getElem_cons_zero,List.setIfInBounds_toArray,List.set_cons_zero,List.set_cons_succ]
      refine wpAny_pair 3 5 (by kernel_rfl) (wpOp_vl 3 (.int .u8 (b.toNat:Int)) w2.drew rfl (by rfl) (by simp [go_sem,hcell]) ?_) (wpOp_en 5 rfl (by rfl) (f:=90) (args:=#[.int .i64 (n:Int)]) (by simp [go_sem]) (bitOf_any _ _) ?_)
      · skip
        simp only [Act.put,List.getElem_toArray,List.getElem_cons_succ,List.getElem_cons_zero,List.setIfInBounds_toArray,List.set_cons_zero,List.set_cons_succ]
        refine wpAny_enter 5 (by kernel_rfl) rfl (by rfl) (f:=90) (args:=#[.int .i64 (n:Int)]) (by simp [go_sem]) (bitOf_any _ _) ?_
        rintro e wz ⟨rfl,hz⟩
        rw [hz];clear hz wz
        refine ⟨_,rfl,?_⟩
        simp only [Act.put,List.getElem_toArray,List.getElem_cons_succ,List.getElem_cons_zero,List.setIfInBounds_toArray,List.set_cons_zero,List.set_cons_succ]
        refine wpAny_take (i:=6) (v:=.int .u8 ((b &&& ~~~(mask n)).toNat:Int)) rfl (by kernel_rfl) (by kernel_rfl) (by kernel_rfl) (fun _ _ _ h => h) (Or.inl ⟨by rfl,fun wx => by exact binAndNot _ _ _ _ rfl b (mask n) rfl rfl wx⟩) ?_
        simp only [Act.put,List.getElem_toArray,List.getElem_cons_succ,List.getElem_cons_zero,List.setIfInBounds_toArray,List.set_cons_zero,List.set_cons_succ]
        refine wpAny_take (i:=7) (v:=.pointer (some ⟨g0,k,none⟩)) rfl (by kernel_rfl) (by kernel_rfl) (by kernel_rfl) (fun _ _ _ h => h) (Or.inl ⟨by rfl,fun wx => by exact indexDig k g0 HK32.out _ _ _ _ rfl rfl rfl wx⟩) ?_
        simp only [Act.put,List.getElem_toArray,List.getElem_cons_succ,List.getElem_cons_zero,List.setIfInBounds_toArray,List.set_cons_zero,List.set_cons_succ]
        refine wpAny_storeB 8 _ _ g0 k x (b &&& ~~~(mask n)) (by kernel_rfl) rfl (by rfl) rfl rfl rfl HKX.out H0.out.drew ?_
        intro w3 h3
        simp only [Act.put,List.getElem_toArray,List.getElem_cons_succ,List.getElem_cons_zero]
        refine wpAny_done (by kernel_rfl) ?_ _
        have HL:Hid ((x.set k (b &&& ~~~(mask n))).length = 32):=by show _ = _;rw [List.length_set];exact HX.out
        have HG1:Hid (Blk w3 g1 (cb zb32) 39):=H1.out.drew.only h3.only (by have:=HG.out;omega)
        have HB3:Hid (Below w.heap.size w w3):=HBW.out.drew.trans (h3.only.below HG.out.1 HG.out.2.2)
        have HS3:Hid (w.heap.size ≤ w3.heap.size):=Nat.le_trans HG.out.2.2 h3.only.size
        have H3:Hid (Blk w3 g0 (cb (x.set k (b &&& ~~~(mask n)))) 39):=h3.blk
        clear h3
        obtain ⟨y,HY⟩:∃ y,Hid (y = x.set k (b &&& ~~~(mask n))):=⟨_,rfl⟩
        rw [← HY.out] at HL H3
        go_wp2_with (first
          | (with_reducible refine wpSeq_loadD (.tmp 3) g0 y ?_ ?_ ?_ ?_ ?_ ?_
             · exact HL.out
             · exact H3.out
             · rfl
             · rfl
             · rfl)
          | (with_reducible refine wpSeq_storeD (.tmp 6) (.tmp 28) g1 zb32 y ?_ ?_ ?_ ?_ ?_ ?_ ?_ ?_
             · rfl
             · exact HL.out
             · exact HG1.out
             · rfl
             · rfl
             · rfl
             · rfl
             intro w4 h4))
        exact bodyPost_ret (v:=.agg (cb y).toArray) (results_cell_row (by rfl) _ _ g1 39 _ (0,0) _ rfl h4.blk Tryz.underlying39 rfl (by rw [List.size_toArray,cb_len,HL.out];exact info_digest)) rfl ⟨by rw [HF.out,HY.out],HB3.out.trans (h4.only.below (by have:=HG.out;omega) HS3.out)⟩
      · skip
        rintro e wz ⟨rfl,hz⟩
        rw [hz];clear hz wz
        refine ⟨_,rfl,?_⟩
        simp only [Act.put,List.getElem_toArray,List.getElem_cons_succ,List.getElem_cons_zero,List.setIfInBounds_toArray,List.set_cons_zero,List.set_cons_succ]
        refine wpAny_step 3 (.int .u8 (b.toNat:Int)) w2.drew (by kernel_rfl) rfl (by rfl) (by simp [go_sem,hcell]) ?_
        simp only [Act.put,List.getElem_toArray,List.getElem_cons_succ,List.getElem_cons_zero,List.setIfInBounds_toArray,List.set_cons_zero,List.set_cons_succ]
        refine wpAny_take (i:=6) (v:=.int .u8 ((b &&& ~~~(mask n)).toNat:Int)) rfl (by kernel_rfl) (by kernel_rfl) (by kernel_rfl) (fun _ _ _ h => h) (Or.inl ⟨by rfl,fun wx => by exact binAndNot _ _ _ _ rfl b (mask n) rfl rfl wx⟩) ?_
        simp only [Act.put,List.getElem_toArray,List.getElem_cons_succ,List.getElem_cons_zero,List.setIfInBounds_toArray,List.set_cons_zero,List.set_cons_succ]
        refine wpAny_take (i:=7) (v:=.pointer (some ⟨g0,k,none⟩)) rfl (by kernel_rfl) (by kernel_rfl) (by kernel_rfl) (fun _ _ _ h => h) (Or.inl ⟨by rfl,fun wx => by exact indexDig k g0 HK32.out _ _ _ _ rfl rfl rfl wx⟩) ?_
        simp only [Act.put,List.getElem_toArray,List.getElem_cons_succ,List.getElem_cons_zero,List.setIfInBounds_toArray,List.set_cons_zero,List.set_cons_succ]
        refine wpAny_storeB 8 _ _ g0 k x (b &&& ~~~(mask n)) (by kernel_rfl) rfl (by rfl) rfl rfl rfl HKX.out H0.out.drew ?_
        intro w3 h3
        simp only [Act.put,List.getElem_toArray,List.getElem_cons_succ,List.getElem_cons_zero]
        refine wpAny_done (by kernel_rfl) ?_ _
        have HL:Hid ((x.set k (b &&& ~~~(mask n))).length = 32):=by show _ = _;rw [List.length_set];exact HX.out
        have HG1:Hid (Blk w3 g1 (cb zb32) 39):=H1.out.drew.only h3.only (by have:=HG.out;omega)
        have HB3:Hid (Below w.heap.size w w3):=HBW.out.drew.trans (h3.only.below HG.out.1 HG.out.2.2)
        have HS3:Hid (w.heap.size ≤ w3.heap.size):=Nat.le_trans HG.out.2.2 h3.only.size
        have H3:Hid (Blk w3 g0 (cb (x.set k (b &&& ~~~(mask n)))) 39):=h3.blk
        clear h3
        obtain ⟨y,HY⟩:∃ y,Hid (y = x.set k (b &&& ~~~(mask n))):=⟨_,rfl⟩
        rw [← HY.out] at HL H3
        go_wp2_with (first
          | (with_reducible refine wpSeq_loadD (.tmp 3) g0 y ?_ ?_ ?_ ?_ ?_ ?_
             · exact HL.out
             · exact H3.out
             · rfl
             · rfl
             · rfl)
          | (with_reducible refine wpSeq_storeD (.tmp 6) (.tmp 28) g1 zb32 y ?_ ?_ ?_ ?_ ?_ ?_ ?_ ?_
             · rfl
             · exact HL.out
             · exact HG1.out
             · rfl
             · rfl
             · rfl
             · rfl
             intro w4 h4))
        exact bodyPost_ret (v:=.agg (cb y).toArray) (results_cell_row (by rfl) _ _ g1 39 _ (0,0) _ rfl h4.blk Tryz.underlying39 rfl (by rw [List.size_toArray,cb_len,HL.out];exact info_digest)) rfl ⟨by rw [HF.out,HY.out],HB3.out.trans (h4.only.below (by have:=HG.out;omega) HS3.out)⟩
    · have HF:Hid (setI x (n:Int) true = x.set k (b ||| mask n)):=by
        show _ = _
        rw [setI,if_pos HB.out,Int.toNat_natCast,setN,← HK.out,← HBB.out];rfl
      go_enter Tryz.func88,Tryz.ntmps88
      go_wp2_with (first
        | (with_reducible refine wpSeq_boxD (.tmp 0) x ?_ ?_ ?_ ?_
           · rfl
           · rfl
           · rfl
           intro g0 w1 n1)
        | (with_reducible refine wpSeq_allocD ?_ ?_ ?_
           · rfl
           · rfl
           intro g1 w2 n2
           have H0:Hid (Blk w2 g0 (cb x) 39):=n1.blk.below n2.below n1.blk.lt
           have H1:Hid (Blk w2 g1 (cb zb32) 39):=n2.blk
           have HG:Hid (w.heap.size ≤ g0 ∧ g0 < g1 ∧ w.heap.size ≤ w2.heap.size):=⟨n1.ge,Nat.lt_of_lt_of_le n1.blk.lt n2.ge,Nat.le_trans n1.below.size n2.below.size⟩
           have HBW:Hid (Below w.heap.size w w2):=n1.below.trans (n2.below.mono n1.below.size)
           clear n1 n2)
        | (go_at_call 89;refine (isBit_any _ _).mono ?_;rintro e wz ⟨rfl,hz⟩;rw [hz,HB.out];clear hz wz))
      have hcell:w2.drew.cell? ⟨g0,k,none⟩ = some (.int .u8 (b.toNat:Int)):=by rw [H0.out.drew.cell,cb_get x k HKX.out,HBB.out]
      refine wp_region_any (by kernel_rfl) ?_
      change wpAny _ _ _ _ _ _ _ (World.drew _)
      refine wpAny_take (i:=0) (v:=.int .i64 (n:Int)) rfl (by kernel_rfl) (by kernel_rfl) (by kernel_rfl) (fun _ _ _ h => h) (Or.inl ⟨by rfl,fun wx => by simp [go_sem]⟩) ?_
      simp only [Act.put,List.getElem_toArray,List.getElem_cons_zero,List.setIfInBounds_toArray,List.set_cons_zero,List.set_cons_succ]
      refine wpAny_take (i:=1) (v:=.int .i64 (k:Int)) rfl (by kernel_rfl) (by kernel_rfl) (by kernel_rfl) (fun _ _ _ h => h) (Or.inl ⟨by rfl,fun wx => by simp [go_sem,e1,e2]⟩) ?_
      simp only [Act.put,List.getElem_toArray,List.getElem_cons_succ,List.getElem_cons_zero,List.setIfInBounds_toArray,List.set_cons_zero,List.set_cons_succ]
      refine wpAny_take (i:=2) (v:=.pointer (some ⟨g0,k,none⟩)) rfl (by kernel_rfl) (by kernel_rfl) (by kernel_rfl) (fun _ _ _ h => h) (Or.inl ⟨by rfl,fun wx => by exact indexDig k g0 HK32.out _ _ _ _ rfl rfl rfl wx⟩) ?_
      simp only [Act.put,List.getElem_toArray,List.getElem_cons_succ,List.getElem_cons_zero,List.setIfInBounds_toArray,List.set_cons_zero,List.set_cons_succ]
      refine wpAny_take (i:=4) (v:=.int .i64 (n:Int)) rfl (by kernel_rfl) (by kernel_rfl) (by kernel_rfl) (fun _ _ _ h => h) (Or.inl ⟨by rfl,fun wx => by simp [go_sem]⟩) ?_
      simp only [Act.put,List.getElem_toArray,List.getElem_cons_succ,List.getElem_cons_zero,List.setIfInBounds_toArray,List.set_cons_zero,List.set_cons_succ]
      refine wpAny_pair 3 5 (by kernel_rfl) (wpOp_vl 3 (.int .u8 (b.toNat:Int)) w2.drew rfl (by rfl) (by simp [go_sem,hcell]) ?_) (wpOp_en 5 rfl (by rfl) (f:=90) (args:=#[.int .i64 (n:Int)]) (by simp [go_sem]) (bitOf_any _ _) ?_)
      · skip
        simp only [Act.put,List.getElem_toArray,List.getElem_cons_succ,List.getElem_cons_zero,List.setIfInBounds_toArray,List.set_cons_zero,List.set_cons_succ]
        refine wpAny_enter 5 (by kernel_rfl) rfl (by rfl) (f:=90) (args:=#[.int .i64 (n:Int)]) (by simp [go_sem]) (bitOf_any _ _) ?_
        rintro e wz ⟨rfl,hz⟩
        rw [hz];clear hz wz
        refine ⟨_,rfl,?_⟩
        simp only [Act.put,List.getElem_toArray,List.getElem_cons_succ,List.getElem_cons_zero,List.setIfInBounds_toArray,List.set_cons_zero,List.set_cons_succ]
        refine wpAny_take (i:=6) (v:=.int .u8 ((b ||| mask n).toNat:Int)) rfl (by kernel_rfl) (by kernel_rfl) (by kernel_rfl) (fun _ _ _ h => h) (Or.inl ⟨by rfl,fun wx => by exact binOr _ _ _ _ rfl b (mask n) rfl rfl wx⟩) ?_
        simp only [Act.put,List.getElem_toArray,List.getElem_cons_succ,List.getElem_cons_zero,List.setIfInBounds_toArray,List.set_cons_zero,List.set_cons_succ]
        refine wpAny_take (i:=7) (v:=.pointer (some ⟨g0,k,none⟩)) rfl (by kernel_rfl) (by kernel_rfl) (by kernel_rfl) (fun _ _ _ h => h) (Or.inl ⟨by rfl,fun wx => by exact indexDig k g0 HK32.out _ _ _ _ rfl rfl rfl wx⟩) ?_
        simp only [Act.put,List.getElem_toArray,List.getElem_cons_succ,List.getElem_cons_zero,List.setIfInBounds_toArray,List.set_cons_zero,List.set_cons_succ]
        refine wpAny_storeB 8 _ _ g0 k x (b ||| mask n) (by kernel_rfl) rfl (by rfl) rfl rfl rfl HKX.out H0.out.drew ?_
        intro w3 h3
        simp only [Act.put,List.getElem_toArray,List.getElem_cons_succ,List.getElem_cons_zero]
        refine wpAny_done (by kernel_rfl) ?_ _
        have HL:Hid ((x.set k (b ||| mask n)).length = 32):=by show _ = _;rw [List.length_set];exact HX.out
        have HG1:Hid (Blk w3 g1 (cb zb32) 39):=H1.out.drew.only h3.only (by have:=HG.out;omega)
        have HB3:Hid (Below w.heap.size w w3):=HBW.out.drew.trans (h3.only.below HG.out.1 HG.out.2.2)
        have HS3:Hid (w.heap.size ≤ w3.heap.size):=Nat.le_trans HG.out.2.2 h3.only.size
        have H3:Hid (Blk w3 g0 (cb (x.set k (b ||| mask n))) 39):=h3.blk
        clear h3
        obtain ⟨y,HY⟩:∃ y,Hid (y = x.set k (b ||| mask n)):=⟨_,rfl⟩
        rw [← HY.out] at HL H3
        go_wp2_with (first
          | (with_reducible refine wpSeq_loadD (.tmp 3) g0 y ?_ ?_ ?_ ?_ ?_ ?_
             · exact HL.out
             · exact H3.out
             · rfl
             · rfl
             · rfl)
          | (with_reducible refine wpSeq_storeD (.tmp 6) (.tmp 28) g1 zb32 y ?_ ?_ ?_ ?_ ?_ ?_ ?_ ?_
             · rfl
             · exact HL.out
             · exact HG1.out
             · rfl
             · rfl
             · rfl
             · rfl
             intro w4 h4))
        exact bodyPost_ret (v:=.agg (cb y).toArray) (results_cell_row (by rfl) _ _ g1 39 _ (0,0) _ rfl h4.blk Tryz.underlying39 rfl (by rw [List.size_toArray,cb_len,HL.out];exact info_digest)) rfl ⟨by rw [HF.out,HY.out],HB3.out.trans (h4.only.below (by have:=HG.out;omega) HS3.out)⟩
      · skip
        rintro e wz ⟨rfl,hz⟩
        rw [hz];clear hz wz
        refine ⟨_,rfl,?_⟩
        simp only [Act.put,List.getElem_toArray,List.getElem_cons_succ,List.getElem_cons_zero,List.setIfInBounds_toArray,List.set_cons_zero,List.set_cons_succ]
        refine wpAny_step 3 (.int .u8 (b.toNat:Int)) w2.drew (by kernel_rfl) rfl (by rfl) (by simp [go_sem,hcell]) ?_
        simp only [Act.put,List.getElem_toArray,List.getElem_cons_succ,List.getElem_cons_zero,List.setIfInBounds_toArray,List.set_cons_zero,List.set_cons_succ]
        refine wpAny_take (i:=6) (v:=.int .u8 ((b ||| mask n).toNat:Int)) rfl (by kernel_rfl) (by kernel_rfl) (by kernel_rfl) (fun _ _ _ h => h) (Or.inl ⟨by rfl,fun wx => by exact binOr _ _ _ _ rfl b (mask n) rfl rfl wx⟩) ?_
        simp only [Act.put,List.getElem_toArray,List.getElem_cons_succ,List.getElem_cons_zero,List.setIfInBounds_toArray,List.set_cons_zero,List.set_cons_succ]
        refine wpAny_take (i:=7) (v:=.pointer (some ⟨g0,k,none⟩)) rfl (by kernel_rfl) (by kernel_rfl) (by kernel_rfl) (fun _ _ _ h => h) (Or.inl ⟨by rfl,fun wx => by exact indexDig k g0 HK32.out _ _ _ _ rfl rfl rfl wx⟩) ?_
        simp only [Act.put,List.getElem_toArray,List.getElem_cons_succ,List.getElem_cons_zero,List.setIfInBounds_toArray,List.set_cons_zero,List.set_cons_succ]
        refine wpAny_storeB 8 _ _ g0 k x (b ||| mask n) (by kernel_rfl) rfl (by rfl) rfl rfl rfl HKX.out H0.out.drew ?_
        intro w3 h3
        simp only [Act.put,List.getElem_toArray,List.getElem_cons_succ,List.getElem_cons_zero]
        refine wpAny_done (by kernel_rfl) ?_ _
        have HL:Hid ((x.set k (b ||| mask n)).length = 32):=by show _ = _;rw [List.length_set];exact HX.out
        have HG1:Hid (Blk w3 g1 (cb zb32) 39):=H1.out.drew.only h3.only (by have:=HG.out;omega)
        have HB3:Hid (Below w.heap.size w w3):=HBW.out.drew.trans (h3.only.below HG.out.1 HG.out.2.2)
        have HS3:Hid (w.heap.size ≤ w3.heap.size):=Nat.le_trans HG.out.2.2 h3.only.size
        have H3:Hid (Blk w3 g0 (cb (x.set k (b ||| mask n))) 39):=h3.blk
        clear h3
        obtain ⟨y,HY⟩:∃ y,Hid (y = x.set k (b ||| mask n)):=⟨_,rfl⟩
        rw [← HY.out] at HL H3
        go_wp2_with (first
          | (with_reducible refine wpSeq_loadD (.tmp 3) g0 y ?_ ?_ ?_ ?_ ?_ ?_
             · exact HL.out
             · exact H3.out
             · rfl
             · rfl
             · rfl)
          | (with_reducible refine wpSeq_storeD (.tmp 6) (.tmp 28) g1 zb32 y ?_ ?_ ?_ ?_ ?_ ?_ ?_ ?_
             · rfl
             · exact HL.out
             · exact HG1.out
             · rfl
             · rfl
             · rfl
             · rfl
             intro w4 h4))
        exact bodyPost_ret (v:=.agg (cb y).toArray) (results_cell_row (by rfl) _ _ g1 39 _ (0,0) _ rfl h4.blk Tryz.underlying39 rfl (by rw [List.size_toArray,cb_len,HL.out];exact info_digest)) rfl ⟨by rw [HF.out,HY.out],HB3.out.trans (h4.only.below (by have:=HG.out;omega) HS3.out)⟩
  · have hb':isB i = false:=by simpa using hb
    have HB:Hid (isB i = false):=hb'
    have HF:Hid (setI x i on = x):=by show _ = _;rw [setI,if_neg (by rw [hb'];simp)]
    clear hb hb'
    have HL:Hid (x.length = 32):=hx
    clear hx
    go_enter Tryz.func88,Tryz.ntmps88
    go_wp2_with (first
      | (with_reducible refine wpSeq_boxD (.tmp 0) x ?_ ?_ ?_ ?_
         · rfl
         · rfl
         · rfl
         intro g0 w1 n1)
      | (with_reducible refine wpSeq_allocD ?_ ?_ ?_
         · rfl
         · rfl
         intro g1 w2 n2
         have H0:Hid (Blk w2 g0 (cb x) 39):=n1.blk.below n2.below n1.blk.lt
         have H1:Hid (Blk w2 g1 (cb zb32) 39):=n2.blk
         have HG:Hid (w.heap.size ≤ g0 ∧ g0 < g1 ∧ w.heap.size ≤ w2.heap.size):=⟨n1.ge,Nat.lt_of_lt_of_le n1.blk.lt n2.ge,Nat.le_trans n1.below.size n2.below.size⟩
         have HBW:Hid (Below w.heap.size w w2):=n1.below.trans (n2.below.mono n1.below.size)
         clear n1 n2)
      | (go_at_call 89;refine (isBit_any _ _).mono ?_;rintro e wz ⟨rfl,hz⟩;rw [hz,HB.out];clear hz wz)
      | (with_reducible refine wpSeq_loadD (.tmp 3) g0 x ?_ ?_ ?_ ?_ ?_ ?_
         · exact HL.out
         · exact H0.out
         · rfl
         · rfl
         · rfl)
      | (with_reducible refine wpSeq_storeD (.tmp 6) (.tmp 10) g1 zb32 x ?_ ?_ ?_ ?_ ?_ ?_ ?_ ?_
         · rfl
         · exact HL.out
         · exact H1.out
         · rfl
         · rfl
         · rfl
         · rfl
         intro w4 h4))
    exact bodyPost_ret (v:=.agg (cb x).toArray) (results_cell_row (by rfl) _ _ g1 39 _ (0,0) _ rfl h4.blk Tryz.underlying39 rfl (by rw [List.size_toArray,cb_len,HL.out];exact info_digest)) rfl ⟨by rw [HF.out],HBW.out.trans (h4.only.below (by have:=HG.out;omega) HG.out.2.2)⟩
end Go.Proofs.YtphmmnffgknkcaaGreatDoor
namespace Go.Proofs.YtphmmnffgknkcaaGreatDoor
open Go.RowKit
set_option maxRecDepth 100000
theorem wrap_small (k:Int) (h0:0 ≤ k) (h1:k < 1000000):IntKind.i64.wrap k = k:=by simp [IntKind.wrap,IntKind.bits,IntKind.signed];omega
theorem notB {i:Int} (h:isB i = false):(i < 0) ∨ (0 ≤ i ∧ 255 < i):=by
  have h2:¬ (0 ≤ i ∧ i < 256):=fun hh => by rw [(isB_iff i).2 hh] at h;cases h
  omega
set_option maxHeartbeats 1000000 in
theorem sBit_any (x:List (BitVec 8)) (hx:x.length = 32) (i:Int) (w:World):Calls Tryz.prog 45 #[.agg (cb x).toArray,.int .i64 i] w fun e w' => e = .returned (.bool (bitI x i)) ∧ Below w.heap.size w w':=by
  by_cases hb:isB i = true
  · obtain ⟨h0,h1⟩:=(isB_iff i).1 hb
    obtain ⟨n,rfl⟩:∃ n:Nat,i = (n:Int):=⟨i.toNat,by omega⟩
    obtain ⟨k,hk⟩:∃ k,k = n / 8:=⟨_,rfl⟩
    obtain ⟨m,hm⟩:∃ m,m = n % 8:=⟨_,rfl⟩
    have e1:Int.tdiv (n:Int) 8 = (k:Int):=by rw [Int.tdiv_eq_ediv_of_nonneg (by omega)];omega
    have e2:IntKind.i64.wrap (k:Int) = (k:Int):=wrap_small _ (by omega) (by omega)
    have e3:Int.tmod (n:Int) 8 = (m:Int):=by rw [Int.tmod_eq_emod_of_nonneg (by omega)];omega
    have e4:IntKind.i64.wrap (m:Int) = (m:Int):=wrap_small _ (by omega) (by omega)
    have g1:¬ ((n:Int) < 0):=by omega
    have g2:¬ ((255:Int) < (n:Int)):=by omega
    have HK32:Hid (k < 32):=by show _ < _;omega
    have HKX:Hid (k < x.length):=by show _ < _;omega
    have HM:Hid (m < 8):=by show _ < _;omega
    obtain ⟨b,hbb⟩:∃ b,b = x.getD k 0:=⟨_,rfl⟩
    have HR:Hid (bitI x (n:Int) = decide (b.toNat / 2 ^ (7 - m) % 2 = 1)):=by
      show _ = _
      rw [bitI,hb,Bool.true_and,Int.toNat_natCast,bt,← hk,← hbb,← hm]
      exact (mask_div b ⟨m,HM.out⟩).symm
    have HBB:Hid (b = x.getD k 0):=hbb
    have HBL:Hid (b.toNat < 256):=b.isLt
    clear h0 h1 hb hk hm hbb hx
    obtain ⟨o,HO⟩:∃ o,Hid (o = bitI x (n:Int)):=⟨_,rfl⟩
    rw [← HO.out]
    go_enter Tryz.func45,Tryz.ntmps45
    go_wp2_with (first
        | (with_reducible refine wpSeq_boxD (.tmp 0) x ?_ ?_ ?_ ?_
           · rfl
           · rfl
           · rfl
           intro g0 w1 n1
           have hcell:w1.cell? ⟨g0,k,none⟩ = some (.int .u8 (b.toNat:Int)):=by rw [n1.blk.cell,cb_get x k HKX.out,HBB.out]
           have HBW:Hid (Below w.heap.size w w1):=n1.below
           clear n1)
        | (with_reducible refine wpSeq_val (.pointer (some ⟨g0,k,none⟩)) w1 ?_ ?_ ?_
           · rfl
           · exact indexDig k g0 HK32.out _ _ _ _ rfl rfl rfl w1))
    go_loopw [5,6] (fun c kk wr => ∃ q C:Nat,m ≤ q ∧ q ≤ 7 ∧ kk = .int .i64 (q:Int) ∧ c = .int .i64 (C:Int) ∧ C = b.toNat / 2 ^ (7 - q) ∧ wr = w1) (fun _ kk _ => (intOf kk).toNat)
    case atStart => exact ⟨7,b.toNat,by have:=HM.out;omega,by omega,rfl,rfl,by simp,rfl⟩
    case round =>
      obtain ⟨q,C,hmq,hq7,rfl,rfl,hC,rfl⟩:=hrel
      have HC:Hid (C = b.toNat / 2 ^ (7 - q)):=hC
      have HC2:Hid (C < 256):=by show _ < _;rw [hC];exact Nat.lt_of_le_of_lt (Nat.div_le_self _ _) HBL.out
      have HQ:Hid (m ≤ q ∧ q ≤ 7):=⟨hmq,hq7⟩
      by_cases hlt:m < q
      · have i1:(m:Int) < (q:Int):=by omega
        obtain ⟨C2,hC2⟩:∃ C2,C2 = C / 2:=⟨_,rfl⟩
        obtain ⟨q2,hq2⟩:∃ q2,q = q2 + 1:=⟨q - 1,by omega⟩
        have f1:Int.tdiv (C:Int) 2 = (C2:Int):=by rw [Int.tdiv_eq_ediv_of_nonneg (by omega)];omega
        have f2:IntKind.i64.wrap (C2:Int) = (C2:Int):=wrap_small _ (by omega) (by have:=HC2.out;omega)
        have f3:(q:Int) - 1 = (q2:Int):=by omega
        have f4:IntKind.i64.wrap (q2:Int) = (q2:Int):=wrap_small _ (by omega) (by omega)
        have HN:Hid (C2 = b.toNat / 2 ^ (7 - q2)):=by
          show _ = _
          rw [hC2,hC,Nat.div_div_eq_div_mul,show 7 - q2 = (7 - q) + 1 by omega,Nat.pow_succ]
        have HQ2:Hid (q = q2 + 1):=hq2
        clear hmq hq7 hC hlt hC2 hq2 HC
        go_wp2
        go_roundw
        case rel => exact ⟨q2,C2,by have:=HQ.out;have:=HQ2.out;have:(m:Int) < (q:Int):=i1;omega,by have:=HQ.out;have:=HQ2.out;omega,rfl,rfl,HN.out,by first | trivial | rfl⟩
        case measure => have:=HQ2.out;simp [intOf];omega
      · have hqm:q = m:=by omega
        subst hqm
        have i1:¬ ((q:Int) < (q:Int)):=by omega
        obtain ⟨r,hr⟩:∃ r,r = C % 2:=⟨_,rfl⟩
        have f1:Int.tmod (C:Int) 2 = (r:Int):=by rw [Int.tmod_eq_emod_of_nonneg (by omega)];omega
        have f2:IntKind.i64.wrap (r:Int) = (r:Int):=wrap_small _ (by omega) (by omega)
        have HN:Hid (o = ((r:Int) == 1)):=by
          show _ = _
          rw [HO.out,HR.out,hr,hC,Bool.eq_iff_iff,decide_eq_true_iff,beq_iff_eq];omega
        clear hmq hq7 hC hlt hr HC HR HO
        go_wp2
        go_ret
        exact ⟨by rw [HN.out];rfl,HBW.out⟩
  · have hb':isB i = false:=by simpa using hb
    have HR:Hid (bitI x i = false):=by show _ = _;rw [bitI,hb'];rfl
    have hc:=notB hb'
    clear hb hb' hx
    rw [HR.out]
    rcases hc with h1 | ⟨h0,h1⟩
    all_goals
      go_enter Tryz.func45,Tryz.ntmps45
      go_wp2
      go_ret
      exact ⟨rfl,below_alloc w _⟩
end Go.Proofs.YtphmmnffgknkcaaGreatDoor
namespace Go.Proofs.YtphmmnffgknkcaaGreatDoor
open Go.RowKit Go.Shelf
set_option maxRecDepth 100000
attribute [local go_sem] Oper.semAt_some
theorem pBits_any (x:List (BitVec 8)) (w:World):Calls Tryz.prog 118 #[.agg (cb x).toArray] w fun e w' => ∃ g,e = .returned (.func (.func 121) #[] #[.pointer (some ⟨g,0,none⟩)]) ∧ NewB x w g w':=by
  go_enter Tryz.func118,Tryz.ntmps118
  go_wp2
  go_ret
  exact ⟨_,rfl,NewB.of x w⟩
theorem noGoto_normal {Q:Exit → Act → World → Prop} {a:Act} {w:World} (h:Q .normal a w):Exit.noGoto Q .normal a w:=h
theorem idx_dig (x:List (BitVec 8)) (hx:x.length = 32) (k:Nat) (hk:k < 32) (w:World):(Instr.index 39 (.agg (cb x).toArray) (.int .i64 (k:Int))).run Tryz.prog w = .ok (.int .u8 ((x.getD k 0).toNat:Int)) w:=by
  have hs:∀ w,(sizeOf 5).run Tryz.prog w = .ok 1 w:=fun w => by kernel_rfl
  have k0:(0:Int) ≤ (k:Int) ∧ (k:Int) < ((32:Nat):Int):=by omega
  unfold Instr.index
  simp only [asIntOf,Sem.run_bind,Sem.run_pure,Result.andThen_ok,run_underlying Tryz.underlying39]
  rw [if_pos k0]
  simp only [Sem.run_bind,hs,Result.andThen_ok,Int.toNat_natCast,Nat.mul_one]
  exact eq_part x hx k hk w
abbrev encsB (p:Nat × Bool):Array Value:=#[.int .i64 (p.1:Int),.bool p.2]
set_option maxRecDepth 100000 in
set_option maxHeartbeats 2000000 in
theorem bits_stops (n:Nat) (hn:1 ≤ n) (g:Nat) (x:List (BitVec 8)) (hx:x.length = 32) (w:World) (hb:Blk w g (cb x) 39) :
    SeqStopsK Fence.wide n Tryz.prog 121 #[.pointer (some ⟨g,0,none⟩)] encsB (fun _ _ => True) (fun xs => xs = pathBits x 256) (fun pre => ∃ k,k ≤ 256 ∧ pre = pathBits x k) 256 w:=fun l J Jx W hW hJ hJx hY h0 => by
  refine callsIn_of_wp Tryz.func121 rfl trivial ?_ rfl
  simp only [Tryz.ntmps121,List.size_toArray,List.length_cons,List.length_nil,Nat.reduceAdd,Nat.reduceSub,Array.replicate_succ,Array.replicate_zero,List.push_toArray,List.append_toArray,List.nil_append,List.cons_append]
  refine (wpIn_wide (n:=n)).2 (wp_scope_straight ?_)
  have HW:Hid (Blk W g (cb x) 39):=hb.below hW hb.lt
  have HL:Hid (x.length = 32):=hx
  have HJ:Hid (AbidesFrom W.heap.size J):=hJ
  have HJX:Hid (AbidesFrom W.heap.size Jx):=hJx
  clear hb hx hJ hJx hW
  refine wp_seq (wp_label ?_)
  show Code.wp _ _ _ _ _
  go_wp2_with (first
    | (with_reducible refine wpSeq_loadD (.tmp 1) g x ?_ ?_ ?_ ?_ ?_ ?_
       · exact HL.out
       · exact HW.out
       · rfl
       · rfl
       · rfl))
  go_loopw [7] (fun p wr => ∃ k:Nat,k ≤ 32 ∧ p = .int .i64 (k:Int) ∧ J (pathBits x (8 * k)) wr) (fun p _ => 32 - (intOf p).toNat)
  case atStart => exact ⟨0,by omega,rfl,h0⟩
  case round =>
    obtain ⟨k,hk,rfl,hJk⟩:=hrel
    have HJK:Hid (J (pathBits x (8 * k)) wr):=hJk
    clear hJk
    by_cases hlt:k < 32
    · have HKX:Hid (k < x.length):=by show _ < _;rw [HL.out];exact hlt
      obtain ⟨b,hbb⟩:∃ b,b = x.getD k 0:=⟨_,rfl⟩
      have hix:∀ wz,(Instr.index 39 (.agg (cb x).toArray) (.int .i64 (k:Int))).run Tryz.prog wz = .ok (.int .u8 (b.toNat:Int)) wz:=fun wz => by rw [hbb];exact idx_dig x HL.out k hlt wz
      have HBB:Hid (b = x.getD k 0):=hbb
      clear hbb
      have k0:(0:Int) ≤ (k:Int):=by omega
      have k1:(k:Int) < 32:=by omega
      go_wp2
      go_loopw [11] (fun p wr => ∃ j:Nat,j ≤ 8 ∧ p = .int .i64 (j:Int) ∧ J (pathBits x (8 * k + j)) wr) (fun p _ => 8 - (intOf p).toNat)
      case atStart => exact ⟨0,by omega,rfl,HJK.out⟩
      case round =>
        rename_i wr2 _ _ _ _ _ _ _ _ _ _ _ _ _ _ _ _ _
        obtain ⟨j,hj,rfl,hJj⟩:=hrel
        clear HJK
        by_cases hlt2:j < 8
        · obtain ⟨q,hq⟩:∃ q,q = 8 * k + j:=⟨_,rfl⟩
          obtain ⟨k8,hk8⟩:∃ k8,k8 = k * 8:=⟨_,rfl⟩
          obtain ⟨o,ho⟩:∃ o,o = bt x q:=⟨_,rfl⟩
          have f1:(k:Int) * 8 = (k8:Int):=by omega
          have f2:IntKind.i64.wrap (k8:Int) = (k8:Int):=wrap_small _ (by omega) (by omega)
          have f3:(k8:Int) + (j:Int) = (q:Int):=by omega
          have f4:IntKind.i64.wrap (q:Int) = (q:Int):=wrap_small _ (by omega) (by omega)
          have j1:(j:Int) < 8:=by omega
          have f5:IntKind.i64.wrap ((j:Int) + 1) = (j:Int) + 1:=wrap_small _ (by omega) (by omega)
          have hand:=u8_and b (mask j)
          have hz:((((b.toNat &&& (mask j).toNat:Nat):Int)) != 0) = o:=by
            have h:=mask_and b ⟨j,hlt2⟩
            have hm:mask j = 128#8 >>> j:=by rw [mask,Nat.mod_eq_of_lt hlt2]
            simp only [← hm] at h
            have e:o = b.getMsbD j:=by rw [ho,HBB.out,bt,hq,show (8 * k + j) / 8 = k by omega,show (8 * k + j) % 8 = j by omega]
            rw [e,← BitVec.toNat_and]
            cases hg:b.getMsbD j
            · rw [hg] at h
              have h2:=of_decide_eq_true (h.trans rfl)
              rw [h2];rfl
            · rw [hg] at h
              have h2:=of_decide_eq_false (h.trans rfl)
              rw [bne_iff_ne]
              intro h3
              exact h2 (BitVec.eq_of_toNat_eq (by simpa using h3))
          have HNX:Hid (pathBits x (8 * k + (j + 1)) = pathBits x (8 * k + j) ++ [(q,o)]):=by
            show _ = _
            rw [ho,hq,← Nat.add_assoc,pathBits_succ]
          obtain ⟨fn,tmps,assign,body,hy,hR⟩:=hY (pathBits x (8 * k + j)) (q,o) _ hJj (by rw [pathBits_len];omega)
          dsimp only [encsB] at hy
          clear hq hk8 ho hlt2 hj
          refine (wpIn_wide (n:=n)).1 ?_
          gi_wp2_with (refine ⟨trivial,?_⟩;gi_at_call 90;refine (callsIn_wide.2 (bitOf_any _ _)).mono ?_;rintro e wz ⟨rfl,hz2⟩;rw [hz2];clear hz2 wz)
          refine hR.mono ?_
          clear hR hy hY hJj
          rintro e W3 (⟨rfl,hJ3,_⟩ | ⟨rfl,hJx3⟩)
          · rw [← HNX.out] at hJ3
            gi_wp2
            go_roundw
            case rel => exact ⟨j + 1,by omega,by simp,hJ3⟩
            case measure => simp [intOf];omega
          · rw [← HNX.out] at hJx3
            gi_wp2
            refine noGoto_normal ?_
            go_end0
            exact ⟨⟨_,rfl⟩,.inr ⟨_,⟨8 * k + (j + 1),by omega,rfl⟩,hJx3⟩⟩
        · have hj8:j = 8:=by omega
          subst hj8
          have HJ8:Hid (J (pathBits x (8 * (k + 1))) wr):=by rw [Nat.mul_add];exact hJj
          have f5:IntKind.i64.wrap ((k:Int) + 1) = (k:Int) + 1:=wrap_small _ (by omega) (by omega)
          clear hJj hj hlt2
          go_wp2
          go_roundw
          case rel => exact ⟨k + 1,by omega,by simp,HJ8.out⟩
          case measure => simp [intOf];omega
    · have hk32:k = 32:=by omega
      subst hk32
      go_wp2
      refine noGoto_normal ?_
      go_end0
      exact ⟨⟨_,rfl⟩,.inl ⟨_,rfl,HJK.out⟩⟩
end Go.Proofs.YtphmmnffgknkcaaGreatDoor
namespace Go.Proofs.YtphmmnffgknkcaaGreatDoor
open Go.RowKit Go.Shelf
set_option maxRecDepth 100000
attribute [local go_sem] Oper.semAt_some
theorem wpSeqIn_val {F:Fence} {n:Nat} {P:Program} {ops:Array Oper} {Q:Exit → Act → World → Prop} {rest:List Oper} {o:Oper} {a:Act} {w:World} (v:Value) (w':World) (hw:Region.wanted o (yielded ops a.tmps) = true) (hd:∀ c,o.op ≠ .defer c) (hab:o.about P w a.eval = none)
    (he:(execOp a.eval o).run P w = .ok (.value v) w') (h:wpListIn F n P ops Q rest (a.put o.dst v) w'):wpListIn F n P ops Q (o :: rest) a w:=by
  unfold wpListIn
  simp only [hw,if_true]
  unfold Oper.wpIn
  refine ⟨fun f hf => (by rw [hab] at hf;cases hf),?_⟩
  rw [Oper.semAt_eq _ _ _ hd,he]
  exact h
theorem wpSeqIn_loadD {F:Fence} {n:Nat} {ops:Array Oper} {Q:Exit → Act → World → Prop} {rest:List Oper} {o:Oper} {a:Act} {w:World} (x:Operand) (g:Nat) (l:List (BitVec 8)) (hl:l.length = 32) (hb:Blk w g (cb l) 39) (ho:o.op = .load 39 x) (hx:a.eval x = .pointer (some ⟨g,0,none⟩)) (hw:Region.wanted o (yielded ops a.tmps) = true)
    (h:wpListIn F n Tryz.prog ops Q rest (a.put o.dst (.agg (cb l).toArray)) w):wpListIn F n Tryz.prog ops Q (o :: rest) a w:=
  wpSeqIn_val _ _ hw (by rw [ho];intro c hc;cases hc) (by simp [Oper.about,ho]) (loadDigest x g l hl hb ho hx) h
theorem wpSeqIn_storeD {F:Fence} {n:Nat} {ops:Array Oper} {Q:Exit → Act → World → Prop} {rest:List Oper} {o:Oper} {a:Act} {w:World} (x y:Operand) (g:Nat) (l m:List (BitVec 8)) (hl:l.length = 32) (hn:m.length = 32) (hb:Blk w g (cb l) 39) (ho:o.op = .store 39 x y) (hx:a.eval x = .pointer (some ⟨g,0,none⟩)) (hy:a.eval y = .agg (cb m).toArray) (hw:Region.wanted o (yielded ops a.tmps) = true)
    (h:∀ w',SetB m w g w' → KeepsOthers w w' → wpListIn F n Tryz.prog ops Q rest (a.put o.dst undef) w'):wpListIn F n Tryz.prog ops Q (o :: rest) a w:=by
  have he:(execOp a.eval o).run Tryz.prog w = .ok .skip (w.setCells g 0 (cb m)):=by
    unfold execOp
    simp only [ho,hx,hy,Sem.run_bind]
    rw [run_storeAt_mid w g 0 39 _ (hb.there 0 _ (by rw [List.size_toArray,cb_len,cb_len];omega)) (by rw [List.size_toArray,cb_len,hn];exact info_digest) (all_oneCell_toArray (cb_one m))]
    rfl
  have hk:∀ (vs:List Value) (i:Nat) (w:World),KeepsOthers w (w.setCells g i vs):=by
    intro vs
    induction vs with
    | nil => intro i w;exact KeepsOthers.refl _
    | cons v r ih => intro i w;rw [World.setCells];exact (KeepsOthers.setCell w _ v).trans (ih _ _)
  unfold wpListIn
  simp only [hw,if_true]
  unfold Oper.wpIn
  refine ⟨fun f hf => (by simp [Oper.about,ho] at hf),?_⟩
  rw [Oper.semAt_eq _ _ _ (by rw [ho];intro c hc;cases hc),he]
  exact h _ (SetB.of l m hl hn hb) (hk _ _ _)
structure NewC (v:Value) (t:TypeId) (w:World) (g:Nat) (w':World):Prop where
  ge:w.heap.size ≤ g
  blk:Blk w' g [v] t
  below:Below w.heap.size w w'
theorem NewC.of (v:Value) (t:TypeId) (w:World):NewC v t w w.heap.size (w.alloc (.cells #[v] t)):=⟨Nat.le_refl _,Blk.new w [v] t,below_alloc w _⟩
theorem wpSeq_allocI {ops:Array Oper} {Q:Exit → Act → World → Prop} {rest:List Oper} {o:Oper} {a:Act} {w:World} (ho:o.op = .alloc 3) (hw:Region.wanted o (yielded ops a.tmps) = true)
    (h:∀ g w',NewC (.int .i64 0) 3 w g w' → wpList Tryz.prog ops Q rest (a.put o.dst (.pointer (some ⟨g,0,none⟩))) w'):wpList Tryz.prog ops Q (o :: rest) a w:=
  wpSeq_val _ _ hw (by unfold execOp;rw [ho];kernel_rfl) (h _ _ (NewC.of (.int .i64 0) 3 w))
theorem blk_own {β:Type} (g:Nat) (cs:β → List Value) (t:TypeId):Own (fun (s:β) W => Blk W g (cs s) t):=fun s X Y row hs hg hr => by
  have hs':X.heap[g]? = some (.cells (cs s).toArray t (0,0)):=hs
  show Y.heap[g]? = some (.cells (cs s).toArray t (0,0))
  rw [hg.block g (Array.getElem?_eq_some_iff.1 hs').1 (fun e => ?_)]
  · exact hs'
  · obtain ⟨o,ho,hc⟩:=hr g e.symm
    rw [hs'] at ho;cases ho;cases hc
theorem Blk.put {W:World} {g:Nat} {cs:List Value} {t:TypeId} (h:Blk W g cs t) {D:Nat} {o o':Obj} (hD:W.heap[D]? = some o) (ho:o.isCells = false):Blk (W.putObj D o') g cs t:=
  blk_own (β:=Unit) g (fun _ => cs) t () W _ (some D) h (grownBy_putObj' W D o') (fun r e => by cases e;exact ⟨o,hD,ho⟩)
theorem keepsOthers_of_below {W W':World} (h:Below W.heap.size W W'):KeepsOthers W W':=
  ⟨h.size,fun k _ hk _ => (h.block k (Array.getElem?_eq_some_iff.1 hk).1).trans hk⟩
end Go.Proofs.YtphmmnffgknkcaaGreatDoor
namespace Go.Proofs.YtphmmnffgknkcaaGreatDoor
open Go.RowKit Go.Shelf
set_option maxRecDepth 100000
attribute [local go_sem] Oper.semAt_some
theorem bits_split {x:List (BitVec 8)} {k:Nat} {pre:List (Nat × Bool)} {p:Nat × Bool} (h:pathBits x k = pre ++ [p]):∃ j,k = j + 1 ∧ pre = pathBits x j ∧ p = (j,bt x j):=by
  cases k with
  | zero => simp [pathBits] at h
  | succ j =>
    rw [pathBits_succ] at h
    obtain ⟨h1,h2⟩:=List.append_inj' h rfl
    exact ⟨j,rfl,h1.symm,by simpa using h2.symm⟩
theorem mem_bits {x:List (BitVec 8)} {k:Nat} {j:Nat} (h:j < k):(j,bt x j) ∈ pathBits x k:=by
  unfold pathBits
  exact List.mem_map.2 ⟨j,List.mem_range.2 h,rfl⟩
def CmI (y:List (BitVec 8)) (g1 g2:Nat) (pre:List (Nat × Bool)) (W:World):Prop:=Blk W g1 (cb y) 39 ∧ Blk W g2 [.int .i64 0] 3 ∧ ∀ p ∈ pre,p.2 = bitI y (p.1:Int)
def CmX (y:List (BitVec 8)) (g2:Nat) (c:Code) (pre:List (Nat × Bool)) (W:World):Prop:=
  ∃ pr p,c = .ret ∧ pre = pr ++ [p] ∧ (∀ q ∈ pr,q.2 = bitI y (q.1:Int)) ∧ p.2 ≠ bitI y (p.1:Int) ∧ Blk W g2 [.int .i64 (p.1:Int)] 3
theorem CmI.own (y:List (BitVec 8)) (g1 g2:Nat):Own (CmI y g1 g2):=fun _ A B row hs hg hr =>
  ⟨blk_own (β:=Unit) g1 (fun _ => cb y) _ () A B row hs.1 hg hr,blk_own (β:=Unit) g2 (fun _ => [.int .i64 0]) _ () A B row hs.2.1 hg hr,hs.2.2⟩
theorem CmX.own (y:List (BitVec 8)) (g2:Nat) (c:Code):Own (CmX y g2 c):=fun _ A B row hs hg hr => by
  obtain ⟨pr,p,h1,h2,h3,h4,h5⟩:=hs
  exact ⟨pr,p,h1,h2,h3,h4,blk_own (β:=Unit) g2 (fun _ => [.int .i64 (p.1:Int)]) _ () A B row h5 hg hr⟩
theorem CmI.all {x y:List (BitVec 8)} {g1 g2:Nat} {W:World} (h:CmI y g1 g2 (pathBits x 256) W):common x y = 256:=
  common_is x y 256 (Nat.le_refl _) (fun j hj => by have:=h.2.2 _ (mem_bits (x:=x) hj);rwa [bitI_nat y j hj] at this) (by omega)
theorem CmX.at {x y:List (BitVec 8)} {g2:Nat} {c:Code} {k:Nat} {W:World} (hk:k ≤ 256) (h:CmX y g2 c (pathBits x k) W):c = .ret ∧ Blk W g2 [.int .i64 (common x y:Int)] 3:=by
  obtain ⟨pr,p,h1,h2,h3,h4,h5⟩:=h
  obtain ⟨j,rfl,rfl,rfl⟩:=bits_split h2
  rw [bitI_nat y j (by omega)] at h4
  refine ⟨h1,?_⟩
  rw [common_is x y j (by omega) (fun i hi => by have:=h3 _ (mem_bits (x:=x) hi);rwa [bitI_nat y i (by omega)] at this) (fun _ => h4)]
  exact h5
set_option maxRecDepth 100000 in
set_option maxHeartbeats 2000000 in
theorem pCommon_any (x y:List (BitVec 8)) (hx:x.length = 32) (hy:y.length = 32) (w:World):Calls Tryz.prog 109 #[.agg (cb x).toArray,.agg (cb y).toArray] w fun e w' => e = .returned (.int .i64 (common x y:Int)) ∧ Below w.heap.size w w':=by
  have HX:Hid (x.length = 32):=hx
  have HY:Hid (y.length = 32):=hy
  clear hx hy
  refine (callsIn_wide (n:=4)).1 ?_
  refine callsIn_of_wp_marks Tryz.func109 rfl trivial ?_ rfl
  simp only [Tryz.ntmps109,List.size_toArray,List.length_cons,List.length_nil,Nat.reduceAdd,Nat.reduceSub,Array.replicate_succ,Array.replicate_zero,List.push_toArray,List.append_toArray,List.nil_append,List.cons_append]
  refine wpIn_wide.2 ?_
  go_wp2_with (first
    | (with_reducible refine wpSeq_boxD (.tmp 0) x ?_ ?_ ?_ ?_
       · rfl
       · rfl
       · rfl
       intro g0 w1 n1)
    | (with_reducible refine wpSeq_boxD (.tmp 1) y ?_ ?_ ?_ ?_
       · rfl
       · rfl
       · rfl
       intro g1 w2 n2
       have H0:Hid (Blk w2 g0 (cb x) 39):=n1.blk.below n2.below n1.blk.lt
       have H1:Hid (Blk w2 g1 (cb y) 39):=n2.blk
       have hlt1:g1 < w2.heap.size:=n2.blk.lt
       have HG:Hid (w.heap.size ≤ w2.heap.size):=Nat.le_trans n1.below.size n2.below.size
       have HBW:Hid (Below w.heap.size w w2):=n1.below.trans (n2.below.mono n1.below.size)
       clear n1 n2)
    | (with_reducible refine wpSeq_allocI ?_ ?_ ?_
       · rfl
       · rfl
       intro g2 w3 n3
       replace H0:Hid (Blk w3 g0 (cb x) 39):=H0.out.below n3.below H0.out.lt
       replace H1:Hid (Blk w3 g1 (cb y) 39):=H1.out.below n3.below H1.out.lt
       have H2:Hid (Blk w3 g2 [.int .i64 0] 3):=n3.blk
       have HG2:Hid (w.heap.size ≤ g2 ∧ g1 ≠ g2 ∧ w.heap.size ≤ w3.heap.size):=⟨Nat.le_trans HG.out n3.ge,fun e => by have:=n3.ge;have:=H1.out;have:=hlt1;omega,Nat.le_trans HG.out n3.below.size⟩
       replace HBW:Hid (Below w.heap.size w w3):=HBW.out.trans (n3.below.mono HG.out)
       clear n3 HG hlt1)
    | (with_reducible refine wpSeq_loadD (.tmp 2) g0 x ?_ ?_ ?_ ?_ ?_ ?_
       · exact HX.out
       · exact H0.out
       · rfl
       · rfl
       · rfl)
    | (go_at_call 118;refine (pBits_any x _).mono ?_;rintro e w4 ⟨g3,rfl,n4⟩
       replace H1:Hid (Blk w4 g1 (cb y) 39):=H1.out.below n4.below H1.out.lt
       replace H2:Hid (Blk w4 g2 [.int .i64 0] 3):=H2.out.below n4.below H2.out.lt
       have H3:Hid (Blk w4 g3 (cb x) 39):=n4.blk
       replace HBW:Hid (Below w.heap.size w w4):=HBW.out.trans (n4.below.mono HG2.out.2.2)
       replace HG2:Hid (w.heap.size ≤ g2 ∧ g1 ≠ g2 ∧ w.heap.size ≤ w4.heap.size):=⟨HG2.out.1,HG2.out.2.1,Nat.le_trans HG2.out.2.2 n4.below.size⟩
       clear n4 H0))
  refine (wpIn_wide (n:=4)).1 ?_
  refine wpIn_rangeFunc_ownF (F:=Fence.wide) rfl (by omega) (gf:=121) (lb:=#[.pointer (some ⟨g3,0,none⟩)]) rfl trivial (enters_of Tryz.func121 (by kernel_rfl) rfl)
    (bits_stops 3 (by omega) g3 x HX.out w4 H3.out) (fun _ _ => trivial) (fun _ _ _ _ _ _ _ _ => trivial) (Below.refl _ _) (fun _ => rfl)
    (fun pre W => CmI y g1 g2 pre W ∧ Below w.heap.size w W) (fun c pre W => CmX y g2 c pre W ∧ Below w.heap.size w W)
    (OwnFrom.and (Own.from (CmI.own y g1 g2) _) (ownFrom_below (Nat.le_refl _) HG2.out.2.2))
    (fun c => OwnFrom.and (Own.from (CmX.own y g2 c) _) (ownFrom_below (Nat.le_refl _) HG2.out.2.2))
    ⟨⟨H1.out,H2.out,by simp⟩,HBW.out⟩
    (fun z => { tmps:=#[.agg (cb x).toArray,.agg (cb y).toArray,.pointer (some ⟨g0,0,none⟩),.pointer (some ⟨g1,0,none⟩),.pointer (some ⟨g2,0,none⟩),.int .i64 (z.1:Int),.bool z.2,.agg (cb x).toArray,.func (.func 121) #[] #[.pointer (some ⟨g3,0,none⟩)],.int .i64 (z.1:Int),.bool z.2,undef,undef,undef,undef,undef,undef],defers:=[] }) ?assign ?body ?done ?stop
  case assign =>
    intro l z W K hK
    gi_wp2
    exact hK
  case body =>
    rintro l pre ⟨zi,zb⟩ W ⟨hI,hB⟩ _
    have HI:Hid (CmI y g1 g2 pre W):=hI
    have HB:Hid (Below w.heap.size w W):=hB
    clear hI hB
    gi_wp2_with (first
      | (with_reducible refine wpSeqIn_loadD (.tmp 3) g1 y ?_ ?_ ?_ ?_ ?_ ?_
         · exact HY.out
         · exact HI.out.1
         · rfl
         · rfl
         · rfl)
      | (refine ⟨trivial,?_⟩;gi_at_call 62;refine (CallsIn.inRound l (callsIn_wide.2 (pBit_any y HY.out _ _))).mono ?_;rintro e W2 ⟨rfl,hb2⟩
         have HK2:Hid (KeepsOthers W W2):=keepsOthers_of_below hb2
         have HC:Hid (Blk W2 g2 [.int .i64 0] 3):=HI.out.2.1.below hb2 HI.out.2.1.lt
         have HY2:Hid (Blk W2 g1 (cb y) 39):=HI.out.1.below hb2 HI.out.1.lt
         have HB2:Hid (Below w.heap.size w W2):=HB.out.trans (hb2.mono HB.out.size)
         have hc2:W2.cell? ⟨g2,0,none⟩ = some (.int .i64 0):=HC.out.cell 0
         have hf2:W2.frozen? ⟨g2,0,none⟩ = false:=HC.out.frozen 0
         clear hb2))
    · rename_i hne
      refine ⟨HK2.out.trans (KeepsOthers.setCell _ _ _),⟨pre,(zi,zb),rfl,rfl,HI.out.2.2,?_,HC.out.set 0 _⟩,HB2.out.setCell (p:=⟨g2,0,none⟩) HG2.out.1 _⟩
      intro e
      simp only at e
      rw [e] at hne
      cases hh:bitI y (zi:Int) <;> rw [hh] at hne <;> cases hne
    · rename_i hne
      refine ⟨HK2.out,trivial,⟨HY2.out,HC.out,fun p hp => ?_⟩,HB2.out⟩
      rcases List.mem_append.1 hp with hp | hp
      · exact HI.out.2.2 p hp
      · obtain rfl:p = (zi,zb):=by simpa using hp
        cases zb <;> cases hh:bitI y (zi:Int) <;> rw [hh] at hne <;> first | rfl | cases hne
  case done =>
    rintro D ys W hD rfl ⟨hI,hB⟩ hK
    have HD:Hid (w.heap.size ≤ D):=Nat.le_trans HG2.out.2.2 hD
    have HCM:Hid (common x y = 256):=hI.all
    have HC:Hid (Blk W g2 [.int .i64 0] 3):=hI.2.1
    have hc2:W.cell? ⟨g2,0,none⟩ = some (.int .i64 0):=HC.out.cell 0
    have hf2:W.frozen? ⟨g2,0,none⟩ = false:=HC.out.frozen 0
    have HB:Hid (Below w.heap.size w W):=hB
    have HK:Hid (W.heap[D]? = some (.deferred (some []))):=hK
    clear hI hB hK hD
    gi_wp2
    go_wp2
    have hK':=(KeepsOthers.setCell W ⟨g2,0,none⟩ (.int .i64 256)).same D _ HK.out rfl
    refine ⟨by simp,.inl ⟨_,_,rfl,run_takeDeferred hK',?_⟩⟩
    have hc5:=((HC.out.set 0 (.int .i64 256)).put hK' rfl (o':=.deferred none)).cell 0
    refine ⟨.int .i64 256,?_,by rw [HCM.out];rfl,(HB.out.setCell (p:=⟨g2,0,none⟩) HG2.out.1 _).trans (belowK_b (w:=w) (Nat.le_refl _) _ D _ _ HD.out hK' rfl rfl)⟩
    simp at hc5
    simp [results,Tryz.f109,go_sem,hc5]
  case stop =>
    rintro D c pre W hD ⟨k,hk,rfl⟩ ⟨hX,hB⟩ hK
    obtain ⟨rfl,hC⟩:=hX.at hk
    have HD:Hid (w.heap.size ≤ D):=Nat.le_trans HG2.out.2.2 hD
    have HC:Hid (Blk W g2 [.int .i64 (common x y:Int)] 3):=hC
    have HB:Hid (Below w.heap.size w W):=hB
    have HK:Hid (W.heap[D]? = some (.deferred (some []))):=hK
    clear hX hB hK hD hC
    gi_wp2
    refine ⟨by simp,.inl ⟨_,_,rfl,run_takeDeferred HK.out,?_⟩⟩
    have hc5:=(HC.out.put HK.out rfl (o':=.deferred none)).cell 0
    refine ⟨.int .i64 (common x y:Int),?_,rfl,HB.out.trans (belowK_b (w:=w) (Nat.le_refl _) _ D _ _ HD.out HK.out rfl rfl)⟩
    simp at hc5
    simp [results,Tryz.f109,go_sem,hc5]
end Go.Proofs.YtphmmnffgknkcaaGreatDoor
namespace Go.Proofs.YtphmmnffgknkcaaGreatDoor
open Go.RowKit Go.Shelf
set_option maxRecDepth 100000
attribute [local go_sem] Oper.semAt_some
def cutF (pre:List (Nat × Bool)):List (BitVec 8):=pre.foldl (fun y p => setI y (p.1:Int) p.2) zb32
theorem cutF_snoc (pre:List (Nat × Bool)) (p:Nat × Bool):cutF (pre ++ [p]) = setI (cutF pre) (p.1:Int) p.2:=by simp [cutF]
theorem foldl_set_len (l:List (Nat × Bool)):∀ y:List (BitVec 8),(l.foldl (fun y p => setI y (p.1:Int) p.2) y).length = y.length:=by
  induction l with
  | nil => intro y;rfl
  | cons p r ih => intro y;rw [List.foldl_cons,ih,setI_len]
theorem cutF_len (pre:List (Nat × Bool)):(cutF pre).length = 32:=by rw [cutF,foldl_set_len];rfl
theorem bt_zero (j:Nat):bt zb32 j = false:=by
  unfold bt zb32
  rw [List.getD_eq_getElem?_getD,List.getElem?_replicate]
  split <;> simp
theorem cutF_bits (x:List (BitVec 8)):∀ k,k ≤ 256 → ∀ j,j < 256 → bt (cutF (pathBits x k)) j = (decide (j < k) && bt x j)
  | 0,_,j,_ => by simp [pathBits,cutF,bt_zero]
  | k + 1,hk,j,hj => by
    rw [pathBits_succ,cutF_snoc,setI_nat _ _ _ (by omega),bt_set _ (cutF_len _) _ _ _ (by omega) hj,cutF_bits x k (by omega) j hj]
    by_cases e:j = k
    · subst e;simp
    · rw [if_neg e]
      by_cases h:j < k
      · have h2:j < k + 1:=by omega
        simp [h,h2]
      · have h2:¬ j < k + 1:=by omega
        simp [h,h2]
def CuI (n:Int) (gn gr gc:Nat) (pre:List (Nat × Bool)) (W:World):Prop:=Blk W gn [.int .i64 n] 3 ∧ Blk W gr (cb zb32) 39 ∧ Blk W gc (cb (cutF pre)) 39 ∧ ∀ p ∈ pre,(p.1:Int) < n
def CuX (n:Int) (gr gc:Nat) (c:Code) (pre:List (Nat × Bool)) (W:World):Prop:=
  ∃ pr p,c = .exit 0 ∧ pre = pr ++ [p] ∧ (∀ q ∈ pr,(q.1:Int) < n) ∧ n ≤ (p.1:Int) ∧ Blk W gr (cb zb32) 39 ∧ Blk W gc (cb (cutF pr)) 39
theorem CuI.own (n:Int) (gn gr gc:Nat):Own (CuI n gn gr gc):=fun s A B row hs hg hr =>
  ⟨blk_own (β:=Unit) gn (fun _ => [.int .i64 n]) _ () A B row hs.1 hg hr,blk_own (β:=Unit) gr (fun _ => cb zb32) _ () A B row hs.2.1 hg hr,blk_own (β:=Unit) gc (fun _ => cb (cutF s)) _ () A B row hs.2.2.1 hg hr,hs.2.2.2⟩
theorem CuX.own (n:Int) (gr gc:Nat) (c:Code):Own (CuX n gr gc c):=fun _ A B row hs hg hr => by
  obtain ⟨pr,p,h1,h2,h3,h4,h5,h6⟩:=hs
  exact ⟨pr,p,h1,h2,h3,h4,blk_own (β:=Unit) gr (fun _ => cb zb32) _ () A B row h5 hg hr,blk_own (β:=Unit) gc (fun _ => cb (cutF pr)) _ () A B row h6 hg hr⟩
theorem CuI.all {x:List (BitVec 8)} {n:Int} {gn gr gc:Nat} {W:World} (h:CuI n gn gr gc (pathBits x 256) W):∃ y,IsCut x n y ∧ Blk W gr (cb zb32) 39 ∧ Blk W gc (cb y) 39:=by
  refine ⟨_,⟨cutF_len _,fun j hj => ?_⟩,h.2.1,h.2.2.1⟩
  have h1:=h.2.2.2 _ (mem_bits (x:=x) hj)
  simp only at h1
  rw [cutF_bits x 256 (Nat.le_refl _) j hj,decide_eq_true hj,decide_eq_true h1]
theorem CuX.at {x:List (BitVec 8)} {n:Int} {gr gc:Nat} {c:Code} {k:Nat} {W:World} (hk:k ≤ 256) (h:CuX n gr gc c (pathBits x k) W):c = .exit 0 ∧ ∃ y,IsCut x n y ∧ Blk W gr (cb zb32) 39 ∧ Blk W gc (cb y) 39:=by
  obtain ⟨pr,p,h1,h2,h3,h4,h5,h6⟩:=h
  obtain ⟨i,rfl,rfl,rfl⟩:=bits_split h2
  simp only at h4
  refine ⟨h1,_,⟨cutF_len _,fun j hj => ?_⟩,h5,h6⟩
  rw [cutF_bits x i (by omega) j hj]
  by_cases h:j < i
  · have h7:=h3 _ (mem_bits (x:=x) h)
    simp only at h7
    rw [decide_eq_true h,decide_eq_true h7]
  · have h7:¬ ((j:Int) < n):=by omega
    rw [decide_eq_false h,decide_eq_false h7]
end Go.Proofs.YtphmmnffgknkcaaGreatDoor
namespace Go.Proofs.YtphmmnffgknkcaaGreatDoor
open Go.RowKit
set_option maxRecDepth 100000
inductive Pc:Nat → List Lf → By → List By → Prop
  | few (d:Nat) (l:List Lf):Fits l d → d ≤ 256 → l.length < 2 → Pc d l (oneP1 l) []
  | two (d:Nat) (l:List Lf) (t0 t1:By) (S0 S1:List By):Fits l d → 2 ≤ l.length → Pc (d + 1) (halfL l d false) t0 S0 → Pc (d + 1) (halfL l d true) t1 S1 → Pc d l (2 :: (t0 ++ t1)) (S0 ++ S1)
  | link (d:Nat) (l:List Lf) (t:By) (S:List By):2 ≤ l.length → t.length ≤ 512 → Pc d l t S → Pc d l (3 :: dig t) (t :: S)
theorem Pc.fits {d:Nat} {l:List Lf} {t:By} {S:List By} (h:Pc d l t S):Fits l d:=by
  induction h with
  | few d l h1 h2 h3 => exact h1
  | two d l t0 t1 S0 S1 h1 => exact h1
  | link d l t S h1 h2 h3 ih => exact ih
theorem Pc.pos {d:Nat} {l:List Lf} {t:By} {S:List By} (h:Pc d l t S):0 < t.length:=by
  cases h with
  | few d l h1 h2 h3 => rw [one_le h1.1 h3];omega
  | two => simp
  | link => simp
theorem whole_pc:∀ (f d:Nat) (l:List Lf),256 = d + f → Fits l d → Pc d l (wholeL d l) []:=by
  intro f
  induction f with
  | zero =>
    intro d l hd hF
    have h2:l.length < 2:=by
      rcases Nat.lt_or_ge l.length 2 with h | h
      · exact h
      · have:=hF.lt h;omega
    rw [whole_few h2]
    exact .few d l hF (by omega) h2
  | succ f ih =>
    intro d l hd hF
    rcases Nat.lt_or_ge l.length 2 with h2 | h2
    · rw [whole_few h2]
      exact .few d l hF (by omega) h2
    · rw [whole_two (by omega) h2]
      exact .two d l _ _ [] [] hF h2 (ih (d + 1) _ (by omega) (hF.half false)) (ih (d + 1) _ (by omega) (hF.half true))
theorem side_pc {d:Nat} {l:List Lf} (hF:Fits l d) (hd:d ≤ 256) (ih:Pc d l (topPg d l) (saveL d l).tail) (hs:(topPg d l).length ≤ 512):Pc d l (sidePg d l) (restPg d l):=by
  unfold sidePg restPg
  rcases Nat.lt_or_ge l.length 2 with h2 | h2
  · rw [if_pos h2,if_pos h2,whole_few h2]
    exact .few d l hF hd h2
  · rw [if_neg (by omega),if_neg (by omega)]
    obtain ⟨t,ht⟩:=save_cons d l
    have e:saveL d l = topPg d l :: (saveL d l).tail:=by rw [ht];rfl
    rw [e]
    exact .link d l _ _ h2 hs ih
theorem top_short {d:Nat} {l:List Lf} (hd:d ≤ 256) (hF:Fits l d):1 ≤ (topPg d l).length ∧ (topPg d l).length ≤ 512:=by
  obtain ⟨t,ht⟩:=save_cons d l
  exact save_short (256 - d) d l (by omega) hF _ (by rw [ht];simp)
theorem top_pc:∀ (f d:Nat) (l:List Lf),256 = d + f → Fits l d → Pc d l (topPg d l) (saveL d l).tail:=by
  intro f
  induction f with
  | zero =>
    intro d l hd hF
    have hs:(wholeL d l).length ≤ 512:=by
      rcases Nat.lt_or_ge 512 (wholeL d l).length with h | h
      · have:=(long_two hF h).2;omega
      · exact h
    rw [top_one hs,save_one hs]
    exact whole_pc 0 d l hd hF
  | succ f ih =>
    intro d l hd hF
    rcases Nat.lt_or_ge 512 (wholeL d l).length with h | h
    · have h2:=long_two hF h
      rw [top_more h2.2 h,save_more h2.2 h]
      have hh:∀ b,Pc (d + 1) (halfL l d b) (sidePg (d + 1) (halfL l d b)) (restPg (d + 1) (halfL l d b)):=fun b =>
        side_pc (hF.half b) (by omega) (ih (d + 1) _ (by omega) (hF.half b)) (top_short (by omega) (hF.half b)).2
      exact .two d l _ _ _ _ hF h2.1 (hh false) (hh true)
    · rw [top_one h,save_one h]
      exact whole_pc (f + 1) d l hd hF
theorem save_top (d:Nat) (l:List Lf):saveL d l = topPg d l :: (saveL d l).tail:=by
  obtain ⟨t,ht⟩:=save_cons d l
  rw [ht];rfl
def plK (ps:List By):Nat → By → Option Nat
  | 0,_ => none
  | k + 1,x => if x = dig (ps.getD k []) then some k else plK ps k x
theorem plK_some {ps:List By} {x:By}:∀ {k i:Nat},plK ps k x = some i → i < k ∧ dig (ps.getD i []) = x
  | 0,i,h => by cases h
  | k + 1,i,h => by
    unfold plK at h
    split at h
    · rename_i e;cases h;exact ⟨Nat.lt_succ_self _,e.symm⟩
    · have:=plK_some h;exact ⟨Nat.lt_succ_of_lt this.1,this.2⟩
theorem plK_none {ps:List By} {x:By}:∀ {k:Nat},plK ps k x = none → ∀ i,i < k → dig (ps.getD i []) ≠ x
  | 0,_,i,hi => by omega
  | k + 1,h,i,hi => by
    unfold plK at h
    split at h
    · cases h
    · rename_i e
      rcases Nat.lt_or_ge i k with h1 | h1
      · exact plK_none h i h1
      · have:i = k:=by omega
        subst this
        exact fun h2 => e h2.symm
def Free (ps S:List By):Prop:=∀ p ∈ S,∀ q ∈ ps,dig q = dig p → q = p
theorem plK_find {ps:List By} {t:By} (hf:∀ q ∈ ps,dig q = dig t → q = t):(t ∈ ps ∧ ∃ i,plK ps ps.length (dig t) = some i ∧ i < ps.length ∧ ps.getD i [] = t) ∨ (t ∉ ps ∧ plK ps ps.length (dig t) = none):=by
  cases hp:plK ps ps.length (dig t) with
  | none =>
    refine Or.inr ⟨fun ht => ?_,rfl⟩
    obtain ⟨i,hi,e⟩:=List.mem_iff_getElem.1 ht
    refine plK_none hp i hi ?_
    rw [List.getD_eq_getElem?_getD,List.getElem?_eq_getElem hi,Option.getD_some,e]
  | some i =>
    obtain ⟨h1,h2⟩:=plK_some hp
    have hm:ps.getD i [] ∈ ps:=by rw [List.getD_eq_getElem?_getD,List.getElem?_eq_getElem h1];exact List.getElem_mem h1
    have:=hf _ hm h2
    exact Or.inl ⟨by rw [← this];exact hm,i,rfl,h1,this⟩
structure WyP (way:By) (d:Nat) (l:List Lf):Prop where
  len:way.length = 32
  on:∀ p ∈ l,∀ j,j < d → bt p.1 j = bt way j
  off:∀ j,d ≤ j → j < 256 → bt way j = false
theorem WyP.left {way:By} {d:Nat} {l:List Lf} (h:WyP way d l) (hd:d < 256):WyP way (d + 1) (halfL l d false):=
  ⟨h.len,fun p hp j hj => by
    obtain ⟨h1,h2⟩:=mem_halfL.1 hp
    rcases Nat.lt_or_ge j d with h3 | h3
    · exact h.on p h1 j h3
    · have:j = d:=by omega
      subst this
      rw [h2,h.off j (Nat.le_refl _) hd],fun j h1 h2 => h.off j (by omega) h2⟩
theorem WyP.right {way:By} {d:Nat} {l:List Lf} (h:WyP way d l) (hd:d < 256):WyP (setI way (d:Int) true) (d + 1) (halfL l d true):=by
  have e:∀ j,j < 256 → bt (setI way (d:Int) true) j = if j = d then true else bt way j:=fun j hj => by
    rw [setI_nat way d true hd]
    exact bt_set way h.len d j true hd hj
  refine ⟨by rw [setI_len];exact h.len,fun p hp j hj => ?_,fun j h1 h2 => ?_⟩
  · obtain ⟨h1,h2⟩:=mem_halfL.1 hp
    rw [e j (by omega)]
    split
    · rename_i h3;rw [h3,h2]
    · exact h.on p h1 j (by omega)
  · rw [e j h2,if_neg (by omega)]
    exact h.off j (by omega) h2
theorem WyP.under {way:By} {d:Nat} {l:List Lf} (h:WyP way d l) (hd:d ≤ 256) {p:Lf} (hp:p ∈ l):(d:Int) ≤ (common p.1 way:Int):=by
  have h1:=common_spec p.1 way
  rcases Nat.lt_or_ge (common p.1 way) d with h2 | h2
  · exact absurd (h.on p hp _ h2) (h1.2.2 (by omega))
  · omega
theorem WyP.zero (l:List Lf):WyP zb32 0 l:=⟨rfl,fun _ _ j hj => by omega,fun j _ _ => bt_zero j⟩
end Go.Proofs.YtphmmnffgknkcaaGreatDoor
namespace Go.Proofs.YtphmmnffgknkcaaGreatDoor
open Go.RowKit
set_option maxRecDepth 100000
def Inj17 (S S':List By):Prop:=∀ p ∈ S,∀ q ∈ S',dig p = dig q → p = q
theorem Inj17.left {A B C:List By} (h:Inj17 (A ++ B) C):Inj17 A C:=fun p hp => h p (List.mem_append_left _ hp)
theorem Inj17.right {A B C:List By} (h:Inj17 (A ++ B) C):Inj17 B C:=fun p hp => h p (List.mem_append_right _ hp)
theorem Inj17.sub {A A' B B':List By} (h:Inj17 A B) (ha:∀ p ∈ A',p ∈ A) (hb:∀ p ∈ B',p ∈ B):Inj17 A' B':=fun p hp q hq => h p (ha p hp) q (hb q hq)
theorem halves_eq {d e:Nat} {l m:List Lf} (hl:Up l) (hm:Up m) (h0:halfL l d false = halfL m e false) (h1:halfL l d true = halfL m e true):l = m:=by
  refine up_ext hl hm fun p => ?_
  have key:∀ {l:List Lf} {d:Nat},p ∈ l ↔ p ∈ halfL l d false ∨ p ∈ halfL l d true:=fun {l d} => by
    rw [mem_halfL,mem_halfL]
    cases bt p.1 d <;> simp
  rw [key (l:=l) (d:=d),key (l:=m) (d:=e),h0,h1]
theorem Pc.same {d1:Nat} {l1:List Lf} {t1:By} {S1:List By} (h1:Pc d1 l1 t1 S1):∀ {d2:Nat} {l2:List Lf} {t2:By} {S2:List By} (r1 r2:By),Pc d2 l2 t2 S2 → Inj17 S1 S2 → t1 ++ r1 = t2 ++ r2 → l1 = l2 ∧ t1 = t2 ∧ r1 = r2:=by
  induction h1 with
  | few d l hF hd hl =>
    intro d2 l2 t2 S2 r1 r2 h2 hI he
    have key:∀ {m:List Lf},okLf m → m.length < 2 → oneP1 l ++ r1 = oneP1 m ++ r2 → l = m ∧ oneP1 l = oneP1 m ∧ r1 = r2:=fun {m} hm hm2 he => by
      have ho:=hF.1
      match l,m,hl,hm2,ho,hm,he with
      | [],[],_,_,_,_,he => exact ⟨rfl,rfl,by simpa [oneP1] using he⟩
      | [],[q],_,_,_,_,he => simp [oneP1] at he
      | [p],[],_,_,_,_,he => simp [oneP1] at he
      | [p],[q],_,_,ho,hm,he =>
        have hp:=ho p (by simp)
        have hq:=hm q (by simp)
        simp only [oneP1,List.cons_append,List.cons.injEq,true_and,List.append_assoc] at he
        have e1:=List.append_inj he (by rw [hp.1,hq.1])
        have e2:=List.append_inj e1.2 (by rw [hp.2,hq.2])
        have e3:p = q:=Prod.ext e1.1 e2.1
        subst e3
        exact ⟨rfl,rfl,e2.2⟩
    have hhd:∀ x:BitVec 8,∀ r,oneP1 l ++ r1 = x :: r → x = 0 ∨ x = 1:=fun x r he => by
      match l,hl,he with
      | [],_,he => simp only [oneP1,List.cons_append,List.cons.injEq] at he;exact Or.inl he.1.symm
      | [p],_,he => simp only [oneP1,List.cons_append,List.cons.injEq] at he;exact Or.inr he.1.symm
    cases h2 with
    | few _ _ hF2 hd2 hl2 => exact key hF2.1 hl2 he
    | two => rw [List.cons_append] at he;rcases hhd _ _ he with h | h <;> cases h
    | link => rw [List.cons_append] at he;rcases hhd _ _ he with h | h <;> cases h
  | two d l t0 t1 S0 S1 hF hl hp0 hp1 ih0 ih1 =>
    intro d2 l2 t2 S2 r1 r2 h2 hI he
    cases h2 with
    | few _ _ hF2 hd2 hl2 =>
      match l2,hl2,he with
      | [],_,he => simp [oneP1] at he
      | [p],_,he => simp [oneP1] at he
    | two _ _ u0 u1 V0 V1 hF2 hl2 hq0 hq1 =>
      simp only [List.cons_append,List.cons.injEq,true_and,List.append_assoc] at he
      obtain ⟨e1,e2,e3⟩:=ih0 (t1 ++ r1) (u1 ++ r2) hq0 (hI.sub (fun p hp => List.mem_append_left _ hp) fun p hp => List.mem_append_left _ hp) he
      obtain ⟨e4,e5,e6⟩:=ih1 r1 r2 hq1 (hI.sub (fun p hp => List.mem_append_right _ hp) fun p hp => List.mem_append_right _ hp) e3
      exact ⟨halves_eq hF.2.1 hF2.2.1 e1 e4,by rw [e2,e5],e6⟩
    | link => simp at he
  | link d l t S hl ht hp ih =>
    intro d2 l2 t2 S2 r1 r2 h2 hI he
    cases h2 with
    | few _ _ hF2 hd2 hl2 =>
      match l2,hl2,he with
      | [],_,he => simp [oneP1] at he
      | [p],_,he => simp [oneP1] at he
    | two => simp at he
    | link _ _ u V hl2 hu hq =>
      simp only [List.cons_append,List.cons.injEq,true_and] at he
      have e1:=List.append_inj he (by rw [len_dig',len_dig'])
      have e2:t = u:=hI t (by simp) u (by simp) e1.1
      subst e2
      obtain ⟨e3,_,_⟩:=ih [] [] hq (hI.sub (fun p hp => List.mem_cons_of_mem _ hp) fun p hp => List.mem_cons_of_mem _ hp) rfl
      exact ⟨e3,rfl,e1.2⟩
theorem half_all {l:List Lf} {d:Nat} {b:Bool} (h:∀ p ∈ l,bt p.1 d = b):halfL l d b = l:=by
  unfold halfL
  rw [List.filter_eq_self]
  intro p hp
  rw [h p hp]
  simp
theorem Pc.deep {d:Nat} {l:List Lf} {t:By} {S:List By} (h:Pc d l t S):2 ≤ l.length → ∀ {e:Nat} {S':List By},Pc e l t S' → d < e → Inj17 S S' → False:=by
  induction h with
  | few d l hF hd hl => intro h2;omega
  | two d l t0 t1 S0 S1 hF hl hp0 hp1 ih0 ih1 =>
    intro h2 e S' h3 hde hI
    generalize ht:2 :: (t0 ++ t1) = t at h3
    cases h3 with
    | few _ _ _ _ hl3 => omega
    | two _ _ u0 u1 V0 V1 hF3 hl3 hq0 hq1 =>
      simp only [List.cons.injEq,true_and] at ht
      obtain ⟨e1,e2,e3⟩:=hp0.same t1 u1 hq0 (hI.sub (fun p hp => List.mem_append_left _ hp) fun p hp => List.mem_append_left _ hp) ht
      obtain ⟨e4,e5,_⟩:=hp1.same [] [] hq1 (hI.sub (fun p hp => List.mem_append_right _ hp) fun p hp => List.mem_append_right _ hp) (by rw [e3])
      obtain ⟨p0,hp0m⟩:∃ p,p ∈ l:=⟨l[0]'(by omega),List.getElem_mem _⟩
      have hall:∀ p ∈ l,bt p.1 d = bt p0.1 d:=fun p hp => hF3.2.2 p hp p0 hp0m d hde
      cases hb:bt p0.1 d with
      | false =>
        have hh:=half_all (l:=l) (d:=d) (b:=false) (fun p hp => by rw [hall p hp,hb])
        subst e2
        refine ih0 (by rw [hh];exact h2) (S':=V0) (e:=e + 1) (by rw [e1];exact hq0) (by omega) (hI.sub (fun p hp => List.mem_append_left _ hp) fun p hp => List.mem_append_left _ hp)
      | true =>
        have hh:=half_all (l:=l) (d:=d) (b:=true) (fun p hp => by rw [hall p hp,hb])
        subst e5
        refine ih1 (by rw [hh];exact h2) (S':=V1) (e:=e + 1) (by rw [e4];exact hq1) (by omega) (hI.sub (fun p hp => List.mem_append_right _ hp) fun p hp => List.mem_append_right _ hp)
    | link => cases ht
  | link d l t S hl ht hp ih =>
    intro h2 e S' h3 hde hI
    generalize ht2:3 :: dig t = t2 at h3
    cases h3 with
    | few _ _ _ _ hl3 => omega
    | two => cases ht2
    | link _ _ u V hl3 hu hq =>
      simp only [List.cons.injEq,true_and] at ht2
      have e2:t = u:=hI t (by simp) u (by simp) ht2
      subst e2
      exact ih h2 hq hde (hI.sub (fun p hp => List.mem_cons_of_mem _ hp) fun p hp => List.mem_cons_of_mem _ hp)
theorem save_mem:∀ (f d:Nat) (l:List Lf),256 = d + f → Fits l d → 2 ≤ l.length → ∀ p ∈ saveL d l,∃ d' l',d ≤ d' ∧ Fits l' d' ∧ 2 ≤ l'.length ∧ Pc d' l' p (saveL d' l').tail ∧ (∀ q ∈ (saveL d' l').tail,q ∈ saveL d l) ∧ ∀ x ∈ l',x ∈ l:=by
  intro f
  induction f with
  | zero => intro d l hd hF h2;have:=hF.lt h2;omega
  | succ f ih =>
    intro d l hd hF h2 p hp
    rcases Nat.lt_or_ge 512 (wholeL d l).length with h | h
    · have e:=save_more (by omega) h
      have hp2:=hp
      rw [e] at hp
      have hr:∀ b,p ∈ restPg (d + 1) (halfL l d b) → ∃ d' l',d ≤ d' ∧ Fits l' d' ∧ 2 ≤ l'.length ∧ Pc d' l' p (saveL d' l').tail ∧ (∀ q ∈ (saveL d' l').tail,q ∈ saveL d l) ∧ ∀ x ∈ l',x ∈ l:=fun b hb => by
        unfold restPg at hb
        split at hb
        · cases hb
        · rename_i h3
          obtain ⟨d',l',a1,a2,a3,a4,a5,a6⟩:=ih (d + 1) (halfL l d b) (by omega) (hF.half b) (by omega) p hb
          refine ⟨d',l',by omega,a2,a3,a4,fun q hq => ?_,fun x hx => (mem_halfL.1 (a6 x hx)).1⟩
          have h4:=a5 q hq
          rw [e]
          refine List.mem_cons_of_mem _ ?_
          have h5:q ∈ restPg (d + 1) (halfL l d b):=by unfold restPg;rw [if_neg h3];exact h4
          cases b with
          | false => exact List.mem_append_left _ h5
          | true => exact List.mem_append_right _ h5
      rcases List.mem_cons.1 hp with hp | hp
      · refine ⟨d,l,Nat.le_refl _,hF,h2,?_,fun q hq => by rw [save_top];exact List.mem_cons_of_mem _ hq,fun x hx => hx⟩
        rw [hp,← top_more (by omega) h]
        exact top_pc (f + 1) d l hd hF
      · rcases List.mem_append.1 hp with hp | hp
        · exact hr false hp
        · exact hr true hp
    · refine ⟨d,l,Nat.le_refl _,hF,h2,?_,fun q hq => by rw [save_top];exact List.mem_cons_of_mem _ hq,fun x hx => hx⟩
      rw [save_one h] at hp
      rw [List.mem_singleton.1 hp,← top_one h]
      exact top_pc (f + 1) d l hd hF
theorem save_nodup:∀ (f d:Nat) (l:List Lf),256 = d + f → Fits l d → Inj17 (saveL d l) (saveL d l) → (saveL d l).Nodup:=by
  intro f
  induction f with
  | zero =>
    intro d l hd hF _
    have hs:(wholeL d l).length ≤ 512:=by
      rcases Nat.lt_or_ge 512 (wholeL d l).length with h | h
      · have:=(long_two hF h).2;omega
      · exact h
    rw [save_one hs];simp
  | succ f ih =>
    intro d l hd hF hI
    rcases Nat.lt_or_ge 512 (wholeL d l).length with h | h
    · have h2:=(long_two hF h).1
      have e:=save_more (show d < 256 by omega) h
      have hsub:∀ b,∀ p ∈ restPg (d + 1) (halfL l d b),p ∈ saveL d l:=fun b p hp => by
        rw [e]
        refine List.mem_cons_of_mem _ ?_
        cases b with
        | false => exact List.mem_append_left _ hp
        | true => exact List.mem_append_right _ hp
      have hnd:∀ b,(restPg (d + 1) (halfL l d b)).Nodup:=fun b => by
        have h3:=hsub b
        unfold restPg at h3 ⊢
        split
        · simp
        · rename_i h4
          rw [if_neg h4] at h3
          exact ih (d + 1) _ (by omega) (hF.half b) (hI.sub h3 h3)
      have hat:∀ b,∀ p ∈ restPg (d + 1) (halfL l d b),∃ d' l',d < d' ∧ Fits l' d' ∧ 2 ≤ l'.length ∧ Pc d' l' p (saveL d' l').tail ∧ (∀ q ∈ (saveL d' l').tail,q ∈ saveL d l) ∧ ∀ x ∈ l',x ∈ halfL l d b:=fun b p hp => by
        have h3:=hsub b
        unfold restPg at hp h3
        split at hp
        · cases hp
        · rename_i h4
          rw [if_neg h4] at h3
          obtain ⟨d',l',a1,a2,a3,a4,a5,a6⟩:=save_mem f (d + 1) _ (by omega) (hF.half b) (by omega) p hp
          exact ⟨d',l',by omega,a2,a3,a4,fun q hq => h3 q (a5 q hq),a6⟩
      have htop:∀ b,topPg d l ∉ restPg (d + 1) (halfL l d b):=fun b hm => by
        obtain ⟨d',l',a1,a2,a3,a4,a5,a6⟩:=hat b _ hm
        have hpc:=top_pc (f + 1) d l hd hF
        have hJ:Inj17 (saveL d l).tail (saveL d' l').tail:=hI.sub (fun q hq => by rw [save_top];exact List.mem_cons_of_mem _ hq) a5
        obtain ⟨e1,_,_⟩:=hpc.same [] [] a4 hJ rfl
        subst e1
        exact hpc.deep h2 a4 a1 hJ
      rw [e,← top_more (by omega) h]
      refine List.nodup_cons.2 ⟨fun hm => ?_,List.nodup_append.2 ⟨hnd false,hnd true,fun p hp q hq hpq => ?_⟩⟩
      · rcases List.mem_append.1 hm with hm | hm
        · exact htop false hm
        · exact htop true hm
      · subst hpq
        obtain ⟨d1,l1,a1,a2,a3,a4,a5,a6⟩:=hat false _ hp
        obtain ⟨d2,l2,b1,b2,b3,b4,b5,b6⟩:=hat true _ hq
        obtain ⟨e1,_,_⟩:=a4.same [] [] b4 (hI.sub a5 b5) rfl
        subst e1
        have hm:l1[0]'(by omega) ∈ l1:=List.getElem_mem _
        have c1:=(mem_halfL.1 (a6 _ hm)).2
        have c2:=(mem_halfL.1 (b6 _ hm)).2
        rw [c1] at c2
        cases c2
    · rw [save_one h];simp
end Go.Proofs.YtphmmnffgknkcaaGreatDoor
namespace Go.Proofs.YtphmmnffgknkcaaGreatDoor
open Go.RowKit
set_option maxRecDepth 100000
def ScI (x y:List (BitVec 8)) (g0 g1:Nat) (w:World) (k:Nat) (W:World):Prop:=Blk W g0 (cb x) 39 ∧ Blk W g1 (cb y) 39 ∧ Below w.heap.size w W ∧ ∀ j,j < k → bt x j = bt y j
theorem ScI.over {x y:List (BitVec 8)} {g0 g1 k:Nat} {w W W':World} (h:ScI x y g0 g1 w k W) (ho:Over W.drew W'):ScI x y g0 g1 w k W':=
  ⟨ho.blk h.1.drew,ho.blk h.2.1.drew,h.2.2.1.drew.trans (Below.mono ho h.2.2.1.size),h.2.2.2⟩
end Go.Proofs.YtphmmnffgknkcaaGreatDoor
namespace Go.Proofs.YtphmmnffgknkcaaGreatDoor
open Go.RowKit
set_option maxRecDepth 100000
structure SuI (x:List (BitVec 8)) (n:Int) (g0 gr:Nat) (w:World) (k:Nat) (d:List (BitVec 8)) (W:World):Prop where
  b0:Blk W g0 (cb d) 39
  br:Blk W gr (cb zb32) 39
  bel:Below w.heap.size w W
  len:d.length = 32
  bits:∀ j,j < 256 → bt d j = (bt x j && !(decide (j < k) && decide (n ≤ (j:Int))))
end Go.Proofs.YtphmmnffgknkcaaGreatDoor
namespace Go.Proofs.YtphmmnffgknkcaaGreatDoor
open Go.RowKit
set_option maxRecDepth 100000
theorem bytes_cb (x:List (BitVec 8)):Lib.bytesOf (x.map fun b => (b.toNat:Int)) = x.map UInt8.ofBitVec:=by
  simp only [Lib.bytesOf,List.map_map]
  apply List.map_congr_left
  intro b _
  apply UInt8.toNat_inj.1
  simp
set_option maxHeartbeats 1000000 in
theorem pUnder_any (x y:List (BitVec 8)) (hx:x.length = 32) (hy:y.length = 32) (n:Int) (w:World):Calls Tryz.prog 87 #[.agg (cb x).toArray,.agg (cb y).toArray,.int .i64 n] w fun e w' => e = .returned (.bool (decide (n ≤ (common x y:Int)))) ∧ Below w.heap.size w w':=by
  have HX:Hid (x.length = 32):=hx
  have HY:Hid (y.length = 32):=hy
  clear hx hy
  go_enter Tryz.func87,Tryz.ntmps87
  go_wp2_with (first
    | (with_reducible refine wpSeq_boxD (.tmp 0) x ?_ ?_ ?_ ?_
       · rfl
       · rfl
       · rfl
       intro g0 w1 n1)
    | (with_reducible refine wpSeq_boxD (.tmp 1) y ?_ ?_ ?_ ?_
       · rfl
       · rfl
       · rfl
       intro g1 w2 n2
       have H0:Hid (Blk w2 g0 (cb x) 39):=n1.blk.below n2.below n1.blk.lt
       have H1:Hid (Blk w2 g1 (cb y) 39):=n2.blk
       have HBW:Hid (Below w.heap.size w w2):=n1.below.trans (n2.below.mono n1.below.size)
       clear n1 n2)
    | (with_reducible refine wpSeq_loadD (.tmp 3) g0 x ?_ ?_ ?_ ?_ ?_ ?_
       · exact HX.out
       · exact H0.out
       · rfl
       · rfl
       · rfl)
    | (with_reducible refine wpSeq_loadD (.tmp 4) g1 y ?_ ?_ ?_ ?_ ?_ ?_
       · exact HY.out
       · exact H1.out
       · rfl
       · rfl
       · rfl)
    | (go_at_call 109;refine (pCommon_any x y HX.out HY.out _).mono ?_;rintro e w3 ⟨rfl,hb3⟩
       replace HBW:Hid (Below w.heap.size w w3):=HBW.out.trans (hb3.mono HBW.out.size)
       clear hb3))
  go_ret
  exact ⟨rfl,HBW.out⟩
structure SlI (x y:List (BitVec 8)) (g0 g1:Nat) (w:World) (k:Nat) (W:World):Prop where
  b0:Blk W g0 (cb x) 39
  b1:Blk W g1 (cb y) 39
  bel:Below w.heap.size w W
  eq:∀ j,j < k → x.getD j 0 = y.getD j 0
theorem SlI.drew {x y:List (BitVec 8)} {g0 g1 k:Nat} {w W:World} (h:SlI x y g0 g1 w k W):SlI x y g0 g1 w k W.drew:=⟨h.b0.drew,h.b1.drew,h.bel.drew,h.eq⟩
set_option maxRecDepth 100000 in
set_option maxHeartbeats 2000000 in
theorem sLess_any (x y:List (BitVec 8)) (hx:x.length = 32) (hy:y.length = 32) (w:World):Calls Tryz.prog 27 #[.agg (cb x).toArray,.agg (cb y).toArray] w fun e w' => e = .returned (.bool (lessB x y)) ∧ Below w.heap.size w w':=by
  have HX:Hid (x.length = 32):=hx
  have HY:Hid (y.length = 32):=hy
  clear hx hy
  obtain ⟨o,HO⟩:∃ o,Hid (o = lessB x y):=⟨_,rfl⟩
  rw [← HO.out]
  go_enter Tryz.func27,Tryz.ntmps27
  go_wp2_with (first
    | (with_reducible refine wpSeq_boxD (.tmp 0) x ?_ ?_ ?_ ?_
       · rfl
       · rfl
       · rfl
       intro g0 w1 n1)
    | (with_reducible refine wpSeq_boxD (.tmp 1) y ?_ ?_ ?_ ?_
       · rfl
       · rfl
       · rfl
       intro g1 w2 n2
       have HI:Hid (SlI x y g0 g1 w 0 w2):=⟨n1.blk.below n2.below n1.blk.lt,n2.blk,n1.below.trans (n2.below.mono n1.below.size),by omega⟩
       clear n1 n2))
  go_loopw [5] (fun i wr => ∃ k:Nat,k ≤ 32 ∧ i = .int .i64 (k:Int) ∧ SlI x y g0 g1 w k wr) (fun i _ => 32 - (intOf i).toNat)
  case atStart => exact ⟨0,by omega,rfl,HI.out⟩
  case round =>
    clear HI
    obtain ⟨k,hk,rfl,hI⟩:=hrel
    have HI:Hid (SlI x y g0 g1 w k wr):=hI
    clear hI
    by_cases hlt:k < 32
    · have k0:(0:Int) ≤ (k:Int):=by omega
      have k1:(k:Int) < 32:=by omega
      obtain ⟨a,HA⟩:∃ a,Hid (a = x.getD k 0):=⟨_,rfl⟩
      obtain ⟨b,HB⟩:∃ b,Hid (b = y.getD k 0):=⟨_,rfl⟩
      have hca:wr.cell? ⟨g0,k,none⟩ = some (.int .u8 (a.toNat:Int)):=by rw [HI.out.b0.cell,cb_get x k (by rw [HX.out];exact hlt),HA.out]
      have hcb:wr.cell? ⟨g1,k,none⟩ = some (.int .u8 (b.toNat:Int)):=by rw [HI.out.b1.cell,cb_get y k (by rw [HY.out];exact hlt),HB.out]
      have f5:IntKind.i64.wrap ((k:Int) + 1) = (k:Int) + 1:=wrap_small _ (by omega) (by omega)
      have HLT:Hid (k < 32):=hlt
      clear hlt hk
      by_cases heq:a = b
      · have HE:Hid (∀ j,j < k + 1 → x.getD j 0 = y.getD j 0):=by
          intro j hj
          rcases Nat.lt_or_ge j k with h | h
          · exact HI.out.eq j h
          · obtain rfl:j = k:=by omega
            rw [← HA.out,← HB.out,heq]
        subst heq
        go_wp2_with fail
        go_region_held3 (fun wx => wx.cell? ⟨g0,k,none⟩ = some (.int .u8 (a.toNat:Int)) ∧ wx.cell? ⟨g1,k,none⟩ = some (.int .u8 (a.toNat:Int))) (go_keep) (fail)
        go_wp2
        go_roundw
        case rel => exact ⟨k + 1,by have:=HLT.out;omega,by simp,HI.out.drew.b0,HI.out.drew.b1,HI.out.drew.bel,HE.out⟩
        case measure => simp [intOf];omega
      · have hne:(a.toNat:Int) ≠ (b.toNat:Int):=fun h => heq (BitVec.eq_of_toNat_eq (by omega))
        have hne2:((a.toNat:Int) != (b.toNat:Int)) = true:=by rw [bne_iff_ne];exact hne
        have HR:Hid (o = decide ((a.toNat:Int) < (b.toNat:Int))):=by
          show _ = _
          rw [HO.out,lessB_at k x y (by rw [HX.out,HY.out]) (by rw [HX.out];exact HLT.out) HI.out.eq (by rw [← HA.out,← HB.out];exact heq),← HA.out,← HB.out,decide_eq_decide]
          omega
        clear heq hne
        go_wp2_with fail
        go_region_held3 (fun wx => wx.cell? ⟨g0,k,none⟩ = some (.int .u8 (a.toNat:Int)) ∧ wx.cell? ⟨g1,k,none⟩ = some (.int .u8 (b.toNat:Int))) (go_keep) (fail)
        go_wp2_with fail
        have HBL:Hid (Below w.heap.size w wr.drew):=HI.out.bel.drew
        have hca2:wr.drew.cell? ⟨g0,k,none⟩ = some (.int .u8 (a.toNat:Int)):=hca
        have hcb2:wr.drew.cell? ⟨g1,k,none⟩ = some (.int .u8 (b.toNat:Int)):=hcb
        clear hca hcb HI
        generalize wr.drew = wq at *
        go_region_held3 (fun wx => wx.cell? ⟨g0,k,none⟩ = some (.int .u8 (a.toNat:Int)) ∧ wx.cell? ⟨g1,k,none⟩ = some (.int .u8 (b.toNat:Int))) (go_keep) (fail)
        go_wp2
        go_ret
        exact ⟨by rw [HR.out];simp,HBL.out.drew⟩
    · have hk32:k = 32:=by omega
      subst hk32
      have HR:Hid (o = false):=by show _ = _;rw [HO.out];exact lessB_none x y (by rw [HX.out,HY.out]) (fun j hj => HI.out.eq j (by rw [HX.out] at hj;exact hj))
      go_wp2
      go_ret
      exact ⟨by rw [HR.out];rfl,HI.out.bel⟩
end Go.Proofs.YtphmmnffgknkcaaGreatDoor
namespace Go.Proofs.YtphmmnffgknkcaaGreatDoor
open Go.RowKit
set_option maxRecDepth 100000
theorem wrap_small2 (k:Int) (h0:0 ≤ k) (h1:k < 1000000000):IntKind.i64.wrap k = k:=by simp [IntKind.wrap,IntKind.bits,IntKind.signed];omega
def flatD (ds:List (List (BitVec 8))):List Value:=(ds.map cb).flatten
def OwnD (w:World) (base:Nat) (v:Value) (ds:List (List (BitVec 8))):Prop:=w.ownsRow base 39 32 v ds.length (flatD ds) ∧ ∀ d ∈ ds,d.length = 32
theorem OwnD.one {w:World} {base:Nat} {v:Value} {ds:List (List (BitVec 8))} (h:OwnD w base v ds):v.oneCell' = true:=by
  rcases h.1 with ⟨_,⟨rfl,_⟩ | ⟨g,cap,cur,rfl,_⟩⟩
  · rfl
  · rfl
theorem OwnD.keep {w w':World} {base:Nat} {v:Value} {ds:List (List (BitVec 8))} (h:OwnD w base v ds) (hs:∀ k,base ≤ k → k < w.heap.size → w'.heap[k]? = w.heap[k]?):OwnD w' base v ds:=by
  refine ⟨?_,h.2⟩
  have hlt:=World.ownsRow.lt h.1
  rcases h.1 with ⟨h1,⟨rfl,h2⟩ | ⟨g,cap,cur,rfl,hg,hh,h3⟩⟩
  · exact ⟨h1,Or.inl ⟨rfl,h2⟩⟩
  · exact ⟨h1,Or.inr ⟨g,cap,cur,rfl,hg,by rw [hs g hg (hlt g rfl).2];exact hh,h3⟩⟩
theorem OwnD.mono {w:World} {base B:Nat} {v:Value} {ds:List (List (BitVec 8))} (h:OwnD w base v ds) (hB:B ≤ base):OwnD w B v ds:=by
  refine ⟨?_,h.2⟩
  rcases h.1 with ⟨h1,⟨rfl,h2⟩ | ⟨g,cap,cur,rfl,hg,hh⟩⟩
  · exact ⟨h1,Or.inl ⟨rfl,h2⟩⟩
  · exact ⟨h1,Or.inr ⟨g,cap,cur,rfl,Nat.le_trans hB hg,hh⟩⟩
def nilV:Value:=.slice none 0 0
theorem fill_one (cs:List Value) (h:cs.length = 32) (a0:Array Value) (ha:a0.size = 32):Instr.fill (fun i => some (i * 32,32)) a0 [(0,.agg cs.toArray)] = some cs.toArray:=by
  have hc:(Value.agg cs.toArray).cells = cs.toArray:=rfl
  simp only [Instr.fill,hc,List.size_toArray,h,ha]
  rw [if_neg (by decide)]
  congr 1
  match cs,h with
  | [x0,x1,x2,x3,x4,x5,x6,x7,x8,x9,x10,x11,x12,x13,x14,x15,x16,x17,x18,x19,x20,x21,x22,x23,x24,x25,x26,x27,x28,x29,x30,x31],_ =>
    obtain ⟨l⟩:=a0
    match l,ha with
    | [y0,y1,y2,y3,y4,y5,y6,y7,y8,y9,y10,y11,y12,y13,y14,y15,y16,y17,y18,y19,y20,y21,y22,y23,y24,y25,y26,y27,y28,y29,y30,y31],_ =>
      refine id ?_
      show _ = _
      kernel_rfl
theorem Tryz.infod3:(Tryz.prog.info? 39).map (fun i => (i.zero,i.size,i.bytes)) = some (some (.agg (cb zb32).toArray),32,32):=by kernel_rfl
theorem buildD (f:Operand → Value) (o:Oper) (x:Operand) (ho:o.op = .buildSlice 22 1 #[(0,x)]) (d:List (BitVec 8)) (hd:d.length = 32) (hx:f x = .agg (cb d).toArray) (w:World) :
    (execOp f o).run Tryz.prog w = .ok (.value (.slice (some ⟨w.heap.size,0,none⟩) 1 1)) (w.alloc (.cells (cb d).toArray 39)):=by
  obtain ⟨i0,hi,hz,hs,_⟩:=info_parts Tryz.infod3
  have hr:=run_buildSlice (P:=Tryz.prog) w 22 39 1 #[(0,.agg (cb d).toArray)] (cb d).toArray i0 _ Tryz.underlying22 hi hz (by rw [hs];decide) (by rw [hs];decide) (by rw [hs];exact fill_one (cb d) (by rw [cb_len,hd]) _ (by simp))
  unfold execOp
  rw [ho]
  simp only [List.map_toArray,List.map_cons,List.map_nil,hx,Sem.run_bind,hr,Result.andThen_ok,Sem.run_pure]
theorem flatD_len (ds:List (List (BitVec 8))) (h:∀ d ∈ ds,d.length = 32):(flatD ds).length = ds.length * 32:=by
  unfold flatD
  induction ds with
  | nil => rfl
  | cons d r ih =>
    rw [List.map_cons,List.flatten_cons,List.length_append,cb_len,h d (by simp),ih (fun x hx => h x (by simp [hx])),List.length_cons]
    omega
theorem flatD_snoc (ds:List (List (BitVec 8))) (d:List (BitVec 8)):flatD (ds ++ [d]) = flatD ds ++ cb d:=by
  unfold flatD
  simp
theorem OwnD.lt {w:World} {base:Nat} {v:Value} {ds:List (List (BitVec 8))} (h:OwnD w base v ds):∀ k,v.ownBlock = some k → base ≤ k ∧ k < w.heap.size:=World.ownsRow.lt h.1
theorem OwnD.nil (w:World) (base:Nat):OwnD w base nilV []:=⟨World.ownsRow_nil _ _ _ _,by simp⟩
theorem OwnD.slice {w:World} {base:Nat} {v:Value} {ds:List (List (BitVec 8))} (h:OwnD w base v ds):∃ ad c,v = .slice ad ds.length c:=by
  rcases h.1 with ⟨_,⟨rfl,h2⟩ | ⟨g,cap,cur,rfl,_⟩⟩
  · exact ⟨none,0,by rw [h2]⟩
  · exact ⟨_,_,rfl⟩
def ReadsD (w:World) (v:Value) (ds:List (List (BitVec 8))):Prop:=
  (∃ ad cap,v = .slice ad ds.length cap ∧ ds.length ≤ cap ∧ (ad = none → cap = 0) ∧ (0 < ds.length → ∃ b off,ad = some ⟨b,off,none⟩ ∧ ∀ j,j < ds.length → w.rangeAt b (off + j * 32) (cb (ds.getD j [])))) ∧ ∀ d ∈ ds,d.length = 32
theorem rangeAt_lt {w:World} {b off:Nat} {d:List (BitVec 8)} (h:w.rangeAt b off (cb d)) (hd:d.length = 32):b < w.heap.size:=by
  have:=h 0 _ (cb_get d 0 (by omega))
  exact block_lt_of_cell this
theorem rangeAt_below {w w':World} {b off B:Nat} {cs:List Value} (h:w.rangeAt b off cs) (hb:Below B w w') (hB:b < B):w'.rangeAt b off cs:=fun j v hj => by
  rw [hb.cell (p:=⟨b,off + j,none⟩) hB]
  exact h j v hj
theorem getD_mem32 {ds:List (List (BitVec 8))} (h:∀ d ∈ ds,d.length = 32) {j:Nat} (hj:j < ds.length):(ds.getD j []).length = 32:=by
  rw [List.getD_eq_getElem?_getD,List.getElem?_eq_getElem hj]
  exact h _ (List.getElem_mem hj)
theorem ReadsD.below {w w':World} {v:Value} {ds:List (List (BitVec 8))} (h:ReadsD w v ds) (hb:Below w.heap.size w w'):ReadsD w' v ds:=by
  obtain ⟨⟨ad,cap,hv,hc,hn,hx⟩,h32⟩:=h
  refine ⟨⟨ad,cap,hv,hc,hn,fun hp => ?_⟩,h32⟩
  obtain ⟨b,off,rfl,hy⟩:=hx hp
  exact ⟨b,off,rfl,fun j hj => rangeAt_below (hy j hj) hb (rangeAt_lt (hy j hj) (getD_mem32 h32 hj))⟩
theorem flatD_at {ds:List (List (BitVec 8))} (h:∀ d ∈ ds,d.length = 32):∀ (j i:Nat) (v:Value),j < ds.length → (cb (ds.getD j []))[i]? = some v → (flatD ds)[j * 32 + i]? = some v:=by
  unfold flatD
  induction ds with
  | nil => intro j i v hj;simp at hj
  | cons d r ih =>
    intro j i v hj hv
    rw [List.map_cons,List.flatten_cons]
    cases j with
    | zero =>
      rw [List.getD_cons_zero] at hv
      have hi:i < (cb d).length:=(List.getElem?_eq_some_iff.1 hv).1
      rw [Nat.zero_mul,Nat.zero_add,List.getElem?_append_left hi,hv]
    | succ j =>
      rw [List.getD_cons_succ] at hv
      have hl:(cb d).length = 32:=by rw [cb_len,h d (by simp)]
      rw [List.getElem?_append_right (by rw [hl];omega),hl,show (j + 1) * 32 + i - 32 = j * 32 + i by omega]
      exact ih (fun x hx => h x (by simp [hx])) j i v (by simpa using hj) hv
theorem OwnD.readsD {w:World} {base:Nat} {v:Value} {ds:List (List (BitVec 8))} (h:OwnD w base v ds):ReadsD w v ds:=by
  refine ⟨?_,h.2⟩
  rcases h.1 with ⟨h1,⟨rfl,h2⟩ | ⟨g,cap,cur,rfl,hg,hh,hc,hm,hs,ht⟩⟩
  · exact ⟨none,0,by rw [h2],by omega,fun _ => rfl,fun hp => by omega⟩
  · refine ⟨_,cap,rfl,hc,fun h => (by cases h),fun hp => ⟨g,0,rfl,fun j hj i v hv => ?_⟩⟩
    have hi:i < 32:=by have:=(List.getElem?_eq_some_iff.1 hv).1;rwa [cb_len,getD_mem32 h.2 hj] at this
    have hf:=flatD_at h.2 j i v hj hv
    rw [← ht,List.getElem?_take] at hf
    rw [cell_of_row w g _ cur 39 (0,0) hh,Nat.zero_add]
    rw [if_pos (by
      have:(j + 1) * 32 ≤ ds.length * 32:=Nat.mul_le_mul_right 32 hj
      omega)] at hf
    simpa using hf
structure Grow (base:Nat) (w:World) (v:Value) (w':World) (v':Value):Prop where
  below:Below base w w'
  other:∀ k,some k ≠ v.ownBlock → k < w.heap.size → w'.heap[k]? = w.heap[k]?
  lies:v'.ownBlock = v.ownBlock ∨ v'.ownBlock = some w.heap.size
theorem wpSeq_appendD {ops:Array Oper} {Q:Exit → Act → World → Prop} {rest:List Oper} {o:Oper} {a:Act} {w:World} (s x:Operand) (base:Nat) (v:Value) (ds:List (List (BitVec 8))) (d:List (BitVec 8)) (g:Nat)
    (hown:OwnD w base v ds) (hu:Blk w g (cb d) 39) (hd:d.length = 32) (hl:ds.length < 2000000) (hbase:base ≤ w.heap.size)
    (ho:o.op = .call { callee:=.builtin .append,args:=#[s,x],argTypes:=#[22,22] }) (hs:a.eval s = v) (hx:a.eval x = .slice (some ⟨g,0,none⟩) 1 1) (hgd:o.guard = none)
    (h:∀ v' w',OwnD w' base v' (ds ++ [d]) → Grow base w v w' v' → wpList Tryz.prog ops Q rest (a.put o.dst v') w'):wpList Tryz.prog ops Q (o :: rest) a w:=by
  obtain ⟨i0,hi,hz0,hz1,hz2⟩:=info_parts Tryz.infod3
  refine wpList_append_own_at w hgd s x 22 ho base 39 i0 (.agg (cb zb32).toArray) 32 32 Tryz.underlying22 hi hz0 hz1 hz2 (by show (cb zb32).toArray.size = 32;rw [List.size_toArray,cb_len];rfl) (by decide) v ds.length (flatD ds) hs hown.1 ⟨g,0,none⟩ 1 1 (cb d) hx (by rw [cb_len,hd]) ?_ (cb_one d) (by unfold maxLen;omega) (by omega) hbase ?_
  · intro j u hj
    rw [Addr.add_mid,Nat.zero_add,hu.cell,hj]
  · intro v' w' h2 h3 _ h5
    refine h v' w' ⟨?_,?_⟩ ⟨(Below.refl _ _).grown h3 hbase (fun k hk => (hown.lt k hk).1),fun k hk hlt => h3.block k hlt hk,h5⟩
    · rw [flatD_snoc,List.length_append];exact h2
    · intro e he
      rcases List.mem_append.1 he with he | he
      · exact hown.2 e he
      · rw [List.mem_singleton] at he;subst he;exact hd
theorem wpSeq_buildD {ops:Array Oper} {Q:Exit → Act → World → Prop} {rest:List Oper} {o:Oper} {a:Act} {w:World} (x:Operand) (d:List (BitVec 8)) (hd:d.length = 32) (ho:o.op = .buildSlice 22 1 #[(0,x)]) (hx:a.eval x = .agg (cb d).toArray) (hw:Region.wanted o (yielded ops a.tmps) = true)
    (h:∀ g w',NewB d w g w' → wpList Tryz.prog ops Q rest (a.put o.dst (.slice (some ⟨g,0,none⟩) 1 1)) w'):wpList Tryz.prog ops Q (o :: rest) a w:=
  wpSeq_val _ _ hw (buildD _ o x ho d hd hx w) (h _ _ (NewB.of d w))
theorem wpSeq_loadAt {ops:Array Oper} {Q:Exit → Act → World → Prop} {rest:List Oper} {o:Oper} {a:Act} {w:World} (x:Operand) (b of:Nat) (l:List (BitVec 8)) (hl:l.length = 32) (hb:w.rangeAt b of (cb l)) (ho:o.op = .load 39 x) (hx:a.eval x = .pointer (some ⟨b,of,none⟩)) (hw:Region.wanted o (yielded ops a.tmps) = true)
    (h:wpList Tryz.prog ops Q rest (a.put o.dst (.agg (cb l).toArray)) w):wpList Tryz.prog ops Q (o :: rest) a w:=
  wpSeq_val _ _ hw (load_run 39 x ho b of hx (cb l) _ hb Tryz.underlying39 rfl (by rw [cb_len,hl];exact info_digest)) h
structure PpI (ds:List (List (BitVec 8))) (i:Int) (w:World) (k:Nat) (v1 v2:Value) (W:World):Prop where
  o1:OwnD W w.heap.size v1 ((ds.take k).filter fun d => !bitI d i)
  o2:OwnD W w.heap.size v2 ((ds.take k).filter fun d => bitI d i)
  ne:∀ j,v1.ownBlock = some j → v2.ownBlock ≠ some j
  bel:Below w.heap.size w W
theorem PpI.next {ds:List (List (BitVec 8))} {i:Int} {w:World} {k:Nat} {v1 v2:Value} {W W':World} (h:PpI ds i w k v1 v2 W) (hb:Below W.heap.size W W'):PpI ds i w k v1 v2 W':=
  ⟨h.o1.keep fun j _ hj => hb.block j hj,h.o2.keep fun j _ hj => hb.block j hj,h.ne,h.bel.trans (hb.mono h.bel.size)⟩
theorem take_next {ds:List (List (BitVec 8))} {k:Nat} (hk:k < ds.length) (p:List (BitVec 8) → Bool):(ds.take (k + 1)).filter p = (ds.take k).filter p ++ (if p (ds.getD k []) then [ds.getD k []] else []):=by
  rw [List.take_add_one,List.getElem?_eq_getElem hk,List.filter_append,List.getD_eq_getElem?_getD,List.getElem?_eq_getElem hk]
  simp only [Option.toList_some,Option.getD_some,List.filter_cons,List.filter_nil]
theorem PpI.on {ds:List (List (BitVec 8))} {i:Int} {w:World} {k:Nat} {v1 v2 v':Value} {W W':World} (h:PpI ds i w k v1 v2 W) (hk:k < ds.length) (hb:bitI (ds.getD k []) i = true) (ho:OwnD W' w.heap.size v' (((ds.take k).filter fun d => bitI d i) ++ [ds.getD k []])) (hg:Grow w.heap.size W v2 W' v'):PpI ds i w (k + 1) v1 v' W':=by
  refine ⟨?_,?_,?_,h.bel.trans hg.below⟩
  · rw [take_next hk,hb]
    simp only [Bool.not_true,Bool.false_eq_true,if_false,List.append_nil]
    have h1:=h.o1
    refine ⟨?_,h1.2⟩
    have hlt:=World.ownsRow.lt h1.1
    rcases h1.1 with ⟨e1,⟨e2,e3⟩ | ⟨g,cap,cur,e2,hgg,hh,h3⟩⟩
    · exact ⟨e1,Or.inl ⟨e2,e3⟩⟩
    · subst e2
      exact ⟨e1,Or.inr ⟨g,cap,cur,rfl,hgg,by rw [hg.other g (fun e => h.ne g rfl e.symm) (hlt g rfl).2];exact hh,h3⟩⟩
  · rw [take_next hk,hb];exact ho
  · intro j hj
    rcases hg.lies with e | e
    · rw [e];exact h.ne j hj
    · rw [e];intro e2;cases e2
      exact absurd (h.o1.lt _ hj).2 (Nat.lt_irrefl _)
theorem PpI.off {ds:List (List (BitVec 8))} {i:Int} {w:World} {k:Nat} {v1 v2 v':Value} {W W':World} (h:PpI ds i w k v1 v2 W) (hk:k < ds.length) (hb:bitI (ds.getD k []) i = false) (ho:OwnD W' w.heap.size v' (((ds.take k).filter fun d => !bitI d i) ++ [ds.getD k []])) (hg:Grow w.heap.size W v1 W' v'):PpI ds i w (k + 1) v' v2 W':=by
  refine ⟨?_,?_,?_,h.bel.trans hg.below⟩
  · rw [take_next hk,hb];exact ho
  · rw [take_next hk,hb]
    simp only [Bool.false_eq_true,if_false,List.append_nil]
    have h1:=h.o2
    refine ⟨?_,h1.2⟩
    have hlt:=World.ownsRow.lt h1.1
    rcases h1.1 with ⟨e1,⟨e2,e3⟩ | ⟨g,cap,cur,e2,hgg,hh,h3⟩⟩
    · exact ⟨e1,Or.inl ⟨e2,e3⟩⟩
    · subst e2
      exact ⟨e1,Or.inr ⟨g,cap,cur,rfl,hgg,by rw [hg.other g (fun e => h.ne g e.symm rfl) (hlt g rfl).2];exact hh,h3⟩⟩
  · intro j hj
    rcases hg.lies with e | e
    · rw [e] at hj;exact h.ne j hj
    · rw [e] at hj;cases hj
      intro e2
      exact absurd (h.o2.lt _ e2).2 (Nat.lt_irrefl _)
end Go.Proofs.YtphmmnffgknkcaaGreatDoor
namespace Go.Proofs.YtphmmnffgknkcaaGreatDoor
open Go.RowKit
set_option maxRecDepth 100000
theorem wpAnyH_law {P:Program} {md:Region.Mode} {ops:Array Oper} {Q:Exit → Act → World → Prop} {S:World → Prop} {fuel:Nat} {listed:Array Bool} {a:Act} {w:World} (i:Nat) {oi:Oper}
    (hr:Region.ready md ops listed = [i]) (hi:ops[i]? = some oi) (hw:Region.wanted oi (yielded ops a.tmps) = true)
    (h:Oper.wp P oi a w (fun a' w' => S w' ∧ wpAnyH P md ops Q S fuel (listed.setIfInBounds i true) a' w') Q):wpAnyH P md ops Q S (fuel + 1) listed a w:=by
  refine wpAnyH_all hr (by simp) (fun j hj => ?_)
  obtain rfl:j = i:=by simpa using hj
  unfold wpOp
  rw [hi]
  simp only [hw,if_true]
  exact Or.inl h
theorem wpAnyH_comm {P:Program} {md:Region.Mode} {ops:Array Oper} {Q:Exit → Act → World → Prop} {S:World → Prop} {fuel:Nat} {listed:Array Bool} {a:Act} {w:World} (i j:Nat) {oi oj:Oper} (v u:Value) (w':World)
    (hr:Region.ready md ops listed = [i,j]) (hi:ops[i]? = some oi) (hj:ops[j]? = some oj)
    (wi:Region.wanted oi (yielded ops a.tmps) = true) (wj:Region.wanted oj (yielded ops a.tmps) = true) (wi2:Region.wanted oi (yielded ops (a.put oj.dst u).tmps) = true) (wj2:Region.wanted oj (yielded ops (a.put oi.dst v).tmps) = true)
    (ei:(execOp a.eval oi).run P w = .ok (.value v) w) (ej:(execOp a.eval oj).run P w = .ok (.value u) w') (ei2:(execOp (a.put oj.dst u).eval oi).run P w' = .ok (.value v) w') (ej2:(execOp (a.put oi.dst v).eval oj).run P w = .ok (.value u) w')
    (hr1:Region.ready md ops (listed.setIfInBounds i true) = [j]) (hr2:Region.ready md ops (listed.setIfInBounds j true) = [i])
    (hp:(a.put oj.dst u).put oi.dst v = (a.put oi.dst v).put oj.dst u) (hl:(listed.setIfInBounds j true).setIfInBounds i true = (listed.setIfInBounds i true).setIfInBounds j true)
    (hS:S w) (hS':S w') (h:wpAnyH P md ops Q S fuel ((listed.setIfInBounds i true).setIfInBounds j true) ((a.put oi.dst v).put oj.dst u) w'):wpAnyH P md ops Q S (fuel + 2) listed a w:=by
  refine wpAnyH_all hr (by simp) (fun k hk => ?_)
  rcases List.mem_cons.1 hk with rfl | hk
  · exact wpOp_vl k v w hi wi ei ⟨hS,wpAnyH_step j u w' hr1 hj wj2 ej2 hS' h⟩
  · obtain rfl:k = j:=by simpa using hk
    refine wpOp_vl k u w' hj wj ej ⟨hS',wpAnyH_step i v w' hr2 hi wi2 ei2 hS' ?_⟩
    rw [hl,hp]
    exact h
theorem wp_appendG {o:Oper} {a:Act} {w:World} {K:Act → World → Prop} {Q:Exit → Act → World → Prop} (s x:Operand) (base:Nat) (v:Value) (ds:List (List (BitVec 8))) (d:List (BitVec 8)) (g:Nat)
    (hown:OwnD w base v ds) (hu:Blk w g (cb d) 39) (hd:d.length = 32) (hl:ds.length < 2000000) (hbase:base ≤ w.heap.size)
    (ho:o.op = .call { callee:=.builtin .append,args:=#[s,x],argTypes:=#[22,22] }) (hs:a.eval s = v) (hx:a.eval x = .slice (some ⟨g,0,none⟩) 1 1)
    (h:∀ v' w',OwnD w' base v' (ds ++ [d]) → Grow base w v w' v' → K (a.put o.dst v') w'):o.wp Tryz.prog a w K Q:=by
  obtain ⟨i0,hi,hz0,hz1,hz2⟩:=info_parts Tryz.infod3
  obtain ⟨v',w',hr,h2,h3,h4,h5⟩:=run_append_own_at (P:=Tryz.prog) w base 22 o.type 39 i0 (.agg (cb zb32).toArray) 32 32 Tryz.underlying22 hi hz0 hz1 hz2 (by show (cb zb32).toArray.size = 32;rw [List.size_toArray,cb_len];rfl) (by decide) v ds.length (flatD ds) hown.1 ⟨g,0,none⟩ 1 1 (cb d) (by rw [cb_len,hd]) (by intro j u hj;rw [Addr.add_mid,Nat.zero_add,hu.cell,hj]) (cb_one d) (by unfold maxLen;omega) (by omega) hbase
  unfold Oper.wp execOp
  simp only [ho,resolve,invoke,builtin,Sem.run_bind,Sem.run_pure,Result.andThen_ok,List.map_toArray,List.map_cons,List.map_nil,hs,hx,hr]
  refine h v' w' ⟨?_,?_⟩ ⟨(Below.refl _ _).grown h3 hbase (fun k hk => (hown.lt k hk).1),fun k hk hlt => h3.block k hlt hk,h5⟩
  · rw [flatD_snoc,List.length_append];exact h2
  · intro e he
    rcases List.mem_append.1 he with he | he
    · exact hown.2 e he
    · rw [List.mem_singleton] at he;subst he;exact hd
theorem OwnD.grow {w w':World} {base B:Nat} {v x x':Value} {ds:List (List (BitVec 8))} (h:OwnD w base v ds) (hg:Grow B w x w' x') (hn:∀ j,v.ownBlock = some j → x.ownBlock ≠ some j):OwnD w' base v ds:=by
  refine ⟨?_,h.2⟩
  have hlt:=World.ownsRow.lt h.1
  rcases h.1 with ⟨e1,⟨e2,e3⟩ | ⟨g,cap,cur,e2,hgg,hh,h3⟩⟩
  · exact ⟨e1,Or.inl ⟨e2,e3⟩⟩
  · subst e2
    exact ⟨e1,Or.inr ⟨g,cap,cur,rfl,hgg,by rw [hg.other g (fun e => hn g rfl e.symm) (hlt g rfl).2];exact hh,h3⟩⟩
theorem Blk.grow {w w':World} {B g:Nat} {x x':Value} {cs:List Value} {t:TypeId} (h:Blk w g cs t) (hg:Grow B w x w' x') (hn:∀ j,x.ownBlock = some j → B ≤ j) (hlt:g < B):Blk w' g cs t:=by
  unfold Blk at *
  have hs:g < w.heap.size:=Blk.lt (cs:=cs) (t:=t) h
  rw [hg.other g (fun e => by have:=hn g e.symm;omega) hs]
  exact h
structure OwnLf (W:World) (b:Nat) (xa xv:Value) (la lv:List (List (BitVec 8))):Prop where
  a:OwnD W b xa la
  v:OwnD W b xv lv
  ne:∀ j,xa.ownBlock = some j → xv.ownBlock ≠ some j
theorem OwnLf.keep {W W':World} {b:Nat} {xa xv:Value} {la lv:List (List (BitVec 8))} (h:OwnLf W b xa xv la lv) (hs:∀ k,b ≤ k → k < W.heap.size → W'.heap[k]? = W.heap[k]?):OwnLf W' b xa xv la lv:=⟨h.a.keep hs,h.v.keep hs,h.ne⟩
theorem OwnLf.mono {W:World} {b B:Nat} {xa xv:Value} {la lv:List (List (BitVec 8))} (h:OwnLf W b xa xv la lv) (hB:B ≤ b):OwnLf W B xa xv la lv:=⟨h.a.mono hB,h.v.mono hB,h.ne⟩
theorem OwnLf.nil (W:World) (b:Nat):OwnLf W b nilV nilV [] []:=⟨OwnD.nil _ _,OwnD.nil _ _,fun j hj => by cases hj⟩
structure Lv (wG:World) (go:Nat) (xa xv:Value) (la lv:List (List (BitVec 8))) (W:World):Prop where
  sz:wG.heap.size = go
  out:Blk W go [xa,xv] 43
  own:OwnLf W (go + 1) xa xv la lv
  bel:Below go wG W
theorem Lv.start (wG:World):Lv wG wG.heap.size nilV nilV [] [] (wG.alloc (.cells [nilV,nilV].toArray 43)):=⟨rfl,Blk.new _ _ _,OwnLf.nil _ _,below_alloc _ _⟩
theorem Lv.next {wG W W':World} {go:Nat} {xa xv:Value} {la lv:List (List (BitVec 8))} (h:Lv wG go xa xv la lv W) (hb:Below W.heap.size W W'):Lv wG go xa xv la lv W':=
  ⟨h.sz,h.out.below hb h.out.lt,h.own.keep fun k _ hk => hb.block k hk,h.bel.trans (hb.mono (by have:=h.out.lt;omega))⟩
theorem Lv.drew {wG W:World} {go:Nat} {xa xv:Value} {la lv:List (List (BitVec 8))} (h:Lv wG go xa xv la lv W):Lv wG go xa xv la lv W.drew:=
  ⟨h.sz,h.out,h.own.keep fun _ _ _ => rfl,⟨h.bel.os,h.bel.tape,h.bel.output,h.bel.size,h.bel.block⟩⟩
theorem Lv.put {wG W W':World} {go i:Nat} {xa xv x':Value} {la lv:List (List (BitVec 8))} (hsz:wG.heap.size = go) (hb:Below go wG W') (ho:Blk W' go [xa,xv] 43) (hw:OwnLf W' (go + 1) ([xa,xv].set i x')[0]! ([xa,xv].set i x')[1]! la lv) (hi:i = 0 ∨ i = 1) (hW:W = W'.setCell ⟨go,i,none⟩ x'):Lv wG go ([xa,xv].set i x')[0]! ([xa,xv].set i x')[1]! la lv W:=by
  subst hW
  have hat:∀ k,k ≠ go → (W'.setCell ⟨go,i,none⟩ x').heap[k]? = W'.heap[k]?:=fun k hk => Below.heap_setCell _ _ _ _ hk
  refine ⟨hsz,?_,hw.keep fun k h1 _ => hat k (by omega),hb.setCell (Nat.le_refl _) _⟩
  have h2:=ho.set i x'
  rcases hi with rfl | rfl
  · exact h2
  · exact h2
theorem Lv.addA {wG W W':World} {go:Nat} {xa xv x':Value} {la lv:List (List (BitVec 8))} {d:List (BitVec 8)} (h:Lv wG go xa xv la lv W) (ho:OwnD W' (go + 1) x' (la ++ [d])) (hg:Grow (go + 1) W xa W' x'):Lv wG go x' xv (la ++ [d]) lv (W'.setCell ⟨go,0,none⟩ x'):=
  Lv.put (xa:=xa) (xv:=xv) (i:=0) h.sz (h.bel.trans (hg.below.mono (Nat.le_succ _))) (h.out.grow hg (fun j hj => (h.own.a.lt j hj).1) (Nat.lt_succ_self _))
    ⟨ho,h.own.v.grow hg (fun j hj e => h.own.ne j e hj),fun j hj => by
      rcases hg.lies with e | e
      · exact h.own.ne j (by rw [← e];exact hj)
      · intro e2
        have h1:=(h.own.v.lt j e2).2
        rw [show ([xa,xv].set 0 x')[0]! = x' from rfl,e] at hj
        cases hj
        omega⟩ (Or.inl rfl) rfl
theorem Lv.addV {wG W W':World} {go:Nat} {xa xv x':Value} {la lv:List (List (BitVec 8))} {d:List (BitVec 8)} (h:Lv wG go xa xv la lv W) (ho:OwnD W' (go + 1) x' (lv ++ [d])) (hg:Grow (go + 1) W xv W' x'):Lv wG go xa x' la (lv ++ [d]) (W'.setCell ⟨go,1,none⟩ x'):=
  Lv.put (xa:=xa) (xv:=xv) (i:=1) h.sz (h.bel.trans (hg.below.mono (Nat.le_succ _))) (h.out.grow hg (fun j hj => (h.own.v.lt j hj).1) (Nat.lt_succ_self _))
    ⟨h.own.a.grow hg h.own.ne,ho,fun j hj => by
      rw [show ([xa,xv].set 1 x')[1]! = x' from rfl]
      rcases hg.lies with e | e
      · rw [e];exact h.own.ne j hj
      · rw [e]
        intro e2
        cases e2
        exact absurd (h.own.a.lt _ hj).2 (Nat.lt_irrefl _)⟩ (Or.inr rfl) rfl
def ReadsLf (W:World) (va vv:Value) (l:List Lf):Prop:=ReadsD W va (l.map (·.1)) ∧ ReadsD W vv (l.map (·.2))
theorem ReadsLf.below {W W':World} {va vv:Value} {l:List Lf} (h:ReadsLf W va vv l) (hb:Below W.heap.size W W'):ReadsLf W' va vv l:=⟨h.1.below hb,h.2.below hb⟩
theorem ReadsLf.ok {W:World} {va vv:Value} {l:List Lf} (h:ReadsLf W va vv l):okLf l:=fun _ hp => ⟨h.1.2 _ (List.mem_map_of_mem hp),h.2.2 _ (List.mem_map_of_mem hp)⟩
theorem OwnLf.reads {W:World} {b:Nat} {xa xv:Value} {l:List Lf} (h:OwnLf W b xa xv (l.map (·.1)) (l.map (·.2))):ReadsLf W xa xv l:=⟨h.a.readsD,h.v.readsD⟩
theorem ReadsD.at {W:World} {v:Value} {ds:List (List (BitVec 8))} (h:ReadsD W v ds) (hp:0 < ds.length):∃ b off cp,v = .slice (some ⟨b,off,none⟩) ds.length cp ∧ ∀ j,j < ds.length → W.rangeAt b (off + j * 32) (cb (ds.getD j [])):=by
  obtain ⟨⟨ad,cp,hv,q1,q2,q3⟩,q4⟩:=h
  obtain ⟨b,off,rfl,hy⟩:=q3 hp
  exact ⟨b,off,cp,hv,hy⟩
theorem ReadsD.slice {W:World} {v:Value} {ds:List (List (BitVec 8))} (h:ReadsD W v ds):∃ ad cp,v = .slice ad ds.length cp:=by
  obtain ⟨⟨ad,cp,hv,_⟩,_⟩:=h
  exact ⟨ad,cp,hv⟩
end Go.Proofs.YtphmmnffgknkcaaGreatDoor
namespace Go.Proofs.YtphmmnffgknkcaaGreatDoor
open Go.RowKit
set_option maxRecDepth 100000
theorem wpAnyH_skip {P:Program} {md:Region.Mode} {ops:Array Oper} {Q:Exit → Act → World → Prop} {S:World → Prop} {fuel:Nat} {listed:Array Bool} {a:Act} {w:World} (i:Nat) {oi:Oper} (w':World)
    (hr:Region.ready md ops listed = [i]) (hi:ops[i]? = some oi) (hw:Region.wanted oi (yielded ops a.tmps) = true) (he:(execOp a.eval oi).run P w = .ok .skip w') (hS:S w')
    (h:wpAnyH P md ops Q S fuel (listed.setIfInBounds i true) (a.put oi.dst undef) w'):wpAnyH P md ops Q S (fuel + 1) listed a w:=by
  refine wpAnyH_law i hr hi hw ?_
  unfold Oper.wp
  rw [he]
  exact ⟨hS,h⟩
theorem take_map {l:List Lf} {k:Nat} (hk:k < l.length):l.take (k + 1) = l.take k ++ [(l.getD k ([],[]))]:=by
  rw [List.take_add_one,List.getElem?_eq_getElem hk,List.getD_eq_getElem?_getD,List.getElem?_eq_getElem hk]
  rfl
theorem map_getD1 {l:List Lf} {k:Nat} (hk:k < l.length):(l.map (·.1)).getD k [] = (l.getD k ([],[])).1:=by
  simp [List.getD_eq_getElem?_getD,List.getElem?_map,List.getElem?_eq_getElem hk]
theorem map_getD2 {l:List Lf} {k:Nat} (hk:k < l.length):(l.map (·.2)).getD k [] = (l.getD k ([],[])).2:=by
  simp [List.getD_eq_getElem?_getD,List.getElem?_map,List.getElem?_eq_getElem hk]
theorem getD_mem {l:List Lf} {k:Nat} (hk:k < l.length):l.getD k ([],[]) ∈ l:=by
  rw [List.getD_eq_getElem?_getD,List.getElem?_eq_getElem hk]
  exact List.getElem_mem hk
set_option maxRecDepth 100000 in
set_option maxHeartbeats 4000000 in
theorem lfHalf_any (va vv:Value) (l:List Lf) (i:Int) (on:Bool) (w:World) (hR:ReadsLf w va vv l) (hl:l.length < 2000000) :
    Calls Tryz.prog 26 #[.agg #[va,vv],.int .i64 i,.bool on] w fun e w' => ∃ xa xv,e = .returned (.agg #[xa,xv]) ∧ OwnLf w' w.heap.size xa xv ((l.filter fun p => bitI p.1 i == on).map (·.1)) ((l.filter fun p => bitI p.1 i == on).map (·.2)) ∧ Below w.heap.size w w':=by
  have HR:Hid (ReadsLf w va vv l):=hR
  have HL:Hid (l.length < 2000000):=hl
  obtain ⟨n,HN⟩:∃ n,Hid (n = l.length):=⟨_,rfl⟩
  obtain ⟨ada,cpa,hva⟩:=hR.1.slice
  obtain ⟨adv,cpv,hvv⟩:=hR.2.slice
  rw [List.length_map,← HN.out] at hva hvv
  subst hva hvv
  clear hR hl
  obtain ⟨gl,HGL⟩:∃ g,Hid (g = w.heap.size):=⟨_,rfl⟩
  obtain ⟨wG,HWG⟩:∃ z,Hid (z = (w.alloc (.cells [Value.slice ada n cpa,.slice adv n cpv].toArray 43)).alloc (.cells [nilV,nilV].toArray 43)):=⟨_,rfl⟩
  have HLB:Hid (Blk wG gl [Value.slice ada n cpa,.slice adv n cpv] 43):=by rw [HWG.out,HGL.out];exact (Blk.new w _ _).below (below_alloc _ _) (by simp)
  have HRB:Hid (Blk wG (gl + 1) [nilV,nilV] 43):=by rw [HWG.out,HGL.out];exact Blk.new_at (by simp) _ _
  have HBW:Hid (Below w.heap.size w wG):=by rw [HWG.out];exact (below_alloc w _).trans ((below_alloc _ _).mono (by simp))
  obtain ⟨go,HGO⟩:∃ g,Hid (g = wG.heap.size):=⟨_,rfl⟩
  have HSZ:Hid (go = gl + 2):=by show _ = _;rw [HGO.out,HWG.out,HGL.out];simp
  have HCA:Hid (∀ wx,Below go wG wx → wx.cell? ⟨gl,0,none⟩ = some (.slice ada n cpa)):=fun wx hx => (HLB.out.below hx (by have:=HSZ.out;omega)).cell 0
  have HCV:Hid (∀ wx,Below go wG wx → wx.cell? ⟨gl,1,none⟩ = some (.slice adv n cpv)):=fun wx hx => (HLB.out.below hx (by have:=HSZ.out;omega)).cell 1
  have HI:Hid (Lv wG go nilV nilV [] [] (wG.alloc (.cells [nilV,nilV].toArray 43))):=by rw [HGO.out];exact Lv.start wG
  go_enter Tryz.func26,Tryz.ntmps26
  go_wp2
  have e0:(some ⟨w.heap.size,0,none⟩:Option Addr) = some ⟨gl,0,none⟩:=by rw [HGL.out]
  have e1:(some ⟨w.heap.size + 1,0,none⟩:Option Addr) = some ⟨gl + 1,0,none⟩:=by rw [HGL.out]
  have e2:(some ⟨w.heap.size + 1 + 1,0,none⟩:Option Addr) = some ⟨go,0,none⟩:=by rw [HSZ.out,HGL.out]
  simp only [e0,e1,e2]
  clear e0 e1 e2
  change Code.wp _ _ _ _ (((w.alloc (.cells [Value.slice ada n cpa,.slice adv n cpv].toArray 43)).alloc (.cells [nilV,nilV].toArray 43)).alloc (.cells [nilV,nilV].toArray 43))
  rw [← HWG.out]
  generalize wG.alloc (.cells [nilV,nilV].toArray 43) = w0 at *
  clear HWG HGO
  go_loopw [8] (fun j wr => ∃ (k:Nat) (xa xv:Value),k ≤ n ∧ j = .int .i64 (k:Int) ∧ Lv wG go xa xv (((l.take k).filter fun p => bitI p.1 i == on).map (·.1)) (((l.take k).filter fun p => bitI p.1 i == on).map (·.2)) wr) (fun j _ => n - (intOf j).toNat)
  case atStart => exact ⟨0,nilV,nilV,by omega,rfl,by simpa using HI.out⟩
  case round =>
    clear HI
    obtain ⟨k,xa,xv,hk,rfl,hI⟩:=hrel
    have HI:Hid (Lv wG go xa xv (((l.take k).filter fun p => bitI p.1 i == on).map (·.1)) (((l.take k).filter fun p => bitI p.1 i == on).map (·.2)) wr):=hI
    clear hI
    have ca:wr.cell? ⟨gl,0,none⟩ = some (.slice ada n cpa):=HCA.out wr HI.out.bel
    by_cases hlt:k < n
    · have hlti:(k:Int) < (n:Int):=by omega
      have k0:(0:Int) ≤ (k:Int):=by omega
      have hn6:n < 2000000:=by rw [HN.out];exact HL.out
      have f5:IntKind.i64.wrap ((k:Int) + 1) = (k:Int) + 1:=wrap_small2 _ (by omega) (by omega)
      have HKL:Hid (k < l.length):=by show _ < _;rw [← HN.out];exact hlt
      obtain ⟨ba,offa,cpa',hva,hya⟩:=HR.out.1.at (by rw [List.length_map];have:=HKL.out;omega)
      obtain ⟨bv,offv,cpv',hvv,hyv⟩:=HR.out.2.at (by rw [List.length_map];have:=HKL.out;omega)
      rw [List.length_map,← HN.out] at hva hvv hya hyv
      simp only [Value.slice.injEq,true_and] at hva hvv
      obtain ⟨rfl,rfl⟩:=hva
      obtain ⟨rfl,rfl⟩:=hvv
      obtain ⟨da,HDA⟩:∃ d,Hid (d = (l.getD k ([],[])).1):=⟨_,rfl⟩
      obtain ⟨dv,HDV⟩:∃ d,Hid (d = (l.getD k ([],[])).2):=⟨_,rfl⟩
      have HA32:Hid (da.length = 32):=by show _ = _;rw [HDA.out];exact (HR.out.ok _ (getD_mem HKL.out)).1
      have HV32:Hid (dv.length = 32):=by show _ = _;rw [HDV.out];exact (HR.out.ok _ (getD_mem HKL.out)).2
      have HRA:Hid (∀ wx,Below go wG wx → wx.rangeAt ba (offa + k * 32) (cb da)):=fun wx hx => by
        have h:=hya k hlt
        rw [map_getD1 HKL.out,← HDA.out] at h
        have hb:=rangeAt_lt h HA32.out
        exact rangeAt_below (rangeAt_below h HBW.out hb) hx (by have h1:=HSZ.out;have h2:=HGL.out;omega)
      have HRV:Hid (∀ wx,Below go wG wx → wx.rangeAt bv (offv + k * 32) (cb dv)):=fun wx hx => by
        have h:=hyv k hlt
        rw [map_getD2 HKL.out,← HDV.out] at h
        have hb:=rangeAt_lt h HV32.out
        exact rangeAt_below (rangeAt_below h HBW.out hb) hx (by have h1:=HSZ.out;have h2:=HGL.out;omega)
      clear hya hyv
      obtain ⟨p,HP⟩:∃ p,Hid (bitI da i = p):=⟨_,rfl⟩
      have HFL:Hid ((((l.take k).filter fun p => bitI p.1 i == on)).length < 2000000):=Nat.lt_of_le_of_lt (Nat.le_trans (List.length_filter_le _ _) (by rw [List.length_take];omega)) HL.out
      have HTK:Hid (((l.take (k + 1)).filter fun p => bitI p.1 i == on) = ((l.take k).filter fun p => bitI p.1 i == on) ++ if p == on then [(da,dv)] else []):=by
        show _ = _
        rw [take_map HKL.out,List.filter_append,List.filter_cons,List.filter_nil,← HDA.out,HP.out,HDA.out,HDV.out]
      have HRW:Hid (wr.rangeAt ba (offa + k * 32) (cb da)):=HRA.out wr HI.out.bel
      by_cases hpo:p = on
      · subst hpo
        go_wp2_with (first
          | (with_reducible refine wpSeq_loadAt (.tmp 20) ba (offa + k * 32) da ?_ ?_ ?_ ?_ ?_ ?_
             · exact HA32.out
             · exact HRW.out
             · with_reducible rfl
             · rfl
             · rfl)
          | (go_at_call 45;refine (sBit_any da HA32.out _ _).mono ?_;rintro e w7 ⟨rfl,hb7⟩;rw [HP.out]
             replace HI:=HI.out.next hb7
             clear hb7 ca HRW))
        replace HI:Hid (Lv wG go xa xv (((l.take k).filter fun q => bitI q.1 i == p).map (·.1)) (((l.take k).filter fun q => bitI q.1 i == p).map (·.2)) w7):=HI
        refine wp_region_held_drew (S:=Below go wG) (by kernel_rfl) HI.out.drew.bel ?_
        intro hS
        have hI:=HI.out.drew
        clear HI
        change wpAnyH _ _ _ _ _ _ _ _ (World.drew w7)
        generalize World.drew w7 = yA at *
        refine wpAnyH_take (i:=0) (v:=.pointer (some ⟨go,0,none⟩)) rfl (by kernel_rfl) (by kernel_rfl) (by kernel_rfl) (fun _ _ _ h => h) (Or.inl ⟨by rfl,fun wx hx => by simp [go_sem]⟩) hS ?_
        simp only [Act.put,List.getElem_toArray,List.getElem_cons_zero,List.setIfInBounds_toArray,List.set_cons_zero,List.set_cons_succ]
        refine wpAnyH_take (i:=2) (v:=.pointer (some ⟨gl,0,none⟩)) rfl (by kernel_rfl) (by kernel_rfl) (by kernel_rfl) (fun _ _ _ h => h) (Or.inl ⟨by rfl,fun wx hx => by simp [go_sem]⟩) hS ?_
        simp only [Act.put,List.getElem_toArray,List.getElem_cons_succ,List.getElem_cons_zero,List.setIfInBounds_toArray,List.set_cons_zero,List.set_cons_succ]
        refine wpAnyH_take (i:=4) (v:=.int .i64 (k:Int)) rfl (by kernel_rfl) (by kernel_rfl) (by kernel_rfl) (fun _ _ _ h => h) (Or.inl ⟨by rfl,fun wx hx => by simp [go_sem]⟩) hS ?_
        simp only [Act.put,List.getElem_toArray,List.getElem_cons_succ,List.getElem_cons_zero,List.setIfInBounds_toArray,List.set_cons_zero,List.set_cons_succ]
        refine wpAnyH_take (i:=3) (v:=.slice (some ⟨ba,offa,none⟩) n cpa) rfl (by kernel_rfl) (by kernel_rfl) (by kernel_rfl) (fun _ _ _ h => h) (Or.inl ⟨by rfl,fun wx hx => by (have hc:=HCA.out wx hx;simp [go_sem,hc])⟩) hS ?_
        simp only [Act.put,List.getElem_toArray,List.getElem_cons_succ,List.getElem_cons_zero,List.setIfInBounds_toArray,List.set_cons_zero,List.set_cons_succ]
        refine wpAnyH_take (i:=5) (v:=.pointer (some ⟨ba,offa + k * 32,none⟩)) rfl (by kernel_rfl) (by kernel_rfl) (by kernel_rfl) (fun _ _ _ h => h) (Or.inl ⟨by rfl,fun wx hx => by (simp [go_sem,hlti,k0])⟩) hS ?_
        simp only [Act.put,List.getElem_toArray,List.getElem_cons_succ,List.getElem_cons_zero,List.setIfInBounds_toArray,List.set_cons_zero,List.set_cons_succ]
        refine wpAnyH_take (i:=6) (v:=.agg (cb da).toArray) rfl (by kernel_rfl) (by kernel_rfl) (by kernel_rfl) (fun _ _ _ h => h) (Or.inl ⟨by rfl,fun wx hx => by exact load_run 39 _ rfl _ _ rfl (cb da) _ (HRA.out wx hx) Tryz.underlying39 rfl (by rw [cb_len,HA32.out];exact info_digest)⟩) hS ?_
        simp only [Act.put,List.getElem_toArray,List.getElem_cons_succ,List.getElem_cons_zero,List.setIfInBounds_toArray,List.set_cons_zero,List.set_cons_succ]
        have hnb:=NewB.of da yA
        have hn1:=hI.next hnb.below
        obtain ⟨aA,cA,hxA⟩:=hI.own.a.slice
        obtain ⟨nA,HNA⟩:∃ z:Nat,Hid (z = (((l.take k).filter fun q => bitI q.1 i == p).map (·.1)).length):=⟨_,rfl⟩
        rw [← HNA.out] at hxA
        have hce:yA.cell? ⟨go,0,none⟩ = some xa:=hI.out.cell 0
        have hce2:(yA.alloc (.cells (cb da).toArray 39)).cell? ⟨go,0,none⟩ = some xa:=hn1.out.cell 0
        subst hxA
        refine wpAnyH_comm 1 7 (.slice aA nA cA) (.slice (some ⟨yA.heap.size,0,none⟩) 1 1) (yA.alloc (.cells (cb da).toArray 39)) (by kernel_rfl) rfl rfl (by rfl) (by rfl) (by rfl) (by rfl) (by simp [go_sem,hce]) (buildD _ _ _ rfl da HA32.out rfl _) (by simp [go_sem,hce2]) (buildD _ _ _ rfl da HA32.out rfl _) (by kernel_rfl) (by kernel_rfl) (by rfl) (by rfl) hS hn1.bel ?_
        simp only [Act.put,List.getElem_toArray,List.getElem_cons_succ,List.getElem_cons_zero,List.setIfInBounds_toArray,List.set_cons_zero,List.set_cons_succ]
        have hI2:=hn1
        have HU:Hid (Blk (yA.alloc (.cells (cb da).toArray 39)) yA.heap.size (cb da) 39):=hnb.blk
        clear hn1 hnb hce hce2 hS hI
        refine wpAnyH_law 8 (by kernel_rfl) rfl (by rfl) (wp_appendG (.tmp 27) (.tmp 33) (go + 1) (.slice aA nA cA) _ da yA.heap.size hI2.own.a HU.out HA32.out (by rw [List.length_map];exact HFL.out) hI2.out.lt rfl rfl rfl ?_)
        intro zA qA hoA hgA
        have hI:=hI2.addA hoA hgA
        have hsq:Below go wG qA:=hI2.bel.trans (hgA.below.mono (Nat.le_succ _))
        have hbq:=hI2.out.grow hgA (fun j hj => (hI2.own.a.lt j hj).1) (Nat.lt_succ_self _)
        have hcq:=hbq.cell 0
        have hfq:=hbq.frozen 0
        obtain ⟨aA2,cA2,hxA⟩:=hoA.slice
        obtain ⟨nA2,HNA2⟩:∃ z:Nat,Hid (z = (((l.take k).filter fun q => bitI q.1 i == p).map (·.1) ++ [da]).length):=⟨_,rfl⟩
        rw [← HNA2.out] at hxA
        subst hxA
        refine ⟨hsq,?_⟩
        simp only [Act.put,List.getElem_toArray,List.getElem_cons_succ,List.getElem_cons_zero,List.setIfInBounds_toArray,List.set_cons_zero,List.set_cons_succ]
        refine wpAnyH_take (i:=9) (v:=.pointer (some ⟨go,0,none⟩)) rfl (by kernel_rfl) (by kernel_rfl) (by kernel_rfl) (fun _ _ _ h => h) (Or.inl ⟨by rfl,fun wx hx => by simp [go_sem]⟩) hsq ?_
        simp only [Act.put,List.getElem_toArray,List.getElem_cons_succ,List.getElem_cons_zero,List.setIfInBounds_toArray,List.set_cons_zero,List.set_cons_succ]
        refine wpAnyH_skip 10 (qA.setCell ⟨go,0,none⟩ (.slice aA2 nA2 cA2)) (by kernel_rfl) rfl (by rfl) (by simp [go_sem,hcq,hfq]) hI.bel ?_
        simp only [Act.put,List.getElem_toArray,List.getElem_cons_succ,List.getElem_cons_zero]
        refine wpAnyH_done (by kernel_rfl) ?_ _
        clear hoA hgA hsq hbq hcq hfq hI2 HU
        generalize qA.setCell ⟨go,0,none⟩ (.slice aA2 nA2 cA2) = WA at *
        have HI:Hid (Lv wG go (.slice aA2 nA2 cA2) xv (((l.take k).filter fun q => bitI q.1 i == p).map (·.1) ++ [da]) (((l.take k).filter fun q => bitI q.1 i == p).map (·.2)) WA):=hI
        clear hI HRA HCA
        generalize Value.slice aA2 nA2 cA2 = xa2 at *
        go_wp2_with fail
        refine wp_region_held_drew (S:=Below go wG) (by kernel_rfl) HI.out.drew.bel ?_
        intro hS
        have hI:=HI.out.drew
        clear HI
        change wpAnyH _ _ _ _ _ _ _ _ (World.drew WA)
        generalize World.drew WA = yV at *
        refine wpAnyH_take (i:=0) (v:=.pointer (some ⟨go,1,none⟩)) rfl (by kernel_rfl) (by kernel_rfl) (by kernel_rfl) (fun _ _ _ h => h) (Or.inl ⟨by rfl,fun wx hx => by simp [go_sem]⟩) hS ?_
        simp only [Act.put,List.getElem_toArray,List.getElem_cons_zero,List.setIfInBounds_toArray,List.set_cons_zero,List.set_cons_succ]
        refine wpAnyH_take (i:=2) (v:=.pointer (some ⟨gl,1,none⟩)) rfl (by kernel_rfl) (by kernel_rfl) (by kernel_rfl) (fun _ _ _ h => h) (Or.inl ⟨by rfl,fun wx hx => by simp [go_sem]⟩) hS ?_
        simp only [Act.put,List.getElem_toArray,List.getElem_cons_succ,List.getElem_cons_zero,List.setIfInBounds_toArray,List.set_cons_zero,List.set_cons_succ]
        refine wpAnyH_take (i:=4) (v:=.int .i64 (k:Int)) rfl (by kernel_rfl) (by kernel_rfl) (by kernel_rfl) (fun _ _ _ h => h) (Or.inl ⟨by rfl,fun wx hx => by simp [go_sem]⟩) hS ?_
        simp only [Act.put,List.getElem_toArray,List.getElem_cons_succ,List.getElem_cons_zero,List.setIfInBounds_toArray,List.set_cons_zero,List.set_cons_succ]
        refine wpAnyH_take (i:=3) (v:=.slice (some ⟨bv,offv,none⟩) n cpv) rfl (by kernel_rfl) (by kernel_rfl) (by kernel_rfl) (fun _ _ _ h => h) (Or.inl ⟨by rfl,fun wx hx => by (have hc:=HCV.out wx hx;simp [go_sem,hc])⟩) hS ?_
        simp only [Act.put,List.getElem_toArray,List.getElem_cons_succ,List.getElem_cons_zero,List.setIfInBounds_toArray,List.set_cons_zero,List.set_cons_succ]
        refine wpAnyH_take (i:=5) (v:=.pointer (some ⟨bv,offv + k * 32,none⟩)) rfl (by kernel_rfl) (by kernel_rfl) (by kernel_rfl) (fun _ _ _ h => h) (Or.inl ⟨by rfl,fun wx hx => by (simp [go_sem,hlti,k0])⟩) hS ?_
        simp only [Act.put,List.getElem_toArray,List.getElem_cons_succ,List.getElem_cons_zero,List.setIfInBounds_toArray,List.set_cons_zero,List.set_cons_succ]
        refine wpAnyH_take (i:=6) (v:=.agg (cb dv).toArray) rfl (by kernel_rfl) (by kernel_rfl) (by kernel_rfl) (fun _ _ _ h => h) (Or.inl ⟨by rfl,fun wx hx => by exact load_run 39 _ rfl _ _ rfl (cb dv) _ (HRV.out wx hx) Tryz.underlying39 rfl (by rw [cb_len,HV32.out];exact info_digest)⟩) hS ?_
        simp only [Act.put,List.getElem_toArray,List.getElem_cons_succ,List.getElem_cons_zero,List.setIfInBounds_toArray,List.set_cons_zero,List.set_cons_succ]
        have hnb:=NewB.of dv yV
        have hn1:=hI.next hnb.below
        obtain ⟨aV,cV,hxV⟩:=hI.own.v.slice
        obtain ⟨nV,HNV⟩:∃ z:Nat,Hid (z = (((l.take k).filter fun q => bitI q.1 i == p).map (·.2)).length):=⟨_,rfl⟩
        rw [← HNV.out] at hxV
        have hce:yV.cell? ⟨go,1,none⟩ = some xv:=hI.out.cell 1
        have hce2:(yV.alloc (.cells (cb dv).toArray 39)).cell? ⟨go,1,none⟩ = some xv:=hn1.out.cell 1
        subst hxV
        refine wpAnyH_comm 1 7 (.slice aV nV cV) (.slice (some ⟨yV.heap.size,0,none⟩) 1 1) (yV.alloc (.cells (cb dv).toArray 39)) (by kernel_rfl) rfl rfl (by rfl) (by rfl) (by rfl) (by rfl) (by simp [go_sem,hce]) (buildD _ _ _ rfl dv HV32.out rfl _) (by simp [go_sem,hce2]) (buildD _ _ _ rfl dv HV32.out rfl _) (by kernel_rfl) (by kernel_rfl) (by rfl) (by rfl) hS hn1.bel ?_
        simp only [Act.put,List.getElem_toArray,List.getElem_cons_succ,List.getElem_cons_zero,List.setIfInBounds_toArray,List.set_cons_zero,List.set_cons_succ]
        have hI2:=hn1
        have HU:Hid (Blk (yV.alloc (.cells (cb dv).toArray 39)) yV.heap.size (cb dv) 39):=hnb.blk
        clear hn1 hnb hce hce2 hS hI
        refine wpAnyH_law 8 (by kernel_rfl) rfl (by rfl) (wp_appendG (.tmp 37) (.tmp 43) (go + 1) (.slice aV nV cV) _ dv yV.heap.size hI2.own.v HU.out HV32.out (by rw [List.length_map];exact HFL.out) hI2.out.lt rfl rfl rfl ?_)
        intro zV qV hoV hgV
        have hI:=hI2.addV hoV hgV
        have hsq:Below go wG qV:=hI2.bel.trans (hgV.below.mono (Nat.le_succ _))
        have hbq:=hI2.out.grow hgV (fun j hj => (hI2.own.v.lt j hj).1) (Nat.lt_succ_self _)
        have hcq:=hbq.cell 1
        have hfq:=hbq.frozen 1
        obtain ⟨aV2,cV2,hxV⟩:=hoV.slice
        obtain ⟨nV2,HNV2⟩:∃ z:Nat,Hid (z = (((l.take k).filter fun q => bitI q.1 i == p).map (·.2) ++ [dv]).length):=⟨_,rfl⟩
        rw [← HNV2.out] at hxV
        subst hxV
        refine ⟨hsq,?_⟩
        simp only [Act.put,List.getElem_toArray,List.getElem_cons_succ,List.getElem_cons_zero,List.setIfInBounds_toArray,List.set_cons_zero,List.set_cons_succ]
        refine wpAnyH_take (i:=9) (v:=.pointer (some ⟨go,1,none⟩)) rfl (by kernel_rfl) (by kernel_rfl) (by kernel_rfl) (fun _ _ _ h => h) (Or.inl ⟨by rfl,fun wx hx => by simp [go_sem]⟩) hsq ?_
        simp only [Act.put,List.getElem_toArray,List.getElem_cons_succ,List.getElem_cons_zero,List.setIfInBounds_toArray,List.set_cons_zero,List.set_cons_succ]
        refine wpAnyH_skip 10 (qV.setCell ⟨go,1,none⟩ (.slice aV2 nV2 cV2)) (by kernel_rfl) rfl (by rfl) (by simp [go_sem,hcq,hfq]) hI.bel ?_
        simp only [Act.put,List.getElem_toArray,List.getElem_cons_succ,List.getElem_cons_zero]
        refine wpAnyH_done (by kernel_rfl) ?_ _
        clear hoV hgV hsq hbq hcq hfq hI2 HU
        generalize qV.setCell ⟨go,1,none⟩ (.slice aV2 nV2 cV2) = WV at *
        have HJ:Hid (Lv wG go xa2 (.slice aV2 nV2 cV2) (((l.take (k + 1)).filter fun q => bitI q.1 i == p).map (·.1)) (((l.take (k + 1)).filter fun q => bitI q.1 i == p).map (·.2)) WV):=by
          show Lv _ _ _ _ _ _ _
          rw [HTK.out]
          simpa using hI
        clear hI
        go_wp2
        go_roundw
        case rel => exact ⟨k + 1,_,_,by omega,by simp,HJ.out⟩
        case measure => simp [intOf];omega
      · have hpo2:(p == on) = false:=by simpa using hpo
        have HPO:Hid ((p == on) = false):=hpo2
        go_wp2_with (first
          | (with_reducible refine wpSeq_loadAt (.tmp 20) ba (offa + k * 32) da ?_ ?_ ?_ ?_ ?_ ?_
             · exact HA32.out
             · exact HRW.out
             · with_reducible rfl
             · rfl
             · rfl)
          | (go_at_call 45;refine (sBit_any da HA32.out _ _).mono ?_;rintro e w7 ⟨rfl,hb7⟩;rw [HP.out]
             have HJ:Hid (Lv wG go xa xv (((l.take k).filter fun p => bitI p.1 i == on).map (·.1)) (((l.take k).filter fun p => bitI p.1 i == on).map (·.2)) w7):=HI.out.next hb7
             clear hb7 ca HRW HI))
        have HJ2:Hid (Lv wG go xa xv (((l.take (k + 1)).filter fun p => bitI p.1 i == on).map (·.1)) (((l.take (k + 1)).filter fun p => bitI p.1 i == on).map (·.2)) w7):=by
          show Lv _ _ _ _ _ _ _
          rw [HTK.out,HPO.out]
          simpa using HJ.out
        go_roundw
        case rel => exact ⟨k + 1,_,_,by omega,by simp,HJ2.out⟩
        case measure => simp [intOf];omega
    · have hkn:k = n:=by omega
      subst hkn
      have ht:l.take k = l:=by rw [HN.out];exact List.take_length
      have hI2:=HI.out
      rw [ht] at hI2
      obtain ⟨adx,cpx,hxa⟩:=hI2.own.a.slice
      obtain ⟨adw,cpw,hxv⟩:=hI2.own.v.slice
      obtain ⟨nx,HNX⟩:∃ z:Nat,Hid (z = ((l.filter fun p => bitI p.1 i == on).map (·.1)).length):=⟨_,rfl⟩
      obtain ⟨nw,HNW⟩:∃ z:Nat,Hid (z = ((l.filter fun p => bitI p.1 i == on).map (·.2)).length):=⟨_,rfl⟩
      rw [← HNX.out] at hxa
      rw [← HNW.out] at hxv
      subst hxa hxv
      have HE:Hid (Lv wG go (.slice adx nx cpx) (.slice adw nw cpw) ((l.filter fun p => bitI p.1 i == on).map (·.1)) ((l.filter fun p => bitI p.1 i == on).map (·.2)) wr):=hI2
      have d0:wr.cell? ⟨go,0,none⟩ = some (.slice adx nx cpx):=hI2.out.cell 0
      have d1:wr.cell? ⟨go,1,none⟩ = some (.slice adw nw cpw):=hI2.out.cell 1
      have hr:=HRB.out.below hI2.bel (by have:=HSZ.out;omega)
      have r0:wr.cell? ⟨gl + 1,0,none⟩ = some (.slice none 0 0):=hr.cell 0
      have r1:wr.cell? ⟨gl + 1,1,none⟩ = some (.slice none 0 0):=hr.cell 1
      have q0:wr.frozen? ⟨gl + 1,0,none⟩ = false:=hr.frozen 0
      have q1:wr.frozen? ⟨gl + 1,1,none⟩ = false:=hr.frozen 1
      have HRR:Hid (Blk wr (gl + 1) [nilV,nilV] 43):=hr
      clear ht hI2 hr HI
      go_wp2
      have hB6:Blk ((wr.setCell ⟨gl + 1,0,none⟩ (.slice adx nx cpx)).setCell ⟨gl + 1,1,none⟩ (.slice adw nw cpw)) (gl + 1) [.slice adx nx cpx,.slice adw nw cpw] 43:=(HRR.out.set 0 _).set 1 _
      refine bodyPost_ret (v:=.agg [.slice adx nx cpx,.slice adw nw cpw].toArray) (results_cell_row (by rfl) _ _ (gl + 1) 43 _ (0,0) _ rfl hB6 Tryz.underlying43 rfl (by kernel_rfl)) rfl ⟨_,_,rfl,?_,?_⟩
      · refine (HE.out.own.keep fun j h1 _ => ?_).mono (by have h1:=HSZ.out;have h2:=HGL.out;omega)
        rw [Below.heap_setCell _ _ _ _ (by show j ≠ gl + 1;have:=HSZ.out;omega),Below.heap_setCell _ _ _ _ (by show j ≠ gl + 1;have:=HSZ.out;omega)]
      · exact ((HBW.out.trans (HE.out.bel.mono (by have h1:=HSZ.out;have h2:=HGL.out;omega))).setCell (by show w.heap.size ≤ gl + 1;have:=HGL.out;omega) _).setCell (by show w.heap.size ≤ gl + 1;have:=HGL.out;omega) _
end Go.Proofs.YtphmmnffgknkcaaGreatDoor
namespace Go.Proofs.YtphmmnffgknkcaaGreatDoor
open Go.RowKit
set_option maxRecDepth 100000
set_option maxRecDepth 100000 in
set_option maxHeartbeats 2000000 in
theorem hEmpty_any (w:World):Calls Tryz.prog 23 #[] w fun e w' => e = .returned (.agg (cb (dig [69])).toArray) ∧ Below w.heap.size w w':=by
  obtain ⟨r,HRD⟩:∃ r,Hid (r = dig [69]):=⟨_,rfl⟩
  have HRL:Hid (r.length = 32):=by show _ = _;rw [HRD.out];exact len_dig' _
  have HBW:Hid (Below w.heap.size w w):=Below.refl _ _
  go_enter Tryz.func23,Tryz.ntmps23
  go_wp2_with (first
    | (with_reducible refine wpSeq_allocD ?_ ?_ ?_
       · rfl
       · rfl
       intro gr wa nn
       have HGR:Hid (w.heap.size ≤ gr):=Nat.le_trans HBW.out.size nn.ge
       have HB:Hid (Blk wa gr (cb zb32) 39):=nn.blk
       replace HBW:Hid (Below w.heap.size w wa):=HBW.out.trans (nn.below.mono HBW.out.size)
       clear nn)
    | (go_at_call 42;refine (rEmpty_any _).mono ?_;rintro e wb ⟨v4,rfl,hr4,hb4⟩
       replace HB:Hid (Blk wb gr (cb zb32) 39):=HB.out.below hb4 HB.out.lt
       replace HBW:Hid (Below w.heap.size w wb):=HBW.out.trans (hb4.mono HBW.out.size)
       have HR4:Hid (Reads wb v4 [69]):=hr4
       clear hr4 hb4)
    | (go_at_call 13;refine (rOf_any v4 _ _ HR4.out (by decide)).mono ?_;rintro e wc ⟨rfl,hb4⟩;rw [← HRD.out]
       replace HB:Hid (Blk wc gr (cb zb32) 39):=HB.out.below hb4 HB.out.lt
       replace HBW:Hid (Below w.heap.size w wc):=HBW.out.trans (hb4.mono HBW.out.size)
       clear hb4 HR4)
    | (with_reducible refine wpSeq_storeD (.tmp 0) (.tmp 2) gr zb32 r ?_ ?_ ?_ ?_ ?_ ?_ ?_ ?_
       · rfl
       · exact HRL.out
       · exact HB.out
       · rfl
       · rfl
       · rfl
       · rfl
       intro W9 h9))
  exact bodyPost_ret (v:=.agg (cb r).toArray) (results_cell_row (by rfl) _ _ gr 39 _ (0,0) _ rfl h9.blk Tryz.underlying39 rfl (by rw [List.size_toArray,cb_len,HRL.out];exact info_digest)) rfl ⟨by rw [HRD.out],HBW.out.trans (h9.only.below HGR.out HBW.out.size)⟩
set_option maxRecDepth 100000 in
set_option maxHeartbeats 2000000 in
theorem hLeaf_any (x y:List (BitVec 8)) (hx:x.length = 32) (hy:y.length = 32) (w:World):Calls Tryz.prog 24 #[.agg (cb x).toArray,.agg (cb y).toArray] w fun e w' => e = .returned (.agg (cb (dig (pairB 76 x y))).toArray) ∧ Below w.heap.size w w':=by
  obtain ⟨r,HRD⟩:∃ r,Hid (r = dig (pairB 76 x y)):=⟨_,rfl⟩
  have HRL:Hid (r.length = 32):=by show _ = _;rw [HRD.out];exact len_dig' _
  have HN0:Hid (x.length = 32):=hx
  have HN1:Hid (y.length = 32):=hy
  clear hx hy
  have HBW:Hid (Below w.heap.size w w):=Below.refl _ _
  go_enter Tryz.func24,Tryz.ntmps24
  go_wp2_with (first
    | (with_reducible refine wpSeq_boxD (.tmp 0) x ?_ ?_ ?_ ?_
       · rfl
       · rfl
       · rfl
       intro gx wx0 nn
       have HX0:Hid (Blk wx0 gx (cb x) 39):=nn.blk
       replace HBW:Hid (Below w.heap.size w wx0):=HBW.out.trans (nn.below.mono HBW.out.size)
       clear nn)
    | (with_reducible refine wpSeq_boxD (.tmp 1) y ?_ ?_ ?_ ?_
       · rfl
       · rfl
       · rfl
       intro gy wx1 nn
       replace HX0:Hid (Blk wx1 gx (cb x) 39):=HX0.out.below nn.below HX0.out.lt
       have HX1:Hid (Blk wx1 gy (cb y) 39):=nn.blk
       replace HBW:Hid (Below w.heap.size w wx1):=HBW.out.trans (nn.below.mono HBW.out.size)
       clear nn)
    | (with_reducible refine wpSeq_allocD ?_ ?_ ?_
       · rfl
       · rfl
       intro gr wa nn
       replace HX0:Hid (Blk wa gx (cb x) 39):=HX0.out.below nn.below HX0.out.lt
       replace HX1:Hid (Blk wa gy (cb y) 39):=HX1.out.below nn.below HX1.out.lt
       have HGR:Hid (w.heap.size ≤ gr):=Nat.le_trans HBW.out.size nn.ge
       have HB:Hid (Blk wa gr (cb zb32) 39):=nn.blk
       replace HBW:Hid (Below w.heap.size w wa):=HBW.out.trans (nn.below.mono HBW.out.size)
       clear nn)
    | (with_reducible refine wpSeq_loadD (.tmp 2) gx x ?_ ?_ ?_ ?_ ?_ ?_
       · exact HN0.out
       · exact HX0.out
       · rfl
       · rfl
       · rfl)
    | (with_reducible refine wpSeq_loadD (.tmp 3) gy y ?_ ?_ ?_ ?_ ?_ ?_
       · exact HN1.out
       · exact HX1.out
       · rfl
       · rfl
       · rfl)
    | (go_at_call 43;refine (rLeaf_any x y HN0.out HN1.out _).mono ?_;rintro e wb ⟨v4,rfl,hr4,hb4⟩
       replace HB:Hid (Blk wb gr (cb zb32) 39):=HB.out.below hb4 HB.out.lt
       replace HBW:Hid (Below w.heap.size w wb):=HBW.out.trans (hb4.mono HBW.out.size)
       have HR4:Hid (Reads wb v4 (pairB 76 x y)):=hr4
       clear hr4 hb4)
    | (go_at_call 13;refine (rOf_any v4 _ _ HR4.out (by have h1:=HN0.out;have h2:=HN1.out;simp [pairB];omega)).mono ?_;rintro e wc ⟨rfl,hb4⟩;rw [← HRD.out]
       replace HB:Hid (Blk wc gr (cb zb32) 39):=HB.out.below hb4 HB.out.lt
       replace HBW:Hid (Below w.heap.size w wc):=HBW.out.trans (hb4.mono HBW.out.size)
       clear hb4 HR4)
    | (with_reducible refine wpSeq_storeD (.tmp 4) (.tmp 8) gr zb32 r ?_ ?_ ?_ ?_ ?_ ?_ ?_ ?_
       · rfl
       · exact HRL.out
       · exact HB.out
       · rfl
       · rfl
       · rfl
       · rfl
       intro W9 h9))
  exact bodyPost_ret (v:=.agg (cb r).toArray) (results_cell_row (by rfl) _ _ gr 39 _ (0,0) _ rfl h9.blk Tryz.underlying39 rfl (by rw [List.size_toArray,cb_len,HRL.out];exact info_digest)) rfl ⟨by rw [HRD.out],HBW.out.trans (h9.only.below HGR.out HBW.out.size)⟩
set_option maxRecDepth 100000 in
set_option maxHeartbeats 2000000 in
theorem hNode_any (x y:List (BitVec 8)) (hx:x.length = 32) (hy:y.length = 32) (w:World):Calls Tryz.prog 25 #[.agg (cb x).toArray,.agg (cb y).toArray] w fun e w' => e = .returned (.agg (cb (dig (pairB 78 x y))).toArray) ∧ Below w.heap.size w w':=by
  obtain ⟨r,HRD⟩:∃ r,Hid (r = dig (pairB 78 x y)):=⟨_,rfl⟩
  have HRL:Hid (r.length = 32):=by show _ = _;rw [HRD.out];exact len_dig' _
  have HN0:Hid (x.length = 32):=hx
  have HN1:Hid (y.length = 32):=hy
  clear hx hy
  have HBW:Hid (Below w.heap.size w w):=Below.refl _ _
  go_enter Tryz.func25,Tryz.ntmps25
  go_wp2_with (first
    | (with_reducible refine wpSeq_boxD (.tmp 0) x ?_ ?_ ?_ ?_
       · rfl
       · rfl
       · rfl
       intro gx wx0 nn
       have HX0:Hid (Blk wx0 gx (cb x) 39):=nn.blk
       replace HBW:Hid (Below w.heap.size w wx0):=HBW.out.trans (nn.below.mono HBW.out.size)
       clear nn)
    | (with_reducible refine wpSeq_boxD (.tmp 1) y ?_ ?_ ?_ ?_
       · rfl
       · rfl
       · rfl
       intro gy wx1 nn
       replace HX0:Hid (Blk wx1 gx (cb x) 39):=HX0.out.below nn.below HX0.out.lt
       have HX1:Hid (Blk wx1 gy (cb y) 39):=nn.blk
       replace HBW:Hid (Below w.heap.size w wx1):=HBW.out.trans (nn.below.mono HBW.out.size)
       clear nn)
    | (with_reducible refine wpSeq_allocD ?_ ?_ ?_
       · rfl
       · rfl
       intro gr wa nn
       replace HX0:Hid (Blk wa gx (cb x) 39):=HX0.out.below nn.below HX0.out.lt
       replace HX1:Hid (Blk wa gy (cb y) 39):=HX1.out.below nn.below HX1.out.lt
       have HGR:Hid (w.heap.size ≤ gr):=Nat.le_trans HBW.out.size nn.ge
       have HB:Hid (Blk wa gr (cb zb32) 39):=nn.blk
       replace HBW:Hid (Below w.heap.size w wa):=HBW.out.trans (nn.below.mono HBW.out.size)
       clear nn)
    | (with_reducible refine wpSeq_loadD (.tmp 2) gx x ?_ ?_ ?_ ?_ ?_ ?_
       · exact HN0.out
       · exact HX0.out
       · rfl
       · rfl
       · rfl)
    | (with_reducible refine wpSeq_loadD (.tmp 3) gy y ?_ ?_ ?_ ?_ ?_ ?_
       · exact HN1.out
       · exact HX1.out
       · rfl
       · rfl
       · rfl)
    | (go_at_call 44;refine (rNode_any x y HN0.out HN1.out _).mono ?_;rintro e wb ⟨v4,rfl,hr4,hb4⟩
       replace HB:Hid (Blk wb gr (cb zb32) 39):=HB.out.below hb4 HB.out.lt
       replace HBW:Hid (Below w.heap.size w wb):=HBW.out.trans (hb4.mono HBW.out.size)
       have HR4:Hid (Reads wb v4 (pairB 78 x y)):=hr4
       clear hr4 hb4)
    | (go_at_call 13;refine (rOf_any v4 _ _ HR4.out (by have h1:=HN0.out;have h2:=HN1.out;simp [pairB];omega)).mono ?_;rintro e wc ⟨rfl,hb4⟩;rw [← HRD.out]
       replace HB:Hid (Blk wc gr (cb zb32) 39):=HB.out.below hb4 HB.out.lt
       replace HBW:Hid (Below w.heap.size w wc):=HBW.out.trans (hb4.mono HBW.out.size)
       clear hb4 HR4)
    | (with_reducible refine wpSeq_storeD (.tmp 4) (.tmp 8) gr zb32 r ?_ ?_ ?_ ?_ ?_ ?_ ?_ ?_
       · rfl
       · exact HRL.out
       · exact HB.out
       · rfl
       · rfl
       · rfl
       · rfl
       intro W9 h9))
  exact bodyPost_ret (v:=.agg (cb r).toArray) (results_cell_row (by rfl) _ _ gr 39 _ (0,0) _ rfl h9.blk Tryz.underlying39 rfl (by rw [List.size_toArray,cb_len,HRL.out];exact info_digest)) rfl ⟨by rw [HRD.out],HBW.out.trans (h9.only.below HGR.out HBW.out.size)⟩
end Go.Proofs.YtphmmnffgknkcaaGreatDoor
namespace Go.Proofs.YtphmmnffgknkcaaGreatDoor
open Go.RowKit
set_option maxRecDepth 100000
theorem Sb.more {B:Nat} {wB W W':World} (h:Below B wB W) (hB:B ≤ wB.heap.size) (hb:Below W.heap.size W W'):Below B wB W':=h.trans (hb.mono (Nat.le_trans hB h.size))
theorem halfL_is (l:List Lf) (d:Nat) (hd:d < 256) (on:Bool):(l.filter fun p => bitI p.1 (d:Int) == on) = halfL l d on:=by
  unfold halfL
  exact List.filter_congr fun p _ => by rw [bitI_nat _ _ hd]
theorem lfHalf_b (va vv:Value) (l:List Lf) (d:Nat) (hd:d < 256) (on:Bool) (w:World) (hR:ReadsLf w va vv l) (hl:l.length < 2000000) :
    Calls Tryz.prog 26 #[.agg #[va,vv],.int .i64 (d:Int),.bool on] w fun e w' => ∃ xa xv,e = .returned (.agg #[xa,xv]) ∧ OwnLf w' w.heap.size xa xv ((halfL l d on).map (·.1)) ((halfL l d on).map (·.2)) ∧ Below w.heap.size w w':=by
  have h:=lfHalf_any va vv l (d:Int) on w hR hl
  rwa [halfL_is l d hd on] at h
set_option maxRecDepth 100000 in
set_option maxHeartbeats 4000000 in
theorem lfRoot_any:∀ (f:Nat) (l:List Lf) (d:Nat) (va vv:Value) (w:World),256 ≤ d + f → Fits l d → ReadsLf w va vv l → l.length < 2000000 → d ≤ 256 →
    Calls Tryz.prog 10 #[.agg #[va,vv],.int .i64 (d:Int)] w fun e w' => e = .returned (.agg (cb (rootL l d)).toArray) ∧ Below w.heap.size w w':=by
  intro f
  induction f with
  | zero => ?_
  | succ f ih => ?_
  · skip
    intro l d va vv w hf hF hR hl hd
    have HF:Hid (Fits l d):=hF
    have HR:Hid (ReadsLf w va vv l):=hR
    have HL:Hid (l.length < 2000000):=hl
    have HFF:Hid (256 ≤ d + 0):=hf
    have HDD:Hid (d ≤ 256):=hd
    obtain ⟨r,HRD⟩:∃ r,Hid (r = rootL l d):=⟨_,rfl⟩
    have HRL:Hid (r.length = 32):=by show _ = _;rw [HRD.out];exact rootL_len hF
    rw [← HRD.out]
    obtain ⟨n,HN⟩:∃ n,Hid (n = l.length):=⟨_,rfl⟩
    obtain ⟨ada,cpa,hva⟩:=hR.1.slice
    obtain ⟨adv,cpv,hvv⟩:=hR.2.slice
    rw [List.length_map,← HN.out] at hva hvv
    subst hva hvv
    clear hR hl hF hf hd
    obtain ⟨gl,HGL⟩:∃ g,Hid (g = w.heap.size):=⟨_,rfl⟩
    obtain ⟨wB,HWB⟩:∃ z,Hid (z = w.alloc (.cells [Value.slice ada n cpa,.slice adv n cpv].toArray 43)):=⟨_,rfl⟩
    have HLB:Hid (Blk wB gl [Value.slice ada n cpa,.slice adv n cpv] 43):=by rw [HWB.out,HGL.out];exact Blk.new w _ _
    have HBW:Hid (Below w.heap.size w wB):=by rw [HWB.out];exact below_alloc w _
    have HSB:Hid (wB.heap.size = gl + 1):=by show _ = _;rw [HWB.out,HGL.out];simp
    have HCA:Hid (∀ wx,Below (gl + 1) wB wx → wx.cell? ⟨gl,0,none⟩ = some (.slice ada n cpa)):=fun wx hx => (HLB.out.below hx (Nat.lt_succ_self _)).cell 0
    have HCV:Hid (∀ wx,Below (gl + 1) wB wx → wx.cell? ⟨gl,1,none⟩ = some (.slice adv n cpv)):=fun wx hx => (HLB.out.below hx (Nat.lt_succ_self _)).cell 1
    have HRS:Hid (∀ wx,Below (gl + 1) wB wx → ReadsLf wx (.slice ada n cpa) (.slice adv n cpv) l):=fun wx hx => HR.out.below (HBW.out.trans (hx.mono (by have:=HGL.out;omega)))
    go_enter Tryz.func10,Tryz.ntmps10
    go_upto_region 1 with (first
      | (with_reducible refine wpSeq_allocD ?_ ?_ ?_
         · rfl
         · rfl
         intro gr wa nn))
    rw [← HWB.out] at nn
    have e0:(some ⟨w.heap.size,0,none⟩:Option Addr) = some ⟨gl,0,none⟩:=by rw [HGL.out]
    simp only [e0]
    clear e0
    have HB:Hid (Blk wa gr (cb zb32) 39):=nn.blk
    have HS:Hid (Below (gl + 1) wB wa):=by rw [← HSB.out];exact nn.below
    have HGR:Hid (gl + 1 ≤ gr):=by show _ ≤ _;rw [← HSB.out];exact nn.ge
    clear nn
    have ca:wa.cell? ⟨gl,0,none⟩ = some (.slice ada n cpa):=HCA.out wa HS.out
    have HRET:Hid (∀ W9,SetB r W9 gr W9 → True):=fun _ _ => trivial
    clear HRET
    by_cases h0:n = 0
    · subst h0
      have hnil:l = []:=List.length_eq_zero_iff.1 HN.out.symm
      have HRE:Hid (dig [69] = r):=by show _ = _;rw [HRD.out,hnil,rootL_nil]
      clear hnil
      go_wp2_with (first
        | (go_at_call 23;refine (hEmpty_any _).mono ?_;rintro e wc ⟨rfl,hb4⟩;rw [HRE.out]
           replace HB:Hid (Blk wc gr (cb zb32) 39):=HB.out.below hb4 HB.out.lt
           replace HS:Hid (Below (gl + 1) wB wc):=Sb.more HS.out (by rw [HSB.out];exact Nat.le_refl _) hb4
           clear hb4)
        | (with_reducible refine wpSeq_storeD (.tmp 4) (.tmp 9) gr zb32 r ?_ ?_ ?_ ?_ ?_ ?_ ?_ ?_
           · rfl
           · exact HRL.out
           · exact HB.out
           · rfl
           · rfl
           · rfl
           · rfl
           intro W9 h9))
      exact bodyPost_ret (v:=.agg (cb r).toArray) (results_cell_row (by rfl) _ _ gr 39 _ (0,0) _ rfl h9.blk Tryz.underlying39 rfl (by rw [List.size_toArray,cb_len,HRL.out];exact info_digest)) rfl ⟨rfl,(HBW.out.trans (HS.out.mono (by have:=HGL.out;omega))).trans (h9.only.below (by have h1:=HGR.out;have h2:=HGL.out;omega) (Nat.le_trans HBW.out.size HS.out.size))⟩
    · by_cases h1:n = 1
      · subst h1
        obtain ⟨p,hp⟩:∃ p,l = [p]:=List.length_eq_one_iff.1 HN.out.symm
        have HRE:Hid (dig (pairB 76 p.1 p.2) = r):=by show _ = _;rw [HRD.out,hp,rootL_one]
        have HP:Hid (p.1.length = 32 ∧ p.2.length = 32):=HR.out.ok p (by rw [hp];simp)
        have hA:=HR.out.1
        have hV:=HR.out.2
        rw [hp] at hA hV
        obtain ⟨ba,offa,cpa',hva,hya⟩:=hA.at (by simp)
        obtain ⟨bv,offv,cpv',hvv,hyv⟩:=hV.at (by simp)
        simp only [Value.slice.injEq] at hva hvv
        obtain ⟨rfl,hq1,rfl⟩:=hva
        obtain ⟨rfl,hq2,rfl⟩:=hvv
        clear hq1 hq2
        obtain ⟨da,HDA⟩:∃ d,Hid (d = p.1):=⟨_,rfl⟩
        obtain ⟨dv,HDV⟩:∃ d,Hid (d = p.2):=⟨_,rfl⟩
        rw [← HDA.out,← HDV.out] at HRE HP
        have HRA:Hid (∀ wx,Below (gl + 1) wB wx → wx.rangeAt ba offa (cb da)):=fun wx hx => by
          have h:=hya 0 (by simp)
          simp only [List.map_cons,List.map_nil,List.getD_cons_zero,Nat.zero_mul,Nat.add_zero,← HDA.out] at h
          have hb:=rangeAt_lt h HP.out.1
          exact rangeAt_below (rangeAt_below h HBW.out hb) hx (by have h2:=HGL.out;omega)
        have HRV:Hid (∀ wx,Below (gl + 1) wB wx → wx.rangeAt bv offv (cb dv)):=fun wx hx => by
          have h:=hyv 0 (by simp)
          simp only [List.map_cons,List.map_nil,List.getD_cons_zero,Nat.zero_mul,Nat.add_zero,← HDV.out] at h
          have hb:=rangeAt_lt h HP.out.2
          exact rangeAt_below (rangeAt_below h HBW.out hb) hx (by have h2:=HGL.out;omega)
        clear hya hyv hA hV hp
        go_wp2_with fail
        refine wp_region_held_drew (S:=Below (gl + 1) wB) (by kernel_rfl) HS.out.drew ?_
        intro hS
        have HB2:Hid (Blk wa.drew gr (cb zb32) 39):=HB.out
        clear HB HS ca
        change wpAnyH _ _ _ _ _ _ _ _ (World.drew wa)
        generalize World.drew wa = wd at *
        refine wpAnyH_take (i:=0) (v:=.pointer (some ⟨gl,0,none⟩)) rfl (by kernel_rfl) (by kernel_rfl) (by kernel_rfl) (fun _ _ _ h => h) (Or.inl ⟨by rfl,fun wx hx => by simp [go_sem]⟩) hS ?_
        simp only [Act.put,List.getElem_toArray,List.getElem_cons_zero,List.setIfInBounds_toArray,List.set_cons_zero,List.set_cons_succ]
        refine wpAnyH_take (i:=4) (v:=.pointer (some ⟨gl,1,none⟩)) rfl (by kernel_rfl) (by kernel_rfl) (by kernel_rfl) (fun _ _ _ h => h) (Or.inl ⟨by rfl,fun wx hx => by simp [go_sem]⟩) hS ?_
        simp only [Act.put,List.getElem_toArray,List.getElem_cons_succ,List.getElem_cons_zero,List.setIfInBounds_toArray,List.set_cons_zero,List.set_cons_succ]
        refine wpAnyH_take (i:=1) (v:=.slice (some ⟨ba,offa,none⟩) 1 cpa) rfl (by kernel_rfl) (by kernel_rfl) (by kernel_rfl) (fun _ _ _ h => h) (Or.inl ⟨by rfl,fun wx hx => by (have hc:=HCA.out wx hx;simp [go_sem,hc])⟩) hS ?_
        simp only [Act.put,List.getElem_toArray,List.getElem_cons_succ,List.getElem_cons_zero,List.setIfInBounds_toArray,List.set_cons_zero,List.set_cons_succ]
        refine wpAnyH_take (i:=5) (v:=.slice (some ⟨bv,offv,none⟩) 1 cpv) rfl (by kernel_rfl) (by kernel_rfl) (by kernel_rfl) (fun _ _ _ h => h) (Or.inl ⟨by rfl,fun wx hx => by (have hc:=HCV.out wx hx;simp [go_sem,hc])⟩) hS ?_
        simp only [Act.put,List.getElem_toArray,List.getElem_cons_succ,List.getElem_cons_zero,List.setIfInBounds_toArray,List.set_cons_zero,List.set_cons_succ]
        refine wpAnyH_take (i:=2) (v:=.pointer (some ⟨ba,offa,none⟩)) rfl (by kernel_rfl) (by kernel_rfl) (by kernel_rfl) (fun _ _ _ h => h) (Or.inl ⟨by rfl,fun wx hx => by simp [go_sem]⟩) hS ?_
        simp only [Act.put,List.getElem_toArray,List.getElem_cons_succ,List.getElem_cons_zero,List.setIfInBounds_toArray,List.set_cons_zero,List.set_cons_succ]
        refine wpAnyH_take (i:=6) (v:=.pointer (some ⟨bv,offv,none⟩)) rfl (by kernel_rfl) (by kernel_rfl) (by kernel_rfl) (fun _ _ _ h => h) (Or.inl ⟨by rfl,fun wx hx => by simp [go_sem]⟩) hS ?_
        simp only [Act.put,List.getElem_toArray,List.getElem_cons_succ,List.getElem_cons_zero,List.setIfInBounds_toArray,List.set_cons_zero,List.set_cons_succ]
        refine wpAnyH_take (i:=3) (v:=.agg (cb da).toArray) rfl (by kernel_rfl) (by kernel_rfl) (by kernel_rfl) (fun _ _ _ h => h) (Or.inl ⟨by rfl,fun wx hx => by exact load_run 39 _ rfl _ _ rfl (cb da) _ (HRA.out wx hx) Tryz.underlying39 rfl (by rw [cb_len,HP.out.1];exact info_digest)⟩) hS ?_
        simp only [Act.put,List.getElem_toArray,List.getElem_cons_succ,List.getElem_cons_zero,List.setIfInBounds_toArray,List.set_cons_zero,List.set_cons_succ]
        refine wpAnyH_take (i:=7) (v:=.agg (cb dv).toArray) rfl (by kernel_rfl) (by kernel_rfl) (by kernel_rfl) (fun _ _ _ h => h) (Or.inl ⟨by rfl,fun wx hx => by exact load_run 39 _ rfl _ _ rfl (cb dv) _ (HRV.out wx hx) Tryz.underlying39 rfl (by rw [cb_len,HP.out.2];exact info_digest)⟩) hS ?_
        simp only [Act.put,List.getElem_toArray,List.getElem_cons_succ,List.getElem_cons_zero,List.setIfInBounds_toArray,List.set_cons_zero,List.set_cons_succ]
        refine wpAnyH_enter 8 (by kernel_rfl) rfl (by rfl) (f:=24) (args:=#[.agg (cb da).toArray,.agg (cb dv).toArray]) (by simp [go_sem]) (hLeaf_any da dv HP.out.1 HP.out.2 _) ?_
        rintro e wy ⟨rfl,hbq⟩
        have hS2:=Sb.more hS (by rw [HSB.out];exact Nat.le_refl _) hbq
        refine ⟨_,rfl,hS2,?_⟩
        have HB3:Hid (Blk wy gr (cb zb32) 39):=HB2.out.below hbq HB2.out.lt
        rw [HRE.out]
        clear hS hbq HB2
        have hS:=hS2
        have HB2:=HB3
        clear hS2 HB3
        simp only [Act.put,List.getElem_toArray,List.getElem_cons_succ,List.getElem_cons_zero,List.setIfInBounds_toArray,List.set_cons_zero,List.set_cons_succ]
        refine wpAnyH_law 9 (by kernel_rfl) rfl (by rfl) (wp_store_mid 39 _ _ rfl gr 0 (cb r).toArray rfl rfl (HB2.out.there 0 _ (by rw [List.size_toArray,cb_len,cb_len,HRL.out];decide)) (by rw [List.size_toArray,cb_len,HRL.out];exact info_digest) (all_oneCell_toArray (cb_one r)) ?_)
        rw [List.toList_toArray]
        have h9:=SetB.of zb32 r rfl HRL.out HB2.out
        refine ⟨hS.trans (h9.only.below HGR.out (Nat.le_trans HGR.out (Nat.le_of_lt HB2.out.lt))),?_⟩
        simp only [Act.put,List.getElem_toArray,List.getElem_cons_succ,List.getElem_cons_zero]
        refine wpAnyH_done (by kernel_rfl) ?_ _
        have HS:Hid (Below (gl + 1) wB wy):=hS
        clear hS HB2
        generalize World.setCells wy gr 0 (cb r) = W9 at *
        go_wp2
        exact bodyPost_ret (v:=.agg (cb r).toArray) (results_cell_row (by rfl) _ _ gr 39 _ (0,0) _ rfl h9.blk Tryz.underlying39 rfl (by rw [List.size_toArray,cb_len,HRL.out];exact info_digest)) rfl ⟨rfl,(HBW.out.trans (HS.out.mono (by have:=HGL.out;omega))).trans (h9.only.below (by have h1:=HGR.out;have h2:=HGL.out;omega) (Nat.le_trans HBW.out.size HS.out.size))⟩
      · have h2:2 ≤ n:=by omega
        have HN2:Hid (2 ≤ l.length):=by show _ ≤ _;rw [← HN.out];exact h2
        have hn0:¬ ((n:Int) = 0):=by omega
        have hn1:¬ ((n:Int) = 1):=by omega
        have b0:((n:Int) == 0) = false:=by simpa using hn0
        have b1:((n:Int) == 1) = false:=by simpa using hn1
        have HD256:Hid (d < 256):=HF.out.lt HN2.out
        have HRT:Hid (r = dig (pairB 78 (rootL (halfL l d false) (d + 1)) (rootL (halfL l d true) (d + 1)))):=by show _ = _;rw [HRD.out];exact rootL_two HF.out HN2.out
        exact absurd HD256.out (by have:=HFF.out;omega)
  · skip
    intro l d va vv w hf hF hR hl hd
    have HF:Hid (Fits l d):=hF
    have HR:Hid (ReadsLf w va vv l):=hR
    have HL:Hid (l.length < 2000000):=hl
    have HFF:Hid (256 ≤ d + (f + 1)):=hf
    have HDD:Hid (d ≤ 256):=hd
    obtain ⟨r,HRD⟩:∃ r,Hid (r = rootL l d):=⟨_,rfl⟩
    have HRL:Hid (r.length = 32):=by show _ = _;rw [HRD.out];exact rootL_len hF
    rw [← HRD.out]
    obtain ⟨n,HN⟩:∃ n,Hid (n = l.length):=⟨_,rfl⟩
    obtain ⟨ada,cpa,hva⟩:=hR.1.slice
    obtain ⟨adv,cpv,hvv⟩:=hR.2.slice
    rw [List.length_map,← HN.out] at hva hvv
    subst hva hvv
    clear hR hl hF hf hd
    obtain ⟨gl,HGL⟩:∃ g,Hid (g = w.heap.size):=⟨_,rfl⟩
    obtain ⟨wB,HWB⟩:∃ z,Hid (z = w.alloc (.cells [Value.slice ada n cpa,.slice adv n cpv].toArray 43)):=⟨_,rfl⟩
    have HLB:Hid (Blk wB gl [Value.slice ada n cpa,.slice adv n cpv] 43):=by rw [HWB.out,HGL.out];exact Blk.new w _ _
    have HBW:Hid (Below w.heap.size w wB):=by rw [HWB.out];exact below_alloc w _
    have HSB:Hid (wB.heap.size = gl + 1):=by show _ = _;rw [HWB.out,HGL.out];simp
    have HCA:Hid (∀ wx,Below (gl + 1) wB wx → wx.cell? ⟨gl,0,none⟩ = some (.slice ada n cpa)):=fun wx hx => (HLB.out.below hx (Nat.lt_succ_self _)).cell 0
    have HCV:Hid (∀ wx,Below (gl + 1) wB wx → wx.cell? ⟨gl,1,none⟩ = some (.slice adv n cpv)):=fun wx hx => (HLB.out.below hx (Nat.lt_succ_self _)).cell 1
    have HRS:Hid (∀ wx,Below (gl + 1) wB wx → ReadsLf wx (.slice ada n cpa) (.slice adv n cpv) l):=fun wx hx => HR.out.below (HBW.out.trans (hx.mono (by have:=HGL.out;omega)))
    go_enter Tryz.func10,Tryz.ntmps10
    go_upto_region 1 with (first
      | (with_reducible refine wpSeq_allocD ?_ ?_ ?_
         · rfl
         · rfl
         intro gr wa nn))
    rw [← HWB.out] at nn
    have e0:(some ⟨w.heap.size,0,none⟩:Option Addr) = some ⟨gl,0,none⟩:=by rw [HGL.out]
    simp only [e0]
    clear e0
    have HB:Hid (Blk wa gr (cb zb32) 39):=nn.blk
    have HS:Hid (Below (gl + 1) wB wa):=by rw [← HSB.out];exact nn.below
    have HGR:Hid (gl + 1 ≤ gr):=by show _ ≤ _;rw [← HSB.out];exact nn.ge
    clear nn
    have ca:wa.cell? ⟨gl,0,none⟩ = some (.slice ada n cpa):=HCA.out wa HS.out
    have HRET:Hid (∀ W9,SetB r W9 gr W9 → True):=fun _ _ => trivial
    clear HRET
    by_cases h0:n = 0
    · subst h0
      have hnil:l = []:=List.length_eq_zero_iff.1 HN.out.symm
      have HRE:Hid (dig [69] = r):=by show _ = _;rw [HRD.out,hnil,rootL_nil]
      clear hnil
      go_wp2_with (first
        | (go_at_call 23;refine (hEmpty_any _).mono ?_;rintro e wc ⟨rfl,hb4⟩;rw [HRE.out]
           replace HB:Hid (Blk wc gr (cb zb32) 39):=HB.out.below hb4 HB.out.lt
           replace HS:Hid (Below (gl + 1) wB wc):=Sb.more HS.out (by rw [HSB.out];exact Nat.le_refl _) hb4
           clear hb4)
        | (with_reducible refine wpSeq_storeD (.tmp 4) (.tmp 9) gr zb32 r ?_ ?_ ?_ ?_ ?_ ?_ ?_ ?_
           · rfl
           · exact HRL.out
           · exact HB.out
           · rfl
           · rfl
           · rfl
           · rfl
           intro W9 h9))
      exact bodyPost_ret (v:=.agg (cb r).toArray) (results_cell_row (by rfl) _ _ gr 39 _ (0,0) _ rfl h9.blk Tryz.underlying39 rfl (by rw [List.size_toArray,cb_len,HRL.out];exact info_digest)) rfl ⟨rfl,(HBW.out.trans (HS.out.mono (by have:=HGL.out;omega))).trans (h9.only.below (by have h1:=HGR.out;have h2:=HGL.out;omega) (Nat.le_trans HBW.out.size HS.out.size))⟩
    · by_cases h1:n = 1
      · subst h1
        obtain ⟨p,hp⟩:∃ p,l = [p]:=List.length_eq_one_iff.1 HN.out.symm
        have HRE:Hid (dig (pairB 76 p.1 p.2) = r):=by show _ = _;rw [HRD.out,hp,rootL_one]
        have HP:Hid (p.1.length = 32 ∧ p.2.length = 32):=HR.out.ok p (by rw [hp];simp)
        have hA:=HR.out.1
        have hV:=HR.out.2
        rw [hp] at hA hV
        obtain ⟨ba,offa,cpa',hva,hya⟩:=hA.at (by simp)
        obtain ⟨bv,offv,cpv',hvv,hyv⟩:=hV.at (by simp)
        simp only [Value.slice.injEq] at hva hvv
        obtain ⟨rfl,hq1,rfl⟩:=hva
        obtain ⟨rfl,hq2,rfl⟩:=hvv
        clear hq1 hq2
        obtain ⟨da,HDA⟩:∃ d,Hid (d = p.1):=⟨_,rfl⟩
        obtain ⟨dv,HDV⟩:∃ d,Hid (d = p.2):=⟨_,rfl⟩
        rw [← HDA.out,← HDV.out] at HRE HP
        have HRA:Hid (∀ wx,Below (gl + 1) wB wx → wx.rangeAt ba offa (cb da)):=fun wx hx => by
          have h:=hya 0 (by simp)
          simp only [List.map_cons,List.map_nil,List.getD_cons_zero,Nat.zero_mul,Nat.add_zero,← HDA.out] at h
          have hb:=rangeAt_lt h HP.out.1
          exact rangeAt_below (rangeAt_below h HBW.out hb) hx (by have h2:=HGL.out;omega)
        have HRV:Hid (∀ wx,Below (gl + 1) wB wx → wx.rangeAt bv offv (cb dv)):=fun wx hx => by
          have h:=hyv 0 (by simp)
          simp only [List.map_cons,List.map_nil,List.getD_cons_zero,Nat.zero_mul,Nat.add_zero,← HDV.out] at h
          have hb:=rangeAt_lt h HP.out.2
          exact rangeAt_below (rangeAt_below h HBW.out hb) hx (by have h2:=HGL.out;omega)
        clear hya hyv hA hV hp
        go_wp2_with fail
        refine wp_region_held_drew (S:=Below (gl + 1) wB) (by kernel_rfl) HS.out.drew ?_
        intro hS
        have HB2:Hid (Blk wa.drew gr (cb zb32) 39):=HB.out
        clear HB HS ca
        change wpAnyH _ _ _ _ _ _ _ _ (World.drew wa)
        generalize World.drew wa = wd at *
        refine wpAnyH_take (i:=0) (v:=.pointer (some ⟨gl,0,none⟩)) rfl (by kernel_rfl) (by kernel_rfl) (by kernel_rfl) (fun _ _ _ h => h) (Or.inl ⟨by rfl,fun wx hx => by simp [go_sem]⟩) hS ?_
        simp only [Act.put,List.getElem_toArray,List.getElem_cons_zero,List.setIfInBounds_toArray,List.set_cons_zero,List.set_cons_succ]
        refine wpAnyH_take (i:=4) (v:=.pointer (some ⟨gl,1,none⟩)) rfl (by kernel_rfl) (by kernel_rfl) (by kernel_rfl) (fun _ _ _ h => h) (Or.inl ⟨by rfl,fun wx hx => by simp [go_sem]⟩) hS ?_
        simp only [Act.put,List.getElem_toArray,List.getElem_cons_succ,List.getElem_cons_zero,List.setIfInBounds_toArray,List.set_cons_zero,List.set_cons_succ]
        refine wpAnyH_take (i:=1) (v:=.slice (some ⟨ba,offa,none⟩) 1 cpa) rfl (by kernel_rfl) (by kernel_rfl) (by kernel_rfl) (fun _ _ _ h => h) (Or.inl ⟨by rfl,fun wx hx => by (have hc:=HCA.out wx hx;simp [go_sem,hc])⟩) hS ?_
        simp only [Act.put,List.getElem_toArray,List.getElem_cons_succ,List.getElem_cons_zero,List.setIfInBounds_toArray,List.set_cons_zero,List.set_cons_succ]
        refine wpAnyH_take (i:=5) (v:=.slice (some ⟨bv,offv,none⟩) 1 cpv) rfl (by kernel_rfl) (by kernel_rfl) (by kernel_rfl) (fun _ _ _ h => h) (Or.inl ⟨by rfl,fun wx hx => by (have hc:=HCV.out wx hx;simp [go_sem,hc])⟩) hS ?_
        simp only [Act.put,List.getElem_toArray,List.getElem_cons_succ,List.getElem_cons_zero,List.setIfInBounds_toArray,List.set_cons_zero,List.set_cons_succ]
        refine wpAnyH_take (i:=2) (v:=.pointer (some ⟨ba,offa,none⟩)) rfl (by kernel_rfl) (by kernel_rfl) (by kernel_rfl) (fun _ _ _ h => h) (Or.inl ⟨by rfl,fun wx hx => by simp [go_sem]⟩) hS ?_
        simp only [Act.put,List.getElem_toArray,List.getElem_cons_succ,List.getElem_cons_zero,List.setIfInBounds_toArray,List.set_cons_zero,List.set_cons_succ]
        refine wpAnyH_take (i:=6) (v:=.pointer (some ⟨bv,offv,none⟩)) rfl (by kernel_rfl) (by kernel_rfl) (by kernel_rfl) (fun _ _ _ h => h) (Or.inl ⟨by rfl,fun wx hx => by simp [go_sem]⟩) hS ?_
        simp only [Act.put,List.getElem_toArray,List.getElem_cons_succ,List.getElem_cons_zero,List.setIfInBounds_toArray,List.set_cons_zero,List.set_cons_succ]
        refine wpAnyH_take (i:=3) (v:=.agg (cb da).toArray) rfl (by kernel_rfl) (by kernel_rfl) (by kernel_rfl) (fun _ _ _ h => h) (Or.inl ⟨by rfl,fun wx hx => by exact load_run 39 _ rfl _ _ rfl (cb da) _ (HRA.out wx hx) Tryz.underlying39 rfl (by rw [cb_len,HP.out.1];exact info_digest)⟩) hS ?_
        simp only [Act.put,List.getElem_toArray,List.getElem_cons_succ,List.getElem_cons_zero,List.setIfInBounds_toArray,List.set_cons_zero,List.set_cons_succ]
        refine wpAnyH_take (i:=7) (v:=.agg (cb dv).toArray) rfl (by kernel_rfl) (by kernel_rfl) (by kernel_rfl) (fun _ _ _ h => h) (Or.inl ⟨by rfl,fun wx hx => by exact load_run 39 _ rfl _ _ rfl (cb dv) _ (HRV.out wx hx) Tryz.underlying39 rfl (by rw [cb_len,HP.out.2];exact info_digest)⟩) hS ?_
        simp only [Act.put,List.getElem_toArray,List.getElem_cons_succ,List.getElem_cons_zero,List.setIfInBounds_toArray,List.set_cons_zero,List.set_cons_succ]
        refine wpAnyH_enter 8 (by kernel_rfl) rfl (by rfl) (f:=24) (args:=#[.agg (cb da).toArray,.agg (cb dv).toArray]) (by simp [go_sem]) (hLeaf_any da dv HP.out.1 HP.out.2 _) ?_
        rintro e wy ⟨rfl,hbq⟩
        have hS2:=Sb.more hS (by rw [HSB.out];exact Nat.le_refl _) hbq
        refine ⟨_,rfl,hS2,?_⟩
        have HB3:Hid (Blk wy gr (cb zb32) 39):=HB2.out.below hbq HB2.out.lt
        rw [HRE.out]
        clear hS hbq HB2
        have hS:=hS2
        have HB2:=HB3
        clear hS2 HB3
        simp only [Act.put,List.getElem_toArray,List.getElem_cons_succ,List.getElem_cons_zero,List.setIfInBounds_toArray,List.set_cons_zero,List.set_cons_succ]
        refine wpAnyH_law 9 (by kernel_rfl) rfl (by rfl) (wp_store_mid 39 _ _ rfl gr 0 (cb r).toArray rfl rfl (HB2.out.there 0 _ (by rw [List.size_toArray,cb_len,cb_len,HRL.out];decide)) (by rw [List.size_toArray,cb_len,HRL.out];exact info_digest) (all_oneCell_toArray (cb_one r)) ?_)
        rw [List.toList_toArray]
        have h9:=SetB.of zb32 r rfl HRL.out HB2.out
        refine ⟨hS.trans (h9.only.below HGR.out (Nat.le_trans HGR.out (Nat.le_of_lt HB2.out.lt))),?_⟩
        simp only [Act.put,List.getElem_toArray,List.getElem_cons_succ,List.getElem_cons_zero]
        refine wpAnyH_done (by kernel_rfl) ?_ _
        have HS:Hid (Below (gl + 1) wB wy):=hS
        clear hS HB2
        generalize World.setCells wy gr 0 (cb r) = W9 at *
        go_wp2
        exact bodyPost_ret (v:=.agg (cb r).toArray) (results_cell_row (by rfl) _ _ gr 39 _ (0,0) _ rfl h9.blk Tryz.underlying39 rfl (by rw [List.size_toArray,cb_len,HRL.out];exact info_digest)) rfl ⟨rfl,(HBW.out.trans (HS.out.mono (by have:=HGL.out;omega))).trans (h9.only.below (by have h1:=HGR.out;have h2:=HGL.out;omega) (Nat.le_trans HBW.out.size HS.out.size))⟩
      · have h2:2 ≤ n:=by omega
        have HN2:Hid (2 ≤ l.length):=by show _ ≤ _;rw [← HN.out];exact h2
        have hn0:¬ ((n:Int) = 0):=by omega
        have hn1:¬ ((n:Int) = 1):=by omega
        have b0:((n:Int) == 0) = false:=by simpa using hn0
        have b1:((n:Int) == 1) = false:=by simpa using hn1
        have HD256:Hid (d < 256):=HF.out.lt HN2.out
        have HRT:Hid (r = dig (pairB 78 (rootL (halfL l d false) (d + 1)) (rootL (halfL l d true) (d + 1)))):=by show _ = _;rw [HRD.out];exact rootL_two HF.out HN2.out
        have IH:Hid (∀ (l:List Lf) (d:Nat) (va vv:Value) (w:World),256 ≤ d + f → Fits l d → ReadsLf w va vv l → l.length < 2000000 → d ≤ 256 → Calls Tryz.prog 10 #[.agg #[va,vv],.int .i64 (d:Int)] w fun e w' => e = .returned (.agg (cb (rootL l d)).toArray) ∧ Below w.heap.size w w'):=ih
        clear ih
        have d256:=HD256.out
        have hwr:IntKind.i64.wrap ((d:Int) + 1) = ((d + 1:Nat):Int):=by rw [wrap_small2 _ (by omega) (by omega)];rfl
        obtain ⟨d1,HD1⟩:∃ x,Hid (x = d + 1):=⟨_,rfl⟩
        rw [← HD1.out] at hwr
        obtain ⟨r1,HR1⟩:∃ x,Hid (x = rootL (halfL l d false) (d + 1)):=⟨_,rfl⟩
        obtain ⟨r2,HR2⟩:∃ x,Hid (x = rootL (halfL l d true) (d + 1)):=⟨_,rfl⟩
        have HL1:Hid (r1.length = 32):=by show _ = _;rw [HR1.out];exact rootL_len (HF.out.half false)
        have HL2:Hid (r2.length = 32):=by show _ = _;rw [HR2.out];exact rootL_len (HF.out.half true)
        have HRE:Hid (dig (pairB 78 r1 r2) = r):=by show _ = _;rw [HRT.out,HR1.out,HR2.out]
        have HC1:Hid (∀ xa xv w,ReadsLf w xa xv (halfL l d false) → Calls Tryz.prog 10 #[.agg #[xa,xv],.int .i64 (d1:Int)] w fun e w' => e = .returned (.agg (cb r1).toArray) ∧ Below w.heap.size w w'):=fun xa xv w h => by rw [HR1.out,HD1.out];exact IH.out _ _ _ _ _ (by have:=HFF.out;omega) (HF.out.half false) h (Nat.lt_of_le_of_lt (half_le _ _ _) HL.out) (by omega)
        have HC2:Hid (∀ xa xv w,ReadsLf w xa xv (halfL l d true) → Calls Tryz.prog 10 #[.agg #[xa,xv],.int .i64 (d1:Int)] w fun e w' => e = .returned (.agg (cb r2).toArray) ∧ Below w.heap.size w w'):=fun xa xv w h => by rw [HR2.out,HD1.out];exact IH.out _ _ _ _ _ (by have:=HFF.out;omega) (HF.out.half true) h (Nat.lt_of_le_of_lt (half_le _ _ _) HL.out) (by omega)
        clear IH
        go_wp2_with fail
        refine wp_region_held_drew (S:=Below (gl + 1) wB) (by kernel_rfl) HS.out.drew ?_
        intro hS
        have HB2:Hid (Blk wa.drew gr (cb zb32) 39):=HB.out
        clear HB HS ca
        change wpAnyH _ _ _ _ _ _ _ _ (World.drew wa)
        generalize World.drew wa = wd at *
        refine wpAnyH_take (i:=0) (v:=.agg #[.slice ada n cpa,.slice adv n cpv]) rfl (by kernel_rfl) (by kernel_rfl) (by kernel_rfl) (fun _ _ _ h => h) (Or.inl ⟨by rfl,fun wx hx => by (have c0:=HCA.out wx hx;have c1:=HCV.out wx hx;simp [go_sem,c0,c1])⟩) hS ?_
        simp only [Act.put,List.getElem_toArray,List.getElem_cons_zero,List.setIfInBounds_toArray,List.set_cons_zero,List.set_cons_succ]
        refine wpAnyH_take (i:=1) (v:=.int .i64 (d:Int)) rfl (by kernel_rfl) (by kernel_rfl) (by kernel_rfl) (fun _ _ _ h => h) (Or.inl ⟨by rfl,fun wx hx => by simp [go_sem]⟩) hS ?_
        simp only [Act.put,List.getElem_toArray,List.getElem_cons_succ,List.getElem_cons_zero,List.setIfInBounds_toArray,List.set_cons_zero,List.set_cons_succ]
        refine wpAnyH_take (i:=3) (v:=.int .i64 (d:Int)) rfl (by kernel_rfl) (by kernel_rfl) (by kernel_rfl) (fun _ _ _ h => h) (Or.inl ⟨by rfl,fun wx hx => by simp [go_sem]⟩) hS ?_
        simp only [Act.put,List.getElem_toArray,List.getElem_cons_succ,List.getElem_cons_zero,List.setIfInBounds_toArray,List.set_cons_zero,List.set_cons_succ]
        refine wpAnyH_take (i:=4) (v:=.int .i64 (d1:Int)) rfl (by kernel_rfl) (by kernel_rfl) (by kernel_rfl) (fun _ _ _ h => h) (Or.inl ⟨by rfl,fun wx hx => by simp [go_sem,hwr]⟩) hS ?_
        simp only [Act.put,List.getElem_toArray,List.getElem_cons_succ,List.getElem_cons_zero,List.setIfInBounds_toArray,List.set_cons_zero,List.set_cons_succ]
        refine wpAnyH_take (i:=6) (v:=.agg #[.slice ada n cpa,.slice adv n cpv]) rfl (by kernel_rfl) (by kernel_rfl) (by kernel_rfl) (fun _ _ _ h => h) (Or.inl ⟨by rfl,fun wx hx => by (have c0:=HCA.out wx hx;have c1:=HCV.out wx hx;simp [go_sem,c0,c1])⟩) hS ?_
        simp only [Act.put,List.getElem_toArray,List.getElem_cons_succ,List.getElem_cons_zero,List.setIfInBounds_toArray,List.set_cons_zero,List.set_cons_succ]
        refine wpAnyH_take (i:=7) (v:=.int .i64 (d:Int)) rfl (by kernel_rfl) (by kernel_rfl) (by kernel_rfl) (fun _ _ _ h => h) (Or.inl ⟨by rfl,fun wx hx => by simp [go_sem]⟩) hS ?_
        simp only [Act.put,List.getElem_toArray,List.getElem_cons_succ,List.getElem_cons_zero,List.setIfInBounds_toArray,List.set_cons_zero,List.set_cons_succ]
        refine wpAnyH_take (i:=9) (v:=.int .i64 (d:Int)) rfl (by kernel_rfl) (by kernel_rfl) (by kernel_rfl) (fun _ _ _ h => h) (Or.inl ⟨by rfl,fun wx hx => by simp [go_sem]⟩) hS ?_
        simp only [Act.put,List.getElem_toArray,List.getElem_cons_succ,List.getElem_cons_zero,List.setIfInBounds_toArray,List.set_cons_zero,List.set_cons_succ]
        refine wpAnyH_take (i:=10) (v:=.int .i64 (d1:Int)) rfl (by kernel_rfl) (by kernel_rfl) (by kernel_rfl) (fun _ _ _ h => h) (Or.inl ⟨by rfl,fun wx hx => by simp [go_sem,hwr]⟩) hS ?_
        simp only [Act.put,List.getElem_toArray,List.getElem_cons_succ,List.getElem_cons_zero,List.setIfInBounds_toArray,List.set_cons_zero,List.set_cons_succ]
        refine wpAnyH_enter 2 (by kernel_rfl) rfl (by rfl) (f:=26) (args:=#[.agg #[.slice ada n cpa,.slice adv n cpv],.int .i64 (d:Int),.bool false]) (by simp [go_sem]) (lfHalf_b _ _ l d HD256.out false _ (HRS.out _ hS) HL.out) ?_
        rintro e wy ⟨xa,xv,rfl,ho,hbq⟩
        have hS2:=Sb.more hS (by rw [HSB.out];exact Nat.le_refl _) hbq
        refine ⟨_,rfl,hS2,?_⟩
        have HB3:Hid (Blk wy gr (cb zb32) 39):=HB2.out.below hbq HB2.out.lt
        have HO1:Hid (ReadsLf wy xa xv (halfL l d false)):=ho.reads
        clear ho
        clear hS hbq HB2
        have hS:=hS2
        have HB2:=HB3
        clear hS2 HB3
        simp only [Act.put,List.getElem_toArray,List.getElem_cons_succ,List.getElem_cons_zero,List.setIfInBounds_toArray,List.set_cons_zero,List.set_cons_succ]
        refine wpAnyH_enter 5 (by kernel_rfl) rfl (by rfl) (f:=10) (args:=#[.agg #[xa,xv],.int .i64 (d1:Int)]) (by simp [go_sem]) (HC1.out xa xv _ HO1.out) ?_
        rintro e wy ⟨rfl,hbq⟩
        have hS2:=Sb.more hS (by rw [HSB.out];exact Nat.le_refl _) hbq
        refine ⟨_,rfl,hS2,?_⟩
        have HB3:Hid (Blk wy gr (cb zb32) 39):=HB2.out.below hbq HB2.out.lt
        clear HO1
        clear hS hbq HB2
        have hS:=hS2
        have HB2:=HB3
        clear hS2 HB3
        simp only [Act.put,List.getElem_toArray,List.getElem_cons_succ,List.getElem_cons_zero,List.setIfInBounds_toArray,List.set_cons_zero,List.set_cons_succ]
        refine wpAnyH_enter 8 (by kernel_rfl) rfl (by rfl) (f:=26) (args:=#[.agg #[.slice ada n cpa,.slice adv n cpv],.int .i64 (d:Int),.bool true]) (by simp [go_sem]) (lfHalf_b _ _ l d HD256.out true _ (HRS.out _ hS) HL.out) ?_
        rintro e wy ⟨ya,yv,rfl,ho,hbq⟩
        have hS2:=Sb.more hS (by rw [HSB.out];exact Nat.le_refl _) hbq
        refine ⟨_,rfl,hS2,?_⟩
        have HB3:Hid (Blk wy gr (cb zb32) 39):=HB2.out.below hbq HB2.out.lt
        have HO1:Hid (ReadsLf wy ya yv (halfL l d true)):=ho.reads
        clear ho
        clear hS hbq HB2
        have hS:=hS2
        have HB2:=HB3
        clear hS2 HB3
        simp only [Act.put,List.getElem_toArray,List.getElem_cons_succ,List.getElem_cons_zero,List.setIfInBounds_toArray,List.set_cons_zero,List.set_cons_succ]
        refine wpAnyH_enter 11 (by kernel_rfl) rfl (by rfl) (f:=10) (args:=#[.agg #[ya,yv],.int .i64 (d1:Int)]) (by simp [go_sem]) (HC2.out ya yv _ HO1.out) ?_
        rintro e wy ⟨rfl,hbq⟩
        have hS2:=Sb.more hS (by rw [HSB.out];exact Nat.le_refl _) hbq
        refine ⟨_,rfl,hS2,?_⟩
        have HB3:Hid (Blk wy gr (cb zb32) 39):=HB2.out.below hbq HB2.out.lt
        clear HO1
        clear hS hbq HB2
        have hS:=hS2
        have HB2:=HB3
        clear hS2 HB3
        simp only [Act.put,List.getElem_toArray,List.getElem_cons_succ,List.getElem_cons_zero,List.setIfInBounds_toArray,List.set_cons_zero,List.set_cons_succ]
        refine wpAnyH_enter 12 (by kernel_rfl) rfl (by rfl) (f:=25) (args:=#[.agg (cb r1).toArray,.agg (cb r2).toArray]) (by simp [go_sem]) (hNode_any r1 r2 HL1.out HL2.out _) ?_
        rintro e wy ⟨rfl,hbq⟩
        have hS2:=Sb.more hS (by rw [HSB.out];exact Nat.le_refl _) hbq
        refine ⟨_,rfl,hS2,?_⟩
        have HB3:Hid (Blk wy gr (cb zb32) 39):=HB2.out.below hbq HB2.out.lt
        rw [HRE.out]
        clear hS hbq HB2
        have hS:=hS2
        have HB2:=HB3
        clear hS2 HB3
        simp only [Act.put,List.getElem_toArray,List.getElem_cons_succ,List.getElem_cons_zero,List.setIfInBounds_toArray,List.set_cons_zero,List.set_cons_succ]
        refine wpAnyH_law 13 (by kernel_rfl) rfl (by rfl) (wp_store_mid 39 _ _ rfl gr 0 (cb r).toArray rfl rfl (HB2.out.there 0 _ (by rw [List.size_toArray,cb_len,cb_len,HRL.out];decide)) (by rw [List.size_toArray,cb_len,HRL.out];exact info_digest) (all_oneCell_toArray (cb_one r)) ?_)
        rw [List.toList_toArray]
        have h9:=SetB.of zb32 r rfl HRL.out HB2.out
        refine ⟨hS.trans (h9.only.below HGR.out (Nat.le_trans HGR.out (Nat.le_of_lt HB2.out.lt))),?_⟩
        simp only [Act.put,List.getElem_toArray,List.getElem_cons_succ,List.getElem_cons_zero]
        refine wpAnyH_done (by kernel_rfl) ?_ _
        have HS:Hid (Below (gl + 1) wB wy):=hS
        clear hS HB2
        generalize World.setCells wy gr 0 (cb r) = W9 at *
        go_wp2
        exact bodyPost_ret (v:=.agg (cb r).toArray) (results_cell_row (by rfl) _ _ gr 39 _ (0,0) _ rfl h9.blk Tryz.underlying39 rfl (by rw [List.size_toArray,cb_len,HRL.out];exact info_digest)) rfl ⟨rfl,(HBW.out.trans (HS.out.mono (by have:=HGL.out;omega))).trans (h9.only.below (by have h1:=HGR.out;have h2:=HGL.out;omega) (Nat.le_trans HBW.out.size HS.out.size))⟩
end Go.Proofs.YtphmmnffgknkcaaGreatDoor
namespace Go.Proofs.YtphmmnffgknkcaaGreatDoor
open Go.RowKit
set_option maxRecDepth 100000
theorem results_row_tmp {fn:Func} {p u:Tmp} {ty:TypeId} (h:fn.results = #[.cell p ty,.tmp u]) (tmps:Array Value) (P:Program) (w:World) (g:Nat) (t:TypeId) (cs:List Value) (d:TypeDesc) (x:Value)
    (hp:tmps.getD p undef = .pointer (some ⟨g,0,none⟩)) (hx:tmps.getD u undef = x) (hg:Blk w g cs t) (hu:P.underlying ty = some d) (hd:d.isRow = true) (hi:(P.info? ty).map (·.size) = some cs.length) :
    (results fn tmps).run P w = .ok (.tuple #[.agg cs.toArray,x]) w:=by
  rw [results_cell_tmp h,hp,hx]
  simp only [asAddr,Sem.run_pure,Result.andThen_ok,run_loadVar_mid w g 0 ty cs d hg.range hu hd hi]
theorem wpSeq_buildZ0 {ops:Array Oper} {Q:Exit → Act → World → Prop} {rest:List Oper} {o:Oper} {a:Act} {w:World} (ho:o.op = .build 39 #[]) (hw:Region.wanted o (yielded ops a.tmps) = true)
    (h:wpList Tryz.prog ops Q rest (a.put o.dst (.agg (cb zb32).toArray)) w):wpList Tryz.prog ops Q (o :: rest) a w:=by
  refine wpSeq_val _ _ hw ?_ h
  unfold execOp
  rw [ho]
  kernel_rfl
end Go.Proofs.YtphmmnffgknkcaaGreatDoor
namespace Go.Proofs.YtphmmnffgknkcaaGreatDoor
open Go.RowKit
set_option maxRecDepth 100000
theorem Blk.mid {w:World} {g off:Nat} {A B B2 C:List Value} {t:TypeId} (h:Blk w g (A ++ (B ++ C)) t) (hl:B2.length = B.length) (ho:A.length = off):Blk (w.setCells g off B2) g (A ++ (B2 ++ C)) t:=by
  subst ho
  have h2:=setCells_eq g B2 A.length w _ t h (by simp only [List.length_append];omega)
  have e:(A ++ (B ++ C)).take A.length ++ B2 ++ (A ++ (B ++ C)).drop (A.length + B2.length) = A ++ (B2 ++ C):=by
    rw [List.take_left,← List.drop_drop,List.drop_left,hl,List.drop_left,List.append_assoc]
  rwa [e] at h2
theorem wpSeq_box {ops:Array Oper} {Q:Exit → Act → World → Prop} {rest:List Oper} {o:Oper} {a:Act} {w:World} (ty:TypeId) (x:Operand) (ho:o.op = .box ty x) (cs:List Value) (hx:a.eval x = .agg cs.toArray) (hw:Region.wanted o (yielded ops a.tmps) = true) (w0:World) (h0:w0 = w.alloc (.cells cs.toArray ty))
    (h:wpList Tryz.prog ops Q rest (a.put o.dst (.pointer (some ⟨w.heap.size,0,none⟩))) w0):wpList Tryz.prog ops Q (o :: rest) a w:=by
  refine wpSeq_val _ w0 hw ?_ h
  subst h0
  unfold execOp
  rw [ho]
  simp only [hx]
  rfl
end Go.Proofs.YtphmmnffgknkcaaGreatDoor
namespace Go.Proofs.YtphmmnffgknkcaaGreatDoor
open Go.RowKit
set_option maxRecDepth 100000
theorem ReadsD.same {W W':World} {v:Value} {ds:List (List (BitVec 8))} (h:ReadsD W v ds) (hs:0 < ds.length → ∀ j,v.ownBlock = some j → W'.heap[j]? = W.heap[j]?):ReadsD W' v ds:=by
  obtain ⟨⟨ad,cap,rfl,hc,hn,hx⟩,h32⟩:=h
  refine ⟨⟨ad,cap,rfl,hc,hn,fun hp => ?_⟩,h32⟩
  obtain ⟨b,off,rfl,hy⟩:=hx hp
  refine ⟨b,off,rfl,fun j hj => ?_⟩
  intro i u hi
  rw [World.cell?_of_block (w:=W) (hs hp b rfl)]
  exact hy j hj i u hi
theorem heap_one {W:World} {g i k:Nat} {u:Value} (h:k ≠ g):(W.setCell ⟨g,i,none⟩ u).heap[k]? = W.heap[k]?:=Below.heap_setCell _ _ _ _ h
theorem Blk.one {W:World} {g g' i:Nat} {u:Value} {cs:List Value} {t:TypeId} (h:Blk W g cs t) (hn:g ≠ g'):Blk (W.setCell ⟨g',i,none⟩ u) g cs t:=by
  unfold Blk at *
  rw [heap_one hn]
  exact h
theorem At'.setCells {g:Nat} {W0:World}:∀ (vs:List Value) (o:Nat) (W:World),(∀ k,k ≠ g → W.heap[k]? = W0.heap[k]?) → ∀ k,k ≠ g → (W.setCells g o vs).heap[k]? = W0.heap[k]?
  | [],_,_,h => h
  | v :: r,o,W,h => by
    rw [World.setCells]
    exact At'.setCells r (o + 1) _ fun k hk => (heap_one hk).trans (h k hk)
structure Wy (l0:List Lf) (x:List (BitVec 8)) (d:Nat) (l:List Lf) (sd:List (List (BitVec 8))):Prop where
  le:d ≤ 256
  fit:Fits l d
  eq:wayL l0 x 0 = (sd ++ (wayL l x d).1,(wayL l x d).2)
  len:l.length ≤ l0.length
  sides:sd.length = d
theorem Wy.start {l:List Lf} {x:List (BitVec 8)} (h:Fits l 0):Wy l x 0 l []:=⟨by omega,h,by simp,Nat.le_refl _,rfl⟩
theorem Wy.next {l0 l:List Lf} {x:List (BitVec 8)} {d:Nat} {sd:List (List (BitVec 8))} (h:Wy l0 x d l sd) (h2:2 ≤ l.length):Wy l0 x (d + 1) (halfL l d (bt x d)) (sd ++ [rootL (halfL l d (!bt x d)) (d + 1)]):=by
  have hd:=h.fit.lt h2
  refine ⟨by omega,h.fit.half _,?_,Nat.le_trans (half_le _ _ _) h.len,by rw [List.length_append,h.sides];rfl⟩
  rw [h.eq,wayL_two h.fit h2]
  simp
theorem Wy.done {l0 l:List Lf} {x:List (BitVec 8)} {d:Nat} {sd:List (List (BitVec 8))} (h:Wy l0 x d l sd) (h1:l.length ≤ 1):wayL l0 x 0 = (sd,l.head?):=by
  rw [h.eq,wayL_short x d h1]
  simp
theorem Wy.stop {l0 l:List Lf} {x:List (BitVec 8)} {d:Nat} {sd:List (List (BitVec 8))} (h:Wy l0 x d l sd) (h1:¬ (d < 256 ∧ 1 < l.length)):l.length ≤ 1:=by
  rcases Nat.lt_or_ge l.length 2 with h2 | h2
  · omega
  · have:=h.fit.lt h2
    omega
end Go.Proofs.YtphmmnffgknkcaaGreatDoor

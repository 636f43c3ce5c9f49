import Derived.Test.YtphmmnffgknkcaaGreatDoorMzc
import Derived.Lib.SliceRun
import Derived.Test.YtphmmnffgknkcaaGreatDoorMzb
import Derived.Maps.AppendAt
import Derived.Maps.OwnSet
import Derived.DeepKeys4
import Derived.WideKeyArr2
namespace Go.Proofs.YtphmmnffgknkcaaGreatDoor
open Go.Shelf Go.RowKit Go.Lib Go.Sort
set_option maxRecDepth 100000
variable {α:Type} [Inhabited α]
theorem symMerge_any (enc:α → Value) (cf:α → α → Int) (Rr:α → α → Prop) (K:Keep (ltOf cf) Rr) (g:Nat) (cb:Array Value) (eg:∀ args w,(callFunc g args).run Tryz.prog w = .ok (.enter g args) w) (blk off L cap:Nat) (d0:Array α) (w0:World) (hcmp:CmpLays1 Tryz.prog g cb enc cf blk off d0.size w0) (R:Row1 enc w0 blk off d0) (hL:d0.size = L) (hsz:L < 1000000000):∀ (NN a m b:Nat) (d:Array α) (w:World),b - a < NN → d0.size = d.size → SW enc w0 blk off d w → a < m → m < b → b ≤ d.size → Ris Rr a m d → Ris Rr m b d → Ahead (ltOf cf) Rr a m b d → Calls Tryz.prog 111 #[.slice (some ⟨blk,off,none⟩) L cap,.int .i64 a,.int .i64 m,.int .i64 b,.func (.func g) #[] cb] w fun e w' => e = .returned (.tuple #[]) ∧ ∃ d',Merged Rr a b d d' ∧ SW enc w0 blk off d' w'
  | 0,a,m,b,d,w,h,_,_,_,_,_,_,_,_ => by omega
  | NN + 1,a,m,b,d,w,h,hz,S,ham,hmb,hb,h1,h2,hx => by
    have IH:=symMerge_any enc cf Rr K g cb eg blk off L cap d0 w0 hcmp R hL hsz NN
    by_cases c1:m = a + 1
    · exact symLeft_any enc cf Rr K g cb eg blk off L cap a m b d0 d w0 w hcmp R hz (by omega) S c1 hmb hb (by omega) h2 hx
    · by_cases c2:b = m + 1
      · exact symRight_any enc cf Rr K g cb eg blk off L cap a m b d0 d w0 w hcmp R hz (by omega) S ham c1 c2 hb (by omega) h1 hx
      · by_cases c3:(a + b) / 2 < m
        · exact symMidA_any enc cf Rr K g cb eg blk off L cap a m b d0 d w0 w hcmp R hz (by omega) S NN (by omega) IH ham c1 hmb c2 ((a + b) / 2) ⟨by omega,by omega⟩ c3 hb (by omega) h1 h2 hx
        · exact symMidB_any enc cf Rr K g cb eg blk off L cap a m b d0 d w0 w hcmp R hz (by omega) S NN (by omega) IH ham c1 hmb c2 ((a + b) / 2) ⟨by omega,by omega⟩ (by omega) hb (by omega) h1 h2 hx
structure Blkd (lt:α → α → Bool) (R:α → α → Prop) (B hi n:Nat) (d dk:Array α):Prop where
  perm:PermIn 0 n d dk
  cut:∀ k,Cut lt R (k * B) n dk
  ris:∀ k,k * B < hi → Ris R (k * B) (min (k * B + B) n) dk
structure Half (lt:α → α → Bool) (R:α → α → Prop) (B k n:Nat) (d dk:Array α):Prop where
  perm:PermIn 0 n d dk
  cut2:∀ j,Cut lt R (j * (2 * B)) n dk
  cut1:∀ j,k * (2 * B) ≤ j * B → Cut lt R (j * B) n dk
  ris2:∀ j,j < k → Ris R (j * (2 * B)) (min (j * (2 * B) + 2 * B) n) dk
  ris1:∀ j,k * (2 * B) ≤ j * B → j * B < n → Ris R (j * B) (min (j * B + B) n) dk
theorem Blkd.first {lt:α → α → Bool} {R:α → α → Prop} {n:Nat} {d:Array α} (h:Stood lt R 0 n d):Blkd lt R 20 0 n d d:=
  ⟨permIn_refl _ _ _,fun k i j _ hi hj hj2 hl => h i j (Nat.zero_le _) (by omega) hj2 hl,fun k hk => by omega⟩
theorem Blkd.next {lt:α → α → Bool} {R:α → α → Prop} {k e n:Nat} {d dk dj:Array α} (h:Blkd lt R 20 (k * 20) n d dk) (he:e = min (k * 20 + 20) n) (hk:k * 20 ≤ n) (hn:n ≤ d.size) (hm:Merged R (k * 20) e dk dj):Blkd lt R 20 (k * 20 + 20) n d dj:=by
  have hz:dk.size = d.size:=h.perm.1
  refine ⟨permIn_trans _ _ _ _ _ h.perm (PermIn.wide hm.1 (Nat.zero_le _) (by omega) (by omega)),fun c => (h.cut c).perm hm.1 (by omega) (by omega) ?_,fun c hc => ?_⟩
  · by_cases c1:c ≤ k
    · exact Or.inr (Nat.mul_le_mul_right 20 c1)
    · have:(k + 1) * 20 ≤ c * 20:=Nat.mul_le_mul_right 20 (by omega)
      exact Or.inl (by omega)
  · by_cases c1:c < k
    · have h1:(c + 1) * 20 ≤ k * 20:=Nat.mul_le_mul_right 20 (by omega)
      exact (h.ris c (by omega)).other hm.1 (Or.inl (by omega))
    · have e1:c = k:=by
        by_cases c2:k < c
        · have:(k + 1) * 20 ≤ c * 20:=Nat.mul_le_mul_right 20 (by omega)
          omega
        · omega
      rw [e1,← he]
      exact hm.2
theorem Blkd.half {lt:α → α → Bool} {R:α → α → Prop} {B n:Nat} {d dk:Array α} (h:Blkd lt R B n n d dk):Half lt R B 0 n d dk:=
  ⟨h.perm,fun j => by rw [show j * (2 * B) = (j * 2) * B by rw [Nat.mul_assoc]];exact h.cut _,fun j _ => h.cut j,fun j hj => by omega,fun j _ hj => h.ris j hj⟩
theorem Half.next {lt:α → α → Bool} {R:α → α → Prop} {B k e n:Nat} {d dk dj:Array α} (h:Half lt R B k n d dk) (he:e = min (k * (2 * B) + 2 * B) n) (hn:n ≤ d.size) (hm:Merged R (k * (2 * B)) e dk dj):Half lt R B (k + 1) n d dj:=by
  have hz:dk.size = d.size:=h.perm.1
  have hk1:(k + 1) * (2 * B) = k * (2 * B) + 2 * B:=Nat.succ_mul _ _
  refine ⟨permIn_trans _ _ _ _ _ h.perm (PermIn.wide hm.1 (Nat.zero_le _) (by omega) (by omega)),fun c => (h.cut2 c).perm hm.1 (by omega) (by omega) ?_,fun c hc => (h.cut1 c (by omega)).perm hm.1 (by omega) (by omega) (Or.inl (by omega)),fun c hc => ?_,fun c hc hcn => (h.ris1 c (by omega) hcn).other hm.1 (Or.inr (by omega))⟩
  · by_cases c1:c ≤ k
    · exact Or.inr (Nat.mul_le_mul_right _ c1)
    · have:(k + 1) * (2 * B) ≤ c * (2 * B):=Nat.mul_le_mul_right _ (by omega)
      exact Or.inl (by omega)
  · by_cases c1:c < k
    · have h1:(c + 1) * (2 * B) ≤ k * (2 * B):=Nat.mul_le_mul_right _ (by omega)
      rw [Nat.succ_mul] at h1
      exact (h.ris2 c c1).other hm.1 (Or.inl (by omega))
    · rw [show c = k by omega,← he]
      exact hm.2
theorem Half.asks {lt:α → α → Bool} {R:α → α → Prop} {B k e n:Nat} {d dk:Array α} (h:Half lt R B k n d dk) (he:e = min (k * (2 * B) + 2 * B) n) (hB:0 < B) (hm:k * (2 * B) + B < n):Ris R (k * (2 * B)) (k * (2 * B) + B) dk ∧ Ris R (k * (2 * B) + B) e dk ∧ Ahead lt R (k * (2 * B)) (k * (2 * B) + B) e dk:=by
  have e1:k * (2 * B) = (2 * k) * B:=by rw [Nat.mul_comm k,Nat.mul_assoc,Nat.mul_assoc,Nat.mul_comm B k]
  have e2:k * (2 * B) + B = (2 * k + 1) * B:=by rw [Nat.succ_mul (2 * k),e1]
  have q1:=h.ris1 (2 * k) (by omega) (by omega)
  have q2:=h.ris1 (2 * k + 1) (by omega) (by omega)
  have q3:=h.cut1 (2 * k + 1) (by omega)
  rw [← e1] at q1
  rw [← e2] at q2 q3
  exact ⟨q1.mono (Nat.le_refl _) (by omega),q2.mono (Nat.le_refl _) (by omega),q3.mono (Nat.zero_le _) (Nat.le_refl _) (Nat.le_refl _) (by omega)⟩
theorem Half.last {lt:α → α → Bool} {R:α → α → Prop} {B k n:Nat} {d dk:Array α} (h:Half lt R B k n d dk) (hB:0 < B) (h1:n ≤ k * (2 * B) + B):Blkd lt R (2 * B) n n d dk:=by
  refine ⟨h.perm,h.cut2,fun c hc => ?_⟩
  by_cases c1:c < k
  · exact h.ris2 c c1
  · by_cases c2:k < c
    · have:(k + 1) * (2 * B) ≤ c * (2 * B):=Nat.mul_le_mul_right _ (by omega)
      rw [Nat.succ_mul] at this
      omega
    · have e:c = k:=by omega
      subst e
      have e1:c * (2 * B) = (2 * c) * B:=by rw [Nat.mul_comm c,Nat.mul_assoc,Nat.mul_assoc,Nat.mul_comm B c]
      have q1:=h.ris1 (2 * c) (by omega) (by omega)
      rw [← e1] at q1
      exact q1.mono (Nat.le_refl _) (by omega)
theorem Half.done {lt:α → α → Bool} {R:α → α → Prop} {B k n:Nat} {d dk:Array α} (h:Half lt R B k n d dk) (h1:n ≤ k * (2 * B)):Blkd lt R (2 * B) n n d dk:=by
  refine ⟨h.perm,h.cut2,fun c hc => h.ris2 c ?_⟩
  by_cases c2:c < k
  · exact c2
  · have:k * (2 * B) ≤ c * (2 * B):=Nat.mul_le_mul_right _ (by omega)
    omega
theorem Blkd.wide {lt:α → α → Bool} {R:α → α → Prop} {B hi n:Nat} {d dk:Array α} (h:Blkd lt R B hi n d dk) (hh:n ≤ hi):Blkd lt R B n n d dk:=⟨h.perm,h.cut,fun k hk => h.ris k (by omega)⟩
theorem Blkd.whole {lt:α → α → Bool} {R:α → α → Prop} {B n:Nat} {d dk:Array α} (h:Blkd lt R B n n d dk) (hB:n ≤ B):Merged R 0 n d dk:=by
  refine ⟨h.perm,?_⟩
  by_cases hn:n = 0
  · intro i j _ _ hj;omega
  · have:=h.ris 0 (by omega)
    rw [Nat.zero_mul,Nat.zero_add,show min B n = n by omega] at this
    exact this
set_option maxHeartbeats 8000000 in
set_option maxRecDepth 1000000 in
theorem stable_any (enc:α → Value) (cf:α → α → Int) (Rr:α → α → Prop) (K:Keep (ltOf cf) Rr) (g:Nat) (cb:Array Value) (eg:∀ args w,(callFunc g args).run Tryz.prog w = .ok (.enter g args) w) (blk off n cap:Nat) (d:Array α) (w0 w:World) (hcmp:CmpLays1 Tryz.prog g cb enc cf blk off d.size w0) (R:Row1 enc w0 blk off d) (hn:d.size = n) (S:SW enc w0 blk off d w) (hsz:n < 1000000000) (hS:Stood (ltOf cf) Rr 0 n d) :
    Calls Tryz.prog 93 #[.slice (some ⟨blk,off,none⟩) n cap,.int .i64 n,.func (.func g) #[] cb] w fun e w' => e = .returned (.tuple #[]) ∧ ∃ d',Merged Rr 0 n d d' ∧ SW enc w0 blk off d' w':=by
  have CI:Aside (∀ (a b:Nat) (dk:Array α) (w:World),dk.size = n → SW enc w0 blk off dk w → a ≤ b → b ≤ n → Stood (ltOf cf) Rr a b dk → Calls Tryz.prog 110 #[.slice (some ⟨blk,off,none⟩) n cap,.int .i64 a,.int .i64 b,.func (.func g) #[] cb] w fun e w' => e = .returned (.tuple #[]) ∧ ∃ d',Merged Rr a b dk d' ∧ SW enc w0 blk off d' w'):=fun a b dk w h1 h2 h3 h4 h5 => insertion_any enc cf Rr K g cb eg blk off n cap a b d dk w0 w hcmp R (by omega) h1 h2 h3 (by omega) (by omega) h5
  have CM:Aside (∀ (a m b:Nat) (dk:Array α) (w:World),dk.size = n → SW enc w0 blk off dk w → a < m → m < b → b ≤ n → (Ris Rr a m dk ∧ Ris Rr m b dk ∧ Ahead (ltOf cf) Rr a m b dk) → Calls Tryz.prog 111 #[.slice (some ⟨blk,off,none⟩) n cap,.int .i64 a,.int .i64 m,.int .i64 b,.func (.func g) #[] cb] w fun e w' => e = .returned (.tuple #[]) ∧ ∃ d',Merged Rr a b dk d' ∧ SW enc w0 blk off d' w'):=fun a m b dk w h1 h2 h3 h4 h5 h6 => symMerge_any enc cf Rr K g cb eg blk off n cap d w0 hcmp R hn hsz (b - a + 1) a m b dk w (by omega) (by omega) h2 h3 h4 (by omega) h6.1 h6.2.1 h6.2.2
  have HST:Hid (Stood (ltOf cf) Rr 0 n d):=hS
  have S0:Aside (SW enc w0 blk off d w):=S
  have n1:n ≤ d.size:=Nat.le_of_eq hn.symm
  have n2:d.size ≤ n:=Nat.le_of_eq hn
  clear S hcmp R K hS hn
  go_enter Tryz.func93,Tryz.ntmps93
  go_wp2
  go_loopg [7,8] n (fun kx s7 s8 wr => ∃ (aN bN:Nat) (dk:Array α),s7 = .int .i64 aN ∧ s8 = .int .i64 bN ∧ bN ≤ aN + 20 ∧ aN + 20 ≤ bN ∧ aN ≤ n ∧ n - aN ≤ kx ∧ Hid (dk.size = n) ∧ Aside (SW enc w0 blk off dk wr) ∧ Hid (∀ i,aN ≤ i → dk[i]! = d[i]!) ∧ Hid (∃ k,aN = k * 20 ∧ Blkd (ltOf cf) Rr 20 (k * 20) n d dk))
  case atStart => exact ⟨0,20,d,rfl,rfl,by omega,by omega,by omega,by omega,(show d.size = n by omega),S0,fun _ _ => rfl,⟨0,rfl,Blkd.first HST.out⟩⟩
  case round =>
    clear S0
    obtain ⟨aN,bN,dk,rfl,rfl,hb1,hb2,han,hkx,HZ,S1,HSA,HB⟩:=hrel
    by_cases hlt:bN ≤ n
    · have hltz:(bN:Int) ≤ (n:Int):=by omega
      have rb:IntKind.i64.wrap ((bN:Int) + 20) = (bN:Int) + 20:=by rw [IntKind.wrap_i64];omega
      have HSS:Hid (Stood (ltOf cf) Rr aN bN dk):=fun i j hi hij hj hl => by
        rw [HSA.out i hi,HSA.out j (by omega)] at hl ⊢
        exact HST.out i j (Nat.zero_le _) hij (by omega) hl
      go_wp2_with (go_at_call 110;refine (CI.out aN bN dk _ HZ.out S1.out (by omega) (by omega) HSS.out).mono ?_;rintro e w2 ⟨rfl,d2,hmg,hS2⟩)
      go_roundg (n - bN)
      case measure => omega
      case rel =>
        refine ⟨bN,bN + 20,d2,rfl,by go_num,by omega,by omega,by omega,Nat.le_refl _,(show d2.size = n by rw [hmg.1.1];exact HZ.out),hS2,fun i hi => ?_,?_⟩
        · rw [hmg.1.2.1 i (by omega)]
          exact HSA.out i (by omega)
        · obtain ⟨k,hk,hB⟩:=HB.out
          have e:bN = (k + 1) * 20:=by omega
          refine ⟨k + 1,e,?_⟩
          rw [hk] at hmg
          have:=hB.next (e:=bN) (by omega) (by omega) n1 hmg
          rw [Nat.succ_mul]
          exact this
    · have hltz:¬ (bN:Int) ≤ (n:Int):=by omega
      have HSS:Hid (Stood (ltOf cf) Rr aN n dk):=fun i j hi hij hj hl => by
        rw [HSA.out i hi,HSA.out j (by omega)] at hl ⊢
        exact HST.out i j (Nat.zero_le _) hij (by omega) hl
      go_wp2_with (go_at_call 110;refine (CI.out aN n dk _ HZ.out S1.out han (Nat.le_refl _) HSS.out).mono ?_;rintro e w2 ⟨rfl,d2,hmg,hS2⟩)
      have HB2:Hid (Blkd (ltOf cf) Rr 20 n n d d2):=by
        obtain ⟨k,hk,hB⟩:=HB.out
        rw [hk] at hmg
        exact (hB.next (e:=n) (by omega) (by omega) n1 hmg).wide (by omega)
      have HZ2:Hid (d2.size = n):=(show d2.size = n by rw [hmg.1.1];exact HZ.out)
      have S2:Aside (SW enc w0 blk off d2 w2):=hS2
      clear CI HST HSA HB HSS hmg hS2 S1 HZ
      go_loopg [6] n (fun kx s6 wr => ∃ (B:Nat) (dk:Array α),s6 = .int .i64 B ∧ 0 < B ∧ B ≤ 2 * n + 20 ∧ n - B ≤ kx ∧ Hid (dk.size = n) ∧ Aside (SW enc w0 blk off dk wr) ∧ Hid (Blkd (ltOf cf) Rr B n n d dk))
      case atStart => exact ⟨20,d2,rfl,by omega,by omega,by omega,HZ2,S2,HB2⟩
      case round =>
        clear S2 HB2 HZ2
        obtain ⟨B,dk,rfl,hB0,hB1,hkx2,HZ,S1,HB⟩:=hrel
        by_cases hBn:B < n
        · have hBz:(B:Int) < (n:Int):=by omega
          have r2:IntKind.i64.wrap (2 * (B:Int)) = 2 * (B:Int):=by rw [IntKind.wrap_i64];omega
          go_wp2
          go_loopg [7,8] n (fun kx s7 s8 wr => ∃ (aN bN:Nat) (dj:Array α),s7 = .int .i64 aN ∧ s8 = .int .i64 bN ∧ bN ≤ aN + 2 * B ∧ aN + 2 * B ≤ bN ∧ aN ≤ n ∧ n - aN ≤ kx ∧ Hid (dj.size = n) ∧ Aside (SW enc w0 blk off dj wr) ∧ Hid (∃ k,aN = k * (2 * B) ∧ Half (ltOf cf) Rr B k n d dj))
          case atStart => exact ⟨0,2 * B,dk,rfl,by first | rfl | go_num,by omega,by omega,by omega,by omega,HZ,S1,⟨0,by omega,HB.out.half⟩⟩
          case round =>
            clear S1 HZ HB
            obtain ⟨aN,bN,dj,rfl,rfl,hb3,hb4,han2,hkx3,HZ,S1,HH⟩:=hrel
            by_cases hlt2:bN ≤ n
            · have hltz2:(bN:Int) ≤ (n:Int):=by omega
              have ra:IntKind.i64.wrap ((aN:Int) + (B:Int)) = ((aN + B:Nat):Int):=by rw [IntKind.wrap_i64];omega
              have rb:IntKind.i64.wrap ((bN:Int) + 2 * (B:Int)) = (bN:Int) + 2 * (B:Int):=by rw [IntKind.wrap_i64];omega
              have HA:Hid (Ris Rr aN (aN + B) dj ∧ Ris Rr (aN + B) bN dj ∧ Ahead (ltOf cf) Rr aN (aN + B) bN dj):=by
                obtain ⟨k,hk,hH⟩:=HH.out
                have:=hH.asks (e:=bN) (by omega) hB0 (by omega)
                rw [← hk] at this
                exact this
              go_wp2_with (go_at_call 111;refine (CM.out aN (aN + B) bN dj _ HZ.out S1.out (by omega) (by omega) hlt2 HA.out).mono ?_;rintro e w3 ⟨rfl,d3,hmg,hS3⟩)
              go_roundg (n - bN)
              case measure => omega
              case rel =>
                refine ⟨bN,bN + 2 * B,d3,rfl,by go_num,by omega,by omega,by omega,Nat.le_refl _,(show d3.size = n by rw [hmg.1.1];exact HZ.out),hS3,?_⟩
                obtain ⟨k,hk,hH⟩:=HH.out
                have e:bN = (k + 1) * (2 * B):=by rw [Nat.succ_mul];omega
                refine ⟨k + 1,e,?_⟩
                rw [hk] at hmg
                exact hH.next (e:=bN) (by omega) n1 hmg
            · have hltz2:¬ (bN:Int) ≤ (n:Int):=by omega
              obtain ⟨mN,hmN⟩:∃ x,x = aN + B:=⟨_,rfl⟩
              have ra:IntKind.i64.wrap ((aN:Int) + (B:Int)) = (mN:Int):=by rw [IntKind.wrap_i64];omega
              have m1:mN ≤ aN + B:=Nat.le_of_eq hmN
              have m2:aN + B ≤ mN:=Nat.le_of_eq hmN.symm
              have HMN:Hid (mN = aN + B):=hmN
              clear hmN
              have rB:IntKind.i64.wrap ((B:Int) * 2) = (B:Int) * 2:=by rw [IntKind.wrap_i64];omega
              by_cases hmn:mN < n
              · have hmz:(mN:Int) < (n:Int):=by omega
                have HA:Hid (Ris Rr aN mN dj ∧ Ris Rr mN n dj ∧ Ahead (ltOf cf) Rr aN mN n dj):=by
                  obtain ⟨k,hk,hH⟩:=HH.out
                  have:=hH.asks (e:=n) (by omega) hB0 (by omega)
                  rw [← hk,← HMN.out] at this
                  exact this
                go_wp2_with (go_at_call 111;refine (CM.out aN mN n dj _ HZ.out S1.out (by omega) hmn (Nat.le_refl _) HA.out).mono ?_;rintro e w3 ⟨rfl,d3,hmg,hS3⟩)
                go_roundg (n - 2 * B)
                case measure => omega
                case rel =>
                  refine ⟨2 * B,d3,by first | rfl | go_num | (congr 1;omega),by omega,by omega,Nat.le_refl _,(show d3.size = n by rw [hmg.1.1];exact HZ.out),hS3,?_⟩
                  obtain ⟨k,hk,hH⟩:=HH.out
                  rw [hk] at hmg
                  exact (hH.next (e:=n) (by omega) n1 hmg).done (by rw [Nat.succ_mul];omega)
              · have hmz:¬ (mN:Int) < (n:Int):=by omega
                go_wp2_with fail
                go_roundg (n - 2 * B)
                case measure => omega
                case rel =>
                  refine ⟨2 * B,dj,by first | rfl | go_num | (congr 1;omega),by omega,by omega,Nat.le_refl _,HZ,S1,?_⟩
                  obtain ⟨k,hk,hH⟩:=HH.out
                  exact hH.last hB0 (by omega)
        · have hBz:¬ (B:Int) < (n:Int):=by omega
          go_wp2
          go_end0
          exact ⟨rfl,dk,HB.out.whole (by omega),S1.out⟩
end Go.Proofs.YtphmmnffgknkcaaGreatDoor
namespace Go.Proofs.YtphmmnffgknkcaaGreatDoor
open Go.Shelf Go.RowKit Go.Lib Go.Sort
set_option maxRecDepth 100000
theorem heap_mapBlock (w:World) (blk j:Nat) (f:Array Value → Array Value) (h:j ≠ blk):(mapBlock w blk f).heap[j]? = w.heap[j]?:=by
  unfold mapBlock
  simp [Array.getElem?_modify,Ne.symm h]
section
variable {α:Type} [Inhabited α] {enc:α → Value} {w0 W:World} {blk off:Nat} {dk:Array α}
theorem heap_sortWorld (n j:Nat) (os:Array Obj) (h:j ≠ blk) (hj:j < w0.heap.size):(sortWorld enc w0 blk off n dk os).heap[j]? = w0.heap[j]?:=by
  unfold sortWorld
  show ((putRow enc (Sort.ahead w0 n) blk off dk).heap ++ os)[j]? = _
  rw [Array.getElem?_append_left (by rw [Go.Sort.size_putRow];exact hj)]
  exact heap_mapBlock _ _ _ _ h
theorem sw_heap (h:SW enc w0 blk off dk W) (j:Nat) (hj:j ≠ blk) (hl:j < w0.heap.size):W.heap[j]? = w0.heap[j]?:=by
  obtain ⟨n,os,rfl⟩:=h
  exact heap_sortWorld n j os hj hl
theorem sw_bel {w:World} {B:Nat} (h:SW enc w0 blk off dk W) (hb:Below B w w0) (hB:B ≤ blk) (hs:B ≤ w0.heap.size):Below B w W:=by
  have hh:=sw_heap h
  have hle:=h.le
  obtain ⟨n,os,rfl⟩:=h
  refine ⟨hb.os,hb.tape,hb.output,Nat.le_trans hb.size hle,fun k hk => ?_⟩
  rw [hh k (by omega) (by omega)]
  exact hb.block k hk
theorem sw_set (h:SW enc w0 blk off dk W) (hblk:blk < w0.heap.size) (i:Nat) (x:α) (hi:i < dk.size):SW enc w0 blk off (dk.setIfInBounds i x) (W.setCell ⟨blk,off + i,none⟩ (enc x)):=by
  obtain ⟨n,os,rfl⟩:=h
  refine ⟨n,os,?_⟩
  unfold sortWorld
  rw [← putRow_grow enc (Sort.ahead w0 n) os blk off dk hblk,putRow_set enc _ blk off dk i x hi,putRow_grow enc (Sort.ahead w0 n) os blk off _ hblk]
end
theorem blk_heap {W W':World} {g:Nat} {cs:List Value} {t:TypeId} (h:Blk W g cs t) (e:W'.heap[g]? = W.heap[g]?):Blk W' g cs t:=by
  unfold Blk at *
  rw [e];exact h
theorem TreeC.heap {W W':World} {g c:Nat} {rt ix vl:List (BitVec 8)} {p q:Value} (h:TreeC W g c rt ix vl p q) (e:W'.heap[g]? = W.heap[g]?):TreeC W' g c rt ix vl p q:=⟨blk_heap h.blk e,h.l1,h.l2,h.l3⟩
abbrev cmpB (x y:List (BitVec 8)):Int:=Lib.compareBytes (x.map UInt8.ofBitVec) (y.map UInt8.ofBitVec)
theorem loadB (z:List (BitVec 8)) (b o:Nat) (w:World) (hz:z.length = 32) (hb:w.rangeAt b o (cb z)):(Extern.Bytes.loadBytes ⟨b,o,none⟩ 32 .empty).run Tryz.prog w = .ok ⟨(z.map UInt8.ofBitVec).toArray⟩ w:=by
  have hl:=Lib.run_loadBytesX (P:=Tryz.prog) w (z.map fun b => (b.toNat:Int)) ⟨b,o,none⟩ .empty (fun j v hj => by
    have hjl:j < z.length:=by have:=(List.getElem?_eq_some_iff.1 hj).1;simpa using this
    rw [Addr.add_mid,hb j _ (cb_get z j hjl)]
    rw [List.getElem?_map,List.getElem?_eq_getElem hjl] at hj
    simp only [Option.map_some,Option.some.injEq] at hj
    rw [← hj,List.getD_eq_getElem?_getD,List.getElem?_eq_getElem hjl,Option.getD_some])
  rw [List.length_map,hz,bytes_cb] at hl
  simpa using hl
theorem run_compareR (x y:List (BitVec 8)) (hx:x.length = 32) (hy:y.length = 32) (g h o p:Nat) {w:World} (h1:w.rangeAt g o (cb x)) (h2:w.rangeAt h p (cb y)) :
    (Extern.BytealgCompare.compare #[.slice (some ⟨g,o,none⟩) 32 32,.slice (some ⟨h,p,none⟩) 32 32]).run Tryz.prog w = .ok (.int .i64 (cmpB x y)) w:=by
  change Sem.run Tryz.prog (do pure (goInt (Extern.BytealgCompare.cmp (← Extern.Bytes.bytesOf (.slice (some ⟨g,o,none⟩) 32 32)) (← Extern.Bytes.bytesOf (.slice (some ⟨h,p,none⟩) 32 32))))) w = _
  simp only [Extern.Bytes.bytesOf,Sem.run_bind,Sem.run_pure,loadB x g o w hx h1,loadB y h p w hy h2,Result.andThen]
  rw [Lib.cmp_eq]
  rfl
theorem slice_dig33 (g:Nat) (w:World):(Instr.sliceAt 39 (.pointer (some ⟨g,33,none⟩)) none none none).run Tryz.prog w = .ok (.slice (some ⟨g,33,none⟩) 32 32) w:=by kernel_rfl
set_option maxRecDepth 100000 in
theorem bCompareR_any (x y:List (BitVec 8)) (hx:x.length = 32) (hy:y.length = 32) (g h o p:Nat) (w:World) (h1:w.rangeAt g o (cb x)) (h2:w.rangeAt h p (cb y)) :
    Calls Tryz.prog 34 #[.slice (some ⟨g,o,none⟩) 32 32,.slice (some ⟨h,p,none⟩) 32 32] w fun e w' => e = .returned (.int .i64 (cmpB x y)) ∧ w' = w:=by
  have hr:=run_compareR x y hx hy g h o p h1 h2
  obtain ⟨c,HC⟩:∃ c,Hid (c = cmpB x y):=⟨_,rfl⟩
  rw [← HC.out] at hr ⊢
  clear h1 h2
  go_enter Tryz.func34,Tryz.ntmps34
  go_wp2
  rw [run_callFunc_extern Tryz.func53 (by kernel_rfl) (by kernel_rfl) (by kernel_rfl) (e:=Extern.BytealgCompare.compare) (by kernel_rfl),hr]
  simp only [Result.andThen]
  rw [Oper.upon_value]
  go_wp2
  go_ret
  exact ⟨rfl,rfl⟩
set_option maxRecDepth 100000 in
set_option maxHeartbeats 1000000 in
theorem trRising1_any (gx gy:Nat) (x y:List (BitVec 8)) (w:World) (hx:w.rangeAt gx 33 (cb x)) (hy:w.rangeAt gy 33 (cb y)) (h1:x.length = 32) (h2:y.length = 32):Calls Tryz.prog 67 #[.pointer (some ⟨gx,0,none⟩),.pointer (some ⟨gy,0,none⟩)] w fun e w' => e = .returned (.int .i64 (cmpB x y)) ∧ w' = w.drew:=by
  have HX:Hid (w.drew.rangeAt gx 33 (cb x)):=hx
  have HY:Hid (w.drew.rangeAt gy 33 (cb y)):=hy
  have H1:Hid (x.length = 32):=h1
  have H2:Hid (y.length = 32):=h2
  obtain ⟨c,HC⟩:∃ c,Hid (c = cmpB x y):=⟨_,rfl⟩
  rw [← HC.out]
  clear hx hy h1 h2
  go_enter Tryz.func67,Tryz.ntmps67
  go_wp2_with fail
  refine wp_region_any (by kernel_rfl) ?_
  change wpAny _ _ _ _ _ _ _ (World.drew w)
  refine wpAny_take (i:=0) (v:=.pointer (some ⟨gx,0,none⟩)) rfl (by kernel_rfl) (by kernel_rfl) (by kernel_rfl) (fun _ _ _ h => h) (Or.inl ⟨by rfl,fun wx => by simp [go_sem]⟩) ?_
  simp only [Act.put,List.getElem_toArray,List.getElem_cons_zero,List.setIfInBounds_toArray,List.set_cons_zero,List.set_cons_succ]
  refine wpAny_take (i:=1) (v:=.pointer (some ⟨gx,0,none⟩)) rfl (by kernel_rfl) (by kernel_rfl) (by kernel_rfl) (fun _ _ _ h => h) (Or.inl ⟨by rfl,fun wx => by simp [go_sem]⟩) ?_
  simp only [Act.put,List.getElem_toArray,List.getElem_cons_succ,List.getElem_cons_zero,List.setIfInBounds_toArray,List.set_cons_zero,List.set_cons_succ]
  refine wpAny_take (i:=2) (v:=.pointer (some ⟨gx,33,none⟩)) rfl (by kernel_rfl) (by kernel_rfl) (by kernel_rfl) (fun _ _ _ h => h) (Or.inl ⟨by rfl,fun wx => by simp [go_sem]⟩) ?_
  simp only [Act.put,List.getElem_toArray,List.getElem_cons_succ,List.getElem_cons_zero,List.setIfInBounds_toArray,List.set_cons_zero,List.set_cons_succ]
  refine wpAny_take (i:=3) (v:=.slice (some ⟨gx,33,none⟩) 32 32) rfl (by kernel_rfl) (by kernel_rfl) (by kernel_rfl) (fun _ _ _ h => h) (Or.inl ⟨by rfl,fun wx => by simp [execOp,Act.eval,slice_dig33]⟩) ?_
  simp only [Act.put,List.getElem_toArray,List.getElem_cons_succ,List.getElem_cons_zero,List.setIfInBounds_toArray,List.set_cons_zero,List.set_cons_succ]
  refine wpAny_take (i:=4) (v:=.pointer (some ⟨gy,0,none⟩)) rfl (by kernel_rfl) (by kernel_rfl) (by kernel_rfl) (fun _ _ _ h => h) (Or.inl ⟨by rfl,fun wx => by simp [go_sem]⟩) ?_
  simp only [Act.put,List.getElem_toArray,List.getElem_cons_succ,List.getElem_cons_zero,List.setIfInBounds_toArray,List.set_cons_zero,List.set_cons_succ]
  refine wpAny_take (i:=5) (v:=.pointer (some ⟨gy,0,none⟩)) rfl (by kernel_rfl) (by kernel_rfl) (by kernel_rfl) (fun _ _ _ h => h) (Or.inl ⟨by rfl,fun wx => by simp [go_sem]⟩) ?_
  simp only [Act.put,List.getElem_toArray,List.getElem_cons_succ,List.getElem_cons_zero,List.setIfInBounds_toArray,List.set_cons_zero,List.set_cons_succ]
  refine wpAny_take (i:=6) (v:=.pointer (some ⟨gy,33,none⟩)) rfl (by kernel_rfl) (by kernel_rfl) (by kernel_rfl) (fun _ _ _ h => h) (Or.inl ⟨by rfl,fun wx => by simp [go_sem]⟩) ?_
  simp only [Act.put,List.getElem_toArray,List.getElem_cons_succ,List.getElem_cons_zero,List.setIfInBounds_toArray,List.set_cons_zero,List.set_cons_succ]
  refine wpAny_take (i:=7) (v:=.slice (some ⟨gy,33,none⟩) 32 32) rfl (by kernel_rfl) (by kernel_rfl) (by kernel_rfl) (fun _ _ _ h => h) (Or.inl ⟨by rfl,fun wx => by simp [execOp,Act.eval,slice_dig33]⟩) ?_
  simp only [Act.put,List.getElem_toArray,List.getElem_cons_succ,List.getElem_cons_zero,List.setIfInBounds_toArray,List.set_cons_zero,List.set_cons_succ]
  refine wpAny_enter 8 (by kernel_rfl) rfl (by rfl) (f:=34) (args:=#[.slice (some ⟨gx,33,none⟩) 32 32,.slice (some ⟨gy,33,none⟩) 32 32]) (by simp [go_sem]) (bCompareR_any x y H1.out H2.out gx gy 33 33 _ HX.out HY.out) ?_
  rintro e wz ⟨rfl,hz⟩
  rw [hz,← HC.out];clear hz wz
  refine ⟨_,rfl,?_⟩
  simp only [Act.put,List.getElem_toArray,List.getElem_cons_succ,List.getElem_cons_zero,List.setIfInBounds_toArray,List.set_cons_zero,List.set_cons_succ]
  refine wpAny_take (i:=9) (v:=.int .i64 c) rfl (by kernel_rfl) (by kernel_rfl) (by kernel_rfl) (fun _ _ _ h => h) (Or.inl ⟨by rfl,fun wx => by simp [go_sem]⟩) ?_
  simp only [Act.put,List.getElem_toArray,List.getElem_cons_succ,List.getElem_cons_zero,List.setIfInBounds_toArray,List.set_cons_zero,List.set_cons_succ]
  refine wpAny_done (by kernel_rfl) ?_ _
  go_wp2_with fail
  go_ret
  exact ⟨rfl,rfl⟩
set_option maxRecDepth 100000 in
set_option maxHeartbeats 1000000 in
theorem trRising2_any (gx gy:Nat) (x y:List (BitVec 8)) (w:World) (hx:w.rangeAt gx 33 (cb x)) (hy:w.rangeAt gy 33 (cb y)) (h1:x.length = 32) (h2:y.length = 32):Calls Tryz.prog 69 #[.pointer (some ⟨gx,0,none⟩),.pointer (some ⟨gy,0,none⟩)] w fun e w' => e = .returned (.bool (decide (x = y))) ∧ w' = w.drew:=by
  have HX:Hid (∀ wx,Over w.drew wx → wx.rangeAt gx 33 (cb x)):=fun wx hw => rangeAt_below (w:=w.drew) hx hw.out (rangeAt_lt hx h1)
  have HY:Hid (∀ wx,Over w.drew wx → wx.rangeAt gy 33 (cb y)):=fun wx hw => rangeAt_below (w:=w.drew) hy hw.out (rangeAt_lt hy h2)
  have H1:Hid (x.length = 32):=h1
  have H2:Hid (y.length = 32):=h2
  have heq:∀ wx:World,(Op.equalIn 10000 39 (.agg (cb x).toArray) (.agg (cb y).toArray)).run Tryz.prog wx = .ok (decide (x = y)) wx:=fun wx => eq_dig x y h1 h2 wx
  clear hx hy h1 h2
  go_enter Tryz.func69,Tryz.ntmps69
  go_wp2_with fail
  refine wp_region_held_drew (S:=Over w.drew) (by kernel_rfl) (Over.refl _) ?_
  intro hS
  refine wpAnyH_take (i:=0) (v:=.pointer (some ⟨gx,0,none⟩)) rfl (by kernel_rfl) (by kernel_rfl) (by kernel_rfl) (fun _ _ _ h => h) (Or.inl ⟨by rfl,fun wx hx => by simp [go_sem]⟩) hS ?_
  simp only [Act.put,List.getElem_toArray,List.getElem_cons_zero,List.setIfInBounds_toArray,List.set_cons_zero,List.set_cons_succ]
  refine wpAnyH_take (i:=1) (v:=.pointer (some ⟨gx,0,none⟩)) rfl (by kernel_rfl) (by kernel_rfl) (by kernel_rfl) (fun _ _ _ h => h) (Or.inl ⟨by rfl,fun wx hx => by simp [go_sem]⟩) hS ?_
  simp only [Act.put,List.getElem_toArray,List.getElem_cons_succ,List.getElem_cons_zero,List.setIfInBounds_toArray,List.set_cons_zero,List.set_cons_succ]
  refine wpAnyH_take (i:=2) (v:=.pointer (some ⟨gx,33,none⟩)) rfl (by kernel_rfl) (by kernel_rfl) (by kernel_rfl) (fun _ _ _ h => h) (Or.inl ⟨by rfl,fun wx hx => by simp [go_sem]⟩) hS ?_
  simp only [Act.put,List.getElem_toArray,List.getElem_cons_succ,List.getElem_cons_zero,List.setIfInBounds_toArray,List.set_cons_zero,List.set_cons_succ]
  refine wpAnyH_take (i:=3) (v:=.agg (cb x).toArray) rfl (by kernel_rfl) (by kernel_rfl) (by kernel_rfl) (fun _ _ _ h => h) (Or.inl ⟨by rfl,fun wx hx => by exact load_run 39 _ rfl _ _ rfl (cb x) _ (HX.out wx hx) Tryz.underlying39 rfl (by rw [cb_len,H1.out];exact info_digest)⟩) hS ?_
  simp only [Act.put,List.getElem_toArray,List.getElem_cons_succ,List.getElem_cons_zero,List.setIfInBounds_toArray,List.set_cons_zero,List.set_cons_succ]
  refine wpAnyH_take (i:=4) (v:=.pointer (some ⟨gy,0,none⟩)) rfl (by kernel_rfl) (by kernel_rfl) (by kernel_rfl) (fun _ _ _ h => h) (Or.inl ⟨by rfl,fun wx hx => by simp [go_sem]⟩) hS ?_
  simp only [Act.put,List.getElem_toArray,List.getElem_cons_succ,List.getElem_cons_zero,List.setIfInBounds_toArray,List.set_cons_zero,List.set_cons_succ]
  refine wpAnyH_take (i:=5) (v:=.pointer (some ⟨gy,0,none⟩)) rfl (by kernel_rfl) (by kernel_rfl) (by kernel_rfl) (fun _ _ _ h => h) (Or.inl ⟨by rfl,fun wx hx => by simp [go_sem]⟩) hS ?_
  simp only [Act.put,List.getElem_toArray,List.getElem_cons_succ,List.getElem_cons_zero,List.setIfInBounds_toArray,List.set_cons_zero,List.set_cons_succ]
  refine wpAnyH_take (i:=6) (v:=.pointer (some ⟨gy,33,none⟩)) rfl (by kernel_rfl) (by kernel_rfl) (by kernel_rfl) (fun _ _ _ h => h) (Or.inl ⟨by rfl,fun wx hx => by simp [go_sem]⟩) hS ?_
  simp only [Act.put,List.getElem_toArray,List.getElem_cons_succ,List.getElem_cons_zero,List.setIfInBounds_toArray,List.set_cons_zero,List.set_cons_succ]
  refine wpAnyH_take (i:=7) (v:=.agg (cb y).toArray) rfl (by kernel_rfl) (by kernel_rfl) (by kernel_rfl) (fun _ _ _ h => h) (Or.inl ⟨by rfl,fun wx hx => by exact load_run 39 _ rfl _ _ rfl (cb y) _ (HY.out wx hx) Tryz.underlying39 rfl (by rw [cb_len,H2.out];exact info_digest)⟩) hS ?_
  simp only [Act.put,List.getElem_toArray,List.getElem_cons_succ,List.getElem_cons_zero,List.setIfInBounds_toArray,List.set_cons_zero,List.set_cons_succ]
  refine wpAnyH_take (i:=8) (v:=.bool (decide (x = y))) rfl (by kernel_rfl) (by kernel_rfl) (by kernel_rfl) (fun _ _ _ h => h) (Or.inl ⟨by rfl,fun wx hx => by simp [go_sem,heq]⟩) hS ?_
  simp only [Act.put,List.getElem_toArray,List.getElem_cons_succ,List.getElem_cons_zero,List.setIfInBounds_toArray,List.set_cons_zero,List.set_cons_succ]
  refine wpAnyH_take (i:=9) (v:=.bool (decide (x = y))) rfl (by kernel_rfl) (by kernel_rfl) (by kernel_rfl) (fun _ _ _ h => h) (Or.inl ⟨by rfl,fun wx hx => by simp [go_sem]⟩) hS ?_
  simp only [Act.put,List.getElem_toArray,List.getElem_cons_succ,List.getElem_cons_zero,List.setIfInBounds_toArray,List.set_cons_zero,List.set_cons_succ]
  refine wpAnyH_done (by kernel_rfl) ?_ _
  go_wp2_with fail
  go_ret
  exact ⟨rfl,rfl⟩
end Go.Proofs.YtphmmnffgknkcaaGreatDoor
namespace Go.Proofs.YtphmmnffgknkcaaGreatDoor
open Go.Shelf Go.RowKit Go.Lib Go.Sort
set_option maxRecDepth 100000
variable {α:Type} [Inhabited α]
def EqLays (g:Nat) (cb:Array Value) (enc:α → Value) (eqf:α → α → Bool) (blk off size:Nat) (w:World):Prop:=
  ∀ (m:Nat) (os:Array Obj) (dk:Array α),dk.size = size → ∀ x y:α,
    Calls Tryz.prog g (#[enc x,enc y] ++ cb) (sortWorld enc w blk off m dk os) fun e w' => e = .returned (.bool (eqf x y)) ∧ ∃ q os',w' = grow ((sortWorld enc w blk off m dk os).drewN q) os'
theorem swEq {enc:α → Value} {w0 W:World} {blk off:Nat} {dk:Array α} {g:Nat} {cb:Array Value} {eqf:α → α → Bool} {size:Nat} (h:SW enc w0 blk off dk W) (hC:EqLays g cb enc eqf blk off size w0) (hs:dk.size = size) (x y:α) (n:Nat) (os:Array Obj) :
    Calls Tryz.prog g (#[enc x,enc y] ++ cb) (grow (W.drewN n) os) fun e w' => e = .returned (.bool (eqf x y)) ∧ ∃ q os',w' = grow ((grow (W.drewN n) os).drewN q) os':=by
  obtain ⟨m,os0,hw⟩:=h.grown n os
  rw [hw]
  exact hC m os0 dk hs x y
def keptB (eqf:α → α → Bool) (d:Array α) (k:Nat):Bool:=k == 0 || !eqf d[k]! d[k - 1]!
def keptL (eqf:α → α → Bool) (d:Array α) (n:Nat):List α:=((List.range n).filter (keptB eqf d)).map fun k => d[k]!
theorem keptL_succ (eqf:α → α → Bool) (d:Array α) (n:Nat):keptL eqf d (n + 1) = keptL eqf d n ++ (if keptB eqf d n then [d[n]!] else []):=by
  unfold keptL
  rw [List.range_succ,List.filter_append,List.map_append]
  congr 1
  rw [List.filter_cons]
  split <;> simp
theorem keptL_le (eqf:α → α → Bool) (d:Array α) (n:Nat):(keptL eqf d n).length ≤ n:=by
  unfold keptL
  rw [List.length_map]
  exact Nat.le_trans (List.length_filter_le _ _) (by simp)
theorem keptL_all (eqf:α → α → Bool) (d:Array α) (n:Nat) (hn:n ≤ d.size) (h:∀ k,1 ≤ k → k < n → eqf d[k]! d[k - 1]! = false):keptL eqf d n = d.toList.take n:=by
  induction n with
  | zero => simp [keptL]
  | succ n ih =>
    rw [keptL_succ,ih (by omega) (fun k h1 h2 => h k h1 (by omega)),List.take_add_one]
    congr 1
    have hk:keptB eqf d n = true:=by
      unfold keptB
      by_cases e:n = 0
      · simp [e]
      · rw [h n (by omega) (by omega)];simp
    rw [if_pos hk,Array.getElem?_toList,Array.getElem?_eq_getElem (by omega),getElem!_pos d n (by omega)]
    rfl
structure Cpt (eqf:α → α → Bool) (d:Array α) (i kk:Nat) (dk:Array α):Prop where
  size:dk.size = d.size
  take:dk.toList.take kk = keptL eqf d i
  len:kk = (keptL eqf d i).length
  lt:kk < i
  same:∀ k,i ≤ k + 1 → dk[k]! = d[k]!
theorem Cpt.skip {eqf:α → α → Bool} {d dk:Array α} {i kk:Nat} (h:Cpt eqf d i kk dk) (h0:0 < i) (he:eqf d[i]! d[i - 1]! = true):Cpt eqf d (i + 1) kk dk:=by
  have hk:keptB eqf d i = false:=by unfold keptB;rw [he];simp;omega
  have e:keptL eqf d (i + 1) = keptL eqf d i:=by rw [keptL_succ,hk];simp
  exact ⟨h.size,by rw [e];exact h.take,by rw [e];exact h.len,by have:=h.lt;omega,fun k hk => h.same k (by omega)⟩
theorem Cpt.keep {eqf:α → α → Bool} {d dk:Array α} {i kk:Nat} (h:Cpt eqf d i kk dk) (hi:i < d.size) (he:eqf d[i]! d[i - 1]! = false):Cpt eqf d (i + 1) (kk + 1) (dk.setIfInBounds kk d[i]!):=by
  have hz:=h.size
  have hl:=h.lt
  have hk:keptB eqf d i = true:=by unfold keptB;rw [he];simp
  have e:keptL eqf d (i + 1) = keptL eqf d i ++ [d[i]!]:=by rw [keptL_succ,hk];simp
  refine ⟨by simpa using hz,?_,by rw [e,List.length_append,← h.len];rfl,by omega,fun k hk => ?_⟩
  · rw [e,← h.take,Array.toList_setIfInBounds,List.take_add_one,List.getElem?_set_self (by rw [Array.length_toList];omega),List.take_set_of_le (Nat.le_refl _)]
    rfl
  · rw [getElem!_set_other _ _ _ _ (by omega),h.same k (by omega)]
structure Cmpd (enc:α → Value) (eqf:α → α → Bool) (d:Array α) (blk off kk:Nat) (w0 W:World):Prop where
  len:kk = (keptL eqf d d.size).length
  cell:∀ j,j < kk → W.cell? ⟨blk,off + j,none⟩ = some (enc (keptL eqf d d.size)[j]!)
  heap:∀ j,j ≠ blk → j < w0.heap.size → W.heap[j]? = w0.heap[j]?
  bel:∀ (B:Nat) (w:World),Below B w w0 → B ≤ blk → B ≤ w0.heap.size → Below B w W
theorem cell_setCells (g j:Nat):∀ (vs:List Value) (o:Nat) (w:World),j < o → (w.setCells g o vs).cell? ⟨g,j,none⟩ = w.cell? ⟨g,j,none⟩
  | [],_,_,_ => rfl
  | v :: r,o,w,h => by
    rw [World.setCells,cell_setCells g j r (o + 1) _ (by omega),World.cell?_setCell_other _ _ _ _ (by intro e;simp only [Addr.mk.injEq] at e;omega)]
theorem take_get {dk:Array α} {kk:Nat} {l:List α} (h:dk.toList.take kk = l) (hk:kk ≤ dk.size) (j:Nat) (hj:j < kk):dk[j]! = l[j]!:=by
  rw [← h,getElem!_pos dk j (by omega),getElem!_pos _ j (by rw [List.length_take,Array.length_toList];omega),List.getElem_take,Array.getElem_toList]
set_option maxHeartbeats 8000000 in
set_option maxRecDepth 1000000 in
theorem compact_any (enc:α → Value) (eqf:α → α → Bool) (g:Nat) (cb:Array Value) (eg:∀ args w,(callFunc g args).run Tryz.prog w = .ok (.enter g args) w) (blk off L cap:Nat) (d:Array α) (w0 w:World) (hE:EqLays g cb enc eqf blk off d.size w0) (R:Row1 enc w0 blk off d) (hL:d.size = L) (S:SW enc w0 blk off d w) (h1:1 ≤ L) (hcap:L ≤ cap) (hsz:L < 1000000000) :
    Calls Tryz.prog 68 #[.slice (some ⟨blk,off,none⟩) L cap,.func (.func g) #[] cb] w fun e w' => ∃ kk,e = .returned (.slice (some ⟨blk,off,none⟩) kk cap) ∧ Cmpd enc eqf d blk off kk w0 w':=by
  have mixed:Tryz.prog.follows .mixedOrders = true:=by kernel_rfl
  have hcl0:=R.hO.cells
  simp only [Value.cells] at hcl0
  have hst:=R.hO.store Tryz.prog
  have HE:Aside _:=hE
  have S0:Aside (SW enc w0 blk off d w):=S
  have l1:d.size ≤ L:=Nat.le_of_eq hL
  have l2:L ≤ d.size:=Nat.le_of_eq hL.symm
  have HL:Hid (d.size = L):=hL
  have HFULL:Hid (∀ W,SW enc w0 blk off d W → (∀ k,1 ≤ k → k < L → eqf d[k]! d[k - 1]! = false) → Cmpd enc eqf d blk off L w0 W):=fun W hS hk => by
    have e:keptL eqf d d.size = d.toList:=by rw [keptL_all eqf d d.size (Nat.le_refl _) (by rw [HL.out];exact hk),← Array.length_toList,List.take_length]
    refine ⟨by rw [e,Array.length_toList,HL.out],fun j hj => ?_,fun j h1 h2 => sw_heap hS j h1 h2,fun B w hb h1 h2 => sw_bel hS hb h1 h2⟩
    rw [hS.c1 R rfl j (by omega),e,getElem!_pos d j (by omega),getElem!_pos _ j (by rw [Array.length_toList];omega),Array.getElem_toList]
  clear S hL hE
  go_enter Tryz.func68,Tryz.ntmps68
  by_cases hL2:L < 2
  · have hz:(L:Int) < 2:=by omega
    have HF:Hid (Cmpd enc eqf d blk off L w0 w):=HFULL.out w S0.out (fun k a b => by omega)
    go_wp2
    go_ret
    exact ⟨L,rfl,HF.out⟩
  · have hz:¬ (L:Int) < 2:=by omega
    go_wp2
    go_loopg [5] L (fun kx s5 wr => ∃ (k:Nat),s5 = .int .i64 k ∧ 1 ≤ k ∧ k ≤ L ∧ L - k ≤ kx ∧ Aside (SW enc w0 blk off d wr) ∧ Hid (∀ j,1 ≤ j → j < k → eqf d[j]! d[j - 1]! = false))
    case atStart => exact ⟨1,rfl,by omega,by omega,by omega,S0,fun j h1 h2 => by omega⟩
    case round =>
      clear S0
      obtain ⟨k,rfl,hk1,hkL,hkx,S1,HA⟩:=hrel
      by_cases hlt:k < L
      · have hltz:(k:Int) < (L:Int):=by omega
        obtain ⟨kp,rfl⟩:∃ q,k = q + 1:=⟨k - 1,by omega⟩
        have rk:IntKind.i64.wrap ((kp:Int) + 1 - 1) = (kp:Int):=by rw [IntKind.wrap_i64];omega
        have hltz2:(kp:Int) + 1 < (L:Int):=by omega
        cases hlv:eqf d[kp + 1]! d[kp]! with
        | false =>
          go_wp2_with fail
          obtain ⟨iNp,hiNp⟩:∃ q,q = kp + 1:=⟨_,rfl⟩
          obtain ⟨jNp,hjNp⟩:∃ q,q = kp:=⟨_,rfl⟩
          have eap:((kp:Int) + 1).toNat = iNp:=by omega
          have pap:(0:Int) ≤ (kp:Int) + 1:=by omega
          have bap:(kp:Int) + 1 < (L:Int):=by omega
          have rap:IntKind.i64.wrap ((kp:Int) + 1) = (kp:Int) + 1:=by rw [IntKind.wrap_i64];omega
          have ecp:((kp:Int)).toNat = jNp:=by omega
          have pcp:(0:Int) ≤ (kp:Int):=by omega
          have bcp:(kp:Int) < (L:Int):=by omega
          have rcp:IntKind.i64.wrap ((kp:Int)) = (kp:Int):=by rw [IntKind.wrap_i64];omega
          obtain ⟨xp,hxp⟩:∃ x,x = d[kp + 1]!:=⟨_,rfl⟩
          obtain ⟨yp,hyp⟩:∃ x,x = d[kp]!:=⟨_,rfl⟩
          have lap:=S1.out.cl R (by omega) (kp + 1) (by omega)
          have lbp:=S1.out.cl R (by omega) (kp) (by omega)
          rw [← hxp,show off + (kp + 1) = off + iNp by omega] at lap
          rw [← hyp,show off + (kp) = off + jNp by omega] at lbp
          have hcp:=swEq S1.out HE.out (by omega) xp yp
          rw [show eqf xp yp = false by rw [hxp,hyp];exact hlv] at hcp
          clear hxp hyp hiNp hjNp
          go_quiet_grown (first | (go_at_fn g;refine Calls.grown_of (hcp _ _)))
          have S2:Aside (SW enc w0 blk off d (grow (wr.drewN nq) osq)):=S1.out.grown nq osq
          clear lap lbp hcp S1
          generalize grow (wr.drewN nq) osq = wp at S2 ⊢
          clear nq osq
          clear eap ecp
          have rk2:IntKind.i64.wrap ((kp:Int) + 1 + 1) = (kp:Int) + 1 + 1:=by rw [IntKind.wrap_i64];omega
          go_wp2
          go_roundg (L - (kp + 1 + 1))
          case measure => omega
          case rel =>
            refine ⟨kp + 1 + 1,by go_num,by omega,by omega,Nat.le_refl _,S2,fun j h1 h2 => ?_⟩
            by_cases e:j = kp + 1
            · rw [e];exact hlv
            · exact HA.out j h1 (by omega)
        | true =>
          go_wp2_with fail
          obtain ⟨iNp,hiNp⟩:∃ q,q = kp + 1:=⟨_,rfl⟩
          obtain ⟨jNp,hjNp⟩:∃ q,q = kp:=⟨_,rfl⟩
          have eap:((kp:Int) + 1).toNat = iNp:=by omega
          have pap:(0:Int) ≤ (kp:Int) + 1:=by omega
          have bap:(kp:Int) + 1 < (L:Int):=by omega
          have rap:IntKind.i64.wrap ((kp:Int) + 1) = (kp:Int) + 1:=by rw [IntKind.wrap_i64];omega
          have ecp:((kp:Int)).toNat = jNp:=by omega
          have pcp:(0:Int) ≤ (kp:Int):=by omega
          have bcp:(kp:Int) < (L:Int):=by omega
          have rcp:IntKind.i64.wrap ((kp:Int)) = (kp:Int):=by rw [IntKind.wrap_i64];omega
          obtain ⟨xp,hxp⟩:∃ x,x = d[kp + 1]!:=⟨_,rfl⟩
          obtain ⟨yp,hyp⟩:∃ x,x = d[kp]!:=⟨_,rfl⟩
          have lap:=S1.out.cl R (by omega) (kp + 1) (by omega)
          have lbp:=S1.out.cl R (by omega) (kp) (by omega)
          rw [← hxp,show off + (kp + 1) = off + iNp by omega] at lap
          rw [← hyp,show off + (kp) = off + jNp by omega] at lbp
          have hcp:=swEq S1.out HE.out (by omega) xp yp
          rw [show eqf xp yp = true by rw [hxp,hyp];exact hlv] at hcp
          clear hxp hyp hiNp hjNp
          go_quiet_grown (first | (go_at_fn g;refine Calls.grown_of (hcp _ _)))
          have S2:Aside (SW enc w0 blk off d (grow (wr.drewN nq) osq)):=S1.out.grown nq osq
          clear lap lbp hcp S1
          generalize grow (wr.drewN nq) osq = wp at S2 ⊢
          clear nq osq
          clear eap ecp
          obtain ⟨oK,hoK⟩:∃ q,q = off + (kp + 1):=⟨_,rfl⟩
          obtain ⟨nK,hnK⟩:∃ q,q = L - (kp + 1):=⟨_,rfl⟩
          obtain ⟨cK,hcK⟩:∃ q,q = cap - (kp + 1):=⟨_,rfl⟩
          have hsh:∀ w:World,(Instr.sliceAt 80 (.slice (some ⟨blk,off,none⟩) L cap) (some (.int .i64 ((kp:Int) + 1))) none none).run Tryz.prog w = .ok (.slice (some ⟨blk,oK,none⟩) nK cK) w:=fun w => by
            have:=slHi blk off L cap (kp + 1) (by omega) w
            rw [if_neg (by omega),← hoK,← hnK,← hcK] at this
            exact this
          have o1:oK ≤ off + (kp + 1):=Nat.le_of_eq hoK
          have o2:off + (kp + 1) ≤ oK:=Nat.le_of_eq hoK.symm
          have n1:nK ≤ L - (kp + 1):=Nat.le_of_eq hnK
          have n2:L - (kp + 1) ≤ nK:=Nat.le_of_eq hnK.symm
          clear hoK hnK hcK
          have HC0:Hid (Cpt eqf d (kp + 2) (kp + 1) d):=by
            have e1:keptL eqf d (kp + 1) = d.toList.take (kp + 1):=keptL_all eqf d (kp + 1) (by omega) (fun j h1 h2 => HA.out j h1 h2)
            have e2:keptL eqf d (kp + 2) = keptL eqf d (kp + 1):=by rw [keptL_succ];simp [keptB,hlv]
            exact ⟨rfl,by rw [e2,e1],by rw [e2,e1,List.length_take,Array.length_toList];omega,by omega,fun _ _ => rfl⟩
          clear hlv HA HFULL
          go_wp2_with fail
          go_loopg [5,7] L (fun kx s5 s7 wr => ∃ (kk k2:Nat) (dk:Array α),s5 = .int .i64 kk ∧ s7 = .int .i64 k2 ∧ 1 ≤ k2 ∧ k2 ≤ nK ∧ nK - k2 ≤ kx ∧ Aside (SW enc w0 blk off dk wr) ∧ Hid (Cpt eqf d (kp + 1 + k2) kk dk))
          case atStart => exact ⟨kp + 1,1,d,by first | rfl | go_num,rfl,by omega,by omega,by omega,S2,HC0⟩
          case round =>
            clear S2 HC0 hsh
            obtain ⟨kk,k2,dk,rfl,rfl,hk21,hk22,hkx2,S3,HP⟩:=hrel
            have hdz:dk.size = d.size:=HP.out.size
            have hkklt:kk < kp + 1 + k2:=HP.out.lt
            by_cases hlt2:k2 < nK
            · have hltz3:(k2:Int) < (nK:Int):=by omega
              obtain ⟨kq,rfl⟩:∃ q,k2 = q + 1:=⟨k2 - 1,by omega⟩
              have hltz4:(kq:Int) + 1 < (nK:Int):=by omega
              have rq:IntKind.i64.wrap ((kq:Int) + 1 - 1) = (kq:Int):=by rw [IntKind.wrap_i64];omega
              have rq2:IntKind.i64.wrap ((kq:Int) + 1 + 1) = (kq:Int) + 1 + 1:=by rw [IntKind.wrap_i64];omega
              have HS1:Hid (dk[kp + 1 + (kq + 1)]! = d[kp + 1 + (kq + 1)]!):=HP.out.same _ (by omega)
              have HS2:Hid (dk[kp + 1 + kq]! = d[kp + 1 + kq]!):=HP.out.same _ (by omega)
              cases hlw:eqf dk[kp + 1 + (kq + 1)]! dk[kp + 1 + kq]! with
              | true =>
                go_wp2_with fail
                obtain ⟨iNr,hiNr⟩:∃ q,q = kq + 1:=⟨_,rfl⟩
                obtain ⟨jNr,hjNr⟩:∃ q,q = kq:=⟨_,rfl⟩
                have ear:((kq:Int) + 1).toNat = iNr:=by omega
                have par:(0:Int) ≤ (kq:Int) + 1:=by omega
                have bar:(kq:Int) + 1 < (nK:Int):=by omega
                have rar:IntKind.i64.wrap ((kq:Int) + 1) = (kq:Int) + 1:=by rw [IntKind.wrap_i64];omega
                have ecr:((kq:Int)).toNat = jNr:=by omega
                have pcr:(0:Int) ≤ (kq:Int):=by omega
                have bcr:(kq:Int) < (nK:Int):=by omega
                have rcr:IntKind.i64.wrap ((kq:Int)) = (kq:Int):=by rw [IntKind.wrap_i64];omega
                obtain ⟨xr,hxr⟩:∃ x,x = dk[kp + 1 + (kq + 1)]!:=⟨_,rfl⟩
                obtain ⟨yr,hyr⟩:∃ x,x = dk[kp + 1 + kq]!:=⟨_,rfl⟩
                have lar:=S3.out.cl R (by omega) (kp + 1 + (kq + 1)) (by omega)
                have lbr:=S3.out.cl R (by omega) (kp + 1 + kq) (by omega)
                rw [← hxr,show off + (kp + 1 + (kq + 1)) = oK + iNr by omega] at lar
                rw [← hyr,show off + (kp + 1 + kq) = oK + jNr by omega] at lbr
                have hcr:=swEq S3.out HE.out (by omega) xr yr
                rw [show eqf xr yr = true by rw [hxr,hyr];exact hlw] at hcr
                clear hxr hyr hiNr hjNr
                go_quiet_grown (first | (go_at_fn g;refine Calls.grown_of (hcr _ _)))
                have S4:Aside (SW enc w0 blk off dk (grow (wr.drewN nq) osq)):=S3.out.grown nq osq
                clear lar lbr hcr S3
                generalize grow (wr.drewN nq) osq = wr at S4 ⊢
                clear nq osq
                clear ear ecr
                go_wp2
                go_roundg (nK - (kq + 1 + 1))
                case measure => omega
                case rel =>
                  refine ⟨kk,kq + 1 + 1,dk,rfl,by go_num,by omega,by omega,Nat.le_refl _,S4,?_⟩
                  rw [HS1.out,HS2.out] at hlw
                  exact HP.out.skip (by omega) hlw
              | false =>
                go_wp2_with fail
                obtain ⟨iNr,hiNr⟩:∃ q,q = kq + 1:=⟨_,rfl⟩
                obtain ⟨jNr,hjNr⟩:∃ q,q = kq:=⟨_,rfl⟩
                have ear:((kq:Int) + 1).toNat = iNr:=by omega
                have par:(0:Int) ≤ (kq:Int) + 1:=by omega
                have bar:(kq:Int) + 1 < (nK:Int):=by omega
                have rar:IntKind.i64.wrap ((kq:Int) + 1) = (kq:Int) + 1:=by rw [IntKind.wrap_i64];omega
                have ecr:((kq:Int)).toNat = jNr:=by omega
                have pcr:(0:Int) ≤ (kq:Int):=by omega
                have bcr:(kq:Int) < (nK:Int):=by omega
                have rcr:IntKind.i64.wrap ((kq:Int)) = (kq:Int):=by rw [IntKind.wrap_i64];omega
                obtain ⟨xr,hxr⟩:∃ x,x = dk[kp + 1 + (kq + 1)]!:=⟨_,rfl⟩
                obtain ⟨yr,hyr⟩:∃ x,x = dk[kp + 1 + kq]!:=⟨_,rfl⟩
                have lar:=S3.out.cl R (by omega) (kp + 1 + (kq + 1)) (by omega)
                have lbr:=S3.out.cl R (by omega) (kp + 1 + kq) (by omega)
                rw [← hxr,show off + (kp + 1 + (kq + 1)) = oK + iNr by omega] at lar
                rw [← hyr,show off + (kp + 1 + kq) = oK + jNr by omega] at lbr
                have hcr:=swEq S3.out HE.out (by omega) xr yr
                rw [show eqf xr yr = false by rw [hxr,hyr];exact hlw] at hcr
                clear hxr hyr hiNr hjNr
                go_quiet_grown (first | (go_at_fn g;refine Calls.grown_of (hcr _ _)))
                have S4:Aside (SW enc w0 blk off dk (grow (wr.drewN nq) osq)):=S3.out.grown nq osq
                clear lar lbr hcr S3
                generalize grow (wr.drewN nq) osq = wr at S4 ⊢
                clear nq osq
                clear ear ecr
                obtain ⟨iN,hiN⟩:∃ q,q = kq + 1:=⟨_,rfl⟩
                have ea:((kq:Int) + 1).toNat = iN:=by omega
                obtain ⟨u,hu⟩:∃ x,x = dk[kp + 1 + (kq + 1)]!:=⟨_,rfl⟩
                have c1:=S4.out.c1 R (by omega) (kp + 1 + (kq + 1)) (by omega)
                rw [← hu,show off + (kp + 1 + (kq + 1)) = oK + iN by omega] at c1
                have c2:=S4.out.c1 R (by omega) kk (by omega)
                have f2:=S4.out.f1 R (by omega) kk (by omega)
                have S5:Aside (SW enc w0 blk off (dk.setIfInBounds kk u) (wr.setCell ⟨blk,off + kk,none⟩ (enc u))):=sw_set S4.out R.hblk kk u (by omega)
                have rkk:IntKind.i64.wrap ((kk:Int) + 1) = (kk:Int) + 1:=by rw [IntKind.wrap_i64];omega
                have hkL:(kk:Int) < (L:Int):=by omega
                have hk0:(0:Int) ≤ (kk:Int):=by omega
                have ek:((kk:Int)).toNat = kk:=by omega
                have HU:Hid (u = dk[kp + 1 + (kq + 1)]!):=hu
                clear S4 hiN hu
                go_wp2_with fail
                clear c1 c2 f2 ea
                go_roundg (nK - (kq + 1 + 1))
                case measure => omega
                case rel =>
                  refine ⟨kk + 1,kq + 1 + 1,dk.setIfInBounds kk u,by go_num,by go_num,by omega,by omega,Nat.le_refl _,S5,?_⟩
                  rw [HS1.out,HS2.out] at hlw
                  rw [HU.out,HS1.out]
                  exact HP.out.keep (by omega) hlw
            · have hltz3:¬ (k2:Int) < (nK:Int):=by omega
              have ekk:kp + 1 + k2 = d.size:=by omega
              have HP2:Hid (Cpt eqf d d.size kk dk):=by have:=HP.out;rw [ekk] at this;exact this
              clear HP
              obtain ⟨oF,hoF⟩:∃ q,q = off + kk:=⟨_,rfl⟩
              obtain ⟨nF,hnF⟩:∃ q,q = L - kk:=⟨_,rfl⟩
              obtain ⟨cF,hcF⟩:∃ q,q = cap - kk:=⟨_,rfl⟩
              have hsf:∀ w:World,(Instr.sliceAt 80 (.slice (some ⟨blk,off,none⟩) L cap) (some (.int .i64 (kk:Int))) none none).run Tryz.prog w = .ok (.slice (some ⟨blk,oF,none⟩) nF cF) w:=fun w => by
                have:=slHi blk off L cap kk (by omega) w
                rw [if_neg (by omega),← hoF,← hnF,← hcF] at this
                exact this
              have hsg:=slLo blk off L cap kk (by omega)
              have hcl:∀ ty,(Builtin.clear_ #[80] ty #[.slice (some ⟨blk,oF,none⟩) nF cF]).run Tryz.prog wr = .ok (.tuple #[]) (wr.setCells blk oF (List.replicate nF (.pointer none))):=fun ty =>
                Lib.run_clear_slice wr _ 35 ty (.pointer none) Tryz.underlying80 (fun w => by kernel_rfl) rfl rfl blk oF nF cF (by omega) (fun j hj => by rw [show oF + j = off + (kk + j) by omega,S3.out.c1 R (by omega) (kk + j) (by omega)];rfl) (fun j hj => by rw [show oF + j = off + (kk + j) by omega];exact S3.out.f1 R (by omega) (kk + j) (by omega))
              have HFI:Hid (Cmpd enc eqf d blk off kk w0 (wr.setCells blk oF (List.replicate nF (.pointer none)))):=by
                refine ⟨HP2.out.len,fun j hj => ?_,fun j h1 h2 => ?_,fun B w hb h1 h2 => Below.setCells _ h1 _ _ _ (sw_bel S3.out hb h1 h2)⟩
                · rw [cell_setCells _ _ _ _ _ (by omega),S3.out.c1 R (by omega) j (by omega),take_get HP2.out.take (by omega) j hj]
                · rw [At'.setCells _ _ wr (fun _ _ => rfl) j h1]
                  exact sw_heap S3.out j h1 h2
              clear S3 HP2 hoF hnF hcF
              go_wp2_with fail
              go_ret
              exact ⟨kk,rfl,HFI.out⟩
      · have hltz:¬ (k:Int) < (L:Int):=by omega
        have e:k = L:=by omega
        have HF:Hid (Cmpd enc eqf d blk off L w0 wr):=HFULL.out wr S1.out (by rw [← e];exact HA.out)
        go_wp2
        go_ret
        exact ⟨L,rfl,HF.out⟩
end Go.Proofs.YtphmmnffgknkcaaGreatDoor
namespace Go.Proofs.YtphmmnffgknkcaaGreatDoor
open Go.Shelf Go.RowKit Go.Lib Go.Sort
set_option maxRecDepth 100000
variable {α:Type} (f:α → Nat × Lf)
def ordR (a b:α):Prop:=lessB (f a).2.1 (f b).2.1 = true ∨ ((f a).2.1 = (f b).2.1 ∧ (f b).1 < (f a).1)
def sameK (a b:α):Bool:=decide ((f a).2.1 = (f b).2.1)
def cmpF (a b:α):Int:=cmpB (f a).2.1 (f b).2.1
variable {f}
theorem ordR.trans {a b c:α} (h1:ordR f a b) (h2:ordR f b c):ordR f a c:=by
  rcases h1 with h1 | ⟨e1,h1⟩
  · rcases h2 with h2 | ⟨e2,h2⟩
    · exact Or.inl (lessB_trans _ _ _ h1 h2)
    · exact Or.inl (by rw [← e2];exact h1)
  · rcases h2 with h2 | ⟨e2,h2⟩
    · exact Or.inl (by rw [e1];exact h2)
    · exact Or.inr ⟨e1.trans e2,by omega⟩
theorem ltF_is (h32:∀ a,(f a).2.1.length = 32) (a b:α):ltOf (cmpF f) a b = lessB (f a).2.1 (f b).2.1:=by
  unfold ltOf cmpF
  exact cmp_less _ _ (by rw [h32,h32])
theorem keep_ordR (h32:∀ a,(f a).2.1.length = 32):Keep (ltOf (cmpF f)) (ordR f):=
  ⟨fun _ _ _ => ordR.trans,fun a b h => Or.inl (by rw [← ltF_is h32];exact h)⟩
theorem ordR.le {a b:α} (h:ordR f a b):lessB (f b).2.1 (f a).2.1 = false:=by
  rcases h with h | ⟨e,_⟩
  · exact less_asym h
  · rw [e];exact lessB_self _
variable [Inhabited α]
theorem stood_ordR (h32:∀ a,(f a).2.1.length = 32) {n:Nat} {d:Array α} (h:∀ i j,i < j → j < n → (f d[j]!).1 < (f d[i]!).1):Stood (ltOf (cmpF f)) (ordR f) 0 n d:=by
  intro i j _ hij hj hl
  rw [ltF_is h32] at hl
  by_cases e:(f d[i]!).2.1 = (f d[j]!).2.1
  · exact Or.inr ⟨e,h i j hij hj⟩
  · rcases less_total (h32 _) (h32 _) e with h1 | h1
    · exact Or.inl h1
    · rw [h1] at hl;cases hl
theorem mem_kept {eqf:α → α → Bool} {d:Array α} {n:Nat} {a:α}:a ∈ keptL eqf d n ↔ ∃ k,k < n ∧ keptB eqf d k = true ∧ d[k]! = a:=by
  unfold keptL
  simp only [List.mem_map,List.mem_filter,List.mem_range]
  constructor
  · rintro ⟨k,⟨h1,h2⟩,h3⟩;exact ⟨k,h1,h2,h3⟩
  · rintro ⟨k,h1,h2,h3⟩;exact ⟨k,⟨h1,h2⟩,h3⟩
def Last (f:α → Nat × Lf) (d:Array α) (k:Nat):Prop:=∀ j,j < d.size → (f d[j]!).2.1 = (f d[k]!).2.1 → (f d[j]!).1 ≤ (f d[k]!).1
theorem same_ahead (h32:∀ a,(f a).2.1.length = 32) {d:Array α} (h:Ris (ordR f) 0 d.size d) {j k:Nat} (hjk:j < k) (hk:k < d.size) (e:(f d[j]!).2.1 = (f d[k]!).2.1):(f d[k]!).2.1 = (f d[k - 1]!).2.1:=by
  by_cases c:j = k - 1
  · rw [← c,e]
  · have h1:=(h j (k - 1) (Nat.zero_le _) (by omega) (by omega)).le
    have h2:=(h (k - 1) k (Nat.zero_le _) (by omega) hk).le
    by_cases e2:(f d[k]!).2.1 = (f d[k - 1]!).2.1
    · exact e2
    · rcases less_total (h32 _) (h32 _) e2 with h3 | h3
      · rw [h3] at h2;cases h2
      · rw [e,h3] at h1;cases h1
theorem kept_last (h32:∀ a,(f a).2.1.length = 32) {d:Array α} (h:Ris (ordR f) 0 d.size d) {k:Nat} (hk:k < d.size):keptB (sameK f) d k = true ↔ Last f d k:=by
  unfold keptB
  constructor
  · intro hb j hj e
    rcases Nat.lt_trichotomy j k with c | c | c
    · have:=same_ahead h32 h c hk e
      simp [sameK,this] at hb
      omega
    · rw [c];exact Nat.le_refl _
    · rcases h k j (Nat.zero_le _) c hj with h1 | ⟨_,h1⟩
      · rw [← e,lessB_self] at h1;cases h1
      · omega
  · intro hl
    by_cases c:k = 0
    · simp [c]
    · have hne:(f d[k]!).2.1 ≠ (f d[k - 1]!).2.1:=fun e => by
        have h1:=hl (k - 1) (by omega) e.symm
        rcases h (k - 1) k (Nat.zero_le _) (by omega) hk with h2 | ⟨_,h2⟩
        · rw [e,lessB_self] at h2;cases h2
        · omega
      simp [sameK,hne]
theorem kept_up (h32:∀ a,(f a).2.1.length = 32) {d:Array α} (h:Ris (ordR f) 0 d.size d):Up ((keptL (sameK f) d d.size).map fun a => (f a).2):=by
  unfold Up keptL
  rw [List.map_map,List.pairwise_map,List.pairwise_filter]
  have hr:(List.range d.size).Pairwise (· < ·):=List.pairwise_lt_range
  refine hr.imp_of_mem fun {i j} hi hj hij hki hkj => ?_
  have hj':=List.mem_range.1 hj
  rcases h i j (Nat.zero_le _) hij hj' with h1 | ⟨e,h1⟩
  · exact h1
  · have h2:=(kept_last h32 h hj').1 hkj i (by omega) e
    omega
theorem mem_ofLb:∀ (ps:List (Nat × Lf)),(ps.Pairwise fun p q => p.1 < q.1) → ∀ p:Lf,p ∈ ofL (ps.map (·.2)) ↔ ∃ g,(g,p) ∈ ps ∧ ∀ q ∈ ps,q.2.1 = p.1 → q.1 ≤ g:=by
  intro ps
  induction hn:ps.length generalizing ps with
  | zero =>
    intro _ p
    have:ps = []:=List.length_eq_zero_iff.1 hn
    subst this
    simp [ofL]
  | succ n ih =>
    intro hp p
    obtain ⟨r,b,rfl⟩:∃ r b,ps = r ++ [b]:=⟨ps.dropLast,ps.getLast (by intro e;rw [e] at hn;simp at hn),(List.dropLast_concat_getLast _).symm⟩
    rw [List.pairwise_append] at hp
    obtain ⟨hp1,_,hp3⟩:=hp
    have hr:=ih r (by rw [List.length_append] at hn;simpa using hn) hp1
    have e:ofL ((r ++ [b]).map (·.2)) = putL (ofL (r.map (·.2))) b.2.1 b.2.2:=by
      unfold ofL
      rw [List.map_append,List.foldl_append]
      rfl
    rw [e,mem_putL,hr]
    constructor
    · rintro (h | ⟨h1,g,h2,h3⟩)
      · refine ⟨b.1,by rw [h];simp,fun q hq _ => ?_⟩
        rcases List.mem_append.1 hq with hq | hq
        · exact Nat.le_of_lt (hp3 q hq b (by simp))
        · rw [List.mem_singleton] at hq;rw [hq];exact Nat.le_refl _
      · refine ⟨g,List.mem_append_left _ h2,fun q hq e => ?_⟩
        rcases List.mem_append.1 hq with hq | hq
        · exact h3 q hq e
        · rw [List.mem_singleton] at hq;rw [hq] at e;exact absurd e.symm h1
    · rintro ⟨g,h1,h2⟩
      rcases List.mem_append.1 h1 with h1 | h1
      · by_cases c:p.1 = b.2.1
        · have h3:=h2 b (by simp) c.symm
          have h4:=hp3 (g,p) h1 b (by simp)
          simp only at h4
          omega
        · exact Or.inr ⟨c,g,h1,fun q hq => h2 q (List.mem_append_left _ hq)⟩
      · rw [List.mem_singleton] at h1
        exact Or.inl (by rw [← h1])
theorem rising_is (h32:∀ a,(f a).2.1.length = 32) {d:Array α} (h:Ris (ordR f) 0 d.size d) {ps:List (Nat × Lf)} (hp:ps.Pairwise fun p q => p.1 < q.1) (hok:okLf (ps.map (·.2))) (hm:∀ q,q ∈ ps ↔ ∃ k,k < d.size ∧ f d[k]! = q):(keptL (sameK f) d d.size).map (fun a => (f a).2) = ofL (ps.map (·.2)):=by
  refine up_ext (kept_up h32 h) (ofL_good _ hok).2 fun p => ?_
  rw [mem_ofLb ps hp]
  simp only [List.mem_map,mem_kept]
  constructor
  · rintro ⟨a,⟨k,hk,hb,rfl⟩,rfl⟩
    refine ⟨(f d[k]!).1,(hm _).2 ⟨k,hk,rfl⟩,fun q hq e => ?_⟩
    obtain ⟨j,hj,rfl⟩:=(hm q).1 hq
    exact (kept_last h32 h hk).1 hb j hj e
  · rintro ⟨g,h1,h2⟩
    obtain ⟨k,hk,e⟩:=(hm _).1 h1
    refine ⟨d[k]!,⟨k,hk,(kept_last h32 h hk).2 fun j hj ej => ?_,rfl⟩,by rw [e]⟩
    rw [e] at ej ⊢
    exact h2 _ ((hm _).2 ⟨j,hj,rfl⟩) ej
end Go.Proofs.YtphmmnffgknkcaaGreatDoor
namespace Go.Proofs.YtphmmnffgknkcaaGreatDoor
open Go.Shelf Go.RowKit Go.Lib Go.Sort
set_option maxRecDepth 100000
variable {α:Type} [Inhabited α]
structure Rvd (i:Nat) (d dk:Array α):Prop where
  size:dk.size = d.size
  out:∀ k,k < d.size → (k < i ∨ d.size ≤ k + i) → dk[k]! = d[d.size - 1 - k]!
  mid:∀ k,i ≤ k → k + i < d.size → dk[k]! = d[k]!
theorem Rvd.step {i:Nat} {d dk:Array α} (h:Rvd i d dk) (hi:i < d.size - 1 - i):Rvd (i + 1) d (swp dk i (d.size - 1 - i)):=by
  have hz:=h.size
  refine ⟨by rw [size_swp];exact hz,fun k hk hk2 => ?_,fun k hk hk2 => ?_⟩
  · by_cases e1:k = i
    · rw [e1,swp_left _ _ _ (by omega) (by omega),h.mid _ (by omega) (by omega)]
    · by_cases e2:k = d.size - 1 - i
      · rw [e2,swp_right _ _ _ (by omega),h.mid _ (by omega) (by omega)]
        congr 1;omega
      · rw [swp_other _ _ _ _ e1 e2,h.out k hk (by omega)]
  · rw [swp_other _ _ _ _ (by omega) (by omega),h.mid k (by omega) (by omega)]
theorem Rvd.done {i:Nat} {d dk:Array α} (h:Rvd i d dk) (hi:d.size ≤ i + i + 1):dk.toList = d.toList.reverse:=by
  apply List.ext_getElem
  · rw [Array.length_toList,List.length_reverse,Array.length_toList,h.size]
  · intro k h1 h2
    rw [Array.length_toList,h.size] at h1
    rw [List.getElem_reverse,Array.getElem_toList,Array.getElem_toList]
    have e:dk[k]! = d[d.size - 1 - k]!:=by
      by_cases c:k < i ∨ d.size ≤ k + i
      · exact h.out k h1 c
      · rw [h.mid k (by omega) (by omega)]
        congr 1;omega
    rw [getElem!_pos dk k (by rw [h.size];exact h1),getElem!_pos d _ (by omega)] at e
    rw [e]
    simp
set_option maxHeartbeats 4000000 in
set_option maxRecDepth 1000000 in
theorem reverse_any (enc:α → Value) (blk off L cap:Nat) (d:Array α) (w0 w:World) (R:Row1 enc w0 blk off d) (hL:d.size = L) (S:SW enc w0 blk off d w) (h1:1 ≤ L) (hsz:L < 1000000000) :
    Calls Tryz.prog 65 #[.slice (some ⟨blk,off,none⟩) L cap] w fun e w' => e = .returned (.tuple #[]) ∧ ∃ d',d'.toList = d.toList.reverse ∧ SW enc w0 blk off d' w':=by
  have mixed:Tryz.prog.follows .mixedOrders = true:=by kernel_rfl
  have hcl0:=R.hO.cells
  simp only [Value.cells] at hcl0
  have hst:=R.hO.store Tryz.prog
  have S0:Aside (SW enc w0 blk off d w):=S
  have l1:d.size ≤ L:=Nat.le_of_eq hL
  have l2:L ≤ d.size:=Nat.le_of_eq hL.symm
  have HL:Hid (d.size = L):=hL
  clear S hL
  have r0:IntKind.i64.wrap ((L:Int) - 1) = ((L - 1:Nat):Int):=by rw [IntKind.wrap_i64];omega
  go_enter Tryz.func65,Tryz.ntmps65
  go_wp2
  clear r0
  go_loopg [2,3] L (fun kx s2 s3 wr => ∃ (i j:Nat) (dk:Array α),s2 = .int .i64 i ∧ s3 = .int .i64 j ∧ j + i ≤ L - 1 ∧ L - 1 ≤ j + i ∧ L - i ≤ kx ∧ Aside (SW enc w0 blk off dk wr) ∧ Hid (Rvd i d dk))
  case atStart => exact ⟨0,L - 1,d,rfl,by first | rfl | go_num,by omega,by omega,by omega,S0,⟨rfl,fun k hk h => by omega,fun k _ _ => rfl⟩⟩
  case round =>
    clear S0
    obtain ⟨i,j,dk,rfl,rfl,hij1,hij2,hkx,S1,HR⟩:=hrel
    by_cases hlt:i < j
    · have hltz:(i:Int) < (j:Int):=by omega
      have hsk:dk.size = d.size:=HR.out.size
      go_wp2_with fail
      obtain ⟨iNq,hiNq⟩:∃ q,q = i:=⟨_,rfl⟩
      obtain ⟨jNq,hjNq⟩:∃ q,q = j:=⟨_,rfl⟩
      have eaq:((i:Int)).toNat = iNq:=by omega
      have paq:(0:Int) ≤ (i:Int):=by omega
      have baq:(i:Int) < (L:Int):=by omega
      have raq:IntKind.i64.wrap ((i:Int)) = (i:Int):=by rw [IntKind.wrap_i64];omega
      have ecq:((j:Int)).toNat = jNq:=by omega
      have pcq:(0:Int) ≤ (j:Int):=by omega
      have bcq:(j:Int) < (L:Int):=by omega
      have rcq:IntKind.i64.wrap ((j:Int)) = (j:Int):=by rw [IntKind.wrap_i64];omega
      obtain ⟨xq,hxq⟩:∃ x,x = dk[i]!:=⟨_,rfl⟩
      obtain ⟨yq,hyq⟩:∃ x,x = dk[j]!:=⟨_,rfl⟩
      have S2:Aside (SW enc w0 blk off (swp dk (i) (j)) ((wr.setCell ⟨blk,off + iNq,none⟩ (enc yq)).setCell ⟨blk,off + jNq,none⟩ (enc xq)).drew):=by rw [hiNq,hjNq,hxq,hyq];exact S1.out.swapped R (i) (j) (by omega) (by omega)
      have caq:=S1.out.c1 R (by omega) (i) (by omega)
      have ccq:=S1.out.c1 R (by omega) (j) (by omega)
      have faq:=S1.out.f1 R (by omega) (i) (by omega)
      have fbq:=S1.out.f1 R (by omega) (j) (by omega)
      obtain ⟨uq,cuq⟩:=S1.out.c2 R (by omega) (i) (j) (by omega) (by omega) (enc yq)
      rw [← hjNq,← hiNq] at cuq
      rw [← hxq,← hiNq] at caq
      rw [← hyq,← hjNq] at ccq
      rw [← hiNq] at faq
      rw [← hjNq] at fbq
      clear S1 hxq hyq hiNq hjNq
      go_wp2_with fail
      go_big_region_o
      clear caq ccq cuq faq fbq
      generalize ((wr.setCell ⟨blk,off + iNq,none⟩ (enc yq)).setCell ⟨blk,off + jNq,none⟩ (enc xq)).drew = wq at S2 ⊢
      clear eaq ecq
      have rj:IntKind.i64.wrap ((j:Int) - 1) = ((j - 1:Nat):Int):=by rw [IntKind.wrap_i64];omega
      go_wp2
      go_roundg (L - (i + 1))
      case measure => omega
      case rel =>
        refine ⟨i + 1,j - 1,swp dk i j,by go_num,by first | rfl | go_num,by omega,by omega,Nat.le_refl _,S2,?_⟩
        have e:j = d.size - 1 - i:=by omega
        have:=HR.out.step (by omega)
        rw [← e] at this
        exact this
    · have hltz:¬ (i:Int) < (j:Int):=by omega
      go_wp2
      go_end0
      exact ⟨rfl,dk,HR.out.done (by omega),S1.out⟩
end Go.Proofs.YtphmmnffgknkcaaGreatDoor
namespace Go.Proofs.YtphmmnffgknkcaaGreatDoor
open Go.Shelf Go.RowKit Go.Lib Go.Sort
set_option maxRecDepth 100000
structure RowS (W:World) (B n cap:Nat) (ps:List (Nat × Lf)):Prop where
  len:ps.length = n
  cap:n ≤ cap
  lt:B < W.heap.size
  cell:∀ j,j < n → W.cell? ⟨B,j,none⟩ = some (ptr (ps.getD j default).1)
  free:∀ j,j < n → W.frozen? ⟨B,j,none⟩ = false
  leaf:∀ q ∈ ps,TreeC W q.1 1 (dig (pairB 76 q.2.1 q.2.2)) q.2.1 q.2.2 (.pointer none) (.pointer none)
  ne:∀ q ∈ ps,q.1 ≠ B
  up:ps.Pairwise fun p q => p.1 < q.1
abbrev Ap (ps:List (Nat × Lf)):Type:={ q:Nat × Lf // q ∈ ps }
def encP (ps:List (Nat × Lf)) (a:Ap ps):Value:=ptr a.1.1
theorem oneP (ps:List (Nat × Lf)):OneCell (encP ps):=fun _ => rfl
theorem inhP {ps:List (Nat × Lf)} (h:0 < ps.length):Nonempty (Inhabited (Ap ps)):=⟨⟨⟨ps[0],List.getElem_mem h⟩⟩⟩
theorem len32P {W:World} {B n cap:Nat} {ps:List (Nat × Lf)} (h:RowS W B n cap ps) (a:Ap ps):(a.1).2.1.length = 32:=(h.leaf a.1 a.2).l2
def Lies (W W':World) (ps:List (Nat × Lf)):Prop:=∀ q ∈ ps,W'.heap[q.1]? = W.heap[q.1]? ∧ q.1 < W'.heap.size
theorem RowS.index {W w1:World} {B n cap:Nat} {ps:List (Nat × Lf)} (h:RowS W B n cap ps) (hl:Lies W w1 ps) (a:Ap ps):w1.rangeAt a.1.1 33 (cb a.1.2.1):=((h.leaf a.1 a.2).heap (hl a.1 a.2).1).index
section
variable {ps:List (Nat × Lf)} [Inhabited (Ap ps)]
theorem attach_get (k:Nat) (hk:k < ps.length):(ps.attach.toArray[k]!).1 = ps.getD k default:=by
  rw [getElem!_pos _ k (by simpa using hk),List.getD_eq_getElem?_getD,List.getElem?_eq_getElem hk,Option.getD_some]
  simp
theorem RowS.row1 {W:World} {B n cap:Nat} (h:RowS W B n cap ps):Row1 (encP ps) W B 0 ps.attach.toArray:=by
  refine ⟨oneP ps,fun j hj => ?_,h.lt⟩
  have hj':j < ps.length:=by simpa using hj
  rw [Nat.zero_add]
  refine ⟨?_,h.free j (by rw [← h.len];exact hj')⟩
  rw [h.cell j (by rw [← h.len];exact hj'),encP,attach_get j hj']
theorem row1_of_sw {w0 W:World} {B:Nat} {d0 d:Array (Ap ps)} (R:Row1 (encP ps) w0 B 0 d0) (S:SW (encP ps) w0 B 0 d W) (hs:d.size = d0.size):Row1 (encP ps) W B 0 d:=⟨R.hO,S.holds R.hblk R.hH hs,S.lt R.hblk⟩
theorem lies_sw {W w0 w1:World} {B:Nat} {d:Array (Ap ps)} (hl:Lies W w0 ps) (hne:∀ q ∈ ps,q.1 ≠ B) (S:SW (encP ps) w0 B 0 d w1):Lies W w1 ps:=fun q hq =>
  ⟨(sw_heap S q.1 (hne q hq) (hl q hq).2).trans (hl q hq).1,Nat.lt_of_lt_of_le (hl q hq).2 S.le⟩
theorem RowS.cmp {W w1:World} {B n cap:Nat} (h:RowS W B n cap ps) (hl:Lies W w1 ps) (size:Nat):CmpLays1 Tryz.prog 67 #[] (encP ps) (cmpF Subtype.val) B 0 size w1:=by
  intro m os dk _ x y
  have hl2:Lies W (sortWorld (encP ps) w1 B 0 m dk os) ps:=lies_sw hl h.ne ⟨m,os,rfl⟩
  refine (trRising1_any x.1.1 y.1.1 x.1.2.1 y.1.2.1 _ (h.index hl2 x) (h.index hl2 y) (len32P h x) (len32P h y)).mono fun e w' hh => ⟨hh.1,1,#[],?_⟩
  rw [hh.2,grow_empty];rfl
theorem RowS.eq {W w1:World} {B n cap:Nat} (h:RowS W B n cap ps) (hl:Lies W w1 ps) (size:Nat):EqLays 69 #[] (encP ps) (sameK Subtype.val) B 0 size w1:=by
  intro m os dk _ x y
  have hl2:Lies W (sortWorld (encP ps) w1 B 0 m dk os) ps:=lies_sw hl h.ne ⟨m,os,rfl⟩
  refine (trRising2_any x.1.1 y.1.1 x.1.2.1 y.1.2.1 _ (h.index hl2 x) (h.index hl2 y) (len32P h x) (len32P h y)).mono fun e w' hh => ⟨hh.1,1,#[],?_⟩
  rw [hh.2,grow_empty];rfl
end
set_option maxHeartbeats 1000000 in
theorem sortStable_any {α:Type} [Inhabited α] (enc:α → Value) (cf:α → α → Int) (Rr:α → α → Prop) (K:Keep (ltOf cf) Rr) (g:Nat) (cb:Array Value) (eg:∀ args w,(callFunc g args).run Tryz.prog w = .ok (.enter g args) w) (blk off n cap:Nat) (d:Array α) (w0 w:World) (hcmp:CmpLays1 Tryz.prog g cb enc cf blk off d.size w0) (R:Row1 enc w0 blk off d) (hn:d.size = n) (S:SW enc w0 blk off d w) (hsz:n < 1000000000) (hS:Stood (ltOf cf) Rr 0 n d) :
    Calls Tryz.prog 66 #[.slice (some ⟨blk,off,none⟩) n cap,.func (.func g) #[] cb] w fun e w' => e = .returned (.tuple #[]) ∧ ∃ d',Merged Rr 0 n d d' ∧ SW enc w0 blk off d' w':=by
  have HH:Hid (Calls Tryz.prog 93 #[.slice (some ⟨blk,off,none⟩) n cap,.int .i64 n,.func (.func g) #[] cb] w fun e w' => e = .returned (.tuple #[]) ∧ ∃ d',Merged Rr 0 n d d' ∧ SW enc w0 blk off d' w'):=stable_any enc cf Rr K g cb eg blk off n cap d w0 w hcmp R hn S hsz hS
  clear hcmp R hn S hS K
  go_enter Tryz.func66,Tryz.ntmps66
  go_wp2_with (go_at_call 93;refine HH.out.mono ?_;rintro e w2 ⟨rfl,hd⟩)
  go_end0
  exact ⟨rfl,hd⟩
def Rv1 (W:World) (B n:Nat) (ps:List (Nat × Lf)) (w1:World):Prop:=∃ (_:Inhabited (Ap ps)) (d1:Array (Ap ps)),d1.toList = ps.attach.reverse ∧ d1.size = n ∧ Row1 (encP ps) w1 B 0 d1 ∧ SW (encP ps) W B 0 d1 w1
theorem row_reverse {W:World} {B n cap:Nat} {ps:List (Nat × Lf)} (h:RowS W B n cap ps) (h1:1 ≤ n) (hn:n < 1000000):Calls Tryz.prog 65 #[.slice (some ⟨B,0,none⟩) n cap] W fun e w' => e = .returned (.tuple #[]) ∧ Rv1 W B n ps w':=by
  obtain ⟨inh⟩:=inhP (ps:=ps) (by rw [h.len];omega)
  have hz:ps.attach.toArray.size = n:=by simpa using h.len
  refine (reverse_any (encP ps) B 0 n cap ps.attach.toArray W W h.row1 hz (SW.start h.row1.hH) h1 (by omega)).mono ?_
  rintro e w' ⟨he,d',hd,hS⟩
  have hz2:d'.size = n:=by rw [← Array.length_toList,hd,List.length_reverse];simpa using h.len
  exact ⟨he,inh,d',by simpa using hd,hz2,row1_of_sw h.row1 hS (by rw [hz2,hz]),hS⟩
def Rv2 (W:World) (B n:Nat) (ps:List (Nat × Lf)) (w2:World):Prop:=∃ (_:Inhabited (Ap ps)) (d2:Array (Ap ps)),d2.toList.Perm ps.attach ∧ d2.size = n ∧ Row1 (encP ps) w2 B 0 d2 ∧ Lies W w2 ps ∧ Ris (ordR Subtype.val) 0 n d2 ∧ ∀ (C:Nat) (w:World),Below C w W → C ≤ B → C ≤ W.heap.size → Below C w w2
theorem row_sort {W w1:World} {B n cap:Nat} {ps:List (Nat × Lf)} (h:RowS W B n cap ps) (hn:n < 1000000) (hr:Rv1 W B n ps w1):Calls Tryz.prog 66 #[.slice (some ⟨B,0,none⟩) n cap,.func (.func 67) #[] #[]] w1 fun e w' => e = .returned (.tuple #[]) ∧ Rv2 W B n ps w':=by
  obtain ⟨inh,d1,hd,hz,hR,hS⟩:=hr
  have hl0:Lies W W ps:=fun q hq => ⟨rfl,(h.leaf q hq).blk.lt⟩
  have hl:Lies W w1 ps:=lies_sw hl0 h.ne hS
  have hst:Stood (ltOf (cmpF Subtype.val)) (ordR Subtype.val) 0 n d1:=by
    refine stood_ordR (len32P h) fun i j hij hj => ?_
    have e:∀ k,k < n → (d1[k]!).1 = ps.getD (n - 1 - k) default:=fun k hk => by
      rw [getElem!_pos d1 k (by omega),← Array.getElem_toList]
      have hk2:k < (ps.attach.reverse).length:=by rw [List.length_reverse,List.length_attach,h.len];exact hk
      have e2:d1.toList[k]'(by rw [Array.length_toList];omega) = (ps.attach.reverse)[k]'hk2:=by simp only [hd]
      rw [e2,List.getElem_reverse,List.getD_eq_getElem?_getD,List.getElem?_eq_getElem (by rw [h.len];omega),Option.getD_some]
      simp [h.len]
    rw [e i (by omega),e j hj]
    have hp:=List.pairwise_iff_getElem.1 h.up (n - 1 - j) (n - 1 - i) (by rw [h.len];omega) (by rw [h.len];omega) (by omega)
    rw [List.getD_eq_getElem?_getD,List.getD_eq_getElem?_getD,List.getElem?_eq_getElem (by rw [h.len];omega),List.getElem?_eq_getElem (by rw [h.len];omega)]
    exact hp
  refine (sortStable_any (encP ps) (cmpF Subtype.val) (ordR Subtype.val) (keep_ordR (len32P h)) 67 #[] (enters_of Tryz.func67 (by kernel_rfl) rfl) B 0 n cap d1 w1 w1 (h.cmp hl _) hR hz (SW.start hR.hH) (by omega) hst).mono ?_
  rintro e w' ⟨he,d2,hm,hS2⟩
  have hz2:d2.size = n:=by rw [hm.1.1,hz]
  have hp:d2.toList.Perm d1.toList:=by
    have:=hm.1.2.2
    have e1:d2.extract 0 n = d2:=by rw [← hz2];simp
    have e2:d1.extract 0 n = d1:=by rw [← hz];simp
    rwa [e1,e2] at this
  refine ⟨he,inh,d2,hp.trans (by rw [hd];exact List.reverse_perm _),hz2,row1_of_sw hR hS2 (by rw [hz2,hz]),lies_sw hl h.ne hS2,hm.2,fun C w hb h1 h2 => ?_⟩
  exact sw_bel hS2 (sw_bel hS hb h1 h2) h1 (Nat.le_trans h2 hS.le)
theorem row_compact {W w2:World} {B n cap:Nat} {ps:List (Nat × Lf)} (h:RowS W B n cap ps) (h1:1 ≤ n) (hn:n < 1000000) (hr:Rv2 W B n ps w2):Calls Tryz.prog 68 #[.slice (some ⟨B,0,none⟩) n cap,.func (.func 69) #[] #[]] w2 fun e w' => ∃ kk qs,e = .returned (.slice (some ⟨B,0,none⟩) kk cap) ∧ qs.length = kk ∧ kk ≤ n ∧ LvRow w' B 0 qs ∧ qs.map (·.2) = ofL (ps.map (·.2)) ∧ ∀ (C:Nat) (w:World),Below C w W → C ≤ B → C ≤ W.heap.size → Below C w w':=by
  obtain ⟨inh,d2,hp,hz,hR,hl,hris,hbel⟩:=hr
  have hlw:W.heap.size ≤ w2.heap.size:=(hbel 0 W (Below.refl _ _) (Nat.zero_le _) (Nat.zero_le _)).size
  refine (compact_any (encP ps) (sameK Subtype.val) 69 #[] (enters_of Tryz.func69 (by kernel_rfl) rfl) B 0 n cap d2 w2 w2 (h.eq hl _) hR hz (SW.start hR.hH) h1 h.cap (by omega)).mono ?_
  rintro e w' ⟨kk,he,hc⟩
  refine ⟨kk,(keptL (sameK Subtype.val) d2 d2.size).map Subtype.val,he,by rw [List.length_map,← hc.len],by rw [hc.len];exact Nat.le_trans (keptL_le _ _ _) (Nat.le_of_eq hz),⟨fun k hk => ?_,fun q hq => ?_⟩,?_,fun C w hb g1 g2 => hc.bel C w (hbel C w hb g1 g2) g1 (Nat.le_trans g2 hlw)⟩
  · rw [List.length_map,← hc.len] at hk
    rw [hc.cell k hk,encP,List.getD_eq_getElem?_getD,List.getElem?_map,List.getElem?_eq_getElem (by rw [← hc.len];exact hk),getElem!_pos _ k (by rw [← hc.len];exact hk)]
    rfl
  · obtain ⟨a,_,rfl⟩:=List.mem_map.1 hq
    refine (h.leaf a.1 a.2).heap ?_
    rw [hc.heap a.1.1 (h.ne a.1 a.2) (hl a.1 a.2).2]
    exact (hl a.1 a.2).1
  · rw [List.map_map]
    refine rising_is (len32P h) (by rw [hz];exact hris) h.up (fun p hp => ?_) fun q => ?_
    · obtain ⟨q,hq,rfl⟩:=List.mem_map.1 hp
      exact ⟨(h.leaf q hq).l2,(h.leaf q hq).l3⟩
    · constructor
      · intro hq
        have hm:(⟨q,hq⟩:Ap ps) ∈ d2.toList:=hp.mem_iff.2 (List.mem_attach _ _)
        obtain ⟨k,hk,e⟩:=List.getElem_of_mem hm
        rw [Array.length_toList] at hk
        refine ⟨k,hk,?_⟩
        rw [getElem!_pos d2 k hk,← Array.getElem_toList,e]
      · rintro ⟨k,_,rfl⟩
        exact (d2[k]!).2
end Go.Proofs.YtphmmnffgknkcaaGreatDoor
namespace Go.Proofs.YtphmmnffgknkcaaGreatDoor
open Go.Shelf Go.RowKit Go.Lib Go.Sort
set_option maxRecDepth 100000
def ptrs (ps:List (Nat × Lf)):List Value:=ps.map fun q => ptr q.1
structure Rg (w:World) (gl:Nat) (v:Value) (ps:List (Nat × Lf)) (W:World):Prop where
  own:W.ownsRow gl 35 1 v ps.length (ptrs ps)
  leaf:∀ q ∈ ps,TreeC W q.1 1 (dig (pairB 76 q.2.1 q.2.2)) q.2.1 q.2.2 (.pointer none) (.pointer none)
  ne:∀ q ∈ ps,v.ownBlock ≠ some q.1
  up:ps.Pairwise fun p q => p.1 < q.1
  bel:Below gl w W
  ge:gl ≤ W.heap.size
  nil:ps = [] → v = .slice none 0 0
theorem own_keep {w w':World} {base n:Nat} {v:Value} {cs:List Value} (h:w.ownsRow base 35 1 v n cs) (hs:∀ k,base ≤ k → k < w.heap.size → w'.heap[k]? = w.heap[k]?):w'.ownsRow base 35 1 v n cs:=by
  have hlt:=World.ownsRow.lt h
  rcases h with ⟨h1,⟨rfl,h2⟩ | ⟨g,cap,cur,rfl,hg,hh,h3⟩⟩
  · exact ⟨h1,Or.inl ⟨rfl,h2⟩⟩
  · exact ⟨h1,Or.inr ⟨g,cap,cur,rfl,hg,by rw [hs g hg (hlt g rfl).2];exact hh,h3⟩⟩
theorem Rg.next {w W W':World} {gl:Nat} {v:Value} {ps:List (Nat × Lf)} (h:Rg w gl v ps W) (hb:Below W.heap.size W W'):Rg w gl v ps W':=
  ⟨own_keep h.own fun k _ hk => hb.block k hk,fun q hq => (h.leaf q hq).next hb,h.ne,h.up,h.bel.trans (hb.mono h.ge),Nat.le_trans h.ge hb.size,h.nil⟩
theorem own_slice {w:World} {base n:Nat} {v:Value} {cs:List Value} (h:w.ownsRow base 35 1 v n cs):∃ ad c,v = .slice ad n c:=by
  rcases h with ⟨_,⟨rfl,h2⟩ | ⟨g,cap,cur,rfl,_⟩⟩
  · exact ⟨none,0,by rw [h2]⟩
  · exact ⟨_,_,rfl⟩
theorem Tryz.infop:(Tryz.prog.info? 35).map (fun i => (i.zero,i.size,i.bytes)) = some (some (.pointer none),1,8):=by kernel_rfl
theorem wp_appendP {o:Oper} {a:Act} {w w0:World} {K:Act → World → Prop} {Q:Exit → Act → World → Prop} (s x:Operand) (gl:Nat) (v:Value) (ps:List (Nat × Lf)) (q:Nat × Lf) (g:Nat)
    (hR:Rg w0 gl v ps w) (hu:Blk w g [ptr q.1] 35) (hq:TreeC w q.1 1 (dig (pairB 76 q.2.1 q.2.2)) q.2.1 q.2.2 (.pointer none) (.pointer none)) (hup:∀ p ∈ ps,p.1 < q.1) (hnew:∀ j,v.ownBlock = some j → j < q.1) (hl:ps.length < 2000000)
    (ho:o.op = .call { callee:=.builtin .append,args:=#[s,x],argTypes:=#[80,80] }) (hs:a.eval s = v) (hx:a.eval x = .slice (some ⟨g,0,none⟩) 1 1)
    (h:∀ v' w',Rg w0 gl v' (ps ++ [q]) w' → K (a.put o.dst v') w'):o.wp Tryz.prog a w K Q:=by
  obtain ⟨i0,hi,hz0,hz1,hz2⟩:=info_parts Tryz.infop
  have hown:=hR.own
  obtain ⟨v',w',hr,h2,h3,h4,h5⟩:=run_append_own_at (P:=Tryz.prog) w gl 80 o.type 35 i0 (.pointer none) 1 8 Tryz.underlying80 hi hz0 hz1 hz2 rfl (by decide) v ps.length (ptrs ps) hown ⟨g,0,none⟩ 1 1 [ptr q.1] rfl (by intro j u hj;rw [Addr.add_mid,Nat.zero_add,hu.cell,hj]) (by intro u hu;rw [List.mem_singleton] at hu;rw [hu];rfl) (by unfold maxLen;omega) (by omega) hR.ge
  unfold Oper.wp execOp
  simp only [ho,resolve,invoke,builtin,Sem.run_bind,Sem.run_pure,Result.andThen_ok,List.map_toArray,List.map_cons,List.map_nil,hs,hx,hr]
  have hlt:=World.ownsRow.lt hown
  have other:∀ k,v.ownBlock ≠ some k → k < w.heap.size → w'.heap[k]? = w.heap[k]?:=fun k hk hl => h3.block k hl (fun e => hk e.symm)
  have hbel:Below gl w w':=(Below.refl _ _).grown h3 hR.ge (fun k hk => (hlt k hk).1)
  refine h v' w' ⟨?_,fun p hp => ?_,fun p hp => ?_,?_,hR.bel.trans hbel,Nat.le_trans hR.ge hbel.size,fun e => by simp at e⟩
  · rw [List.length_append]
    have e:ptrs (ps ++ [q]) = ptrs ps ++ [ptr q.1]:=by unfold ptrs;rw [List.map_append];rfl
    rw [e]
    exact h2
  · rcases List.mem_append.1 hp with hp | hp
    · exact (hR.leaf p hp).heap (other _ (hR.ne p hp) (hR.leaf p hp).blk.lt)
    · rw [List.mem_singleton] at hp;subst hp
      exact hq.heap (other _ (fun e => by have:=hnew _ e;omega) hq.blk.lt)
  · rcases h5 with e | e
    · rw [e]
      rcases List.mem_append.1 hp with hp | hp
      · exact hR.ne p hp
      · rw [List.mem_singleton] at hp;subst hp
        exact fun e => by have:=hnew _ e;omega
    · rw [e]
      have hplt:p.1 < w.heap.size:=by
        rcases List.mem_append.1 hp with hp | hp
        · exact (hR.leaf p hp).blk.lt
        · rw [List.mem_singleton] at hp;subst hp;exact hq.blk.lt
      exact fun e => by simp only [Option.some.injEq] at e;omega
  · rw [List.pairwise_append]
    exact ⟨hR.up,List.pairwise_singleton _ _,fun p hp r hr => by rw [List.mem_singleton] at hr;rw [hr];exact hup p hp⟩
theorem Rg.row {w W:World} {gl n cap:Nat} {ad:Option Addr} {ps:List (Nat × Lf)} (h:Rg w gl (.slice ad n cap) ps W) (hn:ps.length = n) (h1:1 ≤ n):∃ B,ad = some ⟨B,0,none⟩ ∧ gl ≤ B ∧ RowS W B n cap ps:=by
  rcases h.own with ⟨e1,⟨e2,e3⟩ | ⟨g,cp,cur,e2,hg,hh,hc,hm,hs,ht⟩⟩
  · omega
  · simp only [Value.slice.injEq] at e2
    obtain ⟨rfl,e4,rfl⟩:=e2
    have hlt:=World.ownsRow.lt h.own
    refine ⟨g,rfl,hg,⟨hn,by omega,(hlt g rfl).2,fun j hj => ?_,fun j _ => frozen_of_row W g j cur 35 hh,h.leaf,fun q hq e => h.ne q hq (by rw [e];rfl),h.up⟩⟩
    rw [cell_of_row W g _ cur 35 (0,0) hh]
    have h2:(cur.toList.take (ps.length * 1))[j]? = (ptrs ps)[j]?:=by rw [ht]
    rw [List.getElem?_take,if_pos (by omega)] at h2
    rw [← Array.getElem?_toList,h2]
    unfold ptrs
    rw [List.getElem?_map,List.getElem?_eq_getElem (by omega),List.getD_eq_getElem?_getD,List.getElem?_eq_getElem (by omega)]
    rfl
set_option maxHeartbeats 1000000 in
theorem reverse_none (w:World):Calls Tryz.prog 65 #[.slice none 0 0] w fun e w' => e = .returned (.tuple #[]) ∧ w' = w:=by
  go_enter Tryz.func65,Tryz.ntmps65
  go_wp2
  go_loopg [2,3] 0 (fun _ s2 s3 wr => s2 = .int .i64 0 ∧ s3 = .int .i64 (-1) ∧ wr = w)
  case atStart => exact ⟨rfl,rfl,rfl⟩
  case round =>
    obtain ⟨rfl,rfl,rfl⟩:=hrel
    go_wp2
    go_end0
    exact ⟨rfl,rfl⟩
set_option maxHeartbeats 1000000 in
theorem insertion_none (g:Nat) (cb:Array Value) (w:World):Calls Tryz.prog 110 #[.slice none 0 0,.int .i64 0,.int .i64 0,.func (.func g) #[] cb] w fun e w' => e = .returned (.tuple #[]) ∧ w' = w:=by
  go_enter Tryz.func110,Tryz.ntmps110
  go_wp2
  go_loopg [8] 0 (fun _ s8 wr => s8 = .int .i64 1 ∧ wr = w)
  case atStart => exact ⟨rfl,rfl⟩
  case round =>
    obtain ⟨rfl,rfl⟩:=hrel
    go_wp2
    go_end0
    exact ⟨rfl,rfl⟩
set_option maxHeartbeats 1000000 in
theorem stable_none (g:Nat) (cb:Array Value) (w W0:World) (hw:w = W0):Calls Tryz.prog 93 #[.slice none 0 0,.int .i64 0,.func (.func g) #[] cb] w fun e w' => e = .returned (.tuple #[]) ∧ w' = W0:=by
  have HW:Hid (w = W0):=hw
  clear hw
  go_enter Tryz.func93,Tryz.ntmps93
  go_wp2
  go_loopg [7,8] 0 (fun _ s7 s8 wr => s7 = .int .i64 0 ∧ s8 = .int .i64 20 ∧ Hid (wr = W0))
  case atStart => exact ⟨rfl,rfl,HW⟩
  case round =>
    clear HW
    obtain ⟨rfl,rfl,HW⟩:=hrel
    go_wp2_with (go_at_call 110;refine (insertion_none g cb _).mono ?_;rintro e w2 ⟨rfl,hq⟩;rw [hq];clear hq w2)
    go_loopg [6] 0 (fun _ s6 wx => s6 = .int .i64 20 ∧ Hid (wx = W0))
    case atStart => exact ⟨rfl,HW⟩
    case round =>
      clear HW
      obtain ⟨rfl,HW⟩:=hrel
      go_wp2
      go_end0
      exact ⟨rfl,HW.out⟩
theorem sortStable_none (g:Nat) (cb:Array Value) (w:World):Calls Tryz.prog 66 #[.slice none 0 0,.func (.func g) #[] cb] w fun e w' => e = .returned (.tuple #[]) ∧ w' = w:=by
  go_enter Tryz.func66,Tryz.ntmps66
  go_wp2_with (go_at_call 93;refine (stable_none g cb _ _ rfl).mono ?_;rintro e w2 ⟨rfl,rfl⟩)
  go_end0
  exact ⟨rfl,rfl⟩
theorem compact_none (g:Nat) (cb:Array Value) (w:World):Calls Tryz.prog 68 #[.slice none 0 0,.func (.func g) #[] cb] w fun e w' => e = .returned (.slice none 0 0) ∧ w' = w:=by
  go_enter Tryz.func68,Tryz.ntmps68
  go_wp2
  go_ret
  exact ⟨rfl,rfl⟩
theorem buildP (f:Operand → Value) (o:Oper) (x:Operand) (ho:o.op = .buildSlice 80 1 #[(0,x)]) (g:Nat) (hx:f x = .pointer (some ⟨g,0,none⟩)) (w:World):(execOp f o).run Tryz.prog w = .ok (.value (.slice (some ⟨w.heap.size,0,none⟩) 1 1)) (w.alloc (.cells [ptr g].toArray 35)):=by
  unfold execOp
  rw [ho]
  simp only [List.map_toArray,List.map_cons,List.map_nil,hx]
  kernel_rfl
set_option maxRecDepth 100000 in
set_option maxHeartbeats 8000000 in
theorem trRising_any (w:World) (vt vu:Value) (ds es:List (List (BitVec 8))) (hK:KOk w) (hA:ReadsD w vt ds) (hB:ReadsD w vu es) (hl:ds.length < 50000) :
    Calls Tryz.prog 38 #[vt,vu] w fun e w' => ∃ ad B n cap qs,e = .returned (.slice ad n cap) ∧ qs.length = n ∧ n ≤ cap ∧ (n = 0 ∨ ad = some ⟨B,0,none⟩) ∧ n < 100000 ∧ LvRow w' B 0 qs ∧ qs.map (·.2) = ofL (ds.zip es) ∧ Below w.heap.size w w':=by
  have HK:Hid (KOk w):=hK
  have HRA:Hid (ReadsD w vt ds):=hA
  have HRB:Hid (ReadsD w vu es):=hB
  obtain ⟨na,HNA⟩:∃ n,Hid (n = ds.length):=⟨_,rfl⟩
  obtain ⟨nb,HNB⟩:∃ n,Hid (n = es.length):=⟨_,rfl⟩
  obtain ⟨ada,cpa,hva⟩:=hA.slice
  obtain ⟨adb,cpb,hvb⟩:=hB.slice
  rw [← HNA.out] at hva
  rw [← HNB.out] at hvb
  subst hva hvb
  obtain ⟨gl,HGL⟩:∃ g,Hid (g = w.heap.size):=⟨_,rfl⟩
  obtain ⟨m,hm1,hm2,hm3⟩:∃ m,m ≤ na ∧ m ≤ nb ∧ (na ≤ m ∨ nb ≤ m):=⟨min na nb,by omega,by omega,by omega⟩
  have hna:na < 50000:=by rw [HNA.out];exact hl
  have HI:Hid (Rg w gl (.slice none 0 0) [] w):=by
    rw [HGL.out]
    exact ⟨World.ownsRow_nil _ _ _ _,fun q hq => by simp at hq,fun q hq => by simp at hq,List.Pairwise.nil,Below.refl _ _,Nat.le_refl _,fun _ => rfl⟩
  clear hK hA hB hl
  have emin:min (na:Int) (nb:Int) = (m:Int):=by omega
  go_enter Tryz.func38,Tryz.ntmps38
  go_wp2_with fail
  clear emin
  go_loopg [5,12] m (fun kx s5 s12 wr => ∃ (k:Nat) (v:Value) (ps:List (Nat × Lf)),s5 = v ∧ s12 = .int .i64 (k:Int) ∧ k ≤ m ∧ m - k ≤ kx ∧ Hid (Rg w gl v ps wr) ∧ Hid (ps.map (·.2) = (ds.zip es).take k))
  case atStart => exact ⟨0,_,[],rfl,rfl,by omega,by omega,HI,rfl⟩
  case round =>
    clear HI
    obtain ⟨k,v,ps,rfl,rfl,hkm,hkx,HG,HP⟩:=hrel
    obtain ⟨nv,HNV⟩:∃ z:Nat,Hid (z = ps.length):=⟨_,rfl⟩
    obtain ⟨adv,cpv,hvv⟩:=own_slice HG.out.own
    rw [← HNV.out] at hvv
    subst hvv
    have HKN:Hid (nv = k):=by
      have:=congrArg List.length HP.out
      rw [List.length_map,← HNV.out,List.length_take,List.length_zip,← HNA.out,← HNB.out] at this
      show _ = _
      omega
    by_cases hlt:k < m
    · have hltz:(k:Int) < (m:Int):=by omega
      have hkd:k < ds.length:=by rw [← HNA.out];omega
      have hke:k < es.length:=by rw [← HNB.out];omega
      obtain ⟨ba,offa,cpa',hva,hya⟩:=HRA.out.at (by omega)
      obtain ⟨bb,offb,cpb',hvb,hyb⟩:=HRB.out.at (by omega)
      simp only [Value.slice.injEq] at hva hvb
      obtain ⟨rfl,hq1,rfl⟩:=hva
      obtain ⟨rfl,hq2,rfl⟩:=hvb
      clear hq1 hq2
      obtain ⟨dx,HDX⟩:∃ d,Hid (d = ds.getD k []):=⟨_,rfl⟩
      obtain ⟨dv,HDV⟩:∃ d,Hid (d = es.getD k []):=⟨_,rfl⟩
      have HX32:Hid (dx.length = 32):=by show _ = _;rw [HDX.out];exact getD_mem32 HRA.out.2 hkd
      have HV32:Hid (dv.length = 32):=by show _ = _;rw [HDV.out];exact getD_mem32 HRB.out.2 hke
      have HXA:Hid (∀ wx,Below gl w wx → wx.rangeAt ba (offa + k * 32) (cb dx)):=fun wx hx => by
        have h:=hya k hkd
        rw [← HDX.out] at h
        exact rangeAt_below h hx (by rw [HGL.out];exact rangeAt_lt h HX32.out)
      have HXB:Hid (∀ wx,Below gl w wx → wx.rangeAt bb (offb + k * 32) (cb dv)):=fun wx hx => by
        have h:=hyb k hke
        rw [← HDV.out] at h
        exact rangeAt_below h hx (by rw [HGL.out];exact rangeAt_lt h HV32.out)
      have HZ:Hid ((ds.zip es).take (k + 1) = (ds.zip es).take k ++ [(dx,dv)]):=by show _ = _;rw [zip_take hkd hke,HDX.out,HDV.out]
      have HLL:Hid (ps.length < 2000000):=by show _ < _;have h1:=HNV.out;have h2:=HKN.out;omega
      clear hya hyb hkd hke HDX HDV
      have k0:(0:Int) ≤ (k:Int):=by omega
      have ka:(k:Int) < (na:Int):=by omega
      have kb:(k:Int) < (nb:Int):=by omega
      have rk:IntKind.i64.wrap ((k:Int) + 1) = (k:Int) + 1:=by rw [IntKind.wrap_i64];omega
      go_upto_region 5 with fail
      refine wp_region_held_drew (S:=Below gl w) (by kernel_rfl) (HG.out.next (Below.refl _ wr).drew).bel ?_
      intro hS
      have hI:=HG.out.next (Below.refl _ wr).drew
      clear HG
      change wpAnyH _ _ _ _ _ _ _ _ (World.drew wr)
      generalize World.drew wr = y0 at *
      refine wpAnyH_take (i:=0) (v:=.slice adv nv cpv) rfl (by kernel_rfl) (by kernel_rfl) (by kernel_rfl) (fun _ _ _ h => h) (Or.inl ⟨by rfl,fun wx hx => by simp [go_sem]⟩) hS ?_
      simp only [Act.put,List.getElem_toArray,List.getElem_cons_zero,List.setIfInBounds_toArray,List.set_cons_zero,List.set_cons_succ]
      refine wpAnyH_take (i:=1) (v:=.slice (some ⟨ba,offa,none⟩) na cpa) rfl (by kernel_rfl) (by kernel_rfl) (by kernel_rfl) (fun _ _ _ h => h) (Or.inl ⟨by rfl,fun wx hx => by simp [go_sem]⟩) hS ?_
      simp only [Act.put,List.getElem_toArray,List.getElem_cons_succ,List.getElem_cons_zero,List.setIfInBounds_toArray,List.set_cons_zero,List.set_cons_succ]
      refine wpAnyH_take (i:=2) (v:=.int .i64 (k:Int)) rfl (by kernel_rfl) (by kernel_rfl) (by kernel_rfl) (fun _ _ _ h => h) (Or.inl ⟨by rfl,fun wx hx => by simp [go_sem]⟩) hS ?_
      simp only [Act.put,List.getElem_toArray,List.getElem_cons_succ,List.getElem_cons_zero,List.setIfInBounds_toArray,List.set_cons_zero,List.set_cons_succ]
      refine wpAnyH_take (i:=3) (v:=.pointer (some ⟨ba,offa + k * 32,none⟩)) rfl (by kernel_rfl) (by kernel_rfl) (by kernel_rfl) (fun _ _ _ h => h) (Or.inl ⟨by rfl,fun wx hx => by (simp [go_sem,ka,k0])⟩) hS ?_
      simp only [Act.put,List.getElem_toArray,List.getElem_cons_succ,List.getElem_cons_zero,List.setIfInBounds_toArray,List.set_cons_zero,List.set_cons_succ]
      refine wpAnyH_take (i:=4) (v:=.agg (cb dx).toArray) rfl (by kernel_rfl) (by kernel_rfl) (by kernel_rfl) (fun _ _ _ h => h) (Or.inl ⟨by rfl,fun wx hx => by exact load_run 39 _ rfl _ _ rfl (cb dx) _ (HXA.out wx hx) Tryz.underlying39 rfl (by rw [cb_len,HX32.out];exact info_digest)⟩) hS ?_
      simp only [Act.put,List.getElem_toArray,List.getElem_cons_succ,List.getElem_cons_zero,List.setIfInBounds_toArray,List.set_cons_zero,List.set_cons_succ]
      refine wpAnyH_take (i:=5) (v:=.slice (some ⟨bb,offb,none⟩) nb cpb) rfl (by kernel_rfl) (by kernel_rfl) (by kernel_rfl) (fun _ _ _ h => h) (Or.inl ⟨by rfl,fun wx hx => by simp [go_sem]⟩) hS ?_
      simp only [Act.put,List.getElem_toArray,List.getElem_cons_succ,List.getElem_cons_zero,List.setIfInBounds_toArray,List.set_cons_zero,List.set_cons_succ]
      refine wpAnyH_take (i:=6) (v:=.int .i64 (k:Int)) rfl (by kernel_rfl) (by kernel_rfl) (by kernel_rfl) (fun _ _ _ h => h) (Or.inl ⟨by rfl,fun wx hx => by simp [go_sem]⟩) hS ?_
      simp only [Act.put,List.getElem_toArray,List.getElem_cons_succ,List.getElem_cons_zero,List.setIfInBounds_toArray,List.set_cons_zero,List.set_cons_succ]
      refine wpAnyH_take (i:=7) (v:=.pointer (some ⟨bb,offb + k * 32,none⟩)) rfl (by kernel_rfl) (by kernel_rfl) (by kernel_rfl) (fun _ _ _ h => h) (Or.inl ⟨by rfl,fun wx hx => by (simp [go_sem,kb,k0])⟩) hS ?_
      simp only [Act.put,List.getElem_toArray,List.getElem_cons_succ,List.getElem_cons_zero,List.setIfInBounds_toArray,List.set_cons_zero,List.set_cons_succ]
      refine wpAnyH_take (i:=8) (v:=.agg (cb dv).toArray) rfl (by kernel_rfl) (by kernel_rfl) (by kernel_rfl) (fun _ _ _ h => h) (Or.inl ⟨by rfl,fun wx hx => by exact load_run 39 _ rfl _ _ rfl (cb dv) _ (HXB.out wx hx) Tryz.underlying39 rfl (by rw [cb_len,HV32.out];exact info_digest)⟩) hS ?_
      simp only [Act.put,List.getElem_toArray,List.getElem_cons_succ,List.getElem_cons_zero,List.setIfInBounds_toArray,List.set_cons_zero,List.set_cons_succ]
      refine wpAnyH_enter 9 (by kernel_rfl) rfl (by rfl) (f:=64) (args:=#[.agg (cb dx).toArray,.agg (cb dv).toArray]) (by simp [go_sem]) (trSingle_any dx dv HX32.out HV32.out _ (HK.out.below hI.bel (by rw [HGL.out];exact HK.out.lt))) ?_
      rintro e y1 ⟨gN,rfl,hge,hcN,hbq⟩
      have hup:∀ p ∈ ps,p.1 < gN:=fun p hp => Nat.lt_of_lt_of_le (hI.leaf p hp).blk.lt hge
      have hnew:∀ j,(Value.slice adv nv cpv).ownBlock = some j → j < gN:=fun j hj => Nat.lt_of_lt_of_le (World.ownsRow.lt hI.own j hj).2 hge
      replace hI:=hI.next hbq
      refine ⟨_,rfl,hI.bel,?_⟩
      replace hS:=hI.bel
      clear hbq hge
      simp only [Act.put,List.getElem_toArray,List.getElem_cons_succ,List.getElem_cons_zero,List.setIfInBounds_toArray,List.set_cons_zero,List.set_cons_succ]
      have hn1:=hI.next (below_alloc y1 (.cells [ptr gN].toArray 35))
      have hc1:=hcN.next (below_alloc y1 (.cells [ptr gN].toArray 35))
      have hu1:Blk (y1.alloc (.cells [ptr gN].toArray 35)) y1.heap.size [ptr gN] 35:=Blk.new _ _ _
      refine wpAnyH_step 10 (.slice (some ⟨y1.heap.size,0,none⟩) 1 1) (y1.alloc (.cells [ptr gN].toArray 35)) (by kernel_rfl) rfl (by rfl) (buildP _ _ _ rfl gN rfl _) hn1.bel ?_
      simp only [Act.put,List.getElem_toArray,List.getElem_cons_succ,List.getElem_cons_zero,List.setIfInBounds_toArray,List.set_cons_zero,List.set_cons_succ]
      refine wpAnyH_law 11 (by kernel_rfl) rfl (by rfl) (wp_appendP (.tmp 15) (.tmp 25) gl (.slice adv nv cpv) ps (gN,(dx,dv)) y1.heap.size hn1 hu1 hc1 hup hnew HLL.out rfl rfl rfl ?_)
      intro z9 q9 hJ
      refine ⟨hJ.bel,?_⟩
      obtain ⟨a9,c9,hx9⟩:=own_slice hJ.own
      obtain ⟨n9,HN9⟩:∃ z:Nat,Hid (z = (ps ++ [(gN,(dx,dv))]).length):=⟨_,rfl⟩
      rw [← HN9.out] at hx9
      subst hx9
      simp only [Act.put,List.getElem_toArray,List.getElem_cons_succ,List.getElem_cons_zero,List.setIfInBounds_toArray,List.set_cons_zero,List.set_cons_succ]
      refine wpAnyH_take (i:=12) (v:=.slice a9 n9 c9) rfl (by kernel_rfl) (by kernel_rfl) (by kernel_rfl) (fun _ _ _ h => h) (Or.inl ⟨by rfl,fun wx hx => by simp [go_sem]⟩) hJ.bel ?_
      simp only [Act.put,List.getElem_toArray,List.getElem_cons_succ,List.getElem_cons_zero,List.setIfInBounds_toArray,List.set_cons_zero,List.set_cons_succ]
      refine wpAnyH_done (by kernel_rfl) ?_ _
      have HJ:Hid (Rg w gl (.slice a9 n9 c9) (ps ++ [(gN,(dx,dv))]) q9):=hJ
      clear hI hn1 hc1 hu1 hcN hup hnew hJ hS
      go_wp2_with fail
      go_roundg (m - (k + 1))
      case measure => omega
      case rel =>
        refine ⟨k + 1,_,ps ++ [(gN,(dx,dv))],rfl,by go_num,by omega,Nat.le_refl _,HJ,?_⟩
        show _ = _
        rw [List.map_append,HP.out,HZ.out]
        rfl
    · have hltz:¬ (k:Int) < (m:Int):=by omega
      have HPZ:Hid (ps.map (·.2) = ds.zip es):=by
        show _ = _
        rw [HP.out]
        refine List.take_of_length_le ?_
        rw [List.length_zip,← HNA.out,← HNB.out]
        omega
      have HBG:Hid (Below w.heap.size w wr):=by rw [← HGL.out];exact HG.out.bel
      by_cases hz:nv = 0
      · subst hz
        have hps:ps = []:=List.length_eq_zero_iff.1 HNV.out.symm
        obtain ⟨e1,e2⟩:adv = none ∧ cpv = 0:=by
          have e2:=HG.out.nil hps
          simp only [Value.slice.injEq] at e2
          exact ⟨e2.1,e2.2.2⟩
        subst e1 e2
        go_wp2_with (first
          | (go_at_call 65;refine (reverse_none _).mono ?_;rintro e w2 ⟨rfl,rfl⟩)
          | (go_at_call 66;refine (sortStable_none _ _ _).mono ?_;rintro e w2 ⟨rfl,rfl⟩)
          | (go_at_call 68;refine (compact_none _ _ _).mono ?_;rintro e w2 ⟨rfl,rfl⟩))
        go_ret
        exact ⟨none,0,0,0,[],rfl,rfl,Nat.le_refl _,Or.inl rfl,by omega,⟨fun k hk => absurd hk (Nat.not_lt_zero _),fun q hq => by simp at hq⟩,by rw [← HPZ.out,hps];rfl,HBG.out⟩
      · obtain ⟨B,hB,hgB,hrow⟩:=HG.out.row HNV.out.symm (by omega)
        subst hB
        have HRW:Hid (RowS wr B nv cpv ps):=hrow
        have hnv:nv < 50000:=by have:=HKN.out;omega
        have HGE:Hid (gl ≤ wr.heap.size):=HG.out.ge
        clear hrow HG
        go_wp2_with (first
          | (go_at_call 65;refine (row_reverse HRW.out (by omega) (by omega)).mono ?_;rintro e w2 ⟨rfl,hr1⟩
             have HR1:Hid (Rv1 wr B nv ps w2):=hr1
             clear hr1)
          | (go_at_call 66;refine (row_sort HRW.out (by omega) HR1.out).mono ?_;rintro e w3 ⟨rfl,hr1⟩
             have HR2:Hid (Rv2 wr B nv ps w3):=hr1
             clear hr1)
          | (go_at_call 68;refine (row_compact HRW.out (by omega) (by omega) HR2.out).mono ?_;rintro e w4 ⟨kk,qs,rfl,hq1,hq2,hq3,hq4,hq5⟩
             have HQ:Hid (qs.length = kk ∧ kk ≤ nv ∧ LvRow w4 B 0 qs ∧ qs.map (·.2) = ofL (ps.map (·.2)) ∧ ∀ (C:Nat) (w:World),Below C w wr → C ≤ B → C ≤ wr.heap.size → Below C w w4):=⟨hq1,hq2,hq3,hq4,hq5⟩
             clear hq1 hq2 hq3 hq4 hq5))
        go_ret
        obtain ⟨q1,q2,q3,q4,q5⟩:=HQ.out
        exact ⟨_,B,kk,cpv,qs,rfl,q1,Nat.le_trans q2 HRW.out.cap,Or.inr rfl,by omega,q3,by rw [q4,HPZ.out],q5 _ _ HBG.out (by rw [← HGL.out];exact hgB) (by rw [← HGL.out];exact HGE.out)⟩
end Go.Proofs.YtphmmnffgknkcaaGreatDoor
namespace Go.Proofs.YtphmmnffgknkcaaGreatDoor
open Go.RowKit
set_option maxRecDepth 100000
structure Wt (w:World) (d g gl:Nat) (l:List Lf) (x v:List (BitVec 8)):Prop where
  kok:KOk w
  tree:TreeIs w d g l
  leaf:TreeC w gl 1 (dig (pairB 76 x v)) x v (.pointer none) (.pointer none)
theorem Wt.next {w w':World} {d g gl:Nat} {l:List Lf} {x v:List (BitVec 8)} (h:Wt w d g gl l x v) (hb:Below w.heap.size w w'):Wt w' d g gl l x v:=
  ⟨h.kok.below hb h.kok.lt,h.tree.next hb,h.leaf.next hb⟩
theorem Wt.cnt {w:World} {d g gl:Nat} {l:List Lf} {x v:List (BitVec 8)} (h:Wt w d g gl l x v):w.cell? ⟨g,0,none⟩ = some (.int .i64 (l.length:Int)):=by
  obtain ⟨ix,vl,p,q,hc⟩:=h.tree.cells
  exact hc.cnt
end Go.Proofs.YtphmmnffgknkcaaGreatDoor
namespace Go.Proofs.YtphmmnffgknkcaaGreatDoor
open Go.RowKit
set_option maxRecDepth 100000
end Go.Proofs.YtphmmnffgknkcaaGreatDoor
namespace Go.Proofs.YtphmmnffgknkcaaGreatDoor
open Go.RowKit
set_option maxRecDepth 100000
theorem zip_okR {W:World} {vt vu:Value} {ds es:List (List (BitVec 8))} (h1:ReadsD W vt ds) (h2:ReadsD W vu es):okLf (ds.zip es):=fun _ hp => ⟨h1.2 _ (List.of_mem_zip hp).1,h2.2 _ (List.of_mem_zip hp).2⟩
set_option maxHeartbeats 1000000 in
theorem trOf_any (w:World) (vt vu:Value) (ds es:List (List (BitVec 8))) (hK:KOk w) (hA:ReadsD w vt ds) (hB:ReadsD w vu es) (hl:ds.length < 50000) :
    Calls Tryz.prog 20 #[vt,vu] w fun e w' => ∃ g,e = .returned (.pointer (some ⟨g,0,none⟩)) ∧ TT w' g (ofL (ds.zip es)) ∧ Below w.heap.size w w':=by
  have HK:Hid (KOk w):=hK
  have HG:Hid (okLf (ofL (ds.zip es)) ∧ Up (ofL (ds.zip es))):=ofL_good _ (zip_okR hA hB)
  have HR:Hid (Calls Tryz.prog 38 #[vt,vu] w fun e w' => ∃ ad B n cap qs,e = .returned (.slice ad n cap) ∧ qs.length = n ∧ n ≤ cap ∧ (n = 0 ∨ ad = some ⟨B,0,none⟩) ∧ n < 100000 ∧ LvRow w' B 0 qs ∧ qs.map (·.2) = ofL (ds.zip es) ∧ Below w.heap.size w w'):=trRising_any w vt vu ds es hK hA hB hl
  clear hK hA hB hl
  go_enter Tryz.func20,Tryz.ntmps20
  go_wp2_with (first
    | (go_at_call 38;refine HR.out.mono ?_;rintro e w1 ⟨ad,B,n,cap,qs,rfl,h1,h2,h3,h4,h5,h6,h7⟩
       have HBW:Hid (Below w.heap.size w w1):=h7
       have HC:Hid (Calls Tryz.prog 37 #[.slice ad n cap,.int .i64 ((0:Nat):Int)] w1 fun e w' => ∃ g,e = .returned (.pointer (some ⟨g,0,none⟩)) ∧ TreeIs w' 0 g (ofL (ds.zip es)) ∧ Below w1.heap.size w1 w'):=by
         have:=trBelow_any 256 0 ad B 0 n cap qs w1 (by omega) (HK.out.below h7 HK.out.lt) h5 h1 h2 h3 h4 (by rw [h6];exact fits_zero HG.out.1 HG.out.2)
         rw [h6] at this
         exact this
       clear h1 h2 h3 h4 h5 h6 h7)
    | (go_at_call 37;refine HC.out.mono ?_;rintro e w2 ⟨g,rfl,ht,hb⟩))
  go_ret
  exact ⟨g,rfl,⟨ht,HG.out⟩,HBW.out.trans (hb.mono HBW.out.size)⟩
end Go.Proofs.YtphmmnffgknkcaaGreatDoor
namespace Go.Proofs.YtphmmnffgknkcaaGreatDoor
open Go.RowKit
set_option maxRecDepth 100000
structure Mut (P:Nat → Prop) (w w':World):Prop where
  os:w'.os = w.os
  tape:w'.tape = w.tape
  output:w'.output = w.output
  size:w.heap.size ≤ w'.heap.size
  block:∀ k,k < w.heap.size → ¬ P k → w'.heap[k]? = w.heap[k]?
theorem Mut.refl (P:Nat → Prop) (w:World):Mut P w w:=⟨rfl,rfl,rfl,Nat.le_refl _,fun _ _ _ => rfl⟩
theorem Mut.trans {P P':Nat → Prop} {a b c:World} (h:Mut P a b) (hP:∀ k,k < a.heap.size → P' k → P k) (k:Mut P' b c):Mut P a c:=
  ⟨k.os.trans h.os,k.tape.trans h.tape,k.output.trans h.output,Nat.le_trans h.size k.size,fun i hi hn => (k.block i (Nat.lt_of_lt_of_le hi h.size) (fun hp => hn (hP i hi hp))).trans (h.block i hi hn)⟩
theorem Mut.mono {P P':Nat → Prop} {a b:World} (h:Mut P' a b) (hP:∀ k,k < a.heap.size → P' k → P k):Mut P a b:=⟨h.os,h.tape,h.output,h.size,fun k hk hn => h.block k hk (fun hp => hn (hP k hk hp))⟩
theorem mut_below {w w':World} (h:Below w.heap.size w w') (P:Nat → Prop):Mut P w w':=⟨h.os,h.tape,h.output,h.size,fun k hk _ => h.block k hk⟩
theorem Only.mut {g:Nat} {w w':World} (h:Only g w w') {P:Nat → Prop} (hg:P g):Mut P w w':=⟨h.os,h.tape,h.output,h.size,fun k hk hn => h.block k (fun e => hn (e ▸ hg)) hk⟩
theorem Mut.below {P:Nat → Prop} {w w':World} (h:Mut P w w') {B:Nat} (hB:B ≤ w.heap.size) (hP:∀ k,P k → B ≤ k):Below B w w':=⟨h.os,h.tape,h.output,h.size,fun k hk => h.block k (Nat.lt_of_lt_of_le hk hB) (fun hp => absurd (hP k hp) (by omega))⟩
theorem mut_grown {w w':World} {row:Option Nat} (h:w.grownBy w' row):Mut (fun k => row = some k) w w':=⟨h.os,h.tape,h.output,h.size,fun k hk hn => h.block k hk (fun e => hn e.symm)⟩
structure GrV (w:World) (v:Value) (w':World) (v':Value):Prop where
  mt:Mut (fun k => v.ownBlock = some k) w w'
  lies:∀ k,v'.ownBlock = some k → v.ownBlock = some k ∨ w.heap.size ≤ k
theorem GrV.refl (w:World) (v:Value):GrV w v w v:=⟨Mut.refl _ _,fun _ h => Or.inl h⟩
theorem GrV.of_below {w w':World} (h:Below w.heap.size w w') (v:Value):GrV w v w' v:=⟨mut_below h _,fun _ h => Or.inl h⟩
theorem GrV.trans {a b c:World} {v u x:Value} (h:GrV a v b u) (k:GrV b u c x):GrV a v c x:=
  ⟨h.mt.trans (fun i hi hp => (h.lies i hp).resolve_right (by omega)) k.mt,fun i hi => (k.lies i hi).elim (h.lies i) (fun hb => Or.inr (Nat.le_trans h.mt.size hb))⟩
theorem GrV.below {w w':World} {v v':Value} {B:Nat} (h:GrV w v w' v') (hB:B ≤ w.heap.size) (hv:∀ k,v.ownBlock = some k → B ≤ k):Below B w w':=h.mt.below hB hv
theorem GrV.other {w w':World} {v v':Value} (h:GrV w v w' v') {k:Nat} (hk:k < w.heap.size) (hn:v.ownBlock ≠ some k):w'.heap[k]? = w.heap[k]?:=h.mt.block k hk hn
theorem OwnB.sameP {w w':World} {base:Nat} {v:Value} {l:By} (h:OwnB w base v l) (hs:∀ k,v.ownBlock = some k → w'.heap[k]? = w.heap[k]?):OwnB w' base v l:=by
  rcases h with ⟨h1,⟨rfl,h2⟩ | ⟨g,cap,cur,rfl,hg,hh,h3⟩⟩
  · exact ⟨h1,Or.inl ⟨rfl,h2⟩⟩
  · exact ⟨h1,Or.inr ⟨g,cap,cur,rfl,hg,by rw [hs g rfl];exact hh,h3⟩⟩
theorem OwnB.ltP {w:World} {base:Nat} {v:Value} {l:By} (h:OwnB w base v l):∀ k,v.ownBlock = some k → base ≤ k ∧ k < w.heap.size:=World.ownsRow.lt h
theorem OwnB.next {w w':World} {base:Nat} {v:Value} {l:By} (h:OwnB w base v l) (hb:Below w.heap.size w w'):OwnB w' base v l:=h.sameP fun k hk => hb.block k (h.ltP k hk).2
theorem OwnB.formP {w:World} {base:Nat} {v:Value} {l:By} (h:OwnB w base v l):∃ a c,v = .slice a l.length c:=by
  rcases h with ⟨_,⟨rfl,h2⟩ | ⟨g',cap,cur,rfl,_⟩⟩
  · exact ⟨none,0,by rw [h2]⟩
  · exact ⟨_,_,rfl⟩
theorem Mut.blk {P:Nat → Prop} {w w':World} {g:Nat} {cs:List Value} {t:TypeId} (h:Mut P w w') (hb:Blk w g cs t) (hg:¬ P g):Blk w' g cs t:=by
  have hl:=hb.lt
  unfold Blk at hb ⊢
  rw [h.block g hl hg]
  exact hb
theorem OwnB.ne_blk {w:World} {base g:Nat} {v:Value} {l:By} {cs:List Value} {t:TypeId} (h:OwnB w base v l) (hb:Blk w g cs t) (ht:t ≠ 5):v.ownBlock ≠ some g:=by
  obtain ⟨_,h2⟩:=h
  intro hk
  rcases h2 with ⟨rfl,_⟩ | ⟨g2,cap,cur,rfl,hg,hh,_⟩
  · simp [Value.ownBlock] at hk
  · simp only [Value.ownBlock,Option.some.injEq] at hk
    subst hk
    unfold Blk at hb
    rw [hh] at hb
    simp only [Option.some.injEq,Obj.cells.injEq] at hb
    exact ht hb.2.1.symm
theorem wpSeq_appB {ops:Array Oper} {Q:Exit → Act → World → Prop} {rest:List Oper} {o:Oper} {a:Act} {w:World} (s x:Operand) (base:Nat) (v vx:Value) (l news:By)
    (hown:OwnB w base v l) (hr:Reads w vx news) (hpos:0 < news.length) (hlen:l.length + news.length ≤ 100000) (hbase:base ≤ w.heap.size)
    (ho:o.op = .call { callee:=.builtin .append,args:=#[s,x],argTypes:=#[48,48] }) (hs:a.eval s = v) (hx:a.eval x = vx) (hgd:o.guard = none)
    (h:∀ v' w',OwnB w' base v' (l ++ news) → GrV w v w' v' → wpList Tryz.prog ops Q rest (a.put o.dst v') w'):wpList Tryz.prog ops Q (o :: rest) a w:=by
  obtain ⟨i0,hi,hz0,hz1,hz2⟩:=info_parts Tryz.infob
  obtain ⟨ad,cap,rfl,hcap,hnn,hps⟩:=hr
  cases ad with
  | some ad =>
    refine wpList_append_own_at (P:=Tryz.prog) w hgd s x 48 ho base 5 i0 (.int .u8 0) 1 1 Tryz.underlying48 hi hz0 hz1 hz2 rfl (by decide) v l.length (cb l) hs hown ad news.length cap (cb news) hx (by rw [cb_len];omega) ?_ (cb_one _) (by unfold maxLen;omega) (by omega) hbase ?_
    · intro j u hj
      have hjl:j < news.length:=by have:=(List.getElem?_eq_some_iff.1 hj).1;rwa [cb_len] at this
      obtain ⟨b,off,h1,h2⟩:=hps (by omega)
      cases h1
      rw [Addr.add_mid,h2 j hjl,← hj,cb_get news j hjl]
    · intro v' w' h1 h2 _ h5
      refine h v' w' ?_ ⟨mut_grown h2,fun k hk => ?_⟩
      · have e:cb l ++ cb news = cb (l ++ news):=by simp [cb]
        rw [e] at h1
        unfold OwnB;rw [List.length_append];exact h1
      · rcases h5 with h5 | h5
        · exact Or.inl (h5 ▸ hk)
        · rw [h5] at hk;cases hk;exact Or.inr (Nat.le_refl _)
  | none => obtain ⟨b,off,h1,_⟩:=hps hpos;cases h1
theorem wpSeq_buildY {ops:Array Oper} {Q:Exit → Act → World → Prop} {rest:List Oper} {o:Oper} {a:Act} {w:World} (b:BitVec 8) (x:Operand) (hx:a.eval x = .int .u8 (b.toNat:Int)) (ho:o.op = .buildSlice 48 1 #[(0,x)]) (hw:Region.wanted o (yielded ops a.tmps) = true)
    (h:∀ g w',Blk w' g (cb [b]) 5 → w.heap.size ≤ g → Below w.heap.size w w' → wpList Tryz.prog ops Q rest (a.put o.dst (.slice (some ⟨g,0,none⟩) 1 1)) w'):wpList Tryz.prog ops Q (o :: rest) a w:=by
  refine wpSeq_val _ (w.alloc (.cells (cb [b]).toArray 5)) hw ?_ (h w.heap.size _ (Blk.new w _ 5) (Nat.le_refl _) (below_alloc _ _))
  unfold execOp
  rw [ho]
  generalize a.eval = f at hx ⊢
  simp only [List.map_toArray,List.map_cons,List.map_nil,hx]
  kernel_rfl
theorem blk_reads_y {w:World} {g:Nat} {l:By} (h:Blk w g (cb l) 5):Reads w (.slice (some ⟨g,0,none⟩) l.length l.length) l:=
  ⟨_,_,rfl,Nat.le_refl _,(fun e => by cases e),fun _ => ⟨g,0,rfl,fun j hj => by rw [Nat.zero_add,h.cell,cb_get l j hj]⟩⟩
theorem blk_own_y {w:World} {g base:Nat} {b:BitVec 8} (h:Blk w g (cb [b]) 5) (hb:base ≤ g):OwnB w base (.slice (some ⟨g,0,none⟩) 1 1) [b]:=
  ⟨rfl,Or.inr ⟨g,1,(cb [b]).toArray,rfl,hb,h,Nat.le_refl _,by unfold maxLen;omega,rfl,by simp [cb]⟩⟩
def lfC (p:Lf):List Value:=cb p.1 ++ cb p.2
def flatLf (l:List Lf):List Value:=(l.map lfC).flatten
theorem lfC_len {p:Lf} (h:p.1.length = 32 ∧ p.2.length = 32):(lfC p).length = 64:=by unfold lfC;rw [List.length_append,cb_len,cb_len,h.1,h.2]
theorem flatLf_snoc (l:List Lf) (p:Lf):flatLf (l ++ [p]) = flatLf l ++ lfC p:=by unfold flatLf;simp
def RdLv (w:World) (v:Value) (l:List Lf):Prop:=
  (∃ ad cap,v = .slice ad l.length cap ∧ l.length ≤ cap ∧ (0 < l.length → ∃ b off,ad = some ⟨b,off,none⟩ ∧ ∀ j,j < l.length → w.rangeAt b (off + j * 64) (lfC (l.getD j ([],[]))))) ∧ okLf l
theorem range_lt {w:World} {b off:Nat} {cs:List Value} (h:w.rangeAt b off cs) (hp:0 < cs.length):b < w.heap.size:=by
  have h0:=h 0 cs[0] (by rw [List.getElem?_eq_getElem hp])
  exact block_lt_of_cell h0
theorem lf_pos {l:List Lf} (h:okLf l) {j:Nat} (hj:j < l.length):(lfC (l.getD j ([],[]))).length = 64:=lfC_len (h _ (getD_mem hj))
theorem RdLv.next {w w':World} {v:Value} {l:List Lf} (h:RdLv w v l) (hb:Below w.heap.size w w'):RdLv w' v l:=by
  obtain ⟨⟨ad,cap,h1,h2,h3⟩,h4⟩:=h
  refine ⟨⟨ad,cap,h1,h2,fun hp => ?_⟩,h4⟩
  obtain ⟨b,off,h5,h6⟩:=h3 hp
  exact ⟨b,off,h5,fun j hj => rangeAt_below (h6 j hj) hb (range_lt (h6 j hj) (by rw [lf_pos h4 hj];omega))⟩
theorem RdLv.at {w:World} {v:Value} {l:List Lf} (h:RdLv w v l) (hp:0 < l.length):∃ b off cap,v = .slice (some ⟨b,off,none⟩) l.length cap ∧ l.length ≤ cap ∧ b < w.heap.size ∧ ∀ j,j < l.length → w.rangeAt b (off + j * 64) (lfC (l.getD j ([],[]))):=by
  obtain ⟨⟨ad,cap,h1,h2,h3⟩,h4⟩:=h
  obtain ⟨b,off,rfl,h6⟩:=h3 hp
  exact ⟨b,off,cap,h1,h2,range_lt (h6 0 hp) (by rw [lf_pos h4 hp];omega),h6⟩
theorem RdLv.same {w w':World} {v:Value} {l:List Lf} (h:RdLv w v l) (hs:∀ k,v.ownBlock = some k → w'.heap[k]? = w.heap[k]?):RdLv w' v l:=by
  obtain ⟨⟨ad,cap,rfl,h2,h3⟩,h4⟩:=h
  refine ⟨⟨ad,cap,rfl,h2,fun hp => ?_⟩,h4⟩
  obtain ⟨b,off,rfl,h6⟩:=h3 hp
  exact ⟨b,off,rfl,fun j hj i u hu => by rw [World.cell?_of_block (w:=w) (hs b rfl)];exact h6 j hj i u hu⟩
def RdLb (B:Nat) (w:World) (v:Value) (l:List Lf):Prop:=RdLv w v l ∧ ∀ k,v.ownBlock = some k → k < B
theorem RdLb.go {B:Nat} {w w':World} {v:Value} {l:List Lf} (h:RdLb B w v l) (hb:Below B w w'):RdLb B w' v l:=⟨h.1.same fun k hk => hb.block k (h.2 k hk),h.2⟩
theorem RdLb.next {B:Nat} {w w':World} {v:Value} {l:List Lf} (h:RdLb B w v l) (hb:Below w.heap.size w w'):RdLb B w' v l:=⟨h.1.next hb,h.2⟩
theorem RdLv.nil (w:World) (ad:Option Addr) (c:Nat):RdLv w (.slice ad 0 c) []:=⟨⟨ad,c,rfl,Nat.zero_le _,fun h => by simp at h⟩,fun _ h => by cases h⟩
theorem range_left {w:World} {b off:Nat} {cs ds:List Value} (h:w.rangeAt b off (cs ++ ds)):w.rangeAt b off cs:=fun j v hj => h j v (by rw [List.getElem?_append_left (List.getElem?_eq_some_iff.1 hj).1];exact hj)
theorem range_right {w:World} {b off n:Nat} {cs ds:List Value} (h:w.rangeAt b off (cs ++ ds)) (hn:cs.length = n):w.rangeAt b (off + n) ds:=fun j v hj => by
  have:=h (n + j) v (by rw [List.getElem?_append_right (by omega),hn,Nat.add_sub_cancel_left];exact hj)
  rw [Nat.add_assoc];exact this
def OwnLv (w:World) (base:Nat) (v:Value) (l:List Lf):Prop:=w.ownsRow base 120 64 v l.length (flatLf l) ∧ okLf l
theorem OwnLv.nil (w:World) (base:Nat):OwnLv w base (.slice none 0 0) []:=⟨World.ownsRow_nil _ _ _ _,fun _ h => by cases h⟩
theorem OwnLv.lt {w:World} {base:Nat} {v:Value} {l:List Lf} (h:OwnLv w base v l):∀ k,v.ownBlock = some k → base ≤ k ∧ k < w.heap.size:=World.ownsRow.lt h.1
theorem OwnLv.same {w w':World} {base:Nat} {v:Value} {l:List Lf} (h:OwnLv w base v l) (hs:∀ k,v.ownBlock = some k → w'.heap[k]? = w.heap[k]?):OwnLv w' base v l:=by
  rcases h with ⟨⟨h1,⟨rfl,h2⟩ | ⟨g,cap,cur,rfl,hg,hh,h3⟩⟩,h4⟩
  · exact ⟨⟨h1,Or.inl ⟨rfl,h2⟩⟩,h4⟩
  · exact ⟨⟨h1,Or.inr ⟨g,cap,cur,rfl,hg,by rw [hs g rfl];exact hh,h3⟩⟩,h4⟩
theorem OwnLv.next {w w':World} {base:Nat} {v:Value} {l:List Lf} (h:OwnLv w base v l) (hb:Below w.heap.size w w'):OwnLv w' base v l:=h.same fun k hk => hb.block k (h.lt k hk).2
theorem OwnLv.form {w:World} {base:Nat} {v:Value} {l:List Lf} (h:OwnLv w base v l):∃ ad c,v = .slice ad l.length c:=by
  rcases h.1 with ⟨_,⟨rfl,h2⟩ | ⟨g',cap,cur,rfl,_⟩⟩
  · exact ⟨none,0,by rw [h2]⟩
  · exact ⟨_,_,rfl⟩
theorem flatLf_at {l:List Lf} (h:okLf l):∀ (j i:Nat) (v:Value),j < l.length → (lfC (l.getD j ([],[])))[i]? = some v → (flatLf l)[j * 64 + i]? = some v:=by
  unfold flatLf
  induction l with
  | nil => intro j i v hj;simp at hj
  | cons d r ih =>
    intro j i v hj hv
    rw [List.map_cons,List.flatten_cons]
    have hl:(lfC d).length = 64:=lfC_len (h d (by simp))
    cases j with
    | zero =>
      rw [List.getD_cons_zero] at hv
      have hi:i < (lfC d).length:=(List.getElem?_eq_some_iff.1 hv).1
      rw [Nat.zero_mul,Nat.zero_add,List.getElem?_append_left hi,hv]
    | succ j =>
      rw [List.getD_cons_succ] at hv
      rw [List.getElem?_append_right (by rw [hl];omega),hl,show (j + 1) * 64 + i - 64 = j * 64 + i by omega]
      exact ih (fun x hx => h x (by simp [hx])) j i v (by simpa using hj) hv
theorem OwnLv.rd {w:World} {base:Nat} {v:Value} {l:List Lf} (h:OwnLv w base v l):RdLv w v l:=by
  refine ⟨?_,h.2⟩
  rcases h.1 with ⟨h1,⟨rfl,h2⟩ | ⟨g,cap,cur,rfl,hg,hh,hc,hm,hs,ht⟩⟩
  · exact ⟨none,0,by rw [h2],by omega,fun hp => by omega⟩
  · refine ⟨_,cap,rfl,hc,fun hp => ⟨g,0,rfl,fun j hj i v hv => ?_⟩⟩
    have hi:i < 64:=by have:=(List.getElem?_eq_some_iff.1 hv).1;rwa [lf_pos h.2 hj] at this
    have hf:=flatLf_at h.2 j i v hj hv
    rw [← ht,List.getElem?_take] at hf
    rw [cell_of_row w g _ cur 120 (0,0) hh,Nat.zero_add]
    rw [if_pos (by
      have:(j + 1) * 64 ≤ l.length * 64:=Nat.mul_le_mul_right 64 hj
      omega)] at hf
    simpa using hf
def OwnX (w:World) (base:Nat) (v:Value) (us:List Value):Prop:=w.ownsRow base 48 1 v us.length us
theorem OwnX.nil (w:World) (base:Nat):OwnX w base (.slice none 0 0) []:=World.ownsRow_nil _ _ _ _
theorem OwnX.lt {w:World} {base:Nat} {v:Value} {us:List Value} (h:OwnX w base v us):∀ k,v.ownBlock = some k → base ≤ k ∧ k < w.heap.size:=World.ownsRow.lt h
theorem OwnX.same {w w':World} {base:Nat} {v:Value} {us:List Value} (h:OwnX w base v us) (hs:∀ k,v.ownBlock = some k → w'.heap[k]? = w.heap[k]?):OwnX w' base v us:=by
  rcases h with ⟨h1,⟨rfl,h2⟩ | ⟨g,cap,cur,rfl,hg,hh,h3⟩⟩
  · exact ⟨h1,Or.inl ⟨rfl,h2⟩⟩
  · exact ⟨h1,Or.inr ⟨g,cap,cur,rfl,hg,by rw [hs g rfl];exact hh,h3⟩⟩
theorem OwnX.form {w:World} {base:Nat} {v:Value} {us:List Value} (h:OwnX w base v us):∃ a c,v = .slice a us.length c:=by
  rcases h with ⟨_,⟨rfl,h2⟩ | ⟨g',cap,cur,rfl,_⟩⟩
  · exact ⟨none,0,by rw [h2]⟩
  · exact ⟨_,_,rfl⟩
theorem OwnX.at {w:World} {base:Nat} {v:Value} {us:List Value} (h:OwnX w base v us) {j:Nat} {u:Value} (hj:us[j]? = some u):∃ g c,v = .slice (some ⟨g,0,none⟩) us.length c ∧ w.cell? ⟨g,j,none⟩ = some u ∧ g < w.heap.size:=by
  have hl:=(List.getElem?_eq_some_iff.1 hj).1
  rcases h with ⟨_,⟨rfl,h2⟩ | ⟨g,cap,cur,rfl,hg,hh,hc,hm,hs,ht⟩⟩
  · omega
  · refine ⟨g,cap,rfl,?_,(Array.getElem?_eq_some_iff.1 hh).1⟩
    rw [cell_of_row w g j cur 48 (0,0) hh]
    rw [Nat.mul_one] at ht
    rw [← ht,List.getElem?_take_of_lt hl] at hj
    simpa using hj
theorem OwnX.ne_bytes {w:World} {base b2:Nat} {v u:Value} {us:List Value} {l:By} (h:OwnX w base v us) (h2:OwnB w b2 u l):∀ k,v.ownBlock = some k → u.ownBlock ≠ some k:=fun k hk e => by
  rcases h with ⟨_,⟨rfl,_⟩ | ⟨g,cap,cur,rfl,_,hh,_⟩⟩
  · cases hk
  rcases h2 with ⟨_,⟨rfl,_⟩ | ⟨g2,cap2,cur2,rfl,_,hh2,_⟩⟩
  · cases e
  simp only [Value.ownBlock,Option.some.injEq] at hk e
  rw [← e] at hk
  rw [hk,hh2] at hh
  simp only [Option.some.injEq,Obj.cells.injEq] at hh
  exact absurd hh.2.1 (by decide)
theorem Tryz.infobsP:(Tryz.prog.info? 48).map (fun i => (i.zero,i.size,i.bytes)) = some (some (.slice none 0 0),1,24):=by kernel_rfl
theorem wpSeq_appX {ops:Array Oper} {Q:Exit → Act → World → Prop} {rest:List Oper} {o:Oper} {a:Act} {w:World} (s x:Operand) (base:Nat) (v u:Value) (us:List Value) (g:Nat)
    (hown:OwnX w base v us) (hu:Blk w g [u] 48) (h1:u.oneCell' = true) (hlen:us.length < 1000000) (hbase:base ≤ w.heap.size)
    (ho:o.op = .call { callee:=.builtin .append,args:=#[s,x],argTypes:=#[26,26] }) (hs:a.eval s = v) (hx:a.eval x = .slice (some ⟨g,0,none⟩) 1 1) (hgd:o.guard = none)
    (h:∀ v' w',OwnX w' base v' (us ++ [u]) → GrV w v w' v' → wpList Tryz.prog ops Q rest (a.put o.dst v') w'):wpList Tryz.prog ops Q (o :: rest) a w:=by
  obtain ⟨i0,hi,hz0,hz1,hz2⟩:=info_parts Tryz.infobsP
  refine wpList_append_own_at (P:=Tryz.prog) w hgd s x 26 ho base 48 i0 (.slice none 0 0) 1 24 Tryz.underlying26 hi hz0 hz1 hz2 rfl (by decide) v us.length us hs hown ⟨g,0,none⟩ 1 1 [u] hx rfl (fun j q hj => by rw [Addr.add_mid,Nat.zero_add,hu.cell];exact hj) (fun q hq => by rw [List.mem_singleton.1 hq];exact h1) (by unfold maxLen;omega) (by omega) hbase ?_
  intro v' w' h2 h3 _ h5
  refine h v' w' ?_ ⟨mut_grown h3,fun k hk => ?_⟩
  · unfold OwnX;rw [List.length_append];exact h2
  · rcases h5 with h5 | h5
    · exact Or.inl (h5 ▸ hk)
    · rw [h5] at hk;cases hk;exact Or.inr (Nat.le_refl _)
theorem build_x1 (f:Operand → Value) (o:Oper) (x:Operand) (ad:Option Addr) (n c:Nat) (hx:f x = .slice ad n c) (ho:o.op = .buildSlice 26 1 #[(0,x)]) (w:World):(execOp f o).run Tryz.prog w = .ok (.value (.slice (some ⟨w.heap.size,0,none⟩) 1 1)) (w.alloc (.cells [Value.slice ad n c].toArray 48)):=by
  unfold execOp
  rw [ho]
  simp only [List.map_toArray,List.map_cons,List.map_nil,hx]
  kernel_rfl
theorem wpSeq_buildX {ops:Array Oper} {Q:Exit → Act → World → Prop} {rest:List Oper} {o:Oper} {a:Act} {w:World} (x:Operand) (ad:Option Addr) (n c:Nat) (hx:a.eval x = .slice ad n c) (ho:o.op = .buildSlice 26 1 #[(0,x)]) (hw:Region.wanted o (yielded ops a.tmps) = true)
    (h:∀ g w',Blk w' g [.slice ad n c] 48 → w.heap.size ≤ g → Below w.heap.size w w' → wpList Tryz.prog ops Q rest (a.put o.dst (.slice (some ⟨g,0,none⟩) 1 1)) w'):wpList Tryz.prog ops Q (o :: rest) a w:=
  wpSeq_val _ _ hw (build_x1 _ o x ad n c hx ho w) (h _ _ (Blk.new w _ _) (Nat.le_refl _) (below_alloc w _))
theorem Reads.sameP {W W':World} {v:Value} {l:By} (h:Reads W v l) (hs:∀ k,v.ownBlock = some k → W'.heap[k]? = W.heap[k]?):Reads W' v l:=by
  obtain ⟨ad,cap,rfl,h2,h3,h4⟩:=h
  refine ⟨ad,cap,rfl,h2,h3,fun hp => ?_⟩
  obtain ⟨b,off,rfl,h5⟩:=h4 hp
  exact ⟨b,off,rfl,fun j hj => by rw [World.cell?_of_block (w:=W) (hs b rfl)];exact h5 j hj⟩
theorem Reads.nilP (W:World):Reads W (.slice none 0 0) []:=⟨none,0,rfl,Nat.le_refl _,fun _ => rfl,fun h => by simp at h⟩
theorem results_tmp2 {fn:Func} {u0 u1:Tmp} (h:fn.results = #[.tmp u0,.tmp u1]) (tmps:Array Value) (P:Program) (w:World):(results fn tmps).run P w = .ok (.tuple #[tmps.getD u0 undef,tmps.getD u1 undef]) w:=by
  simp [results,h,go_sem]
structure PgS (W:World) (base:Nat) (v:Value) (us:List Value) (ps:List By) (X:Nat → Prop):Prop where
  own:OwnX W base v us
  len:us.length = ps.length
  good:∀ j u,us[j]? = some u → Reads W u (ps.getD j []) ∧ ∀ k,u.ownBlock = some k → k < W.heap.size ∧ v.ownBlock ≠ some k ∧ ¬ X k
theorem PgS.nil (W:World) (base:Nat) (X:Nat → Prop):PgS W base (.slice none 0 0) [] [] X:=⟨OwnX.nil _ _,rfl,fun j u h => by simp at h⟩
theorem PgS.next {W W':World} {base:Nat} {v:Value} {us:List Value} {ps:List By} {X:Nat → Prop} (h:PgS W base v us ps X) (hb:Below W.heap.size W W'):PgS W' base v us ps X:=
  ⟨h.own.same fun k hk => hb.block k (h.own.lt k hk).2,h.len,fun j u hj => ⟨(h.good j u hj).1.sameP fun k hk => hb.block k ((h.good j u hj).2 k hk).1,fun k hk => ⟨Nat.lt_of_lt_of_le ((h.good j u hj).2 k hk).1 hb.size,((h.good j u hj).2 k hk).2⟩⟩⟩
theorem PgS.weak {W:World} {base:Nat} {v:Value} {us:List Value} {ps:List By} {X Y:Nat → Prop} (h:PgS W base v us ps X) (hY:∀ k,k < W.heap.size → Y k → X k):PgS W base v us ps Y:=
  ⟨h.own,h.len,fun j u hj => ⟨(h.good j u hj).1,fun k hk => ⟨((h.good j u hj).2 k hk).1,((h.good j u hj).2 k hk).2.1,fun hy => ((h.good j u hj).2 k hk).2.2 (hY k ((h.good j u hj).2 k hk).1 hy)⟩⟩⟩
theorem PgS.beside {W W':World} {base b2:Nat} {v vb vb':Value} {us:List Value} {ps:List By} {bs:By} {X:Nat → Prop} (h:PgS W base v us ps (fun k => X k ∨ vb.ownBlock = some k)) (ho:OwnB W b2 vb bs) (hg:GrV W vb W' vb'):PgS W' base v us ps (fun k => X k ∨ vb'.ownBlock = some k):=
  ⟨h.own.same fun k hk => hg.other (h.own.lt k hk).2 (h.own.ne_bytes ho k hk),h.len,fun j u hj =>
    ⟨(h.good j u hj).1.sameP fun k hk => hg.other ((h.good j u hj).2 k hk).1 fun e => ((h.good j u hj).2 k hk).2.2 (Or.inr e),fun k hk => by
      obtain ⟨h1,h2,h3⟩:=(h.good j u hj).2 k hk
      refine ⟨Nat.lt_of_lt_of_le h1 hg.mt.size,h2,fun hx => hx.elim (fun e => h3 (Or.inl e)) fun e => ?_⟩
      rcases hg.lies k e with e2 | e2
      · exact h3 (Or.inr e2)
      · omega⟩⟩
theorem PgS.more {W W':World} {base:Nat} {v v' u:Value} {us:List Value} {ps:List By} {p:By} {X:Nat → Prop} (h:PgS W base v us ps X) (ho:OwnX W' base v' (us ++ [u])) (hg:GrV W v W' v') (hu:Reads W u p) (hk:∀ k,u.ownBlock = some k → k < W.heap.size ∧ v.ownBlock ≠ some k ∧ ¬ X k):PgS W' base v' (us ++ [u]) (ps ++ [p]) X:=by
  have key:∀ {x:Value} {q:By},Reads W x q → (∀ k,x.ownBlock = some k → k < W.heap.size ∧ v.ownBlock ≠ some k ∧ ¬ X k) → Reads W' x q ∧ ∀ k,x.ownBlock = some k → k < W'.heap.size ∧ v'.ownBlock ≠ some k ∧ ¬ X k:=fun hr hx =>
    ⟨hr.sameP fun k e => hg.other (hx k e).1 (hx k e).2.1,fun k e => ⟨Nat.lt_of_lt_of_le (hx k e).1 hg.mt.size,fun e2 => by
      rcases hg.lies k e2 with e3 | e3
      · exact (hx k e).2.1 e3
      · have:=(hx k e).1;omega,(hx k e).2.2⟩⟩
  refine ⟨ho,by rw [List.length_append,List.length_append,h.len];rfl,fun j x hj => ?_⟩
  rcases Nat.lt_or_ge j us.length with hl | hl
  · rw [List.getElem?_append_left hl] at hj
    have hp:(ps ++ [p]).getD j [] = ps.getD j []:=by
      rw [List.getD_eq_getElem?_getD,List.getD_eq_getElem?_getD,List.getElem?_append_left (by rw [← h.len];exact hl)]
    rw [hp]
    exact key (h.good j x hj).1 (h.good j x hj).2
  · rw [List.getElem?_append_right hl] at hj
    have hj0:j - us.length = 0:=by have:=(List.getElem?_eq_some_iff.1 hj).1;simp at this;omega
    rw [hj0] at hj
    cases hj
    have hp:(ps ++ [p]).getD j [] = p:=by
      rw [List.getD_eq_getElem?_getD,List.getElem?_append_right (by rw [← h.len];exact hl),← h.len,hj0];rfl
    rw [hp]
    exact key hu hk
theorem PgS.put {W W':World} {base g n c k:Nat} {u:Value} {us:List Value} {ps:List By} {p:By} {X:Nat → Prop} (h:PgS W base (.slice (some ⟨g,0,none⟩) n c) us ps X) (hl:k < us.length) (ho:OwnX W' base (.slice (some ⟨g,0,none⟩) n c) (us.set k u)) (hg:Only g W W') (hu:Reads W u p) (hk:∀ k,u.ownBlock = some k → k < W.heap.size ∧ g ≠ k ∧ ¬ X k):PgS W' base (.slice (some ⟨g,0,none⟩) n c) (us.set k u) (ps.set k p) X:=by
  have key:∀ {x:Value} {q:By},Reads W x q → (∀ k,x.ownBlock = some k → k < W.heap.size ∧ g ≠ k ∧ ¬ X k) → Reads W' x q ∧ ∀ k,x.ownBlock = some k → k < W'.heap.size ∧ (Value.slice (some ⟨g,0,none⟩) n c).ownBlock ≠ some k ∧ ¬ X k:=fun hr hx =>
    ⟨hr.sameP fun k e => hg.block k (fun e2 => (hx k e).2.1 e2.symm) (hx k e).1,fun k e => ⟨Nat.lt_of_lt_of_le (hx k e).1 hg.size,fun e2 => (hx k e).2.1 (by cases e2;rfl),(hx k e).2.2⟩⟩
  refine ⟨ho,by rw [List.length_set,List.length_set,h.len],fun j x hj => ?_⟩
  rcases Nat.decEq k j with hkj | hkj
  · rw [List.getElem?_set_ne hkj] at hj
    have hp:(ps.set k p).getD j [] = ps.getD j []:=by
      rw [List.getD_eq_getElem?_getD,List.getD_eq_getElem?_getD,List.getElem?_set_ne hkj]
    rw [hp]
    exact key (h.good j x hj).1 fun i hi => ⟨((h.good j x hj).2 i hi).1,fun e => ((h.good j x hj).2 i hi).2.1 (by rw [← e];rfl),((h.good j x hj).2 i hi).2.2⟩
  · subst hkj
    rw [List.getElem?_set_self hl] at hj
    cases hj
    have hp:(ps.set k p).getD k [] = p:=by
      rw [List.getD_eq_getElem?_getD,List.getElem?_set_self (by rw [← h.len];exact hl)];rfl
    rw [hp]
    exact key hu hk
theorem PgS.readsL {W:World} {base:Nat} {v:Value} {us:List Value} {ps:List By} {X:Nat → Prop} (h:PgS W base v us ps X):ReadsL W v ps:=by
  obtain ⟨a,c,hv⟩:=h.own.form
  have hl:=h.len
  rcases h.own with ⟨_,⟨e1,h2⟩ | ⟨g,cap,cur,e1,hg,hh,hc,hm,hs,ht⟩⟩
  · have:ps = []:=List.eq_nil_of_length_eq_zero (by rw [← hl];exact h2)
    subst this
    exact ⟨none,0,e1,Nat.le_refl _,fun _ => rfl,fun hp => by simp at hp⟩
  · refine ⟨_,cap,by rw [e1,hl],by rw [← hl];exact hc,(fun e => by cases e),fun hp => ⟨g,0,rfl,fun j hj => ?_⟩⟩
    have hju:j < us.length:=by rw [hl];exact hj
    obtain ⟨g2,c2,e2,hc2,_⟩:=h.own.at (j:=j) (u:=us[j]) (by rw [List.getElem?_eq_getElem hju])
    rw [e1] at e2
    cases e2
    exact ⟨us[j],by rw [Nat.zero_add];exact hc2,(h.good j us[j] (by rw [List.getElem?_eq_getElem hju])).1⟩
theorem wpSeq_storeX {ops:Array Oper} {Q:Exit → Act → World → Prop} {rest:List Oper} {o:Oper} {a:Act} {w:World} (x y:Operand) (base g n c k:Nat) (us:List Value) (ad:Option Addr) (nn cc:Nat) (hown:OwnX w base (.slice (some ⟨g,0,none⟩) n c) us) (hk:k < us.length) (ho:o.op = .store 48 x y) (hx:a.eval x = .pointer (some ⟨g,k,none⟩)) (hy:a.eval y = .slice ad nn cc) (hw:Region.wanted o (yielded ops a.tmps) = true)
    (h:∀ w',OwnX w' base (.slice (some ⟨g,0,none⟩) n c) (us.set k (.slice ad nn cc)) → Only g w w' → wpList Tryz.prog ops Q rest (a.put o.dst undef) w'):wpList Tryz.prog ops Q (o :: rest) a w:=by
  obtain ⟨hl,⟨e1,h2⟩ | ⟨g2,cap,cur,e1,hg,hh,hc,hm,hs,ht⟩⟩:=hown
  · cases e1
  cases e1
  rw [Nat.mul_one] at hs ht
  have hb:Blk w g cur.toList 48:=by unfold Blk;rw [Array.toArray_toList];exact hh
  have hkc:k < cur.toList.length:=by rw [Array.length_toList];omega
  have hcl:w.cell? ⟨g,k,none⟩ = some cur.toList[k]:=by rw [hb.cell,List.getElem?_eq_getElem hkc]
  have hf:w.frozen? ⟨g,k,none⟩ = false:=hb.frozen k
  have he:(execOp a.eval o).run Tryz.prog w = .ok .skip (w.setCell ⟨g,k,none⟩ (.slice ad nn cc)):=by
    clear h hw
    generalize a.eval = f at hx hy ⊢
    unfold execOp
    rw [ho]
    simp [go_sem,hx,hy,hcl,hf]
  unfold wpList
  simp only [hw,if_true]
  left
  unfold Oper.wp
  rw [he,Oper.upon_skip]
  refine h _ ⟨by rw [List.length_set,Nat.mul_one],Or.inr ⟨g,c,(cur.toList.set k (.slice ad nn cc)).toArray,by rw [List.length_set],hg,hb.set k _,by rw [List.length_set];exact hc,hm,by simp [hs],?_⟩⟩ (Only.setCell (Only.refl g w) k _)
  rw [List.length_set,Nat.mul_one,List.take_set,ht]
theorem wpSeq_idxX {ops:Array Oper} {Q:Exit → Act → World → Prop} {rest:List Oper} {o:Oper} {a:Act} {w:World} (x y:Operand) (b off n c k:Nat) (hk:k < n) (ho:o.op = .indexAddr 26 x y) (hx:a.eval x = .slice (some ⟨b,off,none⟩) n c) (hy:a.eval y = .int .i64 (k:Int)) (hw:Region.wanted o (yielded ops a.tmps) = true)
    (h:wpList Tryz.prog ops Q rest (a.put o.dst (.pointer (some ⟨b,off + k,none⟩))) w):wpList Tryz.prog ops Q (o :: rest) a w:=by
  refine wpSeq_val _ _ hw ?_ h
  have i0:(0:Int) ≤ (k:Int):=by omega
  have i1:(k:Int) < (n:Int):=by omega
  unfold execOp
  generalize a.eval = f at hx hy ⊢
  simp only [ho,hx,hy]
  simp [go_sem,i0,i1]
end Go.Proofs.YtphmmnffgknkcaaGreatDoor
namespace Go.Proofs.YtphmmnffgknkcaaGreatDoor
open Go.RowKit
set_option maxRecDepth 100000
theorem arrD:WideMaps.ArrKey Tryz.prog 39 5 32:=⟨Tryz.underlying39,by kernel_rfl,by kernel_rfl,by kernel_rfl⟩
theorem kD:Maps.Keyed Tryz.prog 39:=Maps.Keyed.of_law arrD.law
theorem typesP:∃ m,Tryz.prog.types.size = m + 1:=⟨Tryz.prog.types.size - 1,by kernel_rfl⟩
theorem lits_map (cs:List Value) (f:Nat → BitVec 8) (D:Nat):∀ (L:List Nat),(∀ i ∈ L,(cs.drop (i * 1)).take 1 = [.int .u8 ((f i).toNat:Int)]) → L.mapM (fun i => Tryz.prog.keyLits (D + 1) 5 ((cs.drop (i * 1)).take 1)) = some (L.map fun i => [Lit.int .u8 ((f i).toNat:Int)])
  | [],_ => rfl
  | i :: L,h => by
    rw [List.mapM_cons,lits_map cs f D L (fun j hj => h j (List.mem_cons_of_mem _ hj)),h i (by simp)]
    have hb:=(f i).isLt
    have hw:(Lit.int .u8 ((f i).toNat:Int)).wf = true:=by simp [Lit.wf,IntKind.min,IntKind.max,IntKind.signed,IntKind.bits];omega
    simp [Program.keyLits,Tryz.underlying5,hw]
def litD (x:By):Lit:=.string (keyBytes (((List.range 32).map fun i => [Lit.int .u8 ((x.getD i 0).toNat:Int)]).flatten))
theorem keyD {x:By} (hx:x.length = 32):keyOf Tryz.prog 39 (.agg (cb x).toArray) = some (litD x):=by
  obtain ⟨m0,hm0⟩:=typesP
  have hl:=lits_map (cb x) (fun i => x.getD i 0) m0 (List.range 32) (fun i hi => by
    have hi2:i < 32:=List.mem_range.1 hi
    rw [Nat.mul_one,List.drop_eq_getElem_cons (by rw [cb_len];omega)]
    have:=cb_get x i (by omega)
    rw [List.getElem?_eq_getElem (by rw [cb_len];omega)] at this
    simp only [Option.some.injEq] at this
    rw [List.take_succ_cons,List.take_zero,this])
  unfold keyOf
  simp only [arrD.hu]
  rw [if_pos (by simp [arrD.keyType typesP,Value.formed,arrD.hu,arrD.size,cb_len,hx]),hm0]
  unfold Program.keyLits
  simp only [arrD.hu,Value.cells]
  rw [if_pos (by rw [arrD.size];simp [cb_len,hx]),arrD.one,hl]
  rfl
theorem cb_injP:∀ {x y:By},cb x = cb y → x = y
  | [],[],_ => rfl
  | [],_ :: _,h => by cases h
  | _ :: _,[],h => by cases h
  | a :: x,b :: y,h => by
    unfold cb at h
    simp only [List.map_cons,List.cons.injEq,Value.int.injEq,true_and] at h
    have e:a = b:=BitVec.eq_of_toNat_eq (by omega)
    rw [e,cb_injP h.2]
theorem litD_inj {x y:By} (hx:x.length = 32) (hy:y.length = 32) (h:litD x = litD y):x = y:=by
  have h1:=keyD hx
  rw [h] at h1
  have h2:=kD.inj h1 (keyD hy)
  simp only [Value.agg.injEq] at h2
  exact cb_injP (by simpa using h2)
theorem litDK {x:By} (hx:x.length = 32):WideAt.IsKeyLit (litD x):=kD.key (keyD hx)
structure MapP (w:World) (gm n:Nat) (F:By → Option Nat):Prop where
  ex:∃ D:DataW Unit,w.ownsMap Tryz.prog 39 (plainElem Tryz.prog 3) gm n D ∧ ∀ x:By,x.length = 32 → Maps.has D (litD x) = (F x).isSome ∧ ∀ i,F x = some i → D.atKey (litD x) (.lit (.int .i64 0)) = .lit (.int .i64 (i:Int))
theorem MapP.lt {w:World} {gm n:Nat} {F:By → Option Nat} (h:MapP w gm n F):gm < w.heap.size:=by obtain ⟨D,h1,_⟩:=h.ex;exact h1.lt
theorem MapP.same {w w':World} {gm n:Nat} {F:By → Option Nat} (h:MapP w gm n F) (e:w'.heap[gm]? = w.heap[gm]?):MapP w' gm n F:=by
  obtain ⟨D,⟨es,cl,hb,r⟩,h2⟩:=h.ex
  exact ⟨D,⟨es,cl,by rw [e];exact hb,r⟩,h2⟩
theorem MapP.next {w w':World} {gm n:Nat} {F:By → Option Nat} (h:MapP w gm n F) (hb:Below w.heap.size w w'):MapP w' gm n F:=h.same (hb.block gm h.lt)
theorem MapP.ne {w:World} {gm n:Nat} {F:By → Option Nat} (h:MapP w gm n F) {g:Nat} {cs:Array Value} {t:TypeId} {fr:Nat × Nat} (hb:w.heap[g]? = some (.cells cs t fr)):gm ≠ g:=fun e => by
  obtain ⟨D,⟨es,cl,hm,_⟩,_⟩:=h.ex
  subst e
  rw [hm] at hb
  cases hb
theorem mapP_new (w:World):MapP (w.alloc (.map #[] 0)) w.heap.size 0 (fun _ => none):=
  ⟨⟨.map [],World.ownsMap_made w _ _ _,fun _ _ => ⟨rfl,fun i h => (by cases h)⟩⟩⟩
theorem intE {i:Nat} (hi:i < 1000000000):plainElem (H:=Unit) Tryz.prog 3 (.int .i64 (i:Int)) = some (.lit (.int .i64 (i:Int)),[]):=plainElem_int Tryz.underlying3 (by simp [Lit.wf,IntKind.min,IntKind.max,IntKind.signed,IntKind.bits];omega)
theorem intE_inv {v:Value} {i:Int} {ps:List MemPlace} (h:plainElem (H:=Unit) Tryz.prog 3 v = some (.lit (.int .i64 i),ps)):v = .int .i64 i:=by
  obtain ⟨a,h1,h2,_⟩:=plainElem_int_inv Tryz.underlying3 h
  simp only [Prod.mk.injEq,DataW.lit.injEq,Lit.int.injEq,true_and] at h2
  rw [h1,h2.1]
theorem MapP.look {w:World} {gm n:Nat} {F:By → Option Nat} (h:MapP w gm n F) {x:By} (hx:x.length = 32):(Instr.lookup 52 (.map (some gm)) (.agg (cb x).toArray) true).run Tryz.prog w = .ok (.tuple #[.int .i64 (((F x).getD 0:Nat):Int),.bool (F x).isSome]) w:=by
  obtain ⟨D,h1,h2⟩:=h.ex
  obtain ⟨v,ps,hr,hv⟩:=h1.look_ok kD Tryz.underlying52 (z:=.int .i64 0) (by kernel_rfl) (intE (i:=0) (by decide)) (keyD hx)
  obtain ⟨h3,h4⟩:=h2 x hx
  rw [h3] at hr
  cases hf:F x with
  | some i =>
    have hv2:plainElem (H:=Unit) Tryz.prog 3 v = some (.lit (.int .i64 (i:Int)),ps):=by rw [← h4 i hf];exact hv
    rw [intE_inv hv2,hf] at hr
    exact hr
  | none =>
    have hn:Maps.has D (litD x) = false:=by rw [h3,hf];rfl
    rw [Maps.atKey_of_not_has hn] at hv
    have hv2:v = .int .i64 0:=intE_inv hv
    rw [hv2,hf] at hr
    exact hr
theorem mapTurned_only {w w':World} {gm:Nat} (h:w.mapTurned w' gm):Only gm w w':=by
  obtain ⟨es,cl,es',cl',hb,rfl⟩:=h
  exact ⟨rfl,rfl,rfl,by simp [ChangeMaps.setBlock],fun k hk _ => ChangeMaps.heap_setBlock_other hb _ hk⟩
theorem MapP.lay {w:World} {gm n:Nat} {F:By → Option Nat} (h:MapP w gm n F) (hn:n < 100000000) {x:By} (hx:x.length = 32) {i:Nat} (hi:i < 1000000000):∃ w',(Instr.mapUpdate 52 (.map (some gm)) (.agg (cb x).toArray) (.int .i64 (i:Int))).run Tryz.prog w = .ok () w' ∧ MapP w' gm (n + 1) (fun q => if q = x then some i else F q) ∧ Only gm w w':=by
  obtain ⟨D,h1,h2⟩:=h.ex
  have hm:=h1.isMap
  obtain ⟨w',hr,h4,h5⟩:=h1.store kD Tryz.underlying52 (by unfold maxLen;omega) (keyD hx) (intE hi)
  refine ⟨w',hr,⟨⟨_,h4,fun q hq => ?_⟩⟩,mapTurned_only h5⟩
  by_cases e:q = x
  · subst e
    refine ⟨?_,fun j hj => ?_⟩
    · rw [Maps.has_put_same hm (litDK hx)];simp
    · rw [Maps.atKey_put_same hm (litDK hx)]
      rw [if_pos rfl] at hj
      cases hj
      rfl
  · have hne:litD q ≠ litD x:=fun e2 => e (litD_inj hq hx e2)
    simp only [if_neg e]
    refine ⟨?_,fun j hj => ?_⟩
    · rw [Maps.has_put_other hne];exact (h2 q hq).1
    · rw [Maps.atKey_put_other hne];exact (h2 q hq).2 j hj
end Go.Proofs.YtphmmnffgknkcaaGreatDoor
namespace Go.Proofs.YtphmmnffgknkcaaGreatDoor
open Go.RowKit
set_option maxRecDepth 100000
theorem wpSeq_mkMapP {ops:Array Oper} {Q:Exit → Act → World → Prop} {rest:List Oper} {o:Oper} {a:Act} {w:World} (ho:o.op = .makeMap 52 none) (hw:Region.wanted o (yielded ops a.tmps) = true)
    (h:∀ gm w',MapP w' gm 0 (fun _ => none) → w.heap.size ≤ gm → Below w.heap.size w w' → wpList Tryz.prog ops Q rest (a.put o.dst (.map (some gm))) w'):wpList Tryz.prog ops Q (o :: rest) a w:=
  wpSeq_val _ _ hw (by unfold execOp;rw [ho];rfl) (h _ _ (mapP_new w) (Nat.le_refl _) (below_alloc w _))
structure PoI (w:World) (gm:Nat) (ps:List By) (k:Nat) (W:World):Prop where
  bel:Below w.heap.size w W
  ge:w.heap.size ≤ gm
  mp:MapP W gm k (plK ps k)
set_option maxHeartbeats 4000000 in
theorem pgPlaces_any (v:Value) (ps:List By) (w:World) (hK:KOk w) (hR:ReadsL w v ps) (hn:ps.length < 100000) (hb:∀ p ∈ ps,p.length < 1125899906842624) :
    Calls Tryz.prog 18 #[v] w fun e w' => ∃ gm,e = .returned (.map (some gm)) ∧ w.heap.size ≤ gm ∧ MapP w' gm ps.length (plK ps ps.length) ∧ Below w.heap.size w w':=by
  have HR:Hid (ReadsL w v ps):=hR
  have HK:Hid (KOk w):=hK
  have HB:Hid (∀ p ∈ ps,p.length < 1125899906842624):=hb
  obtain ⟨ad,cap,hv,hcap,_,_⟩:=hR
  obtain ⟨n,HNN⟩:∃ n,Hid (n = ps.length):=⟨_,rfl⟩
  rw [← HNN.out] at hv hcap hn ⊢
  subst hv
  clear hK hb
  go_enter Tryz.func18,Tryz.ntmps18
  go_wp2_with (with_reducible refine wpSeq_mkMapP ?_ ?_ ?_
               · rfl
               · rfl
               intro gm w1 hm hge hb1
               have HI0:Hid (PoI w gm ps 0 w1):=⟨hb1,hge,hm⟩
               clear hm hge hb1)
  go_loopw [9] (fun i wr => ∃ k:Nat,k ≤ n ∧ i = .int .i64 k ∧ PoI w gm ps k wr) (fun i _ => n - (intOf i).toNat)
  case atStart => exact ⟨0,by omega,rfl,HI0.out⟩
  case round =>
    obtain ⟨k,hk,rfl,hI⟩:=hrel
    have HI:Hid (PoI w gm ps k wr):=hI
    by_cases hlt:k < n
    · obtain ⟨ad',cap',hv',_,_,hx⟩:=HR.out.below hI.bel
      rw [← HNN.out] at hv' hx
      simp only [Value.slice.injEq,true_and] at hv'
      obtain ⟨rfl,rfl⟩:=hv'
      obtain ⟨b,off,rfl,hx2⟩:=hx (by omega)
      obtain ⟨vj,cj,hj⟩:=hx2 k hlt
      have HJ:Hid (Reads wr vj (ps.getD k [])):=hj
      have HKL:Hid (k < ps.length):=by show _ < _;rw [← HNN.out];exact hlt
      have HPL:Hid ((ps.getD k []).length < 2305843009213693952):=by
        show _ < _
        have hm:ps.getD k [] ∈ ps:=by rw [List.getD_eq_getElem?_getD,List.getElem?_eq_getElem HKL.out];exact List.getElem_mem _
        have:=HB.out _ hm
        omega
      obtain ⟨x,HX⟩:∃ x,Hid (x = dig (ps.getD k [])):=⟨_,rfl⟩
      have HXL:Hid (x.length = 32):=by show _ = _;rw [HX.out];exact len_dig' _
      have HKW:Hid (KOk wr):=HK.out.below hI.bel HK.out.lt
      have HPK:Hid ((fun q => if q = x then some k else plK ps k q) = plK ps (k + 1)):=by show _ = _;rw [HX.out];rfl
      clear hx hx2 hj hI
      have tk0:Hid True:=trivial
      go_wp2_with (clear tk0;go_at_call 16;refine (tOf_any vj (ps.getD k []) _ HKW.out HJ.out HPL.out).mono ?_;rintro e w2 ⟨rfl,hb2⟩
                   rw [← HX.out]
                   obtain ⟨w3,hrun,hm3,ho3⟩:=(HI.out.mp.next hb2).lay (Nat.lt_of_le_of_lt hk (Nat.lt_trans hn (by decide))) HXL.out (i:=k) (Nat.lt_of_le_of_lt hk (Nat.lt_trans hn (by decide)))
                   have HJ3:Hid (PoI w gm ps (k + 1) w3):=⟨(HI.out.bel.trans (hb2.mono HI.out.bel.size)).trans (ho3.below HI.out.ge (Nat.le_trans HI.out.bel.size hb2.size)),HI.out.ge,by rw [← HPK.out];exact hm3⟩
                   clear hb2 hm3 ho3)
      have hJ:=HJ3.out
      clear HJ3 HI HKL HPL HX HXL HKW HPK hrun
      go_roundw
      case rel => exact ⟨k + 1,by omega,by go_num,hJ⟩
      case measure => simp [intOf];omega
    · have hkn:k = n:=by omega
      subst hkn
      have HF:Hid (MapP wr gm k (plK ps k) ∧ Below w.heap.size w wr ∧ w.heap.size ≤ gm):=⟨hI.mp,hI.bel,hI.ge⟩
      clear hI HI
      go_wp2
      go_ret
      refine ⟨gm,rfl,HF.out.2.2,?_,HF.out.2.1⟩
      have h:=HF.out.1
      rw [HNN.out] at h ⊢
      exact h
end Go.Proofs.YtphmmnffgknkcaaGreatDoor
namespace Go.Proofs.YtphmmnffgknkcaaGreatDoor
open Go.RowKit
set_option maxRecDepth 100000
theorem Tryz.infoLf:(Tryz.prog.info? 120).map (fun i => (i.zero,i.size,i.bytes)) = some (some (.agg (cb zb32 ++ cb zb32).toArray),64,64):=by kernel_rfl
set_option maxHeartbeats 2000000 in
theorem pgPart1_any (b off n cap i g2 g3:Nat) (d:Nat) (x:By) (w:World) (hi:i < n) (hd:d < 256) (hx32:x.length = 32) (hR:w.rangeAt b (off + i * 64) (cb x)) (hc2:w.cell? ⟨g2,0,none⟩ = some (.slice (some ⟨b,off,none⟩) n cap)) (hc3:w.cell? ⟨g3,0,none⟩ = some (.int .i64 (d:Int))) :
    Calls Tryz.prog 94 (#[.int .i64 (i:Int)] ++ #[.pointer (some ⟨g2,0,none⟩),.pointer (some ⟨g3,0,none⟩)]) w fun e w' => e = .returned (.bool (bt x d)) ∧ Below w.heap.size w w':=by
  have HL:Hid (x.length = 32):=hx32
  have HB:Hid (bitI x (d:Int) = bt x d):=bitI_nat _ _ hd
  rw [← HB.out]
  obtain ⟨oi,HOI⟩:∃ o,Hid (o = off + i * 64):=⟨_,rfl⟩
  rw [← HOI.out] at hR
  have HX:Hid (∀ wx,Over w.drew wx → wx.rangeAt b oi (cb x)):=fun wx hx j v hj => (hx.out.cell (p:=⟨b,oi + j,none⟩) (block_lt_of_cell (hR j v hj))).trans (hR j v hj)
  have HC2:Hid (∀ wx,Over w.drew wx → wx.cell? ⟨g2,0,none⟩ = some (.slice (some ⟨b,off,none⟩) n cap)):=fun wx hx => (hx.out.cell (p:=⟨g2,0,none⟩) (block_lt_of_cell hc2)).trans hc2
  have HC3:Hid (∀ wx,Over w.drew wx → wx.cell? ⟨g3,0,none⟩ = some (.int .i64 (d:Int))):=fun wx hx => (hx.out.cell (p:=⟨g3,0,none⟩) (block_lt_of_cell hc3)).trans hc3
  clear hR hc2 hc3 HB hx32
  have i0:(0:Int) ≤ (i:Int):=by omega
  have i1:(i:Int) < (n:Int):=by omega
  have hix:∀ (a:Act) (o:Oper) (x y:Operand) (wx:World),o.op = .indexAddr 83 x y → a.eval x = .slice (some ⟨b,off,none⟩) n cap → a.eval y = .int .i64 (i:Int) → (execOp a.eval o).run Tryz.prog wx = .ok (.value (.pointer (some ⟨b,oi,none⟩))) wx:=fun a o x y wx ho h1 h2 => by
    rw [HOI.out]
    unfold execOp
    generalize a.eval = f at h1 h2 ⊢
    simp only [ho,h1,h2]
    simp [go_sem,i0,i1]
  simp only [List.append_toArray,List.cons_append,List.nil_append]
  go_enter Tryz.func94,Tryz.ntmps94
  go_wp2_with fail
  refine wp_region_held_drew (S:=Over w.drew) (by kernel_rfl) (Over.refl _) ?_
  intro hS
  refine wpAnyH_take (i:=0) (v:=.slice (some ⟨b,off,none⟩) n cap) rfl (by kernel_rfl) (by kernel_rfl) (by kernel_rfl) (fun _ _ _ h => h) (Or.inl ⟨by rfl,fun wx hx => by (have hc:=HC2.out wx hx;simp [go_sem,hc])⟩) hS ?_
  simp only [Act.put,List.getElem_toArray,List.getElem_cons_zero,List.setIfInBounds_toArray,List.set_cons_zero,List.set_cons_succ]
  refine wpAnyH_take (i:=1) (v:=.int .i64 (i:Int)) rfl (by kernel_rfl) (by kernel_rfl) (by kernel_rfl) (fun _ _ _ h => h) (Or.inl ⟨by rfl,fun wx hx => by simp [go_sem]⟩) hS ?_
  simp only [Act.put,List.getElem_toArray,List.getElem_cons_succ,List.getElem_cons_zero,List.setIfInBounds_toArray,List.set_cons_zero,List.set_cons_succ]
  refine wpAnyH_take (i:=2) (v:=.pointer (some ⟨b,oi,none⟩)) rfl (by kernel_rfl) (by kernel_rfl) (by kernel_rfl) (fun _ _ _ h => h) (Or.inl ⟨by rfl,fun wx hx => by exact hix _ _ (.tmp 5) (.tmp 6) wx rfl rfl rfl⟩) hS ?_
  simp only [Act.put,List.getElem_toArray,List.getElem_cons_succ,List.getElem_cons_zero,List.setIfInBounds_toArray,List.set_cons_zero,List.set_cons_succ]
  refine wpAnyH_take (i:=3) (v:=.pointer (some ⟨b,oi,none⟩)) rfl (by kernel_rfl) (by kernel_rfl) (by kernel_rfl) (fun _ _ _ h => h) (Or.inl ⟨by rfl,fun wx hx => by simp [go_sem]⟩) hS ?_
  simp only [Act.put,List.getElem_toArray,List.getElem_cons_succ,List.getElem_cons_zero,List.setIfInBounds_toArray,List.set_cons_zero,List.set_cons_succ]
  refine wpAnyH_take (i:=4) (v:=.agg (cb x).toArray) rfl (by kernel_rfl) (by kernel_rfl) (by kernel_rfl) (fun _ _ _ h => h) (Or.inl ⟨by rfl,fun wx hx => by exact load_run 39 _ rfl _ _ rfl (cb x) _ (HX.out wx hx) Tryz.underlying39 rfl (by rw [cb_len,HL.out];exact info_digest)⟩) hS ?_
  simp only [Act.put,List.getElem_toArray,List.getElem_cons_succ,List.getElem_cons_zero,List.setIfInBounds_toArray,List.set_cons_zero,List.set_cons_succ]
  refine wpAnyH_take (i:=5) (v:=.int .i64 (d:Int)) rfl (by kernel_rfl) (by kernel_rfl) (by kernel_rfl) (fun _ _ _ h => h) (Or.inl ⟨by rfl,fun wx hx => by (have hc:=HC3.out wx hx;simp [go_sem,hc])⟩) hS ?_
  simp only [Act.put,List.getElem_toArray,List.getElem_cons_succ,List.getElem_cons_zero,List.setIfInBounds_toArray,List.set_cons_zero,List.set_cons_succ]
  refine wpAnyH_enter 6 (by kernel_rfl) rfl (by rfl) (f:=62) (args:=#[.agg (cb x).toArray,.int .i64 (d:Int)]) (by simp [go_sem]) (pBit_any x HL.out _ _) ?_
  rintro e wy ⟨rfl,hbq⟩
  refine ⟨_,rfl,hS.more hbq,?_⟩
  replace hS:=hS.more hbq
  clear hbq
  simp only [Act.put,List.getElem_toArray,List.getElem_cons_succ,List.getElem_cons_zero,List.setIfInBounds_toArray,List.set_cons_zero,List.set_cons_succ]
  refine wpAnyH_take (i:=7) (v:=.bool (bitI x (d:Int))) rfl (by kernel_rfl) (by kernel_rfl) (by kernel_rfl) (fun _ _ _ h => h) (Or.inl ⟨by rfl,fun wx hx => by simp [go_sem]⟩) hS ?_
  simp only [Act.put,List.getElem_toArray,List.getElem_cons_succ,List.getElem_cons_zero,List.setIfInBounds_toArray,List.set_cons_zero,List.set_cons_succ]
  refine wpAnyH_done (by kernel_rfl) ?_ _
  go_wp2_with fail
  go_ret
  exact ⟨rfl,hS.after (Below.refl _ w).drew⟩
theorem lfLo (b off n cap k:Nat) (h:k ≤ cap) (w:World):(Instr.sliceAt 83 (.slice (some ⟨b,off,none⟩) n cap) none (some (.int .i64 (k:Int))) none).run Tryz.prog w = .ok (.slice (some ⟨b,off,none⟩) k cap) w:=by
  have hs:(sizeOf 120).run Tryz.prog w = .ok 64 w:=by kernel_rfl
  rw [run_sliceAt_slice w 83 _ _ _ _ (by kernel_rfl),run_slice_h w 83 _ _ _ (by kernel_rfl) .i64 _ (by omega) (by omega)]
  rw [show Tryz.prog.elem 83 = 120 from by kernel_rfl,hs]
  simp only [Result.andThen_ok,sliced,Int.toNat_natCast,Option.map_some]
  split <;> simp [Addr.add_mid]
theorem lfHi (b off n cap k:Nat) (h:k ≤ n) (w:World):(Instr.sliceAt 83 (.slice (some ⟨b,off,none⟩) n cap) (some (.int .i64 (k:Int))) none none).run Tryz.prog w = .ok (.slice (some ⟨b,if cap = k then off else off + k * 64,none⟩) (n - k) (cap - k)) w:=by
  have hs:(sizeOf 120).run Tryz.prog w = .ok 64 w:=by kernel_rfl
  rw [run_sliceAt_slice w 83 _ _ _ _ (by kernel_rfl),run_slice_l w 83 _ _ _ (by kernel_rfl) .i64 _ (by omega) (by omega)]
  rw [show Tryz.prog.elem 83 = 120 from by kernel_rfl,hs]
  simp only [Result.andThen_ok,sliced,Int.toNat_natCast,Option.map_some]
  split <;> simp [Addr.add_mid]
theorem RdLv.take {w:World} {b off n cap:Nat} {l:List Lf} (h:RdLv w (.slice (some ⟨b,off,none⟩) n cap) l) (k:Nat) (hk:k ≤ l.length):RdLv w (.slice (some ⟨b,off,none⟩) k cap) (l.take k):=by
  obtain ⟨⟨ad,cp,h1,h2,h3⟩,h4⟩:=h
  simp only [Value.slice.injEq] at h1
  obtain ⟨rfl,rfl,rfl⟩:=h1
  refine ⟨⟨_,cap,by rw [List.length_take,Nat.min_eq_left hk],by rw [List.length_take];omega,fun hp => ⟨b,off,rfl,fun j hj => ?_⟩⟩,fun p hp => h4 p (List.mem_of_mem_take hp)⟩
  rw [List.length_take] at hj hp
  obtain ⟨b2,off2,e,h6⟩:=h3 (by omega)
  cases e
  have:=h6 j (by omega)
  rw [List.getD_eq_getElem?_getD] at this ⊢
  rw [List.getElem?_take_of_lt (by omega)]
  exact this
theorem RdLv.drop {w:World} {b off n cap:Nat} {l:List Lf} (h:RdLv w (.slice (some ⟨b,off,none⟩) n cap) l) (k o:Nat) (hk:k ≤ l.length) (ho:k < l.length → o = off + k * 64):RdLv w (.slice (some ⟨b,o,none⟩) (n - k) (cap - k)) (l.drop k):=by
  obtain ⟨⟨ad,cp,h1,h2,h3⟩,h4⟩:=h
  simp only [Value.slice.injEq] at h1
  obtain ⟨rfl,rfl,rfl⟩:=h1
  refine ⟨⟨_,cap - k,by rw [List.length_drop],by rw [List.length_drop];omega,fun hp => ⟨b,o,rfl,fun j hj => ?_⟩⟩,fun p hp => h4 p (List.mem_of_mem_drop hp)⟩
  rw [List.length_drop] at hj hp
  obtain ⟨b2,off2,e,h6⟩:=h3 (by omega)
  cases e
  have:=h6 (k + j) (by omega)
  rw [ho (by omega),Nat.add_assoc,← Nat.add_mul]
  rw [List.getD_eq_getElem?_getD] at this ⊢
  rw [List.getElem?_drop]
  exact this
set_option maxHeartbeats 8000000 in
theorem pgPart_any (B:Nat) (v:Value) (l:List Lf) (d:Nat) (w:World) (hRB:RdLb B w v l) (hF:Fits l d) (hd:d < 256) (hp:0 < l.length) (hl:l.length < 100000) :
    Calls Tryz.prog 71 #[v,.int .i64 (d:Int)] w fun e w' => ∃ v0 v1,e = .returned (.tuple #[v0,v1]) ∧ RdLb B w' v0 (halfL l d false) ∧ RdLb B w' v1 (halfL l d true) ∧ Below w.heap.size w w':=by
  have hR:=hRB.1
  obtain ⟨b,off,cap,hv,hcap,_,_⟩:=hR.at hp
  have hbB:b < B:=hRB.2 b (by rw [hv];rfl)
  clear hRB
  obtain ⟨n,HN⟩:∃ n,Hid (n = l.length):=⟨_,rfl⟩
  rw [← HN.out] at hv hcap hl
  subst hv
  obtain ⟨gl,HGL⟩:∃ g,Hid (g = w.heap.size):=⟨_,rfl⟩
  obtain ⟨wB,HWB⟩:∃ z,Hid (z = (w.alloc (.cells #[.slice (some ⟨b,off,none⟩) n cap] 83)).alloc (.cells #[.int .i64 (d:Int)] 3)):=⟨_,rfl⟩
  have HBW:Hid (Below w.heap.size w wB):=by rw [HWB.out];exact ((Below.refl _ w).alloc (Nat.le_refl _) _).alloc (by simp) _
  have HR:Hid (RdLv wB (.slice (some ⟨b,off,none⟩) n cap) l):=hR.next HBW.out
  have c2:wB.cell? ⟨gl,0,none⟩ = some (.slice (some ⟨b,off,none⟩) n cap):=by rw [HWB.out,HGL.out];simp
  have c3:wB.cell? ⟨gl + 1,0,none⟩ = some (.int .i64 (d:Int)):=by rw [HWB.out,HGL.out];simp
  have HC2:Hid (∀ wx,Over wB wx → wx.cell? ⟨gl,0,none⟩ = some (.slice (some ⟨b,off,none⟩) n cap)):=fun wx hx => (hx.out.cell (p:=⟨gl,0,none⟩) (block_lt_of_cell c2)).trans c2
  have HC3:Hid (∀ wx,Over wB wx → wx.cell? ⟨gl + 1,0,none⟩ = some (.int .i64 (d:Int))):=fun wx hx => (hx.out.cell (p:=⟨gl + 1,0,none⟩) (block_lt_of_cell c3)).trans c3
  have HSE:Hid (Calls Tryz.prog 60 #[.int .i64 (n:Int),.func (.func 94) #[] #[.pointer (some ⟨gl,0,none⟩),.pointer (some ⟨gl + 1,0,none⟩)]] wB fun e w' => ∃ k:Nat,e = .returned (.int .i64 (k:Int)) ∧ k ≤ n ∧ (k = 0 ∨ bt (l.getD (k - 1) ([],[])).1 d = false) ∧ (k = n ∨ bt (l.getD k ([],[])).1 d = true) ∧ Below wB.heap.size wB w'):=
    soSearch_any n 94 _ (fun i => bt (l.getD i ([],[])).1 d) wB (enters_of Tryz.func94 (by kernel_rfl) rfl) (by omega) fun W i hW hi => by
      have hq:=HR.out.next hW.out
      obtain ⟨b2,off2,cap2,e,_,_,h6⟩:=hq.at hp
      simp only [Value.slice.injEq,Option.some.injEq,Addr.mk.injEq] at e
      obtain ⟨⟨rfl,rfl,_⟩,_,rfl⟩:=e
      have hi2:i < l.length:=by rw [← HN.out];exact hi
      exact pgPart1_any b off n cap i gl (gl + 1) d _ W hi hd (hq.2 _ (getD_mem hi2)).1 (range_left (h6 i hi2)) (HC2.out W hW) (HC3.out W hW)
  have HFI:Hid (Fits l d):=hF
  clear hF hR
  go_enter Tryz.func71,Tryz.ntmps71
  go_upto_region 1 with fail
  rw [← HWB.out]
  have e0:(some ⟨w.heap.size,0,none⟩:Option Addr) = some ⟨gl,0,none⟩:=by rw [HGL.out]
  have e1:(some ⟨w.heap.size + 1,0,none⟩:Option Addr) = some ⟨gl + 1,0,none⟩:=by rw [HGL.out]
  simp only [e0,e1]
  clear e0 e1
  go_upto_region 2 with (go_at_call 60;refine HSE.out.mono ?_;rintro e w1 ⟨k,rfl,hkn,hk1,hk2,hb1⟩
                         have HO:Hid (Over wB w1):=hb1
                         have HK1:Hid (k = 0 ∨ bt (l.getD (k - 1) ([],[])).1 d = false):=hk1
                         have HK2:Hid (k = n ∨ bt (l.getD k ([],[])).1 d = true):=hk2
                         clear hb1 hk1 hk2 c2 c3 HSE)
  have HSP:Hid (l.take k = halfL l d false ∧ l.drop k = halfL l d true):=by
    have hm:(l.map fun p => ((0,p):Nat × Lf)).map (·.2) = l:=by rw [List.map_map];exact List.map_id _
    have hgd:∀ j,j < l.length → ((l.map fun p => ((0,p):Nat × Lf)).getD j default).2 = l.getD j ([],[]):=fun j hj => by
      rw [List.getD_eq_getElem?_getD,List.getD_eq_getElem?_getD,List.getElem?_map,List.getElem?_eq_getElem hj];rfl
    have:=search_half (ps:=l.map fun p => ((0,p):Nat × Lf)) (d:=d) (k:=k) (by rw [hm];exact HFI.out) (by rw [List.length_map,← HN.out];exact hkn) (by
      rcases HK1.out with h | h
      · exact Or.inl h
      · rcases Nat.eq_zero_or_pos k with h0 | h0
        · exact Or.inl h0
        · exact Or.inr (by rw [hgd (k - 1) (by rw [← HN.out];omega)];exact h)) (by
      rcases HK2.out with h | h
      · exact Or.inl (by rw [List.length_map,← HN.out];exact h)
      · rcases Nat.lt_or_ge k n with h0 | h0
        · exact Or.inr (by rw [hgd k (by rw [← HN.out];omega)];exact h)
        · exact Or.inl (by rw [List.length_map,← HN.out];omega))
    rw [List.map_take,List.map_drop,hm] at this
    exact this
  have HO1:Hid (∀ wx,Over w1.drew wx → Over wB wx):=fun wx hx => (HO.out.more (Below.refl _ w1).drew).more hx.out
  obtain ⟨o2,HO2⟩:∃ o,Hid (o = if cap = k then off else off + k * 64):=⟨_,rfl⟩
  have hsl:=lfLo b off n cap k (by omega)
  have hsh:=lfHi b off n cap k hkn
  rw [← HO2.out] at hsh
  obtain ⟨n2,HN2⟩:∃ x,Hid (x = n - k):=⟨_,rfl⟩
  obtain ⟨cap2,HCAP2⟩:∃ x,Hid (x = cap - k):=⟨_,rfl⟩
  rw [← HN2.out,← HCAP2.out] at hsh
  refine wp_region_held_drew (S:=Over w1.drew) (by kernel_rfl) (Over.refl _) ?_
  intro hS
  refine wpAnyH_take (i:=0) (v:=.slice (some ⟨b,off,none⟩) n cap) rfl (by kernel_rfl) (by kernel_rfl) (by kernel_rfl) (fun _ _ _ h => h) (Or.inl ⟨by rfl,fun wx hx => by (have hc:=HC2.out wx (HO1.out wx hx);simp [go_sem,hc])⟩) hS ?_
  simp only [Act.put,List.getElem_toArray,List.getElem_cons_zero,List.setIfInBounds_toArray,List.set_cons_zero,List.set_cons_succ]
  refine wpAnyH_take (i:=1) (v:=.int .i64 (k:Int)) rfl (by kernel_rfl) (by kernel_rfl) (by kernel_rfl) (fun _ _ _ h => h) (Or.inl ⟨by rfl,fun wx hx => by simp [go_sem]⟩) hS ?_
  simp only [Act.put,List.getElem_toArray,List.getElem_cons_succ,List.getElem_cons_zero,List.setIfInBounds_toArray,List.set_cons_zero,List.set_cons_succ]
  refine wpAnyH_take (i:=2) (v:=.slice (some ⟨b,off,none⟩) k cap) rfl (by kernel_rfl) (by kernel_rfl) (by kernel_rfl) (fun _ _ _ h => h) (Or.inl ⟨by rfl,fun wx hx => by simp [execOp,Act.eval,hsl]⟩) hS ?_
  simp only [Act.put,List.getElem_toArray,List.getElem_cons_succ,List.getElem_cons_zero,List.setIfInBounds_toArray,List.set_cons_zero,List.set_cons_succ]
  refine wpAnyH_take (i:=3) (v:=.slice (some ⟨b,off,none⟩) n cap) rfl (by kernel_rfl) (by kernel_rfl) (by kernel_rfl) (fun _ _ _ h => h) (Or.inl ⟨by rfl,fun wx hx => by (have hc:=HC2.out wx (HO1.out wx hx);simp [go_sem,hc])⟩) hS ?_
  simp only [Act.put,List.getElem_toArray,List.getElem_cons_succ,List.getElem_cons_zero,List.setIfInBounds_toArray,List.set_cons_zero,List.set_cons_succ]
  refine wpAnyH_take (i:=4) (v:=.int .i64 (k:Int)) rfl (by kernel_rfl) (by kernel_rfl) (by kernel_rfl) (fun _ _ _ h => h) (Or.inl ⟨by rfl,fun wx hx => by simp [go_sem]⟩) hS ?_
  simp only [Act.put,List.getElem_toArray,List.getElem_cons_succ,List.getElem_cons_zero,List.setIfInBounds_toArray,List.set_cons_zero,List.set_cons_succ]
  refine wpAnyH_take (i:=5) (v:=.slice (some ⟨b,o2,none⟩) n2 cap2) rfl (by kernel_rfl) (by kernel_rfl) (by kernel_rfl) (fun _ _ _ h => h) (Or.inl ⟨by rfl,fun wx hx => by simp [execOp,Act.eval,hsh]⟩) hS ?_
  simp only [Act.put,List.getElem_toArray,List.getElem_cons_succ,List.getElem_cons_zero,List.setIfInBounds_toArray,List.set_cons_zero,List.set_cons_succ]
  refine wpAnyH_take (i:=6) (v:=.slice (some ⟨b,off,none⟩) k cap) rfl (by kernel_rfl) (by kernel_rfl) (by kernel_rfl) (fun _ _ _ h => h) (Or.inl ⟨by rfl,fun wx hx => by simp [go_sem]⟩) hS ?_
  simp only [Act.put,List.getElem_toArray,List.getElem_cons_succ,List.getElem_cons_zero,List.setIfInBounds_toArray,List.set_cons_zero,List.set_cons_succ]
  refine wpAnyH_take (i:=7) (v:=.slice (some ⟨b,o2,none⟩) n2 cap2) rfl (by kernel_rfl) (by kernel_rfl) (by kernel_rfl) (fun _ _ _ h => h) (Or.inl ⟨by rfl,fun wx hx => by simp [go_sem]⟩) hS ?_
  simp only [Act.put,List.getElem_toArray,List.getElem_cons_succ,List.getElem_cons_zero,List.setIfInBounds_toArray,List.set_cons_zero,List.set_cons_succ]
  refine wpAnyH_done (by kernel_rfl) ?_ _
  go_wp2_with fail
  refine bodyPost_ret (results_tmp2 rfl _ _ _) rfl ?_
  have hkl:k ≤ l.length:=by rw [← HN.out];exact hkn
  have hr:=HR.out.next (HO1.out _ hS).out
  refine ⟨_,_,rfl,?_,?_,(HO1.out _ hS).after HBW.out⟩
  · rw [← HSP.out.1];exact ⟨hr.take k hkl,fun j hj => by cases hj;exact hbB⟩
  · rw [← HSP.out.2,HN2.out,HCAP2.out];exact ⟨hr.drop k o2 hkl (fun h => by rw [HO2.out,if_neg (by have:=HN.out;omega)]),fun j hj => by cases hj;exact hbB⟩
end Go.Proofs.YtphmmnffgknkcaaGreatDoor
namespace Go.Proofs.YtphmmnffgknkcaaGreatDoor
open Go.RowKit
set_option maxRecDepth 100000
def PieceR (bs wh r:By):Prop:=(bs.length + wh.length ≤ 512 → r = bs ++ wh) ∧ (512 < bs.length + wh.length → 512 < r.length) ∧ r.length ≤ 577
def PcDoes (d:Nat):Prop:=∀ (base:Nat) (vl:Value) (l:List Lf) (vb:Value) (bs:By) (w:World),Fits l d → RdLb base w vl l → OwnB w base vb bs → base ≤ w.heap.size → l.length < 100000 → bs.length ≤ 577 →
  Calls Tryz.prog 70 #[vb,vl,.int .i64 (d:Int)] w fun e w' => ∃ v' r,e = .returned v' ∧ OwnB w' base v' r ∧ GrV w vb w' v' ∧ PieceR bs (wholeL d l) r
theorem piece_two {bs a b r1 r2:By} (h1:PieceR (bs ++ [2]) a r1) (h2:PieceR r1 b r2):PieceR bs (2 :: (a ++ b)) r2:=by
  obtain ⟨p1,q1,s1⟩:=h1
  obtain ⟨p2,q2,s2⟩:=h2
  simp only [List.length_append,List.length_cons,List.length_nil] at p1 q1
  refine ⟨fun h => ?_,fun h => ?_,s2⟩
  · simp only [List.length_append,List.length_cons] at h
    have e1:=p1 (by omega)
    have e2:=p2 (by rw [e1];simp only [List.length_append,List.length_cons,List.length_nil];omega)
    rw [e2,e1]
    simp
  · simp only [List.length_append,List.length_cons] at h
    rcases Nat.lt_or_ge 512 (bs.length + 1 + a.length) with hc | hc
    · have:=q1 (by omega)
      exact q2 (by omega)
    · have e1:=p1 (by omega)
      exact q2 (by rw [e1];simp only [List.length_append,List.length_cons,List.length_nil];omega)
theorem reads_dig_at {w:World} {g o:Nat} {x:By} (hx:x.length = 32) (h:w.rangeAt g o (cb x)):Reads w (.slice (some ⟨g,o,none⟩) 32 32) x:=
  ⟨_,32,by rw [hx],by omega,(fun e => by cases e),fun _ => ⟨g,o,rfl,fun j hj => h j _ (cb_get x j hj)⟩⟩
theorem pgPiece_stop (a:Option Addr) (n c:Nat) (vl:Value) (d:Nat) (w:World) (hn:512 < n):Calls Tryz.prog 70 #[.slice a n c,vl,.int .i64 (d:Int)] w fun e w' => e = .returned (.slice a n c) ∧ w' = w:=by
  have h1:(512:Int) < (n:Int):=by omega
  go_enter Tryz.func70,Tryz.ntmps70
  go_wp2
  go_ret
  exact ⟨rfl,rfl⟩
set_option maxHeartbeats 2000000 in
theorem pgPiece_nil (base:Nat) (a al:Option Addr) (n c cl:Nat) (bs:By) (d:Nat) (w:World) (ho:OwnB w base (.slice a n c) bs) (hb:base ≤ w.heap.size) (hn:bs.length = n) (hn2:n ≤ 512) :
    Calls Tryz.prog 70 #[.slice a n c,.slice al 0 cl,.int .i64 (d:Int)] w fun e w' => ∃ v' r,e = .returned v' ∧ OwnB w' base v' r ∧ GrV w (.slice a n c) w' v' ∧ PieceR bs [0] r:=by
  have h1:¬ (512:Int) < (n:Int):=by omega
  have HO:Hid (OwnB w base (.slice a n c) bs):=ho
  have HL:Hid (bs.length = n):=hn
  have HB:Hid (base ≤ w.heap.size):=hb
  have Q1:Hid (0 < ([0]:By).length ∧ bs.length + ([0]:By).length ≤ 100000):=⟨Nat.zero_lt_one,by rw [hn];simp;omega⟩
  clear ho hn hb
  go_enter Tryz.func70,Tryz.ntmps70
  have tk0:Hid True:=trivial
  have tk1:Hid True:=trivial
  go_wp2_with (first
    | (clear tk0;with_reducible refine wpSeq_buildY 0 (.const (.int .u8 0)) ?_ ?_ ?_ ?_
       · rfl
       · rfl
       · rfl
       intro g1 w1 hy1 hg1 hb1
       have HY:Hid (Reads w1 (.slice (some ⟨g1,0,none⟩) 1 1) [0]):=blk_reads_y hy1
       replace HO:Hid (OwnB w1 base (.slice a n c) bs):=HO.out.next hb1
       have HG:Hid (GrV w (.slice a n c) w1 (.slice a n c)):=GrV.of_below hb1 _
       have HS:Hid (w.heap.size ≤ w1.heap.size):=hb1.size
       clear hy1 hg1 hb1)
    | (clear tk1;with_reducible refine wpSeq_appB (.tmp 17) (.tmp 18) base (.slice a n c) (.slice (some ⟨g1,0,none⟩) 1 1) bs [0] HO.out HY.out Q1.out.1 Q1.out.2 (Nat.le_trans HB.out HS.out) ?_ ?_ ?_ ?_ ?_
       · rfl
       · rfl
       · rfl
       · rfl
       intro v2 w2 ho2 hg2
       have HO2:Hid (OwnB w2 base v2 (bs ++ [0])):=ho2
       replace HG:Hid (GrV w (.slice a n c) w2 v2):=HG.out.trans hg2
       clear ho2 hg2))
  go_ret
  exact ⟨v2,rfl,bs ++ [0],HO2.out,HG.out,fun _ => rfl,fun h => by simpa using h,by rw [List.length_append,HL.out];simp;omega⟩
set_option maxHeartbeats 4000000 in
theorem pgPiece_one (base:Nat) (a:Option Addr) (n c b off cl:Nat) (bs:By) (p:Lf) (d:Nat) (w:World) (ho:OwnB w base (.slice a n c) bs) (hb:base ≤ w.heap.size) (hn:bs.length = n) (hn2:n ≤ 512) (hR:RdLb base w (.slice (some ⟨b,off,none⟩) 1 cl) [p]) :
    Calls Tryz.prog 70 #[.slice a n c,.slice (some ⟨b,off,none⟩) 1 cl,.int .i64 (d:Int)] w fun e w' => ∃ v' r,e = .returned v' ∧ OwnB w' base v' r ∧ GrV w (.slice a n c) w' v' ∧ PieceR bs (1 :: (p.1 ++ p.2)) r:=by
  have h1:¬ (512:Int) < (n:Int):=by omega
  obtain ⟨x,u⟩:=p
  have HX:Hid (x.length = 32):=(hR.1.2 (x,u) (by simp)).1
  have HU:Hid (u.length = 32):=(hR.1.2 (x,u) (by simp)).2
  have HO:Hid (OwnB w base (.slice a n c) bs):=ho
  have HL:Hid (bs.length = n):=hn
  have HB:Hid (base ≤ w.heap.size):=hb
  have HR:Hid (RdLb base w (.slice (some ⟨b,off,none⟩) 1 cl) [(x,u)]):=hR
  have HRX:Hid (∀ W,RdLb base W (.slice (some ⟨b,off,none⟩) 1 cl) [(x,u)] → Reads W (.slice (some ⟨b,off,none⟩) 32 32) x ∧ Reads W (.slice (some ⟨b,off + 32,none⟩) 32 32) u):=fun W h => by
    obtain ⟨b2,off2,c2,e,_,_,h6⟩:=h.1.at (by simp)
    simp only [Value.slice.injEq,Option.some.injEq,Addr.mk.injEq] at e
    obtain ⟨⟨rfl,rfl,_⟩,_,rfl⟩:=e
    have h7:=h6 0 (by simp)
    rw [Nat.zero_mul,Nat.add_zero,List.getD_cons_zero] at h7
    exact ⟨reads_dig_at HX.out (range_left h7),reads_dig_at HU.out (range_right h7 (by rw [cb_len,HX.out]))⟩
  have hs1:=slice_dig_at b off
  have hs2:=slice_dig_at b (off + 32)
  have Q1:Hid (0 < ([1]:By).length ∧ bs.length + ([1]:By).length ≤ 100000):=⟨Nat.zero_lt_one,by rw [hn];simp;omega⟩
  have Q2:Hid (0 < x.length ∧ (bs ++ [1]).length + x.length ≤ 100000):=⟨by rw [HX.out];decide,by rw [List.length_append,hn,HX.out];simp;omega⟩
  have Q3:Hid (0 < u.length ∧ (bs ++ [1] ++ x).length + u.length ≤ 100000):=⟨by rw [HU.out];decide,by rw [List.length_append,List.length_append,hn,HX.out,HU.out];simp;omega⟩
  clear ho hn hb hR
  go_enter Tryz.func70,Tryz.ntmps70
  have tk0:Hid True:=trivial
  have tk1:Hid True:=trivial
  have tk2:Hid True:=trivial
  have tk3:Hid True:=trivial
  go_wp2_with (first
    | (clear tk0;with_reducible refine wpSeq_buildY 1 (.const (.int .u8 1)) ?_ ?_ ?_ ?_
       · rfl
       · rfl
       · rfl
       intro g1 w1 hy1 hg1 hb1
       have HY:Hid (Reads w1 (.slice (some ⟨g1,0,none⟩) 1 1) [1]):=blk_reads_y hy1
       replace HO:Hid (OwnB w1 base (.slice a n c) bs):=HO.out.next hb1
       replace HR:Hid (RdLb base w1 (.slice (some ⟨b,off,none⟩) 1 cl) [(x,u)]):=HR.out.next hb1
       have HG:Hid (GrV w (.slice a n c) w1 (.slice a n c)):=GrV.of_below hb1 _
       replace HB:Hid (base ≤ w1.heap.size):=Nat.le_trans HB.out hb1.size
       clear hy1 hg1 hb1)
    | (clear tk1;with_reducible refine wpSeq_appB (.tmp 22) (.tmp 23) base (.slice a n c) (.slice (some ⟨g1,0,none⟩) 1 1) bs [1] HO.out HY.out Q1.out.1 Q1.out.2 HB.out ?_ ?_ ?_ ?_ ?_
       · rfl
       · rfl
       · rfl
       · rfl
       intro v2 w2 ho hg
       have HO2:Hid (OwnB w2 base v2 (bs ++ [1])):=ho
       replace HR:Hid (RdLb base w2 (.slice (some ⟨b,off,none⟩) 1 cl) [(x,u)]):=HR.out.go (hg.below HB.out fun k hk => (HO.out.ltP k hk).1)
       replace HG:Hid (GrV w (.slice a n c) w2 v2):=HG.out.trans hg
       replace HB:Hid (base ≤ w2.heap.size):=Nat.le_trans HB.out hg.mt.size
       clear ho hg)
    | (clear tk2;with_reducible refine wpSeq_appB (.tmp 25) (.tmp 29) base v2 (.slice (some ⟨b,off,none⟩) 32 32) (bs ++ [1]) x HO2.out (HRX.out _ HR.out).1 Q2.out.1 Q2.out.2 HB.out ?_ ?_ ?_ ?_ ?_
       · rfl
       · rfl
       · rfl
       · rfl
       intro v3 w3 ho hg
       have HO3:Hid (OwnB w3 base v3 (bs ++ [1] ++ x)):=ho
       replace HR:Hid (RdLb base w3 (.slice (some ⟨b,off,none⟩) 1 cl) [(x,u)]):=HR.out.go (hg.below HB.out fun k hk => (HO2.out.ltP k hk).1)
       replace HG:Hid (GrV w (.slice a n c) w3 v3):=HG.out.trans hg
       replace HB:Hid (base ≤ w3.heap.size):=Nat.le_trans HB.out hg.mt.size
       clear ho hg)
    | (clear tk3;with_reducible refine wpSeq_appB (.tmp 31) (.tmp 35) base v3 (.slice (some ⟨b,off + 32,none⟩) 32 32) (bs ++ [1] ++ x) u HO3.out (HRX.out _ HR.out).2 Q3.out.1 Q3.out.2 HB.out ?_ ?_ ?_ ?_ ?_
       · rfl
       · rfl
       · rfl
       · rfl
       intro v4 w4 ho hg
       have HO4:Hid (OwnB w4 base v4 (bs ++ [1] ++ x ++ u)):=ho
       replace HR:Hid (RdLb base w4 (.slice (some ⟨b,off,none⟩) 1 cl) [(x,u)]):=HR.out.go (hg.below HB.out fun k hk => (HO3.out.ltP k hk).1)
       replace HG:Hid (GrV w (.slice a n c) w4 v4):=HG.out.trans hg
       replace HB:Hid (base ≤ w4.heap.size):=Nat.le_trans HB.out hg.mt.size
       clear ho hg))
  go_ret
  have e:bs ++ [1] ++ x ++ u = bs ++ (1 :: (x ++ u)):=by simp
  have hlen:(bs ++ (1 :: (x ++ u))).length = n + 65:=by simp only [List.length_append,List.length_cons,HL.out,HX.out,HU.out]
  refine ⟨v4,rfl,bs ++ (1 :: (x ++ u)),by rw [← e];exact HO4.out,HG.out,fun _ => rfl,fun h => by rw [List.length_append];exact h,by omega⟩
set_option maxHeartbeats 8000000 in
theorem pgPiece_many (base:Nat) (a:Option Addr) (n c b off m cl:Nat) (bs:By) (l:List Lf) (d:Nat) (w:World) (IH:PcDoes (d + 1)) (ho:OwnB w base (.slice a n c) bs) (hb:base ≤ w.heap.size) (hn:bs.length = n) (hn2:n ≤ 512) (hR:RdLb base w (.slice (some ⟨b,off,none⟩) m cl) l) (hF:Fits l d) (h2:2 ≤ l.length) (hm:m = l.length) (hl:l.length < 100000) :
    Calls Tryz.prog 70 #[.slice a n c,.slice (some ⟨b,off,none⟩) m cl,.int .i64 (d:Int)] w fun e w' => ∃ v' r,e = .returned v' ∧ OwnB w' base v' r ∧ GrV w (.slice a n c) w' v' ∧ PieceR bs (wholeL d l) r:=by
  have h1:¬ (512:Int) < (n:Int):=by omega
  have hd:d < 256:=hF.lt h2
  have z0:¬ ((m:Int) = 0):=by omega
  have z0':((m:Int) == 0) = false:=by rw [beq_eq_false_iff_ne];omega
  have z1:¬ ((m:Int) = 1):=by omega
  have z1':((m:Int) == 1) = false:=by rw [beq_eq_false_iff_ne];omega
  have HIH:Hid (PcDoes (d + 1)):=IH
  have HO:Hid (OwnB w base (.slice a n c) bs):=ho
  have HL:Hid (bs.length = n):=hn
  have HB:Hid (base ≤ w.heap.size):=hb
  have HR:Hid (RdLb base w (.slice (some ⟨b,off,none⟩) m cl) l):=hR
  have HF:Hid (Fits l d):=hF
  have H2:Hid (2 ≤ l.length):=h2
  have HLL:Hid (l.length < 100000):=hl
  obtain ⟨d1,HD1⟩:∃ x,Hid (x = d + 1):=⟨_,rfl⟩
  have rd:IntKind.i64.wrap ((d:Int) + 1) = (d1:Int):=by rw [IntKind.wrap_i64,HD1.out];omega
  rw [← HD1.out] at HIH
  have Q1:Hid (0 < ([2]:By).length ∧ bs.length + ([2]:By).length ≤ 100000):=⟨Nat.zero_lt_one,by rw [hn];simp;omega⟩
  clear ho hn hb hR IH hF h2 hl hm
  go_enter Tryz.func70,Tryz.ntmps70
  have tk0:Hid True:=trivial
  have tk1:Hid True:=trivial
  have tk2:Hid True:=trivial
  have tk3:Hid True:=trivial
  have tk4:Hid True:=trivial
  go_wp2_with (first
    | (clear tk0;go_at_call 71;refine (pgPart_any base (.slice (some ⟨b,off,none⟩) m cl) l d _ HR.out HF.out hd (Nat.lt_of_lt_of_le (by decide) H2.out) HLL.out).mono ?_;rintro e w1 ⟨v0,v1,rfl,hr0,hr1,hb⟩
       have HR0:Hid (RdLb base w1 v0 (halfL l d false)):=hr0
       have HR1:Hid (RdLb base w1 v1 (halfL l d true)):=hr1
       replace HO:Hid (OwnB w1 base (.slice a n c) bs):=HO.out.next hb
       have HG:Hid (GrV w (.slice a n c) w1 (.slice a n c)):=GrV.of_below hb _
       replace HB:Hid (base ≤ w1.heap.size):=Nat.le_trans HB.out hb.size
       clear hr0 hr1 hb)
    | (clear tk1;with_reducible refine wpSeq_buildY 2 (.const (.int .u8 2)) ?_ ?_ ?_ ?_
       · rfl
       · rfl
       · rfl
       intro g1 w2 hy1 hg1 hb1
       have HY:Hid (Reads w2 (.slice (some ⟨g1,0,none⟩) 1 1) [2]):=blk_reads_y hy1
       replace HO:Hid (OwnB w2 base (.slice a n c) bs):=HO.out.next hb1
       replace HR0:Hid (RdLb base w2 v0 (halfL l d false)):=HR0.out.next hb1
       replace HR1:Hid (RdLb base w2 v1 (halfL l d true)):=HR1.out.next hb1
       replace HG:Hid (GrV w (.slice a n c) w2 (.slice a n c)):=HG.out.trans (GrV.of_below hb1 _)
       replace HB:Hid (base ≤ w2.heap.size):=Nat.le_trans HB.out hb1.size
       clear hy1 hg1 hb1)
    | (clear tk2;with_reducible refine wpSeq_appB (.tmp 43) (.tmp 44) base (.slice a n c) (.slice (some ⟨g1,0,none⟩) 1 1) bs [2] HO.out HY.out Q1.out.1 Q1.out.2 HB.out ?_ ?_ ?_ ?_ ?_
       · rfl
       · rfl
       · rfl
       · rfl
       intro v3 w3 ho hg
       have HO3:Hid (OwnB w3 base v3 (bs ++ [2])):=ho
       replace HR0:Hid (RdLb base w3 v0 (halfL l d false)):=HR0.out.go (hg.below HB.out fun k hk => (HO.out.ltP k hk).1)
       replace HR1:Hid (RdLb base w3 v1 (halfL l d true)):=HR1.out.go (hg.below HB.out fun k hk => (HO.out.ltP k hk).1)
       replace HG:Hid (GrV w (.slice a n c) w3 v3):=HG.out.trans hg
       replace HB:Hid (base ≤ w3.heap.size):=Nat.le_trans HB.out hg.mt.size
       clear ho hg)
    | (clear tk3;go_at_call 70;refine (HIH.out base v0 (halfL l d false) v3 (bs ++ [2]) _ (by rw [HD1.out];exact HF.out.half _) HR0.out HO3.out HB.out (Nat.lt_of_le_of_lt (half_le _ _ _) HLL.out) (by rw [List.length_append,HL.out];simp;omega)).mono ?_;rintro e w4 ⟨v4,r1,rfl,ho,hg,hp⟩
       have HO4:Hid (OwnB w4 base v4 r1):=ho
       have HP4:Hid (PieceR (bs ++ [2]) (wholeL d1 (halfL l d false)) r1):=hp
       replace HR0:Hid (RdLb base w4 v0 (halfL l d false)):=HR0.out.go (hg.below HB.out fun k hk => (HO3.out.ltP k hk).1)
       replace HR1:Hid (RdLb base w4 v1 (halfL l d true)):=HR1.out.go (hg.below HB.out fun k hk => (HO3.out.ltP k hk).1)
       replace HG:Hid (GrV w (.slice a n c) w4 v4):=HG.out.trans hg
       replace HB:Hid (base ≤ w4.heap.size):=Nat.le_trans HB.out hg.mt.size
       clear ho hg hp)
    | (clear tk4;go_at_call 70;refine (HIH.out base v1 (halfL l d true) v4 r1 _ (by rw [HD1.out];exact HF.out.half _) HR1.out HO4.out HB.out (Nat.lt_of_le_of_lt (half_le _ _ _) HLL.out) HP4.out.2.2).mono ?_;rintro e w5 ⟨v5,r2,rfl,ho,hg,hp⟩
       have HO5:Hid (OwnB w5 base v5 r2):=ho
       have HP5:Hid (PieceR r1 (wholeL d1 (halfL l d true)) r2):=hp
       replace HG:Hid (GrV w (.slice a n c) w5 v5):=HG.out.trans hg
       clear ho hg hp))
  go_ret
  refine ⟨v5,r2,rfl,HO5.out,HG.out,?_⟩
  have h4:=HP4.out
  have h5:=HP5.out
  rw [HD1.out] at h4 h5
  rw [whole_two hd H2.out]
  exact piece_two h4 h5
theorem pgPiece_any:∀ (f d:Nat),256 ≤ d + f → PcDoes d
  | f,d,hf => fun base vl l vb bs w hF hR ho hb hl hbs => by
    obtain ⟨a,c,hv⟩:=ho.formP
    subst hv
    rcases Nat.lt_or_ge 512 bs.length with hn | hn
    · refine (pgPiece_stop a bs.length c vl d w hn).mono ?_
      rintro e w' ⟨rfl,rfl⟩
      refine ⟨_,bs,rfl,ho,GrV.refl _ _,fun h => by omega,fun h => hn,hbs⟩
    · rcases Nat.lt_or_ge l.length 2 with h2 | h2
      · rw [whole_few h2]
        match l,h2,hR with
        | [],_,hR =>
          obtain ⟨⟨ad,cp,h1,_⟩,_⟩:=hR.1
          subst h1
          exact pgPiece_nil base a ad bs.length c cp bs d w ho hb rfl hn
        | [p],_,hR =>
          obtain ⟨b,off,cp,h1,_⟩:=hR.1.at (by simp)
          subst h1
          exact pgPiece_one base a bs.length c b off cp bs p d w ho hb rfl hn hR
      · obtain ⟨b,off,cp,h1,_⟩:=hR.1.at (by omega)
        subst h1
        have hd:=hF.lt h2
        match f with
        | 0 => omega
        | f + 1 => exact pgPiece_many base a bs.length c b off l.length cp bs l d w (pgPiece_any f (d + 1) (by omega)) ho hb rfl hn hR hF h2 rfl hl
end Go.Proofs.YtphmmnffgknkcaaGreatDoor
namespace Go.Proofs.YtphmmnffgknkcaaGreatDoor
open Go.RowKit
set_option maxRecDepth 100000
theorem wp_appB {o:Oper} {a:Act} {w:World} {K:Act → World → Prop} {Q:Exit → Act → World → Prop} (s x:Operand) (base:Nat) (v vx:Value) (l news:By)
    (hown:OwnB w base v l) (hr:Reads w vx news) (hpos:0 < news.length) (hlen:l.length + news.length ≤ 100000) (hbase:base ≤ w.heap.size)
    (ho:o.op = .call { callee:=.builtin .append,args:=#[s,x],argTypes:=#[48,48] }) (hs:a.eval s = v) (hx:a.eval x = vx)
    (h:∀ v' w',OwnB w' base v' (l ++ news) → GrV w v w' v' → K (a.put o.dst v') w'):o.wp Tryz.prog a w K Q:=by
  obtain ⟨i0,hi,hz0,hz1,hz2⟩:=info_parts Tryz.infob
  obtain ⟨ad,cap,rfl,hcap,hnn,hps⟩:=hr
  cases ad with
  | none => obtain ⟨b,off,h1,_⟩:=hps hpos;cases h1
  | some ad =>
    obtain ⟨v',w',hr,h2,h3,h4,h5⟩:=run_append_own_at (P:=Tryz.prog) w base 48 o.type 5 i0 (.int .u8 0) 1 1 Tryz.underlying48 hi hz0 hz1 hz2 rfl (by decide) v l.length (cb l) hown ad news.length cap (cb news) (by rw [cb_len];omega) (by
      intro j u hj
      have hjl:j < news.length:=by have:=(List.getElem?_eq_some_iff.1 hj).1;rwa [cb_len] at this
      obtain ⟨b,off,h1,h2⟩:=hps (by omega)
      cases h1
      rw [Addr.add_mid,h2 j hjl,← hj,cb_get news j hjl]) (cb_one _) (by unfold maxLen;omega) (by omega) hbase
    unfold Oper.wp execOp
    simp only [ho,resolve,invoke,builtin,Sem.run_bind,Sem.run_pure,Result.andThen_ok,List.map_toArray,List.map_cons,List.map_nil,hs,hx,hr]
    refine h v' w' ?_ ⟨mut_grown h3,fun k hk => ?_⟩
    · have e:cb l ++ cb news = cb (l ++ news):=by simp [cb]
      rw [e] at h2
      unfold OwnB;rw [List.length_append];exact h2
    · rcases h5 with h5 | h5
      · exact Or.inl (h5 ▸ hk)
      · rw [h5] at hk;cases hk;exact Or.inr (Nat.le_refl _)
theorem build_y1 (f:Operand → Value) (o:Oper) (b:BitVec 8) (x:Operand) (hx:f x = .int .u8 (b.toNat:Int)) (ho:o.op = .buildSlice 48 1 #[(0,x)]) (w:World):(execOp f o).run Tryz.prog w = .ok (.value (.slice (some ⟨w.heap.size,0,none⟩) 1 1)) (w.alloc (.cells (cb [b]).toArray 5)):=by
  unfold execOp
  rw [ho]
  simp only [List.map_toArray,List.map_cons,List.map_nil,hx]
  kernel_rfl
theorem wpAnyH_buildY {md:Region.Mode} {ops:Array Oper} {Q:Exit → Act → World → Prop} {S:World → Prop} {fuel:Nat} {listed:Array Bool} {a:Act} {w:World} (i:Nat) {oi:Oper} (b:BitVec 8) (x:Operand) (hr:Region.ready md ops listed = [i]) (hi:ops[i]? = some oi) (hw:Region.wanted oi (yielded ops a.tmps) = true) (ho:oi.op = .buildSlice 48 1 #[(0,x)]) (hx:a.eval x = .int .u8 (b.toNat:Int))
    (h:∀ g w',Blk w' g (cb [b]) 5 → w.heap.size ≤ g → Below w.heap.size w w' → S w' ∧ wpAnyH Tryz.prog md ops Q S fuel (listed.setIfInBounds i true) (a.put oi.dst (.slice (some ⟨g,0,none⟩) 1 1)) w'):wpAnyH Tryz.prog md ops Q S (fuel + 1) listed a w:=by
  have h2:=h w.heap.size _ (Blk.new w _ 5) (Nat.le_refl _) (below_alloc w _)
  exact wpAnyH_step i _ _ hr hi hw (build_y1 _ oi b x hx ho w) h2.1 h2.2
def PsDoes (d:Nat):Prop:=∀ (base:Nat) (va vl:Value) (us:List Value) (ps:List By) (l:List Lf) (X:Nat → Prop) (w:World),KOk w → 1 < base → Fits l d → RdLb base w vl l → PgS w base va us ps X → base ≤ w.heap.size → (∀ k,X k → k < w.heap.size) → l.length < 100000 → ps.length + (saveL d l).length < 100000 →
  Calls Tryz.prog 39 #[va,vl,.int .i64 (d:Int)] w fun e w' => ∃ va' us',e = .returned (.tuple #[.agg (cb (dig (topPg d l))).toArray,va']) ∧ PgS w' base va' us' (ps ++ saveL d l) X ∧ GrV w va w' va'
def SdDoes (d:Nat):Prop:=∀ (base:Nat) (vb va vl:Value) (us:List Value) (bs:By) (ps:List By) (l:List Lf) (X:Nat → Prop) (w:World),KOk w → 1 < base → Fits l d → RdLb base w vl l → OwnB w base vb bs → PgS w base va us ps (fun k => X k ∨ vb.ownBlock = some k) → base ≤ w.heap.size → (∀ k,X k → k < w.heap.size) → l.length < 100000 → ps.length + (restPg d l).length < 100000 → bs.length ≤ 200 →
  Calls Tryz.prog 72 #[vb,va,vl,.int .i64 (d:Int)] w fun e w' => ∃ vb' va' us',e = .returned (.tuple #[vb',va']) ∧ OwnB w' base vb' (bs ++ sidePg d l) ∧ PgS w' base va' us' (ps ++ restPg d l) (fun k => X k ∨ vb'.ownBlock = some k) ∧ Mut (fun k => vb.ownBlock = some k ∨ va.ownBlock = some k) w w' ∧ (∀ k,vb'.ownBlock = some k → vb.ownBlock = some k ∨ w.heap.size ≤ k) ∧ (∀ k,va'.ownBlock = some k → va.ownBlock = some k ∨ w.heap.size ≤ k)
theorem mut_base {w w':World} {base:Nat} {vb va:Value} {us:List Value} {bs:By} (h:Mut (fun k => vb.ownBlock = some k ∨ va.ownBlock = some k) w w') (hb:base ≤ w.heap.size) (h1:OwnB w base vb bs) (h2:OwnX w base va us):Below base w w':=h.below hb fun k hk => hk.elim (fun e => (h1.ltP k e).1) fun e => (h2.lt k e).1
set_option maxHeartbeats 4000000 in
theorem pgSide_few (base:Nat) (vb va:Value) (a:Option Addr) (m c:Nat) (us:List Value) (bs:By) (ps:List By) (l:List Lf) (X:Nat → Prop) (d:Nat) (w:World) (hd:d ≤ 256) (hF:Fits l d) (hR:RdLb base w (.slice a m c) l) (ho:OwnB w base vb bs) (hP:PgS w base va us ps (fun k => X k ∨ vb.ownBlock = some k)) (hb:base ≤ w.heap.size) (h2:l.length < 2) (hm:m = l.length) (hbs:bs.length ≤ 200) :
    Calls Tryz.prog 72 #[vb,va,.slice a m c,.int .i64 (d:Int)] w fun e w' => ∃ vb' va' us',e = .returned (.tuple #[vb',va']) ∧ OwnB w' base vb' (bs ++ sidePg d l) ∧ PgS w' base va' us' (ps ++ restPg d l) (fun k => X k ∨ vb'.ownBlock = some k) ∧ Mut (fun k => vb.ownBlock = some k ∨ va.ownBlock = some k) w w' ∧ (∀ k,vb'.ownBlock = some k → vb.ownBlock = some k ∨ w.heap.size ≤ k) ∧ (∀ k,va'.ownBlock = some k → va.ownBlock = some k ∨ w.heap.size ≤ k):=by
  have h1:(m:Int) < 2:=by omega
  have HC:Hid (Calls Tryz.prog 70 #[vb,.slice a m c,.int .i64 (d:Int)] w fun e w' => ∃ v' r,e = .returned v' ∧ OwnB w' base v' r ∧ GrV w vb w' v' ∧ PieceR bs (wholeL d l) r):=pgPiece_any (256 - d) d (by omega) base _ l vb bs w hF hR ho hb (by omega) (by omega)
  have HO:Hid (OwnB w base vb bs):=ho
  have HP:Hid (PgS w base va us ps (fun k => X k ∨ vb.ownBlock = some k)):=hP
  have HW:Hid (wholeL d l = sidePg d l ∧ (wholeL d l).length ≤ 65 ∧ restPg d l = [] ∧ bs.length ≤ 200):=⟨by unfold sidePg;rw [if_pos h2],by rw [whole_few h2,one_le hF.1 h2];omega,by unfold restPg;rw [if_pos h2],hbs⟩
  clear hR ho hP hb h2 hm hF hbs
  go_enter Tryz.func72,Tryz.ntmps72
  go_wp2_with (go_at_call 70;refine HC.out.mono ?_;rintro e w1 ⟨v1,r,rfl,ho1,hg1,hp1⟩
               have HO1:Hid (OwnB w1 base v1 r):=ho1
               have HG1:Hid (GrV w vb w1 v1):=hg1
               have HR1:Hid (PieceR bs (wholeL d l) r):=hp1
               clear ho1 hg1 hp1 HC)
  refine bodyPost_ret (results_tmp2 rfl _ _ _) rfl ?_
  have hr:=HR1.out.1 (by have:=HW.out;omega)
  rw [HW.out.1] at hr
  rw [HW.out.2.2.1,List.append_nil]
  exact ⟨v1,va,us,rfl,by rw [← hr];exact HO1.out,HP.out.beside HO.out HG1.out,HG1.out.mt.mono fun k _ h => Or.inl h,HG1.out.lies,fun k h => Or.inl h⟩
set_option maxHeartbeats 8000000 in
theorem pgSide_many (base:Nat) (vb va:Value) (a:Option Addr) (m c:Nat) (us:List Value) (bs:By) (ps:List By) (l:List Lf) (X:Nat → Prop) (d:Nat) (w:World) (IH:PsDoes d) (hK:KOk w) (hB:1 < base) (hF:Fits l d) (hR:RdLb base w (.slice a m c) l) (ho:OwnB w base vb bs) (hP:PgS w base va us ps (fun k => X k ∨ vb.ownBlock = some k)) (hb:base ≤ w.heap.size) (hX:∀ k,X k → k < w.heap.size) (hll:l.length < 100000) (hps:ps.length + (restPg d l).length < 100000) (h2:2 ≤ l.length) (hm:m = l.length) (hbs:bs.length ≤ 200) :
    Calls Tryz.prog 72 #[vb,va,.slice a m c,.int .i64 (d:Int)] w fun e w' => ∃ vb' va' us',e = .returned (.tuple #[vb',va']) ∧ OwnB w' base vb' (bs ++ sidePg d l) ∧ PgS w' base va' us' (ps ++ restPg d l) (fun k => X k ∨ vb'.ownBlock = some k) ∧ Mut (fun k => vb.ownBlock = some k ∨ va.ownBlock = some k) w w' ∧ (∀ k,vb'.ownBlock = some k → vb.ownBlock = some k ∨ w.heap.size ≤ k) ∧ (∀ k,va'.ownBlock = some k → va.ownBlock = some k ∨ w.heap.size ≤ k):=by
  have h1:¬ (m:Int) < 2:=by omega
  have he:restPg d l = saveL d l:=by unfold restPg;rw [if_neg (by omega)]
  have HE:Hid (restPg d l = saveL d l ∧ sidePg d l = 3 :: dig (topPg d l)):=⟨he,by unfold sidePg;rw [if_neg (by omega)]⟩
  rw [he] at hps
  obtain ⟨dg,HDG⟩:∃ x,Hid (x = dig (topPg d l)):=⟨_,rfl⟩
  have HDL:Hid (dg.length = 32):=by show _ = _;rw [HDG.out];exact len_dig' _
  have HC:Hid (Calls Tryz.prog 39 #[va,.slice a m c,.int .i64 (d:Int)] w fun e w' => ∃ va' us',e = .returned (.tuple #[.agg (cb dg).toArray,va']) ∧ PgS w' base va' us' (ps ++ saveL d l) (fun k => X k ∨ vb.ownBlock = some k) ∧ GrV w va w' va'):=by
    rw [HDG.out]
    exact IH base va _ us ps l _ w hK hB hF hR hP hb (fun k hk => hk.elim (hX k) fun e => (ho.ltP k e).2) hll hps
  have HO:Hid (OwnB w base vb bs):=ho
  have HP:Hid (PgS w base va us ps (fun k => X k ∨ vb.ownBlock = some k)):=hP
  have HB:Hid (base ≤ w.heap.size):=hb
  have HL:Hid (bs.length ≤ 200):=hbs
  have HX:Hid (∀ k,X k → k < w.heap.size):=hX
  have hsd:=fun g => slice_dig_at g 0
  clear hR ho hP hb h2 hm hF hbs he hps IH hK hll hX hB
  go_enter Tryz.func72,Tryz.ntmps72
  have tk0:Hid True:=trivial
  have tk1:Hid True:=trivial
  have tk2:Hid True:=trivial
  go_wp2_with (first
    | (clear tk0;go_at_call 39;refine (HC.out).mono ?_;rintro e w1 ⟨va1,us1,rfl,hp1,hg1⟩
       have HP1:Hid (PgS w1 base va1 us1 (ps ++ saveL d l) (fun k => X k ∨ vb.ownBlock = some k)):=hp1
       have HG1:Hid (GrV w va w1 va1):=hg1
       have HO1:Hid (OwnB w1 base vb bs):=HO.out.sameP fun k hk => hg1.other (HO.out.ltP k hk).2 fun e => HP.out.own.ne_bytes HO.out k e hk
       clear hp1 hg1 HC)
    | (clear tk1;with_reducible refine wpSeq_allocD ?_ ?_ ?_
       · rfl
       · rfl
       intro g2 w2 nn
       have HN2:Hid (Blk w2 g2 (cb zb32) 39 ∧ w1.heap.size ≤ g2 ∧ Below w1.heap.size w1 w2):=⟨nn.blk,nn.ge,nn.below⟩
       clear nn)
    | (clear tk2;with_reducible refine wpSeq_storeD (.tmp 10) (.tmp 24) g2 zb32 dg zb32_len HDL.out HN2.out.1 ?_ ?_ ?_ ?_ ?_
       · rfl
       · rfl
       · rfl
       · rfl
       intro w3 h9
       have HN3:Hid (Blk w3 g2 (cb dg) 39):=h9.blk
       have HB3:Hid (Below w1.heap.size w1 w3):=HN2.out.2.2.trans (h9.only.below HN2.out.2.1 HN2.out.2.2.size)
       clear h9))
  have HO3:Hid (OwnB w3.drew base vb bs):=(HO1.out.next HB3.out:OwnB w3 base vb bs)
  have HS3:Hid (base ≤ w3.heap.size ∧ w.heap.size ≤ w1.heap.size ∧ w1.heap.size ≤ w3.heap.size):=⟨Nat.le_trans HB.out (Nat.le_trans HG1.out.mt.size HB3.out.size),HG1.out.mt.size,HB3.out.size⟩
  have HN4:Hid (Blk w3.drew g2 (cb dg) 39):=HN3.out
  refine wp_region_held_drew (S:=fun W => Blk W g2 (cb dg) 39) (by kernel_rfl) HN4.out ?_
  intro hS
  refine wpAnyH_take (i:=0) (v:=vb) rfl (by kernel_rfl) (by kernel_rfl) (by kernel_rfl) (fun _ _ _ h => h) (Or.inl ⟨by rfl,fun wx hx => by simp [go_sem]⟩) hS ?_
  simp only [Act.put,List.getElem_toArray,List.getElem_cons_zero,List.setIfInBounds_toArray,List.set_cons_zero,List.set_cons_succ]
  refine wpAnyH_take (i:=3) (v:=.slice (some ⟨g2,0,none⟩) 32 32) rfl (by kernel_rfl) (by kernel_rfl) (by kernel_rfl) (fun _ _ _ h => h) (Or.inl ⟨by rfl,fun wx hx => by simp [execOp,Act.eval,hsd]⟩) hS ?_
  simp only [Act.put,List.getElem_toArray,List.getElem_cons_succ,List.getElem_cons_zero,List.setIfInBounds_toArray,List.set_cons_zero,List.set_cons_succ]
  refine wpAnyH_take (i:=5) (v:=va1) rfl (by kernel_rfl) (by kernel_rfl) (by kernel_rfl) (fun _ _ _ h => h) (Or.inl ⟨by rfl,fun wx hx => by simp [go_sem]⟩) hS ?_
  simp only [Act.put,List.getElem_toArray,List.getElem_cons_succ,List.getElem_cons_zero,List.setIfInBounds_toArray,List.set_cons_zero,List.set_cons_succ]
  refine wpAnyH_buildY 1 3 (.const (.int .u8 3)) (by kernel_rfl) rfl (by rfl) rfl rfl ?_
  intro g4 w4 hy4 hge4 hb4
  have HO4:Hid (OwnB w4 base vb bs):=HO3.out.next hb4
  have HY4:Hid (Reads w4 (.slice (some ⟨g4,0,none⟩) 1 1) [3]):=blk_reads_y hy4
  replace hS:Blk w4 g2 (cb dg) 39:=hS.below hb4 hS.lt
  have HB4:Hid (Below w3.heap.size w3 w4):=((Below.refl _ w3).drew).trans hb4
  have HS4:Hid (base ≤ w4.heap.size):=Nat.le_trans HS3.out.1 hb4.size
  clear hy4 hge4 hb4
  refine ⟨hS,?_⟩
  simp only [Act.put,List.getElem_toArray,List.getElem_cons_succ,List.getElem_cons_zero,List.setIfInBounds_toArray,List.set_cons_zero,List.set_cons_succ]
  refine wpAnyH_law 2 (by kernel_rfl) rfl (by rfl) (wp_appB (.tmp 26) (.tmp 27) base vb (.slice (some ⟨g4,0,none⟩) 1 1) bs [3] HO4.out HY4.out Nat.zero_lt_one (by have:=HL.out;simp;omega) HS4.out rfl rfl rfl ?_)
  intro v5 w5 ho5 hg5
  have HO5:Hid (OwnB w5 base v5 (bs ++ [3])):=ho5
  have HG5:Hid (GrV w4 vb w5 v5):=hg5
  replace hS:Blk w5 g2 (cb dg) 39:=hg5.mt.blk hS fun e => HO4.out.ne_blk hS (by decide) e
  have HS5:Hid (base ≤ w5.heap.size):=Nat.le_trans HS4.out hg5.mt.size
  clear ho5 hg5
  refine ⟨hS,?_⟩
  simp only [Act.put,List.getElem_toArray,List.getElem_cons_succ,List.getElem_cons_zero,List.setIfInBounds_toArray,List.set_cons_zero,List.set_cons_succ]
  refine wpAnyH_law 4 (by kernel_rfl) rfl (by rfl) (wp_appB (.tmp 28) (.tmp 29) base v5 (.slice (some ⟨g2,0,none⟩) 32 32) (bs ++ [3]) dg HO5.out (reads_dig_at HDL.out hS.range) (by rw [HDL.out];decide) (by have:=HL.out;rw [List.length_append,HDL.out];simp;omega) HS5.out rfl rfl rfl ?_)
  intro v6 w6 ho6 hg6
  have HO6:Hid (OwnB w6 base v6 (bs ++ [3] ++ dg)):=ho6
  have HG6:Hid (GrV w5 v5 w6 v6):=hg6
  replace hS:Blk w6 g2 (cb dg) 39:=hg6.mt.blk hS fun e => HO5.out.ne_blk hS (by decide) e
  clear ho6 hg6
  refine ⟨hS,?_⟩
  simp only [Act.put,List.getElem_toArray,List.getElem_cons_succ,List.getElem_cons_zero,List.setIfInBounds_toArray,List.set_cons_zero,List.set_cons_succ]
  refine wpAnyH_take (i:=6) (v:=v6) rfl (by kernel_rfl) (by kernel_rfl) (by kernel_rfl) (fun _ _ _ h => h) (Or.inl ⟨by rfl,fun wx hx => by simp [go_sem]⟩) hS ?_
  simp only [Act.put,List.getElem_toArray,List.getElem_cons_succ,List.getElem_cons_zero,List.setIfInBounds_toArray,List.set_cons_zero,List.set_cons_succ]
  refine wpAnyH_take (i:=7) (v:=va1) rfl (by kernel_rfl) (by kernel_rfl) (by kernel_rfl) (fun _ _ _ h => h) (Or.inl ⟨by rfl,fun wx hx => by simp [go_sem]⟩) hS ?_
  simp only [Act.put,List.getElem_toArray,List.getElem_cons_succ,List.getElem_cons_zero,List.setIfInBounds_toArray,List.set_cons_zero,List.set_cons_succ]
  refine wpAnyH_done (by kernel_rfl) ?_ _
  go_wp2_with fail
  refine bodyPost_ret (results_tmp2 rfl _ _ _) rfl ?_
  have hgw:GrV w1 vb w6 v6:=((GrV.of_below HB3.out vb).trans ((GrV.of_below HB4.out vb).trans HG5.out)).trans HG6.out
  refine ⟨v6,va1,us1,rfl,?_,?_,?_,fun k hk => ?_,HG1.out.lies⟩
  · have e:bs ++ sidePg d l = bs ++ [3] ++ dg:=by rw [HE.out.2,← HDG.out];simp
    rw [e];exact HO6.out
  · rw [HE.out.1];exact HP1.out.beside HO1.out hgw
  · exact (HG1.out.mt.mono fun k _ h => Or.inr h).trans (fun k hk h => Or.inl h) hgw.mt
  · rcases hgw.lies k hk with h | h
    · exact Or.inl h
    · exact Or.inr (Nat.le_trans HS3.out.2.1 h)
theorem pgSide_any (d:Nat) (hd:d ≤ 256) (IH:PsDoes d):SdDoes d:=fun base vb va vl us bs ps l X w hK hB hF hR ho hP hb hX hll hps hbs => by
  obtain ⟨⟨ad,cp,h1,_⟩,_⟩:=hR.1
  subst h1
  rcases Nat.lt_or_ge l.length 2 with h2 | h2
  · exact pgSide_few base vb va ad l.length cp us bs ps l X d w hd hF hR ho hP hb h2 rfl hbs
  · exact pgSide_many base vb va ad l.length cp us bs ps l X d w IH hK hB hF hR ho hP hb hX hll hps h2 rfl hbs
end Go.Proofs.YtphmmnffgknkcaaGreatDoor
namespace Go.Proofs.YtphmmnffgknkcaaGreatDoor
open Go.RowKit
set_option maxRecDepth 100000
def RdBb (B:Nat) (w:World) (v:Value) (t:By):Prop:=Reads w v t ∧ ∀ k,v.ownBlock = some k → k < B
theorem RdBb.go {B:Nat} {w w':World} {v:Value} {t:By} (h:RdBb B w v t) (hb:Below B w w'):RdBb B w' v t:=⟨h.1.sameP fun k hk => hb.block k (h.2 k hk),h.2⟩
theorem RdBb.at {B:Nat} {w:World} {v:Value} {t:By} (h:RdBb B w v t) (hp:0 < t.length):∃ b off c,v = .slice (some ⟨b,off,none⟩) t.length c ∧ t.length ≤ c ∧ b < B ∧ ∀ j,j < t.length → w.cell? ⟨b,off + j,none⟩ = some (.int .u8 ((t.getD j 0).toNat:Int)):=by
  obtain ⟨⟨ad,c,h1,h2,h3,h4⟩,h5⟩:=h
  obtain ⟨b,off,rfl,h6⟩:=h4 hp
  exact ⟨b,off,c,h1,h2,h5 b (by rw [h1];rfl),h6⟩
theorem slHiY (b off n cap k:Nat) (h:k ≤ n) (w:World):(Instr.sliceAt 48 (.slice (some ⟨b,off,none⟩) n cap) (some (.int .i64 (k:Int))) none none).run Tryz.prog w = .ok (.slice (some ⟨b,if cap = k then off else off + k,none⟩) (n - k) (cap - k)) w:=by
  have hs:(sizeOf 5).run Tryz.prog w = .ok 1 w:=by kernel_rfl
  rw [run_sliceAt_slice w 48 _ _ _ _ (by kernel_rfl),run_slice_l w 48 _ _ _ (by kernel_rfl) .i64 _ (by omega) (by omega)]
  rw [show Tryz.prog.elem 48 = 5 from by kernel_rfl,hs]
  simp only [Result.andThen_ok,sliced,Int.toNat_natCast,Nat.mul_one,Option.map_some]
  split <;> simp [Addr.add_mid]
theorem RdBb.drop {B:Nat} {w:World} {b off n c:Nat} {t:By} (h:RdBb B w (.slice (some ⟨b,off,none⟩) n c) t) (k o:Nat) (hk:k ≤ t.length) (ho:k < t.length → o = off + k):RdBb B w (.slice (some ⟨b,o,none⟩) (n - k) (c - k)) (t.drop k):=by
  obtain ⟨⟨ad,c',h1,h2,h3,h4⟩,h5⟩:=h
  simp only [Value.slice.injEq] at h1
  obtain ⟨rfl,rfl,rfl⟩:=h1
  refine ⟨⟨_,c - k,by rw [List.length_drop],by rw [List.length_drop];omega,(fun e => by cases e),fun hp => ?_⟩,fun j hj => h5 j hj⟩
  rw [List.length_drop] at hp ⊢
  obtain ⟨b2,off2,e,h6⟩:=h4 (by omega)
  cases e
  refine ⟨b,o,rfl,fun j hj => ?_⟩
  rw [ho (by omega),Nat.add_assoc,h6 (k + j) (by omega),List.getD_eq_getElem?_getD,List.getD_eq_getElem?_getD,List.getElem?_drop]
theorem copyO (f:Operand → Value) (o:Oper) (d s:Operand) (ho:o.op = .call { callee:=.builtin .copy,args:=#[d,s],argTypes:=#[48,48] }) (w:World) (g k dLen dCap b off sLen sCap:Nat) (t:TypeId) (cs:List Value) (xs:By) (hg:Blk w g cs t) (hm:xs.length = min sLen dLen) (hk:k + xs.length ≤ cs.length)
    (hsrc:∀ j,j < xs.length → w.cell? ⟨b,off + j,none⟩ = some (.int .u8 ((xs.getD j 0).toNat:Int))) (hx:f d = .slice (some ⟨g,k,none⟩) dLen dCap) (hy:f s = .slice (some ⟨b,off,none⟩) sLen sCap) :
    ∃ w',(execOp f o).run Tryz.prog w = .ok (.value (.int .i64 (xs.length:Int))) w' ∧ Blk w' g (cs.take k ++ cb xs ++ cs.drop (k + xs.length)) t ∧ Only g w w':=by
  have hcp:∀ ty,(Builtin.copy_ #[48,48] ty #[.slice (some ⟨g,k,none⟩) dLen dCap,.slice (some ⟨b,off,none⟩) sLen sCap]).run Tryz.prog w = .ok (goInt (cb xs).length) (w.setCells g k (cb xs)):=fun ty =>
      run_copy_cells w _ _ ty 5 g k dLen dCap ⟨b,off,none⟩ sLen sCap (cb xs) Tryz.underlying48 (by kernel_rfl) (by rw [cb_len];exact hm)
        (fun j u hj => by
          have hjl:j < xs.length:=by have:=(List.getElem?_eq_some_iff.1 hj).1;rwa [cb_len] at this
          rw [Addr.add_mid,hsrc j hjl,← hj,cb_get xs j hjl])
        (fun j hj => by rw [hg.cell,List.getElem?_eq_getElem (by rw [cb_len] at hj;omega)];rfl) (fun j _ => hg.frozen _) (cb_one _)
  refine ⟨w.setCells g k (cb xs),?_,?_,Only.setCells _ _ _ (Only.refl g w)⟩
  · unfold execOp
    rw [ho]
    rw [cb_len] at hcp
    simp [resolve,invoke,builtin,hx,hy,hcp,Result.andThen]
    rfl
  · have:=setCells_eq g (cb xs) k w cs t hg (by rw [cb_len];exact hk)
    rwa [cb_len] at this
theorem wpSeq_copyO {ops:Array Oper} {Q:Exit → Act → World → Prop} {rest:List Oper} {o:Oper} {a:Act} {w:World} (d s:Operand) (g b off n c:Nat) (x:By) (hg:Blk w g (cb zb32) 39) (hx32:x.length = 32) (hm:32 ≤ n)
    (hsrc:∀ j,j < 32 → w.cell? ⟨b,off + j,none⟩ = some (.int .u8 ((x.getD j 0).toNat:Int))) (ho:o.op = .call { callee:=.builtin .copy,args:=#[d,s],argTypes:=#[48,48] }) (hx:a.eval d = .slice (some ⟨g,0,none⟩) 32 32) (hy:a.eval s = .slice (some ⟨b,off,none⟩) n c) (hw:Region.wanted o (yielded ops a.tmps) = true)
    (h:∀ w',Blk w' g (cb x) 39 → Only g w w' → wpList Tryz.prog ops Q rest (a.put o.dst (.int .i64 32)) w'):wpList Tryz.prog ops Q (o :: rest) a w:=by
  obtain ⟨w',h1,h2,h3⟩:=copyO a.eval o d s ho w g 0 32 32 b off n c 39 (cb zb32) x hg (by rw [hx32];omega) (by rw [hx32,cb_len];decide) (by rw [hx32];exact hsrc) hx hy
  rw [hx32] at h1 h2
  have e:(cb zb32).take 0 ++ cb x ++ (cb zb32).drop (0 + 32) = cb x:=by
    have e2:(cb zb32).drop (0 + 32) = []:=List.drop_of_length_le (by rw [cb_len];decide)
    rw [e2,List.append_nil,List.take_zero,List.nil_append]
  rw [e] at h2
  exact wpSeq_val _ _ hw h1 (h w' h2 h3)
theorem wpAnyH_storeD {md:Region.Mode} {ops:Array Oper} {Q:Exit → Act → World → Prop} {S:World → Prop} {fuel:Nat} {listed:Array Bool} {a:Act} {w:World} (i:Nat) {oi:Oper} (x y:Operand) (g:Nat) (l m:By) (hl:l.length = 32) (hm:m.length = 32) (hb:Blk w g (cb l) 39)
    (hr:Region.ready md ops listed = [i]) (hi:ops[i]? = some oi) (hw:Region.wanted oi (yielded ops a.tmps) = true) (ho:oi.op = .store 39 x y) (hx:a.eval x = .pointer (some ⟨g,0,none⟩)) (hy:a.eval y = .agg (cb m).toArray)
    (h:∀ w',SetB m w g w' → S w' ∧ wpAnyH Tryz.prog md ops Q S fuel (listed.setIfInBounds i true) (a.put oi.dst undef) w'):wpAnyH Tryz.prog md ops Q S (fuel + 1) listed a w:=
  wpAnyH_law i hr hi hw (wp_store_mid 39 x y ho g 0 (cb m).toArray hx hy (hb.there 0 _ (by rw [List.size_toArray,cb_len,cb_len,hl,hm];omega)) (by rw [List.size_toArray,cb_len,hm];exact info_digest) (all_oneCell_toArray (cb_one m)) (by rw [List.toList_toArray];exact h _ (SetB.of l m hl hm hb)))
theorem results_row_tmp3 {fn:Func} {p u1 u2:Tmp} (h:fn.results = #[.cell p 39,.tmp u1,.tmp u2]) (tmps:Array Value) (w:World) (g:Nat) (x:By) (hx:x.length = 32) (hp:tmps.getD p undef = .pointer (some ⟨g,0,none⟩)) (hg:Blk w g (cb x) 39) :
    (results fn tmps).run Tryz.prog w = .ok (.tuple #[.agg (cb x).toArray,tmps.getD u1 undef,tmps.getD u2 undef]) w:=by
  simp only [results,h]
  have e:(loadVar 39 ⟨g,0,none⟩).run Tryz.prog w = .ok (.agg (cb x).toArray) w:=run_loadVar_mid w g 0 39 (cb x) _ hg.range Tryz.underlying39 rfl (by rw [cb_len,hx];exact info_digest)
  have hp':tmps[p]?.getD undef = .pointer (some ⟨g,0,none⟩):=by simpa using hp
  simp [Result.andThen,hp',asAddr,e]
set_option maxHeartbeats 4000000 in
theorem pgCut_any (B:Nat) (v:Value) (x rest:By) (w:World) (hx:x.length = 32) (hR:RdBb B w v (x ++ rest)) (hl:rest.length < 1000000) :
    Calls Tryz.prog 86 #[v] w fun e w' => ∃ v',e = .returned (.tuple #[.agg (cb x).toArray,v',.bool true]) ∧ RdBb B w' v' rest ∧ Below w.heap.size w w':=by
  obtain ⟨b,off,c,hv,hc,hbB,hcell⟩:=hR.at (by rw [List.length_append];omega)
  obtain ⟨n,HN⟩:∃ n,Hid (n = (x ++ rest).length):=⟨_,rfl⟩
  rw [← HN.out] at hv hc
  subst hv
  have HN2:Hid (n = 32 + rest.length):=by show _ = _;rw [HN.out,List.length_append,hx]
  have HX:Hid (x.length = 32):=hx
  have HR:Hid (RdBb B w (.slice (some ⟨b,off,none⟩) n c) (x ++ rest)):=hR
  have HRG:Hid (32 ≤ n):=by show _ ≤ _;rw [HN2.out];omega
  have HSRC:Hid (∀ W,Below w.heap.size w W → ∀ j,j < 32 → W.cell? ⟨b,off + j,none⟩ = some (.int .u8 ((x.getD j 0).toNat:Int))):=fun W hW j hj => by
    have h:=hcell j (by rw [List.length_append,hx];omega)
    rw [List.getD_eq_getElem?_getD,List.getElem?_append_left (by omega),← List.getD_eq_getElem?_getD] at h
    rw [hW.cell (p:=⟨b,off + j,none⟩) (block_lt_of_cell h)]
    exact h
  obtain ⟨o2,HO2⟩:∃ o,Hid (o = if c = 32 then off else off + 32):=⟨_,rfl⟩
  obtain ⟨n2,HM2⟩:∃ x,Hid (x = n - 32):=⟨_,rfl⟩
  obtain ⟨c2,HC2⟩:∃ x,Hid (x = c - 32):=⟨_,rfl⟩
  have hsh:=slHiY b off n c 32 HRG.out
  rw [← HO2.out,← HM2.out,← HC2.out] at hsh
  have hsh:∀ w:World,(Instr.sliceAt 48 (.slice (some ⟨b,off,none⟩) n c) (some (.int .i64 32)) none none).run Tryz.prog w = .ok (.slice (some ⟨b,o2,none⟩) n2 c2) w:=hsh
  clear hR hx hl hcell
  go_enter Tryz.func86,Tryz.ntmps86
  have tk0:Hid True:=trivial
  have tk1:Hid True:=trivial
  have tk2:Hid True:=trivial
  have tk3:Hid True:=trivial
  go_wp2_with (first
    | (clear tk0;with_reducible refine wpSeq_allocD ?_ ?_ ?_
       · rfl
       · rfl
       intro g2 w1 nn
       have HN1:Hid (Blk w1 g2 (cb zb32) 39 ∧ w.heap.size ≤ g2 ∧ Below w.heap.size w w1):=⟨nn.blk,nn.ge,nn.below⟩
       clear nn)
    | (clear tk1;with_reducible refine wpSeq_allocD ?_ ?_ ?_
       · rfl
       · rfl
       intro g5 w3 nn
       have HN3:Hid (Blk w3 g5 (cb zb32) 39 ∧ Blk w3 g2 (cb zb32) 39 ∧ w.heap.size ≤ g5 ∧ w.heap.size ≤ g2 ∧ Below w.heap.size w w3 ∧ g2 ≠ g5):=⟨nn.blk,HN1.out.1.below nn.below HN1.out.1.lt,Nat.le_trans HN1.out.2.2.size nn.ge,HN1.out.2.1,HN1.out.2.2.trans (nn.below.mono HN1.out.2.2.size),fun e => by have h1:=nn.ge;have h2:=HN1.out.1.lt;omega⟩
       have HSR:Hid (∀ j,j < 32 → w3.cell? ⟨b,off + j,none⟩ = some (.int .u8 ((x.getD j 0).toNat:Int))):=HSRC.out w3 HN3.out.2.2.2.2.1
       clear nn HN1)
    | (clear tk2;with_reducible refine wpSeq_val (.slice (some ⟨g5,0,none⟩) 32 32) w3 ?_ ?_ ?_
       · rfl
       · simp [execOp,Act.eval]
       have HSK:Hid True:=trivial)
    | (clear tk3;with_reducible refine wpSeq_copyO (.tmp 7) (.tmp 8) g5 b off n c x HN3.out.1 HX.out HRG.out HSR.out ?_ ?_ ?_ ?_ ?_
       · rfl
       · rfl
       · rfl
       · rfl
       intro w4 hb4 ho4
       have HN4:Hid (Blk w4 g5 (cb x) 39 ∧ Blk w4 g2 (cb zb32) 39 ∧ w.heap.size ≤ g2 ∧ Below w.heap.size w w4 ∧ g2 ≠ g5):=⟨hb4,HN3.out.2.1.only ho4 HN3.out.2.2.2.2.2,HN3.out.2.2.2.1,HN3.out.2.2.2.2.1.trans (ho4.below HN3.out.2.2.1 HN3.out.2.2.2.2.1.size),HN3.out.2.2.2.2.2⟩
       clear hb4 ho4 HN3 HSR))
  have HN5:Hid (Blk w4.drew g5 (cb x) 39 ∧ Blk w4.drew g2 (cb zb32) 39):=⟨HN4.out.1,HN4.out.2.1⟩
  refine wp_region_held_drew (S:=fun W => Blk W g5 (cb x) 39) (by kernel_rfl) HN5.out.1 ?_
  intro hS
  refine wpAnyH_take (i:=0) (v:=.agg (cb x).toArray) rfl (by kernel_rfl) (by kernel_rfl) (by kernel_rfl) (fun _ _ _ h => h) (Or.inl ⟨by rfl,fun wx hx => by exact loadDigest _ g5 x HX.out hx rfl rfl⟩) hS ?_
  simp only [Act.put,List.getElem_toArray,List.getElem_cons_zero,List.setIfInBounds_toArray,List.set_cons_zero,List.set_cons_succ]
  refine wpAnyH_take (i:=1) (v:=.slice (some ⟨b,off,none⟩) n c) rfl (by kernel_rfl) (by kernel_rfl) (by kernel_rfl) (fun _ _ _ h => h) (Or.inl ⟨by rfl,fun wx hx => by simp [go_sem]⟩) hS ?_
  simp only [Act.put,List.getElem_toArray,List.getElem_cons_succ,List.getElem_cons_zero,List.setIfInBounds_toArray,List.set_cons_zero,List.set_cons_succ]
  refine wpAnyH_take (i:=2) (v:=.int .i64 32) rfl (by kernel_rfl) (by kernel_rfl) (by kernel_rfl) (fun _ _ _ h => h) (Or.inl ⟨by rfl,fun wx hx => by simp [go_sem]⟩) hS ?_
  simp only [Act.put,List.getElem_toArray,List.getElem_cons_succ,List.getElem_cons_zero,List.setIfInBounds_toArray,List.set_cons_zero,List.set_cons_succ]
  refine wpAnyH_take (i:=3) (v:=.slice (some ⟨b,o2,none⟩) n2 c2) rfl (by kernel_rfl) (by kernel_rfl) (by kernel_rfl) (fun _ _ _ h => h) (Or.inl ⟨by rfl,fun wx hx => by simp [execOp,Act.eval,hsh]⟩) hS ?_
  simp only [Act.put,List.getElem_toArray,List.getElem_cons_succ,List.getElem_cons_zero,List.setIfInBounds_toArray,List.set_cons_zero,List.set_cons_succ]
  refine wpAnyH_take (i:=4) (v:=.int .i64 32) rfl (by kernel_rfl) (by kernel_rfl) (by kernel_rfl) (fun _ _ _ h => h) (Or.inl ⟨by rfl,fun wx hx => by simp [go_sem]⟩) hS ?_
  simp only [Act.put,List.getElem_toArray,List.getElem_cons_succ,List.getElem_cons_zero,List.setIfInBounds_toArray,List.set_cons_zero,List.set_cons_succ]
  refine wpAnyH_take (i:=5) (v:=.bool true) rfl (by kernel_rfl) (by kernel_rfl) (by kernel_rfl) (fun _ _ _ h => h) (Or.inl ⟨by rfl,fun wx hx => by simp [go_sem]⟩) hS ?_
  simp only [Act.put,List.getElem_toArray,List.getElem_cons_succ,List.getElem_cons_zero,List.setIfInBounds_toArray,List.set_cons_zero,List.set_cons_succ]
  refine wpAnyH_storeD 6 (.tmp 2) (.tmp 10) g2 zb32 x zb32_len HX.out HN5.out.2 (by kernel_rfl) rfl (by rfl) rfl rfl rfl ?_
  intro w5 h9
  have HN6:Hid (Blk w5 g2 (cb x) 39 ∧ Only g2 w4.drew w5):=⟨h9.blk,h9.only⟩
  replace hS:Blk w5 g5 (cb x) 39:=hS.only h9.only (Ne.symm HN4.out.2.2.2.2)
  clear h9
  refine ⟨hS,?_⟩
  simp only [Act.put,List.getElem_toArray,List.getElem_cons_succ,List.getElem_cons_zero]
  refine wpAnyH_take (i:=7) (v:=.slice (some ⟨b,o2,none⟩) n2 c2) rfl (by kernel_rfl) (by kernel_rfl) (by kernel_rfl) (fun _ _ _ h => h) (Or.inl ⟨by rfl,fun wx hx => by simp [go_sem]⟩) hS ?_
  simp only [Act.put,List.getElem_toArray,List.getElem_cons_succ,List.getElem_cons_zero,List.setIfInBounds_toArray,List.set_cons_zero,List.set_cons_succ]
  refine wpAnyH_take (i:=8) (v:=.bool true) rfl (by kernel_rfl) (by kernel_rfl) (by kernel_rfl) (fun _ _ _ h => h) (Or.inl ⟨by rfl,fun wx hx => by simp [go_sem]⟩) hS ?_
  simp only [Act.put,List.getElem_toArray,List.getElem_cons_succ,List.getElem_cons_zero,List.setIfInBounds_toArray,List.set_cons_zero,List.set_cons_succ]
  refine wpAnyH_done (by kernel_rfl) ?_ _
  go_wp2_with fail
  refine bodyPost_ret (results_row_tmp3 (by rfl) _ _ g2 x HX.out rfl HN6.out.1) rfl ?_
  have hb5:Below w.heap.size w w5:=(HN4.out.2.2.2.1.drew).trans (HN6.out.2.below HN4.out.2.2.1 HN4.out.2.2.2.1.size)
  refine ⟨.slice (some ⟨b,o2,none⟩) n2 c2,rfl,?_,hb5⟩
  have hr:RdBb B w5 (.slice (some ⟨b,off,none⟩) n c) (x ++ rest):=⟨HR.out.1.below hb5,HR.out.2⟩
  have hd:=hr.drop 32 o2 (by rw [List.length_append,HX.out];omega) (fun h => by rw [HO2.out,if_neg (by rw [List.length_append,HX.out] at h;have:=HN2.out;omega)])
  rw [HM2.out,HC2.out]
  rw [List.drop_append_of_le_length (by rw [HX.out];exact Nat.le_refl _),List.drop_of_length_le (by rw [HX.out];exact Nat.le_refl _),List.nil_append] at hd
  exact hd
end Go.Proofs.YtphmmnffgknkcaaGreatDoor
namespace Go.Proofs.YtphmmnffgknkcaaGreatDoor
open Go.RowKit
set_option maxRecDepth 100000
theorem blk_sameP {w w':World} {g:Nat} {cs:List Value} {t:TypeId} (h:Blk w g cs t) (e:w'.heap[g]? = w.heap[g]?):Blk w' g cs t:=by unfold Blk at *;rw [e];exact h
theorem OwnD.sameP {w w':World} {base:Nat} {v:Value} {ds:List By} (h:OwnD w base v ds) (hs:∀ k,v.ownBlock = some k → w'.heap[k]? = w.heap[k]?):OwnD w' base v ds:=by
  rcases h with ⟨⟨h1,⟨rfl,h2⟩ | ⟨g,cap,cur,rfl,hg,hh,h3⟩⟩,h4⟩
  · exact ⟨⟨h1,Or.inl ⟨rfl,h2⟩⟩,h4⟩
  · exact ⟨⟨h1,Or.inr ⟨g,cap,cur,rfl,hg,by rw [hs g rfl];exact hh,h3⟩⟩,h4⟩
theorem OwnD.ne_blk {w:World} {base g:Nat} {v:Value} {l:List By} {cs:List Value} {t:TypeId} (h:OwnD w base v l) (hb:Blk w g cs t) (ht:t ≠ 39):v.ownBlock ≠ some g:=by
  obtain ⟨⟨_,h2⟩,_⟩:=h
  intro hk
  rcases h2 with ⟨rfl,_⟩ | ⟨g2,cap,cur,rfl,hg,hh,_⟩
  · cases hk
  · simp only [Value.ownBlock,Option.some.injEq] at hk
    subst hk
    unfold Blk at hb
    rw [hh] at hb
    simp only [Option.some.injEq,Obj.cells.injEq] at hb
    exact ht hb.2.1.symm
theorem OwnD.cells {w:World} {base:Nat} {v:Value} {l:List By} (h:OwnD w base v l):∀ k,v.ownBlock = some k → ∃ ar t fz,w.heap[k]? = some (.cells ar t fz):=fun k hk => by
  rcases h.1 with ⟨_,⟨rfl,_⟩ | ⟨g,cap,cur,rfl,_,hh,_⟩⟩
  · cases hk
  · cases hk;exact ⟨_,_,_,hh⟩
def rdC (pv:Value) (gm k:Nat) (ix iv:Value):List Value:=[pv,.map (some gm),.int .i64 (k:Int),ix,iv]
structure RrI (w0:World) (B gr gm:Nat) (pv:Value) (ps:List By) (k:Nat) (ix iv:Value) (la lv:List By) (W:World):Prop where
  bel:Below B w0 W
  ge:B ≤ W.heap.size
  blk:Blk W gr (rdC pv gm k ix iv) 58
  gg:B ≤ gr
  mp:MapP W gm ps.length (plK ps ps.length)
  oi:OwnD W B ix la
  ov:OwnD W B iv lv
  ne:∀ j,ix.ownBlock = some j → iv.ownBlock ≠ some j
section
variable {w0:World} {B gr gm:Nat} {pv:Value} {ps:List By} {k:Nat} {ix iv:Value} {la lv:List By} {W:World}
theorem RrI.next {W':World} (h:RrI w0 B gr gm pv ps k ix iv la lv W) (hb:Below W.heap.size W W'):RrI w0 B gr gm pv ps k ix iv la lv W':=
  ⟨h.bel.trans (hb.mono h.ge),Nat.le_trans h.ge hb.size,h.blk.below hb h.blk.lt,h.gg,h.mp.next hb,h.oi.sameP fun j hj => hb.block j (h.oi.lt j hj).2,h.ov.sameP fun j hj => hb.block j (h.ov.lt j hj).2,h.ne⟩
theorem RrI.drew (h:RrI w0 B gr gm pv ps k ix iv la lv W):RrI w0 B gr gm pv ps k ix iv la lv W.drew:=h.next (Below.refl _ W).drew
theorem RrI.off (h:RrI w0 B gr gm pv ps k ix iv la lv W):ix.ownBlock ≠ some gr ∧ iv.ownBlock ≠ some gr ∧ gm ≠ gr:=⟨h.oi.ne_blk h.blk (by decide),h.ov.ne_blk h.blk (by decide),h.mp.ne h.blk⟩
theorem RrI.turn {W':World} {k':Nat} (h:RrI w0 B gr gm pv ps k ix iv la lv W) (hb:Blk W' gr (rdC pv gm k' ix iv) 58) (ho:Only gr W W'):RrI w0 B gr gm pv ps k' ix iv la lv W':=by
  obtain ⟨h1,h2,h3⟩:=h.off
  exact ⟨h.bel.trans (ho.below h.gg h.ge),Nat.le_trans h.ge ho.size,hb,h.gg,h.mp.same (ho.block gm h3 h.mp.lt),h.oi.sameP fun j hj => ho.block j (fun e => h1 (e ▸ hj)) (h.oi.lt j hj).2,h.ov.sameP fun j hj => ho.block j (fun e => h2 (e ▸ hj)) (h.ov.lt j hj).2,h.ne⟩
theorem map_ne_own {W':World} {gm n:Nat} {F:By → Option Nat} {base:Nat} {v:Value} {l:List By} (h:MapP W' gm n F) (ho:OwnD W' base v l):v.ownBlock ≠ some gm:=fun e => by
  obtain ⟨ar,t,fz,hh⟩:=ho.cells gm e
  exact h.ne hh rfl
theorem RrI.addI {W':World} {ix':Value} {x:By} (h:RrI w0 B gr gm pv ps k ix iv la lv W) (ho:OwnD W' B ix' (la ++ [x])) (hg:Grow B W ix W' ix'):Blk W' gr (rdC pv gm k ix iv) 58 ∧ RrI w0 B gr gm pv ps k ix' iv (la ++ [x]) lv (W'.setCell ⟨gr,3,none⟩ ix'):=by
  obtain ⟨h1,h2,h3⟩:=h.off
  have hb:Blk W' gr (rdC pv gm k ix iv) 58:=blk_sameP h.blk (hg.other gr (fun e => h1 e.symm) h.blk.lt)
  have hs:=Only.setCell (Only.refl gr W') 3 ix'
  have hsz:B ≤ W'.heap.size:=Nat.le_trans h.ge hg.below.size
  have ov:OwnD W' B iv lv:=h.ov.sameP fun j hj => hg.other j (fun e => h.ne j e.symm hj) (h.ov.lt j hj).2
  have mp:MapP W' gm ps.length (plK ps ps.length):=h.mp.same (hg.other gm (fun e => map_ne_own h.mp h.oi e.symm) h.mp.lt)
  refine ⟨hb,(h.bel.trans hg.below).trans (hs.below h.gg hsz),Nat.le_trans hsz hs.size,hb.set 3 ix',h.gg,mp.same (hs.block gm h3 mp.lt),ho.sameP fun j hj => hs.block j (fun e => ho.ne_blk hb (by decide) (e ▸ hj)) (ho.lt j hj).2,ov.sameP fun j hj => hs.block j (fun e => h2 (e ▸ hj)) (ov.lt j hj).2,fun j hj e => ?_⟩
  rcases hg.lies with h4 | h4
  · exact h.ne j (h4 ▸ hj) e
  · rw [h4] at hj
    cases hj
    have:=(h.ov.lt _ e).2
    omega
theorem RrI.addV {W':World} {iv':Value} {x:By} (h:RrI w0 B gr gm pv ps k ix iv la lv W) (ho:OwnD W' B iv' (lv ++ [x])) (hg:Grow B W iv W' iv'):Blk W' gr (rdC pv gm k ix iv) 58 ∧ RrI w0 B gr gm pv ps k ix iv' la (lv ++ [x]) (W'.setCell ⟨gr,4,none⟩ iv'):=by
  obtain ⟨h1,h2,h3⟩:=h.off
  have hb:Blk W' gr (rdC pv gm k ix iv) 58:=blk_sameP h.blk (hg.other gr (fun e => h2 e.symm) h.blk.lt)
  have hs:=Only.setCell (Only.refl gr W') 4 iv'
  have hsz:B ≤ W'.heap.size:=Nat.le_trans h.ge hg.below.size
  have oi:OwnD W' B ix la:=h.oi.sameP fun j hj => hg.other j (fun e => h.ne j hj e.symm) (h.oi.lt j hj).2
  have mp:MapP W' gm ps.length (plK ps ps.length):=h.mp.same (hg.other gm (fun e => map_ne_own h.mp h.ov e.symm) h.mp.lt)
  refine ⟨hb,(h.bel.trans hg.below).trans (hs.below h.gg hsz),Nat.le_trans hsz hs.size,hb.set 4 iv',h.gg,mp.same (hs.block gm h3 mp.lt),oi.sameP fun j hj => hs.block j (fun e => h1 (e ▸ hj)) (oi.lt j hj).2,ho.sameP fun j hj => hs.block j (fun e => ho.ne_blk hb (by decide) (e ▸ hj)) (ho.lt j hj).2,fun j hj e => ?_⟩
  rcases hg.lies with h4 | h4
  · exact h.ne j hj (h4 ▸ e)
  · rw [h4] at e
    cases e
    have:=(h.oi.lt _ hj).2
    omega
end
structure RdG (gr:Nat) (ix iv:Value) (w:World) (ix' iv':Value) (w':World):Prop where
  mt:Mut (fun j => j = gr ∨ ix.ownBlock = some j ∨ iv.ownBlock = some j) w w'
  li:∀ j,ix'.ownBlock = some j → ix.ownBlock = some j ∨ w.heap.size ≤ j
  lv:∀ j,iv'.ownBlock = some j → iv.ownBlock = some j ∨ w.heap.size ≤ j
theorem RdG.below {gr:Nat} {ix iv:Value} {w w':World} (h:Below w.heap.size w w'):RdG gr ix iv w ix iv w':=⟨mut_below h _,fun _ h => Or.inl h,fun _ h => Or.inl h⟩
theorem RdG.trans {gr:Nat} {ix iv i1 v1 i2 v2:Value} {w w1 w2:World} (h:RdG gr ix iv w i1 v1 w1) (k:RdG gr i1 v1 w1 i2 v2 w2):RdG gr ix iv w i2 v2 w2:=
  ⟨h.mt.trans (fun j hj e => e.elim Or.inl fun e => Or.inr (e.elim (fun e => Or.inl ((h.li j e).resolve_right (by omega))) fun e => Or.inr ((h.lv j e).resolve_right (by omega)))) k.mt,
    fun j hj => (k.li j hj).elim (h.li j) fun e => Or.inr (Nat.le_trans h.mt.size e),fun j hj => (k.lv j hj).elim (h.lv j) fun e => Or.inr (Nat.le_trans h.mt.size e)⟩
theorem RdG.only {gr:Nat} {ix iv:Value} {w w':World} (h:Only gr w w'):RdG gr ix iv w ix iv w':=⟨h.mut (Or.inl rfl),fun _ h => Or.inl h,fun _ h => Or.inl h⟩
theorem RdG.addI {gr B:Nat} {ix iv ix':Value} {w w':World} (h:Grow B w ix w' ix'):RdG gr ix iv w ix' iv w':=
  ⟨⟨h.below.os,h.below.tape,h.below.output,h.below.size,fun j hj hn => h.other j (fun e => hn (Or.inr (Or.inl e.symm))) hj⟩,fun j hj => h.lies.elim (fun e => Or.inl (e ▸ hj)) fun e => by rw [e] at hj;cases hj;exact Or.inr (Nat.le_refl _),fun _ h => Or.inl h⟩
theorem RdG.addV {gr B:Nat} {ix iv iv':Value} {w w':World} (h:Grow B w iv w' iv'):RdG gr ix iv w ix iv' w':=
  ⟨⟨h.below.os,h.below.tape,h.below.output,h.below.size,fun j hj hn => h.other j (fun e => hn (Or.inr (Or.inr e.symm))) hj⟩,fun _ h => Or.inl h,fun j hj => h.lies.elim (fun e => Or.inl (e ▸ hj)) fun e => by rw [e] at hj;cases hj;exact Or.inr (Nat.le_refl _)⟩
theorem RdG.blk {gr:Nat} {ix iv ix' iv':Value} {w w':World} {g:Nat} {cs:List Value} {t:TypeId} (h:RdG gr ix iv w ix' iv' w') (hb:Blk w g cs t) (h1:g ≠ gr) (h2:ix.ownBlock ≠ some g) (h3:iv.ownBlock ≠ some g):Blk w' g cs t:=h.mt.blk hb fun e => e.elim h1 fun e => e.elim h2 h3
set_option maxHeartbeats 8000000 in
theorem pgLeaf_any (w0:World) (B gr gm:Nat) (pv:Value) (ps:List By) (k:Nat) (ai av:Option Addr) (ni ci nv cv:Nat) (la lv:List By) (vb:Value) (x u rest way:By) (d:Nat) (w:World) (hI:RrI w0 B gr gm pv ps k (.slice ai ni ci) (.slice av nv cv) la lv w) (hx:x.length = 32) (hu:u.length = 32) (hway:way.length = 32) (hun:(d:Int) ≤ (common x way:Int)) (hR:RdBb B w vb (x ++ (u ++ rest))) (hl:rest.length < 10000) (hla:la.length < 1000000) (hlv:lv.length < 1000000) :
    Calls Tryz.prog 57 #[.pointer (some ⟨gr,0,none⟩),vb,.agg (cb way).toArray,.int .i64 (d:Int)] w fun e w' => ∃ vr ix' iv',e = .returned (.tuple #[vr,.int .i64 0]) ∧ RdBb B w' vr rest ∧ RrI w0 B gr gm pv ps k ix' iv' (la ++ [x]) (lv ++ [u]) w' ∧ RdG gr (.slice ai ni ci) (.slice av nv cv) w ix' iv' w':=by
  have HX:Hid (x.length = 32):=hx
  have HU:Hid (u.length = 32):=hu
  have HY:Hid (way.length = 32):=hway
  have HUN:Hid (decide ((d:Int) ≤ (common x way:Int)) = true):=decide_eq_true hun
  have HI:Hid (RrI w0 B gr gm pv ps k (.slice ai ni ci) (.slice av nv cv) la lv w):=hI
  have HR:Hid (RdBb B w vb (x ++ (u ++ rest))):=hR
  have HL:Hid (rest.length < 10000 ∧ la.length < 2000000 ∧ lv.length < 2000000):=⟨hl,by omega,by omega⟩
  have HOW:Hid (∀ j,((Value.slice ai ni ci).ownBlock = some j ∨ (Value.slice av nv cv).ownBlock = some j) → j < w.heap.size):=fun j hj => hj.elim (fun e => (hI.oi.lt j e).2) fun e => (hI.ov.lt j e).2
  clear hx hu hway hun hI hR hl hla hlv
  go_enter Tryz.func57,Tryz.ntmps57
  have tk0:Hid True:=trivial
  have tk1:Hid True:=trivial
  have tk2:Hid True:=trivial
  have tk3:Hid True:=trivial
  have tk4:Hid True:=trivial
  have tk5:Hid True:=trivial
  have tk6:Hid True:=trivial
  have tk7:Hid True:=trivial
  have tk8:Hid True:=trivial
  have tk9:Hid True:=trivial
  go_wp2_with (first
    | (clear tk0;with_reducible refine wpSeq_boxD (.tmp 2) way ?_ ?_ ?_ ?_
       · rfl
       · rfl
       · rfl
       intro g6 w1 nn
       have H6:Hid (Blk w1 g6 (cb way) 39 ∧ w.heap.size ≤ w1.heap.size):=⟨nn.blk,nn.below.size⟩
       have HBW:Hid (Below w.heap.size w w1):=nn.below
       replace HI:Hid (RrI w0 B gr gm pv ps k (.slice ai ni ci) (.slice av nv cv) la lv w1):=HI.out.next nn.below
       replace HR:Hid (RdBb B w1 vb (x ++ (u ++ rest))):=⟨HR.out.1.below nn.below,HR.out.2⟩
       clear nn)
    | (clear tk1;go_at_call 86;refine (pgCut_any B vb x (u ++ rest) _ HX.out HR.out (by have:=HL.out.1;have:=HU.out;rw [List.length_append];omega)).mono ?_;rintro e w2 ⟨v1,rfl,hr,hb⟩
       have HR2:Hid (RdBb B w2 v1 (u ++ rest)):=hr
       replace H6:Hid (Blk w2 g6 (cb way) 39 ∧ w.heap.size ≤ w2.heap.size):=⟨H6.out.1.below hb H6.out.1.lt,Nat.le_trans H6.out.2 hb.size⟩
       replace HBW:Hid (Below w.heap.size w w2):=HBW.out.trans (hb.mono HBW.out.size)
       replace HI:Hid (RrI w0 B gr gm pv ps k (.slice ai ni ci) (.slice av nv cv) la lv w2):=HI.out.next hb
       clear hr hb HR)
    | (clear tk2;with_reducible refine wpSeq_allocD ?_ ?_ ?_
       · rfl
       · rfl
       intro g10 w3 nn
       have HN3:Hid (Blk w3 g10 (cb zb32) 39 ∧ w2.heap.size ≤ g10 ∧ Below w2.heap.size w2 w3):=⟨nn.blk,nn.ge,nn.below⟩
       clear nn)
    | (clear tk3;with_reducible refine wpSeq_storeD (.tmp 10) (.tmp 17) g10 zb32 x zb32_len HX.out HN3.out.1 ?_ ?_ ?_ ?_ ?_
       · rfl
       · rfl
       · rfl
       · rfl
       intro w4 h9
       have hb:Below w2.heap.size w2 w4:=HN3.out.2.2.trans (h9.only.below HN3.out.2.1 HN3.out.2.2.size)
       have HG10:Hid (Blk w4 g10 (cb x) 39 ∧ w.heap.size ≤ g10):=⟨h9.blk,Nat.le_trans H6.out.2 HN3.out.2.1⟩
       replace H6:Hid (Blk w4 g6 (cb way) 39 ∧ w.heap.size ≤ w4.heap.size):=⟨H6.out.1.below hb H6.out.1.lt,Nat.le_trans H6.out.2 hb.size⟩
       replace HBW:Hid (Below w.heap.size w w4):=HBW.out.trans (hb.mono HBW.out.size)
       replace HI:Hid (RrI w0 B gr gm pv ps k (.slice ai ni ci) (.slice av nv cv) la lv w4):=HI.out.next hb
       replace HR2:Hid (RdBb B w4 v1 (u ++ rest)):=⟨HR2.out.1.below hb,HR2.out.2⟩
       clear h9 hb HN3)
    | (clear tk4;go_at_call 86;refine (pgCut_any B v1 u rest _ HU.out HR2.out (Nat.lt_trans HL.out.1 (by decide))).mono ?_;rintro e w5 ⟨v3,rfl,hr,hb⟩
       have HR3:Hid (RdBb B w5 v3 rest):=hr
       replace HG10:Hid (Blk w5 g10 (cb x) 39 ∧ w.heap.size ≤ g10):=⟨HG10.out.1.below hb HG10.out.1.lt,HG10.out.2⟩
       replace H6:Hid (Blk w5 g6 (cb way) 39 ∧ w.heap.size ≤ w5.heap.size):=⟨H6.out.1.below hb H6.out.1.lt,Nat.le_trans H6.out.2 hb.size⟩
       replace HBW:Hid (Below w.heap.size w w5):=HBW.out.trans (hb.mono HBW.out.size)
       replace HI:Hid (RrI w0 B gr gm pv ps k (.slice ai ni ci) (.slice av nv cv) la lv w5):=HI.out.next hb
       clear hr hb HR2)
    | (clear tk5;with_reducible refine wpSeq_allocD ?_ ?_ ?_
       · rfl
       · rfl
       intro g12 w6 nn
       have HN6:Hid (Blk w6 g12 (cb zb32) 39 ∧ w5.heap.size ≤ g12 ∧ Below w5.heap.size w5 w6):=⟨nn.blk,nn.ge,nn.below⟩
       clear nn)
    | (clear tk6;with_reducible refine wpSeq_storeD (.tmp 12) (.tmp 23) g12 zb32 u zb32_len HU.out HN6.out.1 ?_ ?_ ?_ ?_ ?_
       · rfl
       · rfl
       · rfl
       · rfl
       intro w7 h9
       have hb:Below w5.heap.size w5 w7:=HN6.out.2.2.trans (h9.only.below HN6.out.2.1 HN6.out.2.2.size)
       have HG12:Hid (Blk w7 g12 (cb u) 39 ∧ w.heap.size ≤ g12):=⟨h9.blk,Nat.le_trans H6.out.2 HN6.out.2.1⟩
       replace H6:Hid (Blk w7 g6 (cb way) 39 ∧ w.heap.size ≤ w7.heap.size):=⟨H6.out.1.below hb H6.out.1.lt,Nat.le_trans H6.out.2 hb.size⟩
       replace HBW:Hid (Below w.heap.size w w7):=HBW.out.trans (hb.mono HBW.out.size)
       replace HI:Hid (RrI w0 B gr gm pv ps k (.slice ai ni ci) (.slice av nv cv) la lv w7):=HI.out.next hb
       replace HR3:Hid (RdBb B w7 v3 rest):=⟨HR3.out.1.below hb,HR3.out.2⟩
       replace HG10:Hid (Blk w7 g10 (cb x) 39 ∧ w.heap.size ≤ g10):=⟨HG10.out.1.below hb HG10.out.1.lt,HG10.out.2⟩
       clear h9 hb HN6)
    | (clear tk7;with_reducible refine wpSeq_loadD (.tmp 10) g10 x HX.out HG10.out.1 ?_ ?_ ?_ ?_
       · rfl
       · rfl
       · rfl
       have HQ1:Hid True:=trivial)
    | (clear tk8;with_reducible refine wpSeq_loadD (.tmp 6) g6 way HY.out H6.out.1 ?_ ?_ ?_ ?_
       · rfl
       · rfl
       · rfl
       have HQ2:Hid True:=trivial)
    | (clear tk9;go_at_call 87;refine (pUnder_any x way HX.out HY.out (d:Int) _).mono ?_;rintro e w8 ⟨rfl,hb⟩
       rw [HUN.out]
       replace HR3:Hid (RdBb B w8 v3 rest):=⟨HR3.out.1.below hb,HR3.out.2⟩
       replace HG10:Hid (Blk w8 g10 (cb x) 39 ∧ w.heap.size ≤ g10):=⟨HG10.out.1.below hb HG10.out.1.lt,HG10.out.2⟩
       replace HG12:Hid (Blk w8 g12 (cb u) 39 ∧ w.heap.size ≤ g12):=⟨HG12.out.1.below hb HG12.out.1.lt,HG12.out.2⟩
       replace HBW:Hid (Below w.heap.size w w8):=HBW.out.trans (hb.mono HBW.out.size)
       replace HI:Hid (RrI w0 B gr gm pv ps k (.slice ai ni ci) (.slice av nv cv) la lv w8):=HI.out.next hb
       clear hb H6))
  have HB1:Hid (Blk w8.drew g10 (cb x) 39):=HG10.out.1
  have HI1:=HI.out.drew
  have hce:w8.drew.cell? ⟨gr,3,none⟩ = some (.slice ai ni ci):=HI1.blk.cell 3
  have hyd:Below w8.heap.size w8 w8.drew:=(Below.refl _ w8).drew
  have h12d:Blk w8.drew g12 (cb u) 39:=HG12.out.1
  refine wp_region_held_drew (S:=fun W => Blk W g10 (cb x) 39) (by kernel_rfl) HB1.out ?_
  intro hS
  obtain ⟨yy,HYY⟩:∃ z,z = w8.drew:=⟨_,rfl⟩
  rw [← HYY] at HB1 hS hce HI1 hyd h12d ⊢
  refine wpAnyH_take (i:=0) (v:=.pointer (some ⟨gr,0,none⟩)) rfl (by kernel_rfl) (by kernel_rfl) (by kernel_rfl) (fun _ _ _ h => h) (Or.inl ⟨by rfl,fun wx hx => by simp [go_sem]⟩) hS ?_
  simp only [Act.put,List.getElem_toArray,List.getElem_cons_zero,List.setIfInBounds_toArray,List.set_cons_zero,List.set_cons_succ]
  refine wpAnyH_take (i:=1) (v:=.pointer (some ⟨gr,0,none⟩)) rfl (by kernel_rfl) (by kernel_rfl) (by kernel_rfl) (fun _ _ _ h => h) (Or.inl ⟨by rfl,fun wx hx => by simp [go_sem]⟩) hS ?_
  simp only [Act.put,List.getElem_toArray,List.getElem_cons_succ,List.getElem_cons_zero,List.setIfInBounds_toArray,List.set_cons_zero,List.set_cons_succ]
  refine wpAnyH_take (i:=2) (v:=.pointer (some ⟨gr,0,none⟩)) rfl (by kernel_rfl) (by kernel_rfl) (by kernel_rfl) (fun _ _ _ h => h) (Or.inl ⟨by rfl,fun wx hx => by simp [go_sem]⟩) hS ?_
  simp only [Act.put,List.getElem_toArray,List.getElem_cons_succ,List.getElem_cons_zero,List.setIfInBounds_toArray,List.set_cons_zero,List.set_cons_succ]
  refine wpAnyH_take (i:=3) (v:=.pointer (some ⟨gr,3,none⟩)) rfl (by kernel_rfl) (by kernel_rfl) (by kernel_rfl) (fun _ _ _ h => h) (Or.inl ⟨by rfl,fun wx hx => by simp [go_sem]⟩) hS ?_
  simp only [Act.put,List.getElem_toArray,List.getElem_cons_succ,List.getElem_cons_zero,List.setIfInBounds_toArray,List.set_cons_zero,List.set_cons_succ]
  refine wpAnyH_take (i:=5) (v:=.agg (cb x).toArray) rfl (by kernel_rfl) (by kernel_rfl) (by kernel_rfl) (fun _ _ _ h => h) (Or.inl ⟨by rfl,fun wx hx => by exact loadDigest _ g10 x HX.out hx rfl rfl⟩) hS ?_
  simp only [Act.put,List.getElem_toArray,List.getElem_cons_succ,List.getElem_cons_zero,List.setIfInBounds_toArray,List.set_cons_zero,List.set_cons_succ]
  have hbb:Below yy.heap.size yy (yy.alloc (.cells (cb x).toArray 39)):=below_alloc _ _
  have HI2:=HI1.next hbb
  have HU2:Hid (Blk (yy.alloc (.cells (cb x).toArray 39)) yy.heap.size (cb x) 39):=Blk.new _ _ _
  have hce2:(yy.alloc (.cells (cb x).toArray 39)).cell? ⟨gr,3,none⟩ = some (.slice ai ni ci):=HI2.blk.cell 3
  refine wpAnyH_comm 4 6 (.slice ai ni ci) (.slice (some ⟨yy.heap.size,0,none⟩) 1 1) (yy.alloc (.cells (cb x).toArray 39)) (by kernel_rfl) rfl rfl (by rfl) (by rfl) (by rfl) (by rfl) (by simp [go_sem,hce]) (buildD _ _ _ rfl x HX.out rfl _) (by simp [go_sem,hce2]) (buildD _ _ _ rfl x HX.out rfl _) (by kernel_rfl) (by kernel_rfl) (by rfl) (by rfl) hS (hS.below hbb hS.lt) ?_
  simp only [Act.put,List.getElem_toArray,List.getElem_cons_succ,List.getElem_cons_zero,List.setIfInBounds_toArray,List.set_cons_zero,List.set_cons_succ]
  refine wpAnyH_law 7 (by kernel_rfl) rfl (by rfl) (wp_appendG (.tmp 39) (.tmp 41) B (.slice ai ni ci) _ x yy.heap.size HI2.oi HU2.out HX.out HL.out.2.1 HI2.ge rfl rfl rfl ?_)
  intro zA qA hoA hgA
  obtain ⟨hbq,hI3⟩:=HI2.addI hoA hgA
  have hcq:qA.cell? ⟨gr,3,none⟩ = some (.slice ai ni ci):=hbq.cell 3
  have hfq:qA.frozen? ⟨gr,3,none⟩ = false:=hbq.frozen 3
  have hso:∀ (g:Nat) (cs:List Value),w.heap.size ≤ g → Blk yy g cs 39 → g ≠ gr → Blk (qA.setCell ⟨gr,3,none⟩ zA) g cs 39 ∧ Blk qA g cs 39:=fun g cs hg hb hne => by
    have hb2:Blk qA g cs 39:=blk_sameP (hb.below hbb hb.lt) (hgA.other g (fun e => by have:=HOW.out g (Or.inl e.symm);omega) (hb.below hbb hb.lt).lt)
    exact ⟨hb2.only (Only.setCell (Only.refl gr qA) 3 zA) hne,hb2⟩
  have hgr:∀ (g:Nat) (cs:List Value),Blk yy g cs 39 → g ≠ gr:=fun g cs hb e => by have h1:=HI1.blk;rw [e] at hb;unfold Blk at h1 hb;rw [h1] at hb;simp only [Option.some.injEq,Obj.cells.injEq] at hb;exact absurd hb.2.1 (by decide)
  have hSq:=hso g10 _ HG10.out.2 HB1.out (hgr _ _ HB1.out)
  have hG12:=hso g12 _ HG12.out.2 h12d (hgr _ _ h12d)
  have hRq:RdBb B (qA.setCell ⟨gr,3,none⟩ zA) v3 rest:=HR3.out.go ((hyd.mono HI.out.ge).trans ((hbb.mono HI1.ge).trans (hgA.below.trans ((Only.setCell (Only.refl gr qA) 3 zA).below HI1.gg (Nat.le_trans HI2.ge hgA.below.size)))))
  have hRG:RdG gr (.slice ai ni ci) (.slice av nv cv) w8 zA (.slice av nv cv) (qA.setCell ⟨gr,3,none⟩ zA):=(((RdG.below hyd).trans (RdG.below hbb)).trans (RdG.addI hgA)).trans (RdG.only (Only.setCell (Only.refl gr qA) 3 zA))
  obtain ⟨aZ,cZ,hz⟩:=hoA.slice
  obtain ⟨nZ,HNZ⟩:∃ z:Nat,Hid (z = (la ++ [x]).length):=⟨_,rfl⟩
  rw [← HNZ.out] at hz
  subst hz
  refine ⟨hSq.2,?_⟩
  simp only [Act.put,List.getElem_toArray,List.getElem_cons_succ,List.getElem_cons_zero,List.setIfInBounds_toArray,List.set_cons_zero,List.set_cons_succ]
  refine wpAnyH_take (i:=8) (v:=.pointer (some ⟨gr,0,none⟩)) rfl (by kernel_rfl) (by kernel_rfl) (by kernel_rfl) (fun _ _ _ h => h) (Or.inl ⟨by rfl,fun wx hx => by simp [go_sem]⟩) hSq.2 ?_
  simp only [Act.put,List.getElem_toArray,List.getElem_cons_succ,List.getElem_cons_zero,List.setIfInBounds_toArray,List.set_cons_zero,List.set_cons_succ]
  refine wpAnyH_take (i:=9) (v:=.pointer (some ⟨gr,3,none⟩)) rfl (by kernel_rfl) (by kernel_rfl) (by kernel_rfl) (fun _ _ _ h => h) (Or.inl ⟨by rfl,fun wx hx => by simp [go_sem]⟩) hSq.2 ?_
  simp only [Act.put,List.getElem_toArray,List.getElem_cons_succ,List.getElem_cons_zero,List.setIfInBounds_toArray,List.set_cons_zero,List.set_cons_succ]
  refine wpAnyH_skip 10 (qA.setCell ⟨gr,3,none⟩ (.slice aZ nZ cZ)) (by kernel_rfl) rfl (by rfl) (by simp [go_sem,hcq,hfq]) hSq.1 ?_
  simp only [Act.put,List.getElem_toArray,List.getElem_cons_succ,List.getElem_cons_zero]
  refine wpAnyH_done (by kernel_rfl) ?_ _
  have HIN:Hid (∃ w9,w9 = qA.setCell ⟨gr,3,none⟩ (.slice aZ nZ cZ)):=⟨_,rfl⟩
  obtain ⟨w9,HW9⟩:=HIN.out
  rw [← HW9] at hI3 hG12 hRq hRG ⊢
  have HRG:Hid (RdG gr (.slice ai ni ci) (.slice av nv cv) w (.slice aZ nZ cZ) (.slice av nv cv) w9):=(RdG.below HBW.out).trans hRG
  replace HI:Hid (RrI w0 B gr gm pv ps k (.slice aZ nZ cZ) (.slice av nv cv) (la ++ [x]) lv w9):=hI3
  replace HG12:Hid (Blk w9 g12 (cb u) 39 ∧ w.heap.size ≤ g12):=⟨hG12.1,HG12.out.2⟩
  replace HR3:Hid (RdBb B w9 v3 rest):=hRq
  clear hRG hI3 hG12 hRq hSq hso hgr hcq hfq hbq hoA hgA hce hce2 hbb HI1 HI2 HU2 HB1 hS HW9 HIN HNZ hyd HYY h12d
  go_wp2_with fail
  have HB1:Hid (Blk w9.drew g12 (cb u) 39):=HG12.out.1
  have HI1:=HI.out.drew
  have hce:w9.drew.cell? ⟨gr,4,none⟩ = some (.slice av nv cv):=HI1.blk.cell 4
  have hyd:Below w9.heap.size w9 w9.drew:=(Below.refl _ w9).drew
  have h12d:Blk w9.drew g12 (cb u) 39:=HG12.out.1
  refine wp_region_held_drew (S:=fun W => Blk W g12 (cb u) 39) (by kernel_rfl) HB1.out ?_
  intro hS
  obtain ⟨yy,HYY⟩:∃ z,z = w9.drew:=⟨_,rfl⟩
  rw [← HYY] at HB1 hS hce HI1 hyd h12d ⊢
  refine wpAnyH_take (i:=0) (v:=.pointer (some ⟨gr,0,none⟩)) rfl (by kernel_rfl) (by kernel_rfl) (by kernel_rfl) (fun _ _ _ h => h) (Or.inl ⟨by rfl,fun wx hx => by simp [go_sem]⟩) hS ?_
  simp only [Act.put,List.getElem_toArray,List.getElem_cons_zero,List.setIfInBounds_toArray,List.set_cons_zero,List.set_cons_succ]
  refine wpAnyH_take (i:=1) (v:=.pointer (some ⟨gr,0,none⟩)) rfl (by kernel_rfl) (by kernel_rfl) (by kernel_rfl) (fun _ _ _ h => h) (Or.inl ⟨by rfl,fun wx hx => by simp [go_sem]⟩) hS ?_
  simp only [Act.put,List.getElem_toArray,List.getElem_cons_succ,List.getElem_cons_zero,List.setIfInBounds_toArray,List.set_cons_zero,List.set_cons_succ]
  refine wpAnyH_take (i:=2) (v:=.pointer (some ⟨gr,0,none⟩)) rfl (by kernel_rfl) (by kernel_rfl) (by kernel_rfl) (fun _ _ _ h => h) (Or.inl ⟨by rfl,fun wx hx => by simp [go_sem]⟩) hS ?_
  simp only [Act.put,List.getElem_toArray,List.getElem_cons_succ,List.getElem_cons_zero,List.setIfInBounds_toArray,List.set_cons_zero,List.set_cons_succ]
  refine wpAnyH_take (i:=3) (v:=.pointer (some ⟨gr,4,none⟩)) rfl (by kernel_rfl) (by kernel_rfl) (by kernel_rfl) (fun _ _ _ h => h) (Or.inl ⟨by rfl,fun wx hx => by simp [go_sem]⟩) hS ?_
  simp only [Act.put,List.getElem_toArray,List.getElem_cons_succ,List.getElem_cons_zero,List.setIfInBounds_toArray,List.set_cons_zero,List.set_cons_succ]
  refine wpAnyH_take (i:=5) (v:=.agg (cb u).toArray) rfl (by kernel_rfl) (by kernel_rfl) (by kernel_rfl) (fun _ _ _ h => h) (Or.inl ⟨by rfl,fun wx hx => by exact loadDigest _ g12 u HU.out hx rfl rfl⟩) hS ?_
  simp only [Act.put,List.getElem_toArray,List.getElem_cons_succ,List.getElem_cons_zero,List.setIfInBounds_toArray,List.set_cons_zero,List.set_cons_succ]
  have hbb:Below yy.heap.size yy (yy.alloc (.cells (cb u).toArray 39)):=below_alloc _ _
  have HI2:=HI1.next hbb
  have HU2:Hid (Blk (yy.alloc (.cells (cb u).toArray 39)) yy.heap.size (cb u) 39):=Blk.new _ _ _
  have hce2:(yy.alloc (.cells (cb u).toArray 39)).cell? ⟨gr,4,none⟩ = some (.slice av nv cv):=HI2.blk.cell 4
  refine wpAnyH_comm 4 6 (.slice av nv cv) (.slice (some ⟨yy.heap.size,0,none⟩) 1 1) (yy.alloc (.cells (cb u).toArray 39)) (by kernel_rfl) rfl rfl (by rfl) (by rfl) (by rfl) (by rfl) (by simp [go_sem,hce]) (buildD _ _ _ rfl u HU.out rfl _) (by simp [go_sem,hce2]) (buildD _ _ _ rfl u HU.out rfl _) (by kernel_rfl) (by kernel_rfl) (by rfl) (by rfl) hS (hS.below hbb hS.lt) ?_
  simp only [Act.put,List.getElem_toArray,List.getElem_cons_succ,List.getElem_cons_zero,List.setIfInBounds_toArray,List.set_cons_zero,List.set_cons_succ]
  refine wpAnyH_law 7 (by kernel_rfl) rfl (by rfl) (wp_appendG (.tmp 49) (.tmp 51) B (.slice av nv cv) _ u yy.heap.size HI2.ov HU2.out HU.out HL.out.2.2 HI2.ge rfl rfl rfl ?_)
  intro zA qA hoA hgA
  obtain ⟨hbq,hI3⟩:=HI2.addV hoA hgA
  have hcq:qA.cell? ⟨gr,4,none⟩ = some (.slice av nv cv):=hbq.cell 4
  have hfq:qA.frozen? ⟨gr,4,none⟩ = false:=hbq.frozen 4
  have hso:∀ (g:Nat) (cs:List Value),w.heap.size ≤ g → Blk yy g cs 39 → g ≠ gr → Blk (qA.setCell ⟨gr,4,none⟩ zA) g cs 39 ∧ Blk qA g cs 39:=fun g cs hg hb hne => by
    have hb2:Blk qA g cs 39:=blk_sameP (hb.below hbb hb.lt) (hgA.other g (fun e => by have:=HOW.out g (Or.inr e.symm);omega) (hb.below hbb hb.lt).lt)
    exact ⟨hb2.only (Only.setCell (Only.refl gr qA) 4 zA) hne,hb2⟩
  have hgr:∀ (g:Nat) (cs:List Value),Blk yy g cs 39 → g ≠ gr:=fun g cs hb e => by have h1:=HI1.blk;rw [e] at hb;unfold Blk at h1 hb;rw [h1] at hb;simp only [Option.some.injEq,Obj.cells.injEq] at hb;exact absurd hb.2.1 (by decide)
  have hSq:=hso g12 _ HG12.out.2 HB1.out (hgr _ _ HB1.out)
  skip
  have hRq:RdBb B (qA.setCell ⟨gr,4,none⟩ zA) v3 rest:=HR3.out.go ((hyd.mono HI.out.ge).trans ((hbb.mono HI1.ge).trans (hgA.below.trans ((Only.setCell (Only.refl gr qA) 4 zA).below HI1.gg (Nat.le_trans HI2.ge hgA.below.size)))))
  have hRG:RdG gr (.slice aZ nZ cZ) (.slice av nv cv) w9 (.slice aZ nZ cZ) zA (qA.setCell ⟨gr,4,none⟩ zA):=(((RdG.below hyd).trans (RdG.below hbb)).trans (RdG.addV hgA)).trans (RdG.only (Only.setCell (Only.refl gr qA) 4 zA))
  obtain ⟨aY,cY,hz⟩:=hoA.slice
  obtain ⟨nY,HNY⟩:∃ z:Nat,Hid (z = (lv ++ [u]).length):=⟨_,rfl⟩
  rw [← HNY.out] at hz
  subst hz
  refine ⟨hSq.2,?_⟩
  simp only [Act.put,List.getElem_toArray,List.getElem_cons_succ,List.getElem_cons_zero,List.setIfInBounds_toArray,List.set_cons_zero,List.set_cons_succ]
  refine wpAnyH_take (i:=8) (v:=.pointer (some ⟨gr,0,none⟩)) rfl (by kernel_rfl) (by kernel_rfl) (by kernel_rfl) (fun _ _ _ h => h) (Or.inl ⟨by rfl,fun wx hx => by simp [go_sem]⟩) hSq.2 ?_
  simp only [Act.put,List.getElem_toArray,List.getElem_cons_succ,List.getElem_cons_zero,List.setIfInBounds_toArray,List.set_cons_zero,List.set_cons_succ]
  refine wpAnyH_take (i:=9) (v:=.pointer (some ⟨gr,4,none⟩)) rfl (by kernel_rfl) (by kernel_rfl) (by kernel_rfl) (fun _ _ _ h => h) (Or.inl ⟨by rfl,fun wx hx => by simp [go_sem]⟩) hSq.2 ?_
  simp only [Act.put,List.getElem_toArray,List.getElem_cons_succ,List.getElem_cons_zero,List.setIfInBounds_toArray,List.set_cons_zero,List.set_cons_succ]
  refine wpAnyH_skip 10 (qA.setCell ⟨gr,4,none⟩ (.slice aY nY cY)) (by kernel_rfl) rfl (by rfl) (by simp [go_sem,hcq,hfq]) hSq.1 ?_
  simp only [Act.put,List.getElem_toArray,List.getElem_cons_succ,List.getElem_cons_zero]
  refine wpAnyH_done (by kernel_rfl) ?_ _
  go_wp2_with fail
  refine bodyPost_ret (results_tmp2 rfl _ _ _) rfl ?_
  exact ⟨v3,_,_,rfl,hRq,hI3,HRG.out.trans hRG⟩
end Go.Proofs.YtphmmnffgknkcaaGreatDoor

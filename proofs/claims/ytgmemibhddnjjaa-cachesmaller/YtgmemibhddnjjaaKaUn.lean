/- The walk of the cache's unlink: a thing between two others, first, last, or alone (layer 16). -/
import Derived.Test.YtgmemibhddnjjaaKaMem
import Derived.Deep.RegionHeld3
namespace Go.Proofs.Ytgmemibhddnjjaa
open Go.RowKit
set_option maxRecDepth 100000
set_option maxRecDepth 100000 in
set_option maxHeartbeats 400000 in
theorem unlink_nn {w : World} {g x : Nat} {most n h ms : Int} {M K V : Value} {f l : Option Nat} (hg : Blk w g [.int .i64 most, .int .i64 n, M, ptK f, ptK l, .int .i64 h, .int .i64 ms] 56) (hx : Blk w x [K, V, .pointer none, .pointer none] 58)
    (h1 : 1 ≤ n) (h2 : n < 4611686018427387904) :
    Calls Try.prog 24 #[.pointer (some ⟨g, 0, none⟩), .pointer (some ⟨x, 0, none⟩)] w fun r w' => r = .returned (.tuple #[]) ∧ Blk w' g [.int .i64 most, .int .i64 (n - 1), M, .pointer none, .pointer none, .int .i64 h, .int .i64 ms] 56 ∧ Blk w' x [K, V, .pointer none, .pointer none] 58 ∧ OnlyL [g, x] w w' := by
  have HG : Hid (Blk w g [.int .i64 most, .int .i64 n, M, ptK f, ptK l, .int .i64 h, .int .i64 ms] 56) := hg
  have HX : Hid (Blk w x [K, V, .pointer none, .pointer none] 58) := hx
  have ngx : g ≠ x := neTK hg hx (by decide)
  have nxg : x ≠ g := ngx.symm
  have c1 : w.cell? ⟨g, 1, none⟩ = some (.int .i64 n) := hg.cell 1
  have f1 : w.frozen? ⟨g, 1, none⟩ = false := hg.frozen 1
  have c3 : w.cell? ⟨g, 3, none⟩ = some (ptK f) := hg.cell 3
  have f3 : w.frozen? ⟨g, 3, none⟩ = false := hg.frozen 3
  have c4 : w.cell? ⟨g, 4, none⟩ = some (ptK l) := hg.cell 4
  have f4 : w.frozen? ⟨g, 4, none⟩ = false := hg.frozen 4
  have d2 : w.cell? ⟨x, 2, none⟩ = some (.pointer none) := hx.cell 2
  have e2 : w.frozen? ⟨x, 2, none⟩ = false := hx.frozen 2
  have d3 : w.cell? ⟨x, 3, none⟩ = some (.pointer none) := hx.cell 3
  have e3 : w.frozen? ⟨x, 3, none⟩ = false := hx.frozen 3
  have q1 : IntKind.i64.wrap (n - 1) = n - 1 := by rw [IntKind.wrap_i64]; omega
  clear hg hx h1 h2
  go_enter Try.func24, Try.ntmps24
  go_wp2
  refine bodyPost_end (results_none rfl _ _ _) rfl ?_
  exact ⟨rfl, ((((((((((HG.out).set 3 _)).set 4 _)).other _ _ ngx)).other _ _ ngx)).set 1 _), ((((((((((HX.out).other _ _ nxg)).other _ _ nxg)).set 2 _)).set 3 _)).other _ _ nxg), ((((((((((OnlyL.refl _ _).set (by simp) _ _)).set (by simp) _ _)).set (by simp) _ _)).set (by simp) _ _)).set (by simp) _ _)⟩
set_option maxRecDepth 100000 in
set_option maxHeartbeats 400000 in
theorem unlink_ns {w : World} {g x yb : Nat} {most n h ms : Int} {M K V Kb Vb Cb : Value} {f l : Option Nat} (hg : Blk w g [.int .i64 most, .int .i64 n, M, ptK f, ptK l, .int .i64 h, .int .i64 ms] 56) (hx : Blk w x [K, V, .pointer none, .pointer (some ⟨yb, 0, none⟩)] 58)
    (hb : Blk w yb [Kb, Vb, .pointer (some ⟨x, 0, none⟩), Cb] 58) (nxb : x ≠ yb)
    (h1 : 1 ≤ n) (h2 : n < 4611686018427387904) :
    Calls Try.prog 24 #[.pointer (some ⟨g, 0, none⟩), .pointer (some ⟨x, 0, none⟩)] w fun r w' => r = .returned (.tuple #[]) ∧ Blk w' g [.int .i64 most, .int .i64 (n - 1), M, .pointer (some ⟨yb, 0, none⟩), ptK l, .int .i64 h, .int .i64 ms] 56 ∧ Blk w' x [K, V, .pointer none, .pointer none] 58 ∧ Blk w' yb [Kb, Vb, .pointer none, Cb] 58 ∧ OnlyL [g, x, yb] w w' := by
  have HG : Hid (Blk w g [.int .i64 most, .int .i64 n, M, ptK f, ptK l, .int .i64 h, .int .i64 ms] 56) := hg
  have HX : Hid (Blk w x [K, V, .pointer none, .pointer (some ⟨yb, 0, none⟩)] 58) := hx
  have HB : Hid (Blk w yb [Kb, Vb, .pointer (some ⟨x, 0, none⟩), Cb] 58) := hb
  have ngx : g ≠ x := neTK hg hx (by decide)
  have nxg : x ≠ g := ngx.symm
  have ngb : g ≠ yb := neTK hg hb (by decide)
  have nbg : yb ≠ g := ngb.symm
  have nbx : yb ≠ x := nxb.symm
  have c1 : w.cell? ⟨g, 1, none⟩ = some (.int .i64 n) := hg.cell 1
  have f1 : w.frozen? ⟨g, 1, none⟩ = false := hg.frozen 1
  have c3 : w.cell? ⟨g, 3, none⟩ = some (ptK f) := hg.cell 3
  have f3 : w.frozen? ⟨g, 3, none⟩ = false := hg.frozen 3
  have c4 : w.cell? ⟨g, 4, none⟩ = some (ptK l) := hg.cell 4
  have f4 : w.frozen? ⟨g, 4, none⟩ = false := hg.frozen 4
  have d2 : w.cell? ⟨x, 2, none⟩ = some (.pointer none) := hx.cell 2
  have e2 : w.frozen? ⟨x, 2, none⟩ = false := hx.frozen 2
  have d3 : w.cell? ⟨x, 3, none⟩ = some (.pointer (some ⟨yb, 0, none⟩)) := hx.cell 3
  have e3 : w.frozen? ⟨x, 3, none⟩ = false := hx.frozen 3
  have cb2 : w.cell? ⟨yb, 2, none⟩ = some (.pointer (some ⟨x, 0, none⟩)) := hb.cell 2
  have fb2 : w.frozen? ⟨yb, 2, none⟩ = false := hb.frozen 2
  have q1 : IntKind.i64.wrap (n - 1) = n - 1 := by rw [IntKind.wrap_i64]; omega
  clear hg hx h1 h2 hb
  go_enter Try.func24, Try.ntmps24
  go_wp2
  go_region_held3 (fun wx => wx.cell? ⟨x, 2, none⟩ = some (.pointer none) ∧ wx.cell? ⟨x, 3, none⟩ = some (.pointer (some ⟨yb, 0, none⟩))) (go_keep) (fail)
  go_wp2
  refine bodyPost_end (results_none rfl _ _ _) rfl ?_
  exact ⟨rfl, (((((((((((HG.out).set 3 _)).other _ _ ngb)).other _ _ ngx)).other _ _ ngx)).set 1 _)).drew, (((((((((((HX.out).other _ _ nxg)).other _ _ nxb)).set 2 _)).set 3 _)).other _ _ nxg)).drew, (((((((((((HB.out).other _ _ nbg)).set 2 _)).other _ _ nbx)).other _ _ nbx)).other _ _ nbg)).drew, (((((((((((OnlyL.refl _ _).set (by simp) _ _)).set (by simp) _ _)).set (by simp) _ _)).set (by simp) _ _)).set (by simp) _ _)).drew⟩
set_option maxRecDepth 100000 in
set_option maxHeartbeats 400000 in
theorem unlink_sn {w : World} {g x ya : Nat} {most n h ms : Int} {M K V Ka Va Ca : Value} {f l : Option Nat} (hg : Blk w g [.int .i64 most, .int .i64 n, M, ptK f, ptK l, .int .i64 h, .int .i64 ms] 56) (hx : Blk w x [K, V, .pointer (some ⟨ya, 0, none⟩), .pointer none] 58)
    (ha : Blk w ya [Ka, Va, Ca, .pointer (some ⟨x, 0, none⟩)] 58) (nxa : x ≠ ya)
    (h1 : 1 ≤ n) (h2 : n < 4611686018427387904) :
    Calls Try.prog 24 #[.pointer (some ⟨g, 0, none⟩), .pointer (some ⟨x, 0, none⟩)] w fun r w' => r = .returned (.tuple #[]) ∧ Blk w' g [.int .i64 most, .int .i64 (n - 1), M, ptK f, .pointer (some ⟨ya, 0, none⟩), .int .i64 h, .int .i64 ms] 56 ∧ Blk w' x [K, V, .pointer none, .pointer none] 58 ∧ Blk w' ya [Ka, Va, Ca, .pointer none] 58 ∧ OnlyL [g, x, ya] w w' := by
  have HG : Hid (Blk w g [.int .i64 most, .int .i64 n, M, ptK f, ptK l, .int .i64 h, .int .i64 ms] 56) := hg
  have HX : Hid (Blk w x [K, V, .pointer (some ⟨ya, 0, none⟩), .pointer none] 58) := hx
  have HA : Hid (Blk w ya [Ka, Va, Ca, .pointer (some ⟨x, 0, none⟩)] 58) := ha
  have ngx : g ≠ x := neTK hg hx (by decide)
  have nxg : x ≠ g := ngx.symm
  have nga : g ≠ ya := neTK hg ha (by decide)
  have nag : ya ≠ g := nga.symm
  have nax : ya ≠ x := nxa.symm
  have c1 : w.cell? ⟨g, 1, none⟩ = some (.int .i64 n) := hg.cell 1
  have f1 : w.frozen? ⟨g, 1, none⟩ = false := hg.frozen 1
  have c3 : w.cell? ⟨g, 3, none⟩ = some (ptK f) := hg.cell 3
  have f3 : w.frozen? ⟨g, 3, none⟩ = false := hg.frozen 3
  have c4 : w.cell? ⟨g, 4, none⟩ = some (ptK l) := hg.cell 4
  have f4 : w.frozen? ⟨g, 4, none⟩ = false := hg.frozen 4
  have d2 : w.cell? ⟨x, 2, none⟩ = some (.pointer (some ⟨ya, 0, none⟩)) := hx.cell 2
  have e2 : w.frozen? ⟨x, 2, none⟩ = false := hx.frozen 2
  have d3 : w.cell? ⟨x, 3, none⟩ = some (.pointer none) := hx.cell 3
  have e3 : w.frozen? ⟨x, 3, none⟩ = false := hx.frozen 3
  have ca3 : w.cell? ⟨ya, 3, none⟩ = some (.pointer (some ⟨x, 0, none⟩)) := ha.cell 3
  have fa3 : w.frozen? ⟨ya, 3, none⟩ = false := ha.frozen 3
  have q1 : IntKind.i64.wrap (n - 1) = n - 1 := by rw [IntKind.wrap_i64]; omega
  clear hg hx h1 h2 ha
  go_enter Try.func24, Try.ntmps24
  go_wp2
  go_region_held3 (fun wx => wx.cell? ⟨x, 2, none⟩ = some (.pointer (some ⟨ya, 0, none⟩)) ∧ wx.cell? ⟨x, 3, none⟩ = some (.pointer none)) (go_keep) (fail)
  go_wp2
  refine bodyPost_end (results_none rfl _ _ _) rfl ?_
  exact ⟨rfl, (((((((((((HG.out).other _ _ nga)).set 4 _)).other _ _ ngx)).other _ _ ngx)).set 1 _)).drew, (((((((((((HX.out).other _ _ nxa)).other _ _ nxg)).set 2 _)).set 3 _)).other _ _ nxg)).drew, (((((((((((HA.out).set 3 _)).other _ _ nag)).other _ _ nax)).other _ _ nax)).other _ _ nag)).drew, (((((((((((OnlyL.refl _ _).set (by simp) _ _)).set (by simp) _ _)).set (by simp) _ _)).set (by simp) _ _)).set (by simp) _ _)).drew⟩
set_option maxRecDepth 100000 in
set_option maxHeartbeats 400000 in
theorem unlink_ss {w : World} {g x ya yb : Nat} {most n h ms : Int} {M K V Ka Va Ca Kb Vb Cb : Value} {f l : Option Nat} (hg : Blk w g [.int .i64 most, .int .i64 n, M, ptK f, ptK l, .int .i64 h, .int .i64 ms] 56) (hx : Blk w x [K, V, .pointer (some ⟨ya, 0, none⟩), .pointer (some ⟨yb, 0, none⟩)] 58)
    (ha : Blk w ya [Ka, Va, Ca, .pointer (some ⟨x, 0, none⟩)] 58) (nxa : x ≠ ya)
    (hb : Blk w yb [Kb, Vb, .pointer (some ⟨x, 0, none⟩), Cb] 58) (nxb : x ≠ yb) (nab : ya ≠ yb)
    (h1 : 1 ≤ n) (h2 : n < 4611686018427387904) :
    Calls Try.prog 24 #[.pointer (some ⟨g, 0, none⟩), .pointer (some ⟨x, 0, none⟩)] w fun r w' => r = .returned (.tuple #[]) ∧ Blk w' g [.int .i64 most, .int .i64 (n - 1), M, ptK f, ptK l, .int .i64 h, .int .i64 ms] 56 ∧ Blk w' x [K, V, .pointer none, .pointer none] 58 ∧ Blk w' ya [Ka, Va, Ca, .pointer (some ⟨yb, 0, none⟩)] 58 ∧ Blk w' yb [Kb, Vb, .pointer (some ⟨ya, 0, none⟩), Cb] 58 ∧ OnlyL [g, x, ya, yb] w w' := by
  have HG : Hid (Blk w g [.int .i64 most, .int .i64 n, M, ptK f, ptK l, .int .i64 h, .int .i64 ms] 56) := hg
  have HX : Hid (Blk w x [K, V, .pointer (some ⟨ya, 0, none⟩), .pointer (some ⟨yb, 0, none⟩)] 58) := hx
  have HA : Hid (Blk w ya [Ka, Va, Ca, .pointer (some ⟨x, 0, none⟩)] 58) := ha
  have HB : Hid (Blk w yb [Kb, Vb, .pointer (some ⟨x, 0, none⟩), Cb] 58) := hb
  have ngx : g ≠ x := neTK hg hx (by decide)
  have nxg : x ≠ g := ngx.symm
  have nga : g ≠ ya := neTK hg ha (by decide)
  have nag : ya ≠ g := nga.symm
  have nax : ya ≠ x := nxa.symm
  have ngb : g ≠ yb := neTK hg hb (by decide)
  have nbg : yb ≠ g := ngb.symm
  have nbx : yb ≠ x := nxb.symm
  have nba : yb ≠ ya := nab.symm
  have c1 : w.cell? ⟨g, 1, none⟩ = some (.int .i64 n) := hg.cell 1
  have f1 : w.frozen? ⟨g, 1, none⟩ = false := hg.frozen 1
  have c3 : w.cell? ⟨g, 3, none⟩ = some (ptK f) := hg.cell 3
  have f3 : w.frozen? ⟨g, 3, none⟩ = false := hg.frozen 3
  have c4 : w.cell? ⟨g, 4, none⟩ = some (ptK l) := hg.cell 4
  have f4 : w.frozen? ⟨g, 4, none⟩ = false := hg.frozen 4
  have d2 : w.cell? ⟨x, 2, none⟩ = some (.pointer (some ⟨ya, 0, none⟩)) := hx.cell 2
  have e2 : w.frozen? ⟨x, 2, none⟩ = false := hx.frozen 2
  have d3 : w.cell? ⟨x, 3, none⟩ = some (.pointer (some ⟨yb, 0, none⟩)) := hx.cell 3
  have e3 : w.frozen? ⟨x, 3, none⟩ = false := hx.frozen 3
  have ca3 : w.cell? ⟨ya, 3, none⟩ = some (.pointer (some ⟨x, 0, none⟩)) := ha.cell 3
  have fa3 : w.frozen? ⟨ya, 3, none⟩ = false := ha.frozen 3
  have cb2 : w.cell? ⟨yb, 2, none⟩ = some (.pointer (some ⟨x, 0, none⟩)) := hb.cell 2
  have fb2 : w.frozen? ⟨yb, 2, none⟩ = false := hb.frozen 2
  have q1 : IntKind.i64.wrap (n - 1) = n - 1 := by rw [IntKind.wrap_i64]; omega
  clear hg hx h1 h2 ha hb
  go_enter Try.func24, Try.ntmps24
  go_wp2
  go_region_held3 (fun wx => wx.cell? ⟨x, 2, none⟩ = some (.pointer (some ⟨ya, 0, none⟩)) ∧ wx.cell? ⟨x, 3, none⟩ = some (.pointer (some ⟨yb, 0, none⟩))) (go_keep) (fail)
  go_wp2
  go_region_held3 (fun wx => wx.cell? ⟨x, 2, none⟩ = some (.pointer (some ⟨ya, 0, none⟩)) ∧ wx.cell? ⟨x, 3, none⟩ = some (.pointer (some ⟨yb, 0, none⟩))) (go_keep) (fail)
  go_wp2
  refine bodyPost_end (results_none rfl _ _ _) rfl ?_
  exact ⟨rfl, ((((((((((((HG.out).other _ _ nga)).other _ _ ngb)).other _ _ ngx)).other _ _ ngx)).set 1 _)).drew).drew, ((((((((((((HX.out).other _ _ nxa)).other _ _ nxb)).set 2 _)).set 3 _)).other _ _ nxg)).drew).drew, ((((((((((((HA.out).set 3 _)).other _ _ nab)).other _ _ nax)).other _ _ nax)).other _ _ nag)).drew).drew, ((((((((((((HB.out).other _ _ nba)).set 2 _)).other _ _ nbx)).other _ _ nbx)).other _ _ nbg)).drew).drew, ((((((((((((OnlyL.refl _ _).set (by simp) _ _)).set (by simp) _ _)).set (by simp) _ _)).set (by simp) _ _)).set (by simp) _ _)).drew).drew⟩
end Go.Proofs.Ytgmemibhddnjjaa

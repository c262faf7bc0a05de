/-
  Nodes are read back exactly as written (the table of texts, the powers of ten and two errors listed).
-/
import Derived.Test.YtbgcalhpopcakaaDoorCards
import Derived.Test.YtbgcalhpopcakaaDoorTie
import Derived.Test.YtbgcalhpopcakaaDoorNrt
import Derived.Test.YtbgcalhpopcakaaDoorOpen
import Derived.Test.YtbgcalhpopcakaaDoorDor
import Derived.Test.YtbgcalhpopcakaaDoorDnt
import Derived.WalkKit
import Derived.ProofKit
import Derived.OpenShut
import Derived.ShutString
import Derived.ChangeOld
import Derived.Below
import Derived.Carry
import Derived.Handy
import Derived.Deep.RegionHeld3
import Derived.LaidMore
import Derived.Deep.DeepCutAuto
namespace Go.Proofs.YtbgcalhpopcakaaDoor.fnNodeText
open Go.Proofs.YtbgcalhpopcakaaDoor.Lab
open Go.ChangeShapes Go.WideShapes Go.ChangeAt Go.RowKit
open Go.ChangeMaps (open_string shut_string)
set_option linter.unusedVariables false

theorem own : ownKnob Tryd.prog.godebug = none := by kernel_rfl
/-- A row of numbers that came in: nil, or so many cells. -/
def IsRow (k : IntKind) (w : World) (a : Option Addr) (len cap : Nat) (zs : List Int) : Prop :=
  (a = none ∧ len = 0 ∧ cap = 0 ∧ zs = []) ∨ ∃ x, a = some x ∧ len ≤ cap ∧ cap ≤ maxLen ∧ zs.length = cap ∧ (∀ i, i < zs.length → w.cell? (x.add i) = some (.int k (zs.getD i 0))) ∧ ∀ n ∈ zs, (Lit.int k n).wf = true

set_option maxRecDepth 16000 in
set_option maxHeartbeats 8000000 in
theorem walk (a0 : Option Addr) (len0 cap0 : Nat) (z0 : List Int) (a1 : Option Addr) (len1 cap1 : Nat) (z1 : List Int) (w : World) (w0 : IsRow .u8 w a0 len0 cap0 z0) (w1 : IsRow .u8 w a1 len1 cap1 z1) (ht : Table w) (hml : ∃ m, w.cell? ⟨1, 0, none⟩ = some (.int .i64 m)) (hsy : ∃ u v, w.cell? ⟨3, 0, none⟩ = some (.iface u v)) (hra : ∃ u v, w.cell? ⟨4, 0, none⟩ = some (.iface u v)) (hpw : Lib.TabIs Tryd.prog w "internal/strconv.uint64pow10" .u64 Lib.pow10Tab) :
    Calls Tryd.prog 3 #[.slice a0 len0 cap0, .slice a1 len1 cap1] w fun e w' => e = .returned (.bool true) ∧ Below w.heap.size w w' := by
  have HV : Hid (∀ W, Below w.heap.size w W → Table W ∧ (∃ m, W.cell? ⟨1, 0, none⟩ = some (.int .i64 m)) ∧ (∃ u v, W.cell? ⟨3, 0, none⟩ = some (.iface u v)) ∧ (∃ u v, W.cell? ⟨4, 0, none⟩ = some (.iface u v)) ∧ Lib.TabIs Tryd.prog W "internal/strconv.uint64pow10" .u64 Lib.pow10Tab) := fun W h => by
    refine ⟨ht.later h, ?_, ?_, ?_, ?_⟩
    · obtain ⟨u, hc⟩ := hml
      exact ⟨u, (h.cell (World.block_lt_of_cell? _ _ hc)).trans hc⟩
    · obtain ⟨u, v, hc⟩ := hsy
      exact ⟨u, v, (h.cell (World.block_lt_of_cell? _ _ hc)).trans hc⟩
    · obtain ⟨u, v, hc⟩ := hra
      exact ⟨u, v, (h.cell (World.block_lt_of_cell? _ _ hc)).trans hc⟩
    · have hg : Tryd.prog.globalNamed "internal/strconv.uint64pow10" = some 2 := by kernel_rfl
      obtain ⟨_, _, hh⟩ := heap_of_var hg hpw
      exact var?_below h hg (lt_of_block hh) hpw
  clear ht hml hsy hra hpw
  by_cases hlen0 : len0 > 1048576
  · go_enter Tryd.func3, Tryd.ntmps3
    go_wp2
    go_ret
    exact ⟨rfl, Below.refl _ _⟩
  by_cases hlen1 : len1 > 1048576
  · go_enter Tryd.func3, Tryd.ntmps3
    go_wp2
    go_ret
    exact ⟨rfl, Below.refl _ _⟩
  have k0 : CodeAt w a0 len0 cap0 z0 := code_of w0
  have k1 : CodeAt w a1 len1 cap1 z1 := code_of w1
  clear w0 w1
  go_enter Tryd.func3, Tryd.ntmps3
  go_wp2_with fail
  refine (drawNodeText _ _ _ _ _ k0).mono ?_
  rintro e wa ⟨l, n, rfl, -, -, ba⟩
  have K1 : Hid (∀ W, Below w.heap.size w W → CodeAt W a1 len1 cap1 z1) := fun W h => k1.below h
  have HBa : Hid (Below w.heap.size w wa) := ba
  clear k0 k1 ba
  obtain ⟨A, hA⟩ : ∃ t, t = wa.heap.size := ⟨_, rfl⟩
  have HA : Hid (A = wa.heap.size) := hA
  have BB : Below A wa wa := Below.refl _ _
  have sA : A ≤ wa.heap.size := by omega
  have HV2 : Hid (∀ W, Below A wa W → ((Table W ∧ (∃ m, W.cell? ⟨1, 0, none⟩ = some (.int .i64 m)) ∧ (∃ u v, W.cell? ⟨3, 0, none⟩ = some (.iface u v)) ∧ (∃ u v, W.cell? ⟨4, 0, none⟩ = some (.iface u v)) ∧ Lib.TabIs Tryd.prog W "internal/strconv.uint64pow10" .u64 Lib.pow10Tab) ∧ CodeAt W a1 len1 cap1 z1) ∧ Below w.heap.size w W) := fun W h => by
    rw [HA.out] at h
    have hb := HBa.out.trans (h.mono HBa.out.size)
    exact ⟨⟨HV.out W hb, K1.out W hb⟩, hb⟩
  clear HV K1 HBa hA
  have HNL : Hid (l = l) := rfl
  go_wp2_with fail
  obtain ⟨P0, hP0⟩ : ∃ t, t = wa.heap.size := ⟨_, rfl⟩
  generalize hW : wa.alloc (.cells #[.int .i64 l, .int .i64 n] 24) = wb
  have nb : Below wa.heap.size wa wb := by rw [← hW]; exact (Below.refl _ _).alloc (Nat.le_refl _) _
  have k3 : wb.heap.size = P0 + 1 := by rw [← hW, hP0]; simp
  have kk0 : wb.cell? ⟨P0, 0, none⟩ = some (.int .i64 l) := by rw [← hW, hP0]; simp [go_sem]
  have kk1 : wb.cell? ⟨P0, 1, none⟩ = some (.int .i64 n) := by rw [← hW, hP0]; simp [go_sem]
  have oP0A : A ≤ P0 := by rw [hP0]; exact sA
  have BB1 : Below A wa wb := BB.trans (nb.mono (by omega))
  have sA1 : A ≤ wb.heap.size := by have := Below.size nb; omega
  clear BB sA   
  have BB := BB1
  have sA := sA1
  clear BB1 sA1   
  have cc0 := kk0
  have cc1 := kk1
  have zz0 : P0 < wb.heap.size := by omega
  rw [← hP0]
  have k3P0 := k3
  clear k3 hW nb hP0 kk0 kk1
  obtain ⟨s, hs⟩ : ∃ s, s = ndt l n := ⟨_, rfl⟩
  have CN := impl_NodeText l n wb (HV2.out _ BB).1.1.1
  rw [← hs] at CN
  have HS : Hid (s = ndt l n) := hs
  have hsz : s.size ≤ 1048576 := by rw [hs]; exact ndt_le l n
  clear hs
  refine (CN).mono ?_
  rintro e wc ⟨rfl, bc⟩
  have d0 : wc.cell? ⟨P0, 0, none⟩ = some (.int .i64 l) := (Below.celz bc _ _ _ (by omega)).trans cc0
  have d1 : wc.cell? ⟨P0, 1, none⟩ = some (.int .i64 n) := (Below.celz bc _ _ _ (by omega)).trans cc1
  have y0 : P0 < wc.heap.size := by have := Below.size bc; omega
  have BB1 : Below A wa wc := BB.trans (bc.mono (by omega))
  have sA1 : A ≤ wc.heap.size := by have := Below.size bc; omega
  clear BB sA cc0 cc1 zz0 
  have cc0 := d0
  have cc1 := d1
  have zz0 := y0
  have BB := BB1
  have sA := sA1
  clear BB1 sA1 d0 d1 y0 
  clear bc
  clear CN
  go_wp2_with fail
  have CR := impl_NodeRead s wc hsz (HV2.out _ BB).1.1.1 (HV2.out _ BB).1.1.2.1 (HV2.out _ BB).1.1.2.2.1 (HV2.out _ BB).1.1.2.2.2.1 (HV2.out _ BB).1.1.2.2.2.2
  refine (CR).mono ?_
  rintro e wd ⟨lx, nx, ok, rfl, hx, bd⟩
  have d0 : wd.cell? ⟨P0, 0, none⟩ = some (.int .i64 l) := (Below.celz bd _ _ _ (by omega)).trans cc0
  have d1 : wd.cell? ⟨P0, 1, none⟩ = some (.int .i64 n) := (Below.celz bd _ _ _ (by omega)).trans cc1
  have y0 : P0 < wd.heap.size := by have := Below.size bd; omega
  have BB1 : Below A wa wd := BB.trans (bd.mono (by omega))
  have sA1 : A ≤ wd.heap.size := by have := Below.size bd; omega
  clear BB sA cc0 cc1 zz0 
  have cc0 := d0
  have cc1 := d1
  have zz0 := y0
  have BB := BB1
  have sA := sA1
  clear BB1 sA1 d0 d1 y0 
  clear bd
  clear CR
  have HX : Hid (ok = nodeB l n ∧ (ok = true → lx = l ∧ nx = n)) := by
    rw [HS.out] at hx
    exact nd_of_ndt hx
  clear hx
  go_wp2_with fail
  obtain ⟨P1, hP1⟩ : ∃ t, t = wd.heap.size := ⟨_, rfl⟩
  generalize hW : wd.alloc (.cells #[.int .i64 lx, .int .i64 nx] 24) = we
  have nb : Below wd.heap.size wd we := by rw [← hW]; exact (Below.refl _ _).alloc (Nat.le_refl _) _
  have k3 : we.heap.size = P1 + 1 := by rw [← hW, hP1]; simp
  have kk0 : we.cell? ⟨P1, 0, none⟩ = some (.int .i64 lx) := by rw [← hW, hP1]; simp [go_sem]
  have kk1 : we.cell? ⟨P1, 1, none⟩ = some (.int .i64 nx) := by rw [← hW, hP1]; simp [go_sem]
  have oP1A : A ≤ P1 := by rw [hP1]; exact sA
  have oP10 : P0 < P1 := by rw [hP1]; exact zz0
  have d0 : we.cell? ⟨P0, 0, none⟩ = some (.int .i64 l) := (Below.celz nb _ _ _ (by omega)).trans cc0
  have d1 : we.cell? ⟨P0, 1, none⟩ = some (.int .i64 n) := (Below.celz nb _ _ _ (by omega)).trans cc1
  have y0 : P0 < we.heap.size := by have := Below.size nb; omega
  have BB1 : Below A wa we := BB.trans (nb.mono (by omega))
  have sA1 : A ≤ we.heap.size := by have := Below.size nb; omega
  clear BB sA cc0 cc1 zz0 
  have cc0 := d0
  have cc1 := d1
  have zz0 := y0
  have BB := BB1
  have sA := sA1
  clear BB1 sA1 d0 d1 y0 
  have cc2 := kk0
  have cc3 := kk1
  have zz1 : P1 < we.heap.size := by omega
  rw [← hP1]
  have k3P1 := k3
  clear k3 hW nb hP1 kk0 kk1
  refine (drawNodeRead _ _ _ _ _ (HV2.out _ BB).1.2).mono ?_
  rintro e wf ⟨t, rfl, ht, bf⟩
  have d0 : wf.cell? ⟨P0, 0, none⟩ = some (.int .i64 l) := (Below.celz bf _ _ _ (by omega)).trans cc0
  have d1 : wf.cell? ⟨P0, 1, none⟩ = some (.int .i64 n) := (Below.celz bf _ _ _ (by omega)).trans cc1
  have d2 : wf.cell? ⟨P1, 0, none⟩ = some (.int .i64 lx) := (Below.celz bf _ _ _ (by omega)).trans cc2
  have d3 : wf.cell? ⟨P1, 1, none⟩ = some (.int .i64 nx) := (Below.celz bf _ _ _ (by omega)).trans cc3
  have y0 : P0 < wf.heap.size := by have := Below.size bf; omega
  have y1 : P1 < wf.heap.size := by have := Below.size bf; omega
  have BB1 : Below A wa wf := BB.trans (bf.mono (by omega))
  have sA1 : A ≤ wf.heap.size := by have := Below.size bf; omega
  clear BB sA cc0 cc1 cc2 cc3 zz0 zz1 
  have cc0 := d0
  have cc1 := d1
  have cc2 := d2
  have cc3 := d3
  have zz0 := y0
  have zz1 := y1
  have BB := BB1
  have sA := sA1
  clear BB1 sA1 d0 d1 d2 d3 y0 y1 
  clear bf
  go_wp2_with fail
  have CR := impl_NodeRead t wf (by omega) (HV2.out _ BB).1.1.1 (HV2.out _ BB).1.1.2.1 (HV2.out _ BB).1.1.2.2.1 (HV2.out _ BB).1.1.2.2.2.1 (HV2.out _ BB).1.1.2.2.2.2
  refine (CR).mono ?_
  rintro e wg ⟨ly, ny, fine, rfl, hy, bg⟩
  have d0 : wg.cell? ⟨P0, 0, none⟩ = some (.int .i64 l) := (Below.celz bg _ _ _ (by omega)).trans cc0
  have d1 : wg.cell? ⟨P0, 1, none⟩ = some (.int .i64 n) := (Below.celz bg _ _ _ (by omega)).trans cc1
  have d2 : wg.cell? ⟨P1, 0, none⟩ = some (.int .i64 lx) := (Below.celz bg _ _ _ (by omega)).trans cc2
  have d3 : wg.cell? ⟨P1, 1, none⟩ = some (.int .i64 nx) := (Below.celz bg _ _ _ (by omega)).trans cc3
  have y0 : P0 < wg.heap.size := by have := Below.size bg; omega
  have y1 : P1 < wg.heap.size := by have := Below.size bg; omega
  have BB1 : Below A wa wg := BB.trans (bg.mono (by omega))
  have sA1 : A ≤ wg.heap.size := by have := Below.size bg; omega
  clear BB sA cc0 cc1 cc2 cc3 zz0 zz1 
  have cc0 := d0
  have cc1 := d1
  have cc2 := d2
  have cc3 := d3
  have zz0 := y0
  have zz1 := y1
  have BB := BB1
  have sA := sA1
  clear BB1 sA1 d0 d1 d2 d3 y0 y1 
  clear bg
  clear CR
  have HY : Hid (NdIs t ly ny fine) := hy
  clear hy
  go_wp2_with fail
  obtain ⟨P2, hP2⟩ : ∃ t, t = wg.heap.size := ⟨_, rfl⟩
  generalize hW : wg.alloc (.cells #[.int .i64 ly, .int .i64 ny] 24) = wh
  have nb : Below wg.heap.size wg wh := by rw [← hW]; exact (Below.refl _ _).alloc (Nat.le_refl _) _
  have k3 : wh.heap.size = P2 + 1 := by rw [← hW, hP2]; simp
  have kk0 : wh.cell? ⟨P2, 0, none⟩ = some (.int .i64 ly) := by rw [← hW, hP2]; simp [go_sem]
  have kk1 : wh.cell? ⟨P2, 1, none⟩ = some (.int .i64 ny) := by rw [← hW, hP2]; simp [go_sem]
  have oP2A : A ≤ P2 := by rw [hP2]; exact sA
  have oP20 : P0 < P2 := by rw [hP2]; exact zz0
  have oP21 : P1 < P2 := by rw [hP2]; exact zz1
  have d0 : wh.cell? ⟨P0, 0, none⟩ = some (.int .i64 l) := (Below.celz nb _ _ _ (by omega)).trans cc0
  have d1 : wh.cell? ⟨P0, 1, none⟩ = some (.int .i64 n) := (Below.celz nb _ _ _ (by omega)).trans cc1
  have d2 : wh.cell? ⟨P1, 0, none⟩ = some (.int .i64 lx) := (Below.celz nb _ _ _ (by omega)).trans cc2
  have d3 : wh.cell? ⟨P1, 1, none⟩ = some (.int .i64 nx) := (Below.celz nb _ _ _ (by omega)).trans cc3
  have y0 : P0 < wh.heap.size := by have := Below.size nb; omega
  have y1 : P1 < wh.heap.size := by have := Below.size nb; omega
  have BB1 : Below A wa wh := BB.trans (nb.mono (by omega))
  have sA1 : A ≤ wh.heap.size := by have := Below.size nb; omega
  clear BB sA cc0 cc1 cc2 cc3 zz0 zz1 
  have cc0 := d0
  have cc1 := d1
  have cc2 := d2
  have cc3 := d3
  have zz0 := y0
  have zz1 := y1
  have BB := BB1
  have sA := sA1
  clear BB1 sA1 d0 d1 d2 d3 y0 y1 
  have cc4 := kk0
  have cc5 := kk1
  have zz2 : P2 < wh.heap.size := by omega
  rw [← hP2]
  have k3P2 := k3
  clear k3 hW nb hP2 kk0 kk1
  have CR := spec_NodeRead t wh (show t.size ≤ 1048576 by omega)
  refine (CR).mono ?_
  rintro e wi ⟨lz, nz, told, rfl, hz, bi⟩
  have d0 : wi.cell? ⟨P0, 0, none⟩ = some (.int .i64 l) := (Below.celz bi _ _ _ (by omega)).trans cc0
  have d1 : wi.cell? ⟨P0, 1, none⟩ = some (.int .i64 n) := (Below.celz bi _ _ _ (by omega)).trans cc1
  have d2 : wi.cell? ⟨P1, 0, none⟩ = some (.int .i64 lx) := (Below.celz bi _ _ _ (by omega)).trans cc2
  have d3 : wi.cell? ⟨P1, 1, none⟩ = some (.int .i64 nx) := (Below.celz bi _ _ _ (by omega)).trans cc3
  have d4 : wi.cell? ⟨P2, 0, none⟩ = some (.int .i64 ly) := (Below.celz bi _ _ _ (by omega)).trans cc4
  have d5 : wi.cell? ⟨P2, 1, none⟩ = some (.int .i64 ny) := (Below.celz bi _ _ _ (by omega)).trans cc5
  have y0 : P0 < wi.heap.size := by have := Below.size bi; omega
  have y1 : P1 < wi.heap.size := by have := Below.size bi; omega
  have y2 : P2 < wi.heap.size := by have := Below.size bi; omega
  have BB1 : Below A wa wi := BB.trans (bi.mono (by omega))
  have sA1 : A ≤ wi.heap.size := by have := Below.size bi; omega
  clear BB sA cc0 cc1 cc2 cc3 cc4 cc5 zz0 zz1 zz2 
  have cc0 := d0
  have cc1 := d1
  have cc2 := d2
  have cc3 := d3
  have cc4 := d4
  have cc5 := d5
  have zz0 := y0
  have zz1 := y1
  have zz2 := y2
  have BB := BB1
  have sA := sA1
  clear BB1 sA1 d0 d1 d2 d3 d4 d5 y0 y1 y2 
  clear bi
  clear CR
  obtain ⟨rfl, rfl, rfl⟩ := HY.out.uniq hz
  clear hz
  go_wp2_with fail
  obtain ⟨P3, hP3⟩ : ∃ t, t = wi.heap.size := ⟨_, rfl⟩
  generalize hW : wi.alloc (.cells #[.int .i64 ly, .int .i64 ny] 24) = wj
  have nb : Below wi.heap.size wi wj := by rw [← hW]; exact (Below.refl _ _).alloc (Nat.le_refl _) _
  have k3 : wj.heap.size = P3 + 1 := by rw [← hW, hP3]; simp
  have kk0 : wj.cell? ⟨P3, 0, none⟩ = some (.int .i64 ly) := by rw [← hW, hP3]; simp [go_sem]
  have kk1 : wj.cell? ⟨P3, 1, none⟩ = some (.int .i64 ny) := by rw [← hW, hP3]; simp [go_sem]
  have oP3A : A ≤ P3 := by rw [hP3]; exact sA
  have oP30 : P0 < P3 := by rw [hP3]; exact zz0
  have oP31 : P1 < P3 := by rw [hP3]; exact zz1
  have oP32 : P2 < P3 := by rw [hP3]; exact zz2
  have d0 : wj.cell? ⟨P0, 0, none⟩ = some (.int .i64 l) := (Below.celz nb _ _ _ (by omega)).trans cc0
  have d1 : wj.cell? ⟨P0, 1, none⟩ = some (.int .i64 n) := (Below.celz nb _ _ _ (by omega)).trans cc1
  have d2 : wj.cell? ⟨P1, 0, none⟩ = some (.int .i64 lx) := (Below.celz nb _ _ _ (by omega)).trans cc2
  have d3 : wj.cell? ⟨P1, 1, none⟩ = some (.int .i64 nx) := (Below.celz nb _ _ _ (by omega)).trans cc3
  have d4 : wj.cell? ⟨P2, 0, none⟩ = some (.int .i64 ly) := (Below.celz nb _ _ _ (by omega)).trans cc4
  have d5 : wj.cell? ⟨P2, 1, none⟩ = some (.int .i64 ny) := (Below.celz nb _ _ _ (by omega)).trans cc5
  have y0 : P0 < wj.heap.size := by have := Below.size nb; omega
  have y1 : P1 < wj.heap.size := by have := Below.size nb; omega
  have y2 : P2 < wj.heap.size := by have := Below.size nb; omega
  have BB1 : Below A wa wj := BB.trans (nb.mono (by omega))
  have sA1 : A ≤ wj.heap.size := by have := Below.size nb; omega
  clear BB sA cc0 cc1 cc2 cc3 cc4 cc5 zz0 zz1 zz2 
  have cc0 := d0
  have cc1 := d1
  have cc2 := d2
  have cc3 := d3
  have cc4 := d4
  have cc5 := d5
  have zz0 := y0
  have zz1 := y1
  have zz2 := y2
  have BB := BB1
  have sA := sA1
  clear BB1 sA1 d0 d1 d2 d3 d4 d5 y0 y1 y2 
  have cc6 := kk0
  have cc7 := kk1
  have zz3 : P3 < wj.heap.size := by omega
  rw [← hP3]
  have k3P3 := k3
  clear k3 hW nb hP3 kk0 kk1
  have CN2 := spec_NodeText l n wj
  rw [← HS.out] at CN2
  have CN2 := CN2
  refine (CN2).mono ?_
  rintro e wk ⟨rfl, bk⟩
  have d0 : wk.cell? ⟨P0, 0, none⟩ = some (.int .i64 l) := (Below.celz bk _ _ _ (by omega)).trans cc0
  have d1 : wk.cell? ⟨P0, 1, none⟩ = some (.int .i64 n) := (Below.celz bk _ _ _ (by omega)).trans cc1
  have d2 : wk.cell? ⟨P1, 0, none⟩ = some (.int .i64 lx) := (Below.celz bk _ _ _ (by omega)).trans cc2
  have d3 : wk.cell? ⟨P1, 1, none⟩ = some (.int .i64 nx) := (Below.celz bk _ _ _ (by omega)).trans cc3
  have d4 : wk.cell? ⟨P2, 0, none⟩ = some (.int .i64 ly) := (Below.celz bk _ _ _ (by omega)).trans cc4
  have d5 : wk.cell? ⟨P2, 1, none⟩ = some (.int .i64 ny) := (Below.celz bk _ _ _ (by omega)).trans cc5
  have d6 : wk.cell? ⟨P3, 0, none⟩ = some (.int .i64 ly) := (Below.celz bk _ _ _ (by omega)).trans cc6
  have d7 : wk.cell? ⟨P3, 1, none⟩ = some (.int .i64 ny) := (Below.celz bk _ _ _ (by omega)).trans cc7
  have y0 : P0 < wk.heap.size := by have := Below.size bk; omega
  have y1 : P1 < wk.heap.size := by have := Below.size bk; omega
  have y2 : P2 < wk.heap.size := by have := Below.size bk; omega
  have y3 : P3 < wk.heap.size := by have := Below.size bk; omega
  have BB1 : Below A wa wk := BB.trans (bk.mono (by omega))
  have sA1 : A ≤ wk.heap.size := by have := Below.size bk; omega
  clear BB sA cc0 cc1 cc2 cc3 cc4 cc5 cc6 cc7 zz0 zz1 zz2 zz3 
  have cc0 := d0
  have cc1 := d1
  have cc2 := d2
  have cc3 := d3
  have cc4 := d4
  have cc5 := d5
  have cc6 := d6
  have cc7 := d7
  have zz0 := y0
  have zz1 := y1
  have zz2 := y2
  have zz3 := y3
  have BB := BB1
  have sA := sA1
  clear BB1 sA1 d0 d1 d2 d3 d4 d5 d6 d7 y0 y1 y2 y3 
  clear bk
  clear CN2
  have hss : (s.toList == s.toList) = true := by simp
  go_wp2_with fail
  refine (impl_NodeOk l n _).mono ?_
  rintro e wl ⟨rfl, bl⟩
  have d0 : wl.cell? ⟨P0, 0, none⟩ = some (.int .i64 l) := (Below.celz bl _ _ _ (by omega)).trans cc0
  have d1 : wl.cell? ⟨P0, 1, none⟩ = some (.int .i64 n) := (Below.celz bl _ _ _ (by omega)).trans cc1
  have d2 : wl.cell? ⟨P1, 0, none⟩ = some (.int .i64 lx) := (Below.celz bl _ _ _ (by omega)).trans cc2
  have d3 : wl.cell? ⟨P1, 1, none⟩ = some (.int .i64 nx) := (Below.celz bl _ _ _ (by omega)).trans cc3
  have d4 : wl.cell? ⟨P2, 0, none⟩ = some (.int .i64 ly) := (Below.celz bl _ _ _ (by omega)).trans cc4
  have d5 : wl.cell? ⟨P2, 1, none⟩ = some (.int .i64 ny) := (Below.celz bl _ _ _ (by omega)).trans cc5
  have d6 : wl.cell? ⟨P3, 0, none⟩ = some (.int .i64 ly) := (Below.celz bl _ _ _ (by omega)).trans cc6
  have d7 : wl.cell? ⟨P3, 1, none⟩ = some (.int .i64 ny) := (Below.celz bl _ _ _ (by omega)).trans cc7
  have y0 : P0 < wl.heap.size := by have := Below.size bl; omega
  have y1 : P1 < wl.heap.size := by have := Below.size bl; omega
  have y2 : P2 < wl.heap.size := by have := Below.size bl; omega
  have y3 : P3 < wl.heap.size := by have := Below.size bl; omega
  have BB1 : Below A wa wl := BB.trans (bl.mono (by omega))
  have sA1 : A ≤ wl.heap.size := by have := Below.size bl; omega
  clear BB sA cc0 cc1 cc2 cc3 cc4 cc5 cc6 cc7 zz0 zz1 zz2 zz3 
  have cc0 := d0
  have cc1 := d1
  have cc2 := d2
  have cc3 := d3
  have cc4 := d4
  have cc5 := d5
  have cc6 := d6
  have cc7 := d7
  have zz0 := y0
  have zz1 := y1
  have zz2 := y2
  have zz3 := y3
  have BB := BB1
  have sA := sA1
  clear BB1 sA1 d0 d1 d2 d3 d4 d5 d6 d7 y0 y1 y2 y3 
  clear bl
  obtain ⟨ho1, ho2⟩ := HX.out
  subst ho1
  clear HX
  have hbb : ∀ b : Bool, (b == b) = true := fun b => by simp
  cases hq : nodeB l n
  · clear ho2
    cases fine
    · clear HY
      go_wp2_with fail
      go_ret
      exact ⟨rfl, (HV2.out _ BB).2⟩
    · have hyt : ndt ly ny = t := by
        rcases HY.out with ⟨_, _, h⟩ | ⟨h, _⟩
        · exact h
        · cases h
      have CN3 := impl_NodeText ly ny wl (HV2.out _ BB).1.1.1
      rw [hyt] at CN3
      clear HY hyt
      have htt : (t.toList == t.toList) = true := by simp
      go_wp2_with fail
      refine (CN3).mono ?_
      rintro e wm ⟨rfl, bm⟩
      have d0 : wm.cell? ⟨P0, 0, none⟩ = some (.int .i64 l) := (Below.celz bm _ _ _ (by omega)).trans cc0
      have d1 : wm.cell? ⟨P0, 1, none⟩ = some (.int .i64 n) := (Below.celz bm _ _ _ (by omega)).trans cc1
      have d2 : wm.cell? ⟨P1, 0, none⟩ = some (.int .i64 lx) := (Below.celz bm _ _ _ (by omega)).trans cc2
      have d3 : wm.cell? ⟨P1, 1, none⟩ = some (.int .i64 nx) := (Below.celz bm _ _ _ (by omega)).trans cc3
      have d4 : wm.cell? ⟨P2, 0, none⟩ = some (.int .i64 ly) := (Below.celz bm _ _ _ (by omega)).trans cc4
      have d5 : wm.cell? ⟨P2, 1, none⟩ = some (.int .i64 ny) := (Below.celz bm _ _ _ (by omega)).trans cc5
      have d6 : wm.cell? ⟨P3, 0, none⟩ = some (.int .i64 ly) := (Below.celz bm _ _ _ (by omega)).trans cc6
      have d7 : wm.cell? ⟨P3, 1, none⟩ = some (.int .i64 ny) := (Below.celz bm _ _ _ (by omega)).trans cc7
      have y0 : P0 < wm.heap.size := by have := Below.size bm; omega
      have y1 : P1 < wm.heap.size := by have := Below.size bm; omega
      have y2 : P2 < wm.heap.size := by have := Below.size bm; omega
      have y3 : P3 < wm.heap.size := by have := Below.size bm; omega
      have BB1 : Below A wa wm := BB.trans (bm.mono (by omega))
      have sA1 : A ≤ wm.heap.size := by have := Below.size bm; omega
      clear BB sA cc0 cc1 cc2 cc3 cc4 cc5 cc6 cc7 zz0 zz1 zz2 zz3 
      have cc0 := d0
      have cc1 := d1
      have cc2 := d2
      have cc3 := d3
      have cc4 := d4
      have cc5 := d5
      have cc6 := d6
      have cc7 := d7
      have zz0 := y0
      have zz1 := y1
      have zz2 := y2
      have zz3 := y3
      have BB := BB1
      have sA := sA1
      clear BB1 sA1 d0 d1 d2 d3 d4 d5 d6 d7 y0 y1 y2 y3 
      clear bm
      clear CN3
      go_wp2_with fail
      go_ret
      exact ⟨rfl, (HV2.out _ BB).2⟩
  · obtain ⟨rfl, rfl⟩ := ho2 hq
    clear ho2
    cases fine
    · clear HY
      go_wp2_with fail
      go_ret
      exact ⟨rfl, (HV2.out _ BB).2⟩
    · have hyt : ndt ly ny = t := by
        rcases HY.out with ⟨_, _, h⟩ | ⟨h, _⟩
        · exact h
        · cases h
      have CN3 := impl_NodeText ly ny wl (HV2.out _ BB).1.1.1
      rw [hyt] at CN3
      clear HY hyt
      have htt : (t.toList == t.toList) = true := by simp
      go_wp2_with fail
      refine (CN3).mono ?_
      rintro e wm ⟨rfl, bm⟩
      have d0 : wm.cell? ⟨P0, 0, none⟩ = some (.int .i64 lx) := (Below.celz bm _ _ _ (by omega)).trans cc0
      have d1 : wm.cell? ⟨P0, 1, none⟩ = some (.int .i64 nx) := (Below.celz bm _ _ _ (by omega)).trans cc1
      have d2 : wm.cell? ⟨P1, 0, none⟩ = some (.int .i64 lx) := (Below.celz bm _ _ _ (by omega)).trans cc2
      have d3 : wm.cell? ⟨P1, 1, none⟩ = some (.int .i64 nx) := (Below.celz bm _ _ _ (by omega)).trans cc3
      have d4 : wm.cell? ⟨P2, 0, none⟩ = some (.int .i64 ly) := (Below.celz bm _ _ _ (by omega)).trans cc4
      have d5 : wm.cell? ⟨P2, 1, none⟩ = some (.int .i64 ny) := (Below.celz bm _ _ _ (by omega)).trans cc5
      have d6 : wm.cell? ⟨P3, 0, none⟩ = some (.int .i64 ly) := (Below.celz bm _ _ _ (by omega)).trans cc6
      have d7 : wm.cell? ⟨P3, 1, none⟩ = some (.int .i64 ny) := (Below.celz bm _ _ _ (by omega)).trans cc7
      have y0 : P0 < wm.heap.size := by have := Below.size bm; omega
      have y1 : P1 < wm.heap.size := by have := Below.size bm; omega
      have y2 : P2 < wm.heap.size := by have := Below.size bm; omega
      have y3 : P3 < wm.heap.size := by have := Below.size bm; omega
      have BB1 : Below A wa wm := BB.trans (bm.mono (by omega))
      have sA1 : A ≤ wm.heap.size := by have := Below.size bm; omega
      clear BB sA cc0 cc1 cc2 cc3 cc4 cc5 cc6 cc7 zz0 zz1 zz2 zz3 
      have cc0 := d0
      have cc1 := d1
      have cc2 := d2
      have cc3 := d3
      have cc4 := d4
      have cc5 := d5
      have cc6 := d6
      have cc7 := d7
      have zz0 := y0
      have zz1 := y1
      have zz2 := y2
      have zz3 := y3
      have BB := BB1
      have sA := sA1
      clear BB1 sA1 d0 d1 d2 d3 d4 d5 d6 d7 y0 y1 y2 y3 
      clear bm
      clear CN3
      go_wp2_with fail
      go_ret
      exact ⟨rfl, (HV2.out _ BB).2⟩

theorem door_met (os : Os) (args : Array Value) : laidMetH Tryd.prog Rows.fnNodeTextRow.laid ((World.doorLaid Tryd.prog 67 os).forCall (fun _ _ => 0) ⟨#[], args, []⟩).memory :=
  laidMetH_of_parts3 (fuel := 8) (laidMet_of_run' 8 (by kernel_rfl) (by kernel_rfl)) (by kernel_rfl) (by kernel_rfl)

set_option maxRecDepth 100000 in
set_option maxHeartbeats 1000000 in
theorem lifted (os : Os) (started : os.Started) (H : Type) (enc : TypeId × Value → H) :
    ReturnsInHanded {} Tryd.checked os 3 .any (fun w args => (Rows.fnNodeTextSpec.pre enc Tryd.prog Tryd.f3 [] false w args ∧ laidMetH Tryd.prog Rows.fnNodeTextRow.laid w) ∧ sizedMet enc Tryd.prog Tryd.f3 (OpenSpec.ofChange Rows.fnNodeTextSpec) false w args)
      (Rows.fnNodeTextSpec.post enc Tryd.prog Tryd.f3 false true false false) := by
  refine returnsInHanded_of_change_andS (C := Tryd.checked) (X := fun w _ => laidMetH Tryd.prog Rows.fnNodeTextRow.laid w) (fun _ _ _ hh h => h.of_heap hh) own started (by kernel_rfl) Tryd.func3
    (ChangeSpec.witness_shaped (enc := enc) (C := Tryd.checked) (os := os) (X := fun w _ => laidMetH Tryd.prog Rows.fnNodeTextRow.laid w) false (World.doorLaid Tryd.prog 67 os) #[.slice none 0 0, .slice none 0 0] 8 rfl (World.shaped_of_RefB (by kernel_rfl) (by kernel_rfl)) (by kernel_rfl) (by kernel_rfl) (by kernel_rfl) (door_met os _)) ?_
  intro W base args ds gs before hval0 hW _ _ hL hsh _
  have hval : ∀ (j : Nat) t v, Tryd.f3.params[j]? = some t → args[j]? = some v → Value.okWide Tryd.prog W .any base t v := hval0
  have hW' := hW
  obtain ⟨p, q, hA0, hV0, rfl, hfz, hnd⟩ := hW
  have hA : DataW.TrodAll enc Tryd.prog W 0 (fun _ => true) true Tryd.f3.params.toList args.toList ds p := hA0
  have hV : DataW.TrodVars enc Tryd.prog W (fun _ => true) ["loop.example/hagioscope/impl.labelTexts"] gs q := hV0
  rw [Tryd.params3] at hA hval
  obtain ⟨v0, vs0, d0, ds0, p0, q0, hargs, rfl, rfl, h0, r0⟩ := trodAll_cons hA
  obtain ⟨v1, vs1, d1, ds1, p1, q1, rfl, rfl, rfl, h1, r1⟩ := trodAll_cons r0
  obtain ⟨rfl, rfl, rfl⟩ := trodAll_nil r1
  obtain rfl : args = #[v0, v1] := by cases args; simp_all
  have kr0 := h0
  have lt0 : ∀ x ∈ p0, x.block < W.heap.size := by obtain ⟨m, hm⟩ := kr0; exact DataW.trod_lt m _ _ _ hm
  have kr1 := h1
  have lt1 : ∀ x ∈ p1, x.block < W.heap.size := by obtain ⟨m, hm⟩ := kr1; exact DataW.trod_lt m _ _ _ hm
  obtain ⟨a0, len0, cap0, rfl⟩ := okWide_slice Tryd.underlying22 (hval 0 22 v0 rfl rfl)
  obtain ⟨z0, w0⟩ : ∃ zs, IsRow .u8 W a0 len0 cap0 zs := by
    obtain ⟨fuel, hf⟩ := h0
    rcases open_ints Tryd.underlying22 Tryd.underlying5 (by kernel_rfl) hf with ⟨hcs, _⟩ | ⟨x, l, c, zs, hcs, _, hl, hm, hz, _, hcell, hwz⟩
    · simp [Value.cells] at hcs
      obtain ⟨rfl, rfl, rfl⟩ := hcs
      exact ⟨[], .inl ⟨rfl, rfl, rfl, rfl⟩⟩
    · simp [Value.cells] at hcs
      obtain ⟨rfl, rfl, rfl⟩ := hcs
      exact ⟨zs, .inr ⟨_, rfl, hl, hm, by simpa using hz, hcell, hwz⟩⟩
  obtain ⟨a1, len1, cap1, rfl⟩ := okWide_slice Tryd.underlying22 (hval 1 22 v1 rfl rfl)
  obtain ⟨z1, w1⟩ : ∃ zs, IsRow .u8 W a1 len1 cap1 zs := by
    obtain ⟨fuel, hf⟩ := h1
    rcases open_ints Tryd.underlying22 Tryd.underlying5 (by kernel_rfl) hf with ⟨hcs, _⟩ | ⟨x, l, c, zs, hcs, _, hl, hm, hz, _, hcell, hwz⟩
    · simp [Value.cells] at hcs
      obtain ⟨rfl, rfl, rfl⟩ := hcs
      exact ⟨[], .inl ⟨rfl, rfl, rfl, rfl⟩⟩
    · simp [Value.cells] at hcs
      obtain ⟨rfl, rfl, rfl⟩ := hcs
      exact ⟨zs, .inr ⟨_, rfl, hl, hm, by simpa using hz, hcell, hwz⟩⟩
  have hlq := DataW.TrodVars.lt hV
  obtain ⟨g, t, cs, fuel, d, p', rfl, hg, ht, hvar, hd, rfl⟩ := trodVars_one hV
  obtain rfl := Option.some.inj (gTexts.symm.trans hg)
  obtain rfl := Option.some.inj (tTexts.symm.trans ht)
  have htab : Table W := tableOf (by kernel_rfl) (by simp [Rows.fnNodeTextRow]) hL
  have hml : ∃ m, W.cell? ⟨1, 0, none⟩ = some (.int .i64 m) := maxLenOf hsh
  have hsy : ∃ u v, W.cell? ⟨3, 0, none⟩ = some (.iface u v) := errAtOf (n := "strconv.ErrSyntax") (by kernel_rfl) (show (_, Rows.laid_strconv_ErrSyntax) ∈ _ by simp [Rows.fnNodeTextRow]) hL (by kernel_rfl) (by kernel_rfl) Tryd.underlying59
  have hra : ∃ u v, W.cell? ⟨4, 0, none⟩ = some (.iface u v) := errAtOf (n := "strconv.ErrRange") (by kernel_rfl) (show (_, Rows.laid_strconv_ErrRange) ∈ _ by simp [Rows.fnNodeTextRow]) hL (by kernel_rfl) (by kernel_rfl) Tryd.underlying59
  have hpw := powOf (by kernel_rfl) (show ("internal/strconv.uint64pow10", Rows.laid_internal_strconv_uint64pow10) ∈ _ by simp [Rows.fnNodeTextRow]) hL
  clear hA0 hV0 hval0
  refine (walk a0 len0 cap0 z0 a1 len1 cap1 z1 W w0 w1 htab hml hsy hra hpw).mono fun e W' ⟨he, bel⟩ => ?_
  subst he
  exact ⟨_, rfl, _, _, _, [], _, _, hW', trodAll_mk1 (shut_bool Tryd.underlying4 _), (trodAll_cons_mk (Below.trod laidOut (by kernel_rfl) (of_decide_eq_true (by kernel_rfl)) kr0 bel lt0) (trodAll_cons_mk (Below.trod laidOut (by kernel_rfl) (of_decide_eq_true (by kernel_rfl)) kr1 bel lt1) trodAll_mk0)), var_again gTexts tTexts (by kernel_rfl) (of_decide_eq_true (by kernel_rfl)) hvar hd (fun x hx => hlq x (List.mem_append_right _ hx)) bel, bel.frame _, fun h => by cases h⟩

theorem said : Rows.FnNodeTextSaid :=
  OpenClaim.holds_of_wide 3 Tryd.f3 rfl rfl rfl rfl rfl rfl rfl ⟨rfl, rfl, rfl, rfl, rfl⟩ rfl rfl rfl rfl rfl (by kernel_rfl) Tryd.func3 (by kernel_rfl)
    (of_decide_eq_true (by kernel_rfl)) (by unfold Func.isWrapper; first | (rw [if_pos (by decide +kernel)]; kernel_rfl) | (rw [if_neg (by decide +kernel)]; exact ⟨rfl, rfl⟩))
    (fun os started H enc _ => lifted os started H enc)

theorem plain (f : FuncId) (fn : Func) (hf : Tryd.pinned.checked.prog.funcNamed "loop.example/hagioscope/laws.FnNodeText" = some f) (hfn : Tryd.pinned.checked.prog.funcs[f]? = some fn) :
    true = Tryd.pinned.checked.prog.looks [] ∧ ∀ (j : Nat) t, fn.params[j]? = some t → Tryd.pinned.checked.prog.wantsStandIn t = false := by
  obtain rfl : f = 3 := Option.some.inj ((show Tryd.prog.funcNamed "loop.example/hagioscope/laws.FnNodeText" = some 3 by kernel_rfl).symm.trans hf) |>.symm
  obtain rfl : fn = Tryd.f3 := (Option.some.inj (Tryd.func3.symm.trans hfn)).symm
  refine ⟨by kernel_rfl, fun j t ht => ?_⟩
  rw [Tryd.params3] at ht
  obtain rfl : t = 22 := by simpa using Array.mem_of_getElem? ht
  · exact (show Tryd.prog.wantsStandIn 22 = false by kernel_rfl)

end Go.Proofs.YtbgcalhpopcakaaDoor.fnNodeText
namespace Go.Proofs.YtbgcalhpopcakaaDoor
theorem fnNodeText_card : Rows.FnNodeTextCardSaid :=
  Claim7.holds_tied_plain_at .later [] _ _ _ _ fnNodeText.said (fun _ h => by cases h) (by kernel_rfl) (fun _ h => by cases h) fnNodeText_row_tie rfl ⟨rfl, rfl⟩ (by kernel_rfl) rfl fnNodeText.plain (by kernel_rfl)
#print axioms fnNodeText_card
end Go.Proofs.YtbgcalhpopcakaaDoor

/-
  At every store of at most 2^20 parts and bytes together and every number impl.StoreView answers as spec.StoreView does, writes into no argument, and its answer owns its memory.
-/
import Derived.Test.YtgjpnhdahigodaaRows
import Derived.Test.YtgjpnhdahigodaaOps
import Derived.Test.YtgjpnhdahigodaaSvw
import Derived.WalkKit
import Derived.ProofKit
import Derived.OpenShut
import Derived.ShutString
import Derived.ChangeOld
import Derived.Below
import Derived.Carry
import Derived.Handy
import Derived.Deep.RegionHeld3
namespace Go.Proofs.Ytgjpnhdahigodaa.fnExactStoreView
open Go.Proofs.Ytgjpnhdahigodaa.Lab
open Go.ChangeShapes Go.WideShapes Go.ChangeAt Go.RowKit
open Go.ChangeMaps (open_string shut_string)
set_option linter.unusedVariables false

theorem own : ownKnob Try.prog.godebug = none := by kernel_rfl
theorem laidOut : laidOutB Try.prog = true := by kernel_rfl
/-- A row of numbers that came in: nil, or so many cells. -/
def IsRow (k : IntKind) (w : World) (a : Option Addr) (len cap : Nat) (zs : List Int) : Prop :=
  (a = none ∧ len = 0 ∧ cap = 0 ∧ zs = []) ∨ ∃ x, a = some x ∧ len ≤ cap ∧ cap ≤ maxLen ∧ zs.length = cap ∧ (∀ i, i < zs.length → w.cell? (x.add i) = some (.int k (zs.getD i 0))) ∧ ∀ n ∈ zs, (Lit.int k n).wf = true

set_option maxHeartbeats 4000000 in
theorem walk (v0 : Value) (xs0 : List (Int × List UInt8)) (a1 : Int) (w : World) (w0 : SegsIn w v0 xs0) (w1 : (Lit.int .i64 a1).wf = true) :
    Calls Try.prog 4 #[v0, .int .i64 a1] w fun e w' => e = .returned (.bool true) ∧ Below w.heap.size w w' := by
  obtain ⟨r0, m0, g0⟩ := w0
  simp only [maxLen, Nat.reducePow, Nat.reduceSub] at m0 g0
  have HR : Hid (RowAt 2 encSeg w v0 xs0) := r0
  have HM : Hid (∀ x ∈ xs0, x.2.length ≤ 9223372036854775807) := fun x hx => (g0 x hx).2
  clear r0 g0
  go_enter Try.func4, Try.ntmps4
  go_wp2_with fail
  refine (szSegS v0 xs0 1048576 _ HR.out (by omega) (by omega) m0 HM.out).mono ?_
  rintro e wa ⟨⟨p, rfl, p0, p1, p2⟩, ba⟩
  have HA : Hid (Below w.heap.size w wa) := ba
  clear ba
  by_cases hA : p < 0
  · go_wp2_with fail
    go_ret
    exact ⟨rfl, HA.out⟩
  obtain ⟨p3, p4⟩ := p2 (by omega)
  have HL : Hid (∀ x ∈ xs0, x.2.length ≤ 1048576) := p4
  clear p2 p4
  have l0 : xs0.length ≤ 1048576 := by omega
  have lv : (viewS a1 xs0).length ≤ 1048576 := Nat.le_trans (viewS_le _ _) l0
  obtain ⟨N, hN⟩ : ∃ N, N = xs0.length := ⟨_, rfl⟩
  obtain ⟨M, hM⟩ : ∃ M, M = (viewS a1 xs0).length := ⟨_, rfl⟩
  have HNM : Hid (N = xs0.length ∧ M = (viewS a1 xs0).length) := ⟨hN, hM⟩
  have lN : N ≤ 1048576 := by omega
  have lM : M ≤ 1048576 := by omega
  clear hN hM
  go_wp2_with fail
  refine (toSegS v0 xs0 _ (HR.out.keep HA.out) l0).mono ?_
  rintro e w2 ⟨u1, rfl, ou1, bu1⟩
  have Hw2 : Hid (Below w.heap.size w w2) := HA.out.trans (bu1.mono HA.out.size)
  have Ou1_w2 : Hid (w2.ownsRow w.heap.size 48 2 u1 (xs0).length ((xs0).flatMap encSeg)) := own_mono ou1 HA.out.size
  clear ou1 bu1
  go_wp2_with fail
  refine (spec_StoreView u1 a1 xs0 _ (row_of_own encSeg_len (by decide) Ou1_w2.out) l0).mono ?_
  rintro e w3 ⟨y0, rfl, oy0, by0⟩
  have Hw3 : Hid (Below w.heap.size w w3) := Hw2.out.trans (by0.mono Hw2.out.size)
  have AP_y0_u1 : Hid (∀ g, Value.ownBlock y0 = some g → Value.ownBlock u1 = some g → False) := fun g h1 h2 => by have := (oy0.lt g h1).1; have := (Ou1_w2.out.lt g h2).2; omega
  have Ou1_w3 : Hid (w3.ownsRow w.heap.size 48 2 u1 (xs0).length ((xs0).flatMap encSeg)) := own_keep Ou1_w2.out by0
  have Oy0_w3 : Hid (w3.ownsRow w.heap.size 48 2 y0 (viewS a1 xs0).length ((viewS a1 xs0).flatMap encSeg)) := own_mono oy0 Hw2.out.size
  clear oy0 by0
  go_wp2_with fail
  refine (toSegS v0 xs0 _ (HR.out.keep Hw3.out) l0).mono ?_
  rintro e w4 ⟨x0, rfl, ox0, bx0⟩
  have Hw4 : Hid (Below w.heap.size w w4) := Hw3.out.trans (bx0.mono Hw3.out.size)
  have AP_x0_y0 : Hid (∀ g, Value.ownBlock x0 = some g → Value.ownBlock y0 = some g → False) := fun g h1 h2 => by have := (ox0.lt g h1).1; have := (Oy0_w3.out.lt g h2).2; omega
  have Oy0_w4 : Hid (w4.ownsRow w.heap.size 48 2 y0 (viewS a1 xs0).length ((viewS a1 xs0).flatMap encSeg)) := own_keep Oy0_w3.out bx0
  have Ox0_w4 : Hid (w4.ownsRow w.heap.size 48 2 x0 (xs0).length ((xs0).flatMap encSeg)) := own_mono ox0 Hw3.out.size
  clear ox0 bx0
  go_wp2_with fail
  refine (impl_StoreView x0 a1 xs0 _ (row_of_own encSeg_len (by decide) Ox0_w4.out) l0 HL.out).mono ?_
  rintro e w5 ⟨g0, rfl, og0, bg0⟩
  have Hw5 : Hid (Below w.heap.size w w5) := Hw4.out.trans (bg0.mono Hw4.out.size)
  have AP_g0_y0 : Hid (∀ g, Value.ownBlock g0 = some g → Value.ownBlock y0 = some g → False) := fun g h1 h2 => by have := (og0.lt g h1).1; have := (Oy0_w4.out.lt g h2).2; omega
  have AP_g0_x0 : Hid (∀ g, Value.ownBlock g0 = some g → Value.ownBlock x0 = some g → False) := fun g h1 h2 => by have := (og0.lt g h1).1; have := (Ox0_w4.out.lt g h2).2; omega
  have Oy0_w5 : Hid (w5.ownsRow w.heap.size 48 2 y0 (viewS a1 xs0).length ((viewS a1 xs0).flatMap encSeg)) := own_keep Oy0_w4.out bg0
  have Ox0_w5 : Hid (w5.ownsRow w.heap.size 48 2 x0 (xs0).length ((xs0).flatMap encSeg)) := own_keep Ox0_w4.out bg0
  have Og0_w5 : Hid (w5.ownsRow w.heap.size 48 2 g0 (viewS a1 xs0).length ((viewS a1 xs0).flatMap encSeg)) := own_mono og0 Hw4.out.size
  clear og0 bg0
  go_wp2_with fail
  refine (eqSegS g0 y0 (viewS a1 xs0) (viewS a1 xs0) _ (row_of_own encSeg_len (by decide) Og0_w5.out) (row_of_own encSeg_len (by decide) Oy0_w5.out) lv lv).mono ?_
  rintro e w6 ⟨rfl, bw6⟩
  have Hw6 : Hid (Below w.heap.size w w6) := Hw5.out.trans (bw6.mono Hw5.out.size)
  have Oy0_w6 : Hid (w6.ownsRow w.heap.size 48 2 y0 (viewS a1 xs0).length ((viewS a1 xs0).flatMap encSeg)) := own_keep Oy0_w5.out bw6
  have Ox0_w6 : Hid (w6.ownsRow w.heap.size 48 2 x0 (xs0).length ((xs0).flatMap encSeg)) := own_keep Ox0_w5.out bw6
  have Og0_w6 : Hid (w6.ownsRow w.heap.size 48 2 g0 (viewS a1 xs0).length ((viewS a1 xs0).flatMap encSeg)) := own_keep Og0_w5.out bw6
  clear bw6
  rw [eqB_true.2 rfl]
  go_wp2_with fail
  refine (toSegS v0 xs0 _ (HR.out.keep Hw6.out) l0).mono ?_
  rintro e w7 ⟨u5, rfl, ou5, bu5⟩
  have Hw7 : Hid (Below w.heap.size w w7) := Hw6.out.trans (bu5.mono Hw6.out.size)
  have AP_u5_y0 : Hid (∀ g, Value.ownBlock u5 = some g → Value.ownBlock y0 = some g → False) := fun g h1 h2 => by have := (ou5.lt g h1).1; have := (Oy0_w6.out.lt g h2).2; omega
  have AP_u5_x0 : Hid (∀ g, Value.ownBlock u5 = some g → Value.ownBlock x0 = some g → False) := fun g h1 h2 => by have := (ou5.lt g h1).1; have := (Ox0_w6.out.lt g h2).2; omega
  have AP_u5_g0 : Hid (∀ g, Value.ownBlock u5 = some g → Value.ownBlock g0 = some g → False) := fun g h1 h2 => by have := (ou5.lt g h1).1; have := (Og0_w6.out.lt g h2).2; omega
  have Oy0_w7 : Hid (w7.ownsRow w.heap.size 48 2 y0 (viewS a1 xs0).length ((viewS a1 xs0).flatMap encSeg)) := own_keep Oy0_w6.out bu5
  have Ox0_w7 : Hid (w7.ownsRow w.heap.size 48 2 x0 (xs0).length ((xs0).flatMap encSeg)) := own_keep Ox0_w6.out bu5
  have Og0_w7 : Hid (w7.ownsRow w.heap.size 48 2 g0 (viewS a1 xs0).length ((viewS a1 xs0).flatMap encSeg)) := own_keep Og0_w6.out bu5
  have Ou5_w7 : Hid (w7.ownsRow w.heap.size 48 2 u5 (xs0).length ((xs0).flatMap encSeg)) := own_mono ou5 Hw6.out.size
  clear ou5 bu5
  go_wp2_with fail
  refine (eqSegS x0 u5 (xs0) (xs0) _ (row_of_own encSeg_len (by decide) Ox0_w7.out) (row_of_own encSeg_len (by decide) Ou5_w7.out) l0 l0).mono ?_
  rintro e w8 ⟨rfl, bw8⟩
  have Hw8 : Hid (Below w.heap.size w w8) := Hw7.out.trans (bw8.mono Hw7.out.size)
  have Oy0_w8 : Hid (w8.ownsRow w.heap.size 48 2 y0 (viewS a1 xs0).length ((viewS a1 xs0).flatMap encSeg)) := own_keep Oy0_w7.out bw8
  have Ox0_w8 : Hid (w8.ownsRow w.heap.size 48 2 x0 (xs0).length ((xs0).flatMap encSeg)) := own_keep Ox0_w7.out bw8
  have Og0_w8 : Hid (w8.ownsRow w.heap.size 48 2 g0 (viewS a1 xs0).length ((viewS a1 xs0).flatMap encSeg)) := own_keep Og0_w7.out bw8
  have Ou5_w8 : Hid (w8.ownsRow w.heap.size 48 2 u5 (xs0).length ((xs0).flatMap encSeg)) := own_keep Ou5_w7.out bw8
  clear bw8
  rw [eqB_true.2 rfl]
  go_wp2_with fail
  refine (markSegS w.heap.size xs0.length x0 1 _ _ (by omega) (by omega) l0 Ox0_w8.out).mono ?_
  rintro e w9 ⟨rfl, ow9, gw9⟩
  have Hw9 : Hid (Below w.heap.size w w9) := Hw8.out.grown gw9 Hw8.out.size (fun g hg => (Ox0_w8.out.lt g hg).1)
  have Oy0_w9 : Hid (w9.ownsRow w.heap.size 48 2 y0 (viewS a1 xs0).length ((viewS a1 xs0).flatMap encSeg)) := own_gr Oy0_w8.out gw9 (fun k h1 h2 => (AP_x0_y0.out k h2 h1))
  have Og0_w9 : Hid (w9.ownsRow w.heap.size 48 2 g0 (viewS a1 xs0).length ((viewS a1 xs0).flatMap encSeg)) := own_gr Og0_w8.out gw9 (fun k h1 h2 => (AP_g0_x0.out k h1 h2))
  have Ox0_w9 : Hid (w9.ownsRow w.heap.size 48 2 x0 (marksSeg 1 xs0.length).length ((marksSeg 1 xs0.length).flatMap encSeg)) := by show w9.ownsRow w.heap.size 48 2 x0 (marksSeg 1 xs0.length).length ((marksSeg 1 xs0.length).flatMap encSeg); rw [marksSeg_len]; exact ow9
  clear ow9 gw9
  rw [← HNM.out.1]
  have nk : ¬ (1 + 2 * (N : Int)) < 0 := by omega
  go_wp2_with fail
  refine (eqSegS g0 y0 (viewS a1 xs0) (viewS a1 xs0) _ (row_of_own encSeg_len (by decide) Og0_w9.out) (row_of_own encSeg_len (by decide) Oy0_w9.out) lv lv).mono ?_
  rintro e w10 ⟨rfl, bw10⟩
  have Hw10 : Hid (Below w.heap.size w w10) := Hw9.out.trans (bw10.mono Hw9.out.size)
  have Oy0_w10 : Hid (w10.ownsRow w.heap.size 48 2 y0 (viewS a1 xs0).length ((viewS a1 xs0).flatMap encSeg)) := own_keep Oy0_w9.out bw10
  have Og0_w10 : Hid (w10.ownsRow w.heap.size 48 2 g0 (viewS a1 xs0).length ((viewS a1 xs0).flatMap encSeg)) := own_keep Og0_w9.out bw10
  clear bw10
  rw [eqB_true.2 rfl]
  go_wp2_with fail
  refine (markSegS w.heap.size (viewS a1 xs0).length g0 1 _ _ (by omega) (by omega) lv Og0_w10.out).mono ?_
  rintro e w11 ⟨rfl, ow11, gw11⟩
  have Hw11 : Hid (Below w.heap.size w w11) := Hw10.out.grown gw11 Hw10.out.size (fun g hg => (Og0_w10.out.lt g hg).1)
  have Oy0_w11 : Hid (w11.ownsRow w.heap.size 48 2 y0 (viewS a1 xs0).length ((viewS a1 xs0).flatMap encSeg)) := own_gr Oy0_w10.out gw11 (fun k h1 h2 => (AP_g0_y0.out k h2 h1))
  have Og0_w11 : Hid (w11.ownsRow w.heap.size 48 2 g0 (marksSeg 1 (viewS a1 xs0).length).length ((marksSeg 1 (viewS a1 xs0).length).flatMap encSeg)) := by show w11.ownsRow w.heap.size 48 2 g0 (marksSeg 1 (viewS a1 xs0).length).length ((marksSeg 1 (viewS a1 xs0).length).flatMap encSeg); rw [marksSeg_len]; exact ow11
  clear ow11 gw11
  rw [← HNM.out.2]
  have nm : ¬ (1 + 2 * (M : Int)) < 0 := by omega
  have nb : ((1 + 2 * (M : Int)) != (1 + 2 * (M : Int))) = false := by simp
  go_wp2_with fail
  refine (heldSegS (viewS a1 xs0).length g0 1 _ (by omega) (by omega) lv (row_of_own encSeg_len (by decide) Og0_w11.out)).mono ?_
  rintro e w12 ⟨rfl, bw12⟩
  have Hw12 : Hid (Below w.heap.size w w12) := Hw11.out.trans (bw12.mono Hw11.out.size)
  have Oy0_w12 : Hid (w12.ownsRow w.heap.size 48 2 y0 (viewS a1 xs0).length ((viewS a1 xs0).flatMap encSeg)) := own_keep Oy0_w11.out bw12
  have Og0_w12 : Hid (w12.ownsRow w.heap.size 48 2 g0 (marksSeg 1 (viewS a1 xs0).length).length ((marksSeg 1 (viewS a1 xs0).length).flatMap encSeg)) := own_keep Og0_w11.out bw12
  clear bw12
  rw [← HNM.out.2]
  go_wp2_with fail
  refine (toSegS v0 xs0 _ (HR.out.keep Hw12.out) l0).mono ?_
  rintro e w13 ⟨u6, rfl, ou6, bu6⟩
  have Hw13 : Hid (Below w.heap.size w w13) := Hw12.out.trans (bu6.mono Hw12.out.size)
  have AP_u6_y0 : Hid (∀ g, Value.ownBlock u6 = some g → Value.ownBlock y0 = some g → False) := fun g h1 h2 => by have := (ou6.lt g h1).1; have := (Oy0_w12.out.lt g h2).2; omega
  have AP_u6_g0 : Hid (∀ g, Value.ownBlock u6 = some g → Value.ownBlock g0 = some g → False) := fun g h1 h2 => by have := (ou6.lt g h1).1; have := (Og0_w12.out.lt g h2).2; omega
  have Oy0_w13 : Hid (w13.ownsRow w.heap.size 48 2 y0 (viewS a1 xs0).length ((viewS a1 xs0).flatMap encSeg)) := own_keep Oy0_w12.out bu6
  have Og0_w13 : Hid (w13.ownsRow w.heap.size 48 2 g0 (marksSeg 1 (viewS a1 xs0).length).length ((marksSeg 1 (viewS a1 xs0).length).flatMap encSeg)) := own_keep Og0_w12.out bu6
  have Ou6_w13 : Hid (w13.ownsRow w.heap.size 48 2 u6 (xs0).length ((xs0).flatMap encSeg)) := own_mono ou6 Hw12.out.size
  clear ou6 bu6
  go_wp2_with fail
  refine (impl_StoreView u6 a1 xs0 _ (row_of_own encSeg_len (by decide) Ou6_w13.out) l0 HL.out).mono ?_
  rintro e w14 ⟨h0, rfl, oh0, bh0⟩
  have Hw14 : Hid (Below w.heap.size w w14) := Hw13.out.trans (bh0.mono Hw13.out.size)
  have AP_h0_y0 : Hid (∀ g, Value.ownBlock h0 = some g → Value.ownBlock y0 = some g → False) := fun g h1 h2 => by have := (oh0.lt g h1).1; have := (Oy0_w13.out.lt g h2).2; omega
  have AP_h0_g0 : Hid (∀ g, Value.ownBlock h0 = some g → Value.ownBlock g0 = some g → False) := fun g h1 h2 => by have := (oh0.lt g h1).1; have := (Og0_w13.out.lt g h2).2; omega
  have AP_h0_u6 : Hid (∀ g, Value.ownBlock h0 = some g → Value.ownBlock u6 = some g → False) := fun g h1 h2 => by have := (oh0.lt g h1).1; have := (Ou6_w13.out.lt g h2).2; omega
  have Oy0_w14 : Hid (w14.ownsRow w.heap.size 48 2 y0 (viewS a1 xs0).length ((viewS a1 xs0).flatMap encSeg)) := own_keep Oy0_w13.out bh0
  have Og0_w14 : Hid (w14.ownsRow w.heap.size 48 2 g0 (marksSeg 1 (viewS a1 xs0).length).length ((marksSeg 1 (viewS a1 xs0).length).flatMap encSeg)) := own_keep Og0_w13.out bh0
  have Ou6_w14 : Hid (w14.ownsRow w.heap.size 48 2 u6 (xs0).length ((xs0).flatMap encSeg)) := own_keep Ou6_w13.out bh0
  have Oh0_w14 : Hid (w14.ownsRow w.heap.size 48 2 h0 (viewS a1 xs0).length ((viewS a1 xs0).flatMap encSeg)) := own_mono oh0 Hw13.out.size
  clear oh0 bh0
  go_wp2_with fail
  refine (eqSegS h0 y0 (viewS a1 xs0) (viewS a1 xs0) _ (row_of_own encSeg_len (by decide) Oh0_w14.out) (row_of_own encSeg_len (by decide) Oy0_w14.out) lv lv).mono ?_
  rintro e w15 ⟨rfl, bw15⟩
  have Hw15 : Hid (Below w.heap.size w w15) := Hw14.out.trans (bw15.mono Hw14.out.size)
  have Oy0_w15 : Hid (w15.ownsRow w.heap.size 48 2 y0 (viewS a1 xs0).length ((viewS a1 xs0).flatMap encSeg)) := own_keep Oy0_w14.out bw15
  have Og0_w15 : Hid (w15.ownsRow w.heap.size 48 2 g0 (marksSeg 1 (viewS a1 xs0).length).length ((marksSeg 1 (viewS a1 xs0).length).flatMap encSeg)) := own_keep Og0_w14.out bw15
  have Oh0_w15 : Hid (w15.ownsRow w.heap.size 48 2 h0 (viewS a1 xs0).length ((viewS a1 xs0).flatMap encSeg)) := own_keep Oh0_w14.out bw15
  clear bw15
  rw [eqB_true.2 rfl]
  go_wp2_with fail
  refine (heldSegS (viewS a1 xs0).length g0 1 _ (by omega) (by omega) lv (row_of_own encSeg_len (by decide) Og0_w15.out)).mono ?_
  rintro e w16 ⟨rfl, bw16⟩
  have Hw16 : Hid (Below w.heap.size w w16) := Hw15.out.trans (bw16.mono Hw15.out.size)
  have Oy0_w16 : Hid (w16.ownsRow w.heap.size 48 2 y0 (viewS a1 xs0).length ((viewS a1 xs0).flatMap encSeg)) := own_keep Oy0_w15.out bw16
  have Og0_w16 : Hid (w16.ownsRow w.heap.size 48 2 g0 (marksSeg 1 (viewS a1 xs0).length).length ((marksSeg 1 (viewS a1 xs0).length).flatMap encSeg)) := own_keep Og0_w15.out bw16
  have Oh0_w16 : Hid (w16.ownsRow w.heap.size 48 2 h0 (viewS a1 xs0).length ((viewS a1 xs0).flatMap encSeg)) := own_keep Oh0_w15.out bw16
  clear bw16
  rw [← HNM.out.2]
  go_wp2_with fail
  go_ret
  exact ⟨rfl, Hw16.out⟩

set_option maxRecDepth 100000 in
set_option maxHeartbeats 1000000 in
theorem lifted (os : Os) (started : os.Started) (H : Type) (enc : TypeId × Value → H) :
    ReturnsInHanded {} Try.checked os 4 .any (Rows.fnExactStoreViewSpec.pre6 enc Try.prog Try.f4 Rows.fnExactStoreViewRow.domain false) (Rows.fnExactStoreViewSpec.post enc Try.prog Try.f4 false true false false) := by
  refine returnsInHanded_of_change (C := Try.checked) own started (by kernel_rfl) Try.func4
    (ChangeSpec.witness6 (enc := enc) (C := Try.checked) false ⟨#[], #[.slice none 0 0, .int .i64 0], []⟩ 8 (by kernel_rfl) (by kernel_rfl) (by kernel_rfl) (by kernel_rfl)) ?_
  intro W base args ds gs before hval0 hW hcnd _
  have hval : ∀ (j : Nat) t v, Try.f4.params[j]? = some t → args[j]? = some v → Value.okWide Try.prog W .any base t v := hval0
  have hW' := hW
  obtain ⟨p, q, hA0, hV, rfl, hfz, hnd⟩ := hW
  have hA : DataW.TrodAll enc Try.prog W 0 (fun _ => true) true Try.f4.params.toList args.toList ds p := hA0
  rw [Try.params4] at hA hval
  obtain ⟨v0, vs0, d0, ds0, p0, q0, hargs, rfl, rfl, h0, r0⟩ := trodAll_cons hA
  obtain ⟨v1, vs1, d1, ds1, p1, q1, rfl, rfl, rfl, h1, r1⟩ := trodAll_cons r0
  obtain ⟨rfl, rfl, rfl⟩ := trodAll_nil r1
  obtain rfl : args = #[v0, v1] := by cases args; simp_all
  obtain ⟨rfl, rfl⟩ := trodVars_none hV
  have kr0 := h0
  have lt0 : ∀ x ∈ p0, x.block < W.heap.size := by obtain ⟨m, hm⟩ := kr0; exact DataW.trod_lt m _ _ _ hm
  have kr1 := h1
  have lt1 : ∀ x ∈ p1, x.block < W.heap.size := by obtain ⟨m, hm⟩ := kr1; exact DataW.trod_lt m _ _ _ hm
  obtain ⟨xs0, w0⟩ := open_segs (hval 0 31 v0 rfl rfl) h0
  obtain ⟨a1, rfl, rfl, rfl, w1⟩ := open_int Try.underlying3 (hval 1 3 v1 rfl rfl) h1
  clear hA0 hval0
  refine (walk v0 xs0 a1 W w0 w1).mono fun e W' ⟨he, bel⟩ => ?_
  subst he
  exact ⟨_, rfl, _, _, _, [], _, [], hW', trodAll_mk1 (shut_bool Try.underlying4 _), (trodAll_cons_mk (Below.trod laidOut (by kernel_rfl) (of_decide_eq_true (by kernel_rfl)) kr0 bel lt0) (trodAll_cons_mk (Below.trod laidOut (by kernel_rfl) (of_decide_eq_true (by kernel_rfl)) kr1 bel lt1) trodAll_mk0)), rfl, bel.frame _, fun h => by cases h⟩

theorem over : Rows.fnExactStoreViewRow.holds Try.pinned (OpenSpec.ofChange Rows.fnExactStoreViewSpec) :=
  OpenClaim.holds_of_wide 4 Try.f4 rfl rfl rfl rfl rfl rfl rfl ⟨rfl, rfl, rfl, rfl, rfl⟩ rfl rfl rfl rfl rfl (by kernel_rfl) Try.func4 (by kernel_rfl)
    (of_decide_eq_true (by kernel_rfl)) (by unfold Func.isWrapper; first | (rw [if_pos (by decide +kernel)]; kernel_rfl) | (rw [if_neg (by decide +kernel)]; exact ⟨rfl, rfl⟩))
    (fun os started H enc _ => lifted os started H enc)

end Go.Proofs.Ytgjpnhdahigodaa.fnExactStoreView
namespace Go.Proofs.Ytgjpnhdahigodaa
theorem fnExactStoreView_holds : Rows.FnExactStoreViewSaid := fnExactStoreView.over
#print axioms fnExactStoreView_holds
end Go.Proofs.Ytgjpnhdahigodaa

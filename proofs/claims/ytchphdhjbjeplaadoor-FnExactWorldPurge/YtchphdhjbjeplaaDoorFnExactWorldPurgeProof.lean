/-
  WorldPurge of the program answers as WorldPurge of the model at all people, all events and every label; it writes into no argument and its answer owns its memory.
-/
import Derived.Test.YtchphdhjbjeplaaDoorCards
import Derived.Test.YtchphdhjbjeplaaDoorTie
import Derived.Test.YtchphdhjbjeplaaDoorWpu
import Derived.Test.YtchphdhjbjeplaaDoorOpr
import Derived.Test.YtchphdhjbjeplaaDoorOpe
import Derived.Test.YtchphdhjbjeplaaDoorErr
import Derived.WalkKit
import Derived.ProofKit
import Derived.OpenShut
import Derived.ShutString
import Derived.ChangeOld
import Derived.Below
import Derived.Carry
import Derived.Handy
import Derived.Deep.RegionHeld3
import Derived.LaidMore
import Derived.Deep.DeepCutAuto
namespace Go.Proofs.YtchphdhjbjeplaaDoor.fnExactWorldPurge
open Go.Proofs.YtchphdhjbjeplaaDoor.Lab
open Go.ChangeShapes Go.WideShapes Go.ChangeAt Go.RowKit
open Go.ChangeMaps (open_string shut_string)
set_option linter.unusedVariables false

theorem own : ownKnob Tryd.prog.godebug = none := by kernel_rfl
/-- A row of numbers that came in: nil, or so many cells. -/
def IsRow (k : IntKind) (w : World) (a : Option Addr) (len cap : Nat) (zs : List Int) : Prop :=
  (a = none ∧ len = 0 ∧ cap = 0 ∧ zs = []) ∨ ∃ x, a = some x ∧ len ≤ cap ∧ cap ≤ maxLen ∧ zs.length = cap ∧ (∀ i, i < zs.length → w.cell? (x.add i) = some (.int k (zs.getD i 0))) ∧ ∀ n ∈ zs, (Lit.int k n).wf = true

set_option maxRecDepth 16000 in
set_option maxHeartbeats 8000000 in
theorem walk (v0 : Value) (xs0 : List (Int × Int × Int)) (v1 : Value) (xs1 : List (Int × Int × Int × Int × Int × Int × Int × Int × Int × Int × Int × Int × Int)) (a2 : Int) (w : World) (w0 : PeopleIn w v0 xs0) (w1 : EvsIn w v1 xs1) (w2 : (Lit.int .i64 a2).wf = true) (hform : FormAt w) :
    Calls Tryd.prog 3 #[v0, v1, .int .i64 a2] w fun e w' => e = .returned (.bool true) ∧ Below w.heap.size w w' := by
  obtain ⟨r0, m0, g0⟩ := w0
  obtain ⟨r1, m1⟩ := w1
  simp only [maxLen, Nat.reducePow, Nat.reduceSub] at m0 m1
  clear g0 w2
  obtain ⟨te, ve, hE⟩ := hform
  have HE : Hid (w.cell? ⟨0, 0, none⟩ = some (.iface te ve)) := hE
  have hE0 : 0 < w.heap.size := FormAt.lt ⟨te, ve, hE⟩
  clear hE
  obtain ⟨aa, ac, rfl⟩ := r0.len
  obtain ⟨ba, bc, rfl⟩ := r1.len
  have HR0 : Hid (RowAt 3 encPerson w (.slice aa xs0.length ac) xs0) := r0
  have HR1 : Hid (RowAt 13 encEv w (.slice ba xs1.length bc) xs1) := r1
  clear r0 r1
  obtain ⟨n, hn⟩ : ∃ t, t = xs0.length := ⟨_, rfl⟩
  obtain ⟨m, hm⟩ : ∃ t, t = xs1.length := ⟨_, rfl⟩
  obtain ⟨M, hM⟩ : ∃ t, t = (purged xs0 a2 xs1).length := ⟨_, rfl⟩
  have HN : Hid (n = xs0.length ∧ m = xs1.length ∧ M = (purged xs0 a2 xs1).length) := ⟨hn, hm, hM⟩
  rw [← hn] at m0 HR0 ⊢
  rw [← hm] at m1 HR1 ⊢
  have lMm : M ≤ m := by have := purged_le xs0 a2 xs1; omega
  clear hn hm hM
  go_enter Tryd.func3, Tryd.ntmps3
  go_wp2_with fail
  refine use (szPersonS aa n ac 1048576 _ (by omega) (by omega) m0) ?_
  by_cases hsz : ¬ (n : Int) ≤ 1048576
  · rw [if_neg hsz]
    go_wp2_with fail
    go_ret
    exact ⟨rfl, Below.refl _ _⟩
  rw [if_pos (by omega)]
  have ln : n ≤ 1048576 := by omega
  clear hsz
  have d0 : ¬ ((1048576 : Int) - (n : Int)) < 0 := by omega
  go_wp2_with fail
  refine use (szEvS ba m bc (1048576 - (n : Int)) _ (by omega) (by omega) m1) ?_
  by_cases hsz : ¬ (m : Int) ≤ 1048576 - (n : Int)
  · rw [if_neg hsz]
    go_wp2_with fail
    go_ret
    exact ⟨rfl, Below.refl _ _⟩
  rw [if_pos (by omega)]
  have lm : m ≤ 1048576 := by omega
  have d1 : ¬ ((1048576 : Int) - (n : Int) - (m : Int)) < 0 := by omega
  clear hsz
  have HA : Hid (Below w.heap.size w w) := Below.refl _ _
  have HL : Hid (xs0.length ≤ 1048576 ∧ xs1.length ≤ 1048576 ∧ (purged xs0 a2 xs1).length ≤ 1048576) := ⟨by rw [← HN.out.1]; exact ln, by rw [← HN.out.2.1]; exact lm, by rw [← HN.out.2.2]; omega⟩
  have HRW0 : Hid (RowAt 3 encPerson w (.slice aa n ac) xs0) := HR0
  clear d0
  go_wp2_with fail
  refine (toPersonS _ xs0 _ (HR0.out.keep HA.out) HL.out.1).mono ?_
  rintro e wx1 ⟨u1, rfl, ou1, bu1⟩
  have Hwx1 : Hid (Below w.heap.size w wx1) := HA.out.trans (bu1.mono HA.out.size)
  have Ou1_wx1 : Hid (wx1.ownsRow w.heap.size 50 3 u1 (xs0).length ((xs0).flatMap encPerson)) := own_mono ou1 HA.out.size
  clear ou1 bu1
  go_wp2_with fail
  refine (toEvS _ xs1 _ (HR1.out.keep Hwx1.out) HL.out.2.1).mono ?_
  rintro e wx2 ⟨u2, rfl, ou2, bu2⟩
  have Hwx2 : Hid (Below w.heap.size w wx2) := Hwx1.out.trans (bu2.mono Hwx1.out.size)
  have AP_u2_u1 : Hid (∀ g, Value.ownBlock u2 = some g → Value.ownBlock u1 = some g → False) := fun g h1 h2 => by have := (ou2.lt g h1).1; have := (Ou1_wx1.out.lt g h2).2; omega
  have Ou1_wx2 : Hid (wx2.ownsRow w.heap.size 50 3 u1 (xs0).length ((xs0).flatMap encPerson)) := own_keep Ou1_wx1.out bu2
  have Ou2_wx2 : Hid (wx2.ownsRow w.heap.size 46 13 u2 (xs1).length ((xs1).flatMap encEv)) := own_mono ou2 Hwx1.out.size
  clear ou2 bu2
  go_wp2_with fail
  refine (spec_WorldPurge u1 u2 xs0 xs1 a2 _ (row_of_own encPerson_len (by decide) Ou1_wx2.out) (row_of_own encEv_len (by decide) Ou2_wx2.out) HL.out.1 HL.out.2.1).mono ?_
  rintro e wx3 ⟨y0, rfl, oy0, by0⟩
  have Hwx3 : Hid (Below w.heap.size w wx3) := Hwx2.out.trans (by0.mono Hwx2.out.size)
  have AP_y0_u1 : Hid (∀ g, Value.ownBlock y0 = some g → Value.ownBlock u1 = some g → False) := fun g h1 h2 => by have := (oy0.lt g h1).1; have := (Ou1_wx2.out.lt g h2).2; omega
  have AP_y0_u2 : Hid (∀ g, Value.ownBlock y0 = some g → Value.ownBlock u2 = some g → False) := fun g h1 h2 => by have := (oy0.lt g h1).1; have := (Ou2_wx2.out.lt g h2).2; omega
  have Ou1_wx3 : Hid (wx3.ownsRow w.heap.size 50 3 u1 (xs0).length ((xs0).flatMap encPerson)) := own_keep Ou1_wx2.out by0
  have Ou2_wx3 : Hid (wx3.ownsRow w.heap.size 46 13 u2 (xs1).length ((xs1).flatMap encEv)) := own_keep Ou2_wx2.out by0
  have Oy0_wx3 : Hid (wx3.ownsRow w.heap.size 46 13 y0 (purged xs0 a2 xs1).length ((purged xs0 a2 xs1).flatMap encEv)) := own_mono oy0 Hwx2.out.size
  clear oy0 by0
  go_wp2_with fail
  refine (toPersonS _ xs0 _ (HR0.out.keep Hwx3.out) HL.out.1).mono ?_
  rintro e wx4 ⟨x0, rfl, ox0, bx0⟩
  have Hwx4 : Hid (Below w.heap.size w wx4) := Hwx3.out.trans (bx0.mono Hwx3.out.size)
  have AP_x0_y0 : Hid (∀ g, Value.ownBlock x0 = some g → Value.ownBlock y0 = some g → False) := fun g h1 h2 => by have := (ox0.lt g h1).1; have := (Oy0_wx3.out.lt g h2).2; omega
  have Oy0_wx4 : Hid (wx4.ownsRow w.heap.size 46 13 y0 (purged xs0 a2 xs1).length ((purged xs0 a2 xs1).flatMap encEv)) := own_keep Oy0_wx3.out bx0
  have Ox0_wx4 : Hid (wx4.ownsRow w.heap.size 50 3 x0 (xs0).length ((xs0).flatMap encPerson)) := own_mono ox0 Hwx3.out.size
  clear ox0 bx0
  go_wp2_with fail
  refine (toEvS _ xs1 _ (HR1.out.keep Hwx4.out) HL.out.2.1).mono ?_
  rintro e wx5 ⟨x1, rfl, ox1, bx1⟩
  have Hwx5 : Hid (Below w.heap.size w wx5) := Hwx4.out.trans (bx1.mono Hwx4.out.size)
  have AP_x1_y0 : Hid (∀ g, Value.ownBlock x1 = some g → Value.ownBlock y0 = some g → False) := fun g h1 h2 => by have := (ox1.lt g h1).1; have := (Oy0_wx4.out.lt g h2).2; omega
  have AP_x1_x0 : Hid (∀ g, Value.ownBlock x1 = some g → Value.ownBlock x0 = some g → False) := fun g h1 h2 => by have := (ox1.lt g h1).1; have := (Ox0_wx4.out.lt g h2).2; omega
  have Oy0_wx5 : Hid (wx5.ownsRow w.heap.size 46 13 y0 (purged xs0 a2 xs1).length ((purged xs0 a2 xs1).flatMap encEv)) := own_keep Oy0_wx4.out bx1
  have Ox0_wx5 : Hid (wx5.ownsRow w.heap.size 50 3 x0 (xs0).length ((xs0).flatMap encPerson)) := own_keep Ox0_wx4.out bx1
  have Ox1_wx5 : Hid (wx5.ownsRow w.heap.size 46 13 x1 (xs1).length ((xs1).flatMap encEv)) := own_mono ox1 Hwx4.out.size
  clear ox1 bx1
  go_wp2_with fail
  refine (impl_WorldPurge x0 x1 xs0 xs1 a2 (.iface te ve) _ (row_of_own encPerson_len (by decide) Ox0_wx5.out) (row_of_own encEv_len (by decide) Ox1_wx5.out) HL.out.1 HL.out.2.1 (by rw [Below.celz Hwx5.out _ _ _ hE0]; exact HE.out) (Nat.lt_of_lt_of_le hE0 Hwx5.out.size) ⟨_, _, rfl⟩).mono ?_
  rintro e wx6 ⟨g0, rfl, og0, bg0⟩
  have Hwx6 : Hid (Below w.heap.size w wx6) := Hwx5.out.trans (bg0.mono Hwx5.out.size)
  have AP_g0_y0 : Hid (∀ g, Value.ownBlock g0 = some g → Value.ownBlock y0 = some g → False) := fun g h1 h2 => by have := (og0.lt g h1).1; have := (Oy0_wx5.out.lt g h2).2; omega
  have AP_g0_x0 : Hid (∀ g, Value.ownBlock g0 = some g → Value.ownBlock x0 = some g → False) := fun g h1 h2 => by have := (og0.lt g h1).1; have := (Ox0_wx5.out.lt g h2).2; omega
  have AP_g0_x1 : Hid (∀ g, Value.ownBlock g0 = some g → Value.ownBlock x1 = some g → False) := fun g h1 h2 => by have := (og0.lt g h1).1; have := (Ox1_wx5.out.lt g h2).2; omega
  have Oy0_wx6 : Hid (wx6.ownsRow w.heap.size 46 13 y0 (purged xs0 a2 xs1).length ((purged xs0 a2 xs1).flatMap encEv)) := own_keep Oy0_wx5.out bg0
  have Ox0_wx6 : Hid (wx6.ownsRow w.heap.size 50 3 x0 (xs0).length ((xs0).flatMap encPerson)) := own_keep Ox0_wx5.out bg0
  have Ox1_wx6 : Hid (wx6.ownsRow w.heap.size 46 13 x1 (xs1).length ((xs1).flatMap encEv)) := own_keep Ox1_wx5.out bg0
  have Og0_wx6 : Hid (wx6.ownsRow w.heap.size 46 13 g0 (purged xs0 a2 xs1).length ((purged xs0 a2 xs1).flatMap encEv)) := own_mono og0 Hwx5.out.size
  clear og0 bg0
  go_wp2_with fail
  refine (eqEvS g0 y0 (purged xs0 a2 xs1) (purged xs0 a2 xs1) _ (row_of_own encEv_len (by decide) Og0_wx6.out) (row_of_own encEv_len (by decide) Oy0_wx6.out) HL.out.2.2 HL.out.2.2).mono ?_
  rintro e wx7 ⟨rfl, bwx7⟩
  have Hwx7 : Hid (Below w.heap.size w wx7) := Hwx6.out.trans (bwx7.mono Hwx6.out.size)
  have Oy0_wx7 : Hid (wx7.ownsRow w.heap.size 46 13 y0 (purged xs0 a2 xs1).length ((purged xs0 a2 xs1).flatMap encEv)) := own_keep Oy0_wx6.out bwx7
  have Ox0_wx7 : Hid (wx7.ownsRow w.heap.size 50 3 x0 (xs0).length ((xs0).flatMap encPerson)) := own_keep Ox0_wx6.out bwx7
  have Ox1_wx7 : Hid (wx7.ownsRow w.heap.size 46 13 x1 (xs1).length ((xs1).flatMap encEv)) := own_keep Ox1_wx6.out bwx7
  have Og0_wx7 : Hid (wx7.ownsRow w.heap.size 46 13 g0 (purged xs0 a2 xs1).length ((purged xs0 a2 xs1).flatMap encEv)) := own_keep Og0_wx6.out bwx7
  clear bwx7
  rw [eqB_true.2 rfl]
  go_wp2_with fail
  refine (toPersonS _ xs0 _ (HR0.out.keep Hwx7.out) HL.out.1).mono ?_
  rintro e wx8 ⟨u3, rfl, ou3, bu3⟩
  have Hwx8 : Hid (Below w.heap.size w wx8) := Hwx7.out.trans (bu3.mono Hwx7.out.size)
  have AP_u3_y0 : Hid (∀ g, Value.ownBlock u3 = some g → Value.ownBlock y0 = some g → False) := fun g h1 h2 => by have := (ou3.lt g h1).1; have := (Oy0_wx7.out.lt g h2).2; omega
  have AP_u3_x0 : Hid (∀ g, Value.ownBlock u3 = some g → Value.ownBlock x0 = some g → False) := fun g h1 h2 => by have := (ou3.lt g h1).1; have := (Ox0_wx7.out.lt g h2).2; omega
  have AP_u3_x1 : Hid (∀ g, Value.ownBlock u3 = some g → Value.ownBlock x1 = some g → False) := fun g h1 h2 => by have := (ou3.lt g h1).1; have := (Ox1_wx7.out.lt g h2).2; omega
  have AP_u3_g0 : Hid (∀ g, Value.ownBlock u3 = some g → Value.ownBlock g0 = some g → False) := fun g h1 h2 => by have := (ou3.lt g h1).1; have := (Og0_wx7.out.lt g h2).2; omega
  have Oy0_wx8 : Hid (wx8.ownsRow w.heap.size 46 13 y0 (purged xs0 a2 xs1).length ((purged xs0 a2 xs1).flatMap encEv)) := own_keep Oy0_wx7.out bu3
  have Ox0_wx8 : Hid (wx8.ownsRow w.heap.size 50 3 x0 (xs0).length ((xs0).flatMap encPerson)) := own_keep Ox0_wx7.out bu3
  have Ox1_wx8 : Hid (wx8.ownsRow w.heap.size 46 13 x1 (xs1).length ((xs1).flatMap encEv)) := own_keep Ox1_wx7.out bu3
  have Og0_wx8 : Hid (wx8.ownsRow w.heap.size 46 13 g0 (purged xs0 a2 xs1).length ((purged xs0 a2 xs1).flatMap encEv)) := own_keep Og0_wx7.out bu3
  have Ou3_wx8 : Hid (wx8.ownsRow w.heap.size 50 3 u3 (xs0).length ((xs0).flatMap encPerson)) := own_mono ou3 Hwx7.out.size
  clear ou3 bu3
  go_wp2_with fail
  refine (eqPersonS x0 u3 (xs0) (xs0) _ (row_of_own encPerson_len (by decide) Ox0_wx8.out) (row_of_own encPerson_len (by decide) Ou3_wx8.out) HL.out.1 HL.out.1).mono ?_
  rintro e wx9 ⟨rfl, bwx9⟩
  have Hwx9 : Hid (Below w.heap.size w wx9) := Hwx8.out.trans (bwx9.mono Hwx8.out.size)
  have Oy0_wx9 : Hid (wx9.ownsRow w.heap.size 46 13 y0 (purged xs0 a2 xs1).length ((purged xs0 a2 xs1).flatMap encEv)) := own_keep Oy0_wx8.out bwx9
  have Ox0_wx9 : Hid (wx9.ownsRow w.heap.size 50 3 x0 (xs0).length ((xs0).flatMap encPerson)) := own_keep Ox0_wx8.out bwx9
  have Ox1_wx9 : Hid (wx9.ownsRow w.heap.size 46 13 x1 (xs1).length ((xs1).flatMap encEv)) := own_keep Ox1_wx8.out bwx9
  have Og0_wx9 : Hid (wx9.ownsRow w.heap.size 46 13 g0 (purged xs0 a2 xs1).length ((purged xs0 a2 xs1).flatMap encEv)) := own_keep Og0_wx8.out bwx9
  have Ou3_wx9 : Hid (wx9.ownsRow w.heap.size 50 3 u3 (xs0).length ((xs0).flatMap encPerson)) := own_keep Ou3_wx8.out bwx9
  clear bwx9
  rw [eqB_true.2 rfl]
  go_wp2_with fail
  refine (toEvS _ xs1 _ (HR1.out.keep Hwx9.out) HL.out.2.1).mono ?_
  rintro e wx10 ⟨u4, rfl, ou4, bu4⟩
  have Hwx10 : Hid (Below w.heap.size w wx10) := Hwx9.out.trans (bu4.mono Hwx9.out.size)
  have AP_u4_y0 : Hid (∀ g, Value.ownBlock u4 = some g → Value.ownBlock y0 = some g → False) := fun g h1 h2 => by have := (ou4.lt g h1).1; have := (Oy0_wx9.out.lt g h2).2; omega
  have AP_u4_x0 : Hid (∀ g, Value.ownBlock u4 = some g → Value.ownBlock x0 = some g → False) := fun g h1 h2 => by have := (ou4.lt g h1).1; have := (Ox0_wx9.out.lt g h2).2; omega
  have AP_u4_x1 : Hid (∀ g, Value.ownBlock u4 = some g → Value.ownBlock x1 = some g → False) := fun g h1 h2 => by have := (ou4.lt g h1).1; have := (Ox1_wx9.out.lt g h2).2; omega
  have AP_u4_g0 : Hid (∀ g, Value.ownBlock u4 = some g → Value.ownBlock g0 = some g → False) := fun g h1 h2 => by have := (ou4.lt g h1).1; have := (Og0_wx9.out.lt g h2).2; omega
  have Oy0_wx10 : Hid (wx10.ownsRow w.heap.size 46 13 y0 (purged xs0 a2 xs1).length ((purged xs0 a2 xs1).flatMap encEv)) := own_keep Oy0_wx9.out bu4
  have Ox0_wx10 : Hid (wx10.ownsRow w.heap.size 50 3 x0 (xs0).length ((xs0).flatMap encPerson)) := own_keep Ox0_wx9.out bu4
  have Ox1_wx10 : Hid (wx10.ownsRow w.heap.size 46 13 x1 (xs1).length ((xs1).flatMap encEv)) := own_keep Ox1_wx9.out bu4
  have Og0_wx10 : Hid (wx10.ownsRow w.heap.size 46 13 g0 (purged xs0 a2 xs1).length ((purged xs0 a2 xs1).flatMap encEv)) := own_keep Og0_wx9.out bu4
  have Ou4_wx10 : Hid (wx10.ownsRow w.heap.size 46 13 u4 (xs1).length ((xs1).flatMap encEv)) := own_mono ou4 Hwx9.out.size
  clear ou4 bu4
  go_wp2_with fail
  refine (eqEvS x1 u4 (xs1) (xs1) _ (row_of_own encEv_len (by decide) Ox1_wx10.out) (row_of_own encEv_len (by decide) Ou4_wx10.out) HL.out.2.1 HL.out.2.1).mono ?_
  rintro e wx11 ⟨rfl, bwx11⟩
  have Hwx11 : Hid (Below w.heap.size w wx11) := Hwx10.out.trans (bwx11.mono Hwx10.out.size)
  have Oy0_wx11 : Hid (wx11.ownsRow w.heap.size 46 13 y0 (purged xs0 a2 xs1).length ((purged xs0 a2 xs1).flatMap encEv)) := own_keep Oy0_wx10.out bwx11
  have Ox0_wx11 : Hid (wx11.ownsRow w.heap.size 50 3 x0 (xs0).length ((xs0).flatMap encPerson)) := own_keep Ox0_wx10.out bwx11
  have Ox1_wx11 : Hid (wx11.ownsRow w.heap.size 46 13 x1 (xs1).length ((xs1).flatMap encEv)) := own_keep Ox1_wx10.out bwx11
  have Og0_wx11 : Hid (wx11.ownsRow w.heap.size 46 13 g0 (purged xs0 a2 xs1).length ((purged xs0 a2 xs1).flatMap encEv)) := own_keep Og0_wx10.out bwx11
  have Ou4_wx11 : Hid (wx11.ownsRow w.heap.size 46 13 u4 (xs1).length ((xs1).flatMap encEv)) := own_keep Ou4_wx10.out bwx11
  clear bwx11
  rw [eqB_true.2 rfl]
  go_wp2_with fail
  refine (markPersonS w.heap.size xs0.length x0 1 _ _ (by omega) (by omega) HL.out.1 Ox0_wx11.out).mono ?_
  rintro e wx12 ⟨rfl, owx12, gwx12⟩
  have Hwx12 : Hid (Below w.heap.size w wx12) := Hwx11.out.grown gwx12 Hwx11.out.size (fun g hg => (Ox0_wx11.out.lt g hg).1)
  have Oy0_wx12 : Hid (wx12.ownsRow w.heap.size 46 13 y0 (purged xs0 a2 xs1).length ((purged xs0 a2 xs1).flatMap encEv)) := own_gr Oy0_wx11.out gwx12 (fun k h1 h2 => (AP_x0_y0.out k h2 h1))
  have Ox1_wx12 : Hid (wx12.ownsRow w.heap.size 46 13 x1 (xs1).length ((xs1).flatMap encEv)) := own_gr Ox1_wx11.out gwx12 (fun k h1 h2 => (AP_x1_x0.out k h1 h2))
  have Og0_wx12 : Hid (wx12.ownsRow w.heap.size 46 13 g0 (purged xs0 a2 xs1).length ((purged xs0 a2 xs1).flatMap encEv)) := own_gr Og0_wx11.out gwx12 (fun k h1 h2 => (AP_g0_x0.out k h1 h2))
  have Ox0_wx12 : Hid (wx12.ownsRow w.heap.size 50 3 x0 (marksPerson 1 xs0.length).length ((marksPerson 1 xs0.length).flatMap encPerson)) := by show wx12.ownsRow w.heap.size 50 3 x0 (marksPerson 1 xs0.length).length ((marksPerson 1 xs0.length).flatMap encPerson); rw [marksPerson_len]; exact owx12
  clear owx12 gwx12
  rw [← HN.out.1]
  go_wp2_with fail
  refine (markEvS w.heap.size xs1.length x1 (1 + 3 * (n : Int)) _ _ (by omega) (by omega) HL.out.2.1 Ox1_wx12.out).mono ?_
  rintro e wx13 ⟨rfl, owx13, gwx13⟩
  have Hwx13 : Hid (Below w.heap.size w wx13) := Hwx12.out.grown gwx13 Hwx12.out.size (fun g hg => (Ox1_wx12.out.lt g hg).1)
  have Oy0_wx13 : Hid (wx13.ownsRow w.heap.size 46 13 y0 (purged xs0 a2 xs1).length ((purged xs0 a2 xs1).flatMap encEv)) := own_gr Oy0_wx12.out gwx13 (fun k h1 h2 => (AP_x1_y0.out k h2 h1))
  have Og0_wx13 : Hid (wx13.ownsRow w.heap.size 46 13 g0 (purged xs0 a2 xs1).length ((purged xs0 a2 xs1).flatMap encEv)) := own_gr Og0_wx12.out gwx13 (fun k h1 h2 => (AP_g0_x1.out k h1 h2))
  have Ox1_wx13 : Hid (wx13.ownsRow w.heap.size 46 13 x1 (marksEv (1 + 3 * (n : Int)) xs1.length).length ((marksEv (1 + 3 * (n : Int)) xs1.length).flatMap encEv)) := by show wx13.ownsRow w.heap.size 46 13 x1 (marksEv (1 + 3 * (n : Int)) xs1.length).length ((marksEv (1 + 3 * (n : Int)) xs1.length).flatMap encEv); rw [marksEv_len]; exact owx13
  clear owx13 gwx13
  rw [← HN.out.2.1]
  have nk : ¬ (1 + 3 * (n : Int) + 13 * (m : Int)) < 0 := by omega
  go_wp2_with fail
  refine (eqEvS g0 y0 (purged xs0 a2 xs1) (purged xs0 a2 xs1) _ (row_of_own encEv_len (by decide) Og0_wx13.out) (row_of_own encEv_len (by decide) Oy0_wx13.out) HL.out.2.2 HL.out.2.2).mono ?_
  rintro e wx14 ⟨rfl, bwx14⟩
  have Hwx14 : Hid (Below w.heap.size w wx14) := Hwx13.out.trans (bwx14.mono Hwx13.out.size)
  have Oy0_wx14 : Hid (wx14.ownsRow w.heap.size 46 13 y0 (purged xs0 a2 xs1).length ((purged xs0 a2 xs1).flatMap encEv)) := own_keep Oy0_wx13.out bwx14
  have Og0_wx14 : Hid (wx14.ownsRow w.heap.size 46 13 g0 (purged xs0 a2 xs1).length ((purged xs0 a2 xs1).flatMap encEv)) := own_keep Og0_wx13.out bwx14
  clear bwx14
  rw [eqB_true.2 rfl]
  go_wp2_with fail
  refine (markEvS w.heap.size (purged xs0 a2 xs1).length g0 1 _ _ (by omega) (by omega) HL.out.2.2 Og0_wx14.out).mono ?_
  rintro e wx15 ⟨rfl, owx15, gwx15⟩
  have Hwx15 : Hid (Below w.heap.size w wx15) := Hwx14.out.grown gwx15 Hwx14.out.size (fun g hg => (Og0_wx14.out.lt g hg).1)
  have Oy0_wx15 : Hid (wx15.ownsRow w.heap.size 46 13 y0 (purged xs0 a2 xs1).length ((purged xs0 a2 xs1).flatMap encEv)) := own_gr Oy0_wx14.out gwx15 (fun k h1 h2 => (AP_g0_y0.out k h2 h1))
  have Og0_wx15 : Hid (wx15.ownsRow w.heap.size 46 13 g0 (marksEv 1 (purged xs0 a2 xs1).length).length ((marksEv 1 (purged xs0 a2 xs1).length).flatMap encEv)) := by show wx15.ownsRow w.heap.size 46 13 g0 (marksEv 1 (purged xs0 a2 xs1).length).length ((marksEv 1 (purged xs0 a2 xs1).length).flatMap encEv); rw [marksEv_len]; exact owx15
  clear owx15 gwx15
  rw [← HN.out.2.2]
  have nm : ¬ (1 + 13 * (M : Int)) < 0 := by omega
  have nb : ((1 + 13 * (M : Int)) != (1 + 13 * (M : Int))) = false := by simp
  go_wp2_with fail
  refine use (heldEvS g0 (purged xs0 a2 xs1).length 1 _ (by omega) (by omega) HL.out.2.2 (row_of_own encEv_len (by decide) Og0_wx15.out)) ?_
  rw [← HN.out.2.2]
  go_wp2_with fail
  refine (toPersonS _ xs0 _ (HR0.out.keep Hwx15.out) HL.out.1).mono ?_
  rintro e wx16 ⟨u5, rfl, ou5, bu5⟩
  have Hwx16 : Hid (Below w.heap.size w wx16) := Hwx15.out.trans (bu5.mono Hwx15.out.size)
  have AP_u5_y0 : Hid (∀ g, Value.ownBlock u5 = some g → Value.ownBlock y0 = some g → False) := fun g h1 h2 => by have := (ou5.lt g h1).1; have := (Oy0_wx15.out.lt g h2).2; omega
  have AP_u5_g0 : Hid (∀ g, Value.ownBlock u5 = some g → Value.ownBlock g0 = some g → False) := fun g h1 h2 => by have := (ou5.lt g h1).1; have := (Og0_wx15.out.lt g h2).2; omega
  have Oy0_wx16 : Hid (wx16.ownsRow w.heap.size 46 13 y0 (purged xs0 a2 xs1).length ((purged xs0 a2 xs1).flatMap encEv)) := own_keep Oy0_wx15.out bu5
  have Og0_wx16 : Hid (wx16.ownsRow w.heap.size 46 13 g0 (marksEv 1 (purged xs0 a2 xs1).length).length ((marksEv 1 (purged xs0 a2 xs1).length).flatMap encEv)) := own_keep Og0_wx15.out bu5
  have Ou5_wx16 : Hid (wx16.ownsRow w.heap.size 50 3 u5 (xs0).length ((xs0).flatMap encPerson)) := own_mono ou5 Hwx15.out.size
  clear ou5 bu5
  go_wp2_with fail
  refine (toEvS _ xs1 _ (HR1.out.keep Hwx16.out) HL.out.2.1).mono ?_
  rintro e wx17 ⟨u6, rfl, ou6, bu6⟩
  have Hwx17 : Hid (Below w.heap.size w wx17) := Hwx16.out.trans (bu6.mono Hwx16.out.size)
  have AP_u6_y0 : Hid (∀ g, Value.ownBlock u6 = some g → Value.ownBlock y0 = some g → False) := fun g h1 h2 => by have := (ou6.lt g h1).1; have := (Oy0_wx16.out.lt g h2).2; omega
  have AP_u6_g0 : Hid (∀ g, Value.ownBlock u6 = some g → Value.ownBlock g0 = some g → False) := fun g h1 h2 => by have := (ou6.lt g h1).1; have := (Og0_wx16.out.lt g h2).2; omega
  have AP_u6_u5 : Hid (∀ g, Value.ownBlock u6 = some g → Value.ownBlock u5 = some g → False) := fun g h1 h2 => by have := (ou6.lt g h1).1; have := (Ou5_wx16.out.lt g h2).2; omega
  have Oy0_wx17 : Hid (wx17.ownsRow w.heap.size 46 13 y0 (purged xs0 a2 xs1).length ((purged xs0 a2 xs1).flatMap encEv)) := own_keep Oy0_wx16.out bu6
  have Og0_wx17 : Hid (wx17.ownsRow w.heap.size 46 13 g0 (marksEv 1 (purged xs0 a2 xs1).length).length ((marksEv 1 (purged xs0 a2 xs1).length).flatMap encEv)) := own_keep Og0_wx16.out bu6
  have Ou5_wx17 : Hid (wx17.ownsRow w.heap.size 50 3 u5 (xs0).length ((xs0).flatMap encPerson)) := own_keep Ou5_wx16.out bu6
  have Ou6_wx17 : Hid (wx17.ownsRow w.heap.size 46 13 u6 (xs1).length ((xs1).flatMap encEv)) := own_mono ou6 Hwx16.out.size
  clear ou6 bu6
  go_wp2_with fail
  refine (impl_WorldPurge u5 u6 xs0 xs1 a2 (.iface te ve) _ (row_of_own encPerson_len (by decide) Ou5_wx17.out) (row_of_own encEv_len (by decide) Ou6_wx17.out) HL.out.1 HL.out.2.1 (by rw [Below.celz Hwx17.out _ _ _ hE0]; exact HE.out) (Nat.lt_of_lt_of_le hE0 Hwx17.out.size) ⟨_, _, rfl⟩).mono ?_
  rintro e wx18 ⟨h0, rfl, oh0, bh0⟩
  have Hwx18 : Hid (Below w.heap.size w wx18) := Hwx17.out.trans (bh0.mono Hwx17.out.size)
  have AP_h0_y0 : Hid (∀ g, Value.ownBlock h0 = some g → Value.ownBlock y0 = some g → False) := fun g h1 h2 => by have := (oh0.lt g h1).1; have := (Oy0_wx17.out.lt g h2).2; omega
  have AP_h0_g0 : Hid (∀ g, Value.ownBlock h0 = some g → Value.ownBlock g0 = some g → False) := fun g h1 h2 => by have := (oh0.lt g h1).1; have := (Og0_wx17.out.lt g h2).2; omega
  have AP_h0_u5 : Hid (∀ g, Value.ownBlock h0 = some g → Value.ownBlock u5 = some g → False) := fun g h1 h2 => by have := (oh0.lt g h1).1; have := (Ou5_wx17.out.lt g h2).2; omega
  have AP_h0_u6 : Hid (∀ g, Value.ownBlock h0 = some g → Value.ownBlock u6 = some g → False) := fun g h1 h2 => by have := (oh0.lt g h1).1; have := (Ou6_wx17.out.lt g h2).2; omega
  have Oy0_wx18 : Hid (wx18.ownsRow w.heap.size 46 13 y0 (purged xs0 a2 xs1).length ((purged xs0 a2 xs1).flatMap encEv)) := own_keep Oy0_wx17.out bh0
  have Og0_wx18 : Hid (wx18.ownsRow w.heap.size 46 13 g0 (marksEv 1 (purged xs0 a2 xs1).length).length ((marksEv 1 (purged xs0 a2 xs1).length).flatMap encEv)) := own_keep Og0_wx17.out bh0
  have Ou5_wx18 : Hid (wx18.ownsRow w.heap.size 50 3 u5 (xs0).length ((xs0).flatMap encPerson)) := own_keep Ou5_wx17.out bh0
  have Ou6_wx18 : Hid (wx18.ownsRow w.heap.size 46 13 u6 (xs1).length ((xs1).flatMap encEv)) := own_keep Ou6_wx17.out bh0
  have Oh0_wx18 : Hid (wx18.ownsRow w.heap.size 46 13 h0 (purged xs0 a2 xs1).length ((purged xs0 a2 xs1).flatMap encEv)) := own_mono oh0 Hwx17.out.size
  clear oh0 bh0
  go_wp2_with fail
  refine (eqEvS h0 y0 (purged xs0 a2 xs1) (purged xs0 a2 xs1) _ (row_of_own encEv_len (by decide) Oh0_wx18.out) (row_of_own encEv_len (by decide) Oy0_wx18.out) HL.out.2.2 HL.out.2.2).mono ?_
  rintro e wx19 ⟨rfl, bwx19⟩
  have Hwx19 : Hid (Below w.heap.size w wx19) := Hwx18.out.trans (bwx19.mono Hwx18.out.size)
  have Oy0_wx19 : Hid (wx19.ownsRow w.heap.size 46 13 y0 (purged xs0 a2 xs1).length ((purged xs0 a2 xs1).flatMap encEv)) := own_keep Oy0_wx18.out bwx19
  have Og0_wx19 : Hid (wx19.ownsRow w.heap.size 46 13 g0 (marksEv 1 (purged xs0 a2 xs1).length).length ((marksEv 1 (purged xs0 a2 xs1).length).flatMap encEv)) := own_keep Og0_wx18.out bwx19
  have Oh0_wx19 : Hid (wx19.ownsRow w.heap.size 46 13 h0 (purged xs0 a2 xs1).length ((purged xs0 a2 xs1).flatMap encEv)) := own_keep Oh0_wx18.out bwx19
  clear bwx19
  rw [eqB_true.2 rfl]
  go_wp2_with fail
  refine use (heldEvS g0 (purged xs0 a2 xs1).length 1 _ (by omega) (by omega) HL.out.2.2 (row_of_own encEv_len (by decide) Og0_wx19.out)) ?_
  rw [← HN.out.2.2]
  go_wp2_with fail
  go_ret
  exact ⟨rfl, Hwx19.out⟩

theorem door_met (os : Os) (args : Array Value) : laidMetH Tryd.prog Rows.fnExactWorldPurgeRow.laid ((World.doorLaid Tryd.prog 28 os).forCall (fun _ _ => 0) ⟨#[], args, []⟩).memory :=
  laidMetH_of_parts3 (fuel := 8) (laidMet_of_run' 8 (by kernel_rfl) (by kernel_rfl)) (by kernel_rfl) (by kernel_rfl)

set_option maxRecDepth 100000 in
set_option maxHeartbeats 1000000 in
theorem lifted (os : Os) (started : os.Started) (H : Type) (enc : TypeId × Value → H) :
    ReturnsInHanded {} Tryd.checked os 3 .any (fun w args => (Rows.fnExactWorldPurgeSpec.pre enc Tryd.prog Tryd.f3 [] false w args ∧ laidMetH Tryd.prog Rows.fnExactWorldPurgeRow.laid w) ∧ sizedMet enc Tryd.prog Tryd.f3 (OpenSpec.ofChange Rows.fnExactWorldPurgeSpec) false w args)
      (Rows.fnExactWorldPurgeSpec.post enc Tryd.prog Tryd.f3 false true false false) := by
  refine returnsInHanded_of_change_and (C := Tryd.checked) (X := fun w _ => laidMetH Tryd.prog Rows.fnExactWorldPurgeRow.laid w) (fun _ _ _ hh h => h.of_heap hh) own started (by kernel_rfl) Tryd.func3
    (ChangeSpec.witness_shaped (enc := enc) (C := Tryd.checked) (os := os) (X := fun w _ => laidMetH Tryd.prog Rows.fnExactWorldPurgeRow.laid w) false (World.doorLaid Tryd.prog 28 os) #[.slice none 0 0, .slice none 0 0, .int .i64 0] 8 rfl (World.shaped_of_RefB (by kernel_rfl) (by kernel_rfl)) (by kernel_rfl) (by kernel_rfl) (by kernel_rfl) (door_met os _)) ?_
  intro W base args ds gs before hval0 hW _ _ hL _
  have hval : ∀ (j : Nat) t v, Tryd.f3.params[j]? = some t → args[j]? = some v → Value.okWide Tryd.prog W .any base t v := hval0
  have hW' := hW
  obtain ⟨p, q, hA0, hV0, rfl, hfz, hnd⟩ := hW
  have hA : DataW.TrodAll enc Tryd.prog W 0 (fun _ => true) true Tryd.f3.params.toList args.toList ds p := hA0
  have hV : DataW.TrodVars enc Tryd.prog W (fun _ => true) ["loop.example/hagioscope/impl.errForm"] gs q := hV0
  rw [Tryd.params3] at hA hval
  obtain ⟨v0, vs0, d0, ds0, p0, q0, hargs, rfl, rfl, h0, r0⟩ := trodAll_cons hA
  obtain ⟨v1, vs1, d1, ds1, p1, q1, rfl, rfl, rfl, h1, r1⟩ := trodAll_cons r0
  obtain ⟨v2, vs2, d2, ds2, p2, q2, rfl, rfl, rfl, h2, r2⟩ := trodAll_cons r1
  obtain ⟨rfl, rfl, rfl⟩ := trodAll_nil r2
  obtain rfl : args = #[v0, v1, v2] := by cases args; simp_all
  have kr0 := h0
  have lt0 : ∀ x ∈ p0, x.block < W.heap.size := by obtain ⟨m, hm⟩ := kr0; exact DataW.trod_lt m _ _ _ hm
  have kr1 := h1
  have lt1 : ∀ x ∈ p1, x.block < W.heap.size := by obtain ⟨m, hm⟩ := kr1; exact DataW.trod_lt m _ _ _ hm
  have kr2 := h2
  have lt2 : ∀ x ∈ p2, x.block < W.heap.size := by obtain ⟨m, hm⟩ := kr2; exact DataW.trod_lt m _ _ _ hm
  obtain ⟨xs0, w0⟩ := open_people (hval 0 22 v0 rfl rfl) h0
  obtain ⟨xs1, w1⟩ := open_evs (hval 1 23 v1 rfl rfl) h1
  obtain ⟨a2, rfl, rfl, rfl, w2⟩ := open_int Tryd.underlying3 (hval 2 3 v2 rfl rfl) h2
  obtain ⟨g, t, cs, fuel, d, p', rfl, hg, ht, hvar, hd, rfl⟩ := trodVars_one hV
  obtain rfl := Option.some.inj (gForm.symm.trans hg)
  obtain rfl := Option.some.inj (tForm.symm.trans ht)
  obtain ⟨fu, fv, hff⟩ := form_of hL
  obtain rfl : cs = #[.iface fu fv] := Option.some.inj (hvar.symm.trans hff)
  have hform : FormAt W := formAt_of hff
  obtain ⟨_, _, hheap⟩ := heap_of_var gForm hff
  clear hA0 hV0 hval0
  refine (walk v0 xs0 v1 xs1 a2 W w0 w1 w2 hform).mono fun e W' ⟨he, bel⟩ => ?_
  subst he
  exact ⟨_, rfl, _, _, _, [], _, _, hW', trodAll_mk1 (shut_bool Tryd.underlying4 _), (trodAll_cons_mk (Below.trod laidOut (by kernel_rfl) (of_decide_eq_true (by kernel_rfl)) kr0 bel lt0) (trodAll_cons_mk (Below.trod laidOut (by kernel_rfl) (of_decide_eq_true (by kernel_rfl)) kr1 bel lt1) (trodAll_cons_mk (Below.trod laidOut (by kernel_rfl) (of_decide_eq_true (by kernel_rfl)) kr2 bel lt2) trodAll_mk0))), trodVars_mk1 gForm tForm (var?_below bel gForm (lt_of_block hheap) hff) (held_again Tryd.underlying77 hd), bel.frame _, fun h => by cases h⟩

theorem said : Rows.FnExactWorldPurgeSaid :=
  OpenClaim.holds_of_wide 3 Tryd.f3 rfl rfl rfl rfl rfl rfl rfl ⟨rfl, rfl, rfl, rfl, rfl⟩ rfl rfl rfl rfl rfl (by kernel_rfl) Tryd.func3 (by kernel_rfl)
    (of_decide_eq_true (by kernel_rfl)) (by unfold Func.isWrapper; first | (rw [if_pos (by decide +kernel)]; kernel_rfl) | (rw [if_neg (by decide +kernel)]; exact ⟨rfl, rfl⟩))
    (fun os started H enc _ => lifted os started H enc)

theorem plain (f : FuncId) (fn : Func) (hf : Tryd.pinned.checked.prog.funcNamed "loop.example/hagioscope/laws.FnExactWorldPurge" = some f) (hfn : Tryd.pinned.checked.prog.funcs[f]? = some fn) :
    false = Tryd.pinned.checked.prog.looks [] ∧ ∀ (j : Nat) t, fn.params[j]? = some t → Tryd.pinned.checked.prog.wantsStandIn t = false := by
  obtain rfl : f = 3 := Option.some.inj ((show Tryd.prog.funcNamed "loop.example/hagioscope/laws.FnExactWorldPurge" = some 3 by kernel_rfl).symm.trans hf) |>.symm
  obtain rfl : fn = Tryd.f3 := (Option.some.inj (Tryd.func3.symm.trans hfn)).symm
  refine ⟨by kernel_rfl, fun j t ht => ?_⟩
  rw [Tryd.params3] at ht
  obtain rfl | rfl | rfl : t = 22 ∨ t = 23 ∨ t = 3 := by simpa using Array.mem_of_getElem? ht
  · exact (show Tryd.prog.wantsStandIn 22 = false by kernel_rfl)
  · exact (show Tryd.prog.wantsStandIn 23 = false by kernel_rfl)
  · exact (show Tryd.prog.wantsStandIn 3 = false by kernel_rfl)

end Go.Proofs.YtchphdhjbjeplaaDoor.fnExactWorldPurge
namespace Go.Proofs.YtchphdhjbjeplaaDoor
theorem fnExactWorldPurge_card : Rows.FnExactWorldPurgeCardSaid :=
  Claim7.holds_tied_plain_at .later [] _ _ _ _ fnExactWorldPurge.said (fun _ h => by cases h) (by kernel_rfl) (fun _ h => by cases h) fnExactWorldPurge_row_tie rfl ⟨rfl, rfl⟩ (by kernel_rfl) rfl fnExactWorldPurge.plain (by kernel_rfl)
#print axioms fnExactWorldPurge_card
end Go.Proofs.YtchphdhjbjeplaaDoor

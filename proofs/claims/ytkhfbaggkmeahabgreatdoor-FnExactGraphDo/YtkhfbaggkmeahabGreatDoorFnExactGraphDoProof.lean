/-
  GraphDo answers as its model at every graph and operation, field by field; it writes into no argument, and what it answers it owns.
-/
import Derived.Test.YtkhfbaggkmeahabGreatDoorCards
import Derived.Test.YtkhfbaggkmeahabGreatDoorTie
import Derived.Test.YtkhfbaggkmeahabGreatDoorIgd
import Derived.Test.YtkhfbaggkmeahabGreatDoorSgd
import Derived.Test.YtkhfbaggkmeahabGreatDoorMrk
import Derived.Test.YtkhfbaggkmeahabGreatDoorGra
import Derived.Test.YtkhfbaggkmeahabGreatDoorOpl
import Derived.Test.YtkhfbaggkmeahabGreatDoorOpg
import Derived.Test.YtkhfbaggkmeahabGreatDoorOpen
import Derived.Test.YtkhfbaggkmeahabGreatDoorErf
import Derived.Test.YtkhfbaggkmeahabGreatDoorBxg
import Derived.Test.YtkhfbaggkmeahabGreatDoorErs
import Derived.WalkKit
import Derived.ProofKit
import Derived.OpenShut
import Derived.ShutString
import Derived.ChangeOld
import Derived.Below
import Derived.Carry
import Derived.Handy
import Derived.Deep.RegionHeld3
import Derived.LaidMore
import Derived.Deep.DeepCutAuto
namespace Go.Proofs.YtkhfbaggkmeahabGreatDoor.fnExactGraphDo
open Go.Proofs.YtkhfbaggkmeahabGreatDoor.Lab
open Go.ChangeShapes Go.WideShapes Go.ChangeAt Go.RowKit
open Go.ChangeMaps (open_string shut_string)
set_option linter.unusedVariables false

theorem own : ownKnob Tryz.prog.godebug = none := by kernel_rfl
/-- A row of numbers that came in: nil, or so many cells. -/
def IsRow (k : IntKind) (w : World) (a : Option Addr) (len cap : Nat) (zs : List Int) : Prop :=
  (a = none ∧ len = 0 ∧ cap = 0 ∧ zs = []) ∨ ∃ x, a = some x ∧ len ≤ cap ∧ cap ≤ maxLen ∧ zs.length = cap ∧ (∀ i, i < zs.length → w.cell? (x.add i) = some (.int k (zs.getD i 0))) ∧ ∀ n ∈ zs, (Lit.int k n).wf = true

set_option maxRecDepth 16000 in
set_option maxHeartbeats 8000000 in
theorem walk (x0 y0 : Value) (ns0 : List (Int × Int)) (es0 : List (Int × Int × Int × Int × Int)) (k1 nl1 nn1 l1 al1 an1 bl1 bn1 : Int) (w : World) (w0 : GraphIn w x0 y0 ns0 es0) (w1 : i64In k1 ∧ (i64In nl1 ∧ i64In nn1) ∧ i64In l1 ∧ (i64In al1 ∧ i64In an1) ∧ i64In bl1 ∧ i64In bn1) (aF aT aN aU : Addr) (hF : Four w aF aT aN aU) (hE : Errs w) :
    Calls Tryz.prog 5 #[.agg #[x0, y0], .agg #[.int .i64 k1, .int .i64 nl1, .int .i64 nn1, .int .i64 l1, .int .i64 al1, .int .i64 an1, .int .i64 bl1, .int .i64 bn1]] w fun e w' => e = .returned (.bool true) ∧ Below w.heap.size w w' := by
  obtain ⟨r1, r2, m1, m2, -, -⟩ := w0
  clear w1
  obtain ⟨ga, gb, rfl⟩ := r1.len
  obtain ⟨gc, gd, rfl⟩ := r2.len
  simp only [maxLen, Nat.reducePow, Nat.reduceSub] at m1 m2
  obtain ⟨n, hn⟩ : ∃ t, t = ns0.length := ⟨_, rfl⟩
  obtain ⟨m, hm⟩ : ∃ t, t = es0.length := ⟨_, rfl⟩
  have HN : Hid (n = ns0.length ∧ m = es0.length) := ⟨hn, hm⟩
  rw [← hn] at r1 m1 ⊢
  rw [← hm] at r2 m2 ⊢
  clear hn hm
  have HR0 : Hid (RowAt 2 encNode w (.slice ga n gb) ns0 ∧ RowAt 5 encEdge w (.slice gc m gd) es0 ∧ Four w aF aT aN aU) := ⟨r1, r2, hF⟩
  obtain ⟨DN, DE, DC, LDN, LDE, HSP, HIM⟩ : ∃ (DN : List Nd) (DE : List Ed) (DC : Int), DN.length ≤ 100 ∧ DE.length ≤ 100
      ∧ Hid (∀ (W : World) (v1 v2 : Value), n ≤ 1048576 → m ≤ 1048576 → RowAt 2 encNode W v1 ns0 → RowAt 5 encEdge W v2 es0 → Calls Tryz.prog 8 #[.agg #[v1, v2], .agg #[.int .i64 k1, .int .i64 nl1, .int .i64 nn1, .int .i64 l1, .int .i64 al1, .int .i64 an1, .int .i64 bl1, .int .i64 bn1]] W fun e w' => ∃ u1 u2, e = .returned (.tuple #[.agg #[u1, u2], .int .i64 DC]) ∧ OwnGraph w' W.heap.size u1 u2 DN DE ∧ Below W.heap.size W w')
      ∧ Hid (∀ (W : World) (v1 v2 : Value), n ≤ 1048576 → m ≤ 1048576 → RowAt 2 encNode W v1 ns0 → RowAt 5 encEdge W v2 es0 → Four W aF aT aN aU → Calls Tryz.prog 7 #[.agg #[v1, v2], .agg #[.int .i64 k1, .int .i64 nl1, .int .i64 nn1, .int .i64 l1, .int .i64 al1, .int .i64 an1, .int .i64 bl1, .int .i64 bn1]] W fun e w' => ∃ u1 u2, e = .returned (.tuple #[.agg #[u1, u2], .int .i64 DC]) ∧ OwnGraph w' W.heap.size u1 u2 DN DE ∧ Below W.heap.size W w') :=
    ⟨gdN ns0 es0 k1 nl1 nn1 l1 al1 an1 bl1 bn1, gdE ns0 es0 k1 nl1 nn1 l1 al1 an1 bl1 bn1, gdC ns0 es0 k1 nl1 nn1 l1 al1 an1 bl1 bn1, (gd_len ns0 es0 k1 nl1 nn1 l1 al1 an1 bl1 bn1).1, (gd_len ns0 es0 k1 nl1 nn1 l1 al1 an1 bl1 bn1).2,
      fun W v1 v2 a1 a2 h1 h2 => spec_GraphDo v1 v2 ns0 es0 k1 nl1 nn1 l1 al1 an1 bl1 bn1 W h1 h2 (by rw [← HN.out.1]; exact a1) (by rw [← HN.out.2]; exact a2),
      fun W v1 v2 a1 a2 h1 h2 h3 => impl_GraphDo v1 v2 ns0 es0 k1 nl1 nn1 l1 al1 an1 bl1 bn1 W h1 h2 (by rw [← HN.out.1]; exact a1) (by rw [← HN.out.2]; exact a2) aF aT aN aU h3⟩
  obtain ⟨A, hA⟩ : ∃ t, t = w.heap.size := ⟨_, rfl⟩
  have HA : Hid (A = w.heap.size) := hA
  have BB : Below A w w := Below.refl _ _
  have sA : A ≤ w.heap.size := by omega
  clear hA
  have HRN : Hid (RowAt 2 encNode w (.slice ga n gb) ns0) := r1
  have HRE : Hid (RowAt 5 encEdge w (.slice gc m gd) es0) := r2
  have H4 : Hid (Four w aF aT aN aU) := hF
  clear r1 r2 hF hE
  go_enter Tryz.func5, Tryz.ntmps5
  go_wp2_with fail
  obtain ⟨G0, hG0⟩ : ∃ t, t = w.heap.size := ⟨_, rfl⟩
  generalize hW : w.alloc (.cells #[.slice ga n gb, .slice gc m gd] 43) = wa0
  have nb : Below w.heap.size w wa0 := by rw [← hW]; exact (Below.refl _ _).alloc (Nat.le_refl _) _
  have k3 : wa0.heap.size = G0 + 1 := by rw [← hW, hG0]; simp
  have kk0 : wa0.cell? ⟨G0, 0, none⟩ = some (.slice ga n gb) := by rw [← hW, hG0]; simp [go_sem]
  have kk1 : wa0.cell? ⟨G0, 1, none⟩ = some (.slice gc m gd) := by rw [← hW, hG0]; simp [go_sem]
  have oG0A : A ≤ G0 := by rw [hG0]; exact sA
  have BB1 : Below A w wa0 := BB.trans (nb.mono (by omega))
  have sA1 : A ≤ wa0.heap.size := by have := Below.size nb; omega
  have q0 : Hid (RowAt 2 encNode wa0 (.slice ga n gb) ns0) := HRN.out.keep nb
  have q1 : Hid (RowAt 5 encEdge wa0 (.slice gc m gd) es0) := HRE.out.keep nb
  have q2 : Hid (Four wa0 aF aT aN aU) := H4.out.keep nb
  clear BB sA   HRN HRE H4
  have HRN := q0
  have HRE := q1
  have H4 := q2
  have BB := BB1
  have sA := sA1
  clear BB1 sA1   q0 q1 q2
  have cc0 := kk0
  have cc1 := kk1
  have zz0 : G0 < wa0.heap.size := by omega
  rw [← hG0]
  have k3G0 := k3
  clear k3 hW nb hG0 kk0 kk1
  rw [k3G0.symm]
  obtain ⟨O0, hO0⟩ : ∃ t, t = wa0.heap.size := ⟨_, rfl⟩
  generalize hW : wa0.alloc (.cells #[.int .i64 k1, .int .i64 nl1, .int .i64 nn1, .int .i64 l1, .int .i64 al1, .int .i64 an1, .int .i64 bl1, .int .i64 bn1] 48) = wa
  have nb : Below wa0.heap.size wa0 wa := by rw [← hW]; exact (Below.refl _ _).alloc (Nat.le_refl _) _
  have k3 : wa.heap.size = O0 + 1 := by rw [← hW, hO0]; simp
  have kk0 : wa.cell? ⟨O0, 0, none⟩ = some (.int .i64 k1) := by rw [← hW, hO0]; simp [go_sem]
  have kk1 : wa.cell? ⟨O0, 1, none⟩ = some (.int .i64 nl1) := by rw [← hW, hO0]; simp [go_sem]
  have kk2 : wa.cell? ⟨O0, 2, none⟩ = some (.int .i64 nn1) := by rw [← hW, hO0]; simp [go_sem]
  have kk3 : wa.cell? ⟨O0, 3, none⟩ = some (.int .i64 l1) := by rw [← hW, hO0]; simp [go_sem]
  have kk4 : wa.cell? ⟨O0, 4, none⟩ = some (.int .i64 al1) := by rw [← hW, hO0]; simp [go_sem]
  have kk5 : wa.cell? ⟨O0, 5, none⟩ = some (.int .i64 an1) := by rw [← hW, hO0]; simp [go_sem]
  have kk6 : wa.cell? ⟨O0, 6, none⟩ = some (.int .i64 bl1) := by rw [← hW, hO0]; simp [go_sem]
  have kk7 : wa.cell? ⟨O0, 7, none⟩ = some (.int .i64 bn1) := by rw [← hW, hO0]; simp [go_sem]
  have oO0A : A ≤ O0 := by rw [hO0]; exact sA
  have oO00 : G0 < O0 := by rw [hO0]; exact zz0
  have d0 : wa.cell? ⟨G0, 0, none⟩ = some (.slice ga n gb) := (Below.celz nb _ _ _ (by omega)).trans cc0
  have d1 : wa.cell? ⟨G0, 1, none⟩ = some (.slice gc m gd) := (Below.celz nb _ _ _ (by omega)).trans cc1
  have y0 : G0 < wa.heap.size := by have := Below.size nb; omega
  have BB1 : Below A w wa := BB.trans (nb.mono (by omega))
  have sA1 : A ≤ wa.heap.size := by have := Below.size nb; omega
  have q0 : Hid (RowAt 2 encNode wa (.slice ga n gb) ns0) := HRN.out.keep nb
  have q1 : Hid (RowAt 5 encEdge wa (.slice gc m gd) es0) := HRE.out.keep nb
  have q2 : Hid (Four wa aF aT aN aU) := H4.out.keep nb
  clear BB sA cc0 cc1 zz0 HRN HRE H4
  have cc0 := d0
  have cc1 := d1
  have zz0 := y0
  have HRN := q0
  have HRE := q1
  have H4 := q2
  have BB := BB1
  have sA := sA1
  clear BB1 sA1 d0 d1 y0 q0 q1 q2
  have cc2 := kk0
  have cc3 := kk1
  have cc4 := kk2
  have cc5 := kk3
  have cc6 := kk4
  have cc7 := kk5
  have cc8 := kk6
  have cc9 := kk7
  have zz1 : O0 < wa.heap.size := by omega
  rw [← hO0]
  have k3O0 := k3
  clear k3 hW nb hO0 kk0 kk1 kk2 kk3 kk4 kk5 kk6 kk7
  clear k3G0 k3O0
  refine (szGraph _ _ _ _ _ _ _ _ (by omega) (by omega) m1 m2).mono ?_
  rintro e wb ⟨rfl, bz⟩
  have d0 : wb.cell? ⟨G0, 0, none⟩ = some (.slice ga n gb) := (Below.celz bz _ _ _ (by omega)).trans cc0
  have d1 : wb.cell? ⟨G0, 1, none⟩ = some (.slice gc m gd) := (Below.celz bz _ _ _ (by omega)).trans cc1
  have d2 : wb.cell? ⟨O0, 0, none⟩ = some (.int .i64 k1) := (Below.celz bz _ _ _ (by omega)).trans cc2
  have d3 : wb.cell? ⟨O0, 1, none⟩ = some (.int .i64 nl1) := (Below.celz bz _ _ _ (by omega)).trans cc3
  have d4 : wb.cell? ⟨O0, 2, none⟩ = some (.int .i64 nn1) := (Below.celz bz _ _ _ (by omega)).trans cc4
  have d5 : wb.cell? ⟨O0, 3, none⟩ = some (.int .i64 l1) := (Below.celz bz _ _ _ (by omega)).trans cc5
  have d6 : wb.cell? ⟨O0, 4, none⟩ = some (.int .i64 al1) := (Below.celz bz _ _ _ (by omega)).trans cc6
  have d7 : wb.cell? ⟨O0, 5, none⟩ = some (.int .i64 an1) := (Below.celz bz _ _ _ (by omega)).trans cc7
  have d8 : wb.cell? ⟨O0, 6, none⟩ = some (.int .i64 bl1) := (Below.celz bz _ _ _ (by omega)).trans cc8
  have d9 : wb.cell? ⟨O0, 7, none⟩ = some (.int .i64 bn1) := (Below.celz bz _ _ _ (by omega)).trans cc9
  have y0 : G0 < wb.heap.size := by have := Below.size bz; omega
  have y1 : O0 < wb.heap.size := by have := Below.size bz; omega
  have BB1 : Below A w wb := BB.trans (bz.mono (by omega))
  have sA1 : A ≤ wb.heap.size := by have := Below.size bz; omega
  have q0 : Hid (RowAt 2 encNode wb (.slice ga n gb) ns0) := HRN.out.keep bz
  have q1 : Hid (RowAt 5 encEdge wb (.slice gc m gd) es0) := HRE.out.keep bz
  have q2 : Hid (Four wb aF aT aN aU) := H4.out.keep bz
  clear BB sA cc0 cc1 cc2 cc3 cc4 cc5 cc6 cc7 cc8 cc9 zz0 zz1 HRN HRE H4
  have cc0 := d0
  have cc1 := d1
  have cc2 := d2
  have cc3 := d3
  have cc4 := d4
  have cc5 := d5
  have cc6 := d6
  have cc7 := d7
  have cc8 := d8
  have cc9 := d9
  have zz0 := y0
  have zz1 := y1
  have HRN := q0
  have HRE := q1
  have H4 := q2
  have BB := BB1
  have sA := sA1
  clear BB1 sA1 d0 d1 d2 d3 d4 d5 d6 d7 d8 d9 y0 y1 q0 q1 q2
  clear bz
  by_cases hsz : ¬ ((n : Int) + m ≤ 1048576)
  · rw [if_neg hsz]
    go_wp2_with fail
    go_ret
    exact ⟨rfl, (by have := BB; rw [HA.out] at this; exact this)⟩
  rw [if_pos (by omega)]
  have ln : n ≤ 1048576 := by omega
  have lm : m ≤ 1048576 := by omega
  have hszb : ¬ (1048576 - (n : Int) - (m : Int) < 0) := by omega
  clear m1 m2 hsz
  go_wp2_with fail
  go_upto_region 5 with fail
  have hS : Hid (∀ w', Below wb.heap.size wb w' → Below wb.heap.size wb w' ∧ w'.cell? ⟨G0, 0, none⟩ = some (.slice ga n gb) ∧ w'.cell? ⟨G0, 1, none⟩ = some (.slice gc m gd) ∧ w'.cell? ⟨O0, 0, none⟩ = some (.int .i64 k1) ∧ w'.cell? ⟨O0, 1, none⟩ = some (.int .i64 nl1) ∧ w'.cell? ⟨O0, 2, none⟩ = some (.int .i64 nn1) ∧ w'.cell? ⟨O0, 3, none⟩ = some (.int .i64 l1) ∧ w'.cell? ⟨O0, 4, none⟩ = some (.int .i64 al1) ∧ w'.cell? ⟨O0, 5, none⟩ = some (.int .i64 an1) ∧ w'.cell? ⟨O0, 6, none⟩ = some (.int .i64 bl1) ∧ w'.cell? ⟨O0, 7, none⟩ = some (.int .i64 bn1)) := fun w' hn => ⟨hn, (Below.celz hn _ _ _ zz0).trans cc0, (Below.celz hn _ _ _ zz0).trans cc1, (Below.celz hn _ _ _ zz1).trans cc2, (Below.celz hn _ _ _ zz1).trans cc3, (Below.celz hn _ _ _ zz1).trans cc4, (Below.celz hn _ _ _ zz1).trans cc5, (Below.celz hn _ _ _ zz1).trans cc6, (Below.celz hn _ _ _ zz1).trans cc7, (Below.celz hn _ _ _ zz1).trans cc8, (Below.celz hn _ _ _ zz1).trans cc9⟩
  go_cut [6, 7] (fun sa sm wx => ∃ ra rb rc rd C, sa = .pointer (some ⟨C, 0, none⟩) ∧ sm = .int .i64 DC ∧ BoxG wb wx C (.slice ra DN.length rb) (.slice rc DE.length rd) DN DE)
  case first =>
    go_region_held3 (fun w' => Below wb.heap.size wb w' ∧ w'.cell? ⟨G0, 0, none⟩ = some (.slice ga n gb) ∧ w'.cell? ⟨G0, 1, none⟩ = some (.slice gc m gd) ∧ w'.cell? ⟨O0, 0, none⟩ = some (.int .i64 k1) ∧ w'.cell? ⟨O0, 1, none⟩ = some (.int .i64 nl1) ∧ w'.cell? ⟨O0, 2, none⟩ = some (.int .i64 nn1) ∧ w'.cell? ⟨O0, 3, none⟩ = some (.int .i64 l1) ∧ w'.cell? ⟨O0, 4, none⟩ = some (.int .i64 al1) ∧ w'.cell? ⟨O0, 5, none⟩ = some (.int .i64 an1) ∧ w'.cell? ⟨O0, 6, none⟩ = some (.int .i64 bl1) ∧ w'.cell? ⟨O0, 7, none⟩ = some (.int .i64 bn1))
      (first | with_reducible exact hS.out _ (Below.refl _ _).drew | (with_reducible exact hS.out _ (keep_below (And.left (by assumption)) tj3)) | (with_reducible exact hS.out _ (keep_below (And.left (by assumption)) tj2)) | (with_reducible exact hS.out _ (keep_below (And.left (by assumption)) tj1)) | (with_reducible exact hS.out _ (Below.alloc (And.left (by assumption)) (Below.size (And.left (by assumption))) _)) | exact hS.out _ (Below.alloc hs3.out hs3.out.size _) | exact hS.out _ (Below.setCell (Below.setCell hs3.out (by first | exact hs2.out.size | exact hs1.out.size | exact Nat.le_refl _) _) (by first | exact hs2.out.size | exact hs1.out.size | exact Nat.le_refl _) _))
      (first | (go_at_call_of 12 (Value.agg #[.slice ga n gb, .slice gc m gd]); refine (toGraph _ _ ns0 es0 _ (HRN.out.keep (And.left (by assumption))) (HRE.out.keep (And.left (by assumption))) (by rw [← HN.out.1]; exact ln) (by rw [← HN.out.2]; exact lm)).mono ?_; rintro e x1wc ⟨u1, u2, rfl, o1, tj1⟩; have hs1 : Hid (Below wb.heap.size wb x1wc) := keep_below (And.left (by assumption)) tj1) | (go_at_call_of 13 (Value.agg #[.int .i64 k1, .int .i64 nl1, .int .i64 nn1, .int .i64 l1, .int .i64 al1, .int .i64 an1, .int .i64 bl1, .int .i64 bn1]); refine (toOp k1 nl1 nn1 l1 al1 an1 bl1 bn1 _).mono ?_; rintro e x2wc ⟨rfl, tj2⟩; have hs2 : Hid (Below wb.heap.size wb x2wc) := keep_below (And.left (by assumption)) tj2) | (go_at_call 8; refine (HSP.out _ _ _ ln lm (o1.nodes.keep (by first | exact tj2 | exact tj2.alloc tj2.size _ | exact ((Below.refl _ _).alloc (Nat.le_refl _) _).trans (tj2.mono (by simp)))) (o1.edges.keep (by first | exact tj2 | exact tj2.alloc tj2.size _ | exact ((Below.refl _ _).alloc (Nat.le_refl _) _).trans (tj2.mono (by simp))))).mono ?_; rintro e x3wc ⟨p1, p2, rfl, ogz, tj3⟩; have hs3 : Hid (Below wb.heap.size wb x3wc) := keep_below (And.left (by assumption)) tj3; obtain ⟨p1, p2, p3, p4, rfl, rfl⟩ := ogz.form; first | (have hbx : x3wc.heap[x2wc.heap.size]? = some (.cells #[.slice none 0 0, .slice none 0 0] 26 (0, 0)) := (by rw [tj3.block _ (by have h0 := tj3.size; (try simp at h0); (first | omega | (simp; done) | (simp; omega)))]; exact new_block _ _); have qb0 : x3wc.cell? ⟨x2wc.heap.size, 0, none⟩ = some (.slice none 0 0) := (by rw [cell_block hbx]; rfl); have qb1 : x3wc.cell? ⟨x2wc.heap.size, 1, none⟩ = some (.slice none 0 0) := (by rw [cell_block hbx]; rfl); have qb2 : ∀ o, x3wc.frozen? ⟨x2wc.heap.size, o, none⟩ = false := (fun o => free_block hbx)) | (have hbx : x3wc.heap[x1wc.heap.size]? = some (.cells #[.slice none 0 0, .slice none 0 0] 26 (0, 0)) := (by rw [tj3.block _ (by have h0 := tj2.size; have h1 := tj3.size; (try simp at h0); (try simp at h1); (first | omega | (simp; done) | (simp; omega)))]; rw [tj2.block _ (by have h0 := tj2.size; have h1 := tj3.size; (try simp at h0); (try simp at h1); (first | omega | (simp; done) | (simp; omega)))]; exact new_block _ _); have qb0 : x3wc.cell? ⟨x1wc.heap.size, 0, none⟩ = some (.slice none 0 0) := (by rw [cell_block hbx]; rfl); have qb1 : x3wc.cell? ⟨x1wc.heap.size, 1, none⟩ = some (.slice none 0 0) := (by rw [cell_block hbx]; rfl); have qb2 : ∀ o, x3wc.frozen? ⟨x1wc.heap.size, o, none⟩ = false := (fun o => free_block hbx)) | (have hbx : x3wc.heap[wb.heap.size]? = some (.cells #[.slice none 0 0, .slice none 0 0] 26 (0, 0)) := (by rw [tj3.block _ (by have h0 := tj1.size; have h1 := tj2.size; have h2 := tj3.size; (try simp at h0); (try simp at h1); (try simp at h2); (first | omega | (simp; done) | (simp; omega)))]; rw [tj2.block _ (by have h0 := tj1.size; have h1 := tj2.size; have h2 := tj3.size; (try simp at h0); (try simp at h1); (try simp at h2); (first | omega | (simp; done) | (simp; omega)))]; rw [tj1.block _ (by have h0 := tj1.size; have h1 := tj2.size; have h2 := tj3.size; (try simp at h0); (try simp at h1); (try simp at h2); (first | omega | (simp; done) | (simp; omega)))]; exact new_block _ _); have qb0 : x3wc.cell? ⟨wb.heap.size, 0, none⟩ = some (.slice none 0 0) := (by rw [cell_block hbx]; rfl); have qb1 : x3wc.cell? ⟨wb.heap.size, 1, none⟩ = some (.slice none 0 0) := (by rw [cell_block hbx]; rfl); have qb2 : ∀ o, x3wc.frozen? ⟨wb.heap.size, o, none⟩ = false := (fun o => free_block hbx)) | skip))
    all_goals (
      go_wp2_with fail
      go_meet
      first
        | exact ⟨_, _, _, _, _, rfl, rfl, boxg_last hs3.out ogz (by have h0 := tj1.size; (try simp at h0); have h1 := tj2.size; (try simp at h1); have h2 := tj3.size; (try simp at h2); (first | omega | (simp; done) | (simp; omega)))⟩
        | exact ⟨_, _, _, _, _, rfl, rfl, boxg_set hs3.out ogz (by first | exact hs2.out.size | exact hs1.out.size | exact Nat.le_refl _) (by have h0 := tj1.size; (try simp at h0); have h1 := tj2.size; (try simp at h1); have h2 := tj3.size; (try simp at h2); (first | omega | (simp; done) | (simp; omega))) hbx⟩)
  case rest =>
  obtain ⟨wa1, wa2, wa3, wa4, C0, rfl, rfl, hbu⟩ := hcut
  generalize wc = wc at *
  obtain ⟨lb, hC0, hblk, og, hap⟩ := hbu
  clear hS
  have oC0A : A ≤ C0 := by omega
  have oC00 : G0 < C0 := by have := zz0; omega
  have oC01 : O0 < C0 := by have := zz1; omega
  have BWW : Hid (∀ k, ((.slice wa1 DN.length wa2 : Value).ownBlock = some k ∨ (.slice wa3 DE.length wa4 : Value).ownBlock = some k) → wb.heap.size ≤ k ∧ k < wc.heap.size ∧ k ≠ C0) := fun k hk => ⟨(og.lt hk).1, (og.lt hk).2, hap k hk⟩
  have d0 : wc.cell? ⟨G0, 0, none⟩ = some (.slice ga n gb) := (Below.celz lb _ _ _ (by omega)).trans cc0
  have d1 : wc.cell? ⟨G0, 1, none⟩ = some (.slice gc m gd) := (Below.celz lb _ _ _ (by omega)).trans cc1
  have d2 : wc.cell? ⟨O0, 0, none⟩ = some (.int .i64 k1) := (Below.celz lb _ _ _ (by omega)).trans cc2
  have d3 : wc.cell? ⟨O0, 1, none⟩ = some (.int .i64 nl1) := (Below.celz lb _ _ _ (by omega)).trans cc3
  have d4 : wc.cell? ⟨O0, 2, none⟩ = some (.int .i64 nn1) := (Below.celz lb _ _ _ (by omega)).trans cc4
  have d5 : wc.cell? ⟨O0, 3, none⟩ = some (.int .i64 l1) := (Below.celz lb _ _ _ (by omega)).trans cc5
  have d6 : wc.cell? ⟨O0, 4, none⟩ = some (.int .i64 al1) := (Below.celz lb _ _ _ (by omega)).trans cc6
  have d7 : wc.cell? ⟨O0, 5, none⟩ = some (.int .i64 an1) := (Below.celz lb _ _ _ (by omega)).trans cc7
  have d8 : wc.cell? ⟨O0, 6, none⟩ = some (.int .i64 bl1) := (Below.celz lb _ _ _ (by omega)).trans cc8
  have d9 : wc.cell? ⟨O0, 7, none⟩ = some (.int .i64 bn1) := (Below.celz lb _ _ _ (by omega)).trans cc9
  have y0 : G0 < wc.heap.size := by have := Below.size lb; omega
  have y1 : O0 < wc.heap.size := by have := Below.size lb; omega
  have BB1 : Below A w wc := BB.trans (lb.mono (by omega))
  have sA1 : A ≤ wc.heap.size := by have := Below.size lb; omega
  have q0 : Hid (RowAt 2 encNode wc (.slice ga n gb) ns0) := HRN.out.keep lb
  have q1 : Hid (RowAt 5 encEdge wc (.slice gc m gd) es0) := HRE.out.keep lb
  have q2 : Hid (Four wc aF aT aN aU) := H4.out.keep lb
  clear BB sA cc0 cc1 cc2 cc3 cc4 cc5 cc6 cc7 cc8 cc9 zz0 zz1 HRN HRE H4
  have cc0 := d0
  have cc1 := d1
  have cc2 := d2
  have cc3 := d3
  have cc4 := d4
  have cc5 := d5
  have cc6 := d6
  have cc7 := d7
  have cc8 := d8
  have cc9 := d9
  have zz0 := y0
  have zz1 := y1
  have HRN := q0
  have HRE := q1
  have H4 := q2
  have BB := BB1
  have sA := sA1
  clear BB1 sA1 d0 d1 d2 d3 d4 d5 d6 d7 d8 d9 y0 y1 q0 q1 q2
  clear lb
  have cc10 : wc.cell? ⟨C0, 0, none⟩ = some (.slice wa1 DN.length wa2) := by rw [cell_block hblk]; rfl
  have cc11 : wc.cell? ⟨C0, 1, none⟩ = some (.slice wa3 DE.length wa4) := by rw [cell_block hblk]; rfl
  have zz2 : C0 < wc.heap.size := lt_of_block hblk
  obtain ⟨bWW, hbWW⟩ : ∃ t, t = wb.heap.size := ⟨_, rfl⟩
  rw [← hbWW] at og
  have HWW : Hid (OwnGraph wc bWW (.slice wa1 DN.length wa2) (.slice wa3 DE.length wa4) DN DE) := og
  clear og hap hblk hC0
  clear hbWW
  go_wp2_with fail
  obtain ⟨bx, hbx⟩ : ∃ t, t = wc.heap.size := ⟨_, rfl⟩
  have lC0 : C0 < bx := by rw [hbx]; exact zz2
  have BW : Hid (∀ k, ((.slice wa1 DN.length wa2 : Value).ownBlock = some k ∨ (.slice wa3 DE.length wa4 : Value).ownBlock = some k) → k < bx) := fun k hk => by rw [hbx]; exact (BWW.out k hk).2.1
  clear BWW
  obtain ⟨bxp, hbxp⟩ : ∃ t, wc.heap.size = t + 1 := ⟨wc.heap.size - 1, by omega⟩
  have lbx : bx = bxp + 1 := by omega
  have zz3 : bxp < wc.heap.size := by omega
  clear hbxp
  refine (toGraph _ _ ns0 es0 _ HRN.out HRE.out (by rw [← HN.out.1]; exact ln) (by rw [← HN.out.2]; exact lm)).mono ?_
  rintro e wd ⟨u1, u2, rfl, og, bz⟩
  have d0 : wd.cell? ⟨G0, 0, none⟩ = some (.slice ga n gb) := (Below.celz bz _ _ _ (by omega)).trans cc0
  have d1 : wd.cell? ⟨G0, 1, none⟩ = some (.slice gc m gd) := (Below.celz bz _ _ _ (by omega)).trans cc1
  have d2 : wd.cell? ⟨O0, 0, none⟩ = some (.int .i64 k1) := (Below.celz bz _ _ _ (by omega)).trans cc2
  have d3 : wd.cell? ⟨O0, 1, none⟩ = some (.int .i64 nl1) := (Below.celz bz _ _ _ (by omega)).trans cc3
  have d4 : wd.cell? ⟨O0, 2, none⟩ = some (.int .i64 nn1) := (Below.celz bz _ _ _ (by omega)).trans cc4
  have d5 : wd.cell? ⟨O0, 3, none⟩ = some (.int .i64 l1) := (Below.celz bz _ _ _ (by omega)).trans cc5
  have d6 : wd.cell? ⟨O0, 4, none⟩ = some (.int .i64 al1) := (Below.celz bz _ _ _ (by omega)).trans cc6
  have d7 : wd.cell? ⟨O0, 5, none⟩ = some (.int .i64 an1) := (Below.celz bz _ _ _ (by omega)).trans cc7
  have d8 : wd.cell? ⟨O0, 6, none⟩ = some (.int .i64 bl1) := (Below.celz bz _ _ _ (by omega)).trans cc8
  have d9 : wd.cell? ⟨O0, 7, none⟩ = some (.int .i64 bn1) := (Below.celz bz _ _ _ (by omega)).trans cc9
  have d10 : wd.cell? ⟨C0, 0, none⟩ = some (.slice wa1 DN.length wa2) := (Below.celz bz _ _ _ (by omega)).trans cc10
  have d11 : wd.cell? ⟨C0, 1, none⟩ = some (.slice wa3 DE.length wa4) := (Below.celz bz _ _ _ (by omega)).trans cc11
  have y0 : G0 < wd.heap.size := by have := Below.size bz; omega
  have y1 : O0 < wd.heap.size := by have := Below.size bz; omega
  have y2 : C0 < wd.heap.size := by have := Below.size bz; omega
  have y3 : bxp < wd.heap.size := by have := Below.size bz; omega
  have BB1 : Below A w wd := BB.trans (bz.mono (by omega))
  have sA1 : A ≤ wd.heap.size := by have := Below.size bz; omega
  have q0 : Hid (RowAt 2 encNode wd (.slice ga n gb) ns0) := HRN.out.keep bz
  have q1 : Hid (RowAt 5 encEdge wd (.slice gc m gd) es0) := HRE.out.keep bz
  have q2 : Hid (Four wd aF aT aN aU) := H4.out.keep bz
  have q3 : Hid (OwnGraph wd bWW (.slice wa1 DN.length wa2) (.slice wa3 DE.length wa4) DN DE) := HWW.out.keep bz
  clear BB sA cc0 cc1 cc2 cc3 cc4 cc5 cc6 cc7 cc8 cc9 cc10 cc11 zz0 zz1 zz2 zz3 HRN HRE H4 HWW
  have cc0 := d0
  have cc1 := d1
  have cc2 := d2
  have cc3 := d3
  have cc4 := d4
  have cc5 := d5
  have cc6 := d6
  have cc7 := d7
  have cc8 := d8
  have cc9 := d9
  have cc10 := d10
  have cc11 := d11
  have zz0 := y0
  have zz1 := y1
  have zz2 := y2
  have zz3 := y3
  have HRN := q0
  have HRE := q1
  have H4 := q2
  have HWW := q3
  have BB := BB1
  have sA := sA1
  clear BB1 sA1 d0 d1 d2 d3 d4 d5 d6 d7 d8 d9 d10 d11 y0 y1 y2 y3 q0 q1 q2 q3
  clear bz
  obtain ⟨xa, xb, xc, xd, rfl, rfl⟩ := og.form
  rw [← hbx] at og
  have hnn : ns0.length = n := HN.out.1.symm
  have hmm : es0.length = m := HN.out.2.symm
  rw [hnn, hmm] at og ⊢
  clear hnn hmm hbx
  have BX0 : Hid (∀ k, ((.slice xa n xb : Value).ownBlock = some k ∨ (.slice xc m xd : Value).ownBlock = some k) → bx ≤ k ∧ k < wd.heap.size) := fun k hk => og.lt hk
  have HX : Hid (OwnGraph wd bx (.slice xa n xb) (.slice xc m xd) ns0 es0) := og
  clear og
  go_wp2_with fail
  obtain ⟨dz, hdz⟩ : ∃ t, t = wd.heap.size := ⟨_, rfl⟩
  rw [← hdz] at BX0
  obtain ⟨dzp, hdzp⟩ : ∃ t, wd.heap.size = t + 1 := ⟨wd.heap.size - 1, by omega⟩
  have ldz : dz = dzp + 1 := by omega
  have zz4 : dzp < wd.heap.size := by omega
  clear hdzp hdz
  obtain ⟨D0, hD0⟩ : ∃ t, t = wd.heap.size := ⟨_, rfl⟩
  generalize hW : wd.alloc (.cells #[.slice xa n xb, .slice xc m xd] 26) = we
  have nb : Below wd.heap.size wd we := by rw [← hW]; exact (Below.refl _ _).alloc (Nat.le_refl _) _
  have k3 : we.heap.size = D0 + 1 := by rw [← hW, hD0]; simp
  have kk0 : we.cell? ⟨D0, 0, none⟩ = some (.slice xa n xb) := by rw [← hW, hD0]; simp [go_sem]
  have kk1 : we.cell? ⟨D0, 1, none⟩ = some (.slice xc m xd) := by rw [← hW, hD0]; simp [go_sem]
  have oD0A : A ≤ D0 := by rw [hD0]; exact sA
  have oD00 : G0 < D0 := by rw [hD0]; exact zz0
  have oD01 : O0 < D0 := by rw [hD0]; exact zz1
  have oD02 : C0 < D0 := by rw [hD0]; exact zz2
  have oD03 : bxp < D0 := by rw [hD0]; exact zz3
  have oD04 : dzp < D0 := by rw [hD0]; exact zz4
  have d0 : we.cell? ⟨G0, 0, none⟩ = some (.slice ga n gb) := (Below.celz nb _ _ _ (by omega)).trans cc0
  have d1 : we.cell? ⟨G0, 1, none⟩ = some (.slice gc m gd) := (Below.celz nb _ _ _ (by omega)).trans cc1
  have d2 : we.cell? ⟨O0, 0, none⟩ = some (.int .i64 k1) := (Below.celz nb _ _ _ (by omega)).trans cc2
  have d3 : we.cell? ⟨O0, 1, none⟩ = some (.int .i64 nl1) := (Below.celz nb _ _ _ (by omega)).trans cc3
  have d4 : we.cell? ⟨O0, 2, none⟩ = some (.int .i64 nn1) := (Below.celz nb _ _ _ (by omega)).trans cc4
  have d5 : we.cell? ⟨O0, 3, none⟩ = some (.int .i64 l1) := (Below.celz nb _ _ _ (by omega)).trans cc5
  have d6 : we.cell? ⟨O0, 4, none⟩ = some (.int .i64 al1) := (Below.celz nb _ _ _ (by omega)).trans cc6
  have d7 : we.cell? ⟨O0, 5, none⟩ = some (.int .i64 an1) := (Below.celz nb _ _ _ (by omega)).trans cc7
  have d8 : we.cell? ⟨O0, 6, none⟩ = some (.int .i64 bl1) := (Below.celz nb _ _ _ (by omega)).trans cc8
  have d9 : we.cell? ⟨O0, 7, none⟩ = some (.int .i64 bn1) := (Below.celz nb _ _ _ (by omega)).trans cc9
  have d10 : we.cell? ⟨C0, 0, none⟩ = some (.slice wa1 DN.length wa2) := (Below.celz nb _ _ _ (by omega)).trans cc10
  have d11 : we.cell? ⟨C0, 1, none⟩ = some (.slice wa3 DE.length wa4) := (Below.celz nb _ _ _ (by omega)).trans cc11
  have y0 : G0 < we.heap.size := by have := Below.size nb; omega
  have y1 : O0 < we.heap.size := by have := Below.size nb; omega
  have y2 : C0 < we.heap.size := by have := Below.size nb; omega
  have y3 : bxp < we.heap.size := by have := Below.size nb; omega
  have y4 : dzp < we.heap.size := by have := Below.size nb; omega
  have BB1 : Below A w we := BB.trans (nb.mono (by omega))
  have sA1 : A ≤ we.heap.size := by have := Below.size nb; omega
  have q0 : Hid (RowAt 2 encNode we (.slice ga n gb) ns0) := HRN.out.keep nb
  have q1 : Hid (RowAt 5 encEdge we (.slice gc m gd) es0) := HRE.out.keep nb
  have q2 : Hid (Four we aF aT aN aU) := H4.out.keep nb
  have q3 : Hid (OwnGraph we bWW (.slice wa1 DN.length wa2) (.slice wa3 DE.length wa4) DN DE) := HWW.out.keep nb
  have q4 : Hid (OwnGraph we bx (.slice xa n xb) (.slice xc m xd) ns0 es0) := HX.out.keep nb
  clear BB sA cc0 cc1 cc2 cc3 cc4 cc5 cc6 cc7 cc8 cc9 cc10 cc11 zz0 zz1 zz2 zz3 zz4 HRN HRE H4 HWW HX
  have cc0 := d0
  have cc1 := d1
  have cc2 := d2
  have cc3 := d3
  have cc4 := d4
  have cc5 := d5
  have cc6 := d6
  have cc7 := d7
  have cc8 := d8
  have cc9 := d9
  have cc10 := d10
  have cc11 := d11
  have zz0 := y0
  have zz1 := y1
  have zz2 := y2
  have zz3 := y3
  have zz4 := y4
  have HRN := q0
  have HRE := q1
  have H4 := q2
  have HWW := q3
  have HX := q4
  have BB := BB1
  have sA := sA1
  clear BB1 sA1 d0 d1 d2 d3 d4 d5 d6 d7 d8 d9 d10 d11 y0 y1 y2 y3 y4 q0 q1 q2 q3 q4
  have cc12 := kk0
  have cc13 := kk1
  have zz5 : D0 < we.heap.size := by omega
  rw [← hD0]
  have k3D0 := k3
  clear k3 hW nb hD0 kk0 kk1
  have lD0 : dz ≤ D0 := by omega
  have lD1 : C0 < D0 := by omega
  have HD0 : Hid (D0 < we.heap.size) := zz5
  clear k3D0
  go_upto_region 7 with fail
  have hS : Hid (∀ w', Below we.heap.size we w' → Below we.heap.size we w' ∧ w'.cell? ⟨O0, 0, none⟩ = some (.int .i64 k1) ∧ w'.cell? ⟨O0, 1, none⟩ = some (.int .i64 nl1) ∧ w'.cell? ⟨O0, 2, none⟩ = some (.int .i64 nn1) ∧ w'.cell? ⟨O0, 3, none⟩ = some (.int .i64 l1) ∧ w'.cell? ⟨O0, 4, none⟩ = some (.int .i64 al1) ∧ w'.cell? ⟨O0, 5, none⟩ = some (.int .i64 an1) ∧ w'.cell? ⟨O0, 6, none⟩ = some (.int .i64 bl1) ∧ w'.cell? ⟨O0, 7, none⟩ = some (.int .i64 bn1) ∧ w'.cell? ⟨D0, 0, none⟩ = some (.slice xa n xb) ∧ w'.cell? ⟨D0, 1, none⟩ = some (.slice xc m xd)) := fun w' hn => ⟨hn, (Below.celz hn _ _ _ zz1).trans cc2, (Below.celz hn _ _ _ zz1).trans cc3, (Below.celz hn _ _ _ zz1).trans cc4, (Below.celz hn _ _ _ zz1).trans cc5, (Below.celz hn _ _ _ zz1).trans cc6, (Below.celz hn _ _ _ zz1).trans cc7, (Below.celz hn _ _ _ zz1).trans cc8, (Below.celz hn _ _ _ zz1).trans cc9, (Below.celz hn _ _ _ zz5).trans cc12, (Below.celz hn _ _ _ zz5).trans cc13⟩
  go_cut [9, 10] (fun sa sm wx => ∃ ra rb rc rd C, sa = .pointer (some ⟨C, 0, none⟩) ∧ sm = .int .i64 DC ∧ BoxG we wx C (.slice ra DN.length rb) (.slice rc DE.length rd) DN DE)
  case first =>
    go_region_held3 (fun w' => Below we.heap.size we w' ∧ w'.cell? ⟨O0, 0, none⟩ = some (.int .i64 k1) ∧ w'.cell? ⟨O0, 1, none⟩ = some (.int .i64 nl1) ∧ w'.cell? ⟨O0, 2, none⟩ = some (.int .i64 nn1) ∧ w'.cell? ⟨O0, 3, none⟩ = some (.int .i64 l1) ∧ w'.cell? ⟨O0, 4, none⟩ = some (.int .i64 al1) ∧ w'.cell? ⟨O0, 5, none⟩ = some (.int .i64 an1) ∧ w'.cell? ⟨O0, 6, none⟩ = some (.int .i64 bl1) ∧ w'.cell? ⟨O0, 7, none⟩ = some (.int .i64 bn1) ∧ w'.cell? ⟨D0, 0, none⟩ = some (.slice xa n xb) ∧ w'.cell? ⟨D0, 1, none⟩ = some (.slice xc m xd))
      (first | with_reducible exact hS.out _ (Below.refl _ _).drew | (with_reducible exact hS.out _ (keep_below (And.left (by assumption)) tj2)) | (with_reducible exact hS.out _ (keep_below (And.left (by assumption)) tj1)) | (with_reducible exact hS.out _ (Below.alloc (And.left (by assumption)) (Below.size (And.left (by assumption))) _)) | exact hS.out _ (Below.alloc hs2.out hs2.out.size _) | exact hS.out _ (Below.setCell (Below.setCell hs2.out (by first | exact hs1.out.size | exact Nat.le_refl _) _) (by first | exact hs1.out.size | exact Nat.le_refl _) _))
      (first | (go_at_call_of 13 (Value.agg #[.int .i64 k1, .int .i64 nl1, .int .i64 nn1, .int .i64 l1, .int .i64 al1, .int .i64 an1, .int .i64 bl1, .int .i64 bn1]); refine (toOp k1 nl1 nn1 l1 al1 an1 bl1 bn1 _).mono ?_; rintro e x1wf ⟨rfl, tj1⟩; have hs1 : Hid (Below we.heap.size we x1wf) := keep_below (And.left (by assumption)) tj1) | (go_at_call 7; refine (HIM.out _ _ _ ln lm (HX.out.keep (And.left (by assumption))).nodes (HX.out.keep (And.left (by assumption))).edges (H4.out.keep (And.left (by assumption)))).mono ?_; rintro e x2wf ⟨p1, p2, rfl, ogz, tj2⟩; have hs2 : Hid (Below we.heap.size we x2wf) := keep_below (And.left (by assumption)) tj2; obtain ⟨p1, p2, p3, p4, rfl, rfl⟩ := ogz.form; first | (have hbx : x2wf.heap[x1wf.heap.size]? = some (.cells #[.slice none 0 0, .slice none 0 0] 26 (0, 0)) := (by rw [tj2.block _ (by have h0 := tj2.size; (try simp at h0); (first | omega | (simp; done) | (simp; omega)))]; exact new_block _ _); have qb0 : x2wf.cell? ⟨x1wf.heap.size, 0, none⟩ = some (.slice none 0 0) := (by rw [cell_block hbx]; rfl); have qb1 : x2wf.cell? ⟨x1wf.heap.size, 1, none⟩ = some (.slice none 0 0) := (by rw [cell_block hbx]; rfl); have qb2 : ∀ o, x2wf.frozen? ⟨x1wf.heap.size, o, none⟩ = false := (fun o => free_block hbx)) | (have hbx : x2wf.heap[we.heap.size]? = some (.cells #[.slice none 0 0, .slice none 0 0] 26 (0, 0)) := (by rw [tj2.block _ (by have h0 := tj1.size; have h1 := tj2.size; (try simp at h0); (try simp at h1); (first | omega | (simp; done) | (simp; omega)))]; rw [tj1.block _ (by have h0 := tj1.size; have h1 := tj2.size; (try simp at h0); (try simp at h1); (first | omega | (simp; done) | (simp; omega)))]; exact new_block _ _); have qb0 : x2wf.cell? ⟨we.heap.size, 0, none⟩ = some (.slice none 0 0) := (by rw [cell_block hbx]; rfl); have qb1 : x2wf.cell? ⟨we.heap.size, 1, none⟩ = some (.slice none 0 0) := (by rw [cell_block hbx]; rfl); have qb2 : ∀ o, x2wf.frozen? ⟨we.heap.size, o, none⟩ = false := (fun o => free_block hbx)) | skip))
    all_goals (
      go_wp2_with fail
      go_meet
      first
        | exact ⟨_, _, _, _, _, rfl, rfl, boxg_last hs2.out ogz (by have h0 := tj1.size; (try simp at h0); have h1 := tj2.size; (try simp at h1); (first | omega | (simp; done) | (simp; omega)))⟩
        | exact ⟨_, _, _, _, _, rfl, rfl, boxg_set hs2.out ogz (by first | exact hs1.out.size | exact Nat.le_refl _) (by have h0 := tj1.size; (try simp at h0); have h1 := tj2.size; (try simp at h1); (first | omega | (simp; done) | (simp; omega))) hbx⟩)
  case rest =>
  obtain ⟨ga1, ga2, ga3, ga4, E0, rfl, rfl, hbu⟩ := hcut
  generalize wc = wf at *
  obtain ⟨lb, hC0, hblk, og, hap⟩ := hbu
  clear hS
  have oE0A : A ≤ E0 := by omega
  have oE00 : G0 < E0 := by have := zz0; omega
  have oE01 : O0 < E0 := by have := zz1; omega
  have oE02 : C0 < E0 := by have := zz2; omega
  have oE03 : bxp < E0 := by have := zz3; omega
  have oE04 : dzp < E0 := by have := zz4; omega
  have oE05 : D0 < E0 := by have := zz5; omega
  have BGG : Hid (∀ k, ((.slice ga1 DN.length ga2 : Value).ownBlock = some k ∨ (.slice ga3 DE.length ga4 : Value).ownBlock = some k) → we.heap.size ≤ k ∧ k < wf.heap.size ∧ k ≠ E0) := fun k hk => ⟨(og.lt hk).1, (og.lt hk).2, hap k hk⟩
  have d0 : wf.cell? ⟨G0, 0, none⟩ = some (.slice ga n gb) := (Below.celz lb _ _ _ (by omega)).trans cc0
  have d1 : wf.cell? ⟨G0, 1, none⟩ = some (.slice gc m gd) := (Below.celz lb _ _ _ (by omega)).trans cc1
  have d2 : wf.cell? ⟨O0, 0, none⟩ = some (.int .i64 k1) := (Below.celz lb _ _ _ (by omega)).trans cc2
  have d3 : wf.cell? ⟨O0, 1, none⟩ = some (.int .i64 nl1) := (Below.celz lb _ _ _ (by omega)).trans cc3
  have d4 : wf.cell? ⟨O0, 2, none⟩ = some (.int .i64 nn1) := (Below.celz lb _ _ _ (by omega)).trans cc4
  have d5 : wf.cell? ⟨O0, 3, none⟩ = some (.int .i64 l1) := (Below.celz lb _ _ _ (by omega)).trans cc5
  have d6 : wf.cell? ⟨O0, 4, none⟩ = some (.int .i64 al1) := (Below.celz lb _ _ _ (by omega)).trans cc6
  have d7 : wf.cell? ⟨O0, 5, none⟩ = some (.int .i64 an1) := (Below.celz lb _ _ _ (by omega)).trans cc7
  have d8 : wf.cell? ⟨O0, 6, none⟩ = some (.int .i64 bl1) := (Below.celz lb _ _ _ (by omega)).trans cc8
  have d9 : wf.cell? ⟨O0, 7, none⟩ = some (.int .i64 bn1) := (Below.celz lb _ _ _ (by omega)).trans cc9
  have d10 : wf.cell? ⟨C0, 0, none⟩ = some (.slice wa1 DN.length wa2) := (Below.celz lb _ _ _ (by omega)).trans cc10
  have d11 : wf.cell? ⟨C0, 1, none⟩ = some (.slice wa3 DE.length wa4) := (Below.celz lb _ _ _ (by omega)).trans cc11
  have d12 : wf.cell? ⟨D0, 0, none⟩ = some (.slice xa n xb) := (Below.celz lb _ _ _ (by omega)).trans cc12
  have d13 : wf.cell? ⟨D0, 1, none⟩ = some (.slice xc m xd) := (Below.celz lb _ _ _ (by omega)).trans cc13
  have y0 : G0 < wf.heap.size := by have := Below.size lb; omega
  have y1 : O0 < wf.heap.size := by have := Below.size lb; omega
  have y2 : C0 < wf.heap.size := by have := Below.size lb; omega
  have y3 : bxp < wf.heap.size := by have := Below.size lb; omega
  have y4 : dzp < wf.heap.size := by have := Below.size lb; omega
  have y5 : D0 < wf.heap.size := by have := Below.size lb; omega
  have BB1 : Below A w wf := BB.trans (lb.mono (by omega))
  have sA1 : A ≤ wf.heap.size := by have := Below.size lb; omega
  have q0 : Hid (RowAt 2 encNode wf (.slice ga n gb) ns0) := HRN.out.keep lb
  have q1 : Hid (RowAt 5 encEdge wf (.slice gc m gd) es0) := HRE.out.keep lb
  have q2 : Hid (Four wf aF aT aN aU) := H4.out.keep lb
  have q3 : Hid (OwnGraph wf bWW (.slice wa1 DN.length wa2) (.slice wa3 DE.length wa4) DN DE) := HWW.out.keep lb
  have q4 : Hid (OwnGraph wf bx (.slice xa n xb) (.slice xc m xd) ns0 es0) := HX.out.keep lb
  clear BB sA cc0 cc1 cc2 cc3 cc4 cc5 cc6 cc7 cc8 cc9 cc10 cc11 cc12 cc13 zz0 zz1 zz2 zz3 zz4 zz5 HRN HRE H4 HWW HX
  have cc0 := d0
  have cc1 := d1
  have cc2 := d2
  have cc3 := d3
  have cc4 := d4
  have cc5 := d5
  have cc6 := d6
  have cc7 := d7
  have cc8 := d8
  have cc9 := d9
  have cc10 := d10
  have cc11 := d11
  have cc12 := d12
  have cc13 := d13
  have zz0 := y0
  have zz1 := y1
  have zz2 := y2
  have zz3 := y3
  have zz4 := y4
  have zz5 := y5
  have HRN := q0
  have HRE := q1
  have H4 := q2
  have HWW := q3
  have HX := q4
  have BB := BB1
  have sA := sA1
  clear BB1 sA1 d0 d1 d2 d3 d4 d5 d6 d7 d8 d9 d10 d11 d12 d13 y0 y1 y2 y3 y4 y5 q0 q1 q2 q3 q4
  clear lb
  have cc14 : wf.cell? ⟨E0, 0, none⟩ = some (.slice ga1 DN.length ga2) := by rw [cell_block hblk]; rfl
  have cc15 : wf.cell? ⟨E0, 1, none⟩ = some (.slice ga3 DE.length ga4) := by rw [cell_block hblk]; rfl
  have zz6 : E0 < wf.heap.size := lt_of_block hblk
  obtain ⟨bGG, hbGG⟩ : ∃ t, t = we.heap.size := ⟨_, rfl⟩
  rw [← hbGG] at og
  have HGG : Hid (OwnGraph wf bGG (.slice ga1 DN.length ga2) (.slice ga3 DE.length ga4) DN DE) := og
  clear og hap hblk hC0
  have lE0 : D0 < E0 := by omega
  have BG : Hid (∀ k, ((.slice ga1 DN.length ga2 : Value).ownBlock = some k ∨ (.slice ga3 DE.length ga4 : Value).ownBlock = some k) → D0 < k ∧ k ≠ E0) := fun k hk => ⟨by have := (BGG.out k hk).1; have := HD0.out; omega, (BGG.out k hk).2.2⟩
  have lbg : D0 < bGG := by have := HD0.out; omega
  clear BGG hbGG
  have hne : (DC != DC) = false := by simp
  go_wp2_with fail
  refine (eqGraph_same _ _ _ _ DN DE _ HGG.out.nodes HGG.out.edges HWW.out.nodes HWW.out.edges (by omega) (by omega)).mono ?_
  rintro e wg ⟨rfl, bz⟩
  have d0 : wg.cell? ⟨G0, 0, none⟩ = some (.slice ga n gb) := (Below.celz bz _ _ _ (by omega)).trans cc0
  have d1 : wg.cell? ⟨G0, 1, none⟩ = some (.slice gc m gd) := (Below.celz bz _ _ _ (by omega)).trans cc1
  have d2 : wg.cell? ⟨O0, 0, none⟩ = some (.int .i64 k1) := (Below.celz bz _ _ _ (by omega)).trans cc2
  have d3 : wg.cell? ⟨O0, 1, none⟩ = some (.int .i64 nl1) := (Below.celz bz _ _ _ (by omega)).trans cc3
  have d4 : wg.cell? ⟨O0, 2, none⟩ = some (.int .i64 nn1) := (Below.celz bz _ _ _ (by omega)).trans cc4
  have d5 : wg.cell? ⟨O0, 3, none⟩ = some (.int .i64 l1) := (Below.celz bz _ _ _ (by omega)).trans cc5
  have d6 : wg.cell? ⟨O0, 4, none⟩ = some (.int .i64 al1) := (Below.celz bz _ _ _ (by omega)).trans cc6
  have d7 : wg.cell? ⟨O0, 5, none⟩ = some (.int .i64 an1) := (Below.celz bz _ _ _ (by omega)).trans cc7
  have d8 : wg.cell? ⟨O0, 6, none⟩ = some (.int .i64 bl1) := (Below.celz bz _ _ _ (by omega)).trans cc8
  have d9 : wg.cell? ⟨O0, 7, none⟩ = some (.int .i64 bn1) := (Below.celz bz _ _ _ (by omega)).trans cc9
  have d10 : wg.cell? ⟨C0, 0, none⟩ = some (.slice wa1 DN.length wa2) := (Below.celz bz _ _ _ (by omega)).trans cc10
  have d11 : wg.cell? ⟨C0, 1, none⟩ = some (.slice wa3 DE.length wa4) := (Below.celz bz _ _ _ (by omega)).trans cc11
  have d12 : wg.cell? ⟨D0, 0, none⟩ = some (.slice xa n xb) := (Below.celz bz _ _ _ (by omega)).trans cc12
  have d13 : wg.cell? ⟨D0, 1, none⟩ = some (.slice xc m xd) := (Below.celz bz _ _ _ (by omega)).trans cc13
  have d14 : wg.cell? ⟨E0, 0, none⟩ = some (.slice ga1 DN.length ga2) := (Below.celz bz _ _ _ (by omega)).trans cc14
  have d15 : wg.cell? ⟨E0, 1, none⟩ = some (.slice ga3 DE.length ga4) := (Below.celz bz _ _ _ (by omega)).trans cc15
  have y0 : G0 < wg.heap.size := by have := Below.size bz; omega
  have y1 : O0 < wg.heap.size := by have := Below.size bz; omega
  have y2 : C0 < wg.heap.size := by have := Below.size bz; omega
  have y3 : bxp < wg.heap.size := by have := Below.size bz; omega
  have y4 : dzp < wg.heap.size := by have := Below.size bz; omega
  have y5 : D0 < wg.heap.size := by have := Below.size bz; omega
  have y6 : E0 < wg.heap.size := by have := Below.size bz; omega
  have BB1 : Below A w wg := BB.trans (bz.mono (by omega))
  have sA1 : A ≤ wg.heap.size := by have := Below.size bz; omega
  have q0 : Hid (RowAt 2 encNode wg (.slice ga n gb) ns0) := HRN.out.keep bz
  have q1 : Hid (RowAt 5 encEdge wg (.slice gc m gd) es0) := HRE.out.keep bz
  have q2 : Hid (Four wg aF aT aN aU) := H4.out.keep bz
  have q3 : Hid (OwnGraph wg bWW (.slice wa1 DN.length wa2) (.slice wa3 DE.length wa4) DN DE) := HWW.out.keep bz
  have q4 : Hid (OwnGraph wg bx (.slice xa n xb) (.slice xc m xd) ns0 es0) := HX.out.keep bz
  have q5 : Hid (OwnGraph wg bGG (.slice ga1 DN.length ga2) (.slice ga3 DE.length ga4) DN DE) := HGG.out.keep bz
  clear BB sA cc0 cc1 cc2 cc3 cc4 cc5 cc6 cc7 cc8 cc9 cc10 cc11 cc12 cc13 cc14 cc15 zz0 zz1 zz2 zz3 zz4 zz5 zz6 HRN HRE H4 HWW HX HGG
  have cc0 := d0
  have cc1 := d1
  have cc2 := d2
  have cc3 := d3
  have cc4 := d4
  have cc5 := d5
  have cc6 := d6
  have cc7 := d7
  have cc8 := d8
  have cc9 := d9
  have cc10 := d10
  have cc11 := d11
  have cc12 := d12
  have cc13 := d13
  have cc14 := d14
  have cc15 := d15
  have zz0 := y0
  have zz1 := y1
  have zz2 := y2
  have zz3 := y3
  have zz4 := y4
  have zz5 := y5
  have zz6 := y6
  have HRN := q0
  have HRE := q1
  have H4 := q2
  have HWW := q3
  have HX := q4
  have HGG := q5
  have BB := BB1
  have sA := sA1
  clear BB1 sA1 d0 d1 d2 d3 d4 d5 d6 d7 d8 d9 d10 d11 d12 d13 d14 d15 y0 y1 y2 y3 y4 y5 y6 q0 q1 q2 q3 q4 q5
  clear bz
  go_wp2_with fail
  have hS : Hid (∀ w', Below wg.heap.size wg w' → Below wg.heap.size wg w' ∧ w'.cell? ⟨G0, 0, none⟩ = some (.slice ga n gb) ∧ w'.cell? ⟨G0, 1, none⟩ = some (.slice gc m gd) ∧ w'.cell? ⟨D0, 0, none⟩ = some (.slice xa n xb) ∧ w'.cell? ⟨D0, 1, none⟩ = some (.slice xc m xd)) := fun w' hn => ⟨hn, (Below.celz hn _ _ _ zz0).trans cc0, (Below.celz hn _ _ _ zz0).trans cc1, (Below.celz hn _ _ _ zz5).trans cc12, (Below.celz hn _ _ _ zz5).trans cc13⟩
  go_region_held3 (fun w' => Below wg.heap.size wg w' ∧ w'.cell? ⟨G0, 0, none⟩ = some (.slice ga n gb) ∧ w'.cell? ⟨G0, 1, none⟩ = some (.slice gc m gd) ∧ w'.cell? ⟨D0, 0, none⟩ = some (.slice xa n xb) ∧ w'.cell? ⟨D0, 1, none⟩ = some (.slice xc m xd))
    (first | with_reducible exact hS.out _ (Below.refl _ _).drew | (with_reducible exact hS.out _ (keep_below (And.left (by assumption)) tj2)) | (with_reducible exact hS.out _ (keep_below (And.left (by assumption)) tj1)))
    (first | (go_at_call_of 12 (Value.agg #[.slice ga n gb, .slice gc m gd]); refine (toGraph _ _ ns0 es0 _ (HRN.out.keep (And.left (by assumption))) (HRE.out.keep (And.left (by assumption))) (by rw [← HN.out.1]; exact ln) (by rw [← HN.out.2]; exact lm)).mono ?_; rintro e wh0 ⟨u1, u2, rfl, o1, tj1⟩) | (go_at_call 14; refine (eqGraph_same _ _ _ _ ns0 es0 _ (HX.out.keep (And.left (by assumption))).nodes (HX.out.keep (And.left (by assumption))).edges o1.nodes o1.edges (by rw [← HN.out.1]; exact ln) (by rw [← HN.out.2]; exact lm)).mono ?_; rintro e wh ⟨rfl, tj2⟩))
  have lb : Below wg.heap.size wg wh := And.left (show Below wg.heap.size wg wh ∧ wh.cell? ⟨G0, 0, none⟩ = some (.slice ga n gb) ∧ wh.cell? ⟨G0, 1, none⟩ = some (.slice gc m gd) ∧ wh.cell? ⟨D0, 0, none⟩ = some (.slice xa n xb) ∧ wh.cell? ⟨D0, 1, none⟩ = some (.slice xc m xd) by assumption)
  clear hS
  have d0 : wh.cell? ⟨G0, 0, none⟩ = some (.slice ga n gb) := (Below.celz lb _ _ _ (by omega)).trans cc0
  have d1 : wh.cell? ⟨G0, 1, none⟩ = some (.slice gc m gd) := (Below.celz lb _ _ _ (by omega)).trans cc1
  have d2 : wh.cell? ⟨O0, 0, none⟩ = some (.int .i64 k1) := (Below.celz lb _ _ _ (by omega)).trans cc2
  have d3 : wh.cell? ⟨O0, 1, none⟩ = some (.int .i64 nl1) := (Below.celz lb _ _ _ (by omega)).trans cc3
  have d4 : wh.cell? ⟨O0, 2, none⟩ = some (.int .i64 nn1) := (Below.celz lb _ _ _ (by omega)).trans cc4
  have d5 : wh.cell? ⟨O0, 3, none⟩ = some (.int .i64 l1) := (Below.celz lb _ _ _ (by omega)).trans cc5
  have d6 : wh.cell? ⟨O0, 4, none⟩ = some (.int .i64 al1) := (Below.celz lb _ _ _ (by omega)).trans cc6
  have d7 : wh.cell? ⟨O0, 5, none⟩ = some (.int .i64 an1) := (Below.celz lb _ _ _ (by omega)).trans cc7
  have d8 : wh.cell? ⟨O0, 6, none⟩ = some (.int .i64 bl1) := (Below.celz lb _ _ _ (by omega)).trans cc8
  have d9 : wh.cell? ⟨O0, 7, none⟩ = some (.int .i64 bn1) := (Below.celz lb _ _ _ (by omega)).trans cc9
  have d10 : wh.cell? ⟨C0, 0, none⟩ = some (.slice wa1 DN.length wa2) := (Below.celz lb _ _ _ (by omega)).trans cc10
  have d11 : wh.cell? ⟨C0, 1, none⟩ = some (.slice wa3 DE.length wa4) := (Below.celz lb _ _ _ (by omega)).trans cc11
  have d12 : wh.cell? ⟨D0, 0, none⟩ = some (.slice xa n xb) := (Below.celz lb _ _ _ (by omega)).trans cc12
  have d13 : wh.cell? ⟨D0, 1, none⟩ = some (.slice xc m xd) := (Below.celz lb _ _ _ (by omega)).trans cc13
  have d14 : wh.cell? ⟨E0, 0, none⟩ = some (.slice ga1 DN.length ga2) := (Below.celz lb _ _ _ (by omega)).trans cc14
  have d15 : wh.cell? ⟨E0, 1, none⟩ = some (.slice ga3 DE.length ga4) := (Below.celz lb _ _ _ (by omega)).trans cc15
  have y0 : G0 < wh.heap.size := by have := Below.size lb; omega
  have y1 : O0 < wh.heap.size := by have := Below.size lb; omega
  have y2 : C0 < wh.heap.size := by have := Below.size lb; omega
  have y3 : bxp < wh.heap.size := by have := Below.size lb; omega
  have y4 : dzp < wh.heap.size := by have := Below.size lb; omega
  have y5 : D0 < wh.heap.size := by have := Below.size lb; omega
  have y6 : E0 < wh.heap.size := by have := Below.size lb; omega
  have BB1 : Below A w wh := BB.trans (lb.mono (by omega))
  have sA1 : A ≤ wh.heap.size := by have := Below.size lb; omega
  have q0 : Hid (RowAt 2 encNode wh (.slice ga n gb) ns0) := HRN.out.keep lb
  have q1 : Hid (RowAt 5 encEdge wh (.slice gc m gd) es0) := HRE.out.keep lb
  have q2 : Hid (Four wh aF aT aN aU) := H4.out.keep lb
  have q3 : Hid (OwnGraph wh bWW (.slice wa1 DN.length wa2) (.slice wa3 DE.length wa4) DN DE) := HWW.out.keep lb
  have q4 : Hid (OwnGraph wh bx (.slice xa n xb) (.slice xc m xd) ns0 es0) := HX.out.keep lb
  have q5 : Hid (OwnGraph wh bGG (.slice ga1 DN.length ga2) (.slice ga3 DE.length ga4) DN DE) := HGG.out.keep lb
  clear BB sA cc0 cc1 cc2 cc3 cc4 cc5 cc6 cc7 cc8 cc9 cc10 cc11 cc12 cc13 cc14 cc15 zz0 zz1 zz2 zz3 zz4 zz5 zz6 HRN HRE H4 HWW HX HGG
  have cc0 := d0
  have cc1 := d1
  have cc2 := d2
  have cc3 := d3
  have cc4 := d4
  have cc5 := d5
  have cc6 := d6
  have cc7 := d7
  have cc8 := d8
  have cc9 := d9
  have cc10 := d10
  have cc11 := d11
  have cc12 := d12
  have cc13 := d13
  have cc14 := d14
  have cc15 := d15
  have zz0 := y0
  have zz1 := y1
  have zz2 := y2
  have zz3 := y3
  have zz4 := y4
  have zz5 := y5
  have zz6 := y6
  have HRN := q0
  have HRE := q1
  have H4 := q2
  have HWW := q3
  have HX := q4
  have HGG := q5
  have BB := BB1
  have sA := sA1
  clear BB1 sA1 d0 d1 d2 d3 d4 d5 d6 d7 d8 d9 d10 d11 d12 d13 d14 d15 y0 y1 y2 y3 y4 y5 y6 q0 q1 q2 q3 q4 q5
  clear lb
  clear tj1 tj2 o1
  go_wp2_with fail
  refine (markGraph _ _ _ ns0 es0 _ _ (by omega) (by omega) (by rw [← HN.out.1]; exact ln) (by rw [← HN.out.2]; exact lm) HX.out).mono ?_
  rintro e wi ⟨rfl, _, gm⟩
  rw [← HN.out.1, ← HN.out.2]
  clear HX
  have d0 : wi.cell? ⟨G0, 0, none⟩ = some (.slice ga n gb) := (cell_of_blk (gm.blk _ zz0 (fun e => by have := BX0.out _ e; omega))).trans cc0
  have d1 : wi.cell? ⟨G0, 1, none⟩ = some (.slice gc m gd) := (cell_of_blk (gm.blk _ zz0 (fun e => by have := BX0.out _ e; omega))).trans cc1
  have d2 : wi.cell? ⟨O0, 0, none⟩ = some (.int .i64 k1) := (cell_of_blk (gm.blk _ zz1 (fun e => by have := BX0.out _ e; omega))).trans cc2
  have d3 : wi.cell? ⟨O0, 1, none⟩ = some (.int .i64 nl1) := (cell_of_blk (gm.blk _ zz1 (fun e => by have := BX0.out _ e; omega))).trans cc3
  have d4 : wi.cell? ⟨O0, 2, none⟩ = some (.int .i64 nn1) := (cell_of_blk (gm.blk _ zz1 (fun e => by have := BX0.out _ e; omega))).trans cc4
  have d5 : wi.cell? ⟨O0, 3, none⟩ = some (.int .i64 l1) := (cell_of_blk (gm.blk _ zz1 (fun e => by have := BX0.out _ e; omega))).trans cc5
  have d6 : wi.cell? ⟨O0, 4, none⟩ = some (.int .i64 al1) := (cell_of_blk (gm.blk _ zz1 (fun e => by have := BX0.out _ e; omega))).trans cc6
  have d7 : wi.cell? ⟨O0, 5, none⟩ = some (.int .i64 an1) := (cell_of_blk (gm.blk _ zz1 (fun e => by have := BX0.out _ e; omega))).trans cc7
  have d8 : wi.cell? ⟨O0, 6, none⟩ = some (.int .i64 bl1) := (cell_of_blk (gm.blk _ zz1 (fun e => by have := BX0.out _ e; omega))).trans cc8
  have d9 : wi.cell? ⟨O0, 7, none⟩ = some (.int .i64 bn1) := (cell_of_blk (gm.blk _ zz1 (fun e => by have := BX0.out _ e; omega))).trans cc9
  have d10 : wi.cell? ⟨C0, 0, none⟩ = some (.slice wa1 DN.length wa2) := (cell_of_blk (gm.blk _ zz2 (fun e => by have := BX0.out _ e; omega))).trans cc10
  have d11 : wi.cell? ⟨C0, 1, none⟩ = some (.slice wa3 DE.length wa4) := (cell_of_blk (gm.blk _ zz2 (fun e => by have := BX0.out _ e; omega))).trans cc11
  have d12 : wi.cell? ⟨D0, 0, none⟩ = some (.slice xa n xb) := (cell_of_blk (gm.blk _ zz5 (fun e => by have := BX0.out _ e; omega))).trans cc12
  have d13 : wi.cell? ⟨D0, 1, none⟩ = some (.slice xc m xd) := (cell_of_blk (gm.blk _ zz5 (fun e => by have := BX0.out _ e; omega))).trans cc13
  have d14 : wi.cell? ⟨E0, 0, none⟩ = some (.slice ga1 DN.length ga2) := (cell_of_blk (gm.blk _ zz6 (fun e => by have := BX0.out _ e; omega))).trans cc14
  have d15 : wi.cell? ⟨E0, 1, none⟩ = some (.slice ga3 DE.length ga4) := (cell_of_blk (gm.blk _ zz6 (fun e => by have := BX0.out _ e; omega))).trans cc15
  have y0 : G0 < wi.heap.size := by have := gm.size; omega
  have y1 : O0 < wi.heap.size := by have := gm.size; omega
  have y2 : C0 < wi.heap.size := by have := gm.size; omega
  have y3 : bxp < wi.heap.size := by have := gm.size; omega
  have y4 : dzp < wi.heap.size := by have := gm.size; omega
  have y5 : D0 < wi.heap.size := by have := gm.size; omega
  have y6 : E0 < wi.heap.size := by have := gm.size; omega
  have BB1 : Below A w wi := gm.below BB sA (fun k hk => by have := BX0.out k hk; omega)
  have sA1 : A ≤ wi.heap.size := by have := gm.size; omega
  have q0 : Hid (RowAt 2 encNode wi (.slice ga n gb) ns0) := HR0.out.1.keep (by have := BB1; rw [HA.out] at this; exact this)
  have q1 : Hid (RowAt 5 encEdge wi (.slice gc m gd) es0) := HR0.out.2.1.keep (by have := BB1; rw [HA.out] at this; exact this)
  have q2 : Hid (Four wi aF aT aN aU) := HR0.out.2.2.keep (by have := BB1; rw [HA.out] at this; exact this)
  have q3 : Hid (OwnGraph wi bWW (.slice wa1 DN.length wa2) (.slice wa3 DE.length wa4) DN DE) := HWW.out.but2 gm (fun k h e => by have := BW.out k h; have := BX0.out k e; omega)
  have q4 : Hid (OwnGraph wi bGG (.slice ga1 DN.length ga2) (.slice ga3 DE.length ga4) DN DE) := HGG.out.but2 gm (fun k h e => by have := (BG.out k h).1; have := (BX0.out k e).2; omega)
  clear BB sA cc0 cc1 cc2 cc3 cc4 cc5 cc6 cc7 cc8 cc9 cc10 cc11 cc12 cc13 cc14 cc15 zz0 zz1 zz2 zz3 zz4 zz5 zz6 HRN HRE H4 HWW HGG
  have cc0 := d0
  have cc1 := d1
  have cc2 := d2
  have cc3 := d3
  have cc4 := d4
  have cc5 := d5
  have cc6 := d6
  have cc7 := d7
  have cc8 := d8
  have cc9 := d9
  have cc10 := d10
  have cc11 := d11
  have cc12 := d12
  have cc13 := d13
  have cc14 := d14
  have cc15 := d15
  have zz0 := y0
  have zz1 := y1
  have zz2 := y2
  have zz3 := y3
  have zz4 := y4
  have zz5 := y5
  have zz6 := y6
  have HRN := q0
  have HRE := q1
  have H4 := q2
  have HWW := q3
  have HGG := q4
  have BB := BB1
  have sA := sA1
  clear BB1 sA1 d0 d1 d2 d3 d4 d5 d6 d7 d8 d9 d10 d11 d12 d13 d14 d15 y0 y1 y2 y3 y4 y5 y6 q0 q1 q2 q3 q4
  clear gm
  have tk : ¬ (1 + 2 * (n : Int) + 5 * (m : Int) < 0) := by omega
  go_wp2_with fail
  refine (eqGraph_same _ _ _ _ DN DE _ HGG.out.nodes HGG.out.edges HWW.out.nodes HWW.out.edges (by omega) (by omega)).mono ?_
  rintro e wj ⟨rfl, bz⟩
  have d0 : wj.cell? ⟨G0, 0, none⟩ = some (.slice ga n gb) := (Below.celz bz _ _ _ (by omega)).trans cc0
  have d1 : wj.cell? ⟨G0, 1, none⟩ = some (.slice gc m gd) := (Below.celz bz _ _ _ (by omega)).trans cc1
  have d2 : wj.cell? ⟨O0, 0, none⟩ = some (.int .i64 k1) := (Below.celz bz _ _ _ (by omega)).trans cc2
  have d3 : wj.cell? ⟨O0, 1, none⟩ = some (.int .i64 nl1) := (Below.celz bz _ _ _ (by omega)).trans cc3
  have d4 : wj.cell? ⟨O0, 2, none⟩ = some (.int .i64 nn1) := (Below.celz bz _ _ _ (by omega)).trans cc4
  have d5 : wj.cell? ⟨O0, 3, none⟩ = some (.int .i64 l1) := (Below.celz bz _ _ _ (by omega)).trans cc5
  have d6 : wj.cell? ⟨O0, 4, none⟩ = some (.int .i64 al1) := (Below.celz bz _ _ _ (by omega)).trans cc6
  have d7 : wj.cell? ⟨O0, 5, none⟩ = some (.int .i64 an1) := (Below.celz bz _ _ _ (by omega)).trans cc7
  have d8 : wj.cell? ⟨O0, 6, none⟩ = some (.int .i64 bl1) := (Below.celz bz _ _ _ (by omega)).trans cc8
  have d9 : wj.cell? ⟨O0, 7, none⟩ = some (.int .i64 bn1) := (Below.celz bz _ _ _ (by omega)).trans cc9
  have d10 : wj.cell? ⟨C0, 0, none⟩ = some (.slice wa1 DN.length wa2) := (Below.celz bz _ _ _ (by omega)).trans cc10
  have d11 : wj.cell? ⟨C0, 1, none⟩ = some (.slice wa3 DE.length wa4) := (Below.celz bz _ _ _ (by omega)).trans cc11
  have d12 : wj.cell? ⟨D0, 0, none⟩ = some (.slice xa n xb) := (Below.celz bz _ _ _ (by omega)).trans cc12
  have d13 : wj.cell? ⟨D0, 1, none⟩ = some (.slice xc m xd) := (Below.celz bz _ _ _ (by omega)).trans cc13
  have d14 : wj.cell? ⟨E0, 0, none⟩ = some (.slice ga1 DN.length ga2) := (Below.celz bz _ _ _ (by omega)).trans cc14
  have d15 : wj.cell? ⟨E0, 1, none⟩ = some (.slice ga3 DE.length ga4) := (Below.celz bz _ _ _ (by omega)).trans cc15
  have y0 : G0 < wj.heap.size := by have := Below.size bz; omega
  have y1 : O0 < wj.heap.size := by have := Below.size bz; omega
  have y2 : C0 < wj.heap.size := by have := Below.size bz; omega
  have y3 : bxp < wj.heap.size := by have := Below.size bz; omega
  have y4 : dzp < wj.heap.size := by have := Below.size bz; omega
  have y5 : D0 < wj.heap.size := by have := Below.size bz; omega
  have y6 : E0 < wj.heap.size := by have := Below.size bz; omega
  have BB1 : Below A w wj := BB.trans (bz.mono (by omega))
  have sA1 : A ≤ wj.heap.size := by have := Below.size bz; omega
  have q0 : Hid (RowAt 2 encNode wj (.slice ga n gb) ns0) := HRN.out.keep bz
  have q1 : Hid (RowAt 5 encEdge wj (.slice gc m gd) es0) := HRE.out.keep bz
  have q2 : Hid (Four wj aF aT aN aU) := H4.out.keep bz
  have q3 : Hid (OwnGraph wj bWW (.slice wa1 DN.length wa2) (.slice wa3 DE.length wa4) DN DE) := HWW.out.keep bz
  have q4 : Hid (OwnGraph wj bGG (.slice ga1 DN.length ga2) (.slice ga3 DE.length ga4) DN DE) := HGG.out.keep bz
  clear BB sA cc0 cc1 cc2 cc3 cc4 cc5 cc6 cc7 cc8 cc9 cc10 cc11 cc12 cc13 cc14 cc15 zz0 zz1 zz2 zz3 zz4 zz5 zz6 HRN HRE H4 HWW HGG
  have cc0 := d0
  have cc1 := d1
  have cc2 := d2
  have cc3 := d3
  have cc4 := d4
  have cc5 := d5
  have cc6 := d6
  have cc7 := d7
  have cc8 := d8
  have cc9 := d9
  have cc10 := d10
  have cc11 := d11
  have cc12 := d12
  have cc13 := d13
  have cc14 := d14
  have cc15 := d15
  have zz0 := y0
  have zz1 := y1
  have zz2 := y2
  have zz3 := y3
  have zz4 := y4
  have zz5 := y5
  have zz6 := y6
  have HRN := q0
  have HRE := q1
  have H4 := q2
  have HWW := q3
  have HGG := q4
  have BB := BB1
  have sA := sA1
  clear BB1 sA1 d0 d1 d2 d3 d4 d5 d6 d7 d8 d9 d10 d11 d12 d13 d14 d15 y0 y1 y2 y3 y4 y5 y6 q0 q1 q2 q3 q4
  clear bz
  go_wp2_with fail
  refine (markGraph _ _ _ DN DE _ _ (by omega) (by omega) (by omega) (by omega) HGG.out).mono ?_
  rintro e wk ⟨rfl, mk, gm⟩
  clear HGG
  have d0 : wk.cell? ⟨G0, 0, none⟩ = some (.slice ga n gb) := (cell_of_blk (gm.blk _ zz0 (fun e => by have := BG.out _ e; omega))).trans cc0
  have d1 : wk.cell? ⟨G0, 1, none⟩ = some (.slice gc m gd) := (cell_of_blk (gm.blk _ zz0 (fun e => by have := BG.out _ e; omega))).trans cc1
  have d2 : wk.cell? ⟨O0, 0, none⟩ = some (.int .i64 k1) := (cell_of_blk (gm.blk _ zz1 (fun e => by have := BG.out _ e; omega))).trans cc2
  have d3 : wk.cell? ⟨O0, 1, none⟩ = some (.int .i64 nl1) := (cell_of_blk (gm.blk _ zz1 (fun e => by have := BG.out _ e; omega))).trans cc3
  have d4 : wk.cell? ⟨O0, 2, none⟩ = some (.int .i64 nn1) := (cell_of_blk (gm.blk _ zz1 (fun e => by have := BG.out _ e; omega))).trans cc4
  have d5 : wk.cell? ⟨O0, 3, none⟩ = some (.int .i64 l1) := (cell_of_blk (gm.blk _ zz1 (fun e => by have := BG.out _ e; omega))).trans cc5
  have d6 : wk.cell? ⟨O0, 4, none⟩ = some (.int .i64 al1) := (cell_of_blk (gm.blk _ zz1 (fun e => by have := BG.out _ e; omega))).trans cc6
  have d7 : wk.cell? ⟨O0, 5, none⟩ = some (.int .i64 an1) := (cell_of_blk (gm.blk _ zz1 (fun e => by have := BG.out _ e; omega))).trans cc7
  have d8 : wk.cell? ⟨O0, 6, none⟩ = some (.int .i64 bl1) := (cell_of_blk (gm.blk _ zz1 (fun e => by have := BG.out _ e; omega))).trans cc8
  have d9 : wk.cell? ⟨O0, 7, none⟩ = some (.int .i64 bn1) := (cell_of_blk (gm.blk _ zz1 (fun e => by have := BG.out _ e; omega))).trans cc9
  have d10 : wk.cell? ⟨C0, 0, none⟩ = some (.slice wa1 DN.length wa2) := (cell_of_blk (gm.blk _ zz2 (fun e => by have := BG.out _ e; omega))).trans cc10
  have d11 : wk.cell? ⟨C0, 1, none⟩ = some (.slice wa3 DE.length wa4) := (cell_of_blk (gm.blk _ zz2 (fun e => by have := BG.out _ e; omega))).trans cc11
  have d12 : wk.cell? ⟨D0, 0, none⟩ = some (.slice xa n xb) := (cell_of_blk (gm.blk _ zz5 (fun e => by have := BG.out _ e; omega))).trans cc12
  have d13 : wk.cell? ⟨D0, 1, none⟩ = some (.slice xc m xd) := (cell_of_blk (gm.blk _ zz5 (fun e => by have := BG.out _ e; omega))).trans cc13
  have d14 : wk.cell? ⟨E0, 0, none⟩ = some (.slice ga1 DN.length ga2) := (cell_of_blk (gm.blk _ zz6 (fun e => by have := BG.out _ e; omega))).trans cc14
  have d15 : wk.cell? ⟨E0, 1, none⟩ = some (.slice ga3 DE.length ga4) := (cell_of_blk (gm.blk _ zz6 (fun e => by have := BG.out _ e; omega))).trans cc15
  have y0 : G0 < wk.heap.size := by have := gm.size; omega
  have y1 : O0 < wk.heap.size := by have := gm.size; omega
  have y2 : C0 < wk.heap.size := by have := gm.size; omega
  have y3 : bxp < wk.heap.size := by have := gm.size; omega
  have y4 : dzp < wk.heap.size := by have := gm.size; omega
  have y5 : D0 < wk.heap.size := by have := gm.size; omega
  have y6 : E0 < wk.heap.size := by have := gm.size; omega
  have BB1 : Below A w wk := gm.below BB sA (fun k hk => by have := BG.out k hk; omega)
  have sA1 : A ≤ wk.heap.size := by have := gm.size; omega
  have q0 : Hid (RowAt 2 encNode wk (.slice ga n gb) ns0) := HR0.out.1.keep (by have := BB1; rw [HA.out] at this; exact this)
  have q1 : Hid (RowAt 5 encEdge wk (.slice gc m gd) es0) := HR0.out.2.1.keep (by have := BB1; rw [HA.out] at this; exact this)
  have q2 : Hid (Four wk aF aT aN aU) := HR0.out.2.2.keep (by have := BB1; rw [HA.out] at this; exact this)
  have q3 : Hid (OwnGraph wk bWW (.slice wa1 DN.length wa2) (.slice wa3 DE.length wa4) DN DE) := HWW.out.but2 gm (fun k h e => by have := BW.out k h; have := BG.out k e; omega)
  clear BB sA cc0 cc1 cc2 cc3 cc4 cc5 cc6 cc7 cc8 cc9 cc10 cc11 cc12 cc13 cc14 cc15 zz0 zz1 zz2 zz3 zz4 zz5 zz6 HRN HRE H4 HWW
  have cc0 := d0
  have cc1 := d1
  have cc2 := d2
  have cc3 := d3
  have cc4 := d4
  have cc5 := d5
  have cc6 := d6
  have cc7 := d7
  have cc8 := d8
  have cc9 := d9
  have cc10 := d10
  have cc11 := d11
  have cc12 := d12
  have cc13 := d13
  have cc14 := d14
  have cc15 := d15
  have zz0 := y0
  have zz1 := y1
  have zz2 := y2
  have zz3 := y3
  have zz4 := y4
  have zz5 := y5
  have zz6 := y6
  have HRN := q0
  have HRE := q1
  have H4 := q2
  have HWW := q3
  have BB := BB1
  have sA := sA1
  clear BB1 sA1 d0 d1 d2 d3 d4 d5 d6 d7 d8 d9 d10 d11 d12 d13 d14 d15 y0 y1 y2 y3 y4 y5 y6 q0 q1 q2 q3
  have HMK : Hid (OwnGraph wk bGG (.slice ga1 DN.length ga2) (.slice ga3 DE.length ga4) (marksNode 1 DN.length) (marksEdge (1 + 2 * DN.length) DE.length)) := mk
  clear gm mk
  have tm : ¬ (1 + 2 * (DN.length : Int) + 5 * (DE.length : Int) < 0) := by omega
  have tn : ((1 + 2 * (DN.length : Int) + 5 * (DE.length : Int)) != (1 + 2 * (DN.length : Int) + 5 * (DE.length : Int))) = false := by simp
  go_wp2_with fail
  refine (heldGraph _ _ DN.length DE.length _ _ (by omega) (by omega) (by omega) (by omega) HMK.out.nodes HMK.out.edges).mono ?_
  rintro e wl ⟨rfl, bz⟩
  have d0 : wl.cell? ⟨G0, 0, none⟩ = some (.slice ga n gb) := (Below.celz bz _ _ _ (by omega)).trans cc0
  have d1 : wl.cell? ⟨G0, 1, none⟩ = some (.slice gc m gd) := (Below.celz bz _ _ _ (by omega)).trans cc1
  have d2 : wl.cell? ⟨O0, 0, none⟩ = some (.int .i64 k1) := (Below.celz bz _ _ _ (by omega)).trans cc2
  have d3 : wl.cell? ⟨O0, 1, none⟩ = some (.int .i64 nl1) := (Below.celz bz _ _ _ (by omega)).trans cc3
  have d4 : wl.cell? ⟨O0, 2, none⟩ = some (.int .i64 nn1) := (Below.celz bz _ _ _ (by omega)).trans cc4
  have d5 : wl.cell? ⟨O0, 3, none⟩ = some (.int .i64 l1) := (Below.celz bz _ _ _ (by omega)).trans cc5
  have d6 : wl.cell? ⟨O0, 4, none⟩ = some (.int .i64 al1) := (Below.celz bz _ _ _ (by omega)).trans cc6
  have d7 : wl.cell? ⟨O0, 5, none⟩ = some (.int .i64 an1) := (Below.celz bz _ _ _ (by omega)).trans cc7
  have d8 : wl.cell? ⟨O0, 6, none⟩ = some (.int .i64 bl1) := (Below.celz bz _ _ _ (by omega)).trans cc8
  have d9 : wl.cell? ⟨O0, 7, none⟩ = some (.int .i64 bn1) := (Below.celz bz _ _ _ (by omega)).trans cc9
  have d10 : wl.cell? ⟨C0, 0, none⟩ = some (.slice wa1 DN.length wa2) := (Below.celz bz _ _ _ (by omega)).trans cc10
  have d11 : wl.cell? ⟨C0, 1, none⟩ = some (.slice wa3 DE.length wa4) := (Below.celz bz _ _ _ (by omega)).trans cc11
  have d12 : wl.cell? ⟨D0, 0, none⟩ = some (.slice xa n xb) := (Below.celz bz _ _ _ (by omega)).trans cc12
  have d13 : wl.cell? ⟨D0, 1, none⟩ = some (.slice xc m xd) := (Below.celz bz _ _ _ (by omega)).trans cc13
  have d14 : wl.cell? ⟨E0, 0, none⟩ = some (.slice ga1 DN.length ga2) := (Below.celz bz _ _ _ (by omega)).trans cc14
  have d15 : wl.cell? ⟨E0, 1, none⟩ = some (.slice ga3 DE.length ga4) := (Below.celz bz _ _ _ (by omega)).trans cc15
  have y0 : G0 < wl.heap.size := by have := Below.size bz; omega
  have y1 : O0 < wl.heap.size := by have := Below.size bz; omega
  have y2 : C0 < wl.heap.size := by have := Below.size bz; omega
  have y3 : bxp < wl.heap.size := by have := Below.size bz; omega
  have y4 : dzp < wl.heap.size := by have := Below.size bz; omega
  have y5 : D0 < wl.heap.size := by have := Below.size bz; omega
  have y6 : E0 < wl.heap.size := by have := Below.size bz; omega
  have BB1 : Below A w wl := BB.trans (bz.mono (by omega))
  have sA1 : A ≤ wl.heap.size := by have := Below.size bz; omega
  have q0 : Hid (RowAt 2 encNode wl (.slice ga n gb) ns0) := HRN.out.keep bz
  have q1 : Hid (RowAt 5 encEdge wl (.slice gc m gd) es0) := HRE.out.keep bz
  have q2 : Hid (Four wl aF aT aN aU) := H4.out.keep bz
  have q3 : Hid (OwnGraph wl bWW (.slice wa1 DN.length wa2) (.slice wa3 DE.length wa4) DN DE) := HWW.out.keep bz
  have q4 : Hid (OwnGraph wl bGG (.slice ga1 DN.length ga2) (.slice ga3 DE.length ga4) (marksNode 1 DN.length) (marksEdge (1 + 2 * DN.length) DE.length)) := HMK.out.keep bz
  clear BB sA cc0 cc1 cc2 cc3 cc4 cc5 cc6 cc7 cc8 cc9 cc10 cc11 cc12 cc13 cc14 cc15 zz0 zz1 zz2 zz3 zz4 zz5 zz6 HRN HRE H4 HWW HMK
  have cc0 := d0
  have cc1 := d1
  have cc2 := d2
  have cc3 := d3
  have cc4 := d4
  have cc5 := d5
  have cc6 := d6
  have cc7 := d7
  have cc8 := d8
  have cc9 := d9
  have cc10 := d10
  have cc11 := d11
  have cc12 := d12
  have cc13 := d13
  have cc14 := d14
  have cc15 := d15
  have zz0 := y0
  have zz1 := y1
  have zz2 := y2
  have zz3 := y3
  have zz4 := y4
  have zz5 := y5
  have zz6 := y6
  have HRN := q0
  have HRE := q1
  have H4 := q2
  have HWW := q3
  have HMK := q4
  have BB := BB1
  have sA := sA1
  clear BB1 sA1 d0 d1 d2 d3 d4 d5 d6 d7 d8 d9 d10 d11 d12 d13 d14 d15 y0 y1 y2 y3 y4 y5 y6 q0 q1 q2 q3 q4
  clear bz
  go_wp2_with fail
  go_upto_region 24 with fail
  have hS : Hid (∀ w', Below wl.heap.size wl w' → Below wl.heap.size wl w' ∧ w'.cell? ⟨G0, 0, none⟩ = some (.slice ga n gb) ∧ w'.cell? ⟨G0, 1, none⟩ = some (.slice gc m gd) ∧ w'.cell? ⟨O0, 0, none⟩ = some (.int .i64 k1) ∧ w'.cell? ⟨O0, 1, none⟩ = some (.int .i64 nl1) ∧ w'.cell? ⟨O0, 2, none⟩ = some (.int .i64 nn1) ∧ w'.cell? ⟨O0, 3, none⟩ = some (.int .i64 l1) ∧ w'.cell? ⟨O0, 4, none⟩ = some (.int .i64 al1) ∧ w'.cell? ⟨O0, 5, none⟩ = some (.int .i64 an1) ∧ w'.cell? ⟨O0, 6, none⟩ = some (.int .i64 bl1) ∧ w'.cell? ⟨O0, 7, none⟩ = some (.int .i64 bn1)) := fun w' hn => ⟨hn, (Below.celz hn _ _ _ zz0).trans cc0, (Below.celz hn _ _ _ zz0).trans cc1, (Below.celz hn _ _ _ zz1).trans cc2, (Below.celz hn _ _ _ zz1).trans cc3, (Below.celz hn _ _ _ zz1).trans cc4, (Below.celz hn _ _ _ zz1).trans cc5, (Below.celz hn _ _ _ zz1).trans cc6, (Below.celz hn _ _ _ zz1).trans cc7, (Below.celz hn _ _ _ zz1).trans cc8, (Below.celz hn _ _ _ zz1).trans cc9⟩
  go_cut [14, 15] (fun sa sm wx => ∃ ra rb rc rd C, sa = .pointer (some ⟨C, 0, none⟩) ∧ sm = .int .i64 DC ∧ BoxG wl wx C (.slice ra DN.length rb) (.slice rc DE.length rd) DN DE)
  case first =>
    go_region_held3 (fun w' => Below wl.heap.size wl w' ∧ w'.cell? ⟨G0, 0, none⟩ = some (.slice ga n gb) ∧ w'.cell? ⟨G0, 1, none⟩ = some (.slice gc m gd) ∧ w'.cell? ⟨O0, 0, none⟩ = some (.int .i64 k1) ∧ w'.cell? ⟨O0, 1, none⟩ = some (.int .i64 nl1) ∧ w'.cell? ⟨O0, 2, none⟩ = some (.int .i64 nn1) ∧ w'.cell? ⟨O0, 3, none⟩ = some (.int .i64 l1) ∧ w'.cell? ⟨O0, 4, none⟩ = some (.int .i64 al1) ∧ w'.cell? ⟨O0, 5, none⟩ = some (.int .i64 an1) ∧ w'.cell? ⟨O0, 6, none⟩ = some (.int .i64 bl1) ∧ w'.cell? ⟨O0, 7, none⟩ = some (.int .i64 bn1))
      (first | with_reducible exact hS.out _ (Below.refl _ _).drew | (with_reducible exact hS.out _ (keep_below (And.left (by assumption)) tj3)) | (with_reducible exact hS.out _ (keep_below (And.left (by assumption)) tj2)) | (with_reducible exact hS.out _ (keep_below (And.left (by assumption)) tj1)) | (with_reducible exact hS.out _ (Below.alloc (And.left (by assumption)) (Below.size (And.left (by assumption))) _)) | exact hS.out _ (Below.alloc hs3.out hs3.out.size _) | exact hS.out _ (Below.setCell (Below.setCell hs3.out (by first | exact hs2.out.size | exact hs1.out.size | exact Nat.le_refl _) _) (by first | exact hs2.out.size | exact hs1.out.size | exact Nat.le_refl _) _))
      (first | (go_at_call_of 12 (Value.agg #[.slice ga n gb, .slice gc m gd]); refine (toGraph _ _ ns0 es0 _ (HRN.out.keep (And.left (by assumption))) (HRE.out.keep (And.left (by assumption))) (by rw [← HN.out.1]; exact ln) (by rw [← HN.out.2]; exact lm)).mono ?_; rintro e x1wm ⟨u1, u2, rfl, o1, tj1⟩; have hs1 : Hid (Below wl.heap.size wl x1wm) := keep_below (And.left (by assumption)) tj1) | (go_at_call_of 13 (Value.agg #[.int .i64 k1, .int .i64 nl1, .int .i64 nn1, .int .i64 l1, .int .i64 al1, .int .i64 an1, .int .i64 bl1, .int .i64 bn1]); refine (toOp k1 nl1 nn1 l1 al1 an1 bl1 bn1 _).mono ?_; rintro e x2wm ⟨rfl, tj2⟩; have hs2 : Hid (Below wl.heap.size wl x2wm) := keep_below (And.left (by assumption)) tj2) | (go_at_call 7; refine (HIM.out _ _ _ ln lm (o1.nodes.keep (by first | exact tj2 | exact tj2.alloc tj2.size _ | exact ((Below.refl _ _).alloc (Nat.le_refl _) _).trans (tj2.mono (by simp)))) (o1.edges.keep (by first | exact tj2 | exact tj2.alloc tj2.size _ | exact ((Below.refl _ _).alloc (Nat.le_refl _) _).trans (tj2.mono (by simp)))) (H4.out.keep (And.left (by assumption)))).mono ?_; rintro e x3wm ⟨p1, p2, rfl, ogz, tj3⟩; have hs3 : Hid (Below wl.heap.size wl x3wm) := keep_below (And.left (by assumption)) tj3; obtain ⟨p1, p2, p3, p4, rfl, rfl⟩ := ogz.form; first | (have hbx : x3wm.heap[x2wm.heap.size]? = some (.cells #[.slice none 0 0, .slice none 0 0] 26 (0, 0)) := (by rw [tj3.block _ (by have h0 := tj3.size; (try simp at h0); (first | omega | (simp; done) | (simp; omega)))]; exact new_block _ _); have qb0 : x3wm.cell? ⟨x2wm.heap.size, 0, none⟩ = some (.slice none 0 0) := (by rw [cell_block hbx]; rfl); have qb1 : x3wm.cell? ⟨x2wm.heap.size, 1, none⟩ = some (.slice none 0 0) := (by rw [cell_block hbx]; rfl); have qb2 : ∀ o, x3wm.frozen? ⟨x2wm.heap.size, o, none⟩ = false := (fun o => free_block hbx)) | (have hbx : x3wm.heap[x1wm.heap.size]? = some (.cells #[.slice none 0 0, .slice none 0 0] 26 (0, 0)) := (by rw [tj3.block _ (by have h0 := tj2.size; have h1 := tj3.size; (try simp at h0); (try simp at h1); (first | omega | (simp; done) | (simp; omega)))]; rw [tj2.block _ (by have h0 := tj2.size; have h1 := tj3.size; (try simp at h0); (try simp at h1); (first | omega | (simp; done) | (simp; omega)))]; exact new_block _ _); have qb0 : x3wm.cell? ⟨x1wm.heap.size, 0, none⟩ = some (.slice none 0 0) := (by rw [cell_block hbx]; rfl); have qb1 : x3wm.cell? ⟨x1wm.heap.size, 1, none⟩ = some (.slice none 0 0) := (by rw [cell_block hbx]; rfl); have qb2 : ∀ o, x3wm.frozen? ⟨x1wm.heap.size, o, none⟩ = false := (fun o => free_block hbx)) | (have hbx : x3wm.heap[wl.heap.size]? = some (.cells #[.slice none 0 0, .slice none 0 0] 26 (0, 0)) := (by rw [tj3.block _ (by have h0 := tj1.size; have h1 := tj2.size; have h2 := tj3.size; (try simp at h0); (try simp at h1); (try simp at h2); (first | omega | (simp; done) | (simp; omega)))]; rw [tj2.block _ (by have h0 := tj1.size; have h1 := tj2.size; have h2 := tj3.size; (try simp at h0); (try simp at h1); (try simp at h2); (first | omega | (simp; done) | (simp; omega)))]; rw [tj1.block _ (by have h0 := tj1.size; have h1 := tj2.size; have h2 := tj3.size; (try simp at h0); (try simp at h1); (try simp at h2); (first | omega | (simp; done) | (simp; omega)))]; exact new_block _ _); have qb0 : x3wm.cell? ⟨wl.heap.size, 0, none⟩ = some (.slice none 0 0) := (by rw [cell_block hbx]; rfl); have qb1 : x3wm.cell? ⟨wl.heap.size, 1, none⟩ = some (.slice none 0 0) := (by rw [cell_block hbx]; rfl); have qb2 : ∀ o, x3wm.frozen? ⟨wl.heap.size, o, none⟩ = false := (fun o => free_block hbx)) | skip))
    all_goals (
      go_wp2_with fail
      go_meet
      first
        | exact ⟨_, _, _, _, _, rfl, rfl, boxg_last hs3.out ogz (by have h0 := tj1.size; (try simp at h0); have h1 := tj2.size; (try simp at h1); have h2 := tj3.size; (try simp at h2); (first | omega | (simp; done) | (simp; omega)))⟩
        | exact ⟨_, _, _, _, _, rfl, rfl, boxg_set hs3.out ogz (by first | exact hs2.out.size | exact hs1.out.size | exact Nat.le_refl _) (by have h0 := tj1.size; (try simp at h0); have h1 := tj2.size; (try simp at h1); have h2 := tj3.size; (try simp at h2); (first | omega | (simp; done) | (simp; omega))) hbx⟩)
  case rest =>
  obtain ⟨ha1, ha2, ha3, ha4, F0, rfl, rfl, hbu⟩ := hcut
  generalize wc = wm at *
  obtain ⟨lb, hC0, hblk, og, hap⟩ := hbu
  clear hS
  have oF0A : A ≤ F0 := by omega
  have oF00 : G0 < F0 := by have := zz0; omega
  have oF01 : O0 < F0 := by have := zz1; omega
  have oF02 : C0 < F0 := by have := zz2; omega
  have oF03 : bxp < F0 := by have := zz3; omega
  have oF04 : dzp < F0 := by have := zz4; omega
  have oF05 : D0 < F0 := by have := zz5; omega
  have oF06 : E0 < F0 := by have := zz6; omega
  have BHH : Hid (∀ k, ((.slice ha1 DN.length ha2 : Value).ownBlock = some k ∨ (.slice ha3 DE.length ha4 : Value).ownBlock = some k) → wl.heap.size ≤ k ∧ k < wm.heap.size ∧ k ≠ F0) := fun k hk => ⟨(og.lt hk).1, (og.lt hk).2, hap k hk⟩
  have d0 : wm.cell? ⟨G0, 0, none⟩ = some (.slice ga n gb) := (Below.celz lb _ _ _ (by omega)).trans cc0
  have d1 : wm.cell? ⟨G0, 1, none⟩ = some (.slice gc m gd) := (Below.celz lb _ _ _ (by omega)).trans cc1
  have d2 : wm.cell? ⟨O0, 0, none⟩ = some (.int .i64 k1) := (Below.celz lb _ _ _ (by omega)).trans cc2
  have d3 : wm.cell? ⟨O0, 1, none⟩ = some (.int .i64 nl1) := (Below.celz lb _ _ _ (by omega)).trans cc3
  have d4 : wm.cell? ⟨O0, 2, none⟩ = some (.int .i64 nn1) := (Below.celz lb _ _ _ (by omega)).trans cc4
  have d5 : wm.cell? ⟨O0, 3, none⟩ = some (.int .i64 l1) := (Below.celz lb _ _ _ (by omega)).trans cc5
  have d6 : wm.cell? ⟨O0, 4, none⟩ = some (.int .i64 al1) := (Below.celz lb _ _ _ (by omega)).trans cc6
  have d7 : wm.cell? ⟨O0, 5, none⟩ = some (.int .i64 an1) := (Below.celz lb _ _ _ (by omega)).trans cc7
  have d8 : wm.cell? ⟨O0, 6, none⟩ = some (.int .i64 bl1) := (Below.celz lb _ _ _ (by omega)).trans cc8
  have d9 : wm.cell? ⟨O0, 7, none⟩ = some (.int .i64 bn1) := (Below.celz lb _ _ _ (by omega)).trans cc9
  have d10 : wm.cell? ⟨C0, 0, none⟩ = some (.slice wa1 DN.length wa2) := (Below.celz lb _ _ _ (by omega)).trans cc10
  have d11 : wm.cell? ⟨C0, 1, none⟩ = some (.slice wa3 DE.length wa4) := (Below.celz lb _ _ _ (by omega)).trans cc11
  have d12 : wm.cell? ⟨D0, 0, none⟩ = some (.slice xa n xb) := (Below.celz lb _ _ _ (by omega)).trans cc12
  have d13 : wm.cell? ⟨D0, 1, none⟩ = some (.slice xc m xd) := (Below.celz lb _ _ _ (by omega)).trans cc13
  have d14 : wm.cell? ⟨E0, 0, none⟩ = some (.slice ga1 DN.length ga2) := (Below.celz lb _ _ _ (by omega)).trans cc14
  have d15 : wm.cell? ⟨E0, 1, none⟩ = some (.slice ga3 DE.length ga4) := (Below.celz lb _ _ _ (by omega)).trans cc15
  have y0 : G0 < wm.heap.size := by have := Below.size lb; omega
  have y1 : O0 < wm.heap.size := by have := Below.size lb; omega
  have y2 : C0 < wm.heap.size := by have := Below.size lb; omega
  have y3 : bxp < wm.heap.size := by have := Below.size lb; omega
  have y4 : dzp < wm.heap.size := by have := Below.size lb; omega
  have y5 : D0 < wm.heap.size := by have := Below.size lb; omega
  have y6 : E0 < wm.heap.size := by have := Below.size lb; omega
  have BB1 : Below A w wm := BB.trans (lb.mono (by omega))
  have sA1 : A ≤ wm.heap.size := by have := Below.size lb; omega
  have q0 : Hid (RowAt 2 encNode wm (.slice ga n gb) ns0) := HRN.out.keep lb
  have q1 : Hid (RowAt 5 encEdge wm (.slice gc m gd) es0) := HRE.out.keep lb
  have q2 : Hid (Four wm aF aT aN aU) := H4.out.keep lb
  have q3 : Hid (OwnGraph wm bWW (.slice wa1 DN.length wa2) (.slice wa3 DE.length wa4) DN DE) := HWW.out.keep lb
  have q4 : Hid (OwnGraph wm bGG (.slice ga1 DN.length ga2) (.slice ga3 DE.length ga4) (marksNode 1 DN.length) (marksEdge (1 + 2 * DN.length) DE.length)) := HMK.out.keep lb
  clear BB sA cc0 cc1 cc2 cc3 cc4 cc5 cc6 cc7 cc8 cc9 cc10 cc11 cc12 cc13 cc14 cc15 zz0 zz1 zz2 zz3 zz4 zz5 zz6 HRN HRE H4 HWW HMK
  have cc0 := d0
  have cc1 := d1
  have cc2 := d2
  have cc3 := d3
  have cc4 := d4
  have cc5 := d5
  have cc6 := d6
  have cc7 := d7
  have cc8 := d8
  have cc9 := d9
  have cc10 := d10
  have cc11 := d11
  have cc12 := d12
  have cc13 := d13
  have cc14 := d14
  have cc15 := d15
  have zz0 := y0
  have zz1 := y1
  have zz2 := y2
  have zz3 := y3
  have zz4 := y4
  have zz5 := y5
  have zz6 := y6
  have HRN := q0
  have HRE := q1
  have H4 := q2
  have HWW := q3
  have HMK := q4
  have BB := BB1
  have sA := sA1
  clear BB1 sA1 d0 d1 d2 d3 d4 d5 d6 d7 d8 d9 d10 d11 d12 d13 d14 d15 y0 y1 y2 y3 y4 y5 y6 q0 q1 q2 q3 q4
  clear lb
  have cc16 : wm.cell? ⟨F0, 0, none⟩ = some (.slice ha1 DN.length ha2) := by rw [cell_block hblk]; rfl
  have cc17 : wm.cell? ⟨F0, 1, none⟩ = some (.slice ha3 DE.length ha4) := by rw [cell_block hblk]; rfl
  have zz7 : F0 < wm.heap.size := lt_of_block hblk
  obtain ⟨bHH, hbHH⟩ : ∃ t, t = wl.heap.size := ⟨_, rfl⟩
  rw [← hbHH] at og
  have HHH : Hid (OwnGraph wm bHH (.slice ha1 DN.length ha2) (.slice ha3 DE.length ha4) DN DE) := og
  clear og hap hblk hC0
  clear BHH hbHH
  go_wp2_with fail
  refine (eqGraph_same _ _ _ _ DN DE _ HHH.out.nodes HHH.out.edges HWW.out.nodes HWW.out.edges (by omega) (by omega)).mono ?_
  rintro e wn ⟨rfl, bz⟩
  have d0 : wn.cell? ⟨G0, 0, none⟩ = some (.slice ga n gb) := (Below.celz bz _ _ _ (by omega)).trans cc0
  have d1 : wn.cell? ⟨G0, 1, none⟩ = some (.slice gc m gd) := (Below.celz bz _ _ _ (by omega)).trans cc1
  have d2 : wn.cell? ⟨O0, 0, none⟩ = some (.int .i64 k1) := (Below.celz bz _ _ _ (by omega)).trans cc2
  have d3 : wn.cell? ⟨O0, 1, none⟩ = some (.int .i64 nl1) := (Below.celz bz _ _ _ (by omega)).trans cc3
  have d4 : wn.cell? ⟨O0, 2, none⟩ = some (.int .i64 nn1) := (Below.celz bz _ _ _ (by omega)).trans cc4
  have d5 : wn.cell? ⟨O0, 3, none⟩ = some (.int .i64 l1) := (Below.celz bz _ _ _ (by omega)).trans cc5
  have d6 : wn.cell? ⟨O0, 4, none⟩ = some (.int .i64 al1) := (Below.celz bz _ _ _ (by omega)).trans cc6
  have d7 : wn.cell? ⟨O0, 5, none⟩ = some (.int .i64 an1) := (Below.celz bz _ _ _ (by omega)).trans cc7
  have d8 : wn.cell? ⟨O0, 6, none⟩ = some (.int .i64 bl1) := (Below.celz bz _ _ _ (by omega)).trans cc8
  have d9 : wn.cell? ⟨O0, 7, none⟩ = some (.int .i64 bn1) := (Below.celz bz _ _ _ (by omega)).trans cc9
  have d10 : wn.cell? ⟨C0, 0, none⟩ = some (.slice wa1 DN.length wa2) := (Below.celz bz _ _ _ (by omega)).trans cc10
  have d11 : wn.cell? ⟨C0, 1, none⟩ = some (.slice wa3 DE.length wa4) := (Below.celz bz _ _ _ (by omega)).trans cc11
  have d12 : wn.cell? ⟨D0, 0, none⟩ = some (.slice xa n xb) := (Below.celz bz _ _ _ (by omega)).trans cc12
  have d13 : wn.cell? ⟨D0, 1, none⟩ = some (.slice xc m xd) := (Below.celz bz _ _ _ (by omega)).trans cc13
  have d14 : wn.cell? ⟨E0, 0, none⟩ = some (.slice ga1 DN.length ga2) := (Below.celz bz _ _ _ (by omega)).trans cc14
  have d15 : wn.cell? ⟨E0, 1, none⟩ = some (.slice ga3 DE.length ga4) := (Below.celz bz _ _ _ (by omega)).trans cc15
  have d16 : wn.cell? ⟨F0, 0, none⟩ = some (.slice ha1 DN.length ha2) := (Below.celz bz _ _ _ (by omega)).trans cc16
  have d17 : wn.cell? ⟨F0, 1, none⟩ = some (.slice ha3 DE.length ha4) := (Below.celz bz _ _ _ (by omega)).trans cc17
  have y0 : G0 < wn.heap.size := by have := Below.size bz; omega
  have y1 : O0 < wn.heap.size := by have := Below.size bz; omega
  have y2 : C0 < wn.heap.size := by have := Below.size bz; omega
  have y3 : bxp < wn.heap.size := by have := Below.size bz; omega
  have y4 : dzp < wn.heap.size := by have := Below.size bz; omega
  have y5 : D0 < wn.heap.size := by have := Below.size bz; omega
  have y6 : E0 < wn.heap.size := by have := Below.size bz; omega
  have y7 : F0 < wn.heap.size := by have := Below.size bz; omega
  have BB1 : Below A w wn := BB.trans (bz.mono (by omega))
  have sA1 : A ≤ wn.heap.size := by have := Below.size bz; omega
  have q0 : Hid (RowAt 2 encNode wn (.slice ga n gb) ns0) := HRN.out.keep bz
  have q1 : Hid (RowAt 5 encEdge wn (.slice gc m gd) es0) := HRE.out.keep bz
  have q2 : Hid (Four wn aF aT aN aU) := H4.out.keep bz
  have q3 : Hid (OwnGraph wn bWW (.slice wa1 DN.length wa2) (.slice wa3 DE.length wa4) DN DE) := HWW.out.keep bz
  have q4 : Hid (OwnGraph wn bGG (.slice ga1 DN.length ga2) (.slice ga3 DE.length ga4) (marksNode 1 DN.length) (marksEdge (1 + 2 * DN.length) DE.length)) := HMK.out.keep bz
  have q5 : Hid (OwnGraph wn bHH (.slice ha1 DN.length ha2) (.slice ha3 DE.length ha4) DN DE) := HHH.out.keep bz
  clear BB sA cc0 cc1 cc2 cc3 cc4 cc5 cc6 cc7 cc8 cc9 cc10 cc11 cc12 cc13 cc14 cc15 cc16 cc17 zz0 zz1 zz2 zz3 zz4 zz5 zz6 zz7 HRN HRE H4 HWW HMK HHH
  have cc0 := d0
  have cc1 := d1
  have cc2 := d2
  have cc3 := d3
  have cc4 := d4
  have cc5 := d5
  have cc6 := d6
  have cc7 := d7
  have cc8 := d8
  have cc9 := d9
  have cc10 := d10
  have cc11 := d11
  have cc12 := d12
  have cc13 := d13
  have cc14 := d14
  have cc15 := d15
  have cc16 := d16
  have cc17 := d17
  have zz0 := y0
  have zz1 := y1
  have zz2 := y2
  have zz3 := y3
  have zz4 := y4
  have zz5 := y5
  have zz6 := y6
  have zz7 := y7
  have HRN := q0
  have HRE := q1
  have H4 := q2
  have HWW := q3
  have HMK := q4
  have HHH := q5
  have BB := BB1
  have sA := sA1
  clear BB1 sA1 d0 d1 d2 d3 d4 d5 d6 d7 d8 d9 d10 d11 d12 d13 d14 d15 d16 d17 y0 y1 y2 y3 y4 y5 y6 y7 q0 q1 q2 q3 q4 q5
  clear bz
  go_wp2_with fail
  refine (heldGraph _ _ DN.length DE.length _ _ (by omega) (by omega) (by omega) (by omega) HMK.out.nodes HMK.out.edges).mono ?_
  rintro e wo ⟨rfl, bz⟩
  have d0 : wo.cell? ⟨G0, 0, none⟩ = some (.slice ga n gb) := (Below.celz bz _ _ _ (by omega)).trans cc0
  have d1 : wo.cell? ⟨G0, 1, none⟩ = some (.slice gc m gd) := (Below.celz bz _ _ _ (by omega)).trans cc1
  have d2 : wo.cell? ⟨O0, 0, none⟩ = some (.int .i64 k1) := (Below.celz bz _ _ _ (by omega)).trans cc2
  have d3 : wo.cell? ⟨O0, 1, none⟩ = some (.int .i64 nl1) := (Below.celz bz _ _ _ (by omega)).trans cc3
  have d4 : wo.cell? ⟨O0, 2, none⟩ = some (.int .i64 nn1) := (Below.celz bz _ _ _ (by omega)).trans cc4
  have d5 : wo.cell? ⟨O0, 3, none⟩ = some (.int .i64 l1) := (Below.celz bz _ _ _ (by omega)).trans cc5
  have d6 : wo.cell? ⟨O0, 4, none⟩ = some (.int .i64 al1) := (Below.celz bz _ _ _ (by omega)).trans cc6
  have d7 : wo.cell? ⟨O0, 5, none⟩ = some (.int .i64 an1) := (Below.celz bz _ _ _ (by omega)).trans cc7
  have d8 : wo.cell? ⟨O0, 6, none⟩ = some (.int .i64 bl1) := (Below.celz bz _ _ _ (by omega)).trans cc8
  have d9 : wo.cell? ⟨O0, 7, none⟩ = some (.int .i64 bn1) := (Below.celz bz _ _ _ (by omega)).trans cc9
  have d10 : wo.cell? ⟨C0, 0, none⟩ = some (.slice wa1 DN.length wa2) := (Below.celz bz _ _ _ (by omega)).trans cc10
  have d11 : wo.cell? ⟨C0, 1, none⟩ = some (.slice wa3 DE.length wa4) := (Below.celz bz _ _ _ (by omega)).trans cc11
  have d12 : wo.cell? ⟨D0, 0, none⟩ = some (.slice xa n xb) := (Below.celz bz _ _ _ (by omega)).trans cc12
  have d13 : wo.cell? ⟨D0, 1, none⟩ = some (.slice xc m xd) := (Below.celz bz _ _ _ (by omega)).trans cc13
  have d14 : wo.cell? ⟨E0, 0, none⟩ = some (.slice ga1 DN.length ga2) := (Below.celz bz _ _ _ (by omega)).trans cc14
  have d15 : wo.cell? ⟨E0, 1, none⟩ = some (.slice ga3 DE.length ga4) := (Below.celz bz _ _ _ (by omega)).trans cc15
  have d16 : wo.cell? ⟨F0, 0, none⟩ = some (.slice ha1 DN.length ha2) := (Below.celz bz _ _ _ (by omega)).trans cc16
  have d17 : wo.cell? ⟨F0, 1, none⟩ = some (.slice ha3 DE.length ha4) := (Below.celz bz _ _ _ (by omega)).trans cc17
  have y0 : G0 < wo.heap.size := by have := Below.size bz; omega
  have y1 : O0 < wo.heap.size := by have := Below.size bz; omega
  have y2 : C0 < wo.heap.size := by have := Below.size bz; omega
  have y3 : bxp < wo.heap.size := by have := Below.size bz; omega
  have y4 : dzp < wo.heap.size := by have := Below.size bz; omega
  have y5 : D0 < wo.heap.size := by have := Below.size bz; omega
  have y6 : E0 < wo.heap.size := by have := Below.size bz; omega
  have y7 : F0 < wo.heap.size := by have := Below.size bz; omega
  have BB1 : Below A w wo := BB.trans (bz.mono (by omega))
  have sA1 : A ≤ wo.heap.size := by have := Below.size bz; omega
  have q0 : Hid (RowAt 2 encNode wo (.slice ga n gb) ns0) := HRN.out.keep bz
  have q1 : Hid (RowAt 5 encEdge wo (.slice gc m gd) es0) := HRE.out.keep bz
  have q2 : Hid (Four wo aF aT aN aU) := H4.out.keep bz
  have q3 : Hid (OwnGraph wo bWW (.slice wa1 DN.length wa2) (.slice wa3 DE.length wa4) DN DE) := HWW.out.keep bz
  have q4 : Hid (OwnGraph wo bGG (.slice ga1 DN.length ga2) (.slice ga3 DE.length ga4) (marksNode 1 DN.length) (marksEdge (1 + 2 * DN.length) DE.length)) := HMK.out.keep bz
  have q5 : Hid (OwnGraph wo bHH (.slice ha1 DN.length ha2) (.slice ha3 DE.length ha4) DN DE) := HHH.out.keep bz
  clear BB sA cc0 cc1 cc2 cc3 cc4 cc5 cc6 cc7 cc8 cc9 cc10 cc11 cc12 cc13 cc14 cc15 cc16 cc17 zz0 zz1 zz2 zz3 zz4 zz5 zz6 zz7 HRN HRE H4 HWW HMK HHH
  have cc0 := d0
  have cc1 := d1
  have cc2 := d2
  have cc3 := d3
  have cc4 := d4
  have cc5 := d5
  have cc6 := d6
  have cc7 := d7
  have cc8 := d8
  have cc9 := d9
  have cc10 := d10
  have cc11 := d11
  have cc12 := d12
  have cc13 := d13
  have cc14 := d14
  have cc15 := d15
  have cc16 := d16
  have cc17 := d17
  have zz0 := y0
  have zz1 := y1
  have zz2 := y2
  have zz3 := y3
  have zz4 := y4
  have zz5 := y5
  have zz6 := y6
  have zz7 := y7
  have HRN := q0
  have HRE := q1
  have H4 := q2
  have HWW := q3
  have HMK := q4
  have HHH := q5
  have BB := BB1
  have sA := sA1
  clear BB1 sA1 d0 d1 d2 d3 d4 d5 d6 d7 d8 d9 d10 d11 d12 d13 d14 d15 d16 d17 y0 y1 y2 y3 y4 y5 y6 y7 q0 q1 q2 q3 q4 q5
  clear bz
  go_wp2_with fail
  go_ret
  exact ⟨rfl, (by have := BB; rw [HA.out] at this; exact this)⟩

theorem door_met (os : Os) (args : Array Value) : laidMetH Tryz.prog Rows.fnExactGraphDoRow.laid ((World.doorLaid Tryz.prog 85 os).forCall (fun _ _ => 0) ⟨#[], args, []⟩).memory :=
  laidMetH_of_parts3 (fuel := 8) (laidMet_of_run' 8 (by kernel_rfl) (by kernel_rfl)) (by kernel_rfl) (by kernel_rfl)

set_option maxRecDepth 100000 in
set_option maxHeartbeats 1000000 in
theorem lifted (os : Os) (started : os.Started) (H : Type) (enc : TypeId × Value → H) :
    ReturnsInHanded {} Tryz.checked os 5 .any (fun w args => (Rows.fnExactGraphDoSpec.pre enc Tryz.prog Tryz.f5 [] false w args ∧ laidMetH Tryz.prog Rows.fnExactGraphDoRow.laid w) ∧ sizedMet enc Tryz.prog Tryz.f5 (OpenSpec.ofChange Rows.fnExactGraphDoSpec) false w args)
      (Rows.fnExactGraphDoSpec.post enc Tryz.prog Tryz.f5 false true false false) := by
  refine returnsInHanded_of_change_and (C := Tryz.checked) (X := fun w _ => laidMetH Tryz.prog Rows.fnExactGraphDoRow.laid w) (fun _ _ _ hh h => h.of_heap hh) own started (by kernel_rfl) Tryz.func5
    (ChangeSpec.witness_shaped (enc := enc) (C := Tryz.checked) (os := os) (X := fun w _ => laidMetH Tryz.prog Rows.fnExactGraphDoRow.laid w) false (World.doorLaid Tryz.prog 85 os) #[.agg #[.slice none 0 0, .slice none 0 0], .agg #[.int .i64 0, .int .i64 0, .int .i64 0, .int .i64 0, .int .i64 0, .int .i64 0, .int .i64 0, .int .i64 0]] 8 rfl (World.shaped_of_RefB (by kernel_rfl) (by kernel_rfl)) (by kernel_rfl) (by kernel_rfl) (by kernel_rfl) (door_met os _)) ?_
  intro W base args ds gs before hval0 hW _ _ hL _
  have hval : ∀ (j : Nat) t v, Tryz.f5.params[j]? = some t → args[j]? = some v → Value.okWide Tryz.prog W .any base t v := hval0
  have hW' := hW
  obtain ⟨p, q, hA0, hV0, rfl, hfz, hnd⟩ := hW
  have hA : DataW.TrodAll enc Tryz.prog W 0 (fun _ => true) true Tryz.f5.params.toList args.toList ds p := hA0
  have hV : DataW.TrodVars enc Tryz.prog W (fun _ => true) ["loop.example/hagioscope/impl.errForm", "loop.example/hagioscope/impl.errThere", "loop.example/hagioscope/impl.errFull", "loop.example/hagioscope/impl.errNone"] gs q := hV0
  rw [Tryz.params5] at hA hval
  obtain ⟨v0, vs0, d0, ds0, p0, q0, hargs, rfl, rfl, h0, r0⟩ := trodAll_cons hA
  obtain ⟨v1, vs1, d1, ds1, p1, q1, rfl, rfl, rfl, h1, r1⟩ := trodAll_cons r0
  obtain ⟨rfl, rfl, rfl⟩ := trodAll_nil r1
  obtain rfl : args = #[v0, v1] := by cases args; simp_all
  have kr0 := h0
  have lt0 : ∀ x ∈ p0, x.block < W.heap.size := by obtain ⟨m, hm⟩ := kr0; exact DataW.trod_lt m _ _ _ hm
  have kr1 := h1
  have lt1 : ∀ x ∈ p1, x.block < W.heap.size := by obtain ⟨m, hm⟩ := kr1; exact DataW.trod_lt m _ _ _ hm
  obtain ⟨x0, y0, ns0, es0, rfl, w0⟩ := open_graph (hval 0 43 v0 rfl rfl) h0
  obtain ⟨k1, nl1, nn1, l1, al1, an1, bl1, bn1, rfl, w1⟩ := open_op (hval 1 48 v1 rfl rfl) h1
  have hI := held_of hL
  have hE : Errs W := errs_of hI
  obtain ⟨aF, aT, aN, aU, hF⟩ := four_of hL
  obtain ⟨g1, g2, g3, g4, rfl⟩ : ∃ g1 g2 g3 g4, gs = [g1, g2, g3, g4] := by
    have hlen := vars_len _ _ _ hV
    match gs, hlen with
    | [g1, g2, g3, g4], _ => exact ⟨g1, g2, g3, g4, rfl⟩
  clear hA0 hV0 hval0
  refine (walk x0 y0 ns0 es0 k1 nl1 nn1 l1 al1 an1 bl1 bn1 W w0 w1 aF aT aN aU hF hE).mono fun e W' ⟨he, bel⟩ => ?_
  subst he
  exact ⟨_, rfl, _, _, _, [], _, _, hW', trodAll_mk1 (shut_bool Tryz.underlying4 _), (trodAll_cons_mk (Below.trod laidOut (by kernel_rfl) (of_decide_eq_true (by kernel_rfl)) kr0 bel lt0) (trodAll_cons_mk (Below.trod laidOut (by kernel_rfl) (of_decide_eq_true (by kernel_rfl)) kr1 bel lt1) trodAll_mk0)), vars_keep Tryz.underlying62 bel _ _ _ hV hI, bel.frame _, fun h => by cases h⟩

theorem said : Rows.FnExactGraphDoSaid :=
  OpenClaim.holds_of_wide 5 Tryz.f5 rfl rfl rfl rfl rfl rfl rfl ⟨rfl, rfl, rfl, rfl, rfl⟩ rfl rfl rfl rfl rfl (by kernel_rfl) Tryz.func5 (by kernel_rfl)
    (of_decide_eq_true (by kernel_rfl)) (by unfold Func.isWrapper; first | (rw [if_pos (by decide +kernel)]; kernel_rfl) | (rw [if_neg (by decide +kernel)]; exact ⟨rfl, rfl⟩))
    (fun os started H enc _ => lifted os started H enc)

theorem plain (f : FuncId) (fn : Func) (hf : Tryz.pinned.checked.prog.funcNamed "loop.example/hagioscope/laws.FnExactGraphDo" = some f) (hfn : Tryz.pinned.checked.prog.funcs[f]? = some fn) :
    true = Tryz.pinned.checked.prog.looks [] ∧ ∀ (j : Nat) t, fn.params[j]? = some t → Tryz.pinned.checked.prog.wantsStandIn t = false := by
  obtain rfl : f = 5 := Option.some.inj ((show Tryz.prog.funcNamed "loop.example/hagioscope/laws.FnExactGraphDo" = some 5 by kernel_rfl).symm.trans hf) |>.symm
  obtain rfl : fn = Tryz.f5 := (Option.some.inj (Tryz.func5.symm.trans hfn)).symm
  refine ⟨by kernel_rfl, fun j t ht => ?_⟩
  rw [Tryz.params5] at ht
  obtain rfl | rfl : t = 43 ∨ t = 48 := by simpa using Array.mem_of_getElem? ht
  · exact (show Tryz.prog.wantsStandIn 43 = false by kernel_rfl)
  · exact (show Tryz.prog.wantsStandIn 48 = false by kernel_rfl)

end Go.Proofs.YtkhfbaggkmeahabGreatDoor.fnExactGraphDo
namespace Go.Proofs.YtkhfbaggkmeahabGreatDoor
theorem fnExactGraphDo_card : Rows.FnExactGraphDoCardSaid :=
  Claim7.holds_tied_plain_at .later [] _ _ _ _ fnExactGraphDo.said (fun _ h => by cases h) (by kernel_rfl) (fun _ h => by cases h) fnExactGraphDo_row_tie rfl ⟨rfl, rfl⟩ (by kernel_rfl) rfl fnExactGraphDo.plain (by kernel_rfl)
#print axioms fnExactGraphDo_card
end Go.Proofs.YtkhfbaggkmeahabGreatDoor

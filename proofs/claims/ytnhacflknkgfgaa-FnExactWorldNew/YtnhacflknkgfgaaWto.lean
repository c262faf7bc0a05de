/-
  A world in new memory: toWorld of the laws. (Written by tools/mkwto.py.)
-/
import Derived.Test.YtnhacflknkgfgaaWld
namespace Go.Proofs.Ytnhacflknkgfgaa.Lab
open Go.RowKit
set_option linter.unusedVariables false
theorem RowsPool.mono {w : World} {base base' : Nat} {v : Value} {xs : List (Int × (Value × List (Int × Int)))} (h : RowsPool w base v xs) (hb : base' ≤ base) : RowsPool w base' v xs := ⟨own_mono h.1 hb, fun x hx => own_mono (h.2 x hx) hb⟩
theorem own_off {w : World} {base e size : Nat} {v : Value} {n : Nat} {xs : List Value} (h : w.ownsRow base e size v n xs) {B i : Nat} (hB : B < base) (u : Value) : (w.setCell ⟨B, i, none⟩ u).ownsRow base e size v n xs := own_set h (fun hh => by have := (h.lt _ hh).1; simp at this; omega) u
theorem RowsPool.off {w : World} {base : Nat} {v : Value} {xs : List (Int × (Value × List (Int × Int)))} (h : RowsPool w base v xs) {B i : Nat} (hB : B < base) (u : Value) : RowsPool (w.setCell ⟨B, i, none⟩ u) base v xs := ⟨own_off h.1 hB u, fun x hx => own_off (h.2 x hx) hB u⟩
/-- The inner rows have room for what they hold. -/
def CapPool (xs : List (Int × (Value × List (Int × Int)))) : Prop := ∀ x ∈ xs, ∃ a c, x.2.1 = .slice a x.2.2.length c ∧ x.2.2.length ≤ c
theorem RowsPool.cap {w : World} {base : Nat} {v : Value} {xs : List (Int × (Value × List (Int × Int)))} (h : RowsPool w base v xs) : CapPool xs := by
  intro x hx
  obtain ⟨_, ⟨hv, h0⟩ | ⟨g, cap, cur, hv, _, _, hc, _⟩⟩ := h.2 x hx
  · exact ⟨none, 0, by rw [hv, h0], by omega⟩
  · exact ⟨_, cap, hv, hc⟩
theorem OwnGraph.off {w : World} {base : Nat} {v1 v2 : Value} {ns : List (Int × Int)} {es : List (Int × Int × Int × Int × Int)} (h : OwnGraph w base v1 v2 ns es) {B i : Nat} (hB : B < base) (u : Value) : OwnGraph (w.setCell ⟨B, i, none⟩ u) base v1 v2 ns es := ⟨own_off h.1 hB u, own_off h.2.1 hB u, h.2.2⟩
set_option maxHeartbeats 8000000 in
theorem toWorldC (v1 v2 v3 v4 v5 : Value) (x1 : List (Int × Int × Int)) (x2 : List (Int × Int)) (x3 : List (Int × Int × Int × Int × Int)) (x4 : List (Int × (Value × List (Int × Int)))) (x5 : List Int) (w : World) (h : AtWorld w v1 v2 v3 v4 v5 x1 x2 x3 x4 x5) (fx : FewWorld x1 x2 x3 x4 x5) :
    Calls Try.prog 21 #[.agg #[v1, v2, v3, v4, v5]] w fun e w' => ∃ u1 u2 u3 u4 u5 y4, e = .returned (.agg #[u1, u2, u3, u4, u5]) ∧ y4.map plPool = x4.map plPool ∧ CapPool y4 ∧ AtWorld w' u1 u2 u3 u4 u5 x1 x2 x3 y4 x5 ∧ Below w.heap.size w w' := by
  obtain ⟨a1, c1, a2, c2, a3, c3, a4, c4, a5, c5, rfl, rfl, rfl, rfl, rfl⟩ := h.form
  generalize hn1 : x1.length = n1 at h ⊢
  generalize hn2 : x2.length = n2 at h ⊢
  generalize hn3 : x3.length = n3 at h ⊢
  generalize hn4 : x4.length = n4 at h ⊢
  generalize hn5 : x5.length = n5 at h ⊢
  have HX : Hid (AtWorld w (.slice a1 n1 c1) (.slice a2 n2 c2) (.slice a3 n3 c3) (.slice a4 n4 c4) (.slice a5 n5 c5) x1 x2 x3 x4 x5) := h
  have HFW : Hid (FewWorld x1 x2 x3 x4 x5) := fx
  clear h fx hn1 hn2 hn3 hn4 hn5
  go_enter Try.func21, Try.ntmps21
  go_wp2_with fail
  obtain ⟨B, hB⟩ : ∃ t, t = w.heap.size := ⟨_, rfl⟩
  obtain ⟨B1, hB1⟩ : ∃ t, t = B + 1 := ⟨_, rfl⟩
  obtain ⟨B2, hB2⟩ : ∃ t, t = B1 + 1 := ⟨_, rfl⟩
  generalize hW : ((w.alloc (.cells #[.slice a1 n1 c1, .slice a2 n2 c2, .slice a3 n3 c3, .slice a4 n4 c4, .slice a5 n5 c5] 52)).alloc (.cells #[.slice none 0 0, .slice none 0 0, .slice none 0 0, .slice none 0 0, .slice none 0 0] 38)).alloc (.cells #[.slice none 0 0, .slice none 0 0, .slice none 0 0, .slice none 0 0, .slice none 0 0] 38) = s0
  have BB : Below w.heap.size w s0 := by rw [← hW]; go_grown
  have sz : B2 < s0.heap.size := by rw [← hW, hB2, hB1, hB]; simp
  have cc0 : s0.cell? ⟨B, 0, none⟩ = some (.slice a1 n1 c1) := by rw [← hW, hB]; simp [go_sem]
  have cc1 : s0.cell? ⟨B, 1, none⟩ = some (.slice a2 n2 c2) := by rw [← hW, hB]; simp [go_sem]
  have cc2 : s0.cell? ⟨B, 2, none⟩ = some (.slice a3 n3 c3) := by rw [← hW, hB]; simp [go_sem]
  have cc3 : s0.cell? ⟨B, 3, none⟩ = some (.slice a4 n4 c4) := by rw [← hW, hB]; simp [go_sem]
  have cc4 : s0.cell? ⟨B, 4, none⟩ = some (.slice a5 n5 c5) := by rw [← hW, hB]; simp [go_sem]
  have K1 : s0.heap[B1]? = some (.cells #[.slice none 0 0, .slice none 0 0, .slice none 0 0, .slice none 0 0, .slice none 0 0] 38 (0, 0)) := by
    have h1 := new_block (w.alloc (.cells #[.slice a1 n1 c1, .slice a2 n2 c2, .slice a3 n3 c3, .slice a4 n4 c4, .slice a5 n5 c5] 52)) (.cells #[.slice none 0 0, .slice none 0 0, .slice none 0 0, .slice none 0 0, .slice none 0 0] 38)
    rw [← hW, hB1, hB]
    have h2 : Below (w.heap.size + 2) ((w.alloc (.cells #[.slice a1 n1 c1, .slice a2 n2 c2, .slice a3 n3 c3, .slice a4 n4 c4, .slice a5 n5 c5] 52)).alloc (.cells #[.slice none 0 0, .slice none 0 0, .slice none 0 0, .slice none 0 0, .slice none 0 0] 38)) (((w.alloc (.cells #[.slice a1 n1 c1, .slice a2 n2 c2, .slice a3 n3 c3, .slice a4 n4 c4, .slice a5 n5 c5] 52)).alloc (.cells #[.slice none 0 0, .slice none 0 0, .slice none 0 0, .slice none 0 0, .slice none 0 0] 38)).alloc (.cells #[.slice none 0 0, .slice none 0 0, .slice none 0 0, .slice none 0 0, .slice none 0 0] 38)) := (Below.refl _ _).alloc (by simp) _
    rw [h2.block _ (by omega)]
    simpa using h1
  have K2 : s0.heap[B2]? = some (.cells #[.slice none 0 0, .slice none 0 0, .slice none 0 0, .slice none 0 0, .slice none 0 0] 38 (0, 0)) := by
    have h1 := new_block ((w.alloc (.cells #[.slice a1 n1 c1, .slice a2 n2 c2, .slice a3 n3 c3, .slice a4 n4 c4, .slice a5 n5 c5] 52)).alloc (.cells #[.slice none 0 0, .slice none 0 0, .slice none 0 0, .slice none 0 0, .slice none 0 0] 38)) (.cells #[.slice none 0 0, .slice none 0 0, .slice none 0 0, .slice none 0 0, .slice none 0 0] 38)
    rw [← hW, hB2, hB1, hB]
    simpa using h1
  have HB : Hid (B = w.heap.size) := hB
  have l0 : w.heap.size ≤ B := by omega
  have l1 : B < B1 := by omega
  have l2 : B1 < B2 := by omega
  rw [← hB, ← hB1, ← hB2]
  clear hW hB hB1 hB2
  refine (toPersonS _ x1 _ (HX.out.keep BB).1 HFW.out.1).mono ?_
  rintro e s1 ⟨u1, rfl, o1, e1⟩
  have so : B2 < s0.heap.size := sz
  have d0 : s1.cell? ⟨B, 0, none⟩ = some (.slice a1 n1 c1) := (Below.celz e1 _ _ _ (by omega)).trans cc0
  have d1 : s1.cell? ⟨B, 1, none⟩ = some (.slice a2 n2 c2) := (Below.celz e1 _ _ _ (by omega)).trans cc1
  have d2 : s1.cell? ⟨B, 2, none⟩ = some (.slice a3 n3 c3) := (Below.celz e1 _ _ _ (by omega)).trans cc2
  have d3 : s1.cell? ⟨B, 3, none⟩ = some (.slice a4 n4 c4) := (Below.celz e1 _ _ _ (by omega)).trans cc3
  have d4 : s1.cell? ⟨B, 4, none⟩ = some (.slice a5 n5 c5) := (Below.celz e1 _ _ _ (by omega)).trans cc4
  have J1 : s1.heap[B1]? = some (.cells #[.slice none 0 0, .slice none 0 0, .slice none 0 0, .slice none 0 0, .slice none 0 0] 38 (0, 0)) := (e1.block _ (by omega)).trans K1
  have J2 : s1.heap[B2]? = some (.cells #[.slice none 0 0, .slice none 0 0, .slice none 0 0, .slice none 0 0, .slice none 0 0] 38 (0, 0)) := (e1.block _ sz).trans K2
  have BB1 : Below w.heap.size w s1 := BB.trans (e1.mono BB.size)
  have sz1 : B2 < s1.heap.size := by have := e1.size; omega
  clear BB sz K1 K2 cc0 cc1 cc2 cc3 cc4 
  have cc0 := d0
  have cc1 := d1
  have cc2 := d2
  have cc3 := d3
  have cc4 := d4
  have BB := BB1
  have sz := sz1
  have K1 := J1
  have K2 := J2
  clear BB1 sz1 J1 J2 d0 d1 d2 d3 d4 
  obtain ⟨p1, q1, rfl⟩ := own_form o1
  have HO1 : Hid (s1.ownsRow (B2 + 1) 25 3 (.slice p1 x1.length q1) x1.length (x1.flatMap encPerson)) := own_mono o1 (by omega)
  clear o1 e1 so
  have rr0 : s1.cell? ⟨B2, 0, none⟩ = some (.slice none 0 0) := by rw [cell_block K2]; rfl
  have ff : ∀ i, s1.frozen? ⟨B2, i, none⟩ = false := fun i => free_block K2
  go_wp2_with fail
  clear rr0 ff
  generalize hW : s1.setCell ⟨B2, 0, none⟩ (.slice p1 x1.length q1) = s2
  have lw : Below B2 s1 s2 := by rw [← hW]; exact (Below.setCell (p := ⟨B2, 0, none⟩) (Below.refl _ _) (Nat.le_refl B2) _)
  have d0 : s2.cell? ⟨B, 0, none⟩ = some (.slice a1 n1 c1) := (Below.celz lw _ _ _ (by omega)).trans cc0
  have d1 : s2.cell? ⟨B, 1, none⟩ = some (.slice a2 n2 c2) := (Below.celz lw _ _ _ (by omega)).trans cc1
  have d2 : s2.cell? ⟨B, 2, none⟩ = some (.slice a3 n3 c3) := (Below.celz lw _ _ _ (by omega)).trans cc2
  have d3 : s2.cell? ⟨B, 3, none⟩ = some (.slice a4 n4 c4) := (Below.celz lw _ _ _ (by omega)).trans cc3
  have d4 : s2.cell? ⟨B, 4, none⟩ = some (.slice a5 n5 c5) := (Below.celz lw _ _ _ (by omega)).trans cc4
  have J1 : s2.heap[B1]? = some (.cells #[.slice none 0 0, .slice none 0 0, .slice none 0 0, .slice none 0 0, .slice none 0 0] 38 (0, 0)) := (lw.block _ l2).trans K1
  have J2 : s2.heap[B2]? = some (.cells #[.slice p1 x1.length q1, .slice none 0 0, .slice none 0 0, .slice none 0 0, .slice none 0 0] 38 (0, 0)) := by rw [← hW]; exact (set_block _ K2)
  have qHO1 : Hid (s2.ownsRow (B2 + 1) 25 3 (.slice p1 x1.length q1) x1.length (x1.flatMap encPerson)) := by rw [← hW]; exact own_off (HO1.out) (Nat.lt_succ_self _) _
  have BB1 : Below w.heap.size w s2 := by rw [← hW]; exact (BB.setCell (by simp; omega) _)
  have sz1 : B2 < s2.heap.size := by rw [← hW]; simpa using sz
  clear BB sz K1 K2 cc0 cc1 cc2 cc3 cc4 HO1
  have cc0 := d0
  have cc1 := d1
  have cc2 := d2
  have cc3 := d3
  have cc4 := d4
  have HO1 := qHO1
  have BB := BB1
  have sz := sz1
  have K1 := J1
  have K2 := J2
  clear BB1 sz1 J1 J2 d0 d1 d2 d3 d4 qHO1
  clear lw hW
  refine (toGraph _ _ x2 x3 _ (HX.out.keep BB).2.1 (HX.out.keep BB).2.2.1 HFW.out.2.1 HFW.out.2.2.1).mono ?_
  rintro e s3 ⟨u2, u3, rfl, o2, e2⟩
  have so : B2 < s2.heap.size := sz
  have d0 : s3.cell? ⟨B, 0, none⟩ = some (.slice a1 n1 c1) := (Below.celz e2 _ _ _ (by omega)).trans cc0
  have d1 : s3.cell? ⟨B, 1, none⟩ = some (.slice a2 n2 c2) := (Below.celz e2 _ _ _ (by omega)).trans cc1
  have d2 : s3.cell? ⟨B, 2, none⟩ = some (.slice a3 n3 c3) := (Below.celz e2 _ _ _ (by omega)).trans cc2
  have d3 : s3.cell? ⟨B, 3, none⟩ = some (.slice a4 n4 c4) := (Below.celz e2 _ _ _ (by omega)).trans cc3
  have d4 : s3.cell? ⟨B, 4, none⟩ = some (.slice a5 n5 c5) := (Below.celz e2 _ _ _ (by omega)).trans cc4
  have J1 : s3.heap[B1]? = some (.cells #[.slice none 0 0, .slice none 0 0, .slice none 0 0, .slice none 0 0, .slice none 0 0] 38 (0, 0)) := (e2.block _ (by omega)).trans K1
  have J2 : s3.heap[B2]? = some (.cells #[.slice p1 x1.length q1, .slice none 0 0, .slice none 0 0, .slice none 0 0, .slice none 0 0] 38 (0, 0)) := (e2.block _ sz).trans K2
  have qHO1 : Hid (s3.ownsRow (B2 + 1) 25 3 (.slice p1 x1.length q1) x1.length (x1.flatMap encPerson)) := own_keep HO1.out e2
  have BB1 : Below w.heap.size w s3 := BB.trans (e2.mono BB.size)
  have sz1 : B2 < s3.heap.size := by have := e2.size; omega
  clear BB sz K1 K2 cc0 cc1 cc2 cc3 cc4 HO1
  have cc0 := d0
  have cc1 := d1
  have cc2 := d2
  have cc3 := d3
  have cc4 := d4
  have HO1 := qHO1
  have BB := BB1
  have sz := sz1
  have K1 := J1
  have K2 := J2
  clear BB1 sz1 J1 J2 d0 d1 d2 d3 d4 qHO1
  obtain ⟨p2, q2, p3, q3, rfl, rfl⟩ := o2.form
  have HO2 : Hid (OwnGraph s3 (B2 + 1) (.slice p2 x2.length q2) (.slice p3 x3.length q3) x2 x3) := ⟨own_mono o2.1 (by omega), own_mono o2.2.1 (by omega), o2.2.2⟩
  clear o2 e2 so
  have rr1 : s3.cell? ⟨B2, 1, none⟩ = some (.slice none 0 0) := by rw [cell_block K2]; rfl
  have rr2 : s3.cell? ⟨B2, 2, none⟩ = some (.slice none 0 0) := by rw [cell_block K2]; rfl
  have ff : ∀ i, s3.frozen? ⟨B2, i, none⟩ = false := fun i => free_block K2
  go_wp2_with fail
  clear rr1 rr2 ff
  generalize hW : (s3.setCell ⟨B2, 1, none⟩ (.slice p2 x2.length q2)).setCell ⟨B2, 2, none⟩ (.slice p3 x3.length q3) = s4
  have lw : Below B2 s3 s4 := by rw [← hW]; exact (Below.setCell (p := ⟨B2, 2, none⟩) ((Below.setCell (p := ⟨B2, 1, none⟩) (Below.refl _ _) (Nat.le_refl B2) _)) (Nat.le_refl B2) _)
  have d0 : s4.cell? ⟨B, 0, none⟩ = some (.slice a1 n1 c1) := (Below.celz lw _ _ _ (by omega)).trans cc0
  have d1 : s4.cell? ⟨B, 1, none⟩ = some (.slice a2 n2 c2) := (Below.celz lw _ _ _ (by omega)).trans cc1
  have d2 : s4.cell? ⟨B, 2, none⟩ = some (.slice a3 n3 c3) := (Below.celz lw _ _ _ (by omega)).trans cc2
  have d3 : s4.cell? ⟨B, 3, none⟩ = some (.slice a4 n4 c4) := (Below.celz lw _ _ _ (by omega)).trans cc3
  have d4 : s4.cell? ⟨B, 4, none⟩ = some (.slice a5 n5 c5) := (Below.celz lw _ _ _ (by omega)).trans cc4
  have J1 : s4.heap[B1]? = some (.cells #[.slice none 0 0, .slice none 0 0, .slice none 0 0, .slice none 0 0, .slice none 0 0] 38 (0, 0)) := (lw.block _ l2).trans K1
  have J2 : s4.heap[B2]? = some (.cells #[.slice p1 x1.length q1, .slice p2 x2.length q2, .slice p3 x3.length q3, .slice none 0 0, .slice none 0 0] 38 (0, 0)) := by rw [← hW]; exact (set_block _ (set_block _ K2))
  have qHO1 : Hid (s4.ownsRow (B2 + 1) 25 3 (.slice p1 x1.length q1) x1.length (x1.flatMap encPerson)) := by rw [← hW]; exact own_off (own_off (HO1.out) (Nat.lt_succ_self _) _) (Nat.lt_succ_self _) _
  have qHO2 : Hid (OwnGraph s4 (B2 + 1) (.slice p2 x2.length q2) (.slice p3 x3.length q3) x2 x3) := by rw [← hW]; exact OwnGraph.off (OwnGraph.off (HO2.out) (Nat.lt_succ_self _) _) (Nat.lt_succ_self _) _
  have BB1 : Below w.heap.size w s4 := by rw [← hW]; exact ((BB.setCell (by simp; omega) _).setCell (by simp; omega) _)
  have sz1 : B2 < s4.heap.size := by rw [← hW]; simpa using sz
  clear BB sz K1 K2 cc0 cc1 cc2 cc3 cc4 HO1 HO2
  have cc0 := d0
  have cc1 := d1
  have cc2 := d2
  have cc3 := d3
  have cc4 := d4
  have HO1 := qHO1
  have HO2 := qHO2
  have BB := BB1
  have sz := sz1
  have K1 := J1
  have K2 := J2
  clear BB1 sz1 J1 J2 d0 d1 d2 d3 d4 qHO1 qHO2
  clear lw hW
  refine (toPoolS _ x4 _ (HX.out.keep BB).2.2.2.1 HFW.out.2.2.2.1).mono ?_
  rintro e s5 ⟨u4, y4, rfl, hy4, o4, e4⟩
  have so : B2 < s4.heap.size := sz
  have d0 : s5.cell? ⟨B, 0, none⟩ = some (.slice a1 n1 c1) := (Below.celz e4 _ _ _ (by omega)).trans cc0
  have d1 : s5.cell? ⟨B, 1, none⟩ = some (.slice a2 n2 c2) := (Below.celz e4 _ _ _ (by omega)).trans cc1
  have d2 : s5.cell? ⟨B, 2, none⟩ = some (.slice a3 n3 c3) := (Below.celz e4 _ _ _ (by omega)).trans cc2
  have d3 : s5.cell? ⟨B, 3, none⟩ = some (.slice a4 n4 c4) := (Below.celz e4 _ _ _ (by omega)).trans cc3
  have d4 : s5.cell? ⟨B, 4, none⟩ = some (.slice a5 n5 c5) := (Below.celz e4 _ _ _ (by omega)).trans cc4
  have J1 : s5.heap[B1]? = some (.cells #[.slice none 0 0, .slice none 0 0, .slice none 0 0, .slice none 0 0, .slice none 0 0] 38 (0, 0)) := (e4.block _ (by omega)).trans K1
  have J2 : s5.heap[B2]? = some (.cells #[.slice p1 x1.length q1, .slice p2 x2.length q2, .slice p3 x3.length q3, .slice none 0 0, .slice none 0 0] 38 (0, 0)) := (e4.block _ sz).trans K2
  have qHO1 : Hid (s5.ownsRow (B2 + 1) 25 3 (.slice p1 x1.length q1) x1.length (x1.flatMap encPerson)) := own_keep HO1.out e4
  have qHO2 : Hid (OwnGraph s5 (B2 + 1) (.slice p2 x2.length q2) (.slice p3 x3.length q3) x2 x3) := HO2.out.keep e4
  have BB1 : Below w.heap.size w s5 := BB.trans (e4.mono BB.size)
  have sz1 : B2 < s5.heap.size := by have := e4.size; omega
  clear BB sz K1 K2 cc0 cc1 cc2 cc3 cc4 HO1 HO2
  have cc0 := d0
  have cc1 := d1
  have cc2 := d2
  have cc3 := d3
  have cc4 := d4
  have HO1 := qHO1
  have HO2 := qHO2
  have BB := BB1
  have sz := sz1
  have K1 := J1
  have K2 := J2
  clear BB1 sz1 J1 J2 d0 d1 d2 d3 d4 qHO1 qHO2
  obtain ⟨p4, q4, rfl⟩ := o4.form
  have HO4 : Hid (RowsPool s5 (B2 + 1) (.slice p4 y4.length q4) y4) := o4.mono (by omega)
  clear o4 e4 so
  have HY4 : Hid (y4.map plPool = x4.map plPool) := hy4
  clear hy4
  have rr3 : s5.cell? ⟨B2, 3, none⟩ = some (.slice none 0 0) := by rw [cell_block K2]; rfl
  have ff : ∀ i, s5.frozen? ⟨B2, i, none⟩ = false := fun i => free_block K2
  go_wp2_with fail
  clear rr3 ff
  generalize hW : s5.setCell ⟨B2, 3, none⟩ (.slice p4 y4.length q4) = s6
  have lw : Below B2 s5 s6 := by rw [← hW]; exact (Below.setCell (p := ⟨B2, 3, none⟩) (Below.refl _ _) (Nat.le_refl B2) _)
  have d0 : s6.cell? ⟨B, 0, none⟩ = some (.slice a1 n1 c1) := (Below.celz lw _ _ _ (by omega)).trans cc0
  have d1 : s6.cell? ⟨B, 1, none⟩ = some (.slice a2 n2 c2) := (Below.celz lw _ _ _ (by omega)).trans cc1
  have d2 : s6.cell? ⟨B, 2, none⟩ = some (.slice a3 n3 c3) := (Below.celz lw _ _ _ (by omega)).trans cc2
  have d3 : s6.cell? ⟨B, 3, none⟩ = some (.slice a4 n4 c4) := (Below.celz lw _ _ _ (by omega)).trans cc3
  have d4 : s6.cell? ⟨B, 4, none⟩ = some (.slice a5 n5 c5) := (Below.celz lw _ _ _ (by omega)).trans cc4
  have J1 : s6.heap[B1]? = some (.cells #[.slice none 0 0, .slice none 0 0, .slice none 0 0, .slice none 0 0, .slice none 0 0] 38 (0, 0)) := (lw.block _ l2).trans K1
  have J2 : s6.heap[B2]? = some (.cells #[.slice p1 x1.length q1, .slice p2 x2.length q2, .slice p3 x3.length q3, .slice p4 y4.length q4, .slice none 0 0] 38 (0, 0)) := by rw [← hW]; exact (set_block _ K2)
  have qHO1 : Hid (s6.ownsRow (B2 + 1) 25 3 (.slice p1 x1.length q1) x1.length (x1.flatMap encPerson)) := by rw [← hW]; exact own_off (HO1.out) (Nat.lt_succ_self _) _
  have qHO2 : Hid (OwnGraph s6 (B2 + 1) (.slice p2 x2.length q2) (.slice p3 x3.length q3) x2 x3) := by rw [← hW]; exact OwnGraph.off (HO2.out) (Nat.lt_succ_self _) _
  have qHO4 : Hid (RowsPool s6 (B2 + 1) (.slice p4 y4.length q4) y4) := by rw [← hW]; exact RowsPool.off (HO4.out) (Nat.lt_succ_self _) _
  have BB1 : Below w.heap.size w s6 := by rw [← hW]; exact (BB.setCell (by simp; omega) _)
  have sz1 : B2 < s6.heap.size := by rw [← hW]; simpa using sz
  clear BB sz K1 K2 cc0 cc1 cc2 cc3 cc4 HO1 HO2 HO4
  have cc0 := d0
  have cc1 := d1
  have cc2 := d2
  have cc3 := d3
  have cc4 := d4
  have HO1 := qHO1
  have HO2 := qHO2
  have HO4 := qHO4
  have BB := BB1
  have sz := sz1
  have K1 := J1
  have K2 := J2
  clear BB1 sz1 J1 J2 d0 d1 d2 d3 d4 qHO1 qHO2 qHO4
  clear lw hW
  refine (toIntS _ x5 _ (HX.out.keep BB).2.2.2.2 HFW.out.2.2.2.2).mono ?_
  rintro e s7 ⟨u5, rfl, o5, e5⟩
  have so : B2 < s6.heap.size := sz
  have d0 : s7.cell? ⟨B, 0, none⟩ = some (.slice a1 n1 c1) := (Below.celz e5 _ _ _ (by omega)).trans cc0
  have d1 : s7.cell? ⟨B, 1, none⟩ = some (.slice a2 n2 c2) := (Below.celz e5 _ _ _ (by omega)).trans cc1
  have d2 : s7.cell? ⟨B, 2, none⟩ = some (.slice a3 n3 c3) := (Below.celz e5 _ _ _ (by omega)).trans cc2
  have d3 : s7.cell? ⟨B, 3, none⟩ = some (.slice a4 n4 c4) := (Below.celz e5 _ _ _ (by omega)).trans cc3
  have d4 : s7.cell? ⟨B, 4, none⟩ = some (.slice a5 n5 c5) := (Below.celz e5 _ _ _ (by omega)).trans cc4
  have J1 : s7.heap[B1]? = some (.cells #[.slice none 0 0, .slice none 0 0, .slice none 0 0, .slice none 0 0, .slice none 0 0] 38 (0, 0)) := (e5.block _ (by omega)).trans K1
  have J2 : s7.heap[B2]? = some (.cells #[.slice p1 x1.length q1, .slice p2 x2.length q2, .slice p3 x3.length q3, .slice p4 y4.length q4, .slice none 0 0] 38 (0, 0)) := (e5.block _ sz).trans K2
  have qHO1 : Hid (s7.ownsRow (B2 + 1) 25 3 (.slice p1 x1.length q1) x1.length (x1.flatMap encPerson)) := own_keep HO1.out e5
  have qHO2 : Hid (OwnGraph s7 (B2 + 1) (.slice p2 x2.length q2) (.slice p3 x3.length q3) x2 x3) := HO2.out.keep e5
  have qHO4 : Hid (RowsPool s7 (B2 + 1) (.slice p4 y4.length q4) y4) := HO4.out.keep e5
  have BB1 : Below w.heap.size w s7 := BB.trans (e5.mono BB.size)
  have sz1 : B2 < s7.heap.size := by have := e5.size; omega
  clear BB sz K1 K2 cc0 cc1 cc2 cc3 cc4 HO1 HO2 HO4
  have cc0 := d0
  have cc1 := d1
  have cc2 := d2
  have cc3 := d3
  have cc4 := d4
  have HO1 := qHO1
  have HO2 := qHO2
  have HO4 := qHO4
  have BB := BB1
  have sz := sz1
  have K1 := J1
  have K2 := J2
  clear BB1 sz1 J1 J2 d0 d1 d2 d3 d4 qHO1 qHO2 qHO4
  obtain ⟨p5, q5, rfl⟩ := own_form o5
  have HO5 : Hid (s7.ownsRow (B2 + 1) 3 1 (.slice p5 x5.length q5) x5.length (x5.flatMap encI)) := own_mono o5 (by omega)
  clear o5 e5 so
  have rr0 : s7.cell? ⟨B2, 0, none⟩ = some (.slice p1 x1.length q1) := by rw [cell_block K2]; rfl
  have rr1 : s7.cell? ⟨B2, 1, none⟩ = some (.slice p2 x2.length q2) := by rw [cell_block K2]; rfl
  have rr2 : s7.cell? ⟨B2, 2, none⟩ = some (.slice p3 x3.length q3) := by rw [cell_block K2]; rfl
  have rr3 : s7.cell? ⟨B2, 3, none⟩ = some (.slice p4 y4.length q4) := by rw [cell_block K2]; rfl
  have rr4 : s7.cell? ⟨B2, 4, none⟩ = some (.slice none 0 0) := by rw [cell_block K2]; rfl
  have ff : ∀ i, s7.frozen? ⟨B2, i, none⟩ = false := fun i => free_block K2
  have tt0 : s7.cell? ⟨B1, 0, none⟩ = some (.slice none 0 0) := by rw [cell_block K1]; rfl
  have tt1 : s7.cell? ⟨B1, 1, none⟩ = some (.slice none 0 0) := by rw [cell_block K1]; rfl
  have tt2 : s7.cell? ⟨B1, 2, none⟩ = some (.slice none 0 0) := by rw [cell_block K1]; rfl
  have tt3 : s7.cell? ⟨B1, 3, none⟩ = some (.slice none 0 0) := by rw [cell_block K1]; rfl
  have tt4 : s7.cell? ⟨B1, 4, none⟩ = some (.slice none 0 0) := by rw [cell_block K1]; rfl
  have fg : ∀ i, s7.frozen? ⟨B1, i, none⟩ = false := fun i => free_block K1
  have z1 : ¬ B1 = B2 := by omega
  have z2 : ¬ B2 = B1 := by omega
  go_wp2_with fail
  refine bodyPost_ret (v := .agg #[.slice p1 x1.length q1, .slice p2 x2.length q2, .slice p3 x3.length q3, .slice p4 y4.length q4, .slice p5 x5.length q5]) (by simp [*, results, Try.results21, go_sem]) rfl ?_
  refine ⟨_, _, _, _, _, y4, rfl, HY4.out, HO4.out.cap, ⟨row_of_own encPerson_len (by decide) (own_off (own_off (own_off (own_off (own_off (own_off HO1.out (by omega) _) (by omega) _) (by omega) _) (by omega) _) (by omega) _) (by omega) _), row_of_own encNode_len (by decide) (own_off (own_off (own_off (own_off (own_off (own_off HO2.out.1 (by omega) _) (by omega) _) (by omega) _) (by omega) _) (by omega) _) (by omega) _), row_of_own encEdge_len (by decide) (own_off (own_off (own_off (own_off (own_off (own_off HO2.out.2.1 (by omega) _) (by omega) _) (by omega) _) (by omega) _) (by omega) _) (by omega) _), RowsPool.at (RowsPool.off (RowsPool.off (RowsPool.off (RowsPool.off (RowsPool.off (RowsPool.off HO4.out (by omega) _) (by omega) _) (by omega) _) (by omega) _) (by omega) _) (by omega) _), row_of_own encI_len (by decide) (own_off (own_off (own_off (own_off (own_off (own_off HO5.out (by omega) _) (by omega) _) (by omega) _) (by omega) _) (by omega) _) (by omega) _)⟩, ((((((BB.setCell (by simp; omega) _).setCell (by simp; omega) _).setCell (by simp; omega) _).setCell (by simp; omega) _).setCell (by simp; omega) _).setCell (by simp; omega) _)⟩
theorem toWorld (v1 v2 v3 v4 v5 : Value) (x1 : List (Int × Int × Int)) (x2 : List (Int × Int)) (x3 : List (Int × Int × Int × Int × Int)) (x4 : List (Int × (Value × List (Int × Int)))) (x5 : List Int) (w : World) (h : AtWorld w v1 v2 v3 v4 v5 x1 x2 x3 x4 x5) (fx : FewWorld x1 x2 x3 x4 x5) :
    Calls Try.prog 21 #[.agg #[v1, v2, v3, v4, v5]] w fun e w' => ∃ u1 u2 u3 u4 u5 y4, e = .returned (.agg #[u1, u2, u3, u4, u5]) ∧ y4.map plPool = x4.map plPool ∧ AtWorld w' u1 u2 u3 u4 u5 x1 x2 x3 y4 x5 ∧ Below w.heap.size w w' :=
  (toWorldC v1 v2 v3 v4 v5 x1 x2 x3 x4 x5 w h fx).mono fun e w' ⟨u1, u2, u3, u4, u5, y4, h1, h2, _, h3, h4⟩ => ⟨u1, u2, u3, u4, u5, y4, h1, h2, h3, h4⟩
end Go.Proofs.Ytnhacflknkgfgaa.Lab

/-
  impl's book: an edge, a node taken out.
-/
import Derived.Test.YtkhfbaggkmeahabGreatDoorMdr
import Derived.Test.YtkhfbaggkmeahabGreatDoorNpl
import Derived.Test.YtkhfbaggkmeahabGreatDoorNea
namespace Go.Proofs.YtkhfbaggkmeahabGreatDoor.Lab
open Go.RowKit Go.ChangeMaps
set_option linter.unusedVariables false
/-- A count is set. -/
def upd (c : Nat → Int) (k : Nat) (x : Int) : Nat → Int := fun i => if i = k then x else c i
theorem BookAt.nset {w : World} {b mn me k : Nat} {ns es : List (Int × Value)} {cn ce : Nat → Int} (h : BookAt w b mn me ns es cn ce) (hk : k < 8) (x : Int) : BookAt (w.setCell ⟨b, 2 + k, none⟩ (.int .i64 x)) b mn me ns es (upd cn k x) ce := by
  refine ⟨(cell_set_ne (by omega)).trans h.n0, (cell_set_ne (by omega)).trans h.e0, fun i hi => ?_, fun i hi => (cell_set_ne (by omega)).trans (h.ec i hi), fun o => by simp [h.fr o], h.nm.other (heap_setCell_ne _ _ _ _ h.ne1.symm), h.em.other (heap_setCell_ne _ _ _ _ h.ne2.symm), h.ne1, h.ne2, h.ne3⟩
  by_cases hik : i = k
  · subst hik
    simp only [upd, if_pos]
    exact World.cell?_setCell_same _ _ _ (h.nc i hi)
  · simp only [upd, if_neg hik]
    exact (cell_set_ne (by omega)).trans (h.nc i hi)
theorem BookAt.eset {w : World} {b mn me k : Nat} {ns es : List (Int × Value)} {cn ce : Nat → Int} (h : BookAt w b mn me ns es cn ce) (hk : k < 8) (x : Int) : BookAt (w.setCell ⟨b, 10 + k, none⟩ (.int .i64 x)) b mn me ns es cn (upd ce k x) := by
  refine ⟨(cell_set_ne (by omega)).trans h.n0, (cell_set_ne (by omega)).trans h.e0, fun i hi => (cell_set_ne (by omega)).trans (h.nc i hi), fun i hi => ?_, fun o => by simp [h.fr o], h.nm.other (heap_setCell_ne _ _ _ _ h.ne1.symm), h.em.other (heap_setCell_ne _ _ _ _ h.ne2.symm), h.ne1, h.ne2, h.ne3⟩
  by_cases hik : i = k
  · subst hik
    simp only [upd, if_pos]
    exact World.cell?_setCell_same _ _ _ (h.ec i hi)
  · simp only [upd, if_neg hik]
    exact (cell_set_ne (by omega)).trans (h.ec i hi)
set_option maxRecDepth 8000 in
set_option maxHeartbeats 4000000 in
theorem takeEdge (b mn me k : Nat) (al an bl bn : Int) (ns es : List (Int × Value)) (cn ce : Nat → Int) (w : World) (hk : k < 8) (h : BookAt w b mn me ns es cn ce) (hu : EdgeVals es) (hc0 : 0 ≤ ce k) (hc1 : ce k ≤ 1000)
    (t3 : TypeId) (v3 : Value) (g3 : w.cell? ⟨2, 0, none⟩ = some (.iface t3 v3)) :
    Calls Tryz.prog 135 #[.pointer (some ⟨b, 0, none⟩), .agg #[.int .i64 k, .int .i64 al, .int .i64 an, .int .i64 bl, .int .i64 bn]] w fun e w' =>
      ((lkp es (ecodeI k al an bl bn)).isSome = true ∧ e = .returned .nilIface ∧ BookAt w' b mn me ns (butK (ecodeI k al an bl bn) es) cn (upd ce k (ce k - 1)) ∧ Two b me w w')
      ∨ (lkp es (ecodeI k al an bl bn) = none ∧ e = .returned (.iface t3 v3) ∧ Below w.heap.size w w') := by
  have hl := cell_lt h.n0
  have hme := h.em.lt
  have bb : Below w.heap.size w (w.alloc (Obj.cells #[Value.int IntKind.i64 ↑k, Value.int IntKind.i64 al, Value.int IntKind.i64 an, Value.int IntKind.i64 bl, Value.int IntKind.i64 bn] 30)) := (Below.refl _ _).alloc (Nat.le_refl _) _
  have l3 := cell_lt g3
  go_enter Tryz.func135, Tryz.ntmps135
  go_wp2_with fail
  refine (hasEdge b me k al an bl bn es _ (h.keep bb).e0 (by simp; omega) (h.keep bb).em hu).mono ?_
  rintro e w3 ⟨rfl, bel⟩
  have B1 : Below w.heap.size w w3 := bb.trans (bel.mono (by simp))
  have s1 : w.heap.size < w3.heap.size := by have := bel.size; simp at this; omega
  have a0 : w3.cell? ⟨w.heap.size, 0, none⟩ = some (.int .i64 k) := by rw [Below.celz bel _ _ _ (by simp)]; simp [go_sem]
  have a1 : w3.cell? ⟨w.heap.size, 1, none⟩ = some (.int .i64 al) := by rw [Below.celz bel _ _ _ (by simp)]; simp [go_sem]
  have a2 : w3.cell? ⟨w.heap.size, 2, none⟩ = some (.int .i64 an) := by rw [Below.celz bel _ _ _ (by simp)]; simp [go_sem]
  have a3 : w3.cell? ⟨w.heap.size, 3, none⟩ = some (.int .i64 bl) := by rw [Below.celz bel _ _ _ (by simp)]; simp [go_sem]
  have a4 : w3.cell? ⟨w.heap.size, 4, none⟩ = some (.int .i64 bn) := by rw [Below.celz bel _ _ _ (by simp)]; simp [go_sem]
  have H1 : Hid (BookAt w3 b mn me ns es cn ce) := h.keep B1
  have p1 := H1.out.e0
  have nb := H1.out.ne2
  have e3 : w3.cell? ⟨2, 0, none⟩ = some (.iface t3 v3) := (Below.celz B1 _ _ _ l3).trans g3
  have HB1 : Hid (Below w.heap.size w w3) := B1
  have i0 : (0 : Int) ≤ k := by omega
  have i1 : (k : Int) < 8 := by omega
  clear bel bb g3 h B1
  cases hn : lkp es (ecodeI k al an bl bn) with
  | none =>
    have HN : Hid (lkp es (ecodeI k al an bl bn) = none) := hn
    clear hn
    simp only [Option.isSome_none]
    go_wp2_with fail
    go_ret
    exact .inr ⟨HN.out, rfl, HB1.out⟩
  | some v =>
    have HN : Hid (lkp es (ecodeI k al an bl bn) = some v) := hn
    clear hn
    simp only [Option.isSome_some]
    go_wp2_with fail
    have hS : Hid (∀ w' : World, (∀ o s, w'.cell? ⟨b, o, s⟩ = w3.cell? ⟨b, o, s⟩) → (∀ o s, w'.cell? ⟨w.heap.size, o, s⟩ = w3.cell? ⟨w.heap.size, o, s⟩) → w'.cell? ⟨b, 1, none⟩ = some (.map (some me)) ∧ w'.cell? ⟨w.heap.size, 0, none⟩ = some (.int .i64 k) ∧ w'.cell? ⟨w.heap.size, 1, none⟩ = some (.int .i64 al) ∧ w'.cell? ⟨w.heap.size, 2, none⟩ = some (.int .i64 an) ∧ w'.cell? ⟨w.heap.size, 3, none⟩ = some (.int .i64 bl) ∧ w'.cell? ⟨w.heap.size, 4, none⟩ = some (.int .i64 bn)) :=
      fun w' x y => ⟨(x _ _).trans p1, (y _ _).trans a0, (y _ _).trans a1, (y _ _).trans a2, (y _ _).trans a3, (y _ _).trans a4⟩
    go_region_held3 (fun w' => w'.cell? ⟨b, 1, none⟩ = some (.map (some me)) ∧ w'.cell? ⟨w.heap.size, 0, none⟩ = some (.int .i64 k) ∧ w'.cell? ⟨w.heap.size, 1, none⟩ = some (.int .i64 al) ∧ w'.cell? ⟨w.heap.size, 2, none⟩ = some (.int .i64 an) ∧ w'.cell? ⟨w.heap.size, 3, none⟩ = some (.int .i64 bl) ∧ w'.cell? ⟨w.heap.size, 4, none⟩ = some (.int .i64 bn))
      (first | exact ⟨p1, a0, a1, a2, a3, a4⟩ | assumption | with_reducible exact hS.out _ (fun _ _ => Below.celz B3 _ _ _ (by omega)) (fun _ _ => Below.celz B3 _ _ _ (by omega)) | with_reducible exact hS.out _ (fun _ _ => (T4.cell _ _ _ (by omega) (by assumption)).trans (Below.celz B3 _ _ _ (by omega))) (fun _ _ => (T4.cell _ _ _ (by omega) (by omega)).trans (Below.celz B3 _ _ _ (by omega))))
      (first | (go_at_call_of 53 (Value.agg #[.int .i64 k, .int .i64 al, .int .i64 an, .int .i64 bl, .int .i64 bn]); refine (impl_edgeCode k al an bl bn _).mono ?_; rintro e wx ⟨rfl, be1⟩; have B3 : Below w3.heap.size w3 wx := keep_below (Below.refl _ _).drew be1; have s3 := B3.size; obtain ⟨w4, q1, q2, q3, q4⟩ := ((H1.out.keep B3).em).drop (t2 := 3) und_me und_int (ecodeI k al an bl bn); have T4 := One.ofGrown q3))
    all_goals (
      rename_i hHeld
      have H4 := (H1.out.keep B3).eput q2 T4
      have c4 := H4.ec k hk
      have f4 := H4.fr (10 + k)
      have b4 := hHeld.2.1
      have U := Two.put (o := 10 + k) (u := .int .i64 (ce k - 1)) (keep_below HB1.out B3) T4 hl
      have V := H4.eset hk (ce k - 1)
      have HH : Hid (BookAt (w4.setCell ⟨b, 10 + k, none⟩ (.int .i64 (ce k - 1))).drew b mn me ns (butK (ecodeI k al an bl bn) es) cn (upd ce k (ce k - 1)) ∧ Two b me w (w4.setCell ⟨b, 10 + k, none⟩ (.int .i64 (ce k - 1))).drew) := ⟨V.drew, U⟩
      clear H4 U V q2 q3 q4 T4 be1 B3 hHeld q1 hS a1 a2 a3 a4 p1
      go_wp2_with fail
      go_region
      go_wp2_with fail
      go_ret
      exact .inl ⟨by rw [HN.out]; rfl, rfl, HH.out.1, HH.out.2⟩)
end Go.Proofs.YtkhfbaggkmeahabGreatDoor.Lab

/-
  toEv of the laws. (Written by tools/mktoev.py.)
-/
import Derived.Test.YtchphdhjbjeplaaDoorOpl
import Derived.Test.YtchphdhjbjeplaaDoorQok
import Derived.Test.YtchphdhjbjeplaaDoorGrw
namespace Go.Proofs.YtchphdhjbjeplaaDoor.Lab
open Go.RowKit
set_option linter.unusedVariables false
set_option maxRecDepth 8000 in
set_option maxHeartbeats 8000000 in
theorem toEv (k who ok nl nn el al an bl bn qk ql qn : Int) (w : World) :
    Calls Tryd.prog 19 #[.agg #[.int .i64 k, .int .i64 who, .int .i64 ok, .int .i64 nl, .int .i64 nn, .int .i64 el, .int .i64 al, .int .i64 an, .int .i64 bl, .int .i64 bn, .int .i64 qk, .int .i64 ql, .int .i64 qn]] w fun e w' => e = .returned (.agg #[.int .i64 k, .int .i64 who, .int .i64 ok, .int .i64 nl, .int .i64 nn, .int .i64 el, .int .i64 al, .int .i64 an, .int .i64 bl, .int .i64 bn, .int .i64 qk, .int .i64 ql, .int .i64 qn]) ∧ Below w.heap.size w w' := by
  go_enter Tryd.func19, Tryd.ntmps19
  go_wp2_with fail
  obtain ⟨B, hB⟩ : ∃ t, t = w.heap.size := ⟨_, rfl⟩
  obtain ⟨B1, hB1⟩ : ∃ t, t = B + 1 := ⟨_, rfl⟩
  obtain ⟨B2, hB2⟩ : ∃ t, t = B1 + 1 := ⟨_, rfl⟩
  generalize hW : ((w.alloc (.cells #[.int .i64 k, .int .i64 who, .int .i64 ok, .int .i64 nl, .int .i64 nn, .int .i64 el, .int .i64 al, .int .i64 an, .int .i64 bl, .int .i64 bn, .int .i64 qk, .int .i64 ql, .int .i64 qn] 62)).alloc (.cells #[.int .i64 0, .int .i64 0, .int .i64 0, .int .i64 0, .int .i64 0, .int .i64 0, .int .i64 0, .int .i64 0, .int .i64 0, .int .i64 0, .int .i64 0, .int .i64 0, .int .i64 0] 46)).alloc (.cells #[.int .i64 k, .int .i64 who, .int .i64 0, .int .i64 0, .int .i64 0, .int .i64 0, .int .i64 0, .int .i64 0, .int .i64 0, .int .i64 0, .int .i64 0, .int .i64 0, .int .i64 0] 46) = s0
  have BB : Below w.heap.size w s0 := by rw [← hW]; go_grown
  have K0 : s0.heap[B]? = some (.cells #[.int .i64 k, .int .i64 who, .int .i64 ok, .int .i64 nl, .int .i64 nn, .int .i64 el, .int .i64 al, .int .i64 an, .int .i64 bl, .int .i64 bn, .int .i64 qk, .int .i64 ql, .int .i64 qn] 62 (0, 0)) := by
    have h1 := new_block w (.cells #[.int .i64 k, .int .i64 who, .int .i64 ok, .int .i64 nl, .int .i64 nn, .int .i64 el, .int .i64 al, .int .i64 an, .int .i64 bl, .int .i64 bn, .int .i64 qk, .int .i64 ql, .int .i64 qn] 62)
    have h2 : Below (w.heap.size + 1) (w.alloc (.cells #[.int .i64 k, .int .i64 who, .int .i64 ok, .int .i64 nl, .int .i64 nn, .int .i64 el, .int .i64 al, .int .i64 an, .int .i64 bl, .int .i64 bn, .int .i64 qk, .int .i64 ql, .int .i64 qn] 62)) (((w.alloc (.cells #[.int .i64 k, .int .i64 who, .int .i64 ok, .int .i64 nl, .int .i64 nn, .int .i64 el, .int .i64 al, .int .i64 an, .int .i64 bl, .int .i64 bn, .int .i64 qk, .int .i64 ql, .int .i64 qn] 62)).alloc (.cells #[.int .i64 0, .int .i64 0, .int .i64 0, .int .i64 0, .int .i64 0, .int .i64 0, .int .i64 0, .int .i64 0, .int .i64 0, .int .i64 0, .int .i64 0, .int .i64 0, .int .i64 0] 46)).alloc (.cells #[.int .i64 k, .int .i64 who, .int .i64 0, .int .i64 0, .int .i64 0, .int .i64 0, .int .i64 0, .int .i64 0, .int .i64 0, .int .i64 0, .int .i64 0, .int .i64 0, .int .i64 0] 46)) := ((Below.refl _ _).alloc (by simp) _).alloc (by simp) _
    rw [← hW, hB, h2.block _ (by omega)]; exact h1
  have K1 : s0.heap[B1]? = some (.cells #[.int .i64 0, .int .i64 0, .int .i64 0, .int .i64 0, .int .i64 0, .int .i64 0, .int .i64 0, .int .i64 0, .int .i64 0, .int .i64 0, .int .i64 0, .int .i64 0, .int .i64 0] 46 (0, 0)) := by
    have h1 := new_block (w.alloc (.cells #[.int .i64 k, .int .i64 who, .int .i64 ok, .int .i64 nl, .int .i64 nn, .int .i64 el, .int .i64 al, .int .i64 an, .int .i64 bl, .int .i64 bn, .int .i64 qk, .int .i64 ql, .int .i64 qn] 62)) (.cells #[.int .i64 0, .int .i64 0, .int .i64 0, .int .i64 0, .int .i64 0, .int .i64 0, .int .i64 0, .int .i64 0, .int .i64 0, .int .i64 0, .int .i64 0, .int .i64 0, .int .i64 0] 46)
    rw [← hW, hB1, hB]
    have h2 : Below (w.heap.size + 2) ((w.alloc (.cells #[.int .i64 k, .int .i64 who, .int .i64 ok, .int .i64 nl, .int .i64 nn, .int .i64 el, .int .i64 al, .int .i64 an, .int .i64 bl, .int .i64 bn, .int .i64 qk, .int .i64 ql, .int .i64 qn] 62)).alloc (.cells #[.int .i64 0, .int .i64 0, .int .i64 0, .int .i64 0, .int .i64 0, .int .i64 0, .int .i64 0, .int .i64 0, .int .i64 0, .int .i64 0, .int .i64 0, .int .i64 0, .int .i64 0] 46)) (((w.alloc (.cells #[.int .i64 k, .int .i64 who, .int .i64 ok, .int .i64 nl, .int .i64 nn, .int .i64 el, .int .i64 al, .int .i64 an, .int .i64 bl, .int .i64 bn, .int .i64 qk, .int .i64 ql, .int .i64 qn] 62)).alloc (.cells #[.int .i64 0, .int .i64 0, .int .i64 0, .int .i64 0, .int .i64 0, .int .i64 0, .int .i64 0, .int .i64 0, .int .i64 0, .int .i64 0, .int .i64 0, .int .i64 0, .int .i64 0] 46)).alloc (.cells #[.int .i64 k, .int .i64 who, .int .i64 0, .int .i64 0, .int .i64 0, .int .i64 0, .int .i64 0, .int .i64 0, .int .i64 0, .int .i64 0, .int .i64 0, .int .i64 0, .int .i64 0] 46)) := (Below.refl _ _).alloc (by simp) _
    rw [h2.block _ (by omega)]
    simpa using h1
  have K2 : s0.heap[B2]? = some (.cells #[.int .i64 k, .int .i64 who, .int .i64 0, .int .i64 0, .int .i64 0, .int .i64 0, .int .i64 0, .int .i64 0, .int .i64 0, .int .i64 0, .int .i64 0, .int .i64 0, .int .i64 0] 46 (0, 0)) := by
    have h1 := new_block ((w.alloc (.cells #[.int .i64 k, .int .i64 who, .int .i64 ok, .int .i64 nl, .int .i64 nn, .int .i64 el, .int .i64 al, .int .i64 an, .int .i64 bl, .int .i64 bn, .int .i64 qk, .int .i64 ql, .int .i64 qn] 62)).alloc (.cells #[.int .i64 0, .int .i64 0, .int .i64 0, .int .i64 0, .int .i64 0, .int .i64 0, .int .i64 0, .int .i64 0, .int .i64 0, .int .i64 0, .int .i64 0, .int .i64 0, .int .i64 0] 46)) (.cells #[.int .i64 k, .int .i64 who, .int .i64 0, .int .i64 0, .int .i64 0, .int .i64 0, .int .i64 0, .int .i64 0, .int .i64 0, .int .i64 0, .int .i64 0, .int .i64 0, .int .i64 0] 46)
    rw [← hW, hB2, hB1, hB]
    simpa using h1
  have l0 : w.heap.size ≤ B := by omega
  have l1 : B < B1 := by omega
  have l2 : B1 < B2 := by omega
  rw [← hB, ← hB1, ← hB2]
  clear hW hB hB1 hB2
  refine (toOp ok nl nn el al an bl bn _).mono ?_
  rintro e s1 ⟨rfl, bz⟩
  have j0 := (bz.block _ (lt_of_block K0)).trans K0
  have j1 := (bz.block _ (lt_of_block K1)).trans K1
  have j2 := (bz.block _ (lt_of_block K2)).trans K2
  have jb := BB.trans (bz.mono BB.size)
  clear K0 K1 K2 BB bz
  have K0 := j0
  have K1 := j1
  have K2 := j2
  have BB := jb
  clear j0 j1 j2 jb
  have a10' : s1.cell? ⟨B, 10, none⟩ = some (.int .i64 qk) := by rw [cell_block K0]; rfl
  have a11' : s1.cell? ⟨B, 11, none⟩ = some (.int .i64 ql) := by rw [cell_block K0]; rfl
  have a12' : s1.cell? ⟨B, 12, none⟩ = some (.int .i64 qn) := by rw [cell_block K0]; rfl
  have c2' : s1.cell? ⟨B2, 2, none⟩ = some (.int .i64 0) := by rw [cell_block K2]; rfl
  have c3' : s1.cell? ⟨B2, 3, none⟩ = some (.int .i64 0) := by rw [cell_block K2]; rfl
  have c4' : s1.cell? ⟨B2, 4, none⟩ = some (.int .i64 0) := by rw [cell_block K2]; rfl
  have c5' : s1.cell? ⟨B2, 5, none⟩ = some (.int .i64 0) := by rw [cell_block K2]; rfl
  have c6' : s1.cell? ⟨B2, 6, none⟩ = some (.int .i64 0) := by rw [cell_block K2]; rfl
  have c7' : s1.cell? ⟨B2, 7, none⟩ = some (.int .i64 0) := by rw [cell_block K2]; rfl
  have c8' : s1.cell? ⟨B2, 8, none⟩ = some (.int .i64 0) := by rw [cell_block K2]; rfl
  have c9' : s1.cell? ⟨B2, 9, none⟩ = some (.int .i64 0) := by rw [cell_block K2]; rfl
  have cf : ∀ i, s1.frozen? ⟨B2, i, none⟩ = false := fun i => free_block K2
  have HK : Hid (s1.heap[B1]? = some (.cells #[.int .i64 0, .int .i64 0, .int .i64 0, .int .i64 0, .int .i64 0, .int .i64 0, .int .i64 0, .int .i64 0, .int .i64 0, .int .i64 0, .int .i64 0, .int .i64 0, .int .i64 0] 46 (0, 0)) ∧ s1.heap[B2]? = some (.cells #[.int .i64 k, .int .i64 who, .int .i64 0, .int .i64 0, .int .i64 0, .int .i64 0, .int .i64 0, .int .i64 0, .int .i64 0, .int .i64 0, .int .i64 0, .int .i64 0, .int .i64 0] 46 (0, 0)) ∧ Below w.heap.size w s1) := ⟨K1, K2, BB⟩
  have z2 : B2 < s1.heap.size := lt_of_block K2
  have z0 : B < s1.heap.size := lt_of_block K0
  have n1 : ¬ B2 = B := by omega
  have n2 : ¬ B = B2 := by omega
  clear K0 K1 K2 BB
  go_wp2_with fail
  generalize hW : (((((((s1.setCell ⟨B2, 2, none⟩ (.int .i64 ok)).setCell ⟨B2, 3, none⟩ (.int .i64 nl)).setCell ⟨B2, 4, none⟩ (.int .i64 nn)).setCell ⟨B2, 5, none⟩ (.int .i64 el)).setCell ⟨B2, 6, none⟩ (.int .i64 al)).setCell ⟨B2, 7, none⟩ (.int .i64 an)).setCell ⟨B2, 8, none⟩ (.int .i64 bl)).setCell ⟨B2, 9, none⟩ (.int .i64 bn) = s2
  have K2 : s2.heap[B2]? = some (.cells #[.int .i64 k, .int .i64 who, .int .i64 ok, .int .i64 nl, .int .i64 nn, .int .i64 el, .int .i64 al, .int .i64 an, .int .i64 bl, .int .i64 bn, .int .i64 0, .int .i64 0, .int .i64 0] 46 (0, 0)) := by rw [← hW]; exact (set_block _ (set_block _ (set_block _ (set_block _ (set_block _ (set_block _ (set_block _ (set_block _ HK.out.2.1))))))))
  have lw : Below B2 s1 s2 := by rw [← hW]; exact (Below.setCell (p := ⟨B2, 9, none⟩) (Below.setCell (p := ⟨B2, 8, none⟩) (Below.setCell (p := ⟨B2, 7, none⟩) (Below.setCell (p := ⟨B2, 6, none⟩) (Below.setCell (p := ⟨B2, 5, none⟩) (Below.setCell (p := ⟨B2, 4, none⟩) (Below.setCell (p := ⟨B2, 3, none⟩) (Below.setCell (p := ⟨B2, 2, none⟩) (Below.refl _ _) (Nat.le_refl B2) _) (Nat.le_refl B2) _) (Nat.le_refl B2) _) (Nat.le_refl B2) _) (Nat.le_refl B2) _) (Nat.le_refl B2) _) (Nat.le_refl B2) _) (Nat.le_refl B2) _)
  have K1 : s2.heap[B1]? = some (.cells #[.int .i64 0, .int .i64 0, .int .i64 0, .int .i64 0, .int .i64 0, .int .i64 0, .int .i64 0, .int .i64 0, .int .i64 0, .int .i64 0, .int .i64 0, .int .i64 0, .int .i64 0] 46 (0, 0)) := (lw.block _ l2).trans HK.out.1
  have BB : Below w.heap.size w s2 := by rw [← hW]; exact (Below.setCell (p := ⟨B2, 9, none⟩) (Below.setCell (p := ⟨B2, 8, none⟩) (Below.setCell (p := ⟨B2, 7, none⟩) (Below.setCell (p := ⟨B2, 6, none⟩) (Below.setCell (p := ⟨B2, 5, none⟩) (Below.setCell (p := ⟨B2, 4, none⟩) (Below.setCell (p := ⟨B2, 3, none⟩) (Below.setCell (p := ⟨B2, 2, none⟩) HK.out.2.2 (Nat.le_trans l0 (Nat.le_of_lt (Nat.lt_trans l1 l2))) _) (Nat.le_trans l0 (Nat.le_of_lt (Nat.lt_trans l1 l2))) _) (Nat.le_trans l0 (Nat.le_of_lt (Nat.lt_trans l1 l2))) _) (Nat.le_trans l0 (Nat.le_of_lt (Nat.lt_trans l1 l2))) _) (Nat.le_trans l0 (Nat.le_of_lt (Nat.lt_trans l1 l2))) _) (Nat.le_trans l0 (Nat.le_of_lt (Nat.lt_trans l1 l2))) _) (Nat.le_trans l0 (Nat.le_of_lt (Nat.lt_trans l1 l2))) _) (Nat.le_trans l0 (Nat.le_of_lt (Nat.lt_trans l1 l2))) _)
  clear hW lw HK c2' c3' c4' c5' c6' c7' c8' c9' cf a10' a11' a12' z2 z0
  refine (toQuery qk ql qn _).mono ?_
  rintro e s3 ⟨rfl, bz⟩
  have j1 := (bz.block _ (lt_of_block K1)).trans K1
  have j2 := (bz.block _ (lt_of_block K2)).trans K2
  have jb := BB.trans (bz.mono BB.size)
  clear K1 K2 BB bz
  have c0' : s3.cell? ⟨B2, 0, none⟩ = some (.int .i64 k) := by rw [cell_block j2]; rfl
  have b0' : s3.cell? ⟨B1, 0, none⟩ = some (.int .i64 0) := by rw [cell_block j1]; rfl
  have c1' : s3.cell? ⟨B2, 1, none⟩ = some (.int .i64 who) := by rw [cell_block j2]; rfl
  have b1' : s3.cell? ⟨B1, 1, none⟩ = some (.int .i64 0) := by rw [cell_block j1]; rfl
  have c2' : s3.cell? ⟨B2, 2, none⟩ = some (.int .i64 ok) := by rw [cell_block j2]; rfl
  have b2' : s3.cell? ⟨B1, 2, none⟩ = some (.int .i64 0) := by rw [cell_block j1]; rfl
  have c3' : s3.cell? ⟨B2, 3, none⟩ = some (.int .i64 nl) := by rw [cell_block j2]; rfl
  have b3' : s3.cell? ⟨B1, 3, none⟩ = some (.int .i64 0) := by rw [cell_block j1]; rfl
  have c4' : s3.cell? ⟨B2, 4, none⟩ = some (.int .i64 nn) := by rw [cell_block j2]; rfl
  have b4' : s3.cell? ⟨B1, 4, none⟩ = some (.int .i64 0) := by rw [cell_block j1]; rfl
  have c5' : s3.cell? ⟨B2, 5, none⟩ = some (.int .i64 el) := by rw [cell_block j2]; rfl
  have b5' : s3.cell? ⟨B1, 5, none⟩ = some (.int .i64 0) := by rw [cell_block j1]; rfl
  have c6' : s3.cell? ⟨B2, 6, none⟩ = some (.int .i64 al) := by rw [cell_block j2]; rfl
  have b6' : s3.cell? ⟨B1, 6, none⟩ = some (.int .i64 0) := by rw [cell_block j1]; rfl
  have c7' : s3.cell? ⟨B2, 7, none⟩ = some (.int .i64 an) := by rw [cell_block j2]; rfl
  have b7' : s3.cell? ⟨B1, 7, none⟩ = some (.int .i64 0) := by rw [cell_block j1]; rfl
  have c8' : s3.cell? ⟨B2, 8, none⟩ = some (.int .i64 bl) := by rw [cell_block j2]; rfl
  have b8' : s3.cell? ⟨B1, 8, none⟩ = some (.int .i64 0) := by rw [cell_block j1]; rfl
  have c9' : s3.cell? ⟨B2, 9, none⟩ = some (.int .i64 bn) := by rw [cell_block j2]; rfl
  have b9' : s3.cell? ⟨B1, 9, none⟩ = some (.int .i64 0) := by rw [cell_block j1]; rfl
  have c10' : s3.cell? ⟨B2, 10, none⟩ = some (.int .i64 0) := by rw [cell_block j2]; rfl
  have b10' : s3.cell? ⟨B1, 10, none⟩ = some (.int .i64 0) := by rw [cell_block j1]; rfl
  have c11' : s3.cell? ⟨B2, 11, none⟩ = some (.int .i64 0) := by rw [cell_block j2]; rfl
  have b11' : s3.cell? ⟨B1, 11, none⟩ = some (.int .i64 0) := by rw [cell_block j1]; rfl
  have c12' : s3.cell? ⟨B2, 12, none⟩ = some (.int .i64 0) := by rw [cell_block j2]; rfl
  have b12' : s3.cell? ⟨B1, 12, none⟩ = some (.int .i64 0) := by rw [cell_block j1]; rfl
  have cf : ∀ i, s3.frozen? ⟨B2, i, none⟩ = false := fun i => free_block j2
  have bf : ∀ i, s3.frozen? ⟨B1, i, none⟩ = false := fun i => free_block j1
  have z1 : B1 < s3.heap.size := lt_of_block j1
  have z2 : B2 < s3.heap.size := lt_of_block j2
  have n3 : ¬ B2 = B1 := by omega
  have n4 : ¬ B1 = B2 := by omega
  have HB : Hid (Below w.heap.size w s3) := jb
  clear j1 j2 jb n1 n2
  go_wp2_with fail
  refine bodyPost_ret (v := .agg #[.int .i64 k, .int .i64 who, .int .i64 ok, .int .i64 nl, .int .i64 nn, .int .i64 el, .int .i64 al, .int .i64 an, .int .i64 bl, .int .i64 bn, .int .i64 qk, .int .i64 ql, .int .i64 qn]) (by simp [*, results, Tryd.results19, go_sem]) rfl ⟨rfl, ?_⟩
  exact (Below.setCell (p := ⟨B1, 12, none⟩) (Below.setCell (p := ⟨B1, 11, none⟩) (Below.setCell (p := ⟨B1, 10, none⟩) (Below.setCell (p := ⟨B1, 9, none⟩) (Below.setCell (p := ⟨B1, 8, none⟩) (Below.setCell (p := ⟨B1, 7, none⟩) (Below.setCell (p := ⟨B1, 6, none⟩) (Below.setCell (p := ⟨B1, 5, none⟩) (Below.setCell (p := ⟨B1, 4, none⟩) (Below.setCell (p := ⟨B1, 3, none⟩) (Below.setCell (p := ⟨B1, 2, none⟩) (Below.setCell (p := ⟨B1, 1, none⟩) (Below.setCell (p := ⟨B1, 0, none⟩) (Below.setCell (p := ⟨B2, 12, none⟩) (Below.setCell (p := ⟨B2, 11, none⟩) (Below.setCell (p := ⟨B2, 10, none⟩) HB.out (Nat.le_trans l0 (Nat.le_of_lt (Nat.lt_trans l1 l2))) _) (Nat.le_trans l0 (Nat.le_of_lt (Nat.lt_trans l1 l2))) _) (Nat.le_trans l0 (Nat.le_of_lt (Nat.lt_trans l1 l2))) _) (Nat.le_trans l0 (Nat.le_of_lt l1)) _) (Nat.le_trans l0 (Nat.le_of_lt l1)) _) (Nat.le_trans l0 (Nat.le_of_lt l1)) _) (Nat.le_trans l0 (Nat.le_of_lt l1)) _) (Nat.le_trans l0 (Nat.le_of_lt l1)) _) (Nat.le_trans l0 (Nat.le_of_lt l1)) _) (Nat.le_trans l0 (Nat.le_of_lt l1)) _) (Nat.le_trans l0 (Nat.le_of_lt l1)) _) (Nat.le_trans l0 (Nat.le_of_lt l1)) _) (Nat.le_trans l0 (Nat.le_of_lt l1)) _) (Nat.le_trans l0 (Nat.le_of_lt l1)) _) (Nat.le_trans l0 (Nat.le_of_lt l1)) _) (Nat.le_trans l0 (Nat.le_of_lt l1)) _)
end Go.Proofs.YtchphdhjbjeplaaDoor.Lab

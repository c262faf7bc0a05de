/-
  impl.PoolOk, PoolUse, PoolAll, over a pool taken in hand.
-/
import Derived.Test.YtlfgcchnboaflaaDoorHnd
import Derived.Test.YtlfgcchnboaflaaDoorPlo
namespace Go.Proofs.YtlfgcchnboaflaaDoor.Lab
open Go.RowKit Go.ChangeMaps
set_option linter.unusedVariables false
set_option maxHeartbeats 1000000 in
theorem impl_PoolOk (z : Int) (v : Value) (xs : List (Int × Int)) (w : World) (h : RowAt 2 encPage w v xs) (hl : xs.length ≤ 1048576) (hf : FormAt w) :
    Calls Tryd.prog 13 #[.agg #[.int .i64 z, v]] w fun e w' => e = .returned (.bool (poolB z xs)) ∧ Below w.heap.size w w' := by
  have b0 : ∀ o, Below w.heap.size w (w.alloc o) := fun o => (Below.refl _ _).alloc (Nat.le_refl _) _
  have H : Hid (∀ o, RowAt 2 encPage (w.alloc o) v xs ∧ FormAt (w.alloc o)) := fun o => ⟨h.keep (b0 o), hf.keep (b0 o)⟩
  clear h hf
  go_enter Tryd.func13, Tryd.ntmps13
  go_wp2_with fail
  refine (handOf z v xs _ (H.out _).1 hl (H.out _).2).mono ?_
  rintro e w1 (⟨hp, S, zn, hz, rfl, sh, b1⟩ | ⟨hp, t, u, rfl, b1⟩)
  · have R : Hid (Below w.heap.size w w1 ∧ poolB z xs = true) := ⟨(b0 _).trans (b1.mono (by simp)), hp⟩
    clear sh b1 hp H b0
    go_wp2_with fail
    go_ret
    exact ⟨by rw [R.out.2]; rfl, R.out.1⟩
  · have R : Hid (Below w.heap.size w w1 ∧ poolB z xs = false) := ⟨(b0 _).trans (b1.mono (by simp)), hp⟩
    clear b1 hp H b0
    go_wp2_with fail
    go_ret
    exact ⟨by rw [R.out.2]; rfl, R.out.1⟩
theorem new_ati {w : World} {o : Obj} {S : Nat} (h : S = w.heap.size) : (w.alloc o).heap[S]? = some o := by subst h; exact new_block w o
theorem usePg (base S z : Nat) (m : Int) (xs : List (Int × Int)) (l n : Int) (w : World) (h : ShelfAt w base S z m xs) (hz : z ≤ 1000) (hl : xs.length ≤ z) :
    Calls Tryd.prog 28 #[.pointer (some ⟨S, 0, none⟩), .agg #[.int .i64 l, .int .i64 n]] w fun e w' => e = .returned (.bool (decide ((l, n) ∈ xs))) ∧ ShelfAt w' base S z m (useL z xs (l, n)) ∧ Below base w w' ∧ Fr S w w' := by
  by_cases hx : (l, n) ∈ xs
  · rw [decide_eq_true hx]; exact use_hit base S z m xs l n w h hx hz hl
  · rw [decide_eq_false hx]; exact use_miss base S z m xs l n w h hx hz hl
set_option maxHeartbeats 2000000 in
theorem impl_PoolUse (z : Int) (v : Value) (xs : List (Int × Int)) (x0 x1 : Int) (w : World) (h : RowAt 2 encPage w v xs) (hl : xs.length ≤ 1048576) (hf : FormAt w) :
    Calls Tryd.prog 10 #[.agg #[.int .i64 z, v], .agg #[.int .i64 x0, .int .i64 x1]] w fun e w' => ∃ u, e = .returned (.tuple #[.agg #[.int .i64 (puZ z xs (x0, x1)), u], .bool (puH z xs (x0, x1))]) ∧ OwnPool w' w.heap.size u (puL z xs (x0, x1)) ∧ Below w.heap.size w w' := by
  obtain ⟨a, cap, rfl⟩ := h.len
  obtain ⟨W0, hW0⟩ : ∃ W0, W0 = (((w.alloc (.cells #[.int .i64 z, .slice a xs.length cap] 25)).alloc (.cells #[.int .i64 x0, .int .i64 x1] 27)).alloc (.cells #[.int .i64 0, .slice none 0 0] 25)) := ⟨_, rfl⟩
  have b0 : Below w.heap.size w W0 := by rw [hW0]; go_grown
  have s0 : W0.heap.size = w.heap.size + 3 := by rw [hW0]; simp
  have p2 : W0.cell? ⟨w.heap.size + 1, 0, none⟩ = some (.int .i64 x0) := by rw [hW0]; simp [go_sem]
  have p3 : W0.cell? ⟨w.heap.size + 1, 1, none⟩ = some (.int .i64 x1) := by rw [hW0]; simp [go_sem]
  have hur : W0.heap[w.heap.size + 1 + 1]? = some (.cells #[.int .i64 0, .slice none 0 0] 25 (0, 0)) := by rw [hW0]; exact new_ati (by simp)
  have HRC : Hid (RowAt 2 encPage w (.slice a xs.length cap) xs ∧ FormAt w) := ⟨h, hf⟩
  clear h hf
  go_enter Tryd.func10, Tryd.ntmps10
  go_wp2_with fail
  simp only [← hW0]
  clear hW0
  refine (handOf z _ xs _ (HRC.out.1.keep b0) hl (HRC.out.2.keep b0)).mono ?_
  rintro e w1 (⟨hp, S, zn, rfl, rfl, sh, bel1⟩ | ⟨hp, t, u, rfl, bel1⟩)
  rotate_left
  · have s1 := bel1.size
    have hur1 : w1.heap[w.heap.size + 1 + 1]? = some (.cells #[.int .i64 0, .slice none 0 0] 25 (0, 0)) := by rw [bel1.block _ (by omega)]; exact hur
    have HP : Hid (puZ z xs (x0, x1) = 0 ∧ puH z xs (x0, x1) = false ∧ puL z xs (x0, x1) = []) := by simp [puZ, puH, puL, puOk, hp, Hid]
    have u0 : w1.cell? ⟨w.heap.size + 1 + 1, 0, none⟩ = some (.int .i64 0) := by rw [cell_block hur1]; rfl
    have u1 : w1.cell? ⟨w.heap.size + 1 + 1, 1, none⟩ = some (.slice none 0 0) := by rw [cell_block hur1]; rfl
    have fu : ∀ i, w1.frozen? ⟨w.heap.size + 1 + 1, i, none⟩ = false := fun i => free_block hur1
    have q2 : w1.cell? ⟨w.heap.size + 1, 0, none⟩ = some (.int .i64 x0) := (Below.celz bel1 _ _ _ (by omega)).trans p2
    have q3 : w1.cell? ⟨w.heap.size + 1, 1, none⟩ = some (.int .i64 x1) := (Below.celz bel1 _ _ _ (by omega)).trans p3
    have HB : Hid (Below w.heap.size w w1) := b0.trans (bel1.mono (by omega))
    clear hur1 hp bel1 b0 p2 p3 hur
    go_wp2_with fail
    refine bodyPost_ret (v := .tuple #[.agg #[.int .i64 0, .slice none 0 0], .bool false]) (by simp [*, results, Tryd.results10, go_sem]) rfl ?_
    refine ⟨_, by rw [HP.out.1, HP.out.2.1], ?_, by first | exact (HB.out.setCell (by simp; omega) _).setCell (by simp; omega) _ | exact HB.out⟩
    rw [HP.out.2.2]
    exact World.ownsRow_nil _ _ _ _
  have s1 := bel1.size
  have q2 : w1.cell? ⟨w.heap.size + 1, 0, none⟩ = some (.int .i64 x0) := (Below.celz bel1 _ _ _ (by omega)).trans p2
  have q3 : w1.cell? ⟨w.heap.size + 1, 1, none⟩ = some (.int .i64 x1) := (Below.celz bel1 _ _ _ (by omega)).trans p3
  have hur1 : w1.heap[w.heap.size + 1 + 1]? = some (.cells #[.int .i64 0, .slice none 0 0] 25 (0, 0)) := by rw [bel1.block _ (by omega)]; exact hur
  have HB1 : Hid (Below w.heap.size w w1 ∧ ShelfAt w1 (w.heap.size + 3) S zn 0 xs) := ⟨b0.trans (bel1.mono (by omega)), by rw [s0] at sh; exact sh⟩
  have hs1 : w.heap.size + 3 ≤ w1.heap.size := by omega
  have hSb : w.heap.size + 3 ≤ S := by obtain ⟨_, _, _, _, _, _, _, _, h2, _⟩ := HB1.out.2; exact h2
  clear bel1 b0 p2 p3 hur s1 s0 sh HRC
  go_wp2_with fail
  refine (impl_PageOk x0 x1 _).mono ?_
  rintro e w2 ⟨rfl, bel2⟩
  have s2 := bel2.size
  have r2 : w2.cell? ⟨w.heap.size + 1, 0, none⟩ = some (.int .i64 x0) := (Below.celz bel2 _ _ _ (by omega)).trans q2
  have r3 : w2.cell? ⟨w.heap.size + 1, 1, none⟩ = some (.int .i64 x1) := (Below.celz bel2 _ _ _ (by omega)).trans q3
  have hur2 : w2.heap[w.heap.size + 1 + 1]? = some (.cells #[.int .i64 0, .slice none 0 0] 25 (0, 0)) := by rw [bel2.block _ (by omega)]; exact hur1
  have HB : Hid (Below w.heap.size w w2) := HB1.out.1.trans (bel2.mono HB1.out.1.size)
  have HSH : Hid (ShelfAt w2 (w.heap.size + 3) S zn 0 xs) := HB1.out.2.keep bel2
  have hs2 : w.heap.size + 3 ≤ w2.heap.size := by omega
  clear bel2 q2 q3 hur1 s2 HB1 hs1
  cases hq : pageB x0 x1
  · have HP : Hid (puZ (zn : Int) xs (x0, x1) = 0 ∧ puH (zn : Int) xs (x0, x1) = false ∧ puL (zn : Int) xs (x0, x1) = []) := by simp [puZ, puH, puL, puOk, hp, hq, Hid]
    have u0 : w2.cell? ⟨w.heap.size + 1 + 1, 0, none⟩ = some (.int .i64 0) := by rw [cell_block hur2]; rfl
    have u1 : w2.cell? ⟨w.heap.size + 1 + 1, 1, none⟩ = some (.slice none 0 0) := by rw [cell_block hur2]; rfl
    have fu : ∀ i, w2.frozen? ⟨w.heap.size + 1 + 1, i, none⟩ = false := fun i => free_block hur2
    clear hur2
    go_wp2_with fail
    refine bodyPost_ret (v := .tuple #[.agg #[.int .i64 0, .slice none 0 0], .bool false]) (by simp [*, results, Tryd.results10, go_sem]) rfl ?_
    refine ⟨_, by rw [HP.out.1, HP.out.2.1], ?_, by first | exact (HB.out.setCell (by simp; omega) _).setCell (by simp; omega) _ | exact HB.out⟩
    rw [HP.out.2.2]
    exact World.ownsRow_nil _ _ _ _
  · have HP : Hid (puZ (zn : Int) xs (x0, x1) = zn ∧ puH (zn : Int) xs (x0, x1) = decide ((x0, x1) ∈ xs) ∧ puL (zn : Int) xs (x0, x1) = useL zn xs (x0, x1)) := by simp [puZ, puH, puL, puOk, hp, hq, Hid]
    obtain ⟨g1, g2, g3, g4, g5⟩ := poolB_true.1 hp
    clear g4 g5
    go_wp2_with fail
    have hus : zn ≤ 1000 ∧ xs.length ≤ zn := ⟨by omega, by omega⟩
    go_region_held3 (fun w' => w'.cell? ⟨w.heap.size + 1, 0, none⟩ = some (.int .i64 x0) ∧ w'.cell? ⟨w.heap.size + 1, 1, none⟩ = some (.int .i64 x1))
      (first | exact ⟨r2, r3⟩ | exact ⟨(Below.celz bel3 _ _ _ (by omega)).trans r2, (Below.celz bel3 _ _ _ (by omega)).trans r3⟩ | assumption)
      (first | (go_at_call 28; refine (usePg (w.heap.size + 3) S zn 0 xs x0 x1 w2.drew (HSH.out.of (fun _ _ _ => rfl)) hus.1 hus.2).mono ?_; rintro e w3 ⟨rfl, sh3, bel3', fr3⟩; have bel3 : Below (w.heap.size + 3) w2 w3 := ((Below.refl _ w2).drew).trans bel3'; clear bel3'))
    rename_i hHeld
    clear hHeld
    have s3 := bel3.size
    have HH3 : Hid (ShelfAt w3 (w.heap.size + 3) S zn 0 (useL zn xs (x0, x1)) ∧ Below w.heap.size w w3 ∧ w3.heap[w.heap.size + 1 + 1]? = some (.cells #[.int .i64 0, .slice none 0 0] 25 (0, 0))) := ⟨sh3, HB.out.trans (bel3.mono (by omega)), by rw [bel3.block _ (by omega)]; exact hur2⟩
    have hs3 : w.heap.size + 3 ≤ w3.heap.size := by omega
    clear sh3 bel3 fr3 r2 r3 hur2 s3
    go_wp2_with fail
    refine (pool_of (w.heap.size + 3) S zn 0 _ _ HH3.out.1 (by have := useL_len zn xs (x0, x1); omega)).mono ?_
    rintro e w4 ⟨u, rfl, ou, bel4⟩
    obtain ⟨ua, uc, hu⟩ := ou.form
    have hur3 : w4.heap[w.heap.size + 1 + 1]? = some (.cells #[.int .i64 0, .slice none 0 0] 25 (0, 0)) := by rw [bel4.block _ (by omega)]; exact HH3.out.2.2
    have u0 : w4.cell? ⟨w.heap.size + 1 + 1, 0, none⟩ = some (.int .i64 0) := by rw [cell_block hur3]; rfl
    have u1 : w4.cell? ⟨w.heap.size + 1 + 1, 1, none⟩ = some (.slice none 0 0) := by rw [cell_block hur3]; rfl
    have fu : ∀ i, w4.frozen? ⟨w.heap.size + 1 + 1, i, none⟩ = false := fun i => free_block hur3
    have HO : Hid (OwnPool w4 w3.heap.size u (useL zn xs (x0, x1)) ∧ Below w.heap.size w w4) := ⟨ou, HH3.out.2.1.trans (bel4.mono (by omega))⟩
    clear bel4 ou hur3
    obtain ⟨M, hM⟩ : ∃ M, M = (useL zn xs (x0, x1)).length := ⟨_, rfl⟩
    rw [← hM] at hu
    subst hu
    clear hM
    go_wp2_with fail
    refine bodyPost_ret (v := .tuple #[.agg #[.int .i64 (zn : Int), .slice ua M uc], .bool (decide ((x0, x1) ∈ xs))]) (by simp [*, results, Tryd.results10, go_sem]) rfl ?_
    obtain ⟨o1, o2⟩ := HO.out
    refine ⟨_, by rw [HP.out.1, HP.out.2.1], ?_, (o2.setCell (by simp; omega) _).setCell (by simp; omega) _⟩
    rw [HP.out.2.2]
    have hob : ∀ g, (Value.slice ua M uc).ownBlock = some g → g ≠ w.heap.size + 1 + 1 := fun g hg => by have := (World.ownsRow.lt o1 g hg).1; omega
    exact own_mono (own_set (own_set o1 (fun h => hob _ h rfl) _) (fun h => hob _ h rfl) _) (by omega)
end Go.Proofs.YtlfgcchnboaflaaDoor.Lab

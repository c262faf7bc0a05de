/-
  What is drawn of graphs for the laws: DrawGraphNear. (Written by tools/mkdgr.py Near.)
-/
import Derived.Test.YtcinjkpedigffaaDoorDgr
namespace Go.Proofs.YtcinjkpedigffaaDoor.Lab
open Go.RowKit Go.ChangeMaps
set_option linter.unusedVariables false
set_option maxRecDepth 8000 in
set_option maxHeartbeats 8000000 in
theorem drawGraphNear (a : Option Addr) (len cap : Nat) (zs : List Int) (w00 : World) (h : CodeAt w00 a len cap zs) :
    Calls Tryd.prog 17 #[.slice a len cap] w00 fun e w' => ∃ u1 u2 ns es l n, e = .returned (.tuple #[.agg #[u1, u2], .agg #[.int .i64 l, .int .i64 n]]) ∧ GrAt w' u1 u2 ns es ∧ Below w00.heap.size w00 w' := by
  have h0 : CodeAt ((w00.alloc (.cells #[.slice none 0 0, .slice none 0 0] 26)).alloc (.cells #[.int .i64 0, .int .i64 0] 35)) a len cap zs := h.below (by go_grown)
  clear h
  go_enter Tryd.func17, Tryd.ntmps17
  go_wp2_with fail
  refine (l9Open a len cap zs _ h0).mono ?_
  rintro e w ⟨rfl, ⟨m, hr1⟩, hb1⟩
  clear h0
  simp only [World.size_alloc] at hr1 hb1 ⊢
  have BK0 : Hid (w.heap[w00.heap.size]? = some (.cells #[.slice none 0 0, .slice none 0 0] 26 (0, 0))) := by show _ = _; rw [hb1.block _ (by omega), heap_alloc_old _ _ (by simp)]; exact new_block _ _
  have BK1 : Hid (w.heap[w00.heap.size + 1]? = some (.cells #[.int .i64 0, .int .i64 0] 35 (0, 0))) := by show _ = _; rw [hb1.block _ (by omega)]; exact newC (by simp)
  have HW : Hid (Below w00.heap.size w00 w) := Below.trans (by go_grown) (hb1.mono (by omega))
  obtain ⟨B, hB0⟩ : ∃ B, B = w00.heap.size + 1 + 1 := ⟨_, rfl⟩
  rw [← hB0] at hr1 ⊢
  have hB : B < w.heap.size := hr1.lt
  have hB1 : w00.heap.size + 1 < B := by omega
  have GG : Hid (w.grownBy w (some B)) := grownBy_refl _ _
  have RD : Hid (RdAt w B a m cap zs 0) := hr1
  clear hr1 hb1 hB0
  go_wp2_with fail
  refine (l2Graph _ _ _ _ _ _ _ RD.out (by omega)).mono ?_
  rintro e w1 ⟨u1, u2, ns, es, q, rfl, og, ln, le, hok, hq, hr1, hg1⟩
  have nGG : Hid (w.grownBy w1 (some B)) := grownBy_trans GG.out hg1
  have nRD : Hid (RdAt w1 B a m cap zs (q)) := hr1
  have nBK0 : Hid (w1.heap[w00.heap.size]? = some (.cells #[.slice none 0 0, .slice none 0 0] 26 (0, 0))) := by show _ = _; rw [hg1.block (w00.heap.size) (lt_of_block BK0.out) (by simp; omega)]; exact BK0.out
  have nBK1 : Hid (w1.heap[w00.heap.size + 1]? = some (.cells #[.int .i64 0, .int .i64 0] 35 (0, 0))) := by show _ = _; rw [hg1.block (w00.heap.size + 1) (lt_of_block BK1.out) (by simp; omega)]; exact BK1.out
  clear GG RD BK0 BK1
  have GG := nGG
  have RD := nRD
  clear nGG nRD
  have BK0 := nBK0
  clear nBK0
  have BK1 := nBK1
  clear nBK1
  clear hg1 hr1
  obtain ⟨a1, c1, a2, c2, rfl, rfl⟩ := og.form
  have HR1 : Hid (RowAt 2 encNode w1 (.slice a1 ns.length c1) ns ∧ RowAt 5 encEdge w1 (.slice a2 es.length c2) es) := ⟨og.nodes, og.edges⟩
  have HOK1 : Hid (∀ x ∈ ns, okB x.1 = true) := hok
  clear og hok
  go_wp2_with fail
  refine (l2Bent B m cap a zs q _ _ ns es _ RD.out (by omega) HR1.out.1 HR1.out.2 HOK1.out (by omega) (by omega)).mono ?_
  rintro e w2 ⟨u1, u2, ns2, es2, q2, rfl, r1, r2, ln2, le2, hok, hq2, hr1, hg1⟩
  have nGG : Hid (w.grownBy w2 (some B)) := grownBy_trans GG.out hg1
  have nRD : Hid (RdAt w2 B a m cap zs (q2)) := hr1
  have nBK0 : Hid (w2.heap[w00.heap.size]? = some (.cells #[.slice none 0 0, .slice none 0 0] 26 (0, 0))) := by show _ = _; rw [hg1.block (w00.heap.size) (lt_of_block BK0.out) (by simp; omega)]; exact BK0.out
  have nBK1 : Hid (w2.heap[w00.heap.size + 1]? = some (.cells #[.int .i64 0, .int .i64 0] 35 (0, 0))) := by show _ = _; rw [hg1.block (w00.heap.size + 1) (lt_of_block BK1.out) (by simp; omega)]; exact BK1.out
  clear GG RD BK0 BK1
  have GG := nGG
  have RD := nRD
  clear nGG nRD
  have BK0 := nBK0
  clear nBK0
  have BK1 := nBK1
  clear nBK1
  clear hg1 hr1
  obtain ⟨a12, c12, rfl⟩ := r1.len
  obtain ⟨a22, c22, rfl⟩ := r2.len
  have HR2 : Hid (RowAt 2 encNode w2 (.slice a12 ns2.length c12) ns2 ∧ RowAt 5 encEdge w2 (.slice a22 es2.length c22) es2) := ⟨r1, r2⟩
  have HOK2 : Hid (∀ x ∈ ns2, okB x.1 = true) := hok
  clear r1 r2 hok
  have HG : Hid (GrAt w2 (.slice a12 ns2.length c12) (.slice a22 es2.length c22) ns2 es2) := ⟨HR2.out.1, HR2.out.2, by omega, by omega⟩
  clear HR1 HOK1
  obtain ⟨PX, hPX⟩ : ∃ t, w2.heap.size = t := ⟨_, rfl⟩
  obtain ⟨w3, hWPX⟩ : ∃ t, w2.alloc (.cells #[.slice a12 ns2.length c12, .slice a22 es2.length c22] 26) = t := ⟨_, rfl⟩
  have kPX : w3.heap[PX]? = some (.cells #[.slice a12 ns2.length c12, .slice a22 es2.length c22] 26 (0, 0)) := by rw [← hWPX, ← hPX]; exact new_block _ _
  have oPX : w.heap.size ≤ PX := by rw [← hPX]; exact GG.out.size
  have oPX0 : w00.heap.size < PX := by rw [← hPX]; exact lt_of_block BK0.out
  have oPX1 : w00.heap.size + 1 < PX := by rw [← hPX]; exact lt_of_block BK1.out
  have nGG : Hid (w.grownBy w3 (some B)) := by show World.grownBy _ _ _; rw [← hWPX]; exact grownBy_trans GG.out (World.grownBy_alloc _ _ _)
  have nRD : Hid (RdAt w3 B a m cap zs (q2)) := by show RdAt _ _ _ _ _ _ _; rw [← hWPX]; exact RD.out.alloc _
  have nBK0 : Hid (w3.heap[w00.heap.size]? = some (.cells #[.slice none 0 0, .slice none 0 0] 26 (0, 0))) := by show _ = _; rw [← hWPX, heap_alloc_old _ _ (lt_of_block BK0.out)]; exact BK0.out
  have nBK1 : Hid (w3.heap[w00.heap.size + 1]? = some (.cells #[.int .i64 0, .int .i64 0] 35 (0, 0))) := by show _ = _; rw [← hWPX, heap_alloc_old _ _ (lt_of_block BK1.out)]; exact BK1.out
  clear GG RD BK0 BK1
  have GG := nGG
  have RD := nRD
  clear nGG nRD
  have BK0 := nBK0
  clear nBK0
  have BK1 := nBK1
  clear nBK1
  have BK2 : Hid (w3.heap[PX]? = some (.cells #[.slice a12 ns2.length c12, .slice a22 es2.length c22] 26 (0, 0))) := kPX
  clear kPX
  have HG3 : Hid (GrAt w3 (.slice a12 ns2.length c12) (.slice a22 es2.length c22) ns2 es2) := by show GrAt _ _ _ _ _; rw [← hWPX]; exact HG.out.keep ((Below.refl _ _).alloc (Nat.le_refl _) _)
  clear HG
  have HN2 : Hid (ns2.length ≤ 200 ∧ es2.length ≤ 200) := HG3.out.2.2
  clear HR2 HOK2
  by_cases h0 : 0 < ns2.length
  · have h0' : (0 : Int) < (ns2.length : Int) := by omega
    have c2_0 : w3.cell? ⟨PX, 0, none⟩ = some (.slice a12 ns2.length c12) := by rw [cell_block BK2.out]; rfl
    have c2_1 : w3.cell? ⟨PX, 1, none⟩ = some (.slice a22 es2.length c22) := by rw [cell_block BK2.out]; rfl
    have l2 : PX < w3.heap.size := lt_of_block BK2.out
    have f2 : ∀ o, w3.frozen? ⟨PX, o, none⟩ = false := fun o => free_block BK2.out
    go_wp2_with fail
    clear hWPX hPX c2_0 c2_1 l2 f2
    refine (pick B m cap a zs q2 8 _ RD.out (by omega) (by omega) (by omega)).mono ?_
    rintro e w3b ⟨x, rfl, hx0, hx1, hr1, hg1⟩
    have HG3b : Hid (GrAt w3b (.slice a12 ns2.length c12) (.slice a22 es2.length c22) ns2 es2) := HG3.out.gr RD.out hg1
    have nGG : Hid (w.grownBy w3b (some B)) := grownBy_trans GG.out hg1
    have nRD : Hid (RdAt w3b B a m cap zs (q2 + 1)) := hr1
    have nBK0 : Hid (w3b.heap[w00.heap.size]? = some (.cells #[.slice none 0 0, .slice none 0 0] 26 (0, 0))) := by show _ = _; rw [hg1.block (w00.heap.size) (lt_of_block BK0.out) (by simp; omega)]; exact BK0.out
    have nBK1 : Hid (w3b.heap[w00.heap.size + 1]? = some (.cells #[.int .i64 0, .int .i64 0] 35 (0, 0))) := by show _ = _; rw [hg1.block (w00.heap.size + 1) (lt_of_block BK1.out) (by simp; omega)]; exact BK1.out
    have nBK2 : Hid (w3b.heap[PX]? = some (.cells #[.slice a12 ns2.length c12, .slice a22 es2.length c22] 26 (0, 0))) := by show _ = _; rw [hg1.block (PX) (lt_of_block BK2.out) (by simp; omega)]; exact BK2.out
    clear GG RD BK0 BK1 BK2
    have GG := nGG
    have RD := nRD
    clear nGG nRD
    have BK0 := nBK0
    clear nBK0
    have BK1 := nBK1
    clear nBK1
    have BK2 := nBK2
    clear nBK2
    clear hg1 hr1
    clear HG3
    have HG3 := HG3b
    clear HG3b
    by_cases hx : 0 < x
    · obtain ⟨b, off, hab, hbl, HCL⟩ : ∃ b off, a12 = some ⟨b, off, none⟩ ∧ b < w3b.heap.size ∧ Hid (∀ W, w3b.grownBy W (some B) → ∀ j, j < ns2.length → W.cell? ⟨b, off + j * 2, none⟩ = some (.int .i64 (ns2.getD j (0, 0)).1) ∧ W.cell? ⟨b, off + j * 2 + 1, none⟩ = some (.int .i64 (ns2.getD j (0, 0)).2)) := by
        rcases HG3.out.1 with ⟨hz, _⟩ | ⟨_, b, off, c, hv, hlt, _⟩
        · rw [hz] at h0; simp at h0
        · simp only [Value.slice.injEq] at hv
          refine ⟨b, off, hv.1, hlt, fun W hW j hj => ?_⟩
          rcases (HG3.out.gr RD.out hW).1 with ⟨hz, _⟩ | ⟨_, b', off', c', hv', _, hc⟩
          · rw [hz] at h0; simp at h0
          · simp only [Value.slice.injEq] at hv'
            have hbb := hv.1.symm.trans hv'.1
            simp only [Option.some.injEq, Addr.mk.injEq] at hbb
            obtain ⟨rfl, rfl, _⟩ := hbb
            obtain ⟨x, hx⟩ : ∃ x, ns2[j]? = some x := ⟨_, List.getElem?_eq_getElem hj⟩
            rw [List.getD_eq_getElem?_getD, hx]
            exact ⟨hc j x hx 0 _ rfl, hc j x hx 1 _ rfl⟩
      subst hab
      obtain ⟨pl, hpl⟩ : ∃ f : Nat → Int, ∀ j, f j = (ns2.getD j (0, 0)).1 := ⟨fun j => (ns2.getD j (0, 0)).1, fun _ => rfl⟩
      obtain ⟨pn, hpn⟩ : ∃ f : Nat → Int, ∀ j, f j = (ns2.getD j (0, 0)).2 := ⟨fun j => (ns2.getD j (0, 0)).2, fun _ => rfl⟩
      have hbne : ¬ b = w00.heap.size := fun e => by
        have h1 := (HCL.out w3b (grownBy_refl _ _) 0 h0).1
        rw [e, cell_block BK0.out] at h1
        match off + 0 * 2, h1 with
        | 0, h1 => simp at h1
        | 1, h1 => simp at h1
        | n + 2, h1 => simp at h1
      have hbne' : ¬ w00.heap.size = b := fun e => hbne e.symm
      simp only [← hpl, ← hpn] at HCL
      clear hpl hpn
      have c2_0 : w3b.cell? ⟨PX, 0, none⟩ = some (.slice (some ⟨b, off, none⟩) ns2.length c12) := by rw [cell_block BK2.out]; rfl
      have c2_1 : w3b.cell? ⟨PX, 1, none⟩ = some (.slice a22 es2.length c22) := by rw [cell_block BK2.out]; rfl
      have l2 : PX < w3b.heap.size := lt_of_block BK2.out
      have f2 : ∀ o, w3b.frozen? ⟨PX, o, none⟩ = false := fun o => free_block BK2.out
      go_upto_region 4 with fail
      go_region_with (first
        | (go_at_call 49; refine (pickN B m cap a zs (q2 + 1) ns2.length w3b.drew RD.out (by omega) (by omega) (by omega)).mono ?_; rintro e w4 ⟨j, rfl, hjn, hr4, hg4'⟩; have hg4 := gr_drew hg4'; have hj0 : (0 : Int) ≤ (j : Int) := (by omega); have hj1 : (j : Int) < (ns2.length : Int) := (by omega); have hp0 := (HCL.out w4 hg4 j hjn).1; have hp1 := (HCL.out w4 hg4 j hjn).2; have hpb : b < w4.heap.size := Nat.lt_of_lt_of_le hbl hg4.size; have bx0 : w4.heap[w00.heap.size]? = some (.cells #[.slice none 0 0, .slice none 0 0] 26 (0, 0)) := (by rw [hg4.block _ (lt_of_block BK0.out) (by simp; omega)]; exact BK0.out); have bx1 : w4.heap[w00.heap.size + 1]? = some (.cells #[.int .i64 0, .int .i64 0] 35 (0, 0)) := (by rw [hg4.block _ (lt_of_block BK1.out) (by simp; omega)]; exact BK1.out); have bt0 : w4.cell? ⟨w00.heap.size, 0, none⟩ = some (.slice none 0 0) := (by rw [cell_block bx0]; rfl); have bt1 : w4.cell? ⟨w00.heap.size, 1, none⟩ = some (.slice none 0 0) := (by rw [cell_block bx0]; rfl); have bu0 : w4.cell? ⟨w00.heap.size + 1, 0, none⟩ = some (.int .i64 0) := (by rw [cell_block bx1]; rfl); have bu1 : w4.cell? ⟨w00.heap.size + 1, 1, none⟩ = some (.int .i64 0) := (by rw [cell_block bx1]; rfl); have bf0 : ∀ o, w4.frozen? ⟨w00.heap.size, o, none⟩ = false := (fun o => free_block bx0); have bf1 : ∀ o, w4.frozen? ⟨w00.heap.size + 1, o, none⟩ = false := (fun o => free_block bx1); have bl0 : w00.heap.size < w4.heap.size := lt_of_block bx0; have bl1 : w00.heap.size + 1 < w4.heap.size := lt_of_block bx1; have g20 : w4.cell? ⟨PX, 0, none⟩ = some (.slice (some ⟨b, off, none⟩) ns2.length c12) := (by rw [World.cell?_of_block (hg4.block PX (lt_of_block BK2.out) (by simp; omega))]; exact c2_0); have g21 : w4.cell? ⟨PX, 1, none⟩ = some (.slice a22 es2.length c22) := (by rw [World.cell?_of_block (hg4.block PX (lt_of_block BK2.out) (by simp; omega))]; exact c2_1); have gl2 : PX < w4.heap.size := Nat.lt_of_lt_of_le (lt_of_block BK2.out) hg4.size; have hne : ¬ w00.heap.size = PX := (by omega); have hne1 : ¬ w00.heap.size + 1 = PX := (by omega)))
      clear c2_0 c2_1 l2 f2
      all_goals (
        have HG4 : Hid (GrAt w4 (.slice (some ⟨b, off, none⟩) ns2.length c12) (.slice a22 es2.length c22) ns2 es2) := HG3.out.gr RD.out hg4
        have HB4 : Hid (w4.heap[w00.heap.size]? = some (.cells #[.slice none 0 0, .slice none 0 0] 26 (0, 0)) ∧ w4.heap[w00.heap.size + 1]? = some (.cells #[.int .i64 0, .int .i64 0] 35 (0, 0)) ∧ w.grownBy w4 (some B)) := ⟨bx0, bx1, grownBy_trans GG.out hg4⟩
        clear bx0 bx1 hg4 hg4' hr4 hp0 hp1 hpb hj0 hj1 g20 g21 gl2
        go_wp2_with fail
        try simp only [Exit.inBlock, Exit.then]
        refine bodyPost_ret (v := .tuple #[.agg #[.slice (some ⟨b, off, none⟩) ns2.length c12, .slice a22 es2.length c22], .agg #[.int .i64 (pl j), .int .i64 (pn j)]]) (by simp [*, cell_block HB4.out.1, cell_block HB4.out.2.1, results, Tryd.results17, go_sem]) rfl ?_
        obtain ⟨ns', es', hg'⟩ := GrAt.ints ((HG4.out.set HB4.out.1 0 (.slice (some ⟨b, off, none⟩) ns2.length c12)).set (set_block _ HB4.out.1) 1 (.slice a22 es2.length c22)) (IntsTo.set (IntsTo.set (IntsTo.refl _) ⟨w00.heap.size + 1, 0, none⟩ (pl j)) ⟨w00.heap.size + 1, 1, none⟩ (pn j))
        exact ⟨_, _, ns', es', pl j, pn j, rfl, hg', (Below.setCell (p := ⟨w00.heap.size + 1, 1, none⟩) ((Below.setCell (p := ⟨w00.heap.size + 1, 0, none⟩) (((HW.out.trans ((below_of_grown HB4.out.2.2 (by omega)).mono (by omega))).setCell (Nat.le_refl _) _).setCell (Nat.le_refl _) _) (Nat.le_succ _) _)) (Nat.le_succ _) _)⟩)
    · have c2_0 : w3b.cell? ⟨PX, 0, none⟩ = some (.slice a12 ns2.length c12) := by rw [cell_block BK2.out]; rfl
      have c2_1 : w3b.cell? ⟨PX, 1, none⟩ = some (.slice a22 es2.length c22) := by rw [cell_block BK2.out]; rfl
      have l2 : PX < w3b.heap.size := lt_of_block BK2.out
      have f2 : ∀ o, w3b.frozen? ⟨PX, o, none⟩ = false := fun o => free_block BK2.out
      go_upto_region 5 with fail
      clear c2_0 c2_1 l2 f2
      have hS : Hid (∀ w', w3b.grownBy w' (some B) → w'.cell? ⟨PX, 0, none⟩ = some (.slice a12 ns2.length c12) ∧ w'.cell? ⟨PX, 1, none⟩ = some (.slice a22 es2.length c22)) := fun w' h => ⟨by rw [World.cell?_of_block (h.block PX (lt_of_block BK2.out) (by simp; omega)), cell_block BK2.out]; rfl, by rw [World.cell?_of_block (h.block PX (lt_of_block BK2.out) (by simp; omega)), cell_block BK2.out]; rfl⟩
      have hne : w00.heap.size ≠ PX := by omega
      have hne1 : w00.heap.size + 1 ≠ PX := by omega
      have hSf : Hid (∀ w' u u', w3b.grownBy w' (some B) → ((w'.setCell ⟨w00.heap.size, 0, none⟩ u).setCell ⟨w00.heap.size, 1, none⟩ u').cell? ⟨PX, 0, none⟩ = some (.slice a12 ns2.length c12) ∧ ((w'.setCell ⟨w00.heap.size, 0, none⟩ u).setCell ⟨w00.heap.size, 1, none⟩ u').cell? ⟨PX, 1, none⟩ = some (.slice a22 es2.length c22)) := fun w' u u' h => by
        obtain ⟨h1, h2⟩ := hS.out w' h
        exact ⟨by rw [World.cell?_setCell_far _ _ _ _ (by exact hne), World.cell?_setCell_far _ _ _ _ (by exact hne)]; exact h1, by rw [World.cell?_setCell_far _ _ _ _ (by exact hne), World.cell?_setCell_far _ _ _ _ (by exact hne)]; exact h2⟩
      have hSg : Hid (∀ w' u u' v0 v1, w3b.grownBy w' (some B) → ((((w'.setCell ⟨w00.heap.size, 0, none⟩ u).setCell ⟨w00.heap.size, 1, none⟩ u').setCell ⟨w00.heap.size + 1, 0, none⟩ v0).setCell ⟨w00.heap.size + 1, 1, none⟩ v1).cell? ⟨PX, 0, none⟩ = some (.slice a12 ns2.length c12) ∧ ((((w'.setCell ⟨w00.heap.size, 0, none⟩ u).setCell ⟨w00.heap.size, 1, none⟩ u').setCell ⟨w00.heap.size + 1, 0, none⟩ v0).setCell ⟨w00.heap.size + 1, 1, none⟩ v1).cell? ⟨PX, 1, none⟩ = some (.slice a22 es2.length c22)) := fun w' u u' v0 v1 h => by
        obtain ⟨h1, h2⟩ := hSf.out w' u u' h
        exact ⟨by rw [World.cell?_setCell_far _ _ _ _ (by exact hne1), World.cell?_setCell_far _ _ _ _ (by exact hne1)]; exact h1, by rw [World.cell?_setCell_far _ _ _ _ (by exact hne1), World.cell?_setCell_far _ _ _ _ (by exact hne1)]; exact h2⟩
      go_region_held3 (fun w' => w'.cell? ⟨PX, 0, none⟩ = some (.slice a12 ns2.length c12) ∧ w'.cell? ⟨PX, 1, none⟩ = some (.slice a22 es2.length c22))
        (first | with_reducible exact hS.out _ (gr_dr _ _) | with_reducible exact hSg.out _ _ _ _ _ hg4 | with_reducible exact hSf.out _ _ _ hg4 | with_reducible exact hS.out _ hg4)
        (first
          | (go_at_call 50; refine (l2Node B m cap a zs (q2 + 1) w3b.drew RD.out (by omega)).mono ?_; rintro e w4 ⟨xl, xn, rfl, -, hr4, hg4'⟩; have hg4 := gr_drew hg4'; have bx0 : w4.heap[w00.heap.size]? = some (.cells #[.slice none 0 0, .slice none 0 0] 26 (0, 0)) := (by rw [hg4.block _ (lt_of_block BK0.out) (by simp; omega)]; exact BK0.out); have bx1 : w4.heap[w00.heap.size + 1]? = some (.cells #[.int .i64 0, .int .i64 0] 35 (0, 0)) := (by rw [hg4.block _ (lt_of_block BK1.out) (by simp; omega)]; exact BK1.out); have bt0 : w4.cell? ⟨w00.heap.size, 0, none⟩ = some (.slice none 0 0) := (by rw [cell_block bx0]; rfl); have bt1 : w4.cell? ⟨w00.heap.size, 1, none⟩ = some (.slice none 0 0) := (by rw [cell_block bx0]; rfl); have bu0 : w4.cell? ⟨w00.heap.size + 1, 0, none⟩ = some (.int .i64 0) := (by rw [cell_block bx1]; rfl); have bu1 : w4.cell? ⟨w00.heap.size + 1, 1, none⟩ = some (.int .i64 0) := (by rw [cell_block bx1]; rfl); have bf0 : ∀ o, w4.frozen? ⟨w00.heap.size, o, none⟩ = false := (fun o => free_block bx0); have bf1 : ∀ o, w4.frozen? ⟨w00.heap.size + 1, o, none⟩ = false := (fun o => free_block bx1); have bl0 : w00.heap.size < w4.heap.size := lt_of_block bx0; have bl1 : w00.heap.size + 1 < w4.heap.size := lt_of_block bx1))
      all_goals (
        have HG4 : Hid (GrAt w4 (.slice a12 ns2.length c12) (.slice a22 es2.length c22) ns2 es2) := HG3.out.gr RD.out hg4
        have HB4 : Hid (w4.heap[w00.heap.size]? = some (.cells #[.slice none 0 0, .slice none 0 0] 26 (0, 0)) ∧ w4.heap[w00.heap.size + 1]? = some (.cells #[.int .i64 0, .int .i64 0] 35 (0, 0)) ∧ w.grownBy w4 (some B)) := ⟨bx0, bx1, grownBy_trans GG.out hg4⟩
        clear bx0 bx1 hg4 hg4' hr4
        go_wp2_with fail
        try simp only [Exit.inBlock, Exit.then]
        refine bodyPost_ret (v := .tuple #[.agg #[.slice a12 ns2.length c12, .slice a22 es2.length c22], .agg #[.int .i64 xl, .int .i64 xn]]) (by simp [*, cell_block HB4.out.1, cell_block HB4.out.2.1, results, Tryd.results17, go_sem]) rfl ?_
        obtain ⟨ns', es', hg'⟩ := GrAt.ints ((HG4.out.set HB4.out.1 0 (.slice a12 ns2.length c12)).set (set_block _ HB4.out.1) 1 (.slice a22 es2.length c22)) (IntsTo.set (IntsTo.set (IntsTo.refl _) ⟨w00.heap.size + 1, 0, none⟩ xl) ⟨w00.heap.size + 1, 1, none⟩ xn)
        exact ⟨_, _, ns', es', xl, xn, rfl, hg', (Below.setCell (p := ⟨w00.heap.size + 1, 1, none⟩) ((Below.setCell (p := ⟨w00.heap.size + 1, 0, none⟩) (((HW.out.trans ((below_of_grown HB4.out.2.2 (by omega)).mono (by omega))).setCell (Nat.le_refl _) _).setCell (Nat.le_refl _) _) (Nat.le_succ _) _)) (Nat.le_succ _) _)⟩)
  · have h0' : ¬ (0 : Int) < (ns2.length : Int) := by omega
    have c2_0 : w3.cell? ⟨PX, 0, none⟩ = some (.slice a12 ns2.length c12) := by rw [cell_block BK2.out]; rfl
    have c2_1 : w3.cell? ⟨PX, 1, none⟩ = some (.slice a22 es2.length c22) := by rw [cell_block BK2.out]; rfl
    have l2 : PX < w3.heap.size := lt_of_block BK2.out
    have f2 : ∀ o, w3.frozen? ⟨PX, o, none⟩ = false := fun o => free_block BK2.out
    go_upto_region 5 with fail
    clear hWPX hPX c2_0 c2_1 l2 f2
    have hS : Hid (∀ w', w3.grownBy w' (some B) → w'.cell? ⟨PX, 0, none⟩ = some (.slice a12 ns2.length c12) ∧ w'.cell? ⟨PX, 1, none⟩ = some (.slice a22 es2.length c22)) := fun w' h => ⟨by rw [World.cell?_of_block (h.block PX (lt_of_block BK2.out) (by simp; omega)), cell_block BK2.out]; rfl, by rw [World.cell?_of_block (h.block PX (lt_of_block BK2.out) (by simp; omega)), cell_block BK2.out]; rfl⟩
    have hne : w00.heap.size ≠ PX := by omega
    have hne1 : w00.heap.size + 1 ≠ PX := by omega
    have hSf : Hid (∀ w' u u', w3.grownBy w' (some B) → ((w'.setCell ⟨w00.heap.size, 0, none⟩ u).setCell ⟨w00.heap.size, 1, none⟩ u').cell? ⟨PX, 0, none⟩ = some (.slice a12 ns2.length c12) ∧ ((w'.setCell ⟨w00.heap.size, 0, none⟩ u).setCell ⟨w00.heap.size, 1, none⟩ u').cell? ⟨PX, 1, none⟩ = some (.slice a22 es2.length c22)) := fun w' u u' h => by
      obtain ⟨h1, h2⟩ := hS.out w' h
      exact ⟨by rw [World.cell?_setCell_far _ _ _ _ (by exact hne), World.cell?_setCell_far _ _ _ _ (by exact hne)]; exact h1, by rw [World.cell?_setCell_far _ _ _ _ (by exact hne), World.cell?_setCell_far _ _ _ _ (by exact hne)]; exact h2⟩
    have hSg : Hid (∀ w' u u' v0 v1, w3.grownBy w' (some B) → ((((w'.setCell ⟨w00.heap.size, 0, none⟩ u).setCell ⟨w00.heap.size, 1, none⟩ u').setCell ⟨w00.heap.size + 1, 0, none⟩ v0).setCell ⟨w00.heap.size + 1, 1, none⟩ v1).cell? ⟨PX, 0, none⟩ = some (.slice a12 ns2.length c12) ∧ ((((w'.setCell ⟨w00.heap.size, 0, none⟩ u).setCell ⟨w00.heap.size, 1, none⟩ u').setCell ⟨w00.heap.size + 1, 0, none⟩ v0).setCell ⟨w00.heap.size + 1, 1, none⟩ v1).cell? ⟨PX, 1, none⟩ = some (.slice a22 es2.length c22)) := fun w' u u' v0 v1 h => by
      obtain ⟨h1, h2⟩ := hSf.out w' u u' h
      exact ⟨by rw [World.cell?_setCell_far _ _ _ _ (by exact hne1), World.cell?_setCell_far _ _ _ _ (by exact hne1)]; exact h1, by rw [World.cell?_setCell_far _ _ _ _ (by exact hne1), World.cell?_setCell_far _ _ _ _ (by exact hne1)]; exact h2⟩
    go_region_held3 (fun w' => w'.cell? ⟨PX, 0, none⟩ = some (.slice a12 ns2.length c12) ∧ w'.cell? ⟨PX, 1, none⟩ = some (.slice a22 es2.length c22))
      (first | with_reducible exact hS.out _ (gr_dr _ _) | with_reducible exact hSg.out _ _ _ _ _ hg4 | with_reducible exact hSf.out _ _ _ hg4 | with_reducible exact hS.out _ hg4)
      (first
        | (go_at_call 50; refine (l2Node B m cap a zs (q2) w3.drew RD.out (by omega)).mono ?_; rintro e w4 ⟨xl, xn, rfl, -, hr4, hg4'⟩; have hg4 := gr_drew hg4'; have bx0 : w4.heap[w00.heap.size]? = some (.cells #[.slice none 0 0, .slice none 0 0] 26 (0, 0)) := (by rw [hg4.block _ (lt_of_block BK0.out) (by simp; omega)]; exact BK0.out); have bx1 : w4.heap[w00.heap.size + 1]? = some (.cells #[.int .i64 0, .int .i64 0] 35 (0, 0)) := (by rw [hg4.block _ (lt_of_block BK1.out) (by simp; omega)]; exact BK1.out); have bt0 : w4.cell? ⟨w00.heap.size, 0, none⟩ = some (.slice none 0 0) := (by rw [cell_block bx0]; rfl); have bt1 : w4.cell? ⟨w00.heap.size, 1, none⟩ = some (.slice none 0 0) := (by rw [cell_block bx0]; rfl); have bu0 : w4.cell? ⟨w00.heap.size + 1, 0, none⟩ = some (.int .i64 0) := (by rw [cell_block bx1]; rfl); have bu1 : w4.cell? ⟨w00.heap.size + 1, 1, none⟩ = some (.int .i64 0) := (by rw [cell_block bx1]; rfl); have bf0 : ∀ o, w4.frozen? ⟨w00.heap.size, o, none⟩ = false := (fun o => free_block bx0); have bf1 : ∀ o, w4.frozen? ⟨w00.heap.size + 1, o, none⟩ = false := (fun o => free_block bx1); have bl0 : w00.heap.size < w4.heap.size := lt_of_block bx0; have bl1 : w00.heap.size + 1 < w4.heap.size := lt_of_block bx1))
    all_goals (
      have HG4 : Hid (GrAt w4 (.slice a12 ns2.length c12) (.slice a22 es2.length c22) ns2 es2) := HG3.out.gr RD.out hg4
      have HB4 : Hid (w4.heap[w00.heap.size]? = some (.cells #[.slice none 0 0, .slice none 0 0] 26 (0, 0)) ∧ w4.heap[w00.heap.size + 1]? = some (.cells #[.int .i64 0, .int .i64 0] 35 (0, 0)) ∧ w.grownBy w4 (some B)) := ⟨bx0, bx1, grownBy_trans GG.out hg4⟩
      clear bx0 bx1 hg4 hg4' hr4
      go_wp2_with fail
      try simp only [Exit.inBlock, Exit.then]
      refine bodyPost_ret (v := .tuple #[.agg #[.slice a12 ns2.length c12, .slice a22 es2.length c22], .agg #[.int .i64 xl, .int .i64 xn]]) (by simp [*, cell_block HB4.out.1, cell_block HB4.out.2.1, results, Tryd.results17, go_sem]) rfl ?_
      obtain ⟨ns', es', hg'⟩ := GrAt.ints ((HG4.out.set HB4.out.1 0 (.slice a12 ns2.length c12)).set (set_block _ HB4.out.1) 1 (.slice a22 es2.length c22)) (IntsTo.set (IntsTo.set (IntsTo.refl _) ⟨w00.heap.size + 1, 0, none⟩ xl) ⟨w00.heap.size + 1, 1, none⟩ xn)
      exact ⟨_, _, ns', es', xl, xn, rfl, hg', (Below.setCell (p := ⟨w00.heap.size + 1, 1, none⟩) ((Below.setCell (p := ⟨w00.heap.size + 1, 0, none⟩) (((HW.out.trans ((below_of_grown HB4.out.2.2 (by omega)).mono (by omega))).setCell (Nat.le_refl _) _).setCell (Nat.le_refl _) _) (Nat.le_succ _) _)) (Nat.le_succ _) _)⟩)
end Go.Proofs.YtcinjkpedigffaaDoor.Lab

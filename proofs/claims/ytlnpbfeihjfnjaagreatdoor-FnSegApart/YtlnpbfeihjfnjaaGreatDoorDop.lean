/-
  What is drawn of deeds: spec.l2Op. (Written by tools/mkdop.py.)
-/
import Derived.Test.YtlnpbfeihjfnjaaGreatDoorDge
import Derived.Deep.CutBlock
namespace Go.Proofs.YtlnpbfeihjfnjaaGreatDoor.Lab
open Go.RowKit Go.ChangeMaps
set_option linter.unusedVariables false
set_option maxRecDepth 8000 in
set_option maxHeartbeats 8000000 in
theorem l2Op (B len cap c1 c2 : Nat) (a a1 a2 : Option Addr) (zs : List Int) (pos : Int) (ns : List Nd) (es : List Ed) (w : World) (h : RdAt w B a len cap zs pos) (hp : pos ≤ 1000000) (h1 : RowAt 2 encNode w (.slice a1 ns.length c1) ns) (h2 : RowAt 5 encEdge w (.slice a2 es.length c2) es) (hok : ∀ x ∈ ns, okB x.1 = true) (hl : ns.length ≤ 100000) (hm : es.length ≤ 100000) :
    Calls Tryz.prog 68 #[.pointer (some ⟨B, 0, none⟩), .agg #[.slice a1 ns.length c1, .slice a2 es.length c2]] w fun e w' => ∃ k nl nn l al an bl bn q, e = .returned (.agg #[.int .i64 k, .int .i64 nl, .int .i64 nn, .int .i64 l, .int .i64 al, .int .i64 an, .int .i64 bl, .int .i64 bn]) ∧ q ≤ pos + 20 ∧ RdAt w' B a len cap zs q ∧ w.grownBy w' (some B) := by
  have hB := h.lt
  have H0 : Hid (RdAt w B a len cap zs pos) := h
  have H1 : Hid (RowAt 2 encNode w (.slice a1 ns.length c1) ns ∧ (∀ x ∈ ns, okB x.1 = true)) := ⟨h1, hok⟩
  have H2 : Hid (RowAt 5 encEdge w (.slice a2 es.length c2) es) := h2
  clear h1 hok h2
  obtain ⟨n, hn⟩ : ∃ n, n = ns.length := ⟨_, rfl⟩
  obtain ⟨m, hm0⟩ : ∃ n, n = es.length := ⟨_, rfl⟩
  have HN : Hid (n = ns.length) := hn
  have HM : Hid (m = es.length) := hm0
  rw [← hn] at H1 hl ⊢
  rw [← hm0] at H2 hm ⊢
  clear hn hm0
  go_enter Tryz.func68, Tryz.ntmps68
  go_wp2_with fail
  generalize hW : ((w.alloc (.cells #[.slice a1 n c1, .slice a2 m c2] 26)).alloc (.cells #[.int .i64 0, .int .i64 0, .int .i64 0, .int .i64 0, .int .i64 0, .int .i64 0, .int .i64 0, .int .i64 0] 50)) = w0
  have GG : Hid (w.grownBy w0 (some B)) := by show World.grownBy _ _ _; rw [← hW]; exact grownBy_trans (grownBy_trans (grownBy_refl _ _) (World.grownBy_alloc _ _ _)) (World.grownBy_alloc _ _ _)
  have RD : Hid (RdAt w0 B a len cap zs (pos)) := by show RdAt _ _ _ _ _ _ _; rw [← hW]; exact ((h).alloc _).alloc _
  have BK0 : Hid (w0.heap[w.heap.size]? = some (.cells #[.slice a1 n c1, .slice a2 m c2] 26 (0, 0))) := by show _ = _; rw [← hW]; rw [heap_alloc_old _ _ (by simp)]; exact newC (by simp)
  have BK1 : Hid (w0.heap[w.heap.size + 1]? = some (.cells #[.int .i64 0, .int .i64 0, .int .i64 0, .int .i64 0, .int .i64 0, .int .i64 0, .int .i64 0, .int .i64 0] 50 (0, 0))) := by show _ = _; rw [← hW]; exact newC (by simp)
  have Z0 : w0.heap.size = w.heap.size + 1 + 1 := by rw [← hW]; simp
  clear hW
  clear h
  refine (num_lit B _ len cap a zs _ [1, 2, 2, 1, 2, 3, 4, 2] _ RD.out (by omega) (by decide) (by decide) Z0).mono ?_
  rintro e w1 ⟨k, hk, rfl, hr1, hg1⟩
  have nGG : Hid (w.grownBy w1 (some B)) := grownBy_trans GG.out hg1
  have nRD : Hid (RdAt w1 B a len cap zs (pos + 1)) := hr1
  have nBK0 : Hid (w1.heap[w.heap.size]? = some (.cells #[.slice a1 n c1, .slice a2 m c2] 26 (0, 0))) := by show _ = _; rw [hg1.block (w.heap.size) (lt_of_block BK0.out) (by simp; omega)]; exact BK0.out
  have nBK1 : Hid (w1.heap[w.heap.size + 1]? = some (.cells #[.int .i64 0, .int .i64 0, .int .i64 0, .int .i64 0, .int .i64 0, .int .i64 0, .int .i64 0, .int .i64 0] 50 (0, 0))) := by show _ = _; rw [hg1.block (w.heap.size + 1) (lt_of_block BK1.out) (by simp; omega)]; exact BK1.out
  clear GG RD BK0 BK1
  have GG := nGG
  have RD := nRD
  clear nGG nRD
  have BK0 := nBK0
  clear nBK0
  have BK1 := nBK1
  clear nBK1
  clear hg1 hr1
  have hk4 : k = 1 ∨ k = 2 ∨ k = 3 ∨ k = 4 := by simp at hk; omega
  clear hk
  clear Z0
  obtain ⟨PO, hPO⟩ : ∃ t, w1.heap.size = t := ⟨_, rfl⟩
  obtain ⟨w2, hWPO⟩ : ∃ t, w1.alloc (.cells #[.int .i64 k, .int .i64 0, .int .i64 0, .int .i64 0, .int .i64 0, .int .i64 0, .int .i64 0, .int .i64 0] 50) = t := ⟨_, rfl⟩
  have kPO : w2.heap[PO]? = some (.cells #[.int .i64 k, .int .i64 0, .int .i64 0, .int .i64 0, .int .i64 0, .int .i64 0, .int .i64 0, .int .i64 0] 50 (0, 0)) := by rw [← hWPO, ← hPO]; exact new_block _ _
  have oPO : w.heap.size ≤ PO := by rw [← hPO]; exact GG.out.size
  have oPO0 : w.heap.size < PO := by rw [← hPO]; exact lt_of_block BK0.out
  have oPO1 : w.heap.size + 1 < PO := by rw [← hPO]; exact lt_of_block BK1.out
  have nGG : Hid (w.grownBy w2 (some B)) := by show World.grownBy _ _ _; rw [← hWPO]; exact grownBy_trans GG.out (World.grownBy_alloc _ _ _)
  have nRD : Hid (RdAt w2 B a len cap zs (pos + 1)) := by show RdAt _ _ _ _ _ _ _; rw [← hWPO]; exact RD.out.alloc _
  have nBK0 : Hid (w2.heap[w.heap.size]? = some (.cells #[.slice a1 n c1, .slice a2 m c2] 26 (0, 0))) := by show _ = _; rw [← hWPO, heap_alloc_old _ _ (lt_of_block BK0.out)]; exact BK0.out
  have nBK1 : Hid (w2.heap[w.heap.size + 1]? = some (.cells #[.int .i64 0, .int .i64 0, .int .i64 0, .int .i64 0, .int .i64 0, .int .i64 0, .int .i64 0, .int .i64 0] 50 (0, 0))) := by show _ = _; rw [← hWPO, heap_alloc_old _ _ (lt_of_block BK1.out)]; exact BK1.out
  clear GG RD BK0 BK1
  have GG := nGG
  have RD := nRD
  clear nGG nRD
  have BK0 := nBK0
  clear nBK0
  have BK1 := nBK1
  clear nBK1
  have BK2 : Hid (w2.heap[PO]? = some (.cells #[.int .i64 k, .int .i64 0, .int .i64 0, .int .i64 0, .int .i64 0, .int .i64 0, .int .i64 0, .int .i64 0] 50 (0, 0))) := kPO
  clear kPO
  have c2_0 : w2.cell? ⟨PO, 0, none⟩ = some (.int .i64 k) := by rw [cell_block BK2.out]; rfl
  have c2_1 : w2.cell? ⟨PO, 1, none⟩ = some (.int .i64 0) := by rw [cell_block BK2.out]; rfl
  have c2_2 : w2.cell? ⟨PO, 2, none⟩ = some (.int .i64 0) := by rw [cell_block BK2.out]; rfl
  have c2_3 : w2.cell? ⟨PO, 3, none⟩ = some (.int .i64 0) := by rw [cell_block BK2.out]; rfl
  have c2_4 : w2.cell? ⟨PO, 4, none⟩ = some (.int .i64 0) := by rw [cell_block BK2.out]; rfl
  have c2_5 : w2.cell? ⟨PO, 5, none⟩ = some (.int .i64 0) := by rw [cell_block BK2.out]; rfl
  have c2_6 : w2.cell? ⟨PO, 6, none⟩ = some (.int .i64 0) := by rw [cell_block BK2.out]; rfl
  have c2_7 : w2.cell? ⟨PO, 7, none⟩ = some (.int .i64 0) := by rw [cell_block BK2.out]; rfl
  have l2 : PO < w2.heap.size := lt_of_block BK2.out
  have f2 : ∀ o, w2.frozen? ⟨PO, o, none⟩ = false := fun o => free_block BK2.out
  go_upto_block 0 with fail
  clear hWPO hPO c2_0 c2_1 c2_2 c2_3 c2_4 c2_5 c2_6 c2_7 l2 f2
  generalize hW : (((((((w2.setCell ⟨PO, 1, none⟩ (.int .i64 0)).setCell ⟨PO, 2, none⟩ (.int .i64 0)).setCell ⟨PO, 3, none⟩ (.int .i64 0)).setCell ⟨PO, 4, none⟩ (.int .i64 0)).setCell ⟨PO, 5, none⟩ (.int .i64 0)).setCell ⟨PO, 6, none⟩ (.int .i64 0)).setCell ⟨PO, 7, none⟩ (.int .i64 0)) = w2b
  have nGG : Hid (w.grownBy w2b (some B)) := by show World.grownBy _ _ _; rw [← hW]; exact grownBy_setNew (grownBy_setNew (grownBy_setNew (grownBy_setNew (grownBy_setNew (grownBy_setNew (grownBy_setNew (GG.out) (by simp; omega) _) (by simp; omega) _) (by simp; omega) _) (by simp; omega) _) (by simp; omega) _) (by simp; omega) _) (by simp; omega) _
  have nRD : Hid (RdAt w2b B a len cap zs (pos + 1)) := by show RdAt _ _ _ _ _ _ _; rw [← hW]; exact RdAt.set (RdAt.set (RdAt.set (RdAt.set (RdAt.set (RdAt.set (RdAt.set (RD.out) (by simp; omega) _) (by simp; omega) _) (by simp; omega) _) (by simp; omega) _) (by simp; omega) _) (by simp; omega) _) (by simp; omega) _
  have nBK0 : Hid (w2b.heap[w.heap.size]? = some (.cells #[.slice a1 n c1, .slice a2 m c2] 26 (0, 0))) := by show _ = _; rw [← hW, Below.heap_setCell _ _ _ _ (by simp; omega), Below.heap_setCell _ _ _ _ (by simp; omega), Below.heap_setCell _ _ _ _ (by simp; omega), Below.heap_setCell _ _ _ _ (by simp; omega), Below.heap_setCell _ _ _ _ (by simp; omega), Below.heap_setCell _ _ _ _ (by simp; omega), Below.heap_setCell _ _ _ _ (by simp; omega)]; exact BK0.out
  have nBK1 : Hid (w2b.heap[w.heap.size + 1]? = some (.cells #[.int .i64 0, .int .i64 0, .int .i64 0, .int .i64 0, .int .i64 0, .int .i64 0, .int .i64 0, .int .i64 0] 50 (0, 0))) := by show _ = _; rw [← hW, Below.heap_setCell _ _ _ _ (by simp; omega), Below.heap_setCell _ _ _ _ (by simp; omega), Below.heap_setCell _ _ _ _ (by simp; omega), Below.heap_setCell _ _ _ _ (by simp; omega), Below.heap_setCell _ _ _ _ (by simp; omega), Below.heap_setCell _ _ _ _ (by simp; omega), Below.heap_setCell _ _ _ _ (by simp; omega)]; exact BK1.out
  have nBK2 : Hid (w2b.heap[PO]? = some (.cells #[.int .i64 k, .int .i64 0, .int .i64 0, .int .i64 0, .int .i64 0, .int .i64 0, .int .i64 0, .int .i64 0] 50 (0, 0))) := by show _ = _; rw [← hW]; exact set_block _ (set_block _ (set_block _ (set_block _ (set_block _ (set_block _ (set_block _ (BK2.out)))))))
  clear GG RD BK0 BK1 BK2
  have GG := nGG
  have RD := nRD
  clear nGG nRD
  have BK0 := nBK0
  clear nBK0
  have BK1 := nBK1
  clear nBK1
  have BK2 := nBK2
  clear nBK2
  clear hW
  go_cut [2] (fun s2 wx => ∃ (k nl nn l al an bl bn q : Int), q ≤ pos + 13 ∧ RdAt wx B a len cap zs q ∧ w.grownBy wx (some B) ∧ wx.heap[w.heap.size]? = some (.cells #[.slice a1 n c1, .slice a2 m c2] 26 (0, 0)) ∧ wx.heap[w.heap.size + 1]? = some (.cells #[.int .i64 0, .int .i64 0, .int .i64 0, .int .i64 0, .int .i64 0, .int .i64 0, .int .i64 0, .int .i64 0] 50 (0, 0)) ∧ wx.heap[PO]? = some (.cells #[.int .i64 k, .int .i64 nl, .int .i64 nn, .int .i64 l, .int .i64 al, .int .i64 an, .int .i64 bl, .int .i64 bn] 50 (0, 0)))
  case first =>
    rcases hk4 with rfl | rfl | rfl | rfl
    · have c2_0 : w2b.cell? ⟨PO, 0, none⟩ = some (.int .i64 1) := by rw [cell_block BK2.out]; rfl
      have c2_1 : w2b.cell? ⟨PO, 1, none⟩ = some (.int .i64 0) := by rw [cell_block BK2.out]; rfl
      have c2_2 : w2b.cell? ⟨PO, 2, none⟩ = some (.int .i64 0) := by rw [cell_block BK2.out]; rfl
      have c2_3 : w2b.cell? ⟨PO, 3, none⟩ = some (.int .i64 0) := by rw [cell_block BK2.out]; rfl
      have c2_4 : w2b.cell? ⟨PO, 4, none⟩ = some (.int .i64 0) := by rw [cell_block BK2.out]; rfl
      have c2_5 : w2b.cell? ⟨PO, 5, none⟩ = some (.int .i64 0) := by rw [cell_block BK2.out]; rfl
      have c2_6 : w2b.cell? ⟨PO, 6, none⟩ = some (.int .i64 0) := by rw [cell_block BK2.out]; rfl
      have c2_7 : w2b.cell? ⟨PO, 7, none⟩ = some (.int .i64 0) := by rw [cell_block BK2.out]; rfl
      have l2 : PO < w2b.heap.size := lt_of_block BK2.out
      have f2 : ∀ o, w2b.frozen? ⟨PO, o, none⟩ = false := fun o => free_block BK2.out
      go_wp2_with fail
      clear c2_0 c2_1 c2_2 c2_3 c2_4 c2_5 c2_6 c2_7 l2 f2
      refine (l2Node _ _ _ _ _ _ _ RD.out (by omega)).mono ?_
      rintro e w3 ⟨xl, xn, rfl, -, hr1, hg1⟩
      have nGG : Hid (w.grownBy w3 (some B)) := grownBy_trans GG.out hg1
      have nRD : Hid (RdAt w3 B a len cap zs (pos + 1 + 2)) := hr1
      have nBK0 : Hid (w3.heap[w.heap.size]? = some (.cells #[.slice a1 n c1, .slice a2 m c2] 26 (0, 0))) := by show _ = _; rw [hg1.block (w.heap.size) (lt_of_block BK0.out) (by simp; omega)]; exact BK0.out
      have nBK1 : Hid (w3.heap[w.heap.size + 1]? = some (.cells #[.int .i64 0, .int .i64 0, .int .i64 0, .int .i64 0, .int .i64 0, .int .i64 0, .int .i64 0, .int .i64 0] 50 (0, 0))) := by show _ = _; rw [hg1.block (w.heap.size + 1) (lt_of_block BK1.out) (by simp; omega)]; exact BK1.out
      have nBK2 : Hid (w3.heap[PO]? = some (.cells #[.int .i64 1, .int .i64 0, .int .i64 0, .int .i64 0, .int .i64 0, .int .i64 0, .int .i64 0, .int .i64 0] 50 (0, 0))) := by show _ = _; rw [hg1.block (PO) (lt_of_block BK2.out) (by simp; omega)]; exact BK2.out
      clear GG RD BK0 BK1 BK2
      have GG := nGG
      have RD := nRD
      clear nGG nRD
      have BK0 := nBK0
      clear nBK0
      have BK1 := nBK1
      clear nBK1
      have BK2 := nBK2
      clear nBK2
      clear hg1 hr1
      have c2_0 : w3.cell? ⟨PO, 0, none⟩ = some (.int .i64 1) := by rw [cell_block BK2.out]; rfl
      have c2_1 : w3.cell? ⟨PO, 1, none⟩ = some (.int .i64 0) := by rw [cell_block BK2.out]; rfl
      have c2_2 : w3.cell? ⟨PO, 2, none⟩ = some (.int .i64 0) := by rw [cell_block BK2.out]; rfl
      have c2_3 : w3.cell? ⟨PO, 3, none⟩ = some (.int .i64 0) := by rw [cell_block BK2.out]; rfl
      have c2_4 : w3.cell? ⟨PO, 4, none⟩ = some (.int .i64 0) := by rw [cell_block BK2.out]; rfl
      have c2_5 : w3.cell? ⟨PO, 5, none⟩ = some (.int .i64 0) := by rw [cell_block BK2.out]; rfl
      have c2_6 : w3.cell? ⟨PO, 6, none⟩ = some (.int .i64 0) := by rw [cell_block BK2.out]; rfl
      have c2_7 : w3.cell? ⟨PO, 7, none⟩ = some (.int .i64 0) := by rw [cell_block BK2.out]; rfl
      have l2 : PO < w3.heap.size := lt_of_block BK2.out
      have f2 : ∀ o, w3.frozen? ⟨PO, o, none⟩ = false := fun o => free_block BK2.out
      go_wp2_with fail
      clear c2_0 c2_1 c2_2 c2_3 c2_4 c2_5 c2_6 c2_7 l2 f2
      generalize hW : ((w3.setCell ⟨PO, 1, none⟩ (.int .i64 xl)).setCell ⟨PO, 2, none⟩ (.int .i64 xn)) = w4
      have nGG : Hid (w.grownBy w4 (some B)) := by show World.grownBy _ _ _; rw [← hW]; exact grownBy_setNew (grownBy_setNew (GG.out) (by simp; omega) _) (by simp; omega) _
      have nRD : Hid (RdAt w4 B a len cap zs (pos + 1 + 2)) := by show RdAt _ _ _ _ _ _ _; rw [← hW]; exact RdAt.set (RdAt.set (RD.out) (by simp; omega) _) (by simp; omega) _
      have nBK0 : Hid (w4.heap[w.heap.size]? = some (.cells #[.slice a1 n c1, .slice a2 m c2] 26 (0, 0))) := by show _ = _; rw [← hW, Below.heap_setCell _ _ _ _ (by simp; omega), Below.heap_setCell _ _ _ _ (by simp; omega)]; exact BK0.out
      have nBK1 : Hid (w4.heap[w.heap.size + 1]? = some (.cells #[.int .i64 0, .int .i64 0, .int .i64 0, .int .i64 0, .int .i64 0, .int .i64 0, .int .i64 0, .int .i64 0] 50 (0, 0))) := by show _ = _; rw [← hW, Below.heap_setCell _ _ _ _ (by simp; omega), Below.heap_setCell _ _ _ _ (by simp; omega)]; exact BK1.out
      have nBK2 : Hid (w4.heap[PO]? = some (.cells #[.int .i64 1, .int .i64 xl, .int .i64 xn, .int .i64 0, .int .i64 0, .int .i64 0, .int .i64 0, .int .i64 0] 50 (0, 0))) := by show _ = _; rw [← hW]; exact set_block _ (set_block _ (BK2.out))
      clear GG RD BK0 BK1 BK2
      have GG := nGG
      have RD := nRD
      clear nGG nRD
      have BK0 := nBK0
      clear nBK0
      have BK1 := nBK1
      clear nBK1
      have BK2 := nBK2
      clear nBK2
      clear hW
      go_meet
      exact ⟨_, _, _, _, _, _, _, _, _, by omega, RD.out, GG.out, BK0.out, BK1.out, BK2.out⟩
    · have c0_0 : w2b.cell? ⟨w.heap.size, 0, none⟩ = some (.slice a1 n c1) := by rw [cell_block BK0.out]; rfl
      have c0_1 : w2b.cell? ⟨w.heap.size, 1, none⟩ = some (.slice a2 m c2) := by rw [cell_block BK0.out]; rfl
      have l0 : w.heap.size < w2b.heap.size := lt_of_block BK0.out
      have f0 : ∀ o, w2b.frozen? ⟨w.heap.size, o, none⟩ = false := fun o => free_block BK0.out
      have c2_0 : w2b.cell? ⟨PO, 0, none⟩ = some (.int .i64 2) := by rw [cell_block BK2.out]; rfl
      have c2_1 : w2b.cell? ⟨PO, 1, none⟩ = some (.int .i64 0) := by rw [cell_block BK2.out]; rfl
      have c2_2 : w2b.cell? ⟨PO, 2, none⟩ = some (.int .i64 0) := by rw [cell_block BK2.out]; rfl
      have c2_3 : w2b.cell? ⟨PO, 3, none⟩ = some (.int .i64 0) := by rw [cell_block BK2.out]; rfl
      have c2_4 : w2b.cell? ⟨PO, 4, none⟩ = some (.int .i64 0) := by rw [cell_block BK2.out]; rfl
      have c2_5 : w2b.cell? ⟨PO, 5, none⟩ = some (.int .i64 0) := by rw [cell_block BK2.out]; rfl
      have c2_6 : w2b.cell? ⟨PO, 6, none⟩ = some (.int .i64 0) := by rw [cell_block BK2.out]; rfl
      have c2_7 : w2b.cell? ⟨PO, 7, none⟩ = some (.int .i64 0) := by rw [cell_block BK2.out]; rfl
      have l2 : PO < w2b.heap.size := lt_of_block BK2.out
      have f2 : ∀ o, w2b.frozen? ⟨PO, o, none⟩ = false := fun o => free_block BK2.out
      go_wp2_with fail
      clear c0_0 c0_1 l0 f0 c2_0 c2_1 c2_2 c2_3 c2_4 c2_5 c2_6 c2_7 l2 f2
      refine (l2EdgeN B len cap n m c1 c2 a a1 a2 zs _ ns _ HN.out RD.out (by omega) (row_gr (by decide) encNode_two H1.out.1 H0.out GG.out) H1.out.2 hl).mono ?_
      rintro e w3 ⟨xl, xa, xan, xb, xbn, q1, rfl, hq1, hr1, hg1⟩
      have nGG : Hid (w.grownBy w3 (some B)) := grownBy_trans GG.out hg1
      have nRD : Hid (RdAt w3 B a len cap zs (q1)) := hr1
      have nBK0 : Hid (w3.heap[w.heap.size]? = some (.cells #[.slice a1 n c1, .slice a2 m c2] 26 (0, 0))) := by show _ = _; rw [hg1.block (w.heap.size) (lt_of_block BK0.out) (by simp; omega)]; exact BK0.out
      have nBK1 : Hid (w3.heap[w.heap.size + 1]? = some (.cells #[.int .i64 0, .int .i64 0, .int .i64 0, .int .i64 0, .int .i64 0, .int .i64 0, .int .i64 0, .int .i64 0] 50 (0, 0))) := by show _ = _; rw [hg1.block (w.heap.size + 1) (lt_of_block BK1.out) (by simp; omega)]; exact BK1.out
      have nBK2 : Hid (w3.heap[PO]? = some (.cells #[.int .i64 2, .int .i64 0, .int .i64 0, .int .i64 0, .int .i64 0, .int .i64 0, .int .i64 0, .int .i64 0] 50 (0, 0))) := by show _ = _; rw [hg1.block (PO) (lt_of_block BK2.out) (by simp; omega)]; exact BK2.out
      clear GG RD BK0 BK1 BK2
      have GG := nGG
      have RD := nRD
      clear nGG nRD
      have BK0 := nBK0
      clear nBK0
      have BK1 := nBK1
      clear nBK1
      have BK2 := nBK2
      clear nBK2
      clear hg1 hr1
      have c2_0 : w3.cell? ⟨PO, 0, none⟩ = some (.int .i64 2) := by rw [cell_block BK2.out]; rfl
      have c2_1 : w3.cell? ⟨PO, 1, none⟩ = some (.int .i64 0) := by rw [cell_block BK2.out]; rfl
      have c2_2 : w3.cell? ⟨PO, 2, none⟩ = some (.int .i64 0) := by rw [cell_block BK2.out]; rfl
      have c2_3 : w3.cell? ⟨PO, 3, none⟩ = some (.int .i64 0) := by rw [cell_block BK2.out]; rfl
      have c2_4 : w3.cell? ⟨PO, 4, none⟩ = some (.int .i64 0) := by rw [cell_block BK2.out]; rfl
      have c2_5 : w3.cell? ⟨PO, 5, none⟩ = some (.int .i64 0) := by rw [cell_block BK2.out]; rfl
      have c2_6 : w3.cell? ⟨PO, 6, none⟩ = some (.int .i64 0) := by rw [cell_block BK2.out]; rfl
      have c2_7 : w3.cell? ⟨PO, 7, none⟩ = some (.int .i64 0) := by rw [cell_block BK2.out]; rfl
      have l2 : PO < w3.heap.size := lt_of_block BK2.out
      have f2 : ∀ o, w3.frozen? ⟨PO, o, none⟩ = false := fun o => free_block BK2.out
      go_wp2_with fail
      clear c2_0 c2_1 c2_2 c2_3 c2_4 c2_5 c2_6 c2_7 l2 f2
      generalize hW : (((((w3.setCell ⟨PO, 3, none⟩ (.int .i64 xl)).setCell ⟨PO, 4, none⟩ (.int .i64 xa)).setCell ⟨PO, 5, none⟩ (.int .i64 xan)).setCell ⟨PO, 6, none⟩ (.int .i64 xb)).setCell ⟨PO, 7, none⟩ (.int .i64 xbn)) = w4
      have nGG : Hid (w.grownBy w4 (some B)) := by show World.grownBy _ _ _; rw [← hW]; exact grownBy_setNew (grownBy_setNew (grownBy_setNew (grownBy_setNew (grownBy_setNew (GG.out) (by simp; omega) _) (by simp; omega) _) (by simp; omega) _) (by simp; omega) _) (by simp; omega) _
      have nRD : Hid (RdAt w4 B a len cap zs (q1)) := by show RdAt _ _ _ _ _ _ _; rw [← hW]; exact RdAt.set (RdAt.set (RdAt.set (RdAt.set (RdAt.set (RD.out) (by simp; omega) _) (by simp; omega) _) (by simp; omega) _) (by simp; omega) _) (by simp; omega) _
      have nBK0 : Hid (w4.heap[w.heap.size]? = some (.cells #[.slice a1 n c1, .slice a2 m c2] 26 (0, 0))) := by show _ = _; rw [← hW, Below.heap_setCell _ _ _ _ (by simp; omega), Below.heap_setCell _ _ _ _ (by simp; omega), Below.heap_setCell _ _ _ _ (by simp; omega), Below.heap_setCell _ _ _ _ (by simp; omega), Below.heap_setCell _ _ _ _ (by simp; omega)]; exact BK0.out
      have nBK1 : Hid (w4.heap[w.heap.size + 1]? = some (.cells #[.int .i64 0, .int .i64 0, .int .i64 0, .int .i64 0, .int .i64 0, .int .i64 0, .int .i64 0, .int .i64 0] 50 (0, 0))) := by show _ = _; rw [← hW, Below.heap_setCell _ _ _ _ (by simp; omega), Below.heap_setCell _ _ _ _ (by simp; omega), Below.heap_setCell _ _ _ _ (by simp; omega), Below.heap_setCell _ _ _ _ (by simp; omega), Below.heap_setCell _ _ _ _ (by simp; omega)]; exact BK1.out
      have nBK2 : Hid (w4.heap[PO]? = some (.cells #[.int .i64 2, .int .i64 0, .int .i64 0, .int .i64 xl, .int .i64 xa, .int .i64 xan, .int .i64 xb, .int .i64 xbn] 50 (0, 0))) := by show _ = _; rw [← hW]; exact set_block _ (set_block _ (set_block _ (set_block _ (set_block _ (BK2.out)))))
      clear GG RD BK0 BK1 BK2
      have GG := nGG
      have RD := nRD
      clear nGG nRD
      have BK0 := nBK0
      clear nBK0
      have BK1 := nBK1
      clear nBK1
      have BK2 := nBK2
      clear nBK2
      clear hW
      go_meet
      exact ⟨_, _, _, _, _, _, _, _, _, by omega, RD.out, GG.out, BK0.out, BK1.out, BK2.out⟩
    · have c0_0 : w2b.cell? ⟨w.heap.size, 0, none⟩ = some (.slice a1 n c1) := by rw [cell_block BK0.out]; rfl
      have c0_1 : w2b.cell? ⟨w.heap.size, 1, none⟩ = some (.slice a2 m c2) := by rw [cell_block BK0.out]; rfl
      have l0 : w.heap.size < w2b.heap.size := lt_of_block BK0.out
      have f0 : ∀ o, w2b.frozen? ⟨w.heap.size, o, none⟩ = false := fun o => free_block BK0.out
      have c2_0 : w2b.cell? ⟨PO, 0, none⟩ = some (.int .i64 3) := by rw [cell_block BK2.out]; rfl
      have c2_1 : w2b.cell? ⟨PO, 1, none⟩ = some (.int .i64 0) := by rw [cell_block BK2.out]; rfl
      have c2_2 : w2b.cell? ⟨PO, 2, none⟩ = some (.int .i64 0) := by rw [cell_block BK2.out]; rfl
      have c2_3 : w2b.cell? ⟨PO, 3, none⟩ = some (.int .i64 0) := by rw [cell_block BK2.out]; rfl
      have c2_4 : w2b.cell? ⟨PO, 4, none⟩ = some (.int .i64 0) := by rw [cell_block BK2.out]; rfl
      have c2_5 : w2b.cell? ⟨PO, 5, none⟩ = some (.int .i64 0) := by rw [cell_block BK2.out]; rfl
      have c2_6 : w2b.cell? ⟨PO, 6, none⟩ = some (.int .i64 0) := by rw [cell_block BK2.out]; rfl
      have c2_7 : w2b.cell? ⟨PO, 7, none⟩ = some (.int .i64 0) := by rw [cell_block BK2.out]; rfl
      have l2 : PO < w2b.heap.size := lt_of_block BK2.out
      have f2 : ∀ o, w2b.frozen? ⟨PO, o, none⟩ = false := fun o => free_block BK2.out
      go_wp2_with fail
      clear c0_0 c0_1 l0 f0 c2_0 c2_1 c2_2 c2_3 c2_4 c2_5 c2_6 c2_7 l2 f2
      refine (l2EdgeN B len cap n m c1 c2 a a1 a2 zs _ ns _ HN.out RD.out (by omega) (row_gr (by decide) encNode_two H1.out.1 H0.out GG.out) H1.out.2 hl).mono ?_
      rintro e w3 ⟨xl, xa, xan, xb, xbn, q1, rfl, hq1, hr1, hg1⟩
      have nGG : Hid (w.grownBy w3 (some B)) := grownBy_trans GG.out hg1
      have nRD : Hid (RdAt w3 B a len cap zs (q1)) := hr1
      have nBK0 : Hid (w3.heap[w.heap.size]? = some (.cells #[.slice a1 n c1, .slice a2 m c2] 26 (0, 0))) := by show _ = _; rw [hg1.block (w.heap.size) (lt_of_block BK0.out) (by simp; omega)]; exact BK0.out
      have nBK1 : Hid (w3.heap[w.heap.size + 1]? = some (.cells #[.int .i64 0, .int .i64 0, .int .i64 0, .int .i64 0, .int .i64 0, .int .i64 0, .int .i64 0, .int .i64 0] 50 (0, 0))) := by show _ = _; rw [hg1.block (w.heap.size + 1) (lt_of_block BK1.out) (by simp; omega)]; exact BK1.out
      have nBK2 : Hid (w3.heap[PO]? = some (.cells #[.int .i64 3, .int .i64 0, .int .i64 0, .int .i64 0, .int .i64 0, .int .i64 0, .int .i64 0, .int .i64 0] 50 (0, 0))) := by show _ = _; rw [hg1.block (PO) (lt_of_block BK2.out) (by simp; omega)]; exact BK2.out
      clear GG RD BK0 BK1 BK2
      have GG := nGG
      have RD := nRD
      clear nGG nRD
      have BK0 := nBK0
      clear nBK0
      have BK1 := nBK1
      clear nBK1
      have BK2 := nBK2
      clear nBK2
      clear hg1 hr1
      have c2_0 : w3.cell? ⟨PO, 0, none⟩ = some (.int .i64 3) := by rw [cell_block BK2.out]; rfl
      have c2_1 : w3.cell? ⟨PO, 1, none⟩ = some (.int .i64 0) := by rw [cell_block BK2.out]; rfl
      have c2_2 : w3.cell? ⟨PO, 2, none⟩ = some (.int .i64 0) := by rw [cell_block BK2.out]; rfl
      have c2_3 : w3.cell? ⟨PO, 3, none⟩ = some (.int .i64 0) := by rw [cell_block BK2.out]; rfl
      have c2_4 : w3.cell? ⟨PO, 4, none⟩ = some (.int .i64 0) := by rw [cell_block BK2.out]; rfl
      have c2_5 : w3.cell? ⟨PO, 5, none⟩ = some (.int .i64 0) := by rw [cell_block BK2.out]; rfl
      have c2_6 : w3.cell? ⟨PO, 6, none⟩ = some (.int .i64 0) := by rw [cell_block BK2.out]; rfl
      have c2_7 : w3.cell? ⟨PO, 7, none⟩ = some (.int .i64 0) := by rw [cell_block BK2.out]; rfl
      have l2 : PO < w3.heap.size := lt_of_block BK2.out
      have f2 : ∀ o, w3.frozen? ⟨PO, o, none⟩ = false := fun o => free_block BK2.out
      have HIE : Hid (∀ W, w.grownBy W (some B) → 0 < m → ∃ b0 off, a2 = some ⟨b0, off, none⟩ ∧ b0 < W.heap.size ∧ ∀ j : Nat, j < m → ∃ v0 v1 v2 v3 v4 : Int, W.cell? ⟨b0, off + j * 5, none⟩ = some (.int .i64 v0) ∧ W.cell? ⟨b0, off + j * 5 + 1, none⟩ = some (.int .i64 v1) ∧ W.cell? ⟨b0, off + j * 5 + 2, none⟩ = some (.int .i64 v2) ∧ W.cell? ⟨b0, off + j * 5 + 3, none⟩ = some (.int .i64 v3) ∧ W.cell? ⟨b0, off + j * 5 + 4, none⟩ = some (.int .i64 v4)) := fun W hW hn0 => by
        have hrow := row_gr (by decide) encEdge_two H2.out H0.out hW
        rcases hrow with ⟨hz, _⟩ | ⟨_, b0, off, c, hv, hb, hc⟩
        · have := HM.out; rw [hz] at this; simp at this; omega
        · simp only [Value.slice.injEq] at hv
          refine ⟨b0, off, hv.1, hb, fun j hj => ?_⟩
          obtain ⟨⟨v0, v1, v2, v3, v4⟩, hx⟩ : ∃ x, es[j]? = some x := ⟨_, List.getElem?_eq_getElem (by rw [← HM.out]; exact hj)⟩
          exact ⟨v0, v1, v2, v3, v4, hc j _ hx 0 _ rfl, hc j _ hx 1 _ rfl, hc j _ hx 2 _ rfl, hc j _ hx 3 _ rfl, hc j _ hx 4 _ rfl⟩
      go_upto_region 9 with fail
      clear c2_0 c2_1 c2_2 c2_3 c2_4 c2_5 c2_6 c2_7 l2 f2
      generalize hW : (((((w3.setCell ⟨PO, 3, none⟩ (.int .i64 xl)).setCell ⟨PO, 4, none⟩ (.int .i64 xa)).setCell ⟨PO, 5, none⟩ (.int .i64 xan)).setCell ⟨PO, 6, none⟩ (.int .i64 xb)).setCell ⟨PO, 7, none⟩ (.int .i64 xbn)) = w4
      have nGG : Hid (w.grownBy w4 (some B)) := by show World.grownBy _ _ _; rw [← hW]; exact grownBy_setNew (grownBy_setNew (grownBy_setNew (grownBy_setNew (grownBy_setNew (GG.out) (by simp; omega) _) (by simp; omega) _) (by simp; omega) _) (by simp; omega) _) (by simp; omega) _
      have nRD : Hid (RdAt w4 B a len cap zs (q1)) := by show RdAt _ _ _ _ _ _ _; rw [← hW]; exact RdAt.set (RdAt.set (RdAt.set (RdAt.set (RdAt.set (RD.out) (by simp; omega) _) (by simp; omega) _) (by simp; omega) _) (by simp; omega) _) (by simp; omega) _
      have nBK0 : Hid (w4.heap[w.heap.size]? = some (.cells #[.slice a1 n c1, .slice a2 m c2] 26 (0, 0))) := by show _ = _; rw [← hW, Below.heap_setCell _ _ _ _ (by simp; omega), Below.heap_setCell _ _ _ _ (by simp; omega), Below.heap_setCell _ _ _ _ (by simp; omega), Below.heap_setCell _ _ _ _ (by simp; omega), Below.heap_setCell _ _ _ _ (by simp; omega)]; exact BK0.out
      have nBK1 : Hid (w4.heap[w.heap.size + 1]? = some (.cells #[.int .i64 0, .int .i64 0, .int .i64 0, .int .i64 0, .int .i64 0, .int .i64 0, .int .i64 0, .int .i64 0] 50 (0, 0))) := by show _ = _; rw [← hW, Below.heap_setCell _ _ _ _ (by simp; omega), Below.heap_setCell _ _ _ _ (by simp; omega), Below.heap_setCell _ _ _ _ (by simp; omega), Below.heap_setCell _ _ _ _ (by simp; omega), Below.heap_setCell _ _ _ _ (by simp; omega)]; exact BK1.out
      have nBK2 : Hid (w4.heap[PO]? = some (.cells #[.int .i64 3, .int .i64 0, .int .i64 0, .int .i64 xl, .int .i64 xa, .int .i64 xan, .int .i64 xb, .int .i64 xbn] 50 (0, 0))) := by show _ = _; rw [← hW]; exact set_block _ (set_block _ (set_block _ (set_block _ (set_block _ (BK2.out)))))
      clear GG RD BK0 BK1 BK2
      have GG := nGG
      have RD := nRD
      clear nGG nRD
      have BK0 := nBK0
      clear nBK0
      have BK1 := nBK1
      clear nBK1
      have BK2 := nBK2
      clear nBK2
      clear hW
      by_cases hlen : 0 < m
      · have hlen' : (0 : Int) < (m : Int) := by omega
        have c0_0 : w4.cell? ⟨w.heap.size, 0, none⟩ = some (.slice a1 n c1) := by rw [cell_block BK0.out]; rfl
        have c0_1 : w4.cell? ⟨w.heap.size, 1, none⟩ = some (.slice a2 m c2) := by rw [cell_block BK0.out]; rfl
        have l0 : w.heap.size < w4.heap.size := lt_of_block BK0.out
        have f0 : ∀ o, w4.frozen? ⟨w.heap.size, o, none⟩ = false := fun o => free_block BK0.out
        have c2_0 : w4.cell? ⟨PO, 0, none⟩ = some (.int .i64 3) := by rw [cell_block BK2.out]; rfl
        have c2_1 : w4.cell? ⟨PO, 1, none⟩ = some (.int .i64 0) := by rw [cell_block BK2.out]; rfl
        have c2_2 : w4.cell? ⟨PO, 2, none⟩ = some (.int .i64 0) := by rw [cell_block BK2.out]; rfl
        have c2_3 : w4.cell? ⟨PO, 3, none⟩ = some (.int .i64 xl) := by rw [cell_block BK2.out]; rfl
        have c2_4 : w4.cell? ⟨PO, 4, none⟩ = some (.int .i64 xa) := by rw [cell_block BK2.out]; rfl
        have c2_5 : w4.cell? ⟨PO, 5, none⟩ = some (.int .i64 xan) := by rw [cell_block BK2.out]; rfl
        have c2_6 : w4.cell? ⟨PO, 6, none⟩ = some (.int .i64 xb) := by rw [cell_block BK2.out]; rfl
        have c2_7 : w4.cell? ⟨PO, 7, none⟩ = some (.int .i64 xbn) := by rw [cell_block BK2.out]; rfl
        have l2 : PO < w4.heap.size := lt_of_block BK2.out
        have f2 : ∀ o, w4.frozen? ⟨PO, o, none⟩ = false := fun o => free_block BK2.out
        go_wp2_with fail
        clear c0_0 c0_1 l0 f0 c2_0 c2_1 c2_2 c2_3 c2_4 c2_5 c2_6 c2_7 l2 f2
        refine (pick B len cap a zs _ _ _ RD.out (by omega) (by omega) (by omega)).mono ?_
        rintro e w5 ⟨xp, rfl, hx0, hx1, hr1, hg1⟩
        have nGG : Hid (w.grownBy w5 (some B)) := grownBy_trans GG.out hg1
        have nRD : Hid (RdAt w5 B a len cap zs (q1 + 1)) := hr1
        have nBK0 : Hid (w5.heap[w.heap.size]? = some (.cells #[.slice a1 n c1, .slice a2 m c2] 26 (0, 0))) := by show _ = _; rw [hg1.block (w.heap.size) (lt_of_block BK0.out) (by simp; omega)]; exact BK0.out
        have nBK1 : Hid (w5.heap[w.heap.size + 1]? = some (.cells #[.int .i64 0, .int .i64 0, .int .i64 0, .int .i64 0, .int .i64 0, .int .i64 0, .int .i64 0, .int .i64 0] 50 (0, 0))) := by show _ = _; rw [hg1.block (w.heap.size + 1) (lt_of_block BK1.out) (by simp; omega)]; exact BK1.out
        have nBK2 : Hid (w5.heap[PO]? = some (.cells #[.int .i64 3, .int .i64 0, .int .i64 0, .int .i64 xl, .int .i64 xa, .int .i64 xan, .int .i64 xb, .int .i64 xbn] 50 (0, 0))) := by show _ = _; rw [hg1.block (PO) (lt_of_block BK2.out) (by simp; omega)]; exact BK2.out
        clear GG RD BK0 BK1 BK2
        have GG := nGG
        have RD := nRD
        clear nGG nRD
        have BK0 := nBK0
        clear nBK0
        have BK1 := nBK1
        clear nBK1
        have BK2 := nBK2
        clear nBK2
        clear hg1 hr1
        by_cases hxp : 0 < xp
        · obtain ⟨b0, off, rfl, -, -⟩ := HIE.out _ GG.out hlen
          have c0_0 : w5.cell? ⟨w.heap.size, 0, none⟩ = some (.slice a1 n c1) := by rw [cell_block BK0.out]; rfl
          have c0_1 : w5.cell? ⟨w.heap.size, 1, none⟩ = some (.slice (some ⟨b0, off, none⟩) m c2) := by rw [cell_block BK0.out]; rfl
          have l0 : w.heap.size < w5.heap.size := lt_of_block BK0.out
          have f0 : ∀ o, w5.frozen? ⟨w.heap.size, o, none⟩ = false := fun o => free_block BK0.out
          have c2_0 : w5.cell? ⟨PO, 0, none⟩ = some (.int .i64 3) := by rw [cell_block BK2.out]; rfl
          have c2_1 : w5.cell? ⟨PO, 1, none⟩ = some (.int .i64 0) := by rw [cell_block BK2.out]; rfl
          have c2_2 : w5.cell? ⟨PO, 2, none⟩ = some (.int .i64 0) := by rw [cell_block BK2.out]; rfl
          have c2_3 : w5.cell? ⟨PO, 3, none⟩ = some (.int .i64 xl) := by rw [cell_block BK2.out]; rfl
          have c2_4 : w5.cell? ⟨PO, 4, none⟩ = some (.int .i64 xa) := by rw [cell_block BK2.out]; rfl
          have c2_5 : w5.cell? ⟨PO, 5, none⟩ = some (.int .i64 xan) := by rw [cell_block BK2.out]; rfl
          have c2_6 : w5.cell? ⟨PO, 6, none⟩ = some (.int .i64 xb) := by rw [cell_block BK2.out]; rfl
          have c2_7 : w5.cell? ⟨PO, 7, none⟩ = some (.int .i64 xbn) := by rw [cell_block BK2.out]; rfl
          have l2 : PO < w5.heap.size := lt_of_block BK2.out
          have f2 : ∀ o, w5.frozen? ⟨PO, o, none⟩ = false := fun o => free_block BK2.out
          go_wp2_with fail
          clear c0_0 c0_1 l0 f0 c2_0 c2_1 c2_2 c2_3 c2_4 c2_5 c2_6 c2_7 l2 f2
          have c0_0 : w5.cell? ⟨w.heap.size, 0, none⟩ = some (.slice a1 n c1) := by rw [cell_block BK0.out]; rfl
          have c0_1 : w5.cell? ⟨w.heap.size, 1, none⟩ = some (.slice (some ⟨b0, off, none⟩) m c2) := by rw [cell_block BK0.out]; rfl
          have l0 : w.heap.size < w5.heap.size := lt_of_block BK0.out
          have f0 : ∀ o, w5.frozen? ⟨w.heap.size, o, none⟩ = false := fun o => free_block BK0.out
          have c2_0 : w5.cell? ⟨PO, 0, none⟩ = some (.int .i64 3) := by rw [cell_block BK2.out]; rfl
          have c2_1 : w5.cell? ⟨PO, 1, none⟩ = some (.int .i64 0) := by rw [cell_block BK2.out]; rfl
          have c2_2 : w5.cell? ⟨PO, 2, none⟩ = some (.int .i64 0) := by rw [cell_block BK2.out]; rfl
          have c2_3 : w5.cell? ⟨PO, 3, none⟩ = some (.int .i64 xl) := by rw [cell_block BK2.out]; rfl
          have c2_4 : w5.cell? ⟨PO, 4, none⟩ = some (.int .i64 xa) := by rw [cell_block BK2.out]; rfl
          have c2_5 : w5.cell? ⟨PO, 5, none⟩ = some (.int .i64 xan) := by rw [cell_block BK2.out]; rfl
          have c2_6 : w5.cell? ⟨PO, 6, none⟩ = some (.int .i64 xb) := by rw [cell_block BK2.out]; rfl
          have c2_7 : w5.cell? ⟨PO, 7, none⟩ = some (.int .i64 xbn) := by rw [cell_block BK2.out]; rfl
          have l2 : PO < w5.heap.size := lt_of_block BK2.out
          have f2 : ∀ o, w5.frozen? ⟨PO, o, none⟩ = false := fun o => free_block BK2.out
          go_region_with (first
            | (go_at_call 80; refine (pick B len cap a zs _ _ w5.drew RD.out (by omega) (by omega) (by omega)).mono ?_; rintro e w6 ⟨jj, rfl, hj0, hj1, hr1, hg1'⟩; have hg1 := gr_drew hg1'; obtain ⟨j, rfl⟩ := Int.eq_ofNat_of_zero_le hj0; have hjn : j < m := (by omega); obtain ⟨b1, off1, hab, lb, hce⟩ := HIE.out _ (grownBy_trans GG.out hg1) hlen; obtain ⟨rfl, rfl⟩ : b0 = b1 ∧ off = off1 := (by simpa using hab); obtain ⟨v0, v1, v2, v3, v4, e0, e1, e2, e3, e4⟩ := hce j hjn; clear hab hce; have g00 : w6.cell? ⟨w.heap.size, 0, none⟩ = some (.slice a1 n c1) := (by rw [World.cell?_of_block (hg1.block (w.heap.size) (lt_of_block BK0.out) (by simp; omega))]; exact c0_0); have g01 : w6.cell? ⟨w.heap.size, 1, none⟩ = some (.slice (some ⟨b0, off, none⟩) m c2) := (by rw [World.cell?_of_block (hg1.block (w.heap.size) (lt_of_block BK0.out) (by simp; omega))]; exact c0_1); have gl0 : w.heap.size < w6.heap.size := Nat.lt_of_lt_of_le (lt_of_block BK0.out) hg1.size; have g20 : w6.cell? ⟨PO, 0, none⟩ = some (.int .i64 3) := (by rw [World.cell?_of_block (hg1.block (PO) (lt_of_block BK2.out) (by simp; omega))]; exact c2_0); have g21 : w6.cell? ⟨PO, 1, none⟩ = some (.int .i64 0) := (by rw [World.cell?_of_block (hg1.block (PO) (lt_of_block BK2.out) (by simp; omega))]; exact c2_1); have g22 : w6.cell? ⟨PO, 2, none⟩ = some (.int .i64 0) := (by rw [World.cell?_of_block (hg1.block (PO) (lt_of_block BK2.out) (by simp; omega))]; exact c2_2); have g23 : w6.cell? ⟨PO, 3, none⟩ = some (.int .i64 xl) := (by rw [World.cell?_of_block (hg1.block (PO) (lt_of_block BK2.out) (by simp; omega))]; exact c2_3); have g24 : w6.cell? ⟨PO, 4, none⟩ = some (.int .i64 xa) := (by rw [World.cell?_of_block (hg1.block (PO) (lt_of_block BK2.out) (by simp; omega))]; exact c2_4); have g25 : w6.cell? ⟨PO, 5, none⟩ = some (.int .i64 xan) := (by rw [World.cell?_of_block (hg1.block (PO) (lt_of_block BK2.out) (by simp; omega))]; exact c2_5); have g26 : w6.cell? ⟨PO, 6, none⟩ = some (.int .i64 xb) := (by rw [World.cell?_of_block (hg1.block (PO) (lt_of_block BK2.out) (by simp; omega))]; exact c2_6); have g27 : w6.cell? ⟨PO, 7, none⟩ = some (.int .i64 xbn) := (by rw [World.cell?_of_block (hg1.block (PO) (lt_of_block BK2.out) (by simp; omega))]; exact c2_7); have gl2 : PO < w6.heap.size := Nat.lt_of_lt_of_le (lt_of_block BK2.out) hg1.size; have gf2 : ∀ o, w6.frozen? ⟨PO, o, none⟩ = false := (fun o => by rw [World.frozen?_of_block (hg1.block (PO) (lt_of_block BK2.out) (by simp; omega))]; exact f2 o)))
          clear c0_0 c0_1 l0 f0 c2_0 c2_1 c2_2 c2_3 c2_4 c2_5 c2_6 c2_7 l2 f2
          all_goals (
            clear g00 g01 g20 g21 g22 g23 g24 g25 g26 g27 gl0 gl2 gf2 e0 e1 e2 e3 e4 hg1' hj0 hj1
            have nGG : Hid (w.grownBy w6 (some B)) := grownBy_trans GG.out hg1
            have nRD : Hid (RdAt w6 B a len cap zs (q1 + 1 + 1)) := hr1
            have nBK0 : Hid (w6.heap[w.heap.size]? = some (.cells #[.slice a1 n c1, .slice (some ⟨b0, off, none⟩) m c2] 26 (0, 0))) := by show _ = _; rw [hg1.block (w.heap.size) (lt_of_block BK0.out) (by simp; omega)]; exact BK0.out
            have nBK1 : Hid (w6.heap[w.heap.size + 1]? = some (.cells #[.int .i64 0, .int .i64 0, .int .i64 0, .int .i64 0, .int .i64 0, .int .i64 0, .int .i64 0, .int .i64 0] 50 (0, 0))) := by show _ = _; rw [hg1.block (w.heap.size + 1) (lt_of_block BK1.out) (by simp; omega)]; exact BK1.out
            have nBK2 : Hid (w6.heap[PO]? = some (.cells #[.int .i64 3, .int .i64 0, .int .i64 0, .int .i64 xl, .int .i64 xa, .int .i64 xan, .int .i64 xb, .int .i64 xbn] 50 (0, 0))) := by show _ = _; rw [hg1.block (PO) (lt_of_block BK2.out) (by simp; omega)]; exact BK2.out
            clear GG RD BK0 BK1 BK2
            have GG := nGG
            have RD := nRD
            clear nGG nRD
            have BK0 := nBK0
            clear nBK0
            have BK1 := nBK1
            clear nBK1
            have BK2 := nBK2
            clear nBK2
            clear hg1 hr1
            generalize hW : (((((w6.setCell ⟨PO, 3, none⟩ (.int .i64 v0)).setCell ⟨PO, 4, none⟩ (.int .i64 v1)).setCell ⟨PO, 5, none⟩ (.int .i64 v2)).setCell ⟨PO, 6, none⟩ (.int .i64 v3)).setCell ⟨PO, 7, none⟩ (.int .i64 v4)) = w7
            have nGG : Hid (w.grownBy w7 (some B)) := by show World.grownBy _ _ _; rw [← hW]; exact grownBy_setNew (grownBy_setNew (grownBy_setNew (grownBy_setNew (grownBy_setNew (GG.out) (by simp; omega) _) (by simp; omega) _) (by simp; omega) _) (by simp; omega) _) (by simp; omega) _
            have nRD : Hid (RdAt w7 B a len cap zs (q1 + 1 + 1)) := by show RdAt _ _ _ _ _ _ _; rw [← hW]; exact RdAt.set (RdAt.set (RdAt.set (RdAt.set (RdAt.set (RD.out) (by simp; omega) _) (by simp; omega) _) (by simp; omega) _) (by simp; omega) _) (by simp; omega) _
            have nBK0 : Hid (w7.heap[w.heap.size]? = some (.cells #[.slice a1 n c1, .slice (some ⟨b0, off, none⟩) m c2] 26 (0, 0))) := by show _ = _; rw [← hW, Below.heap_setCell _ _ _ _ (by simp; omega), Below.heap_setCell _ _ _ _ (by simp; omega), Below.heap_setCell _ _ _ _ (by simp; omega), Below.heap_setCell _ _ _ _ (by simp; omega), Below.heap_setCell _ _ _ _ (by simp; omega)]; exact BK0.out
            have nBK1 : Hid (w7.heap[w.heap.size + 1]? = some (.cells #[.int .i64 0, .int .i64 0, .int .i64 0, .int .i64 0, .int .i64 0, .int .i64 0, .int .i64 0, .int .i64 0] 50 (0, 0))) := by show _ = _; rw [← hW, Below.heap_setCell _ _ _ _ (by simp; omega), Below.heap_setCell _ _ _ _ (by simp; omega), Below.heap_setCell _ _ _ _ (by simp; omega), Below.heap_setCell _ _ _ _ (by simp; omega), Below.heap_setCell _ _ _ _ (by simp; omega)]; exact BK1.out
            have nBK2 : Hid (w7.heap[PO]? = some (.cells #[.int .i64 3, .int .i64 0, .int .i64 0, .int .i64 v0, .int .i64 v1, .int .i64 v2, .int .i64 v3, .int .i64 v4] 50 (0, 0))) := by show _ = _; rw [← hW]; exact set_block _ (set_block _ (set_block _ (set_block _ (set_block _ (BK2.out)))))
            clear GG RD BK0 BK1 BK2
            have GG := nGG
            have RD := nRD
            clear nGG nRD
            have BK0 := nBK0
            clear nBK0
            have BK1 := nBK1
            clear nBK1
            have BK2 := nBK2
            clear nBK2
            clear hW
            go_wp2_with fail
            go_meet
            exact ⟨_, _, _, _, _, _, _, _, _, by omega, RD.out, GG.out, BK0.out, BK1.out, BK2.out⟩)
        · have c0_0 : w5.cell? ⟨w.heap.size, 0, none⟩ = some (.slice a1 n c1) := by rw [cell_block BK0.out]; rfl
          have c0_1 : w5.cell? ⟨w.heap.size, 1, none⟩ = some (.slice a2 m c2) := by rw [cell_block BK0.out]; rfl
          have l0 : w.heap.size < w5.heap.size := lt_of_block BK0.out
          have f0 : ∀ o, w5.frozen? ⟨w.heap.size, o, none⟩ = false := fun o => free_block BK0.out
          have c2_0 : w5.cell? ⟨PO, 0, none⟩ = some (.int .i64 3) := by rw [cell_block BK2.out]; rfl
          have c2_1 : w5.cell? ⟨PO, 1, none⟩ = some (.int .i64 0) := by rw [cell_block BK2.out]; rfl
          have c2_2 : w5.cell? ⟨PO, 2, none⟩ = some (.int .i64 0) := by rw [cell_block BK2.out]; rfl
          have c2_3 : w5.cell? ⟨PO, 3, none⟩ = some (.int .i64 xl) := by rw [cell_block BK2.out]; rfl
          have c2_4 : w5.cell? ⟨PO, 4, none⟩ = some (.int .i64 xa) := by rw [cell_block BK2.out]; rfl
          have c2_5 : w5.cell? ⟨PO, 5, none⟩ = some (.int .i64 xan) := by rw [cell_block BK2.out]; rfl
          have c2_6 : w5.cell? ⟨PO, 6, none⟩ = some (.int .i64 xb) := by rw [cell_block BK2.out]; rfl
          have c2_7 : w5.cell? ⟨PO, 7, none⟩ = some (.int .i64 xbn) := by rw [cell_block BK2.out]; rfl
          have l2 : PO < w5.heap.size := lt_of_block BK2.out
          have f2 : ∀ o, w5.frozen? ⟨PO, o, none⟩ = false := fun o => free_block BK2.out
          go_wp2_with fail
          clear c0_0 c0_1 l0 f0 c2_0 c2_1 c2_2 c2_3 c2_4 c2_5 c2_6 c2_7 l2 f2
          go_meet
          exact ⟨_, _, _, _, _, _, _, _, _, by omega, RD.out, GG.out, BK0.out, BK1.out, BK2.out⟩
      · have hlen' : ¬ (0 : Int) < (m : Int) := by omega
        have c0_0 : w4.cell? ⟨w.heap.size, 0, none⟩ = some (.slice a1 n c1) := by rw [cell_block BK0.out]; rfl
        have c0_1 : w4.cell? ⟨w.heap.size, 1, none⟩ = some (.slice a2 m c2) := by rw [cell_block BK0.out]; rfl
        have l0 : w.heap.size < w4.heap.size := lt_of_block BK0.out
        have f0 : ∀ o, w4.frozen? ⟨w.heap.size, o, none⟩ = false := fun o => free_block BK0.out
        have c2_0 : w4.cell? ⟨PO, 0, none⟩ = some (.int .i64 3) := by rw [cell_block BK2.out]; rfl
        have c2_1 : w4.cell? ⟨PO, 1, none⟩ = some (.int .i64 0) := by rw [cell_block BK2.out]; rfl
        have c2_2 : w4.cell? ⟨PO, 2, none⟩ = some (.int .i64 0) := by rw [cell_block BK2.out]; rfl
        have c2_3 : w4.cell? ⟨PO, 3, none⟩ = some (.int .i64 xl) := by rw [cell_block BK2.out]; rfl
        have c2_4 : w4.cell? ⟨PO, 4, none⟩ = some (.int .i64 xa) := by rw [cell_block BK2.out]; rfl
        have c2_5 : w4.cell? ⟨PO, 5, none⟩ = some (.int .i64 xan) := by rw [cell_block BK2.out]; rfl
        have c2_6 : w4.cell? ⟨PO, 6, none⟩ = some (.int .i64 xb) := by rw [cell_block BK2.out]; rfl
        have c2_7 : w4.cell? ⟨PO, 7, none⟩ = some (.int .i64 xbn) := by rw [cell_block BK2.out]; rfl
        have l2 : PO < w4.heap.size := lt_of_block BK2.out
        have f2 : ∀ o, w4.frozen? ⟨PO, o, none⟩ = false := fun o => free_block BK2.out
        go_wp2_with fail
        clear c0_0 c0_1 l0 f0 c2_0 c2_1 c2_2 c2_3 c2_4 c2_5 c2_6 c2_7 l2 f2
        go_meet
        exact ⟨_, _, _, _, _, _, _, _, _, by omega, RD.out, GG.out, BK0.out, BK1.out, BK2.out⟩
    · have c2_0 : w2b.cell? ⟨PO, 0, none⟩ = some (.int .i64 4) := by rw [cell_block BK2.out]; rfl
      have c2_1 : w2b.cell? ⟨PO, 1, none⟩ = some (.int .i64 0) := by rw [cell_block BK2.out]; rfl
      have c2_2 : w2b.cell? ⟨PO, 2, none⟩ = some (.int .i64 0) := by rw [cell_block BK2.out]; rfl
      have c2_3 : w2b.cell? ⟨PO, 3, none⟩ = some (.int .i64 0) := by rw [cell_block BK2.out]; rfl
      have c2_4 : w2b.cell? ⟨PO, 4, none⟩ = some (.int .i64 0) := by rw [cell_block BK2.out]; rfl
      have c2_5 : w2b.cell? ⟨PO, 5, none⟩ = some (.int .i64 0) := by rw [cell_block BK2.out]; rfl
      have c2_6 : w2b.cell? ⟨PO, 6, none⟩ = some (.int .i64 0) := by rw [cell_block BK2.out]; rfl
      have c2_7 : w2b.cell? ⟨PO, 7, none⟩ = some (.int .i64 0) := by rw [cell_block BK2.out]; rfl
      have l2 : PO < w2b.heap.size := lt_of_block BK2.out
      have f2 : ∀ o, w2b.frozen? ⟨PO, o, none⟩ = false := fun o => free_block BK2.out
      go_wp2_with fail
      clear c2_0 c2_1 c2_2 c2_3 c2_4 c2_5 c2_6 c2_7 l2 f2
      refine (l2Node _ _ _ _ _ _ _ RD.out (by omega)).mono ?_
      rintro e w3 ⟨xl, xn, rfl, -, hr1, hg1⟩
      have nGG : Hid (w.grownBy w3 (some B)) := grownBy_trans GG.out hg1
      have nRD : Hid (RdAt w3 B a len cap zs (pos + 1 + 2)) := hr1
      have nBK0 : Hid (w3.heap[w.heap.size]? = some (.cells #[.slice a1 n c1, .slice a2 m c2] 26 (0, 0))) := by show _ = _; rw [hg1.block (w.heap.size) (lt_of_block BK0.out) (by simp; omega)]; exact BK0.out
      have nBK1 : Hid (w3.heap[w.heap.size + 1]? = some (.cells #[.int .i64 0, .int .i64 0, .int .i64 0, .int .i64 0, .int .i64 0, .int .i64 0, .int .i64 0, .int .i64 0] 50 (0, 0))) := by show _ = _; rw [hg1.block (w.heap.size + 1) (lt_of_block BK1.out) (by simp; omega)]; exact BK1.out
      have nBK2 : Hid (w3.heap[PO]? = some (.cells #[.int .i64 4, .int .i64 0, .int .i64 0, .int .i64 0, .int .i64 0, .int .i64 0, .int .i64 0, .int .i64 0] 50 (0, 0))) := by show _ = _; rw [hg1.block (PO) (lt_of_block BK2.out) (by simp; omega)]; exact BK2.out
      clear GG RD BK0 BK1 BK2
      have GG := nGG
      have RD := nRD
      clear nGG nRD
      have BK0 := nBK0
      clear nBK0
      have BK1 := nBK1
      clear nBK1
      have BK2 := nBK2
      clear nBK2
      clear hg1 hr1
      have HIN : Hid (∀ W, w.grownBy W (some B) → 0 < n → ∃ b0 off, a1 = some ⟨b0, off, none⟩ ∧ b0 < W.heap.size ∧ ∀ j : Nat, j < n → ∃ v0 v1 : Int, W.cell? ⟨b0, off + j * 2, none⟩ = some (.int .i64 v0) ∧ W.cell? ⟨b0, off + j * 2 + 1, none⟩ = some (.int .i64 v1)) := fun W hW hn0 => by
        have hrow := row_gr (by decide) encNode_two H1.out.1 H0.out hW
        rcases hrow with ⟨hz, _⟩ | ⟨_, b0, off, c, hv, hb, hc⟩
        · have := HN.out; rw [hz] at this; simp at this; omega
        · simp only [Value.slice.injEq] at hv
          refine ⟨b0, off, hv.1, hb, fun j hj => ?_⟩
          obtain ⟨⟨v0, v1⟩, hx⟩ : ∃ x, ns[j]? = some x := ⟨_, List.getElem?_eq_getElem (by rw [← HN.out]; exact hj)⟩
          exact ⟨v0, v1, hc j _ hx 0 _ rfl, hc j _ hx 1 _ rfl⟩
      have c2_0 : w3.cell? ⟨PO, 0, none⟩ = some (.int .i64 4) := by rw [cell_block BK2.out]; rfl
      have c2_1 : w3.cell? ⟨PO, 1, none⟩ = some (.int .i64 0) := by rw [cell_block BK2.out]; rfl
      have c2_2 : w3.cell? ⟨PO, 2, none⟩ = some (.int .i64 0) := by rw [cell_block BK2.out]; rfl
      have c2_3 : w3.cell? ⟨PO, 3, none⟩ = some (.int .i64 0) := by rw [cell_block BK2.out]; rfl
      have c2_4 : w3.cell? ⟨PO, 4, none⟩ = some (.int .i64 0) := by rw [cell_block BK2.out]; rfl
      have c2_5 : w3.cell? ⟨PO, 5, none⟩ = some (.int .i64 0) := by rw [cell_block BK2.out]; rfl
      have c2_6 : w3.cell? ⟨PO, 6, none⟩ = some (.int .i64 0) := by rw [cell_block BK2.out]; rfl
      have c2_7 : w3.cell? ⟨PO, 7, none⟩ = some (.int .i64 0) := by rw [cell_block BK2.out]; rfl
      have l2 : PO < w3.heap.size := lt_of_block BK2.out
      have f2 : ∀ o, w3.frozen? ⟨PO, o, none⟩ = false := fun o => free_block BK2.out
      go_upto_region 13 with fail
      clear c2_0 c2_1 c2_2 c2_3 c2_4 c2_5 c2_6 c2_7 l2 f2
      generalize hW : ((w3.setCell ⟨PO, 1, none⟩ (.int .i64 xl)).setCell ⟨PO, 2, none⟩ (.int .i64 xn)) = w4
      have nGG : Hid (w.grownBy w4 (some B)) := by show World.grownBy _ _ _; rw [← hW]; exact grownBy_setNew (grownBy_setNew (GG.out) (by simp; omega) _) (by simp; omega) _
      have nRD : Hid (RdAt w4 B a len cap zs (pos + 1 + 2)) := by show RdAt _ _ _ _ _ _ _; rw [← hW]; exact RdAt.set (RdAt.set (RD.out) (by simp; omega) _) (by simp; omega) _
      have nBK0 : Hid (w4.heap[w.heap.size]? = some (.cells #[.slice a1 n c1, .slice a2 m c2] 26 (0, 0))) := by show _ = _; rw [← hW, Below.heap_setCell _ _ _ _ (by simp; omega), Below.heap_setCell _ _ _ _ (by simp; omega)]; exact BK0.out
      have nBK1 : Hid (w4.heap[w.heap.size + 1]? = some (.cells #[.int .i64 0, .int .i64 0, .int .i64 0, .int .i64 0, .int .i64 0, .int .i64 0, .int .i64 0, .int .i64 0] 50 (0, 0))) := by show _ = _; rw [← hW, Below.heap_setCell _ _ _ _ (by simp; omega), Below.heap_setCell _ _ _ _ (by simp; omega)]; exact BK1.out
      have nBK2 : Hid (w4.heap[PO]? = some (.cells #[.int .i64 4, .int .i64 xl, .int .i64 xn, .int .i64 0, .int .i64 0, .int .i64 0, .int .i64 0, .int .i64 0] 50 (0, 0))) := by show _ = _; rw [← hW]; exact set_block _ (set_block _ (BK2.out))
      clear GG RD BK0 BK1 BK2
      have GG := nGG
      have RD := nRD
      clear nGG nRD
      have BK0 := nBK0
      clear nBK0
      have BK1 := nBK1
      clear nBK1
      have BK2 := nBK2
      clear nBK2
      clear hW
      by_cases hlen : 0 < n
      · have hlen' : (0 : Int) < (n : Int) := by omega
        have c0_0 : w4.cell? ⟨w.heap.size, 0, none⟩ = some (.slice a1 n c1) := by rw [cell_block BK0.out]; rfl
        have c0_1 : w4.cell? ⟨w.heap.size, 1, none⟩ = some (.slice a2 m c2) := by rw [cell_block BK0.out]; rfl
        have l0 : w.heap.size < w4.heap.size := lt_of_block BK0.out
        have f0 : ∀ o, w4.frozen? ⟨w.heap.size, o, none⟩ = false := fun o => free_block BK0.out
        have c2_0 : w4.cell? ⟨PO, 0, none⟩ = some (.int .i64 4) := by rw [cell_block BK2.out]; rfl
        have c2_1 : w4.cell? ⟨PO, 1, none⟩ = some (.int .i64 xl) := by rw [cell_block BK2.out]; rfl
        have c2_2 : w4.cell? ⟨PO, 2, none⟩ = some (.int .i64 xn) := by rw [cell_block BK2.out]; rfl
        have c2_3 : w4.cell? ⟨PO, 3, none⟩ = some (.int .i64 0) := by rw [cell_block BK2.out]; rfl
        have c2_4 : w4.cell? ⟨PO, 4, none⟩ = some (.int .i64 0) := by rw [cell_block BK2.out]; rfl
        have c2_5 : w4.cell? ⟨PO, 5, none⟩ = some (.int .i64 0) := by rw [cell_block BK2.out]; rfl
        have c2_6 : w4.cell? ⟨PO, 6, none⟩ = some (.int .i64 0) := by rw [cell_block BK2.out]; rfl
        have c2_7 : w4.cell? ⟨PO, 7, none⟩ = some (.int .i64 0) := by rw [cell_block BK2.out]; rfl
        have l2 : PO < w4.heap.size := lt_of_block BK2.out
        have f2 : ∀ o, w4.frozen? ⟨PO, o, none⟩ = false := fun o => free_block BK2.out
        go_wp2_with fail
        clear c0_0 c0_1 l0 f0 c2_0 c2_1 c2_2 c2_3 c2_4 c2_5 c2_6 c2_7 l2 f2
        refine (pick B len cap a zs _ _ _ RD.out (by omega) (by omega) (by omega)).mono ?_
        rintro e w5 ⟨xp, rfl, hx0, hx1, hr1, hg1⟩
        have nGG : Hid (w.grownBy w5 (some B)) := grownBy_trans GG.out hg1
        have nRD : Hid (RdAt w5 B a len cap zs (pos + 1 + 2 + 1)) := hr1
        have nBK0 : Hid (w5.heap[w.heap.size]? = some (.cells #[.slice a1 n c1, .slice a2 m c2] 26 (0, 0))) := by show _ = _; rw [hg1.block (w.heap.size) (lt_of_block BK0.out) (by simp; omega)]; exact BK0.out
        have nBK1 : Hid (w5.heap[w.heap.size + 1]? = some (.cells #[.int .i64 0, .int .i64 0, .int .i64 0, .int .i64 0, .int .i64 0, .int .i64 0, .int .i64 0, .int .i64 0] 50 (0, 0))) := by show _ = _; rw [hg1.block (w.heap.size + 1) (lt_of_block BK1.out) (by simp; omega)]; exact BK1.out
        have nBK2 : Hid (w5.heap[PO]? = some (.cells #[.int .i64 4, .int .i64 xl, .int .i64 xn, .int .i64 0, .int .i64 0, .int .i64 0, .int .i64 0, .int .i64 0] 50 (0, 0))) := by show _ = _; rw [hg1.block (PO) (lt_of_block BK2.out) (by simp; omega)]; exact BK2.out
        clear GG RD BK0 BK1 BK2
        have GG := nGG
        have RD := nRD
        clear nGG nRD
        have BK0 := nBK0
        clear nBK0
        have BK1 := nBK1
        clear nBK1
        have BK2 := nBK2
        clear nBK2
        clear hg1 hr1
        by_cases hxp : 0 < xp
        · obtain ⟨b0, off, rfl, -, -⟩ := HIN.out _ GG.out hlen
          have c0_0 : w5.cell? ⟨w.heap.size, 0, none⟩ = some (.slice (some ⟨b0, off, none⟩) n c1) := by rw [cell_block BK0.out]; rfl
          have c0_1 : w5.cell? ⟨w.heap.size, 1, none⟩ = some (.slice a2 m c2) := by rw [cell_block BK0.out]; rfl
          have l0 : w.heap.size < w5.heap.size := lt_of_block BK0.out
          have f0 : ∀ o, w5.frozen? ⟨w.heap.size, o, none⟩ = false := fun o => free_block BK0.out
          have c2_0 : w5.cell? ⟨PO, 0, none⟩ = some (.int .i64 4) := by rw [cell_block BK2.out]; rfl
          have c2_1 : w5.cell? ⟨PO, 1, none⟩ = some (.int .i64 xl) := by rw [cell_block BK2.out]; rfl
          have c2_2 : w5.cell? ⟨PO, 2, none⟩ = some (.int .i64 xn) := by rw [cell_block BK2.out]; rfl
          have c2_3 : w5.cell? ⟨PO, 3, none⟩ = some (.int .i64 0) := by rw [cell_block BK2.out]; rfl
          have c2_4 : w5.cell? ⟨PO, 4, none⟩ = some (.int .i64 0) := by rw [cell_block BK2.out]; rfl
          have c2_5 : w5.cell? ⟨PO, 5, none⟩ = some (.int .i64 0) := by rw [cell_block BK2.out]; rfl
          have c2_6 : w5.cell? ⟨PO, 6, none⟩ = some (.int .i64 0) := by rw [cell_block BK2.out]; rfl
          have c2_7 : w5.cell? ⟨PO, 7, none⟩ = some (.int .i64 0) := by rw [cell_block BK2.out]; rfl
          have l2 : PO < w5.heap.size := lt_of_block BK2.out
          have f2 : ∀ o, w5.frozen? ⟨PO, o, none⟩ = false := fun o => free_block BK2.out
          go_wp2_with fail
          clear c0_0 c0_1 l0 f0 c2_0 c2_1 c2_2 c2_3 c2_4 c2_5 c2_6 c2_7 l2 f2
          have c0_0 : w5.cell? ⟨w.heap.size, 0, none⟩ = some (.slice (some ⟨b0, off, none⟩) n c1) := by rw [cell_block BK0.out]; rfl
          have c0_1 : w5.cell? ⟨w.heap.size, 1, none⟩ = some (.slice a2 m c2) := by rw [cell_block BK0.out]; rfl
          have l0 : w.heap.size < w5.heap.size := lt_of_block BK0.out
          have f0 : ∀ o, w5.frozen? ⟨w.heap.size, o, none⟩ = false := fun o => free_block BK0.out
          have c2_0 : w5.cell? ⟨PO, 0, none⟩ = some (.int .i64 4) := by rw [cell_block BK2.out]; rfl
          have c2_1 : w5.cell? ⟨PO, 1, none⟩ = some (.int .i64 xl) := by rw [cell_block BK2.out]; rfl
          have c2_2 : w5.cell? ⟨PO, 2, none⟩ = some (.int .i64 xn) := by rw [cell_block BK2.out]; rfl
          have c2_3 : w5.cell? ⟨PO, 3, none⟩ = some (.int .i64 0) := by rw [cell_block BK2.out]; rfl
          have c2_4 : w5.cell? ⟨PO, 4, none⟩ = some (.int .i64 0) := by rw [cell_block BK2.out]; rfl
          have c2_5 : w5.cell? ⟨PO, 5, none⟩ = some (.int .i64 0) := by rw [cell_block BK2.out]; rfl
          have c2_6 : w5.cell? ⟨PO, 6, none⟩ = some (.int .i64 0) := by rw [cell_block BK2.out]; rfl
          have c2_7 : w5.cell? ⟨PO, 7, none⟩ = some (.int .i64 0) := by rw [cell_block BK2.out]; rfl
          have l2 : PO < w5.heap.size := lt_of_block BK2.out
          have f2 : ∀ o, w5.frozen? ⟨PO, o, none⟩ = false := fun o => free_block BK2.out
          go_region_with (first
            | (go_at_call 80; refine (pick B len cap a zs _ _ w5.drew RD.out (by omega) (by omega) (by omega)).mono ?_; rintro e w6 ⟨jj, rfl, hj0, hj1, hr1, hg1'⟩; have hg1 := gr_drew hg1'; obtain ⟨j, rfl⟩ := Int.eq_ofNat_of_zero_le hj0; have hjn : j < n := (by omega); obtain ⟨b1, off1, hab, lb, hce⟩ := HIN.out _ (grownBy_trans GG.out hg1) hlen; obtain ⟨rfl, rfl⟩ : b0 = b1 ∧ off = off1 := (by simpa using hab); obtain ⟨v0, v1, e0, e1⟩ := hce j hjn; clear hab hce; have g00 : w6.cell? ⟨w.heap.size, 0, none⟩ = some (.slice (some ⟨b0, off, none⟩) n c1) := (by rw [World.cell?_of_block (hg1.block (w.heap.size) (lt_of_block BK0.out) (by simp; omega))]; exact c0_0); have g01 : w6.cell? ⟨w.heap.size, 1, none⟩ = some (.slice a2 m c2) := (by rw [World.cell?_of_block (hg1.block (w.heap.size) (lt_of_block BK0.out) (by simp; omega))]; exact c0_1); have gl0 : w.heap.size < w6.heap.size := Nat.lt_of_lt_of_le (lt_of_block BK0.out) hg1.size; have g20 : w6.cell? ⟨PO, 0, none⟩ = some (.int .i64 4) := (by rw [World.cell?_of_block (hg1.block (PO) (lt_of_block BK2.out) (by simp; omega))]; exact c2_0); have g21 : w6.cell? ⟨PO, 1, none⟩ = some (.int .i64 xl) := (by rw [World.cell?_of_block (hg1.block (PO) (lt_of_block BK2.out) (by simp; omega))]; exact c2_1); have g22 : w6.cell? ⟨PO, 2, none⟩ = some (.int .i64 xn) := (by rw [World.cell?_of_block (hg1.block (PO) (lt_of_block BK2.out) (by simp; omega))]; exact c2_2); have g23 : w6.cell? ⟨PO, 3, none⟩ = some (.int .i64 0) := (by rw [World.cell?_of_block (hg1.block (PO) (lt_of_block BK2.out) (by simp; omega))]; exact c2_3); have g24 : w6.cell? ⟨PO, 4, none⟩ = some (.int .i64 0) := (by rw [World.cell?_of_block (hg1.block (PO) (lt_of_block BK2.out) (by simp; omega))]; exact c2_4); have g25 : w6.cell? ⟨PO, 5, none⟩ = some (.int .i64 0) := (by rw [World.cell?_of_block (hg1.block (PO) (lt_of_block BK2.out) (by simp; omega))]; exact c2_5); have g26 : w6.cell? ⟨PO, 6, none⟩ = some (.int .i64 0) := (by rw [World.cell?_of_block (hg1.block (PO) (lt_of_block BK2.out) (by simp; omega))]; exact c2_6); have g27 : w6.cell? ⟨PO, 7, none⟩ = some (.int .i64 0) := (by rw [World.cell?_of_block (hg1.block (PO) (lt_of_block BK2.out) (by simp; omega))]; exact c2_7); have gl2 : PO < w6.heap.size := Nat.lt_of_lt_of_le (lt_of_block BK2.out) hg1.size; have gf2 : ∀ o, w6.frozen? ⟨PO, o, none⟩ = false := (fun o => by rw [World.frozen?_of_block (hg1.block (PO) (lt_of_block BK2.out) (by simp; omega))]; exact f2 o)))
          clear c0_0 c0_1 l0 f0 c2_0 c2_1 c2_2 c2_3 c2_4 c2_5 c2_6 c2_7 l2 f2
          all_goals (
            clear g00 g01 g20 g21 g22 g23 g24 g25 g26 g27 gl0 gl2 gf2 e0 e1 hg1' hj0 hj1
            have nGG : Hid (w.grownBy w6 (some B)) := grownBy_trans GG.out hg1
            have nRD : Hid (RdAt w6 B a len cap zs (pos + 1 + 2 + 1 + 1)) := hr1
            have nBK0 : Hid (w6.heap[w.heap.size]? = some (.cells #[.slice (some ⟨b0, off, none⟩) n c1, .slice a2 m c2] 26 (0, 0))) := by show _ = _; rw [hg1.block (w.heap.size) (lt_of_block BK0.out) (by simp; omega)]; exact BK0.out
            have nBK1 : Hid (w6.heap[w.heap.size + 1]? = some (.cells #[.int .i64 0, .int .i64 0, .int .i64 0, .int .i64 0, .int .i64 0, .int .i64 0, .int .i64 0, .int .i64 0] 50 (0, 0))) := by show _ = _; rw [hg1.block (w.heap.size + 1) (lt_of_block BK1.out) (by simp; omega)]; exact BK1.out
            have nBK2 : Hid (w6.heap[PO]? = some (.cells #[.int .i64 4, .int .i64 xl, .int .i64 xn, .int .i64 0, .int .i64 0, .int .i64 0, .int .i64 0, .int .i64 0] 50 (0, 0))) := by show _ = _; rw [hg1.block (PO) (lt_of_block BK2.out) (by simp; omega)]; exact BK2.out
            clear GG RD BK0 BK1 BK2
            have GG := nGG
            have RD := nRD
            clear nGG nRD
            have BK0 := nBK0
            clear nBK0
            have BK1 := nBK1
            clear nBK1
            have BK2 := nBK2
            clear nBK2
            clear hg1 hr1
            generalize hW : ((w6.setCell ⟨PO, 1, none⟩ (.int .i64 v0)).setCell ⟨PO, 2, none⟩ (.int .i64 v1)) = w7
            have nGG : Hid (w.grownBy w7 (some B)) := by show World.grownBy _ _ _; rw [← hW]; exact grownBy_setNew (grownBy_setNew (GG.out) (by simp; omega) _) (by simp; omega) _
            have nRD : Hid (RdAt w7 B a len cap zs (pos + 1 + 2 + 1 + 1)) := by show RdAt _ _ _ _ _ _ _; rw [← hW]; exact RdAt.set (RdAt.set (RD.out) (by simp; omega) _) (by simp; omega) _
            have nBK0 : Hid (w7.heap[w.heap.size]? = some (.cells #[.slice (some ⟨b0, off, none⟩) n c1, .slice a2 m c2] 26 (0, 0))) := by show _ = _; rw [← hW, Below.heap_setCell _ _ _ _ (by simp; omega), Below.heap_setCell _ _ _ _ (by simp; omega)]; exact BK0.out
            have nBK1 : Hid (w7.heap[w.heap.size + 1]? = some (.cells #[.int .i64 0, .int .i64 0, .int .i64 0, .int .i64 0, .int .i64 0, .int .i64 0, .int .i64 0, .int .i64 0] 50 (0, 0))) := by show _ = _; rw [← hW, Below.heap_setCell _ _ _ _ (by simp; omega), Below.heap_setCell _ _ _ _ (by simp; omega)]; exact BK1.out
            have nBK2 : Hid (w7.heap[PO]? = some (.cells #[.int .i64 4, .int .i64 v0, .int .i64 v1, .int .i64 0, .int .i64 0, .int .i64 0, .int .i64 0, .int .i64 0] 50 (0, 0))) := by show _ = _; rw [← hW]; exact set_block _ (set_block _ (BK2.out))
            clear GG RD BK0 BK1 BK2
            have GG := nGG
            have RD := nRD
            clear nGG nRD
            have BK0 := nBK0
            clear nBK0
            have BK1 := nBK1
            clear nBK1
            have BK2 := nBK2
            clear nBK2
            clear hW
            go_wp2_with fail
            go_meet
            exact ⟨_, _, _, _, _, _, _, _, _, by omega, RD.out, GG.out, BK0.out, BK1.out, BK2.out⟩)
        · have c0_0 : w5.cell? ⟨w.heap.size, 0, none⟩ = some (.slice a1 n c1) := by rw [cell_block BK0.out]; rfl
          have c0_1 : w5.cell? ⟨w.heap.size, 1, none⟩ = some (.slice a2 m c2) := by rw [cell_block BK0.out]; rfl
          have l0 : w.heap.size < w5.heap.size := lt_of_block BK0.out
          have f0 : ∀ o, w5.frozen? ⟨w.heap.size, o, none⟩ = false := fun o => free_block BK0.out
          have c2_0 : w5.cell? ⟨PO, 0, none⟩ = some (.int .i64 4) := by rw [cell_block BK2.out]; rfl
          have c2_1 : w5.cell? ⟨PO, 1, none⟩ = some (.int .i64 xl) := by rw [cell_block BK2.out]; rfl
          have c2_2 : w5.cell? ⟨PO, 2, none⟩ = some (.int .i64 xn) := by rw [cell_block BK2.out]; rfl
          have c2_3 : w5.cell? ⟨PO, 3, none⟩ = some (.int .i64 0) := by rw [cell_block BK2.out]; rfl
          have c2_4 : w5.cell? ⟨PO, 4, none⟩ = some (.int .i64 0) := by rw [cell_block BK2.out]; rfl
          have c2_5 : w5.cell? ⟨PO, 5, none⟩ = some (.int .i64 0) := by rw [cell_block BK2.out]; rfl
          have c2_6 : w5.cell? ⟨PO, 6, none⟩ = some (.int .i64 0) := by rw [cell_block BK2.out]; rfl
          have c2_7 : w5.cell? ⟨PO, 7, none⟩ = some (.int .i64 0) := by rw [cell_block BK2.out]; rfl
          have l2 : PO < w5.heap.size := lt_of_block BK2.out
          have f2 : ∀ o, w5.frozen? ⟨PO, o, none⟩ = false := fun o => free_block BK2.out
          go_wp2_with fail
          clear c0_0 c0_1 l0 f0 c2_0 c2_1 c2_2 c2_3 c2_4 c2_5 c2_6 c2_7 l2 f2
          go_meet
          exact ⟨_, _, _, _, _, _, _, _, _, by omega, RD.out, GG.out, BK0.out, BK1.out, BK2.out⟩
      · have hlen' : ¬ (0 : Int) < (n : Int) := by omega
        have c0_0 : w4.cell? ⟨w.heap.size, 0, none⟩ = some (.slice a1 n c1) := by rw [cell_block BK0.out]; rfl
        have c0_1 : w4.cell? ⟨w.heap.size, 1, none⟩ = some (.slice a2 m c2) := by rw [cell_block BK0.out]; rfl
        have l0 : w.heap.size < w4.heap.size := lt_of_block BK0.out
        have f0 : ∀ o, w4.frozen? ⟨w.heap.size, o, none⟩ = false := fun o => free_block BK0.out
        have c2_0 : w4.cell? ⟨PO, 0, none⟩ = some (.int .i64 4) := by rw [cell_block BK2.out]; rfl
        have c2_1 : w4.cell? ⟨PO, 1, none⟩ = some (.int .i64 xl) := by rw [cell_block BK2.out]; rfl
        have c2_2 : w4.cell? ⟨PO, 2, none⟩ = some (.int .i64 xn) := by rw [cell_block BK2.out]; rfl
        have c2_3 : w4.cell? ⟨PO, 3, none⟩ = some (.int .i64 0) := by rw [cell_block BK2.out]; rfl
        have c2_4 : w4.cell? ⟨PO, 4, none⟩ = some (.int .i64 0) := by rw [cell_block BK2.out]; rfl
        have c2_5 : w4.cell? ⟨PO, 5, none⟩ = some (.int .i64 0) := by rw [cell_block BK2.out]; rfl
        have c2_6 : w4.cell? ⟨PO, 6, none⟩ = some (.int .i64 0) := by rw [cell_block BK2.out]; rfl
        have c2_7 : w4.cell? ⟨PO, 7, none⟩ = some (.int .i64 0) := by rw [cell_block BK2.out]; rfl
        have l2 : PO < w4.heap.size := lt_of_block BK2.out
        have f2 : ∀ o, w4.frozen? ⟨PO, o, none⟩ = false := fun o => free_block BK2.out
        go_wp2_with fail
        clear c0_0 c0_1 l0 f0 c2_0 c2_1 c2_2 c2_3 c2_4 c2_5 c2_6 c2_7 l2 f2
        go_meet
        exact ⟨_, _, _, _, _, _, _, _, _, by omega, RD.out, GG.out, BK0.out, BK1.out, BK2.out⟩
  case rest =>
    clear H1 H2
    obtain ⟨k, nl, nn, l, al, an, bl, bn, q, hq, hrd, hgg, hb0, hb1, hb2⟩ := hcut
    generalize wc = wr at *
    clear GG RD BK0 BK1 BK2
    have GG : Hid (w.grownBy wr (some B)) := hgg
    have RD : Hid (RdAt wr B a len cap zs q) := hrd
    have BK0 : Hid (wr.heap[w.heap.size]? = some (.cells #[.slice a1 n c1, .slice a2 m c2] 26 (0, 0))) := hb0
    have BK1 : Hid (wr.heap[w.heap.size + 1]? = some (.cells #[.int .i64 0, .int .i64 0, .int .i64 0, .int .i64 0, .int .i64 0, .int .i64 0, .int .i64 0, .int .i64 0] 50 (0, 0))) := hb1
    have BK2 : Hid (wr.heap[PO]? = some (.cells #[.int .i64 k, .int .i64 nl, .int .i64 nn, .int .i64 l, .int .i64 al, .int .i64 an, .int .i64 bl, .int .i64 bn] 50 (0, 0))) := hb2
    clear hgg hrd hb0 hb1 hb2
    have c2_0 : wr.cell? ⟨PO, 0, none⟩ = some (.int .i64 k) := by rw [cell_block BK2.out]; rfl
    have c2_1 : wr.cell? ⟨PO, 1, none⟩ = some (.int .i64 nl) := by rw [cell_block BK2.out]; rfl
    have c2_2 : wr.cell? ⟨PO, 2, none⟩ = some (.int .i64 nn) := by rw [cell_block BK2.out]; rfl
    have c2_3 : wr.cell? ⟨PO, 3, none⟩ = some (.int .i64 l) := by rw [cell_block BK2.out]; rfl
    have c2_4 : wr.cell? ⟨PO, 4, none⟩ = some (.int .i64 al) := by rw [cell_block BK2.out]; rfl
    have c2_5 : wr.cell? ⟨PO, 5, none⟩ = some (.int .i64 an) := by rw [cell_block BK2.out]; rfl
    have c2_6 : wr.cell? ⟨PO, 6, none⟩ = some (.int .i64 bl) := by rw [cell_block BK2.out]; rfl
    have c2_7 : wr.cell? ⟨PO, 7, none⟩ = some (.int .i64 bn) := by rw [cell_block BK2.out]; rfl
    have l2 : PO < wr.heap.size := lt_of_block BK2.out
    have f2 : ∀ o, wr.frozen? ⟨PO, o, none⟩ = false := fun o => free_block BK2.out
    go_wp2_with fail
    clear c2_0 c2_1 c2_2 c2_3 c2_4 c2_5 c2_6 c2_7 l2 f2
    refine (pick B len cap a zs _ _ _ RD.out (by omega) (by omega) (by omega)).mono ?_
    rintro e ws ⟨xq, rfl, hx0, hx1, hr1, hg1⟩
    have nGG : Hid (w.grownBy ws (some B)) := grownBy_trans GG.out hg1
    have nRD : Hid (RdAt ws B a len cap zs (q + 1)) := hr1
    have nBK0 : Hid (ws.heap[w.heap.size]? = some (.cells #[.slice a1 n c1, .slice a2 m c2] 26 (0, 0))) := by show _ = _; rw [hg1.block (w.heap.size) (lt_of_block BK0.out) (by simp; omega)]; exact BK0.out
    have nBK1 : Hid (ws.heap[w.heap.size + 1]? = some (.cells #[.int .i64 0, .int .i64 0, .int .i64 0, .int .i64 0, .int .i64 0, .int .i64 0, .int .i64 0, .int .i64 0] 50 (0, 0))) := by show _ = _; rw [hg1.block (w.heap.size + 1) (lt_of_block BK1.out) (by simp; omega)]; exact BK1.out
    have nBK2 : Hid (ws.heap[PO]? = some (.cells #[.int .i64 k, .int .i64 nl, .int .i64 nn, .int .i64 l, .int .i64 al, .int .i64 an, .int .i64 bl, .int .i64 bn] 50 (0, 0))) := by show _ = _; rw [hg1.block (PO) (lt_of_block BK2.out) (by simp; omega)]; exact BK2.out
    clear GG RD BK0 BK1 BK2
    have GG := nGG
    have RD := nRD
    clear nGG nRD
    have BK0 := nBK0
    clear nBK0
    have BK1 := nBK1
    clear nBK1
    have BK2 := nBK2
    clear nBK2
    clear hg1 hr1
    have hxc : xq = 0 ∨ xq = 1 ∨ xq = 2 ∨ xq = 3 ∨ 3 < xq := by omega
    rcases hxc with rfl | rfl | rfl | rfl | hx3
    · have c2_0 : ws.cell? ⟨PO, 0, none⟩ = some (.int .i64 k) := by rw [cell_block BK2.out]; rfl
      have c2_1 : ws.cell? ⟨PO, 1, none⟩ = some (.int .i64 nl) := by rw [cell_block BK2.out]; rfl
      have c2_2 : ws.cell? ⟨PO, 2, none⟩ = some (.int .i64 nn) := by rw [cell_block BK2.out]; rfl
      have c2_3 : ws.cell? ⟨PO, 3, none⟩ = some (.int .i64 l) := by rw [cell_block BK2.out]; rfl
      have c2_4 : ws.cell? ⟨PO, 4, none⟩ = some (.int .i64 al) := by rw [cell_block BK2.out]; rfl
      have c2_5 : ws.cell? ⟨PO, 5, none⟩ = some (.int .i64 an) := by rw [cell_block BK2.out]; rfl
      have c2_6 : ws.cell? ⟨PO, 6, none⟩ = some (.int .i64 bl) := by rw [cell_block BK2.out]; rfl
      have c2_7 : ws.cell? ⟨PO, 7, none⟩ = some (.int .i64 bn) := by rw [cell_block BK2.out]; rfl
      have l2 : PO < ws.heap.size := lt_of_block BK2.out
      have f2 : ∀ o, ws.frozen? ⟨PO, o, none⟩ = false := fun o => free_block BK2.out
      go_wp2_with fail
      clear c2_0 c2_1 c2_2 c2_3 c2_4 c2_5 c2_6 c2_7 l2 f2
      refine (num_lit B _ len cap a zs _ [0, 5, -1, 2] _ RD.out (by omega) (by decide) (by decide) rfl).mono ?_
      rintro e wt ⟨v, -, rfl, hr1, hg1⟩
      have nGG : Hid (w.grownBy wt (some B)) := grownBy_trans GG.out hg1
      have nRD : Hid (RdAt wt B a len cap zs (q + 1 + 1)) := hr1
      have nBK0 : Hid (wt.heap[w.heap.size]? = some (.cells #[.slice a1 n c1, .slice a2 m c2] 26 (0, 0))) := by show _ = _; rw [hg1.block (w.heap.size) (lt_of_block BK0.out) (by simp; omega)]; exact BK0.out
      have nBK1 : Hid (wt.heap[w.heap.size + 1]? = some (.cells #[.int .i64 0, .int .i64 0, .int .i64 0, .int .i64 0, .int .i64 0, .int .i64 0, .int .i64 0, .int .i64 0] 50 (0, 0))) := by show _ = _; rw [hg1.block (w.heap.size + 1) (lt_of_block BK1.out) (by simp; omega)]; exact BK1.out
      have nBK2 : Hid (wt.heap[PO]? = some (.cells #[.int .i64 k, .int .i64 nl, .int .i64 nn, .int .i64 l, .int .i64 al, .int .i64 an, .int .i64 bl, .int .i64 bn] 50 (0, 0))) := by show _ = _; rw [hg1.block (PO) (lt_of_block BK2.out) (by simp; omega)]; exact BK2.out
      clear GG RD BK0 BK1 BK2
      have GG := nGG
      have RD := nRD
      clear nGG nRD
      have BK0 := nBK0
      clear nBK0
      have BK1 := nBK1
      clear nBK1
      have BK2 := nBK2
      clear nBK2
      clear hg1 hr1
      have c2_0 : wt.cell? ⟨PO, 0, none⟩ = some (.int .i64 k) := by rw [cell_block BK2.out]; rfl
      have c2_1 : wt.cell? ⟨PO, 1, none⟩ = some (.int .i64 nl) := by rw [cell_block BK2.out]; rfl
      have c2_2 : wt.cell? ⟨PO, 2, none⟩ = some (.int .i64 nn) := by rw [cell_block BK2.out]; rfl
      have c2_3 : wt.cell? ⟨PO, 3, none⟩ = some (.int .i64 l) := by rw [cell_block BK2.out]; rfl
      have c2_4 : wt.cell? ⟨PO, 4, none⟩ = some (.int .i64 al) := by rw [cell_block BK2.out]; rfl
      have c2_5 : wt.cell? ⟨PO, 5, none⟩ = some (.int .i64 an) := by rw [cell_block BK2.out]; rfl
      have c2_6 : wt.cell? ⟨PO, 6, none⟩ = some (.int .i64 bl) := by rw [cell_block BK2.out]; rfl
      have c2_7 : wt.cell? ⟨PO, 7, none⟩ = some (.int .i64 bn) := by rw [cell_block BK2.out]; rfl
      have l2 : PO < wt.heap.size := lt_of_block BK2.out
      have f2 : ∀ o, wt.frozen? ⟨PO, o, none⟩ = false := fun o => free_block BK2.out
      go_upto_region 24 with fail
      clear c2_0 c2_1 c2_2 c2_3 c2_4 c2_5 c2_6 c2_7 l2 f2
      generalize hW : (wt.setCell ⟨PO, 0, none⟩ (.int .i64 v)) = wu
      have nGG : Hid (w.grownBy wu (some B)) := by show World.grownBy _ _ _; rw [← hW]; exact grownBy_setNew (GG.out) (by simp; omega) _
      have nRD : Hid (RdAt wu B a len cap zs (q + 1 + 1)) := by show RdAt _ _ _ _ _ _ _; rw [← hW]; exact RdAt.set (RD.out) (by simp; omega) _
      have nBK0 : Hid (wu.heap[w.heap.size]? = some (.cells #[.slice a1 n c1, .slice a2 m c2] 26 (0, 0))) := by show _ = _; rw [← hW, Below.heap_setCell _ _ _ _ (by simp; omega)]; exact BK0.out
      have nBK1 : Hid (wu.heap[w.heap.size + 1]? = some (.cells #[.int .i64 0, .int .i64 0, .int .i64 0, .int .i64 0, .int .i64 0, .int .i64 0, .int .i64 0, .int .i64 0] 50 (0, 0))) := by show _ = _; rw [← hW, Below.heap_setCell _ _ _ _ (by simp; omega)]; exact BK1.out
      have nBK2 : Hid (wu.heap[PO]? = some (.cells #[.int .i64 v, .int .i64 nl, .int .i64 nn, .int .i64 l, .int .i64 al, .int .i64 an, .int .i64 bl, .int .i64 bn] 50 (0, 0))) := by show _ = _; rw [← hW]; exact set_block _ (BK2.out)
      clear GG RD BK0 BK1 BK2
      have GG := nGG
      have RD := nRD
      clear nGG nRD
      have BK0 := nBK0
      clear nBK0
      have BK1 := nBK1
      clear nBK1
      have BK2 := nBK2
      clear nBK2
      clear hW
      have c2_0 : wu.cell? ⟨PO, 0, none⟩ = some (.int .i64 v) := by rw [cell_block BK2.out]; rfl
      have c2_1 : wu.cell? ⟨PO, 1, none⟩ = some (.int .i64 nl) := by rw [cell_block BK2.out]; rfl
      have c2_2 : wu.cell? ⟨PO, 2, none⟩ = some (.int .i64 nn) := by rw [cell_block BK2.out]; rfl
      have c2_3 : wu.cell? ⟨PO, 3, none⟩ = some (.int .i64 l) := by rw [cell_block BK2.out]; rfl
      have c2_4 : wu.cell? ⟨PO, 4, none⟩ = some (.int .i64 al) := by rw [cell_block BK2.out]; rfl
      have c2_5 : wu.cell? ⟨PO, 5, none⟩ = some (.int .i64 an) := by rw [cell_block BK2.out]; rfl
      have c2_6 : wu.cell? ⟨PO, 6, none⟩ = some (.int .i64 bl) := by rw [cell_block BK2.out]; rfl
      have c2_7 : wu.cell? ⟨PO, 7, none⟩ = some (.int .i64 bn) := by rw [cell_block BK2.out]; rfl
      have l2 : PO < wu.heap.size := lt_of_block BK2.out
      have f2 : ∀ o, wu.frozen? ⟨PO, o, none⟩ = false := fun o => free_block BK2.out
      have c1_0 : wu.cell? ⟨w.heap.size + 1, 0, none⟩ = some (.int .i64 0) := by rw [cell_block BK1.out]; rfl
      have c1_1 : wu.cell? ⟨w.heap.size + 1, 1, none⟩ = some (.int .i64 0) := by rw [cell_block BK1.out]; rfl
      have c1_2 : wu.cell? ⟨w.heap.size + 1, 2, none⟩ = some (.int .i64 0) := by rw [cell_block BK1.out]; rfl
      have c1_3 : wu.cell? ⟨w.heap.size + 1, 3, none⟩ = some (.int .i64 0) := by rw [cell_block BK1.out]; rfl
      have c1_4 : wu.cell? ⟨w.heap.size + 1, 4, none⟩ = some (.int .i64 0) := by rw [cell_block BK1.out]; rfl
      have c1_5 : wu.cell? ⟨w.heap.size + 1, 5, none⟩ = some (.int .i64 0) := by rw [cell_block BK1.out]; rfl
      have c1_6 : wu.cell? ⟨w.heap.size + 1, 6, none⟩ = some (.int .i64 0) := by rw [cell_block BK1.out]; rfl
      have c1_7 : wu.cell? ⟨w.heap.size + 1, 7, none⟩ = some (.int .i64 0) := by rw [cell_block BK1.out]; rfl
      have l1 : w.heap.size + 1 < wu.heap.size := lt_of_block BK1.out
      have f1 : ∀ o, wu.frozen? ⟨w.heap.size + 1, o, none⟩ = false := fun o => free_block BK1.out
      go_wp2_with fail
      clear c2_0 c2_1 c2_2 c2_3 c2_4 c2_5 c2_6 c2_7 l2 f2 c1_0 c1_1 c1_2 c1_3 c1_4 c1_5 c1_6 c1_7 l1 f1
      try simp only [Exit.inBlock, Exit.then]
      refine bodyPost_ret (v := .agg #[.int .i64 v, .int .i64 nl, .int .i64 nn, .int .i64 l, .int .i64 al, .int .i64 an, .int .i64 bl, .int .i64 bn]) (by simp [*, cell_block BK1.out, results, Tryz.results68, go_sem]) rfl ?_
      exact ⟨v, nl, nn, l, al, an, bl, bn, _, rfl, by omega, ((((((((RD.out.set (show B < w.heap.size + 1 by omega) _).set (show B < w.heap.size + 1 by omega) _).set (show B < w.heap.size + 1 by omega) _).set (show B < w.heap.size + 1 by omega) _).set (show B < w.heap.size + 1 by omega) _).set (show B < w.heap.size + 1 by omega) _).set (show B < w.heap.size + 1 by omega) _).set (show B < w.heap.size + 1 by omega) _), grownBy_setNew (grownBy_setNew (grownBy_setNew (grownBy_setNew (grownBy_setNew (grownBy_setNew (grownBy_setNew (grownBy_setNew (GG.out) (by simp) _) (by simp) _) (by simp) _) (by simp) _) (by simp) _) (by simp) _) (by simp) _) (by simp) _⟩
    · have c2_0 : ws.cell? ⟨PO, 0, none⟩ = some (.int .i64 k) := by rw [cell_block BK2.out]; rfl
      have c2_1 : ws.cell? ⟨PO, 1, none⟩ = some (.int .i64 nl) := by rw [cell_block BK2.out]; rfl
      have c2_2 : ws.cell? ⟨PO, 2, none⟩ = some (.int .i64 nn) := by rw [cell_block BK2.out]; rfl
      have c2_3 : ws.cell? ⟨PO, 3, none⟩ = some (.int .i64 l) := by rw [cell_block BK2.out]; rfl
      have c2_4 : ws.cell? ⟨PO, 4, none⟩ = some (.int .i64 al) := by rw [cell_block BK2.out]; rfl
      have c2_5 : ws.cell? ⟨PO, 5, none⟩ = some (.int .i64 an) := by rw [cell_block BK2.out]; rfl
      have c2_6 : ws.cell? ⟨PO, 6, none⟩ = some (.int .i64 bl) := by rw [cell_block BK2.out]; rfl
      have c2_7 : ws.cell? ⟨PO, 7, none⟩ = some (.int .i64 bn) := by rw [cell_block BK2.out]; rfl
      have l2 : PO < ws.heap.size := lt_of_block BK2.out
      have f2 : ∀ o, ws.frozen? ⟨PO, o, none⟩ = false := fun o => free_block BK2.out
      go_wp2_with fail
      clear c2_0 c2_1 c2_2 c2_3 c2_4 c2_5 c2_6 c2_7 l2 f2
      refine (num_lit B _ len cap a zs _ [-1, 41, 5] _ RD.out (by omega) (by decide) (by decide) rfl).mono ?_
      rintro e wt ⟨v, -, rfl, hr1, hg1⟩
      have nGG : Hid (w.grownBy wt (some B)) := grownBy_trans GG.out hg1
      have nRD : Hid (RdAt wt B a len cap zs (q + 1 + 1)) := hr1
      have nBK0 : Hid (wt.heap[w.heap.size]? = some (.cells #[.slice a1 n c1, .slice a2 m c2] 26 (0, 0))) := by show _ = _; rw [hg1.block (w.heap.size) (lt_of_block BK0.out) (by simp; omega)]; exact BK0.out
      have nBK1 : Hid (wt.heap[w.heap.size + 1]? = some (.cells #[.int .i64 0, .int .i64 0, .int .i64 0, .int .i64 0, .int .i64 0, .int .i64 0, .int .i64 0, .int .i64 0] 50 (0, 0))) := by show _ = _; rw [hg1.block (w.heap.size + 1) (lt_of_block BK1.out) (by simp; omega)]; exact BK1.out
      have nBK2 : Hid (wt.heap[PO]? = some (.cells #[.int .i64 k, .int .i64 nl, .int .i64 nn, .int .i64 l, .int .i64 al, .int .i64 an, .int .i64 bl, .int .i64 bn] 50 (0, 0))) := by show _ = _; rw [hg1.block (PO) (lt_of_block BK2.out) (by simp; omega)]; exact BK2.out
      clear GG RD BK0 BK1 BK2
      have GG := nGG
      have RD := nRD
      clear nGG nRD
      have BK0 := nBK0
      clear nBK0
      have BK1 := nBK1
      clear nBK1
      have BK2 := nBK2
      clear nBK2
      clear hg1 hr1
      have c2_0 : wt.cell? ⟨PO, 0, none⟩ = some (.int .i64 k) := by rw [cell_block BK2.out]; rfl
      have c2_1 : wt.cell? ⟨PO, 1, none⟩ = some (.int .i64 nl) := by rw [cell_block BK2.out]; rfl
      have c2_2 : wt.cell? ⟨PO, 2, none⟩ = some (.int .i64 nn) := by rw [cell_block BK2.out]; rfl
      have c2_3 : wt.cell? ⟨PO, 3, none⟩ = some (.int .i64 l) := by rw [cell_block BK2.out]; rfl
      have c2_4 : wt.cell? ⟨PO, 4, none⟩ = some (.int .i64 al) := by rw [cell_block BK2.out]; rfl
      have c2_5 : wt.cell? ⟨PO, 5, none⟩ = some (.int .i64 an) := by rw [cell_block BK2.out]; rfl
      have c2_6 : wt.cell? ⟨PO, 6, none⟩ = some (.int .i64 bl) := by rw [cell_block BK2.out]; rfl
      have c2_7 : wt.cell? ⟨PO, 7, none⟩ = some (.int .i64 bn) := by rw [cell_block BK2.out]; rfl
      have l2 : PO < wt.heap.size := lt_of_block BK2.out
      have f2 : ∀ o, wt.frozen? ⟨PO, o, none⟩ = false := fun o => free_block BK2.out
      go_upto_region 24 with fail
      clear c2_0 c2_1 c2_2 c2_3 c2_4 c2_5 c2_6 c2_7 l2 f2
      generalize hW : (wt.setCell ⟨PO, 2, none⟩ (.int .i64 v)) = wu
      have nGG : Hid (w.grownBy wu (some B)) := by show World.grownBy _ _ _; rw [← hW]; exact grownBy_setNew (GG.out) (by simp; omega) _
      have nRD : Hid (RdAt wu B a len cap zs (q + 1 + 1)) := by show RdAt _ _ _ _ _ _ _; rw [← hW]; exact RdAt.set (RD.out) (by simp; omega) _
      have nBK0 : Hid (wu.heap[w.heap.size]? = some (.cells #[.slice a1 n c1, .slice a2 m c2] 26 (0, 0))) := by show _ = _; rw [← hW, Below.heap_setCell _ _ _ _ (by simp; omega)]; exact BK0.out
      have nBK1 : Hid (wu.heap[w.heap.size + 1]? = some (.cells #[.int .i64 0, .int .i64 0, .int .i64 0, .int .i64 0, .int .i64 0, .int .i64 0, .int .i64 0, .int .i64 0] 50 (0, 0))) := by show _ = _; rw [← hW, Below.heap_setCell _ _ _ _ (by simp; omega)]; exact BK1.out
      have nBK2 : Hid (wu.heap[PO]? = some (.cells #[.int .i64 k, .int .i64 nl, .int .i64 v, .int .i64 l, .int .i64 al, .int .i64 an, .int .i64 bl, .int .i64 bn] 50 (0, 0))) := by show _ = _; rw [← hW]; exact set_block _ (BK2.out)
      clear GG RD BK0 BK1 BK2
      have GG := nGG
      have RD := nRD
      clear nGG nRD
      have BK0 := nBK0
      clear nBK0
      have BK1 := nBK1
      clear nBK1
      have BK2 := nBK2
      clear nBK2
      clear hW
      have c2_0 : wu.cell? ⟨PO, 0, none⟩ = some (.int .i64 k) := by rw [cell_block BK2.out]; rfl
      have c2_1 : wu.cell? ⟨PO, 1, none⟩ = some (.int .i64 nl) := by rw [cell_block BK2.out]; rfl
      have c2_2 : wu.cell? ⟨PO, 2, none⟩ = some (.int .i64 v) := by rw [cell_block BK2.out]; rfl
      have c2_3 : wu.cell? ⟨PO, 3, none⟩ = some (.int .i64 l) := by rw [cell_block BK2.out]; rfl
      have c2_4 : wu.cell? ⟨PO, 4, none⟩ = some (.int .i64 al) := by rw [cell_block BK2.out]; rfl
      have c2_5 : wu.cell? ⟨PO, 5, none⟩ = some (.int .i64 an) := by rw [cell_block BK2.out]; rfl
      have c2_6 : wu.cell? ⟨PO, 6, none⟩ = some (.int .i64 bl) := by rw [cell_block BK2.out]; rfl
      have c2_7 : wu.cell? ⟨PO, 7, none⟩ = some (.int .i64 bn) := by rw [cell_block BK2.out]; rfl
      have l2 : PO < wu.heap.size := lt_of_block BK2.out
      have f2 : ∀ o, wu.frozen? ⟨PO, o, none⟩ = false := fun o => free_block BK2.out
      have c1_0 : wu.cell? ⟨w.heap.size + 1, 0, none⟩ = some (.int .i64 0) := by rw [cell_block BK1.out]; rfl
      have c1_1 : wu.cell? ⟨w.heap.size + 1, 1, none⟩ = some (.int .i64 0) := by rw [cell_block BK1.out]; rfl
      have c1_2 : wu.cell? ⟨w.heap.size + 1, 2, none⟩ = some (.int .i64 0) := by rw [cell_block BK1.out]; rfl
      have c1_3 : wu.cell? ⟨w.heap.size + 1, 3, none⟩ = some (.int .i64 0) := by rw [cell_block BK1.out]; rfl
      have c1_4 : wu.cell? ⟨w.heap.size + 1, 4, none⟩ = some (.int .i64 0) := by rw [cell_block BK1.out]; rfl
      have c1_5 : wu.cell? ⟨w.heap.size + 1, 5, none⟩ = some (.int .i64 0) := by rw [cell_block BK1.out]; rfl
      have c1_6 : wu.cell? ⟨w.heap.size + 1, 6, none⟩ = some (.int .i64 0) := by rw [cell_block BK1.out]; rfl
      have c1_7 : wu.cell? ⟨w.heap.size + 1, 7, none⟩ = some (.int .i64 0) := by rw [cell_block BK1.out]; rfl
      have l1 : w.heap.size + 1 < wu.heap.size := lt_of_block BK1.out
      have f1 : ∀ o, wu.frozen? ⟨w.heap.size + 1, o, none⟩ = false := fun o => free_block BK1.out
      go_wp2_with fail
      clear c2_0 c2_1 c2_2 c2_3 c2_4 c2_5 c2_6 c2_7 l2 f2 c1_0 c1_1 c1_2 c1_3 c1_4 c1_5 c1_6 c1_7 l1 f1
      try simp only [Exit.inBlock, Exit.then]
      refine bodyPost_ret (v := .agg #[.int .i64 k, .int .i64 nl, .int .i64 v, .int .i64 l, .int .i64 al, .int .i64 an, .int .i64 bl, .int .i64 bn]) (by simp [*, cell_block BK1.out, results, Tryz.results68, go_sem]) rfl ?_
      exact ⟨k, nl, v, l, al, an, bl, bn, _, rfl, by omega, ((((((((RD.out.set (show B < w.heap.size + 1 by omega) _).set (show B < w.heap.size + 1 by omega) _).set (show B < w.heap.size + 1 by omega) _).set (show B < w.heap.size + 1 by omega) _).set (show B < w.heap.size + 1 by omega) _).set (show B < w.heap.size + 1 by omega) _).set (show B < w.heap.size + 1 by omega) _).set (show B < w.heap.size + 1 by omega) _), grownBy_setNew (grownBy_setNew (grownBy_setNew (grownBy_setNew (grownBy_setNew (grownBy_setNew (grownBy_setNew (grownBy_setNew (GG.out) (by simp) _) (by simp) _) (by simp) _) (by simp) _) (by simp) _) (by simp) _) (by simp) _) (by simp) _⟩
    · have c2_0 : ws.cell? ⟨PO, 0, none⟩ = some (.int .i64 k) := by rw [cell_block BK2.out]; rfl
      have c2_1 : ws.cell? ⟨PO, 1, none⟩ = some (.int .i64 nl) := by rw [cell_block BK2.out]; rfl
      have c2_2 : ws.cell? ⟨PO, 2, none⟩ = some (.int .i64 nn) := by rw [cell_block BK2.out]; rfl
      have c2_3 : ws.cell? ⟨PO, 3, none⟩ = some (.int .i64 l) := by rw [cell_block BK2.out]; rfl
      have c2_4 : ws.cell? ⟨PO, 4, none⟩ = some (.int .i64 al) := by rw [cell_block BK2.out]; rfl
      have c2_5 : ws.cell? ⟨PO, 5, none⟩ = some (.int .i64 an) := by rw [cell_block BK2.out]; rfl
      have c2_6 : ws.cell? ⟨PO, 6, none⟩ = some (.int .i64 bl) := by rw [cell_block BK2.out]; rfl
      have c2_7 : ws.cell? ⟨PO, 7, none⟩ = some (.int .i64 bn) := by rw [cell_block BK2.out]; rfl
      have l2 : PO < ws.heap.size := lt_of_block BK2.out
      have f2 : ∀ o, ws.frozen? ⟨PO, o, none⟩ = false := fun o => free_block BK2.out
      go_wp2_with fail
      clear c2_0 c2_1 c2_2 c2_3 c2_4 c2_5 c2_6 c2_7 l2 f2
      refine (num_lit B _ len cap a zs _ [0, 8, -1] _ RD.out (by omega) (by decide) (by decide) rfl).mono ?_
      rintro e wt ⟨v, -, rfl, hr1, hg1⟩
      have nGG : Hid (w.grownBy wt (some B)) := grownBy_trans GG.out hg1
      have nRD : Hid (RdAt wt B a len cap zs (q + 1 + 1)) := hr1
      have nBK0 : Hid (wt.heap[w.heap.size]? = some (.cells #[.slice a1 n c1, .slice a2 m c2] 26 (0, 0))) := by show _ = _; rw [hg1.block (w.heap.size) (lt_of_block BK0.out) (by simp; omega)]; exact BK0.out
      have nBK1 : Hid (wt.heap[w.heap.size + 1]? = some (.cells #[.int .i64 0, .int .i64 0, .int .i64 0, .int .i64 0, .int .i64 0, .int .i64 0, .int .i64 0, .int .i64 0] 50 (0, 0))) := by show _ = _; rw [hg1.block (w.heap.size + 1) (lt_of_block BK1.out) (by simp; omega)]; exact BK1.out
      have nBK2 : Hid (wt.heap[PO]? = some (.cells #[.int .i64 k, .int .i64 nl, .int .i64 nn, .int .i64 l, .int .i64 al, .int .i64 an, .int .i64 bl, .int .i64 bn] 50 (0, 0))) := by show _ = _; rw [hg1.block (PO) (lt_of_block BK2.out) (by simp; omega)]; exact BK2.out
      clear GG RD BK0 BK1 BK2
      have GG := nGG
      have RD := nRD
      clear nGG nRD
      have BK0 := nBK0
      clear nBK0
      have BK1 := nBK1
      clear nBK1
      have BK2 := nBK2
      clear nBK2
      clear hg1 hr1
      have c2_0 : wt.cell? ⟨PO, 0, none⟩ = some (.int .i64 k) := by rw [cell_block BK2.out]; rfl
      have c2_1 : wt.cell? ⟨PO, 1, none⟩ = some (.int .i64 nl) := by rw [cell_block BK2.out]; rfl
      have c2_2 : wt.cell? ⟨PO, 2, none⟩ = some (.int .i64 nn) := by rw [cell_block BK2.out]; rfl
      have c2_3 : wt.cell? ⟨PO, 3, none⟩ = some (.int .i64 l) := by rw [cell_block BK2.out]; rfl
      have c2_4 : wt.cell? ⟨PO, 4, none⟩ = some (.int .i64 al) := by rw [cell_block BK2.out]; rfl
      have c2_5 : wt.cell? ⟨PO, 5, none⟩ = some (.int .i64 an) := by rw [cell_block BK2.out]; rfl
      have c2_6 : wt.cell? ⟨PO, 6, none⟩ = some (.int .i64 bl) := by rw [cell_block BK2.out]; rfl
      have c2_7 : wt.cell? ⟨PO, 7, none⟩ = some (.int .i64 bn) := by rw [cell_block BK2.out]; rfl
      have l2 : PO < wt.heap.size := lt_of_block BK2.out
      have f2 : ∀ o, wt.frozen? ⟨PO, o, none⟩ = false := fun o => free_block BK2.out
      go_upto_region 24 with fail
      clear c2_0 c2_1 c2_2 c2_3 c2_4 c2_5 c2_6 c2_7 l2 f2
      generalize hW : (wt.setCell ⟨PO, 3, none⟩ (.int .i64 v)) = wu
      have nGG : Hid (w.grownBy wu (some B)) := by show World.grownBy _ _ _; rw [← hW]; exact grownBy_setNew (GG.out) (by simp; omega) _
      have nRD : Hid (RdAt wu B a len cap zs (q + 1 + 1)) := by show RdAt _ _ _ _ _ _ _; rw [← hW]; exact RdAt.set (RD.out) (by simp; omega) _
      have nBK0 : Hid (wu.heap[w.heap.size]? = some (.cells #[.slice a1 n c1, .slice a2 m c2] 26 (0, 0))) := by show _ = _; rw [← hW, Below.heap_setCell _ _ _ _ (by simp; omega)]; exact BK0.out
      have nBK1 : Hid (wu.heap[w.heap.size + 1]? = some (.cells #[.int .i64 0, .int .i64 0, .int .i64 0, .int .i64 0, .int .i64 0, .int .i64 0, .int .i64 0, .int .i64 0] 50 (0, 0))) := by show _ = _; rw [← hW, Below.heap_setCell _ _ _ _ (by simp; omega)]; exact BK1.out
      have nBK2 : Hid (wu.heap[PO]? = some (.cells #[.int .i64 k, .int .i64 nl, .int .i64 nn, .int .i64 v, .int .i64 al, .int .i64 an, .int .i64 bl, .int .i64 bn] 50 (0, 0))) := by show _ = _; rw [← hW]; exact set_block _ (BK2.out)
      clear GG RD BK0 BK1 BK2
      have GG := nGG
      have RD := nRD
      clear nGG nRD
      have BK0 := nBK0
      clear nBK0
      have BK1 := nBK1
      clear nBK1
      have BK2 := nBK2
      clear nBK2
      clear hW
      have c2_0 : wu.cell? ⟨PO, 0, none⟩ = some (.int .i64 k) := by rw [cell_block BK2.out]; rfl
      have c2_1 : wu.cell? ⟨PO, 1, none⟩ = some (.int .i64 nl) := by rw [cell_block BK2.out]; rfl
      have c2_2 : wu.cell? ⟨PO, 2, none⟩ = some (.int .i64 nn) := by rw [cell_block BK2.out]; rfl
      have c2_3 : wu.cell? ⟨PO, 3, none⟩ = some (.int .i64 v) := by rw [cell_block BK2.out]; rfl
      have c2_4 : wu.cell? ⟨PO, 4, none⟩ = some (.int .i64 al) := by rw [cell_block BK2.out]; rfl
      have c2_5 : wu.cell? ⟨PO, 5, none⟩ = some (.int .i64 an) := by rw [cell_block BK2.out]; rfl
      have c2_6 : wu.cell? ⟨PO, 6, none⟩ = some (.int .i64 bl) := by rw [cell_block BK2.out]; rfl
      have c2_7 : wu.cell? ⟨PO, 7, none⟩ = some (.int .i64 bn) := by rw [cell_block BK2.out]; rfl
      have l2 : PO < wu.heap.size := lt_of_block BK2.out
      have f2 : ∀ o, wu.frozen? ⟨PO, o, none⟩ = false := fun o => free_block BK2.out
      have c1_0 : wu.cell? ⟨w.heap.size + 1, 0, none⟩ = some (.int .i64 0) := by rw [cell_block BK1.out]; rfl
      have c1_1 : wu.cell? ⟨w.heap.size + 1, 1, none⟩ = some (.int .i64 0) := by rw [cell_block BK1.out]; rfl
      have c1_2 : wu.cell? ⟨w.heap.size + 1, 2, none⟩ = some (.int .i64 0) := by rw [cell_block BK1.out]; rfl
      have c1_3 : wu.cell? ⟨w.heap.size + 1, 3, none⟩ = some (.int .i64 0) := by rw [cell_block BK1.out]; rfl
      have c1_4 : wu.cell? ⟨w.heap.size + 1, 4, none⟩ = some (.int .i64 0) := by rw [cell_block BK1.out]; rfl
      have c1_5 : wu.cell? ⟨w.heap.size + 1, 5, none⟩ = some (.int .i64 0) := by rw [cell_block BK1.out]; rfl
      have c1_6 : wu.cell? ⟨w.heap.size + 1, 6, none⟩ = some (.int .i64 0) := by rw [cell_block BK1.out]; rfl
      have c1_7 : wu.cell? ⟨w.heap.size + 1, 7, none⟩ = some (.int .i64 0) := by rw [cell_block BK1.out]; rfl
      have l1 : w.heap.size + 1 < wu.heap.size := lt_of_block BK1.out
      have f1 : ∀ o, wu.frozen? ⟨w.heap.size + 1, o, none⟩ = false := fun o => free_block BK1.out
      go_wp2_with fail
      clear c2_0 c2_1 c2_2 c2_3 c2_4 c2_5 c2_6 c2_7 l2 f2 c1_0 c1_1 c1_2 c1_3 c1_4 c1_5 c1_6 c1_7 l1 f1
      try simp only [Exit.inBlock, Exit.then]
      refine bodyPost_ret (v := .agg #[.int .i64 k, .int .i64 nl, .int .i64 nn, .int .i64 v, .int .i64 al, .int .i64 an, .int .i64 bl, .int .i64 bn]) (by simp [*, cell_block BK1.out, results, Tryz.results68, go_sem]) rfl ?_
      exact ⟨k, nl, nn, v, al, an, bl, bn, _, rfl, by omega, ((((((((RD.out.set (show B < w.heap.size + 1 by omega) _).set (show B < w.heap.size + 1 by omega) _).set (show B < w.heap.size + 1 by omega) _).set (show B < w.heap.size + 1 by omega) _).set (show B < w.heap.size + 1 by omega) _).set (show B < w.heap.size + 1 by omega) _).set (show B < w.heap.size + 1 by omega) _).set (show B < w.heap.size + 1 by omega) _), grownBy_setNew (grownBy_setNew (grownBy_setNew (grownBy_setNew (grownBy_setNew (grownBy_setNew (grownBy_setNew (grownBy_setNew (GG.out) (by simp) _) (by simp) _) (by simp) _) (by simp) _) (by simp) _) (by simp) _) (by simp) _) (by simp) _⟩
    · have c2_0 : ws.cell? ⟨PO, 0, none⟩ = some (.int .i64 k) := by rw [cell_block BK2.out]; rfl
      have c2_1 : ws.cell? ⟨PO, 1, none⟩ = some (.int .i64 nl) := by rw [cell_block BK2.out]; rfl
      have c2_2 : ws.cell? ⟨PO, 2, none⟩ = some (.int .i64 nn) := by rw [cell_block BK2.out]; rfl
      have c2_3 : ws.cell? ⟨PO, 3, none⟩ = some (.int .i64 l) := by rw [cell_block BK2.out]; rfl
      have c2_4 : ws.cell? ⟨PO, 4, none⟩ = some (.int .i64 al) := by rw [cell_block BK2.out]; rfl
      have c2_5 : ws.cell? ⟨PO, 5, none⟩ = some (.int .i64 an) := by rw [cell_block BK2.out]; rfl
      have c2_6 : ws.cell? ⟨PO, 6, none⟩ = some (.int .i64 bl) := by rw [cell_block BK2.out]; rfl
      have c2_7 : ws.cell? ⟨PO, 7, none⟩ = some (.int .i64 bn) := by rw [cell_block BK2.out]; rfl
      have l2 : PO < ws.heap.size := lt_of_block BK2.out
      have f2 : ∀ o, ws.frozen? ⟨PO, o, none⟩ = false := fun o => free_block BK2.out
      go_upto_region 24 with fail
      clear c2_0 c2_1 c2_2 c2_3 c2_4 c2_5 c2_6 c2_7 l2 f2
      generalize hW : ((ws.setCell ⟨PO, 6, none⟩ (.int .i64 al)).setCell ⟨PO, 7, none⟩ (.int .i64 an)) = wu
      have nGG : Hid (w.grownBy wu (some B)) := by show World.grownBy _ _ _; rw [← hW]; exact grownBy_setNew (grownBy_setNew (GG.out) (by simp; omega) _) (by simp; omega) _
      have nRD : Hid (RdAt wu B a len cap zs (q + 1)) := by show RdAt _ _ _ _ _ _ _; rw [← hW]; exact RdAt.set (RdAt.set (RD.out) (by simp; omega) _) (by simp; omega) _
      have nBK0 : Hid (wu.heap[w.heap.size]? = some (.cells #[.slice a1 n c1, .slice a2 m c2] 26 (0, 0))) := by show _ = _; rw [← hW, Below.heap_setCell _ _ _ _ (by simp; omega), Below.heap_setCell _ _ _ _ (by simp; omega)]; exact BK0.out
      have nBK1 : Hid (wu.heap[w.heap.size + 1]? = some (.cells #[.int .i64 0, .int .i64 0, .int .i64 0, .int .i64 0, .int .i64 0, .int .i64 0, .int .i64 0, .int .i64 0] 50 (0, 0))) := by show _ = _; rw [← hW, Below.heap_setCell _ _ _ _ (by simp; omega), Below.heap_setCell _ _ _ _ (by simp; omega)]; exact BK1.out
      have nBK2 : Hid (wu.heap[PO]? = some (.cells #[.int .i64 k, .int .i64 nl, .int .i64 nn, .int .i64 l, .int .i64 al, .int .i64 an, .int .i64 al, .int .i64 an] 50 (0, 0))) := by show _ = _; rw [← hW]; exact set_block _ (set_block _ (BK2.out))
      clear GG RD BK0 BK1 BK2
      have GG := nGG
      have RD := nRD
      clear nGG nRD
      have BK0 := nBK0
      clear nBK0
      have BK1 := nBK1
      clear nBK1
      have BK2 := nBK2
      clear nBK2
      clear hW
      have c2_0 : wu.cell? ⟨PO, 0, none⟩ = some (.int .i64 k) := by rw [cell_block BK2.out]; rfl
      have c2_1 : wu.cell? ⟨PO, 1, none⟩ = some (.int .i64 nl) := by rw [cell_block BK2.out]; rfl
      have c2_2 : wu.cell? ⟨PO, 2, none⟩ = some (.int .i64 nn) := by rw [cell_block BK2.out]; rfl
      have c2_3 : wu.cell? ⟨PO, 3, none⟩ = some (.int .i64 l) := by rw [cell_block BK2.out]; rfl
      have c2_4 : wu.cell? ⟨PO, 4, none⟩ = some (.int .i64 al) := by rw [cell_block BK2.out]; rfl
      have c2_5 : wu.cell? ⟨PO, 5, none⟩ = some (.int .i64 an) := by rw [cell_block BK2.out]; rfl
      have c2_6 : wu.cell? ⟨PO, 6, none⟩ = some (.int .i64 al) := by rw [cell_block BK2.out]; rfl
      have c2_7 : wu.cell? ⟨PO, 7, none⟩ = some (.int .i64 an) := by rw [cell_block BK2.out]; rfl
      have l2 : PO < wu.heap.size := lt_of_block BK2.out
      have f2 : ∀ o, wu.frozen? ⟨PO, o, none⟩ = false := fun o => free_block BK2.out
      have c1_0 : wu.cell? ⟨w.heap.size + 1, 0, none⟩ = some (.int .i64 0) := by rw [cell_block BK1.out]; rfl
      have c1_1 : wu.cell? ⟨w.heap.size + 1, 1, none⟩ = some (.int .i64 0) := by rw [cell_block BK1.out]; rfl
      have c1_2 : wu.cell? ⟨w.heap.size + 1, 2, none⟩ = some (.int .i64 0) := by rw [cell_block BK1.out]; rfl
      have c1_3 : wu.cell? ⟨w.heap.size + 1, 3, none⟩ = some (.int .i64 0) := by rw [cell_block BK1.out]; rfl
      have c1_4 : wu.cell? ⟨w.heap.size + 1, 4, none⟩ = some (.int .i64 0) := by rw [cell_block BK1.out]; rfl
      have c1_5 : wu.cell? ⟨w.heap.size + 1, 5, none⟩ = some (.int .i64 0) := by rw [cell_block BK1.out]; rfl
      have c1_6 : wu.cell? ⟨w.heap.size + 1, 6, none⟩ = some (.int .i64 0) := by rw [cell_block BK1.out]; rfl
      have c1_7 : wu.cell? ⟨w.heap.size + 1, 7, none⟩ = some (.int .i64 0) := by rw [cell_block BK1.out]; rfl
      have l1 : w.heap.size + 1 < wu.heap.size := lt_of_block BK1.out
      have f1 : ∀ o, wu.frozen? ⟨w.heap.size + 1, o, none⟩ = false := fun o => free_block BK1.out
      go_wp2_with fail
      clear c2_0 c2_1 c2_2 c2_3 c2_4 c2_5 c2_6 c2_7 l2 f2 c1_0 c1_1 c1_2 c1_3 c1_4 c1_5 c1_6 c1_7 l1 f1
      try simp only [Exit.inBlock, Exit.then]
      refine bodyPost_ret (v := .agg #[.int .i64 k, .int .i64 nl, .int .i64 nn, .int .i64 l, .int .i64 al, .int .i64 an, .int .i64 al, .int .i64 an]) (by simp [*, cell_block BK1.out, results, Tryz.results68, go_sem]) rfl ?_
      exact ⟨k, nl, nn, l, al, an, al, an, _, rfl, by omega, ((((((((RD.out.set (show B < w.heap.size + 1 by omega) _).set (show B < w.heap.size + 1 by omega) _).set (show B < w.heap.size + 1 by omega) _).set (show B < w.heap.size + 1 by omega) _).set (show B < w.heap.size + 1 by omega) _).set (show B < w.heap.size + 1 by omega) _).set (show B < w.heap.size + 1 by omega) _).set (show B < w.heap.size + 1 by omega) _), grownBy_setNew (grownBy_setNew (grownBy_setNew (grownBy_setNew (grownBy_setNew (grownBy_setNew (grownBy_setNew (grownBy_setNew (GG.out) (by simp) _) (by simp) _) (by simp) _) (by simp) _) (by simp) _) (by simp) _) (by simp) _) (by simp) _⟩
    · have hz0 : (xq == 0) = false := by simp only [beq_eq_false_iff_ne, ne_eq]; omega
      have hz1 : (xq == 1) = false := by simp only [beq_eq_false_iff_ne, ne_eq]; omega
      have hz2 : (xq == 2) = false := by simp only [beq_eq_false_iff_ne, ne_eq]; omega
      have hz3 : (xq == 3) = false := by simp only [beq_eq_false_iff_ne, ne_eq]; omega
      clear hx3 hx0 hx1
      have c2_0 : ws.cell? ⟨PO, 0, none⟩ = some (.int .i64 k) := by rw [cell_block BK2.out]; rfl
      have c2_1 : ws.cell? ⟨PO, 1, none⟩ = some (.int .i64 nl) := by rw [cell_block BK2.out]; rfl
      have c2_2 : ws.cell? ⟨PO, 2, none⟩ = some (.int .i64 nn) := by rw [cell_block BK2.out]; rfl
      have c2_3 : ws.cell? ⟨PO, 3, none⟩ = some (.int .i64 l) := by rw [cell_block BK2.out]; rfl
      have c2_4 : ws.cell? ⟨PO, 4, none⟩ = some (.int .i64 al) := by rw [cell_block BK2.out]; rfl
      have c2_5 : ws.cell? ⟨PO, 5, none⟩ = some (.int .i64 an) := by rw [cell_block BK2.out]; rfl
      have c2_6 : ws.cell? ⟨PO, 6, none⟩ = some (.int .i64 bl) := by rw [cell_block BK2.out]; rfl
      have c2_7 : ws.cell? ⟨PO, 7, none⟩ = some (.int .i64 bn) := by rw [cell_block BK2.out]; rfl
      have l2 : PO < ws.heap.size := lt_of_block BK2.out
      have f2 : ∀ o, ws.frozen? ⟨PO, o, none⟩ = false := fun o => free_block BK2.out
      have c1_0 : ws.cell? ⟨w.heap.size + 1, 0, none⟩ = some (.int .i64 0) := by rw [cell_block BK1.out]; rfl
      have c1_1 : ws.cell? ⟨w.heap.size + 1, 1, none⟩ = some (.int .i64 0) := by rw [cell_block BK1.out]; rfl
      have c1_2 : ws.cell? ⟨w.heap.size + 1, 2, none⟩ = some (.int .i64 0) := by rw [cell_block BK1.out]; rfl
      have c1_3 : ws.cell? ⟨w.heap.size + 1, 3, none⟩ = some (.int .i64 0) := by rw [cell_block BK1.out]; rfl
      have c1_4 : ws.cell? ⟨w.heap.size + 1, 4, none⟩ = some (.int .i64 0) := by rw [cell_block BK1.out]; rfl
      have c1_5 : ws.cell? ⟨w.heap.size + 1, 5, none⟩ = some (.int .i64 0) := by rw [cell_block BK1.out]; rfl
      have c1_6 : ws.cell? ⟨w.heap.size + 1, 6, none⟩ = some (.int .i64 0) := by rw [cell_block BK1.out]; rfl
      have c1_7 : ws.cell? ⟨w.heap.size + 1, 7, none⟩ = some (.int .i64 0) := by rw [cell_block BK1.out]; rfl
      have l1 : w.heap.size + 1 < ws.heap.size := lt_of_block BK1.out
      have f1 : ∀ o, ws.frozen? ⟨w.heap.size + 1, o, none⟩ = false := fun o => free_block BK1.out
      go_wp2_with fail
      clear c2_0 c2_1 c2_2 c2_3 c2_4 c2_5 c2_6 c2_7 l2 f2 c1_0 c1_1 c1_2 c1_3 c1_4 c1_5 c1_6 c1_7 l1 f1
      try simp only [Exit.inBlock, Exit.then]
      refine bodyPost_ret (v := .agg #[.int .i64 k, .int .i64 nl, .int .i64 nn, .int .i64 l, .int .i64 al, .int .i64 an, .int .i64 bl, .int .i64 bn]) (by simp [*, cell_block BK1.out, results, Tryz.results68, go_sem]) rfl ?_
      exact ⟨k, nl, nn, l, al, an, bl, bn, _, rfl, by omega, ((((((((RD.out.set (show B < w.heap.size + 1 by omega) _).set (show B < w.heap.size + 1 by omega) _).set (show B < w.heap.size + 1 by omega) _).set (show B < w.heap.size + 1 by omega) _).set (show B < w.heap.size + 1 by omega) _).set (show B < w.heap.size + 1 by omega) _).set (show B < w.heap.size + 1 by omega) _).set (show B < w.heap.size + 1 by omega) _), grownBy_setNew (grownBy_setNew (grownBy_setNew (grownBy_setNew (grownBy_setNew (grownBy_setNew (grownBy_setNew (grownBy_setNew (GG.out) (by simp) _) (by simp) _) (by simp) _) (by simp) _) (by simp) _) (by simp) _) (by simp) _) (by simp) _⟩
end Go.Proofs.YtlnpbfeihjfnjaaGreatDoor.Lab

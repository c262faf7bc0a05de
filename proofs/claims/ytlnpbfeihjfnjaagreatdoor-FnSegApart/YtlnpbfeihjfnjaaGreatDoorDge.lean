/-
  What is drawn of graphs: edges, deeds, graphs, bent ones; a code is only read.
-/
import Derived.Test.YtlnpbfeihjfnjaaGreatDoorDrn
import Derived.Test.YtlnpbfeihjfnjaaGreatDoorLdo
import Derived.Deep.RegionHeld3
import Derived.Deep.DeepCutAuto
namespace Go.Proofs.YtlnpbfeihjfnjaaGreatDoor.Lab
open Go.RowKit Go.ChangeMaps
set_option linter.unusedVariables false
/-- No row of at least two numbers an element lies in a reader's block. -/
theorem row_not_rd {α : Type} {s : Nat} {enc : α → List Value} (h2 : 2 ≤ s) (he : ∀ x, ∃ i j r, enc x = .int .i64 i :: .int .i64 j :: r) {w : World} {v : Value} {xs : List α} {B len cap : Nat} {a : Option Addr} {zs : List Int} {pos : Int} (h : RowAt s enc w v xs) (hr : RdAt w B a len cap zs pos) : ∀ k, v.ownBlock = some k → 0 < xs.length → k ≠ B := by
  intro k hk hl e
  subst e
  rcases h with ⟨h0, _⟩ | ⟨h0, b, off, c, rfl, hb, hc⟩
  · rw [h0] at hl; simp at hl
  · simp only [Value.ownBlock, Option.some.injEq] at hk
    subst hk
    obtain ⟨x, hx⟩ : ∃ x, xs[0]? = some x := ⟨_, List.getElem?_eq_getElem hl⟩
    obtain ⟨i, j, r, hq⟩ := he x
    have c0 := hc 0 x hx 0 (.int .i64 i) (by rw [hq]; rfl)
    have c1 := hc 0 x hx 1 (.int .i64 j) (by rw [hq]; rfl)
    have hB := hr.1
    simp only [Nat.zero_mul, Nat.add_zero] at c0 c1
    have g0 : w.cell? ⟨b, off, none⟩ = #[Value.slice a len cap, .int .i64 pos][off]? := by simp [World.cell?, hB]
    have g1 : w.cell? ⟨b, off + 1, none⟩ = #[Value.slice a len cap, .int .i64 pos][off + 1]? := by simp [World.cell?, hB]
    rw [g0] at c0
    rw [g1] at c1
    match off, c0, c1 with
    | 0, c0, _ => simp at c0
    | 1, _, c1 => simp at c1
    | n + 2, c0, _ => simp at c0
theorem row_gr {α : Type} {s : Nat} {enc : α → List Value} (h2 : 2 ≤ s) (he : ∀ x, ∃ i j r, enc x = .int .i64 i :: .int .i64 j :: r) {w w' : World} {v : Value} {xs : List α} {B len cap : Nat} {a : Option Addr} {zs : List Int} {pos : Int} (h : RowAt s enc w v xs) (hr : RdAt w B a len cap zs pos) (hg : w.grownBy w' (some B)) : RowAt s enc w' v xs := by
  have hn := row_not_rd h2 he h hr
  rcases h with h | ⟨h0, b, off, c, rfl, hb, hc⟩
  · exact .inl h
  · refine .inr ⟨h0, b, off, c, rfl, Nat.lt_of_lt_of_le hb hg.size, fun j x hx i u hu => ?_⟩
    rw [World.cell?_of_block (hg.block b hb (fun e => hn b rfl h0 (by injection e)))]
    exact hc j x hx i u hu
theorem encNode_two (x : Nd) : ∃ i j r, encNode x = .int .i64 i :: .int .i64 j :: r := ⟨_, _, _, rfl⟩
theorem encEdge_two (x : Ed) : ∃ i j r, encEdge x = .int .i64 i :: .int .i64 j :: r := ⟨_, _, _, rfl⟩
theorem gr_drew {w w2 : World} {r : Option Nat} (h : w.drew.grownBy w2 r) : w.grownBy w2 r := ⟨h.os, h.tape, h.output, h.size, h.block⟩
set_option maxRecDepth 8000 in
set_option maxHeartbeats 4000000 in
theorem l2Edge (B len cap m c1 c2 : Nat) (a a1 a2 : Option Addr) (zs : List Int) (pos : Int) (ns : List Nd) (w : World) (h : RdAt w B a len cap zs pos) (hp : pos ≤ 10000000) (h1 : RowAt 2 encNode w (.slice a1 ns.length c1) ns) (hok : ∀ x ∈ ns, okB x.1 = true) (hl : ns.length ≤ 100000) :
    Calls Tryz.prog 103 #[.pointer (some ⟨B, 0, none⟩), .agg #[.slice a1 ns.length c1, .slice a2 m c2]] w fun e w' => ∃ l al an bl bn q, e = .returned (.agg #[.int .i64 l, .int .i64 al, .int .i64 an, .int .i64 bl, .int .i64 bn]) ∧ q ≤ pos + 8 ∧ RdAt w' B a len cap zs q ∧ w.grownBy w' (some B) := by
  have hB := h.lt
  have H1 : Hid (RowAt 2 encNode w (.slice a1 ns.length c1) ns ∧ (∀ x ∈ ns, okB x.1 = true)) := ⟨h1, hok⟩
  clear h1 hok
  obtain ⟨n, hn⟩ : ∃ n, n = ns.length := ⟨_, rfl⟩
  have HN : Hid (n = ns.length) := hn
  rw [← hn] at H1 hl ⊢
  clear hn
  go_enter Tryz.func103, Tryz.ntmps103
  go_wp2_with fail
  generalize hW : ((w.alloc (.cells #[.slice a1 n c1, .slice a2 m c2] 26)).alloc (.cells #[.int .i64 0, .int .i64 0, .int .i64 0, .int .i64 0, .int .i64 0] 48)) = w0
  have GG : Hid (w.grownBy w0 (some B)) := by show World.grownBy _ _ _; rw [← hW]; exact grownBy_trans (grownBy_trans (grownBy_refl _ _) (World.grownBy_alloc _ _ _)) (World.grownBy_alloc _ _ _)
  have RD : Hid (RdAt w0 B a len cap zs (pos)) := by show RdAt _ _ _ _ _ _ _; rw [← hW]; exact ((h).alloc _).alloc _
  have BK0 : Hid (w0.heap[w.heap.size]? = some (.cells #[.slice a1 n c1, .slice a2 m c2] 26 (0, 0))) := by show _ = _; rw [← hW]; rw [heap_alloc_old _ _ (by simp)]; exact newC (by simp)
  have BK1 : Hid (w0.heap[w.heap.size + 1]? = some (.cells #[.int .i64 0, .int .i64 0, .int .i64 0, .int .i64 0, .int .i64 0] 48 (0, 0))) := by show _ = _; rw [← hW]; exact newC (by simp)
  have Z0 : w0.heap.size = w.heap.size + 1 + 1 := by rw [← hW]; simp
  clear hW
  have H0 : Hid (RdAt w B a len cap zs pos) := h
  clear h Z0
  refine (l2Node _ _ _ _ _ _ _ RD.out (by omega)).mono ?_
  rintro e w1 ⟨al, an, rfl, oka, hr1, hg1⟩
  have nGG : Hid (w.grownBy w1 (some B)) := grownBy_trans GG.out hg1
  have nRD : Hid (RdAt w1 B a len cap zs (pos + 2)) := hr1
  have nBK0 : Hid (w1.heap[w.heap.size]? = some (.cells #[.slice a1 n c1, .slice a2 m c2] 26 (0, 0))) := by show _ = _; rw [hg1.block (w.heap.size) (lt_of_block BK0.out) (by simp; omega)]; exact BK0.out
  have nBK1 : Hid (w1.heap[w.heap.size + 1]? = some (.cells #[.int .i64 0, .int .i64 0, .int .i64 0, .int .i64 0, .int .i64 0] 48 (0, 0))) := by show _ = _; rw [hg1.block (w.heap.size + 1) (lt_of_block BK1.out) (by simp; omega)]; exact BK1.out
  clear GG RD BK0 BK1
  have GG := nGG
  have RD := nRD
  clear nGG nRD
  have BK0 := nBK0
  clear nBK0
  have BK1 := nBK1
  clear nBK1
  clear hg1 hr1
  go_wp2_with fail
  obtain ⟨PA, hPA⟩ : ∃ t, t = w1.heap.size := ⟨_, rfl⟩
  generalize hW : w1.alloc (.cells #[.int .i64 al, .int .i64 an] 46) = w2
  have kPA : w2.heap[PA]? = some (.cells #[.int .i64 al, .int .i64 an] 46 (0, 0)) := by rw [← hW, hPA]; exact new_block _ _
  have oPA : w.heap.size ≤ PA := by rw [hPA]; exact GG.out.size
  have oPA0 : w.heap.size < PA := by rw [hPA]; exact lt_of_block BK0.out
  have oPA1 : w.heap.size + 1 < PA := by rw [hPA]; exact lt_of_block BK1.out
  have nGG : Hid (w.grownBy w2 (some B)) := by show World.grownBy _ _ _; rw [← hW]; exact grownBy_trans GG.out (World.grownBy_alloc _ _ _)
  have nRD : Hid (RdAt w2 B a len cap zs (pos + 2)) := by show RdAt _ _ _ _ _ _ _; rw [← hW]; exact RD.out.alloc _
  have nBK0 : Hid (w2.heap[w.heap.size]? = some (.cells #[.slice a1 n c1, .slice a2 m c2] 26 (0, 0))) := by show _ = _; rw [← hW, heap_alloc_old _ _ (lt_of_block BK0.out)]; exact BK0.out
  have nBK1 : Hid (w2.heap[w.heap.size + 1]? = some (.cells #[.int .i64 0, .int .i64 0, .int .i64 0, .int .i64 0, .int .i64 0] 48 (0, 0))) := by show _ = _; rw [← hW, heap_alloc_old _ _ (lt_of_block BK1.out)]; exact BK1.out
  clear GG RD BK0 BK1
  have GG := nGG
  have RD := nRD
  clear nGG nRD
  have BK0 := nBK0
  clear nBK0
  have BK1 := nBK1
  clear nBK1
  have BK2 : Hid (w2.heap[PA]? = some (.cells #[.int .i64 al, .int .i64 an] 46 (0, 0))) := kPA
  rw [← hPA]
  clear hW kPA hPA
  refine (l2Node _ _ _ _ _ _ _ RD.out (by omega)).mono ?_
  rintro e w3 ⟨bl, bn, rfl, okb, hr1, hg1⟩
  have nGG : Hid (w.grownBy w3 (some B)) := grownBy_trans GG.out hg1
  have nRD : Hid (RdAt w3 B a len cap zs (pos + 2 + 2)) := hr1
  have nBK0 : Hid (w3.heap[w.heap.size]? = some (.cells #[.slice a1 n c1, .slice a2 m c2] 26 (0, 0))) := by show _ = _; rw [hg1.block (w.heap.size) (lt_of_block BK0.out) (by simp; omega)]; exact BK0.out
  have nBK1 : Hid (w3.heap[w.heap.size + 1]? = some (.cells #[.int .i64 0, .int .i64 0, .int .i64 0, .int .i64 0, .int .i64 0] 48 (0, 0))) := by show _ = _; rw [hg1.block (w.heap.size + 1) (lt_of_block BK1.out) (by simp; omega)]; exact BK1.out
  have nBK2 : Hid (w3.heap[PA]? = some (.cells #[.int .i64 al, .int .i64 an] 46 (0, 0))) := by show _ = _; rw [hg1.block (PA) (lt_of_block BK2.out) (by simp; omega)]; exact BK2.out
  clear GG RD BK0 BK1 BK2
  have GG := nGG
  have RD := nRD
  clear nGG nRD
  have BK0 := nBK0
  clear nBK0
  have BK1 := nBK1
  clear nBK1
  have BK2 := nBK2
  clear nBK2
  clear hg1 hr1
  obtain ⟨PB, hPB⟩ : ∃ t, w3.heap.size = t := ⟨_, rfl⟩
  obtain ⟨w4, hWPB⟩ : ∃ t, w3.alloc (.cells #[.int .i64 bl, .int .i64 bn] 46) = t := ⟨_, rfl⟩
  have kPB : w4.heap[PB]? = some (.cells #[.int .i64 bl, .int .i64 bn] 46 (0, 0)) := by rw [← hWPB, ← hPB]; exact new_block _ _
  have oPB : w.heap.size ≤ PB := by rw [← hPB]; exact GG.out.size
  have oPB0 : w.heap.size < PB := by rw [← hPB]; exact lt_of_block BK0.out
  have oPB1 : w.heap.size + 1 < PB := by rw [← hPB]; exact lt_of_block BK1.out
  have oPB2 : PA < PB := by rw [← hPB]; exact lt_of_block BK2.out
  have nGG : Hid (w.grownBy w4 (some B)) := by show World.grownBy _ _ _; rw [← hWPB]; exact grownBy_trans GG.out (World.grownBy_alloc _ _ _)
  have nRD : Hid (RdAt w4 B a len cap zs (pos + 2 + 2)) := by show RdAt _ _ _ _ _ _ _; rw [← hWPB]; exact RD.out.alloc _
  have nBK0 : Hid (w4.heap[w.heap.size]? = some (.cells #[.slice a1 n c1, .slice a2 m c2] 26 (0, 0))) := by show _ = _; rw [← hWPB, heap_alloc_old _ _ (lt_of_block BK0.out)]; exact BK0.out
  have nBK1 : Hid (w4.heap[w.heap.size + 1]? = some (.cells #[.int .i64 0, .int .i64 0, .int .i64 0, .int .i64 0, .int .i64 0] 48 (0, 0))) := by show _ = _; rw [← hWPB, heap_alloc_old _ _ (lt_of_block BK1.out)]; exact BK1.out
  have nBK2 : Hid (w4.heap[PA]? = some (.cells #[.int .i64 al, .int .i64 an] 46 (0, 0))) := by show _ = _; rw [← hWPB, heap_alloc_old _ _ (lt_of_block BK2.out)]; exact BK2.out
  clear GG RD BK0 BK1 BK2
  have GG := nGG
  have RD := nRD
  clear nGG nRD
  have BK0 := nBK0
  clear nBK0
  have BK1 := nBK1
  clear nBK1
  have BK2 := nBK2
  clear nBK2
  have BK3 : Hid (w4.heap[PB]? = some (.cells #[.int .i64 bl, .int .i64 bn] 46 (0, 0))) := kPB
  clear kPB
  have c0_0 : w4.cell? ⟨w.heap.size, 0, none⟩ = some (.slice a1 n c1) := by rw [cell_block BK0.out]; rfl
  have c0_1 : w4.cell? ⟨w.heap.size, 1, none⟩ = some (.slice a2 m c2) := by rw [cell_block BK0.out]; rfl
  have l0 : w.heap.size < w4.heap.size := lt_of_block BK0.out
  have f0 : ∀ o, w4.frozen? ⟨w.heap.size, o, none⟩ = false := fun o => free_block BK0.out
  have c1_0 : w4.cell? ⟨w.heap.size + 1, 0, none⟩ = some (.int .i64 0) := by rw [cell_block BK1.out]; rfl
  have c1_1 : w4.cell? ⟨w.heap.size + 1, 1, none⟩ = some (.int .i64 0) := by rw [cell_block BK1.out]; rfl
  have c1_2 : w4.cell? ⟨w.heap.size + 1, 2, none⟩ = some (.int .i64 0) := by rw [cell_block BK1.out]; rfl
  have c1_3 : w4.cell? ⟨w.heap.size + 1, 3, none⟩ = some (.int .i64 0) := by rw [cell_block BK1.out]; rfl
  have c1_4 : w4.cell? ⟨w.heap.size + 1, 4, none⟩ = some (.int .i64 0) := by rw [cell_block BK1.out]; rfl
  have l1 : w.heap.size + 1 < w4.heap.size := lt_of_block BK1.out
  have f1 : ∀ o, w4.frozen? ⟨w.heap.size + 1, o, none⟩ = false := fun o => free_block BK1.out
  have c2_0 : w4.cell? ⟨PA, 0, none⟩ = some (.int .i64 al) := by rw [cell_block BK2.out]; rfl
  have c2_1 : w4.cell? ⟨PA, 1, none⟩ = some (.int .i64 an) := by rw [cell_block BK2.out]; rfl
  have l2 : PA < w4.heap.size := lt_of_block BK2.out
  have f2 : ∀ o, w4.frozen? ⟨PA, o, none⟩ = false := fun o => free_block BK2.out
  have c3_0 : w4.cell? ⟨PB, 0, none⟩ = some (.int .i64 bl) := by rw [cell_block BK3.out]; rfl
  have c3_1 : w4.cell? ⟨PB, 1, none⟩ = some (.int .i64 bn) := by rw [cell_block BK3.out]; rfl
  have l3 : PB < w4.heap.size := lt_of_block BK3.out
  have f3 : ∀ o, w4.frozen? ⟨PB, o, none⟩ = false := fun o => free_block BK3.out
  have HIX0 : Hid (∀ W, w.grownBy W (some B) → 0 < n → ∃ b0 off, a1 = some ⟨b0, off, none⟩ ∧ b0 < W.heap.size ∧ ∀ j : Nat, j < n → ∃ x y, okB x = true ∧ W.cell? ⟨b0, off + j * 2, none⟩ = some (.int .i64 x) ∧ W.cell? ⟨b0, off + j * 2 + 1, none⟩ = some (.int .i64 y)) := fun W hW hn0 => by
    have hrow := row_gr (by decide) encNode_two H1.out.1 H0.out hW
    rcases hrow with ⟨hz, _⟩ | ⟨_, b0, off, c, hv, hb, hc⟩
    · have := HN.out; rw [hz] at this; simp at this; omega
    · simp only [Value.slice.injEq] at hv
      refine ⟨b0, off, hv.1, hb, fun j hj => ?_⟩
      obtain ⟨⟨x, y⟩, hx⟩ : ∃ x, ns[j]? = some x := ⟨_, List.getElem?_eq_getElem (by rw [← HN.out]; exact hj)⟩
      exact ⟨x, y, H1.out.2 _ (List.mem_of_getElem? hx), hc j _ hx 0 _ rfl, hc j _ hx 1 _ rfl⟩
  have HAB : Hid (okB al = true ∧ okB bl = true) := ⟨(nodeB_true oka).1, (nodeB_true okb).1⟩
  clear oka okb
  go_upto_region 3 with fail
  clear hWPB hPB c0_0 c0_1 l0 f0 c1_0 c1_1 c1_2 c1_3 c1_4 l1 f1 c2_0 c2_1 l2 f2 c3_0 c3_1 l3 f3
  go_cut [20] (fun s20 wx => ∃ (b : Bool) (q : Int), s20 = .bool b ∧ (b = true → 1 < n) ∧ q ≤ pos + 5 ∧ RdAt wx B a len cap zs q ∧ w.grownBy wx (some B) ∧ wx.heap[w.heap.size]? = some (.cells #[.slice a1 n c1, .slice a2 m c2] 26 (0, 0)) ∧ wx.heap[w.heap.size + 1]? = some (.cells #[.int .i64 0, .int .i64 0, .int .i64 0, .int .i64 0, .int .i64 0] 48 (0, 0)) ∧ wx.heap[PA]? = some (.cells #[.int .i64 al, .int .i64 an] 46 (0, 0)) ∧ wx.heap[PB]? = some (.cells #[.int .i64 bl, .int .i64 bn] 46 (0, 0)))
  case first =>
    by_cases hn1 : 1 < n
    · have hn1' : (1 : Int) < (n : Int) := by omega
      have c0_0 : w4.cell? ⟨w.heap.size, 0, none⟩ = some (.slice a1 n c1) := by rw [cell_block BK0.out]; rfl
      have c0_1 : w4.cell? ⟨w.heap.size, 1, none⟩ = some (.slice a2 m c2) := by rw [cell_block BK0.out]; rfl
      have l0 : w.heap.size < w4.heap.size := lt_of_block BK0.out
      have f0 : ∀ o, w4.frozen? ⟨w.heap.size, o, none⟩ = false := fun o => free_block BK0.out
      have c1_0 : w4.cell? ⟨w.heap.size + 1, 0, none⟩ = some (.int .i64 0) := by rw [cell_block BK1.out]; rfl
      have c1_1 : w4.cell? ⟨w.heap.size + 1, 1, none⟩ = some (.int .i64 0) := by rw [cell_block BK1.out]; rfl
      have c1_2 : w4.cell? ⟨w.heap.size + 1, 2, none⟩ = some (.int .i64 0) := by rw [cell_block BK1.out]; rfl
      have c1_3 : w4.cell? ⟨w.heap.size + 1, 3, none⟩ = some (.int .i64 0) := by rw [cell_block BK1.out]; rfl
      have c1_4 : w4.cell? ⟨w.heap.size + 1, 4, none⟩ = some (.int .i64 0) := by rw [cell_block BK1.out]; rfl
      have l1 : w.heap.size + 1 < w4.heap.size := lt_of_block BK1.out
      have f1 : ∀ o, w4.frozen? ⟨w.heap.size + 1, o, none⟩ = false := fun o => free_block BK1.out
      have c2_0 : w4.cell? ⟨PA, 0, none⟩ = some (.int .i64 al) := by rw [cell_block BK2.out]; rfl
      have c2_1 : w4.cell? ⟨PA, 1, none⟩ = some (.int .i64 an) := by rw [cell_block BK2.out]; rfl
      have l2 : PA < w4.heap.size := lt_of_block BK2.out
      have f2 : ∀ o, w4.frozen? ⟨PA, o, none⟩ = false := fun o => free_block BK2.out
      have c3_0 : w4.cell? ⟨PB, 0, none⟩ = some (.int .i64 bl) := by rw [cell_block BK3.out]; rfl
      have c3_1 : w4.cell? ⟨PB, 1, none⟩ = some (.int .i64 bn) := by rw [cell_block BK3.out]; rfl
      have l3 : PB < w4.heap.size := lt_of_block BK3.out
      have f3 : ∀ o, w4.frozen? ⟨PB, o, none⟩ = false := fun o => free_block BK3.out
      go_wp2_with fail
      refine (pick B len cap a zs _ _ _ RD.out (by omega) (by omega) (by omega)).mono ?_
      rintro e w5 ⟨x, rfl, hx0, hx1, hr1, hg1⟩
      clear c0_0 c0_1 l0 f0 c1_0 c1_1 c1_2 c1_3 c1_4 l1 f1 c2_0 c2_1 l2 f2 c3_0 c3_1 l3 f3
      have nGG : Hid (w.grownBy w5 (some B)) := grownBy_trans GG.out hg1
      have nRD : Hid (RdAt w5 B a len cap zs (pos + 2 + 2 + 1)) := hr1
      have nBK0 : Hid (w5.heap[w.heap.size]? = some (.cells #[.slice a1 n c1, .slice a2 m c2] 26 (0, 0))) := by show _ = _; rw [hg1.block (w.heap.size) (lt_of_block BK0.out) (by simp; omega)]; exact BK0.out
      have nBK1 : Hid (w5.heap[w.heap.size + 1]? = some (.cells #[.int .i64 0, .int .i64 0, .int .i64 0, .int .i64 0, .int .i64 0] 48 (0, 0))) := by show _ = _; rw [hg1.block (w.heap.size + 1) (lt_of_block BK1.out) (by simp; omega)]; exact BK1.out
      have nBK2 : Hid (w5.heap[PA]? = some (.cells #[.int .i64 al, .int .i64 an] 46 (0, 0))) := by show _ = _; rw [hg1.block (PA) (lt_of_block BK2.out) (by simp; omega)]; exact BK2.out
      have nBK3 : Hid (w5.heap[PB]? = some (.cells #[.int .i64 bl, .int .i64 bn] 46 (0, 0))) := by show _ = _; rw [hg1.block (PB) (lt_of_block BK3.out) (by simp; omega)]; exact BK3.out
      clear GG RD BK0 BK1 BK2 BK3
      have GG := nGG
      have RD := nRD
      clear nGG nRD
      have BK0 := nBK0
      clear nBK0
      have BK1 := nBK1
      clear nBK1
      have BK2 := nBK2
      clear nBK2
      have BK3 := nBK3
      clear nBK3
      clear hg1 hr1
      have c0_0 : w5.cell? ⟨w.heap.size, 0, none⟩ = some (.slice a1 n c1) := by rw [cell_block BK0.out]; rfl
      have c0_1 : w5.cell? ⟨w.heap.size, 1, none⟩ = some (.slice a2 m c2) := by rw [cell_block BK0.out]; rfl
      have l0 : w.heap.size < w5.heap.size := lt_of_block BK0.out
      have f0 : ∀ o, w5.frozen? ⟨w.heap.size, o, none⟩ = false := fun o => free_block BK0.out
      have c1_0 : w5.cell? ⟨w.heap.size + 1, 0, none⟩ = some (.int .i64 0) := by rw [cell_block BK1.out]; rfl
      have c1_1 : w5.cell? ⟨w.heap.size + 1, 1, none⟩ = some (.int .i64 0) := by rw [cell_block BK1.out]; rfl
      have c1_2 : w5.cell? ⟨w.heap.size + 1, 2, none⟩ = some (.int .i64 0) := by rw [cell_block BK1.out]; rfl
      have c1_3 : w5.cell? ⟨w.heap.size + 1, 3, none⟩ = some (.int .i64 0) := by rw [cell_block BK1.out]; rfl
      have c1_4 : w5.cell? ⟨w.heap.size + 1, 4, none⟩ = some (.int .i64 0) := by rw [cell_block BK1.out]; rfl
      have l1 : w.heap.size + 1 < w5.heap.size := lt_of_block BK1.out
      have f1 : ∀ o, w5.frozen? ⟨w.heap.size + 1, o, none⟩ = false := fun o => free_block BK1.out
      have c2_0 : w5.cell? ⟨PA, 0, none⟩ = some (.int .i64 al) := by rw [cell_block BK2.out]; rfl
      have c2_1 : w5.cell? ⟨PA, 1, none⟩ = some (.int .i64 an) := by rw [cell_block BK2.out]; rfl
      have l2 : PA < w5.heap.size := lt_of_block BK2.out
      have f2 : ∀ o, w5.frozen? ⟨PA, o, none⟩ = false := fun o => free_block BK2.out
      have c3_0 : w5.cell? ⟨PB, 0, none⟩ = some (.int .i64 bl) := by rw [cell_block BK3.out]; rfl
      have c3_1 : w5.cell? ⟨PB, 1, none⟩ = some (.int .i64 bn) := by rw [cell_block BK3.out]; rfl
      have l3 : PB < w5.heap.size := lt_of_block BK3.out
      have f3 : ∀ o, w5.frozen? ⟨PB, o, none⟩ = false := fun o => free_block BK3.out
      go_wp2_with fail
      go_meet
      exact ⟨_, _, rfl, fun _ => hn1, by omega, RD.out, GG.out, BK0.out, BK1.out, BK2.out, BK3.out⟩
    · have hn1' : ¬ (1 : Int) < (n : Int) := by omega
      have c0_0 : w4.cell? ⟨w.heap.size, 0, none⟩ = some (.slice a1 n c1) := by rw [cell_block BK0.out]; rfl
      have c0_1 : w4.cell? ⟨w.heap.size, 1, none⟩ = some (.slice a2 m c2) := by rw [cell_block BK0.out]; rfl
      have l0 : w.heap.size < w4.heap.size := lt_of_block BK0.out
      have f0 : ∀ o, w4.frozen? ⟨w.heap.size, o, none⟩ = false := fun o => free_block BK0.out
      have c1_0 : w4.cell? ⟨w.heap.size + 1, 0, none⟩ = some (.int .i64 0) := by rw [cell_block BK1.out]; rfl
      have c1_1 : w4.cell? ⟨w.heap.size + 1, 1, none⟩ = some (.int .i64 0) := by rw [cell_block BK1.out]; rfl
      have c1_2 : w4.cell? ⟨w.heap.size + 1, 2, none⟩ = some (.int .i64 0) := by rw [cell_block BK1.out]; rfl
      have c1_3 : w4.cell? ⟨w.heap.size + 1, 3, none⟩ = some (.int .i64 0) := by rw [cell_block BK1.out]; rfl
      have c1_4 : w4.cell? ⟨w.heap.size + 1, 4, none⟩ = some (.int .i64 0) := by rw [cell_block BK1.out]; rfl
      have l1 : w.heap.size + 1 < w4.heap.size := lt_of_block BK1.out
      have f1 : ∀ o, w4.frozen? ⟨w.heap.size + 1, o, none⟩ = false := fun o => free_block BK1.out
      have c2_0 : w4.cell? ⟨PA, 0, none⟩ = some (.int .i64 al) := by rw [cell_block BK2.out]; rfl
      have c2_1 : w4.cell? ⟨PA, 1, none⟩ = some (.int .i64 an) := by rw [cell_block BK2.out]; rfl
      have l2 : PA < w4.heap.size := lt_of_block BK2.out
      have f2 : ∀ o, w4.frozen? ⟨PA, o, none⟩ = false := fun o => free_block BK2.out
      have c3_0 : w4.cell? ⟨PB, 0, none⟩ = some (.int .i64 bl) := by rw [cell_block BK3.out]; rfl
      have c3_1 : w4.cell? ⟨PB, 1, none⟩ = some (.int .i64 bn) := by rw [cell_block BK3.out]; rfl
      have l3 : PB < w4.heap.size := lt_of_block BK3.out
      have f3 : ∀ o, w4.frozen? ⟨PB, o, none⟩ = false := fun o => free_block BK3.out
      go_wp2_with fail
      go_meet
      exact ⟨false, _, rfl, fun h => absurd h (by decide), by omega, RD.out, GG.out, BK0.out, BK1.out, BK2.out, BK3.out⟩
  case rest =>
    obtain ⟨b, q, rfl, hbn, hq, hrd, hgg, hb0, hb1, hb2, hb3⟩ := hcut
    generalize wc = w6 at *
    clear GG RD BK0 BK1 BK2 BK3
    have GG : Hid (w.grownBy w6 (some B)) := hgg
    have RD : Hid (RdAt w6 B a len cap zs q) := hrd
    have BK0 : Hid (w6.heap[w.heap.size]? = some (.cells #[.slice a1 n c1, .slice a2 m c2] 26 (0, 0))) := hb0
    have BK1 : Hid (w6.heap[w.heap.size + 1]? = some (.cells #[.int .i64 0, .int .i64 0, .int .i64 0, .int .i64 0, .int .i64 0] 48 (0, 0))) := hb1
    have BK2 : Hid (w6.heap[PA]? = some (.cells #[.int .i64 al, .int .i64 an] 46 (0, 0))) := hb2
    have BK3 : Hid (w6.heap[PB]? = some (.cells #[.int .i64 bl, .int .i64 bn] 46 (0, 0))) := hb3
    clear hgg hrd hb0 hb1 hb2 hb3
    go_upto_if 20 with fail
    go_cut [2] (fun s2 wx => ∃ (al an bl bn q : Int), (okB al = true ∧ okB bl = true) ∧ q ≤ pos + 7 ∧ RdAt wx B a len cap zs q ∧ w.grownBy wx (some B) ∧ wx.heap[w.heap.size]? = some (.cells #[.slice a1 n c1, .slice a2 m c2] 26 (0, 0)) ∧ wx.heap[w.heap.size + 1]? = some (.cells #[.int .i64 0, .int .i64 0, .int .i64 0, .int .i64 0, .int .i64 0] 48 (0, 0)) ∧ wx.heap[PA]? = some (.cells #[.int .i64 al, .int .i64 an] 46 (0, 0)) ∧ wx.heap[PB]? = some (.cells #[.int .i64 bl, .int .i64 bn] 46 (0, 0)))
    case first =>
      cases b
      · have c0_0 : w6.cell? ⟨w.heap.size, 0, none⟩ = some (.slice a1 n c1) := by rw [cell_block BK0.out]; rfl
        have c0_1 : w6.cell? ⟨w.heap.size, 1, none⟩ = some (.slice a2 m c2) := by rw [cell_block BK0.out]; rfl
        have l0 : w.heap.size < w6.heap.size := lt_of_block BK0.out
        have f0 : ∀ o, w6.frozen? ⟨w.heap.size, o, none⟩ = false := fun o => free_block BK0.out
        have c1_0 : w6.cell? ⟨w.heap.size + 1, 0, none⟩ = some (.int .i64 0) := by rw [cell_block BK1.out]; rfl
        have c1_1 : w6.cell? ⟨w.heap.size + 1, 1, none⟩ = some (.int .i64 0) := by rw [cell_block BK1.out]; rfl
        have c1_2 : w6.cell? ⟨w.heap.size + 1, 2, none⟩ = some (.int .i64 0) := by rw [cell_block BK1.out]; rfl
        have c1_3 : w6.cell? ⟨w.heap.size + 1, 3, none⟩ = some (.int .i64 0) := by rw [cell_block BK1.out]; rfl
        have c1_4 : w6.cell? ⟨w.heap.size + 1, 4, none⟩ = some (.int .i64 0) := by rw [cell_block BK1.out]; rfl
        have l1 : w.heap.size + 1 < w6.heap.size := lt_of_block BK1.out
        have f1 : ∀ o, w6.frozen? ⟨w.heap.size + 1, o, none⟩ = false := fun o => free_block BK1.out
        have c2_0 : w6.cell? ⟨PA, 0, none⟩ = some (.int .i64 al) := by rw [cell_block BK2.out]; rfl
        have c2_1 : w6.cell? ⟨PA, 1, none⟩ = some (.int .i64 an) := by rw [cell_block BK2.out]; rfl
        have l2 : PA < w6.heap.size := lt_of_block BK2.out
        have f2 : ∀ o, w6.frozen? ⟨PA, o, none⟩ = false := fun o => free_block BK2.out
        have c3_0 : w6.cell? ⟨PB, 0, none⟩ = some (.int .i64 bl) := by rw [cell_block BK3.out]; rfl
        have c3_1 : w6.cell? ⟨PB, 1, none⟩ = some (.int .i64 bn) := by rw [cell_block BK3.out]; rfl
        have l3 : PB < w6.heap.size := lt_of_block BK3.out
        have f3 : ∀ o, w6.frozen? ⟨PB, o, none⟩ = false := fun o => free_block BK3.out
        go_wp2_with fail
        go_meet
        exact ⟨_, _, _, _, _, HAB.out, by omega, RD.out, GG.out, BK0.out, BK1.out, BK2.out, BK3.out⟩
      · have hn1 := hbn rfl
        have HIX : Hid (∀ W, w.grownBy W (some B) → ∃ b0 off, a1 = some ⟨b0, off, none⟩ ∧ b0 < W.heap.size ∧ ∀ j : Nat, j < n → ∃ x y, okB x = true ∧ W.cell? ⟨b0, off + j * 2, none⟩ = some (.int .i64 x) ∧ W.cell? ⟨b0, off + j * 2 + 1, none⟩ = some (.int .i64 y)) := fun W hW => HIX0.out W hW (by omega)
        obtain ⟨b0, off, rfl, -, -⟩ := HIX.out _ GG.out
        have HIX0C := HIX0
        clear HIX0C
        go_upto_region 4 with fail
        go_cut [2] (fun s2 wx => ∃ (x1 y1 : Int), okB x1 = true ∧ RdAt wx B a len cap zs (q + 1) ∧ w.grownBy wx (some B) ∧ wx.heap[w.heap.size]? = some (.cells #[.slice (some ⟨b0, off, none⟩) n c1, .slice a2 m c2] 26 (0, 0)) ∧ wx.heap[w.heap.size + 1]? = some (.cells #[.int .i64 0, .int .i64 0, .int .i64 0, .int .i64 0, .int .i64 0] 48 (0, 0)) ∧ wx.heap[PA]? = some (.cells #[.int .i64 x1, .int .i64 y1] 46 (0, 0)) ∧ wx.heap[PB]? = some (.cells #[.int .i64 bl, .int .i64 bn] 46 (0, 0)))
        case first =>
          have c0_0 : w6.cell? ⟨w.heap.size, 0, none⟩ = some (.slice (some ⟨b0, off, none⟩) n c1) := by rw [cell_block BK0.out]; rfl
          have c0_1 : w6.cell? ⟨w.heap.size, 1, none⟩ = some (.slice a2 m c2) := by rw [cell_block BK0.out]; rfl
          have l0 : w.heap.size < w6.heap.size := lt_of_block BK0.out
          have f0 : ∀ o, w6.frozen? ⟨w.heap.size, o, none⟩ = false := fun o => free_block BK0.out
          have c1_0 : w6.cell? ⟨w.heap.size + 1, 0, none⟩ = some (.int .i64 0) := by rw [cell_block BK1.out]; rfl
          have c1_1 : w6.cell? ⟨w.heap.size + 1, 1, none⟩ = some (.int .i64 0) := by rw [cell_block BK1.out]; rfl
          have c1_2 : w6.cell? ⟨w.heap.size + 1, 2, none⟩ = some (.int .i64 0) := by rw [cell_block BK1.out]; rfl
          have c1_3 : w6.cell? ⟨w.heap.size + 1, 3, none⟩ = some (.int .i64 0) := by rw [cell_block BK1.out]; rfl
          have c1_4 : w6.cell? ⟨w.heap.size + 1, 4, none⟩ = some (.int .i64 0) := by rw [cell_block BK1.out]; rfl
          have l1 : w.heap.size + 1 < w6.heap.size := lt_of_block BK1.out
          have f1 : ∀ o, w6.frozen? ⟨w.heap.size + 1, o, none⟩ = false := fun o => free_block BK1.out
          have c2_0 : w6.cell? ⟨PA, 0, none⟩ = some (.int .i64 al) := by rw [cell_block BK2.out]; rfl
          have c2_1 : w6.cell? ⟨PA, 1, none⟩ = some (.int .i64 an) := by rw [cell_block BK2.out]; rfl
          have l2 : PA < w6.heap.size := lt_of_block BK2.out
          have f2 : ∀ o, w6.frozen? ⟨PA, o, none⟩ = false := fun o => free_block BK2.out
          have c3_0 : w6.cell? ⟨PB, 0, none⟩ = some (.int .i64 bl) := by rw [cell_block BK3.out]; rfl
          have c3_1 : w6.cell? ⟨PB, 1, none⟩ = some (.int .i64 bn) := by rw [cell_block BK3.out]; rfl
          have l3 : PB < w6.heap.size := lt_of_block BK3.out
          have f3 : ∀ o, w6.frozen? ⟨PB, o, none⟩ = false := fun o => free_block BK3.out
          go_region_with (first
            | (go_at_call 80; refine (pick B len cap a zs _ _ w6.drew RD.out (by omega) (by omega) (by omega)).mono ?_; rintro e w7 ⟨jj, rfl, hj0, hj1, hr1, hg1'⟩; have hg1 := gr_drew hg1'; obtain ⟨j, rfl⟩ := Int.eq_ofNat_of_zero_le hj0; have hjn : j < n := (by omega); obtain ⟨b1, off1, hab, lb, hce⟩ := HIX.out _ (grownBy_trans GG.out hg1); obtain ⟨rfl, rfl⟩ : b0 = b1 ∧ off = off1 := (by simpa using hab); obtain ⟨x1, y1, hokx1, e0, e1⟩ := hce j hjn; clear hab hce; have g00 : w7.cell? ⟨w.heap.size, 0, none⟩ = some (.slice (some ⟨b0, off, none⟩) n c1) := (by rw [World.cell?_of_block (hg1.block (w.heap.size) (lt_of_block BK0.out) (by simp; omega))]; exact c0_0); have g20 : w7.cell? ⟨PA, 0, none⟩ = some (.int .i64 al) := (by rw [World.cell?_of_block (hg1.block (PA) (lt_of_block BK2.out) (by simp; omega))]; exact c2_0); have g21 : w7.cell? ⟨PA, 1, none⟩ = some (.int .i64 an) := (by rw [World.cell?_of_block (hg1.block (PA) (lt_of_block BK2.out) (by simp; omega))]; exact c2_1); have gl0 : w.heap.size < w7.heap.size := Nat.lt_of_lt_of_le (lt_of_block BK0.out) hg1.size; have gl2 : PA < w7.heap.size := Nat.lt_of_lt_of_le (lt_of_block BK2.out) hg1.size; have gf2 : ∀ o, w7.frozen? ⟨PA, o, none⟩ = false := (fun o => by rw [World.frozen?_of_block (hg1.block (PA) (lt_of_block BK2.out) (by simp; omega))]; exact f2 o)))
          clear c0_0 c0_1 l0 f0 c1_0 c1_1 c1_2 c1_3 c1_4 l1 f1 c2_0 c2_1 l2 f2 c3_0 c3_1 l3 f3
          all_goals (
            clear g00 g20 g21 gl0 gl2 gf2 e0 e1 hg1' hj0 hj1
            have nGG : Hid (w.grownBy w7 (some B)) := grownBy_trans GG.out hg1
            have nRD : Hid (RdAt w7 B a len cap zs (q + 1)) := hr1
            have nBK0 : Hid (w7.heap[w.heap.size]? = some (.cells #[.slice (some ⟨b0, off, none⟩) n c1, .slice a2 m c2] 26 (0, 0))) := by show _ = _; rw [hg1.block (w.heap.size) (lt_of_block BK0.out) (by simp; omega)]; exact BK0.out
            have nBK1 : Hid (w7.heap[w.heap.size + 1]? = some (.cells #[.int .i64 0, .int .i64 0, .int .i64 0, .int .i64 0, .int .i64 0] 48 (0, 0))) := by show _ = _; rw [hg1.block (w.heap.size + 1) (lt_of_block BK1.out) (by simp; omega)]; exact BK1.out
            have nBK2 : Hid (w7.heap[PA]? = some (.cells #[.int .i64 al, .int .i64 an] 46 (0, 0))) := by show _ = _; rw [hg1.block (PA) (lt_of_block BK2.out) (by simp; omega)]; exact BK2.out
            have nBK3 : Hid (w7.heap[PB]? = some (.cells #[.int .i64 bl, .int .i64 bn] 46 (0, 0))) := by show _ = _; rw [hg1.block (PB) (lt_of_block BK3.out) (by simp; omega)]; exact BK3.out
            clear GG RD BK0 BK1 BK2 BK3
            have GG := nGG
            have RD := nRD
            clear nGG nRD
            have BK0 := nBK0
            clear nBK0
            have BK1 := nBK1
            clear nBK1
            have BK2 := nBK2
            clear nBK2
            have BK3 := nBK3
            clear nBK3
            clear hg1 hr1
            generalize hW : ((w7.setCell ⟨PA, 0, none⟩ (.int .i64 x1)).setCell ⟨PA, 1, none⟩ (.int .i64 y1)) = w8
            have nGG : Hid (w.grownBy w8 (some B)) := by show World.grownBy _ _ _; rw [← hW]; exact grownBy_setNew (grownBy_setNew (GG.out) (by simp; omega) _) (by simp; omega) _
            have nRD : Hid (RdAt w8 B a len cap zs (q + 1)) := by show RdAt _ _ _ _ _ _ _; rw [← hW]; exact RdAt.set (RdAt.set (RD.out) (by simp; omega) _) (by simp; omega) _
            have nBK0 : Hid (w8.heap[w.heap.size]? = some (.cells #[.slice (some ⟨b0, off, none⟩) n c1, .slice a2 m c2] 26 (0, 0))) := by show _ = _; rw [← hW, Below.heap_setCell _ _ _ _ (by simp; omega), Below.heap_setCell _ _ _ _ (by simp; omega)]; exact BK0.out
            have nBK1 : Hid (w8.heap[w.heap.size + 1]? = some (.cells #[.int .i64 0, .int .i64 0, .int .i64 0, .int .i64 0, .int .i64 0] 48 (0, 0))) := by show _ = _; rw [← hW, Below.heap_setCell _ _ _ _ (by simp; omega), Below.heap_setCell _ _ _ _ (by simp; omega)]; exact BK1.out
            have nBK2 : Hid (w8.heap[PA]? = some (.cells #[.int .i64 x1, .int .i64 y1] 46 (0, 0))) := by show _ = _; rw [← hW]; exact set_block _ (set_block _ (BK2.out))
            have nBK3 : Hid (w8.heap[PB]? = some (.cells #[.int .i64 bl, .int .i64 bn] 46 (0, 0))) := by show _ = _; rw [← hW, Below.heap_setCell _ _ _ _ (by simp; omega), Below.heap_setCell _ _ _ _ (by simp; omega)]; exact BK3.out
            clear GG RD BK0 BK1 BK2 BK3
            have GG := nGG
            have RD := nRD
            clear nGG nRD
            have BK0 := nBK0
            clear nBK0
            have BK1 := nBK1
            clear nBK1
            have BK2 := nBK2
            clear nBK2
            have BK3 := nBK3
            clear nBK3
            clear hW
            have c0_0 : w8.cell? ⟨w.heap.size, 0, none⟩ = some (.slice (some ⟨b0, off, none⟩) n c1) := by rw [cell_block BK0.out]; rfl
            have c0_1 : w8.cell? ⟨w.heap.size, 1, none⟩ = some (.slice a2 m c2) := by rw [cell_block BK0.out]; rfl
            have l0 : w.heap.size < w8.heap.size := lt_of_block BK0.out
            have f0 : ∀ o, w8.frozen? ⟨w.heap.size, o, none⟩ = false := fun o => free_block BK0.out
            have c1_0 : w8.cell? ⟨w.heap.size + 1, 0, none⟩ = some (.int .i64 0) := by rw [cell_block BK1.out]; rfl
            have c1_1 : w8.cell? ⟨w.heap.size + 1, 1, none⟩ = some (.int .i64 0) := by rw [cell_block BK1.out]; rfl
            have c1_2 : w8.cell? ⟨w.heap.size + 1, 2, none⟩ = some (.int .i64 0) := by rw [cell_block BK1.out]; rfl
            have c1_3 : w8.cell? ⟨w.heap.size + 1, 3, none⟩ = some (.int .i64 0) := by rw [cell_block BK1.out]; rfl
            have c1_4 : w8.cell? ⟨w.heap.size + 1, 4, none⟩ = some (.int .i64 0) := by rw [cell_block BK1.out]; rfl
            have l1 : w.heap.size + 1 < w8.heap.size := lt_of_block BK1.out
            have f1 : ∀ o, w8.frozen? ⟨w.heap.size + 1, o, none⟩ = false := fun o => free_block BK1.out
            have c2_0 : w8.cell? ⟨PA, 0, none⟩ = some (.int .i64 x1) := by rw [cell_block BK2.out]; rfl
            have c2_1 : w8.cell? ⟨PA, 1, none⟩ = some (.int .i64 y1) := by rw [cell_block BK2.out]; rfl
            have l2 : PA < w8.heap.size := lt_of_block BK2.out
            have f2 : ∀ o, w8.frozen? ⟨PA, o, none⟩ = false := fun o => free_block BK2.out
            have c3_0 : w8.cell? ⟨PB, 0, none⟩ = some (.int .i64 bl) := by rw [cell_block BK3.out]; rfl
            have c3_1 : w8.cell? ⟨PB, 1, none⟩ = some (.int .i64 bn) := by rw [cell_block BK3.out]; rfl
            have l3 : PB < w8.heap.size := lt_of_block BK3.out
            have f3 : ∀ o, w8.frozen? ⟨PB, o, none⟩ = false := fun o => free_block BK3.out
            go_wp2_with fail
            clear c0_0 c0_1 l0 f0 c1_0 c1_1 c1_2 c1_3 c1_4 l1 f1 c2_0 c2_1 l2 f2 c3_0 c3_1 l3 f3
            go_meet
            exact ⟨_, _, hokx1, RD.out, GG.out, BK0.out, BK1.out, BK2.out, BK3.out⟩)
        case rest =>
          obtain ⟨x1, y1, hokx1, hrd, hgg, hb0, hb1, hb2, hb3⟩ := hcut
          generalize wc = w8 at *
          clear GG RD BK0 BK1 BK2 BK3
          have GG : Hid (w.grownBy w8 (some B)) := hgg
          have RD : Hid (RdAt w8 B a len cap zs (q + 1)) := hrd
          have BK0 : Hid (w8.heap[w.heap.size]? = some (.cells #[.slice (some ⟨b0, off, none⟩) n c1, .slice a2 m c2] 26 (0, 0))) := hb0
          have BK1 : Hid (w8.heap[w.heap.size + 1]? = some (.cells #[.int .i64 0, .int .i64 0, .int .i64 0, .int .i64 0, .int .i64 0] 48 (0, 0))) := hb1
          have BK2 : Hid (w8.heap[PA]? = some (.cells #[.int .i64 x1, .int .i64 y1] 46 (0, 0))) := hb2
          have BK3 : Hid (w8.heap[PB]? = some (.cells #[.int .i64 bl, .int .i64 bn] 46 (0, 0))) := hb3
          clear hgg hrd hb0 hb1 hb2 hb3
          have c0_0 : w8.cell? ⟨w.heap.size, 0, none⟩ = some (.slice (some ⟨b0, off, none⟩) n c1) := by rw [cell_block BK0.out]; rfl
          have c0_1 : w8.cell? ⟨w.heap.size, 1, none⟩ = some (.slice a2 m c2) := by rw [cell_block BK0.out]; rfl
          have l0 : w.heap.size < w8.heap.size := lt_of_block BK0.out
          have f0 : ∀ o, w8.frozen? ⟨w.heap.size, o, none⟩ = false := fun o => free_block BK0.out
          have c1_0 : w8.cell? ⟨w.heap.size + 1, 0, none⟩ = some (.int .i64 0) := by rw [cell_block BK1.out]; rfl
          have c1_1 : w8.cell? ⟨w.heap.size + 1, 1, none⟩ = some (.int .i64 0) := by rw [cell_block BK1.out]; rfl
          have c1_2 : w8.cell? ⟨w.heap.size + 1, 2, none⟩ = some (.int .i64 0) := by rw [cell_block BK1.out]; rfl
          have c1_3 : w8.cell? ⟨w.heap.size + 1, 3, none⟩ = some (.int .i64 0) := by rw [cell_block BK1.out]; rfl
          have c1_4 : w8.cell? ⟨w.heap.size + 1, 4, none⟩ = some (.int .i64 0) := by rw [cell_block BK1.out]; rfl
          have l1 : w.heap.size + 1 < w8.heap.size := lt_of_block BK1.out
          have f1 : ∀ o, w8.frozen? ⟨w.heap.size + 1, o, none⟩ = false := fun o => free_block BK1.out
          have c2_0 : w8.cell? ⟨PA, 0, none⟩ = some (.int .i64 x1) := by rw [cell_block BK2.out]; rfl
          have c2_1 : w8.cell? ⟨PA, 1, none⟩ = some (.int .i64 y1) := by rw [cell_block BK2.out]; rfl
          have l2 : PA < w8.heap.size := lt_of_block BK2.out
          have f2 : ∀ o, w8.frozen? ⟨PA, o, none⟩ = false := fun o => free_block BK2.out
          have c3_0 : w8.cell? ⟨PB, 0, none⟩ = some (.int .i64 bl) := by rw [cell_block BK3.out]; rfl
          have c3_1 : w8.cell? ⟨PB, 1, none⟩ = some (.int .i64 bn) := by rw [cell_block BK3.out]; rfl
          have l3 : PB < w8.heap.size := lt_of_block BK3.out
          have f3 : ∀ o, w8.frozen? ⟨PB, o, none⟩ = false := fun o => free_block BK3.out
          go_wp2_with fail
          clear c0_0 c0_1 l0 f0 c1_0 c1_1 c1_2 c1_3 c1_4 l1 f1 c2_0 c2_1 l2 f2 c3_0 c3_1 l3 f3
          have c0_0 : w8.cell? ⟨w.heap.size, 0, none⟩ = some (.slice (some ⟨b0, off, none⟩) n c1) := by rw [cell_block BK0.out]; rfl
          have c0_1 : w8.cell? ⟨w.heap.size, 1, none⟩ = some (.slice a2 m c2) := by rw [cell_block BK0.out]; rfl
          have l0 : w.heap.size < w8.heap.size := lt_of_block BK0.out
          have f0 : ∀ o, w8.frozen? ⟨w.heap.size, o, none⟩ = false := fun o => free_block BK0.out
          have c1_0 : w8.cell? ⟨w.heap.size + 1, 0, none⟩ = some (.int .i64 0) := by rw [cell_block BK1.out]; rfl
          have c1_1 : w8.cell? ⟨w.heap.size + 1, 1, none⟩ = some (.int .i64 0) := by rw [cell_block BK1.out]; rfl
          have c1_2 : w8.cell? ⟨w.heap.size + 1, 2, none⟩ = some (.int .i64 0) := by rw [cell_block BK1.out]; rfl
          have c1_3 : w8.cell? ⟨w.heap.size + 1, 3, none⟩ = some (.int .i64 0) := by rw [cell_block BK1.out]; rfl
          have c1_4 : w8.cell? ⟨w.heap.size + 1, 4, none⟩ = some (.int .i64 0) := by rw [cell_block BK1.out]; rfl
          have l1 : w.heap.size + 1 < w8.heap.size := lt_of_block BK1.out
          have f1 : ∀ o, w8.frozen? ⟨w.heap.size + 1, o, none⟩ = false := fun o => free_block BK1.out
          have c2_0 : w8.cell? ⟨PA, 0, none⟩ = some (.int .i64 x1) := by rw [cell_block BK2.out]; rfl
          have c2_1 : w8.cell? ⟨PA, 1, none⟩ = some (.int .i64 y1) := by rw [cell_block BK2.out]; rfl
          have l2 : PA < w8.heap.size := lt_of_block BK2.out
          have f2 : ∀ o, w8.frozen? ⟨PA, o, none⟩ = false := fun o => free_block BK2.out
          have c3_0 : w8.cell? ⟨PB, 0, none⟩ = some (.int .i64 bl) := by rw [cell_block BK3.out]; rfl
          have c3_1 : w8.cell? ⟨PB, 1, none⟩ = some (.int .i64 bn) := by rw [cell_block BK3.out]; rfl
          have l3 : PB < w8.heap.size := lt_of_block BK3.out
          have f3 : ∀ o, w8.frozen? ⟨PB, o, none⟩ = false := fun o => free_block BK3.out
          go_region_with (first
            | (go_at_call 80; refine (pick B len cap a zs _ _ w8.drew RD.out (by omega) (by omega) (by omega)).mono ?_; rintro e w9 ⟨jj, rfl, hj0, hj1, hr1, hg1'⟩; have hg1 := gr_drew hg1'; obtain ⟨j, rfl⟩ := Int.eq_ofNat_of_zero_le hj0; have hjn : j < n := (by omega); obtain ⟨b1, off1, hab, lb, hce⟩ := HIX.out _ (grownBy_trans GG.out hg1); obtain ⟨rfl, rfl⟩ : b0 = b1 ∧ off = off1 := (by simpa using hab); obtain ⟨x2, y2, hokx2, e0, e1⟩ := hce j hjn; clear hab hce; have g00 : w9.cell? ⟨w.heap.size, 0, none⟩ = some (.slice (some ⟨b0, off, none⟩) n c1) := (by rw [World.cell?_of_block (hg1.block (w.heap.size) (lt_of_block BK0.out) (by simp; omega))]; exact c0_0); have g30 : w9.cell? ⟨PB, 0, none⟩ = some (.int .i64 bl) := (by rw [World.cell?_of_block (hg1.block (PB) (lt_of_block BK3.out) (by simp; omega))]; exact c3_0); have g31 : w9.cell? ⟨PB, 1, none⟩ = some (.int .i64 bn) := (by rw [World.cell?_of_block (hg1.block (PB) (lt_of_block BK3.out) (by simp; omega))]; exact c3_1); have gl0 : w.heap.size < w9.heap.size := Nat.lt_of_lt_of_le (lt_of_block BK0.out) hg1.size; have gl3 : PB < w9.heap.size := Nat.lt_of_lt_of_le (lt_of_block BK3.out) hg1.size; have gf3 : ∀ o, w9.frozen? ⟨PB, o, none⟩ = false := (fun o => by rw [World.frozen?_of_block (hg1.block (PB) (lt_of_block BK3.out) (by simp; omega))]; exact f3 o)))
          clear c0_0 c0_1 l0 f0 c1_0 c1_1 c1_2 c1_3 c1_4 l1 f1 c2_0 c2_1 l2 f2 c3_0 c3_1 l3 f3
          all_goals (
            clear g00 g30 g31 gl0 gl3 gf3 e0 e1 hg1' hj0 hj1
            have nGG : Hid (w.grownBy w9 (some B)) := grownBy_trans GG.out hg1
            have nRD : Hid (RdAt w9 B a len cap zs (q + 1 + 1)) := hr1
            have nBK0 : Hid (w9.heap[w.heap.size]? = some (.cells #[.slice (some ⟨b0, off, none⟩) n c1, .slice a2 m c2] 26 (0, 0))) := by show _ = _; rw [hg1.block (w.heap.size) (lt_of_block BK0.out) (by simp; omega)]; exact BK0.out
            have nBK1 : Hid (w9.heap[w.heap.size + 1]? = some (.cells #[.int .i64 0, .int .i64 0, .int .i64 0, .int .i64 0, .int .i64 0] 48 (0, 0))) := by show _ = _; rw [hg1.block (w.heap.size + 1) (lt_of_block BK1.out) (by simp; omega)]; exact BK1.out
            have nBK2 : Hid (w9.heap[PA]? = some (.cells #[.int .i64 x1, .int .i64 y1] 46 (0, 0))) := by show _ = _; rw [hg1.block (PA) (lt_of_block BK2.out) (by simp; omega)]; exact BK2.out
            have nBK3 : Hid (w9.heap[PB]? = some (.cells #[.int .i64 bl, .int .i64 bn] 46 (0, 0))) := by show _ = _; rw [hg1.block (PB) (lt_of_block BK3.out) (by simp; omega)]; exact BK3.out
            clear GG RD BK0 BK1 BK2 BK3
            have GG := nGG
            have RD := nRD
            clear nGG nRD
            have BK0 := nBK0
            clear nBK0
            have BK1 := nBK1
            clear nBK1
            have BK2 := nBK2
            clear nBK2
            have BK3 := nBK3
            clear nBK3
            clear hg1 hr1
            generalize hW : ((w9.setCell ⟨PB, 0, none⟩ (.int .i64 x2)).setCell ⟨PB, 1, none⟩ (.int .i64 y2)) = w10
            have nGG : Hid (w.grownBy w10 (some B)) := by show World.grownBy _ _ _; rw [← hW]; exact grownBy_setNew (grownBy_setNew (GG.out) (by simp; omega) _) (by simp; omega) _
            have nRD : Hid (RdAt w10 B a len cap zs (q + 1 + 1)) := by show RdAt _ _ _ _ _ _ _; rw [← hW]; exact RdAt.set (RdAt.set (RD.out) (by simp; omega) _) (by simp; omega) _
            have nBK0 : Hid (w10.heap[w.heap.size]? = some (.cells #[.slice (some ⟨b0, off, none⟩) n c1, .slice a2 m c2] 26 (0, 0))) := by show _ = _; rw [← hW, Below.heap_setCell _ _ _ _ (by simp; omega), Below.heap_setCell _ _ _ _ (by simp; omega)]; exact BK0.out
            have nBK1 : Hid (w10.heap[w.heap.size + 1]? = some (.cells #[.int .i64 0, .int .i64 0, .int .i64 0, .int .i64 0, .int .i64 0] 48 (0, 0))) := by show _ = _; rw [← hW, Below.heap_setCell _ _ _ _ (by simp; omega), Below.heap_setCell _ _ _ _ (by simp; omega)]; exact BK1.out
            have nBK2 : Hid (w10.heap[PA]? = some (.cells #[.int .i64 x1, .int .i64 y1] 46 (0, 0))) := by show _ = _; rw [← hW, Below.heap_setCell _ _ _ _ (by simp; omega), Below.heap_setCell _ _ _ _ (by simp; omega)]; exact BK2.out
            have nBK3 : Hid (w10.heap[PB]? = some (.cells #[.int .i64 x2, .int .i64 y2] 46 (0, 0))) := by show _ = _; rw [← hW]; exact set_block _ (set_block _ (BK3.out))
            clear GG RD BK0 BK1 BK2 BK3
            have GG := nGG
            have RD := nRD
            clear nGG nRD
            have BK0 := nBK0
            clear nBK0
            have BK1 := nBK1
            clear nBK1
            have BK2 := nBK2
            clear nBK2
            have BK3 := nBK3
            clear nBK3
            clear hW
            have c0_0 : w10.cell? ⟨w.heap.size, 0, none⟩ = some (.slice (some ⟨b0, off, none⟩) n c1) := by rw [cell_block BK0.out]; rfl
            have c0_1 : w10.cell? ⟨w.heap.size, 1, none⟩ = some (.slice a2 m c2) := by rw [cell_block BK0.out]; rfl
            have l0 : w.heap.size < w10.heap.size := lt_of_block BK0.out
            have f0 : ∀ o, w10.frozen? ⟨w.heap.size, o, none⟩ = false := fun o => free_block BK0.out
            have c1_0 : w10.cell? ⟨w.heap.size + 1, 0, none⟩ = some (.int .i64 0) := by rw [cell_block BK1.out]; rfl
            have c1_1 : w10.cell? ⟨w.heap.size + 1, 1, none⟩ = some (.int .i64 0) := by rw [cell_block BK1.out]; rfl
            have c1_2 : w10.cell? ⟨w.heap.size + 1, 2, none⟩ = some (.int .i64 0) := by rw [cell_block BK1.out]; rfl
            have c1_3 : w10.cell? ⟨w.heap.size + 1, 3, none⟩ = some (.int .i64 0) := by rw [cell_block BK1.out]; rfl
            have c1_4 : w10.cell? ⟨w.heap.size + 1, 4, none⟩ = some (.int .i64 0) := by rw [cell_block BK1.out]; rfl
            have l1 : w.heap.size + 1 < w10.heap.size := lt_of_block BK1.out
            have f1 : ∀ o, w10.frozen? ⟨w.heap.size + 1, o, none⟩ = false := fun o => free_block BK1.out
            have c2_0 : w10.cell? ⟨PA, 0, none⟩ = some (.int .i64 x1) := by rw [cell_block BK2.out]; rfl
            have c2_1 : w10.cell? ⟨PA, 1, none⟩ = some (.int .i64 y1) := by rw [cell_block BK2.out]; rfl
            have l2 : PA < w10.heap.size := lt_of_block BK2.out
            have f2 : ∀ o, w10.frozen? ⟨PA, o, none⟩ = false := fun o => free_block BK2.out
            have c3_0 : w10.cell? ⟨PB, 0, none⟩ = some (.int .i64 x2) := by rw [cell_block BK3.out]; rfl
            have c3_1 : w10.cell? ⟨PB, 1, none⟩ = some (.int .i64 y2) := by rw [cell_block BK3.out]; rfl
            have l3 : PB < w10.heap.size := lt_of_block BK3.out
            have f3 : ∀ o, w10.frozen? ⟨PB, o, none⟩ = false := fun o => free_block BK3.out
            go_wp2_with fail
            clear c0_0 c0_1 l0 f0 c1_0 c1_1 c1_2 c1_3 c1_4 l1 f1 c2_0 c2_1 l2 f2 c3_0 c3_1 l3 f3
            go_meet
            exact ⟨_, _, _, _, _, ⟨hokx1, hokx2⟩, by omega, RD.out, GG.out, BK0.out, BK1.out, BK2.out, BK3.out⟩)
    case rest =>
      clear HAB
      obtain ⟨al2, an2, bl2, bn2, q2, hoab, hq2, hrd, hgg, hb0, hb1, hb2, hb3⟩ := hcut
      generalize wc = w11 at *
      have hoa := hoab.1
      have hob := hoab.2
      have hmx := mix_ok hoa hob false
      clear GG RD BK0 BK1 BK2 BK3
      have GG : Hid (w.grownBy w11 (some B)) := hgg
      have RD : Hid (RdAt w11 B a len cap zs q2) := hrd
      have BK0 : Hid (w11.heap[w.heap.size]? = some (.cells #[.slice a1 n c1, .slice a2 m c2] 26 (0, 0))) := hb0
      have BK1 : Hid (w11.heap[w.heap.size + 1]? = some (.cells #[.int .i64 0, .int .i64 0, .int .i64 0, .int .i64 0, .int .i64 0] 48 (0, 0))) := hb1
      have BK2 : Hid (w11.heap[PA]? = some (.cells #[.int .i64 al2, .int .i64 an2] 46 (0, 0))) := hb2
      have BK3 : Hid (w11.heap[PB]? = some (.cells #[.int .i64 bl2, .int .i64 bn2] 46 (0, 0))) := hb3
      clear hgg hrd hb0 hb1 hb2 hb3
      have c2_0 : w11.cell? ⟨PA, 0, none⟩ = some (.int .i64 al2) := by rw [cell_block BK2.out]; rfl
      have c2_1 : w11.cell? ⟨PA, 1, none⟩ = some (.int .i64 an2) := by rw [cell_block BK2.out]; rfl
      have l2 : PA < w11.heap.size := lt_of_block BK2.out
      have f2 : ∀ o, w11.frozen? ⟨PA, o, none⟩ = false := fun o => free_block BK2.out
      have c3_0 : w11.cell? ⟨PB, 0, none⟩ = some (.int .i64 bl2) := by rw [cell_block BK3.out]; rfl
      have c3_1 : w11.cell? ⟨PB, 1, none⟩ = some (.int .i64 bn2) := by rw [cell_block BK3.out]; rfl
      have l3 : PB < w11.heap.size := lt_of_block BK3.out
      have f3 : ∀ o, w11.frozen? ⟨PB, o, none⟩ = false := fun o => free_block BK3.out
      go_wp2_with (first | (go_at_call 129; refine use (l1Mix _ _ _ _ hoa hob) ?_))
      clear c2_0 c2_1 l2 f2 c3_0 c3_1 l3 f3
      refine (num_lit B _ len cap a zs _ [0, 0, 0, 1, 2, 4] _ RD.out (by omega) (by decide) (by decide) rfl).mono ?_
      rintro e w12 ⟨k, hk, rfl, hr1, hg1⟩
      have nGG : Hid (w.grownBy w12 (some B)) := grownBy_trans GG.out hg1
      have nRD : Hid (RdAt w12 B a len cap zs (q2 + 1)) := hr1
      have nBK0 : Hid (w12.heap[w.heap.size]? = some (.cells #[.slice a1 n c1, .slice a2 m c2] 26 (0, 0))) := by show _ = _; rw [hg1.block (w.heap.size) (lt_of_block BK0.out) (by simp; omega)]; exact BK0.out
      have nBK1 : Hid (w12.heap[w.heap.size + 1]? = some (.cells #[.int .i64 0, .int .i64 0, .int .i64 0, .int .i64 0, .int .i64 0] 48 (0, 0))) := by show _ = _; rw [hg1.block (w.heap.size + 1) (lt_of_block BK1.out) (by simp; omega)]; exact BK1.out
      have nBK2 : Hid (w12.heap[PA]? = some (.cells #[.int .i64 al2, .int .i64 an2] 46 (0, 0))) := by show _ = _; rw [hg1.block (PA) (lt_of_block BK2.out) (by simp; omega)]; exact BK2.out
      have nBK3 : Hid (w12.heap[PB]? = some (.cells #[.int .i64 bl2, .int .i64 bn2] 46 (0, 0))) := by show _ = _; rw [hg1.block (PB) (lt_of_block BK3.out) (by simp; omega)]; exact BK3.out
      clear GG RD BK0 BK1 BK2 BK3
      have GG := nGG
      have RD := nRD
      clear nGG nRD
      have BK0 := nBK0
      clear nBK0
      have BK1 := nBK1
      clear nBK1
      have BK2 := nBK2
      clear nBK2
      have BK3 := nBK3
      clear nBK3
      clear hg1 hr1
      have hokk : okB k = true := by
        simp at hk
        rcases hk with rfl | rfl | rfl | rfl <;> decide
      clear hk
      have c0_0 : w12.cell? ⟨w.heap.size, 0, none⟩ = some (.slice a1 n c1) := by rw [cell_block BK0.out]; rfl
      have c0_1 : w12.cell? ⟨w.heap.size, 1, none⟩ = some (.slice a2 m c2) := by rw [cell_block BK0.out]; rfl
      have l0 : w.heap.size < w12.heap.size := lt_of_block BK0.out
      have f0 : ∀ o, w12.frozen? ⟨w.heap.size, o, none⟩ = false := fun o => free_block BK0.out
      have c1_0 : w12.cell? ⟨w.heap.size + 1, 0, none⟩ = some (.int .i64 0) := by rw [cell_block BK1.out]; rfl
      have c1_1 : w12.cell? ⟨w.heap.size + 1, 1, none⟩ = some (.int .i64 0) := by rw [cell_block BK1.out]; rfl
      have c1_2 : w12.cell? ⟨w.heap.size + 1, 2, none⟩ = some (.int .i64 0) := by rw [cell_block BK1.out]; rfl
      have c1_3 : w12.cell? ⟨w.heap.size + 1, 3, none⟩ = some (.int .i64 0) := by rw [cell_block BK1.out]; rfl
      have c1_4 : w12.cell? ⟨w.heap.size + 1, 4, none⟩ = some (.int .i64 0) := by rw [cell_block BK1.out]; rfl
      have l1 : w.heap.size + 1 < w12.heap.size := lt_of_block BK1.out
      have f1 : ∀ o, w12.frozen? ⟨w.heap.size + 1, o, none⟩ = false := fun o => free_block BK1.out
      have c2_0 : w12.cell? ⟨PA, 0, none⟩ = some (.int .i64 al2) := by rw [cell_block BK2.out]; rfl
      have c2_1 : w12.cell? ⟨PA, 1, none⟩ = some (.int .i64 an2) := by rw [cell_block BK2.out]; rfl
      have l2 : PA < w12.heap.size := lt_of_block BK2.out
      have f2 : ∀ o, w12.frozen? ⟨PA, o, none⟩ = false := fun o => free_block BK2.out
      have c3_0 : w12.cell? ⟨PB, 0, none⟩ = some (.int .i64 bl2) := by rw [cell_block BK3.out]; rfl
      have c3_1 : w12.cell? ⟨PB, 1, none⟩ = some (.int .i64 bn2) := by rw [cell_block BK3.out]; rfl
      have l3 : PB < w12.heap.size := lt_of_block BK3.out
      have f3 : ∀ o, w12.frozen? ⟨PB, o, none⟩ = false := fun o => free_block BK3.out
      go_wp2_with (first | (go_at_call 129; refine use (l1Mix _ _ _ _ hmx hokk) ?_))
      clear c0_0 c0_1 l0 f0 c1_0 c1_1 c1_2 c1_3 c1_4 l1 f1 c2_0 c2_1 l2 f2 c3_0 c3_1 l3 f3
      generalize mixI (mixI al2 bl2 false) k false = l at *
      clear hoa hob hmx hokk
      cases hgt : decide (codeW bl2 bn2 < codeW al2 an2)
      · have hd : decide (codeW bl2 bn2 < codeW al2 an2) = false := hgt
        have c2_0 : w12.cell? ⟨PA, 0, none⟩ = some (.int .i64 al2) := by rw [cell_block BK2.out]; rfl
        have c2_1 : w12.cell? ⟨PA, 1, none⟩ = some (.int .i64 an2) := by rw [cell_block BK2.out]; rfl
        have l2 : PA < w12.heap.size := lt_of_block BK2.out
        have f2 : ∀ o, w12.frozen? ⟨PA, o, none⟩ = false := fun o => free_block BK2.out
        have c3_0 : w12.cell? ⟨PB, 0, none⟩ = some (.int .i64 bl2) := by rw [cell_block BK3.out]; rfl
        have c3_1 : w12.cell? ⟨PB, 1, none⟩ = some (.int .i64 bn2) := by rw [cell_block BK3.out]; rfl
        have l3 : PB < w12.heap.size := lt_of_block BK3.out
        have f3 : ∀ o, w12.frozen? ⟨PB, o, none⟩ = false := fun o => free_block BK3.out
        refine wp_region_after (by kernel_rfl) (by kernel_rfl) ?_
        intro hne hac
        repeat (go_big_quiet_step (first | (go_at_call_of 39 (Value.agg #[.int .i64 al2, .int .i64 an2]); exact after_of (l2Code al2 an2 _)) | (go_at_call_of 39 (Value.agg #[.int .i64 bl2, .int .i64 bn2]); exact after_of (l2Code bl2 bn2 _))))
        refine wpQuiet_nil ?_
        rintro _ ⟨p, rfl⟩
        have hbp : Below w12.heap.size w12 p.w := p.bel
        clear hac hne
        generalize p.w = w13 at *
        have hgb : w12.grownBy w13 (some B) := grownBy_below (grownBy_refl _ _) hbp
        have rdb := RD.out.below hbp RD.out.lt
        clear c2_0 c2_1 l2 f2 c3_0 c3_1 l3 f3
        have nGG : Hid (w.grownBy w13 (some B)) := grownBy_trans GG.out hgb
        have nRD : Hid (RdAt w13 B a len cap zs (q2 + 1)) := rdb
        have nBK0 : Hid (w13.heap[w.heap.size]? = some (.cells #[.slice a1 n c1, .slice a2 m c2] 26 (0, 0))) := by show _ = _; rw [hgb.block (w.heap.size) (lt_of_block BK0.out) (by simp; omega)]; exact BK0.out
        have nBK1 : Hid (w13.heap[w.heap.size + 1]? = some (.cells #[.int .i64 0, .int .i64 0, .int .i64 0, .int .i64 0, .int .i64 0] 48 (0, 0))) := by show _ = _; rw [hgb.block (w.heap.size + 1) (lt_of_block BK1.out) (by simp; omega)]; exact BK1.out
        have nBK2 : Hid (w13.heap[PA]? = some (.cells #[.int .i64 al2, .int .i64 an2] 46 (0, 0))) := by show _ = _; rw [hgb.block (PA) (lt_of_block BK2.out) (by simp; omega)]; exact BK2.out
        have nBK3 : Hid (w13.heap[PB]? = some (.cells #[.int .i64 bl2, .int .i64 bn2] 46 (0, 0))) := by show _ = _; rw [hgb.block (PB) (lt_of_block BK3.out) (by simp; omega)]; exact BK3.out
        clear GG RD BK0 BK1 BK2 BK3
        have GG := nGG
        have RD := nRD
        clear nGG nRD
        have BK0 := nBK0
        clear nBK0
        have BK1 := nBK1
        clear nBK1
        have BK2 := nBK2
        clear nBK2
        have BK3 := nBK3
        clear nBK3
        clear hgb rdb
        clear hbp
        have c0_0 : w13.cell? ⟨w.heap.size, 0, none⟩ = some (.slice a1 n c1) := by rw [cell_block BK0.out]; rfl
        have c0_1 : w13.cell? ⟨w.heap.size, 1, none⟩ = some (.slice a2 m c2) := by rw [cell_block BK0.out]; rfl
        have l0 : w.heap.size < w13.heap.size := lt_of_block BK0.out
        have f0 : ∀ o, w13.frozen? ⟨w.heap.size, o, none⟩ = false := fun o => free_block BK0.out
        have c1_0 : w13.cell? ⟨w.heap.size + 1, 0, none⟩ = some (.int .i64 0) := by rw [cell_block BK1.out]; rfl
        have c1_1 : w13.cell? ⟨w.heap.size + 1, 1, none⟩ = some (.int .i64 0) := by rw [cell_block BK1.out]; rfl
        have c1_2 : w13.cell? ⟨w.heap.size + 1, 2, none⟩ = some (.int .i64 0) := by rw [cell_block BK1.out]; rfl
        have c1_3 : w13.cell? ⟨w.heap.size + 1, 3, none⟩ = some (.int .i64 0) := by rw [cell_block BK1.out]; rfl
        have c1_4 : w13.cell? ⟨w.heap.size + 1, 4, none⟩ = some (.int .i64 0) := by rw [cell_block BK1.out]; rfl
        have l1 : w.heap.size + 1 < w13.heap.size := lt_of_block BK1.out
        have f1 : ∀ o, w13.frozen? ⟨w.heap.size + 1, o, none⟩ = false := fun o => free_block BK1.out
        have c2_0 : w13.cell? ⟨PA, 0, none⟩ = some (.int .i64 al2) := by rw [cell_block BK2.out]; rfl
        have c2_1 : w13.cell? ⟨PA, 1, none⟩ = some (.int .i64 an2) := by rw [cell_block BK2.out]; rfl
        have l2 : PA < w13.heap.size := lt_of_block BK2.out
        have f2 : ∀ o, w13.frozen? ⟨PA, o, none⟩ = false := fun o => free_block BK2.out
        have c3_0 : w13.cell? ⟨PB, 0, none⟩ = some (.int .i64 bl2) := by rw [cell_block BK3.out]; rfl
        have c3_1 : w13.cell? ⟨PB, 1, none⟩ = some (.int .i64 bn2) := by rw [cell_block BK3.out]; rfl
        have l3 : PB < w13.heap.size := lt_of_block BK3.out
        have f3 : ∀ o, w13.frozen? ⟨PB, o, none⟩ = false := fun o => free_block BK3.out
        go_wp2_with fail
        clear c0_0 c0_1 l0 f0 c1_0 c1_1 c1_2 c1_3 c1_4 l1 f1 c2_0 c2_1 l2 f2 c3_0 c3_1 l3 f3
        try simp only [Exit.inBlock, Exit.then]
        refine bodyPost_ret (v := .agg #[.int .i64 l, .int .i64 al2, .int .i64 an2, .int .i64 bl2, .int .i64 bn2]) (by simp [*, cell_block BK1.out, results, Tryz.results103, go_sem]) rfl ?_
        exact ⟨l, al2, an2, bl2, bn2, _, rfl, by omega, (((((RD.out.set (show B < w.heap.size + 1 by omega) _).set (show B < w.heap.size + 1 by omega) _).set (show B < w.heap.size + 1 by omega) _).set (show B < w.heap.size + 1 by omega) _).set (show B < w.heap.size + 1 by omega) _), grownBy_setNew (grownBy_setNew (grownBy_setNew (grownBy_setNew (grownBy_setNew (GG.out) (by simp) _) (by simp) _) (by simp) _) (by simp) _) (by simp) _⟩
      · have hd : decide (codeW bl2 bn2 < codeW al2 an2) = true := hgt
        have c2_0 : w12.cell? ⟨PA, 0, none⟩ = some (.int .i64 al2) := by rw [cell_block BK2.out]; rfl
        have c2_1 : w12.cell? ⟨PA, 1, none⟩ = some (.int .i64 an2) := by rw [cell_block BK2.out]; rfl
        have l2 : PA < w12.heap.size := lt_of_block BK2.out
        have f2 : ∀ o, w12.frozen? ⟨PA, o, none⟩ = false := fun o => free_block BK2.out
        have c3_0 : w12.cell? ⟨PB, 0, none⟩ = some (.int .i64 bl2) := by rw [cell_block BK3.out]; rfl
        have c3_1 : w12.cell? ⟨PB, 1, none⟩ = some (.int .i64 bn2) := by rw [cell_block BK3.out]; rfl
        have l3 : PB < w12.heap.size := lt_of_block BK3.out
        have f3 : ∀ o, w12.frozen? ⟨PB, o, none⟩ = false := fun o => free_block BK3.out
        refine wp_region_after (by kernel_rfl) (by kernel_rfl) ?_
        intro hne hac
        repeat (go_big_quiet_step (first | (go_at_call_of 39 (Value.agg #[.int .i64 al2, .int .i64 an2]); exact after_of (l2Code al2 an2 _)) | (go_at_call_of 39 (Value.agg #[.int .i64 bl2, .int .i64 bn2]); exact after_of (l2Code bl2 bn2 _))))
        refine wpQuiet_nil ?_
        rintro _ ⟨p, rfl⟩
        have hbp : Below w12.heap.size w12 p.w := p.bel
        clear hac hne
        generalize p.w = w13 at *
        have hgb : w12.grownBy w13 (some B) := grownBy_below (grownBy_refl _ _) hbp
        have rdb := RD.out.below hbp RD.out.lt
        clear c2_0 c2_1 l2 f2 c3_0 c3_1 l3 f3
        have nGG : Hid (w.grownBy w13 (some B)) := grownBy_trans GG.out hgb
        have nRD : Hid (RdAt w13 B a len cap zs (q2 + 1)) := rdb
        have nBK0 : Hid (w13.heap[w.heap.size]? = some (.cells #[.slice a1 n c1, .slice a2 m c2] 26 (0, 0))) := by show _ = _; rw [hgb.block (w.heap.size) (lt_of_block BK0.out) (by simp; omega)]; exact BK0.out
        have nBK1 : Hid (w13.heap[w.heap.size + 1]? = some (.cells #[.int .i64 0, .int .i64 0, .int .i64 0, .int .i64 0, .int .i64 0] 48 (0, 0))) := by show _ = _; rw [hgb.block (w.heap.size + 1) (lt_of_block BK1.out) (by simp; omega)]; exact BK1.out
        have nBK2 : Hid (w13.heap[PA]? = some (.cells #[.int .i64 al2, .int .i64 an2] 46 (0, 0))) := by show _ = _; rw [hgb.block (PA) (lt_of_block BK2.out) (by simp; omega)]; exact BK2.out
        have nBK3 : Hid (w13.heap[PB]? = some (.cells #[.int .i64 bl2, .int .i64 bn2] 46 (0, 0))) := by show _ = _; rw [hgb.block (PB) (lt_of_block BK3.out) (by simp; omega)]; exact BK3.out
        clear GG RD BK0 BK1 BK2 BK3
        have GG := nGG
        have RD := nRD
        clear nGG nRD
        have BK0 := nBK0
        clear nBK0
        have BK1 := nBK1
        clear nBK1
        have BK2 := nBK2
        clear nBK2
        have BK3 := nBK3
        clear nBK3
        clear hgb rdb
        clear hbp
        have c0_0 : w13.cell? ⟨w.heap.size, 0, none⟩ = some (.slice a1 n c1) := by rw [cell_block BK0.out]; rfl
        have c0_1 : w13.cell? ⟨w.heap.size, 1, none⟩ = some (.slice a2 m c2) := by rw [cell_block BK0.out]; rfl
        have l0 : w.heap.size < w13.heap.size := lt_of_block BK0.out
        have f0 : ∀ o, w13.frozen? ⟨w.heap.size, o, none⟩ = false := fun o => free_block BK0.out
        have c1_0 : w13.cell? ⟨w.heap.size + 1, 0, none⟩ = some (.int .i64 0) := by rw [cell_block BK1.out]; rfl
        have c1_1 : w13.cell? ⟨w.heap.size + 1, 1, none⟩ = some (.int .i64 0) := by rw [cell_block BK1.out]; rfl
        have c1_2 : w13.cell? ⟨w.heap.size + 1, 2, none⟩ = some (.int .i64 0) := by rw [cell_block BK1.out]; rfl
        have c1_3 : w13.cell? ⟨w.heap.size + 1, 3, none⟩ = some (.int .i64 0) := by rw [cell_block BK1.out]; rfl
        have c1_4 : w13.cell? ⟨w.heap.size + 1, 4, none⟩ = some (.int .i64 0) := by rw [cell_block BK1.out]; rfl
        have l1 : w.heap.size + 1 < w13.heap.size := lt_of_block BK1.out
        have f1 : ∀ o, w13.frozen? ⟨w.heap.size + 1, o, none⟩ = false := fun o => free_block BK1.out
        have c2_0 : w13.cell? ⟨PA, 0, none⟩ = some (.int .i64 al2) := by rw [cell_block BK2.out]; rfl
        have c2_1 : w13.cell? ⟨PA, 1, none⟩ = some (.int .i64 an2) := by rw [cell_block BK2.out]; rfl
        have l2 : PA < w13.heap.size := lt_of_block BK2.out
        have f2 : ∀ o, w13.frozen? ⟨PA, o, none⟩ = false := fun o => free_block BK2.out
        have c3_0 : w13.cell? ⟨PB, 0, none⟩ = some (.int .i64 bl2) := by rw [cell_block BK3.out]; rfl
        have c3_1 : w13.cell? ⟨PB, 1, none⟩ = some (.int .i64 bn2) := by rw [cell_block BK3.out]; rfl
        have l3 : PB < w13.heap.size := lt_of_block BK3.out
        have f3 : ∀ o, w13.frozen? ⟨PB, o, none⟩ = false := fun o => free_block BK3.out
        go_wp2_with fail
        clear c0_0 c0_1 l0 f0 c1_0 c1_1 c1_2 c1_3 c1_4 l1 f1 c2_0 c2_1 l2 f2 c3_0 c3_1 l3 f3
        try simp only [Exit.inBlock, Exit.then]
        refine bodyPost_ret (v := .agg #[.int .i64 l, .int .i64 bl2, .int .i64 bn2, .int .i64 al2, .int .i64 an2]) (by simp [*, cell_block BK1.out, results, Tryz.results103, go_sem]) rfl ?_
        exact ⟨l, bl2, bn2, al2, an2, _, rfl, by omega, (((((RD.out.set (show B < w.heap.size + 1 by omega) _).set (show B < w.heap.size + 1 by omega) _).set (show B < w.heap.size + 1 by omega) _).set (show B < w.heap.size + 1 by omega) _).set (show B < w.heap.size + 1 by omega) _), grownBy_setNew (grownBy_setNew (grownBy_setNew (grownBy_setNew (grownBy_setNew (GG.out) (by simp) _) (by simp) _) (by simp) _) (by simp) _) (by simp) _⟩
theorem l2EdgeN (B len cap n m c1 c2 : Nat) (a a1 a2 : Option Addr) (zs : List Int) (pos : Int) (ns : List Nd) (w : World) (hn : n = ns.length) (h : RdAt w B a len cap zs pos) (hp : pos ≤ 10000000) (h1 : RowAt 2 encNode w (.slice a1 n c1) ns) (hok : ∀ x ∈ ns, okB x.1 = true) (hl : n ≤ 100000) :
    Calls Tryz.prog 103 #[.pointer (some ⟨B, 0, none⟩), .agg #[.slice a1 n c1, .slice a2 m c2]] w fun e w' => ∃ l al an bl bn q, e = .returned (.agg #[.int .i64 l, .int .i64 al, .int .i64 an, .int .i64 bl, .int .i64 bn]) ∧ q ≤ pos + 8 ∧ RdAt w' B a len cap zs q ∧ w.grownBy w' (some B) := by
  subst hn
  exact l2Edge B len cap m c1 c2 a a1 a2 zs pos ns w h hp h1 hok hl
end Go.Proofs.YtlnpbfeihjfnjaaGreatDoor.Lab

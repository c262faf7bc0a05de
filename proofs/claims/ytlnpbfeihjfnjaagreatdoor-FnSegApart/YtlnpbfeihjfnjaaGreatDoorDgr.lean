/-
  What is drawn of graphs for the laws: DrawGraphOk, Same, View, Near, Do, OpLabel. (Written by tools/mkdgr.py.)
-/
import Derived.Test.YtlnpbfeihjfnjaaGreatDoorDgb
import Derived.Deep.RegionHeld3
namespace Go.Proofs.YtlnpbfeihjfnjaaGreatDoor.Lab
open Go.RowKit Go.ChangeMaps
set_option linter.unusedVariables false
/-- A graph that lies somewhere: its rows, not too long. -/
def GrAt (w : World) (u1 u2 : Value) (ns : List Nd) (es : List Ed) : Prop := RowAt 2 encNode w u1 ns ∧ RowAt 5 encEdge w u2 es ∧ ns.length ≤ 200 ∧ es.length ≤ 200
theorem GrAt.keep {w w' : World} {u1 u2 : Value} {ns : List Nd} {es : List Ed} (h : GrAt w u1 u2 ns es) (hb : Below w.heap.size w w') : GrAt w' u1 u2 ns es := ⟨h.1.keep hb, h.2.1.keep hb, h.2.2⟩
theorem GrAt.form {w : World} {u1 u2 : Value} {ns : List Nd} {es : List Ed} (h : GrAt w u1 u2 ns es) : ∃ a1 c1 a2 c2, u1 = .slice a1 ns.length c1 ∧ u2 = .slice a2 es.length c2 := by
  obtain ⟨a1, c1, h1⟩ := h.1.len
  obtain ⟨a2, c2, h2⟩ := h.2.1.len
  exact ⟨a1, c1, a2, c2, h1, h2⟩
theorem GrAt.gr {w w' : World} {u1 u2 : Value} {ns : List Nd} {es : List Ed} {B len cap : Nat} {a : Option Addr} {zs : List Int} {pos : Int} (h : GrAt w u1 u2 ns es) (hr : RdAt w B a len cap zs pos) (hg : w.grownBy w' (some B)) : GrAt w' u1 u2 ns es :=
  ⟨row_gr (by decide) encNode_two h.1 hr hg, row_gr (by decide) encEdge_two h.2.1 hr hg, h.2.2⟩
theorem GrAt.set {w : World} {u1 u2 : Value} {ns : List Nd} {es : List Ed} {P t : Nat} {y1 y2 : Option Addr} {n1 n2 m1 m2 : Nat} (h : GrAt w u1 u2 ns es) (hb : w.heap[P]? = some (.cells #[.slice y1 n1 m1, .slice y2 n2 m2] t (0, 0))) (i : Nat) (u : Value) : GrAt (w.setCell ⟨P, i, none⟩ u) u1 u2 ns es :=
  ⟨row_set_box encNode_two h.1 hb i u, row_set_box encEdge_two h.2.1 hb i u, h.2.2⟩
/-- Cells that hold numbers hold numbers. -/
def IntsTo (w w' : World) : Prop := w.heap.size ≤ w'.heap.size ∧ ∀ (p : Addr) (i : Int), w.cell? p = some (.int .i64 i) → ∃ i', w'.cell? p = some (.int .i64 i')
theorem IntsTo.refl (w : World) : IntsTo w w := ⟨Nat.le_refl _, fun p i h => ⟨i, h⟩⟩
theorem IntsTo.set {w w' : World} (h : IntsTo w w') (q : Addr) (v : Int) : IntsTo w (w'.setCell q (.int .i64 v)) := by
  refine ⟨by simpa using h.1, fun p i hp => ?_⟩
  obtain ⟨i', hi⟩ := h.2 p i hp
  by_cases e : q = p
  · subst e; exact ⟨v, World.cell?_setCell_same _ _ _ hi⟩
  · exact ⟨i', by rw [World.cell?_setCell_other _ _ _ _ e]; exact hi⟩
theorem row_ints {w w' : World} {v : Value} {ns : List Nd} (h : RowAt 2 encNode w v ns) (hi : IntsTo w w') : ∃ ns', ns'.length = ns.length ∧ RowAt 2 encNode w' v ns' := by
  rcases h with ⟨rfl, h⟩ | ⟨h0, b, off, c, rfl, hlt, hc⟩
  · exact ⟨[], rfl, .inl ⟨rfl, h⟩⟩
  · have hx : ∀ j, ∃ x' : Nd, j < ns.length → w'.cell? ⟨b, off + j * 2 + 0, none⟩ = some (.int .i64 x'.1) ∧ w'.cell? ⟨b, off + j * 2 + 1, none⟩ = some (.int .i64 x'.2) := fun j => by
      by_cases hj : j < ns.length
      · obtain ⟨x, hx⟩ : ∃ x, ns[j]? = some x := ⟨_, List.getElem?_eq_getElem hj⟩
        obtain ⟨l', h1⟩ := hi.2 _ _ (hc j x hx 0 _ rfl)
        obtain ⟨n', h2⟩ := hi.2 _ _ (hc j x hx 1 _ rfl)
        exact ⟨(l', n'), fun _ => ⟨h1, h2⟩⟩
      · exact ⟨(0, 0), fun h => absurd h hj⟩
    refine ⟨(List.range ns.length).map (fun j => Classical.choose (hx j)), by simp, .inr ⟨by simpa using h0, b, off, c, by simp, Nat.lt_of_lt_of_le hlt hi.1, fun j x hj i u hu => ?_⟩⟩
    rw [List.getElem?_map] at hj
    have hjl : j < ns.length := by
      rcases Nat.lt_or_ge j ns.length with h | h
      · exact h
      · rw [List.getElem?_eq_none (by simpa using h)] at hj; simp at hj
    rw [List.getElem?_range hjl] at hj
    simp only [Option.map_some, Option.some.injEq] at hj
    obtain ⟨h1, h2⟩ := Classical.choose_spec (hx j) hjl
    rw [hj] at h1 h2
    match i, hu with
    | 0, hu => cases hu; exact h1
    | 1, hu => cases hu; exact h2
theorem edge_ints {w w' : World} {v : Value} {es : List Ed} (h : RowAt 5 encEdge w v es) (hi : IntsTo w w') : ∃ es', es'.length = es.length ∧ RowAt 5 encEdge w' v es' := by
  rcases h with ⟨rfl, h⟩ | ⟨h0, b, off, c, rfl, hlt, hc⟩
  · exact ⟨[], rfl, .inl ⟨rfl, h⟩⟩
  · have hx : ∀ j, ∃ x' : Ed, j < es.length → ∀ i u, (encEdge x')[i]? = some u → w'.cell? ⟨b, off + j * 5 + i, none⟩ = some u := fun j => by
      by_cases hj : j < es.length
      · obtain ⟨x, hx⟩ : ∃ x, es[j]? = some x := ⟨_, List.getElem?_eq_getElem hj⟩
        obtain ⟨x0, h0⟩ := hi.2 _ _ (hc j x hx 0 _ rfl)
        obtain ⟨x1, h1⟩ := hi.2 _ _ (hc j x hx 1 _ rfl)
        obtain ⟨x2, h2⟩ := hi.2 _ _ (hc j x hx 2 _ rfl)
        obtain ⟨x3, h3⟩ := hi.2 _ _ (hc j x hx 3 _ rfl)
        obtain ⟨x4, h4⟩ := hi.2 _ _ (hc j x hx 4 _ rfl)
        refine ⟨(x0, x1, x2, x3, x4), fun _ i u hu => ?_⟩
        match i, hu with
        | 0, hu => cases hu; exact h0
        | 1, hu => cases hu; exact h1
        | 2, hu => cases hu; exact h2
        | 3, hu => cases hu; exact h3
        | 4, hu => cases hu; exact h4
      · exact ⟨(0, 0, 0, 0, 0), fun h => absurd h hj⟩
    refine ⟨(List.range es.length).map (fun j => Classical.choose (hx j)), by simp, .inr ⟨by simpa using h0, b, off, c, by simp, Nat.lt_of_lt_of_le hlt hi.1, fun j x hj i u hu => ?_⟩⟩
    rw [List.getElem?_map] at hj
    have hjl : j < es.length := by
      rcases Nat.lt_or_ge j es.length with h | h
      · exact h
      · rw [List.getElem?_eq_none (by simpa using h)] at hj; simp at hj
    rw [List.getElem?_range hjl] at hj
    simp only [Option.map_some, Option.some.injEq] at hj
    have h1 := Classical.choose_spec (hx j) hjl
    rw [hj] at h1
    exact h1 i u hu
theorem GrAt.ints {w w' : World} {u1 u2 : Value} {ns : List Nd} {es : List Ed} (h : GrAt w u1 u2 ns es) (hi : IntsTo w w') : ∃ ns' es', GrAt w' u1 u2 ns' es' := by
  obtain ⟨ns', l1, r1⟩ := row_ints h.1 hi
  obtain ⟨es', l2, r2⟩ := edge_ints h.2.1 hi
  exact ⟨ns', es', r1, r2, by rw [l1]; exact h.2.2.1, by rw [l2]; exact h.2.2.2⟩
set_option maxRecDepth 8000 in
set_option maxHeartbeats 8000000 in
theorem drawGraphOk (a : Option Addr) (len cap : Nat) (zs : List Int) (w00 : World) (h : CodeAt w00 a len cap zs) :
    Calls Tryz.prog 34 #[.slice a len cap] w00 fun e w' => ∃ u1 u2 ns es, e = .returned (.agg #[u1, u2]) ∧ GrAt w' u1 u2 ns es ∧ Below w00.heap.size w00 w' := by
  have h0 : CodeAt (w00.alloc (.cells #[.slice none 0 0, .slice none 0 0] 26)) a len cap zs := h.below (by go_grown)
  clear h
  go_enter Tryz.func34, Tryz.ntmps34
  go_wp2_with fail
  refine (l9Open a len cap zs _ h0).mono ?_
  rintro e w ⟨rfl, ⟨m, hr1⟩, hb1⟩
  clear h0
  simp only [World.size_alloc] at hr1 hb1 ⊢
  have BK0 : Hid (w.heap[w00.heap.size]? = some (.cells #[.slice none 0 0, .slice none 0 0] 26 (0, 0))) := by show _ = _; rw [hb1.block _ (by omega)]; exact new_block _ _
  have HW : Hid (Below w00.heap.size w00 w) := Below.trans (by go_grown) (hb1.mono (by omega))
  obtain ⟨B, hB0⟩ : ∃ B, B = w00.heap.size + 1 := ⟨_, rfl⟩
  rw [← hB0] at hr1 ⊢
  have hB : B < w.heap.size := hr1.lt
  have hB1 : w00.heap.size < B := by omega
  have GG : Hid (w.grownBy w (some B)) := grownBy_refl _ _
  have RD : Hid (RdAt w B a m cap zs 0) := hr1
  clear hr1 hb1 hB0
  go_wp2_with fail
  refine (l2Graph _ _ _ _ _ _ _ RD.out (by omega)).mono ?_
  rintro e w1 ⟨u1, u2, ns, es, q, rfl, og, ln, le, hok, hq, hr1, hg1⟩
  have nGG : Hid (w.grownBy w1 (some B)) := grownBy_trans GG.out hg1
  have nRD : Hid (RdAt w1 B a m cap zs (q)) := hr1
  have nBK0 : Hid (w1.heap[w00.heap.size]? = some (.cells #[.slice none 0 0, .slice none 0 0] 26 (0, 0))) := by show _ = _; rw [hg1.block (w00.heap.size) (lt_of_block BK0.out) (by simp; omega)]; exact BK0.out
  clear GG RD BK0
  have GG := nGG
  have RD := nRD
  clear nGG nRD
  have BK0 := nBK0
  clear nBK0
  clear hg1 hr1
  obtain ⟨a1, c1, a2, c2, rfl, rfl⟩ := og.form
  have HR1 : Hid (RowAt 2 encNode w1 (.slice a1 ns.length c1) ns ∧ RowAt 5 encEdge w1 (.slice a2 es.length c2) es) := ⟨og.nodes, og.edges⟩
  have HOK1 : Hid (∀ x ∈ ns, okB x.1 = true) := hok
  clear og hok
  go_wp2_with fail
  refine (l2Bent B m cap a zs q _ _ ns es _ RD.out (by omega) HR1.out.1 HR1.out.2 HOK1.out (by omega) (by omega)).mono ?_
  rintro e w2 ⟨u1, u2, ns2, es2, q2, rfl, r1, r2, ln2, le2, hok, hq2, hr1, hg1⟩
  have nGG : Hid (w.grownBy w2 (some B)) := grownBy_trans GG.out hg1
  have nRD : Hid (RdAt w2 B a m cap zs (q2)) := hr1
  have nBK0 : Hid (w2.heap[w00.heap.size]? = some (.cells #[.slice none 0 0, .slice none 0 0] 26 (0, 0))) := by show _ = _; rw [hg1.block (w00.heap.size) (lt_of_block BK0.out) (by simp; omega)]; exact BK0.out
  clear GG RD BK0
  have GG := nGG
  have RD := nRD
  clear nGG nRD
  have BK0 := nBK0
  clear nBK0
  clear hg1 hr1
  obtain ⟨a12, c12, rfl⟩ := r1.len
  obtain ⟨a22, c22, rfl⟩ := r2.len
  have HR2 : Hid (RowAt 2 encNode w2 (.slice a12 ns2.length c12) ns2 ∧ RowAt 5 encEdge w2 (.slice a22 es2.length c22) es2) := ⟨r1, r2⟩
  have HOK2 : Hid (∀ x ∈ ns2, okB x.1 = true) := hok
  clear r1 r2 hok
  go_wp2_with fail
  refine (l2Bent B m cap a zs q2 _ _ ns2 es2 _ RD.out (by omega) HR2.out.1 HR2.out.2 HOK2.out (by omega) (by omega)).mono ?_
  rintro e w3 ⟨u1, u2, ns3, es3, q3, rfl, r1, r2, ln3, le3, hok, hq3, hr1, hg1⟩
  have nGG : Hid (w.grownBy w3 (some B)) := grownBy_trans GG.out hg1
  have nRD : Hid (RdAt w3 B a m cap zs (q3)) := hr1
  have nBK0 : Hid (w3.heap[w00.heap.size]? = some (.cells #[.slice none 0 0, .slice none 0 0] 26 (0, 0))) := by show _ = _; rw [hg1.block (w00.heap.size) (lt_of_block BK0.out) (by simp; omega)]; exact BK0.out
  clear GG RD BK0
  have GG := nGG
  have RD := nRD
  clear nGG nRD
  have BK0 := nBK0
  clear nBK0
  clear hg1 hr1
  obtain ⟨a13, c13, rfl⟩ := r1.len
  obtain ⟨a23, c23, rfl⟩ := r2.len
  have HR3 : Hid (RowAt 2 encNode w3 (.slice a13 ns3.length c13) ns3 ∧ RowAt 5 encEdge w3 (.slice a23 es3.length c23) es3) := ⟨r1, r2⟩
  have HOK3 : Hid (∀ x ∈ ns3, okB x.1 = true) := hok
  clear r1 r2 hok
  have HG : Hid (GrAt w3 (.slice a13 ns3.length c13) (.slice a23 es3.length c23) ns3 es3) := ⟨HR3.out.1, HR3.out.2, by omega, by omega⟩
  have c0_0 : w3.cell? ⟨w00.heap.size, 0, none⟩ = some (.slice none 0 0) := by rw [cell_block BK0.out]; rfl
  have c0_1 : w3.cell? ⟨w00.heap.size, 1, none⟩ = some (.slice none 0 0) := by rw [cell_block BK0.out]; rfl
  have l0 : w00.heap.size < w3.heap.size := lt_of_block BK0.out
  have f0 : ∀ o, w3.frozen? ⟨w00.heap.size, o, none⟩ = false := fun o => free_block BK0.out
  go_wp2_with fail
  clear c0_0 c0_1 l0 f0
  try simp only [Exit.inBlock, Exit.then]
  refine bodyPost_ret (v := .agg #[.slice a13 ns3.length c13, .slice a23 es3.length c23]) (by simp [*, cell_block BK0.out, results, Tryz.results34, go_sem]) rfl ?_
  exact ⟨_, _, ns3, es3, rfl, (HG.out.set BK0.out 0 _).set (set_block _ BK0.out) 1 _, ((HW.out.trans ((below_of_grown GG.out (by omega)).mono (by omega))).setCell (Nat.le_refl _) _).setCell (Nat.le_refl _) _⟩
set_option maxRecDepth 8000 in
set_option maxHeartbeats 8000000 in
theorem drawGraphView (a : Option Addr) (len cap : Nat) (zs : List Int) (w00 : World) (h : CodeAt w00 a len cap zs) :
    Calls Tryz.prog 52 #[.slice a len cap] w00 fun e w' => ∃ u1 u2 ns es c, e = .returned (.tuple #[.agg #[u1, u2], .int .i64 c]) ∧ GrAt w' u1 u2 ns es ∧ Below w00.heap.size w00 w' := by
  have h0 : CodeAt (w00.alloc (.cells #[.slice none 0 0, .slice none 0 0] 26)) a len cap zs := h.below (by go_grown)
  clear h
  go_enter Tryz.func52, Tryz.ntmps52
  go_wp2_with fail
  refine (l9Open a len cap zs _ h0).mono ?_
  rintro e w ⟨rfl, ⟨m, hr1⟩, hb1⟩
  clear h0
  simp only [World.size_alloc] at hr1 hb1 ⊢
  have BK0 : Hid (w.heap[w00.heap.size]? = some (.cells #[.slice none 0 0, .slice none 0 0] 26 (0, 0))) := by show _ = _; rw [hb1.block _ (by omega)]; exact new_block _ _
  have HW : Hid (Below w00.heap.size w00 w) := Below.trans (by go_grown) (hb1.mono (by omega))
  obtain ⟨B, hB0⟩ : ∃ B, B = w00.heap.size + 1 := ⟨_, rfl⟩
  rw [← hB0] at hr1 ⊢
  have hB : B < w.heap.size := hr1.lt
  have hB1 : w00.heap.size < B := by omega
  have GG : Hid (w.grownBy w (some B)) := grownBy_refl _ _
  have RD : Hid (RdAt w B a m cap zs 0) := hr1
  clear hr1 hb1 hB0
  go_wp2_with fail
  refine (l2Graph _ _ _ _ _ _ _ RD.out (by omega)).mono ?_
  rintro e w1 ⟨u1, u2, ns, es, q, rfl, og, ln, le, hok, hq, hr1, hg1⟩
  have nGG : Hid (w.grownBy w1 (some B)) := grownBy_trans GG.out hg1
  have nRD : Hid (RdAt w1 B a m cap zs (q)) := hr1
  have nBK0 : Hid (w1.heap[w00.heap.size]? = some (.cells #[.slice none 0 0, .slice none 0 0] 26 (0, 0))) := by show _ = _; rw [hg1.block (w00.heap.size) (lt_of_block BK0.out) (by simp; omega)]; exact BK0.out
  clear GG RD BK0
  have GG := nGG
  have RD := nRD
  clear nGG nRD
  have BK0 := nBK0
  clear nBK0
  clear hg1 hr1
  obtain ⟨a1, c1, a2, c2, rfl, rfl⟩ := og.form
  have HR1 : Hid (RowAt 2 encNode w1 (.slice a1 ns.length c1) ns ∧ RowAt 5 encEdge w1 (.slice a2 es.length c2) es) := ⟨og.nodes, og.edges⟩
  have HOK1 : Hid (∀ x ∈ ns, okB x.1 = true) := hok
  clear og hok
  go_wp2_with fail
  refine (l2Bent B m cap a zs q _ _ ns es _ RD.out (by omega) HR1.out.1 HR1.out.2 HOK1.out (by omega) (by omega)).mono ?_
  rintro e w2 ⟨u1, u2, ns2, es2, q2, rfl, r1, r2, ln2, le2, hok, hq2, hr1, hg1⟩
  have nGG : Hid (w.grownBy w2 (some B)) := grownBy_trans GG.out hg1
  have nRD : Hid (RdAt w2 B a m cap zs (q2)) := hr1
  have nBK0 : Hid (w2.heap[w00.heap.size]? = some (.cells #[.slice none 0 0, .slice none 0 0] 26 (0, 0))) := by show _ = _; rw [hg1.block (w00.heap.size) (lt_of_block BK0.out) (by simp; omega)]; exact BK0.out
  clear GG RD BK0
  have GG := nGG
  have RD := nRD
  clear nGG nRD
  have BK0 := nBK0
  clear nBK0
  clear hg1 hr1
  obtain ⟨a12, c12, rfl⟩ := r1.len
  obtain ⟨a22, c22, rfl⟩ := r2.len
  have HR2 : Hid (RowAt 2 encNode w2 (.slice a12 ns2.length c12) ns2 ∧ RowAt 5 encEdge w2 (.slice a22 es2.length c22) es2) := ⟨r1, r2⟩
  have HOK2 : Hid (∀ x ∈ ns2, okB x.1 = true) := hok
  clear r1 r2 hok
  have HG : Hid (GrAt w2 (.slice a12 ns2.length c12) (.slice a22 es2.length c22) ns2 es2) := ⟨HR2.out.1, HR2.out.2, by omega, by omega⟩
  clear HR1 HR2
  obtain ⟨PX, hPX⟩ : ∃ t, w2.heap.size = t := ⟨_, rfl⟩
  obtain ⟨w3, hWPX⟩ : ∃ t, w2.alloc (.cells #[.slice a12 ns2.length c12, .slice a22 es2.length c22] 26) = t := ⟨_, rfl⟩
  have kPX : w3.heap[PX]? = some (.cells #[.slice a12 ns2.length c12, .slice a22 es2.length c22] 26 (0, 0)) := by rw [← hWPX, ← hPX]; exact new_block _ _
  have oPX : w.heap.size ≤ PX := by rw [← hPX]; exact GG.out.size
  have oPX0 : w00.heap.size < PX := by rw [← hPX]; exact lt_of_block BK0.out
  have nGG : Hid (w.grownBy w3 (some B)) := by show World.grownBy _ _ _; rw [← hWPX]; exact grownBy_trans GG.out (World.grownBy_alloc _ _ _)
  have nRD : Hid (RdAt w3 B a m cap zs (q2)) := by show RdAt _ _ _ _ _ _ _; rw [← hWPX]; exact RD.out.alloc _
  have nBK0 : Hid (w3.heap[w00.heap.size]? = some (.cells #[.slice none 0 0, .slice none 0 0] 26 (0, 0))) := by show _ = _; rw [← hWPX, heap_alloc_old _ _ (lt_of_block BK0.out)]; exact BK0.out
  clear GG RD BK0
  have GG := nGG
  have RD := nRD
  clear nGG nRD
  have BK0 := nBK0
  clear nBK0
  have BK1 : Hid (w3.heap[PX]? = some (.cells #[.slice a12 ns2.length c12, .slice a22 es2.length c22] 26 (0, 0))) := kPX
  clear kPX
  have c0_0 : w3.cell? ⟨w00.heap.size, 0, none⟩ = some (.slice none 0 0) := by rw [cell_block BK0.out]; rfl
  have c0_1 : w3.cell? ⟨w00.heap.size, 1, none⟩ = some (.slice none 0 0) := by rw [cell_block BK0.out]; rfl
  have l0 : w00.heap.size < w3.heap.size := lt_of_block BK0.out
  have f0 : ∀ o, w3.frozen? ⟨w00.heap.size, o, none⟩ = false := fun o => free_block BK0.out
  have c1_0 : w3.cell? ⟨PX, 0, none⟩ = some (.slice a12 ns2.length c12) := by rw [cell_block BK1.out]; rfl
  have c1_1 : w3.cell? ⟨PX, 1, none⟩ = some (.slice a22 es2.length c22) := by rw [cell_block BK1.out]; rfl
  have l1 : PX < w3.heap.size := lt_of_block BK1.out
  have f1 : ∀ o, w3.frozen? ⟨PX, o, none⟩ = false := fun o => free_block BK1.out
  have HG3 : Hid (GrAt w3 (.slice a12 ns2.length c12) (.slice a22 es2.length c22) ns2 es2) := by show GrAt _ _ _ _ _; rw [← hWPX]; exact HG.out.keep ((Below.refl _ _).alloc (Nat.le_refl _) _)
  clear HG
  go_upto_region 3 with fail
  clear hWPX hPX c0_0 c0_1 l0 f0 c1_0 c1_1 l1 f1
  have hS : Hid (∀ w', w3.grownBy w' (some B) → w'.cell? ⟨PX, 0, none⟩ = some (.slice a12 ns2.length c12) ∧ w'.cell? ⟨PX, 1, none⟩ = some (.slice a22 es2.length c22)) := fun w' h => ⟨by rw [World.cell?_of_block (h.block PX (lt_of_block BK1.out) (by simp; omega)), cell_block BK1.out]; rfl, by rw [World.cell?_of_block (h.block PX (lt_of_block BK1.out) (by simp; omega)), cell_block BK1.out]; rfl⟩
  have hne : w00.heap.size ≠ PX := by omega
  have hSf : Hid (∀ w' u u', w3.grownBy w' (some B) → ((w'.setCell ⟨w00.heap.size, 0, none⟩ u).setCell ⟨w00.heap.size, 1, none⟩ u').cell? ⟨PX, 0, none⟩ = some (.slice a12 ns2.length c12) ∧ ((w'.setCell ⟨w00.heap.size, 0, none⟩ u).setCell ⟨w00.heap.size, 1, none⟩ u').cell? ⟨PX, 1, none⟩ = some (.slice a22 es2.length c22)) := fun w' u u' h => by
    obtain ⟨h1, h2⟩ := hS.out w' h
    refine ⟨?_, ?_⟩
    · rw [World.cell?_setCell_far _ _ _ _ (by exact hne), World.cell?_setCell_far _ _ _ _ (by exact hne)]; exact h1
    · rw [World.cell?_setCell_far _ _ _ _ (by exact hne), World.cell?_setCell_far _ _ _ _ (by exact hne)]; exact h2
  go_region_held3 (fun w' => w'.cell? ⟨PX, 0, none⟩ = some (.slice a12 ns2.length c12) ∧ w'.cell? ⟨PX, 1, none⟩ = some (.slice a22 es2.length c22))
    (first | with_reducible exact hS.out _ (gr_dr _ _) | with_reducible exact hSf.out _ _ _ hg4 | with_reducible exact hS.out _ hg4)
    (first
      | (go_at_call 63; refine (l1Label B m cap a zs q2 w3.drew RD.out (by omega)).mono ?_; rintro e w4 ⟨x, q4, rfl, hx, hq4, hr4, hg4'⟩; have hg4 := gr_drew hg4'; have bx0 : w4.heap[w00.heap.size]? = some (.cells #[.slice none 0 0, .slice none 0 0] 26 (0, 0)) := (by rw [hg4.block _ (lt_of_block BK0.out) (by simp; omega)]; exact BK0.out); have bt0 : w4.cell? ⟨w00.heap.size, 0, none⟩ = some (.slice none 0 0) := (by rw [cell_block bx0]; rfl); have bt1 : w4.cell? ⟨w00.heap.size, 1, none⟩ = some (.slice none 0 0) := (by rw [cell_block bx0]; rfl); have bf0 : ∀ o, w4.frozen? ⟨w00.heap.size, o, none⟩ = false := (fun o => free_block bx0); have bl0 : w00.heap.size < w4.heap.size := lt_of_block bx0))
  all_goals (
    have HG4 : Hid (GrAt w4 (.slice a12 ns2.length c12) (.slice a22 es2.length c22) ns2 es2) := HG3.out.gr RD.out hg4
    have HB4 : Hid (w4.heap[w00.heap.size]? = some (.cells #[.slice none 0 0, .slice none 0 0] 26 (0, 0)) ∧ w.grownBy w4 (some B)) := ⟨bx0, grownBy_trans GG.out hg4⟩
    clear bx0 hr4 hg4 hg4' hx
    go_wp2_with fail
    try simp only [Exit.inBlock, Exit.then]
    refine bodyPost_ret (v := .tuple #[.agg #[.slice a12 ns2.length c12, .slice a22 es2.length c22], .int .i64 x]) (by simp [*, cell_block HB4.out.1, results, Tryz.results52, go_sem]) rfl ?_
    exact ⟨_, _, ns2, es2, x, rfl, (HG4.out.set HB4.out.1 0 _).set (set_block _ HB4.out.1) 1 _, ((HW.out.trans ((below_of_grown HB4.out.2 (by omega)).mono (by omega))).setCell (Nat.le_refl _) _).setCell (Nat.le_refl _) _⟩)
set_option maxRecDepth 8000 in
set_option maxHeartbeats 8000000 in
theorem drawGraphDo (a : Option Addr) (len cap : Nat) (zs : List Int) (w00 : World) (h : CodeAt w00 a len cap zs) :
    Calls Tryz.prog 27 #[.slice a len cap] w00 fun e w' => ∃ u1 u2 ns es k nl nn l al an bl bn, e = .returned (.tuple #[.agg #[u1, u2], OpVal k nl nn l al an bl bn]) ∧ GrAt w' u1 u2 ns es ∧ Below w00.heap.size w00 w' := by
  have h0 : CodeAt ((w00.alloc (.cells #[.slice none 0 0, .slice none 0 0] 26)).alloc (.cells #[.int .i64 0, .int .i64 0, .int .i64 0, .int .i64 0, .int .i64 0, .int .i64 0, .int .i64 0, .int .i64 0] 50)) a len cap zs := h.below (by go_grown)
  clear h
  go_enter Tryz.func27, Tryz.ntmps27
  go_wp2_with fail
  refine (l9Open a len cap zs _ h0).mono ?_
  rintro e w ⟨rfl, ⟨m, hr1⟩, hb1⟩
  clear h0
  simp only [World.size_alloc] at hr1 hb1 ⊢
  have BK0 : Hid (w.heap[w00.heap.size]? = some (.cells #[.slice none 0 0, .slice none 0 0] 26 (0, 0))) := by show _ = _; rw [hb1.block _ (by omega), heap_alloc_old _ _ (by simp)]; exact new_block _ _
  have BK1 : Hid (w.heap[w00.heap.size + 1]? = some (.cells #[.int .i64 0, .int .i64 0, .int .i64 0, .int .i64 0, .int .i64 0, .int .i64 0, .int .i64 0, .int .i64 0] 50 (0, 0))) := by show _ = _; rw [hb1.block _ (by omega)]; exact newC (by simp)
  have HW : Hid (Below w00.heap.size w00 w) := Below.trans (by go_grown) (hb1.mono (by omega))
  obtain ⟨B, hB0⟩ : ∃ B, B = w00.heap.size + 1 + 1 := ⟨_, rfl⟩
  rw [← hB0] at hr1 ⊢
  have hB : B < w.heap.size := hr1.lt
  have hB1 : w00.heap.size + 1 < B := by omega
  have GG : Hid (w.grownBy w (some B)) := grownBy_refl _ _
  have RD : Hid (RdAt w B a m cap zs 0) := hr1
  clear hr1 hb1 hB0
  go_wp2_with fail
  refine (l2Graph _ _ _ _ _ _ _ RD.out (by omega)).mono ?_
  rintro e w1 ⟨u1, u2, ns, es, q, rfl, og, ln, le, hok, hq, hr1, hg1⟩
  have nGG : Hid (w.grownBy w1 (some B)) := grownBy_trans GG.out hg1
  have nRD : Hid (RdAt w1 B a m cap zs (q)) := hr1
  have nBK0 : Hid (w1.heap[w00.heap.size]? = some (.cells #[.slice none 0 0, .slice none 0 0] 26 (0, 0))) := by show _ = _; rw [hg1.block (w00.heap.size) (lt_of_block BK0.out) (by simp; omega)]; exact BK0.out
  have nBK1 : Hid (w1.heap[w00.heap.size + 1]? = some (.cells #[.int .i64 0, .int .i64 0, .int .i64 0, .int .i64 0, .int .i64 0, .int .i64 0, .int .i64 0, .int .i64 0] 50 (0, 0))) := by show _ = _; rw [hg1.block (w00.heap.size + 1) (lt_of_block BK1.out) (by simp; omega)]; exact BK1.out
  clear GG RD BK0 BK1
  have GG := nGG
  have RD := nRD
  clear nGG nRD
  have BK0 := nBK0
  clear nBK0
  have BK1 := nBK1
  clear nBK1
  clear hg1 hr1
  obtain ⟨a1, c1, a2, c2, rfl, rfl⟩ := og.form
  have HR1 : Hid (RowAt 2 encNode w1 (.slice a1 ns.length c1) ns ∧ RowAt 5 encEdge w1 (.slice a2 es.length c2) es) := ⟨og.nodes, og.edges⟩
  have HOK1 : Hid (∀ x ∈ ns, okB x.1 = true) := hok
  clear og hok
  go_wp2_with fail
  refine (l2Bent B m cap a zs q _ _ ns es _ RD.out (by omega) HR1.out.1 HR1.out.2 HOK1.out (by omega) (by omega)).mono ?_
  rintro e w2 ⟨u1, u2, ns2, es2, q2, rfl, r1, r2, ln2, le2, hok, hq2, hr1, hg1⟩
  have nGG : Hid (w.grownBy w2 (some B)) := grownBy_trans GG.out hg1
  have nRD : Hid (RdAt w2 B a m cap zs (q2)) := hr1
  have nBK0 : Hid (w2.heap[w00.heap.size]? = some (.cells #[.slice none 0 0, .slice none 0 0] 26 (0, 0))) := by show _ = _; rw [hg1.block (w00.heap.size) (lt_of_block BK0.out) (by simp; omega)]; exact BK0.out
  have nBK1 : Hid (w2.heap[w00.heap.size + 1]? = some (.cells #[.int .i64 0, .int .i64 0, .int .i64 0, .int .i64 0, .int .i64 0, .int .i64 0, .int .i64 0, .int .i64 0] 50 (0, 0))) := by show _ = _; rw [hg1.block (w00.heap.size + 1) (lt_of_block BK1.out) (by simp; omega)]; exact BK1.out
  clear GG RD BK0 BK1
  have GG := nGG
  have RD := nRD
  clear nGG nRD
  have BK0 := nBK0
  clear nBK0
  have BK1 := nBK1
  clear nBK1
  clear hg1 hr1
  obtain ⟨a12, c12, rfl⟩ := r1.len
  obtain ⟨a22, c22, rfl⟩ := r2.len
  have HR2 : Hid (RowAt 2 encNode w2 (.slice a12 ns2.length c12) ns2 ∧ RowAt 5 encEdge w2 (.slice a22 es2.length c22) es2) := ⟨r1, r2⟩
  have HOK2 : Hid (∀ x ∈ ns2, okB x.1 = true) := hok
  clear r1 r2 hok
  have HG : Hid (GrAt w2 (.slice a12 ns2.length c12) (.slice a22 es2.length c22) ns2 es2) := ⟨HR2.out.1, HR2.out.2, by omega, by omega⟩
  clear HR1 HOK1
  obtain ⟨PX, hPX⟩ : ∃ t, w2.heap.size = t := ⟨_, rfl⟩
  obtain ⟨w3, hWPX⟩ : ∃ t, w2.alloc (.cells #[.slice a12 ns2.length c12, .slice a22 es2.length c22] 26) = t := ⟨_, rfl⟩
  have kPX : w3.heap[PX]? = some (.cells #[.slice a12 ns2.length c12, .slice a22 es2.length c22] 26 (0, 0)) := by rw [← hWPX, ← hPX]; exact new_block _ _
  have oPX : w.heap.size ≤ PX := by rw [← hPX]; exact GG.out.size
  have oPX0 : w00.heap.size < PX := by rw [← hPX]; exact lt_of_block BK0.out
  have oPX1 : w00.heap.size + 1 < PX := by rw [← hPX]; exact lt_of_block BK1.out
  have nGG : Hid (w.grownBy w3 (some B)) := by show World.grownBy _ _ _; rw [← hWPX]; exact grownBy_trans GG.out (World.grownBy_alloc _ _ _)
  have nRD : Hid (RdAt w3 B a m cap zs (q2)) := by show RdAt _ _ _ _ _ _ _; rw [← hWPX]; exact RD.out.alloc _
  have nBK0 : Hid (w3.heap[w00.heap.size]? = some (.cells #[.slice none 0 0, .slice none 0 0] 26 (0, 0))) := by show _ = _; rw [← hWPX, heap_alloc_old _ _ (lt_of_block BK0.out)]; exact BK0.out
  have nBK1 : Hid (w3.heap[w00.heap.size + 1]? = some (.cells #[.int .i64 0, .int .i64 0, .int .i64 0, .int .i64 0, .int .i64 0, .int .i64 0, .int .i64 0, .int .i64 0] 50 (0, 0))) := by show _ = _; rw [← hWPX, heap_alloc_old _ _ (lt_of_block BK1.out)]; exact BK1.out
  clear GG RD BK0 BK1
  have GG := nGG
  have RD := nRD
  clear nGG nRD
  have BK0 := nBK0
  clear nBK0
  have BK1 := nBK1
  clear nBK1
  have BK2 : Hid (w3.heap[PX]? = some (.cells #[.slice a12 ns2.length c12, .slice a22 es2.length c22] 26 (0, 0))) := kPX
  clear kPX
  have HG3 : Hid (GrAt w3 (.slice a12 ns2.length c12) (.slice a22 es2.length c22) ns2 es2) := by show GrAt _ _ _ _ _; rw [← hWPX]; exact HG.out.keep ((Below.refl _ _).alloc (Nat.le_refl _) _)
  clear HG
  have HN2 : Hid (ns2.length ≤ 200 ∧ es2.length ≤ 200) := HG3.out.2.2
  have c2_0 : w3.cell? ⟨PX, 0, none⟩ = some (.slice a12 ns2.length c12) := by rw [cell_block BK2.out]; rfl
  have c2_1 : w3.cell? ⟨PX, 1, none⟩ = some (.slice a22 es2.length c22) := by rw [cell_block BK2.out]; rfl
  have l2 : PX < w3.heap.size := lt_of_block BK2.out
  have f2 : ∀ o, w3.frozen? ⟨PX, o, none⟩ = false := fun o => free_block BK2.out
  go_upto_region 3 with fail
  clear hWPX hPX c2_0 c2_1 l2 f2
  have hS : Hid (∀ w', w3.grownBy w' (some B) → w'.cell? ⟨PX, 0, none⟩ = some (.slice a12 ns2.length c12) ∧ w'.cell? ⟨PX, 1, none⟩ = some (.slice a22 es2.length c22)) := fun w' h => ⟨by rw [World.cell?_of_block (h.block PX (lt_of_block BK2.out) (by simp; omega)), cell_block BK2.out]; rfl, by rw [World.cell?_of_block (h.block PX (lt_of_block BK2.out) (by simp; omega)), cell_block BK2.out]; rfl⟩
  have hne : w00.heap.size ≠ PX := by omega
  have hne1 : w00.heap.size + 1 ≠ PX := by omega
  have hSf : Hid (∀ w' u u', w3.grownBy w' (some B) → ((w'.setCell ⟨w00.heap.size, 0, none⟩ u).setCell ⟨w00.heap.size, 1, none⟩ u').cell? ⟨PX, 0, none⟩ = some (.slice a12 ns2.length c12) ∧ ((w'.setCell ⟨w00.heap.size, 0, none⟩ u).setCell ⟨w00.heap.size, 1, none⟩ u').cell? ⟨PX, 1, none⟩ = some (.slice a22 es2.length c22)) := fun w' u u' h => by
    obtain ⟨h1, h2⟩ := hS.out w' h
    exact ⟨by rw [World.cell?_setCell_far _ _ _ _ (by exact hne), World.cell?_setCell_far _ _ _ _ (by exact hne)]; exact h1, by rw [World.cell?_setCell_far _ _ _ _ (by exact hne), World.cell?_setCell_far _ _ _ _ (by exact hne)]; exact h2⟩
  have hSg : Hid (∀ w' u u' v0 v1 v2 v3 v4 v5 v6 v7, w3.grownBy w' (some B) → ((((((((((w'.setCell ⟨w00.heap.size, 0, none⟩ u).setCell ⟨w00.heap.size, 1, none⟩ u').setCell ⟨w00.heap.size + 1, 0, none⟩ v0).setCell ⟨w00.heap.size + 1, 1, none⟩ v1).setCell ⟨w00.heap.size + 1, 2, none⟩ v2).setCell ⟨w00.heap.size + 1, 3, none⟩ v3).setCell ⟨w00.heap.size + 1, 4, none⟩ v4).setCell ⟨w00.heap.size + 1, 5, none⟩ v5).setCell ⟨w00.heap.size + 1, 6, none⟩ v6).setCell ⟨w00.heap.size + 1, 7, none⟩ v7).cell? ⟨PX, 0, none⟩ = some (.slice a12 ns2.length c12) ∧ ((((((((((w'.setCell ⟨w00.heap.size, 0, none⟩ u).setCell ⟨w00.heap.size, 1, none⟩ u').setCell ⟨w00.heap.size + 1, 0, none⟩ v0).setCell ⟨w00.heap.size + 1, 1, none⟩ v1).setCell ⟨w00.heap.size + 1, 2, none⟩ v2).setCell ⟨w00.heap.size + 1, 3, none⟩ v3).setCell ⟨w00.heap.size + 1, 4, none⟩ v4).setCell ⟨w00.heap.size + 1, 5, none⟩ v5).setCell ⟨w00.heap.size + 1, 6, none⟩ v6).setCell ⟨w00.heap.size + 1, 7, none⟩ v7).cell? ⟨PX, 1, none⟩ = some (.slice a22 es2.length c22)) := fun w' u u' v0 v1 v2 v3 v4 v5 v6 v7 h => by
    obtain ⟨h1, h2⟩ := hSf.out w' u u' h
    exact ⟨by rw [World.cell?_setCell_far _ _ _ _ (by exact hne1), World.cell?_setCell_far _ _ _ _ (by exact hne1), World.cell?_setCell_far _ _ _ _ (by exact hne1), World.cell?_setCell_far _ _ _ _ (by exact hne1), World.cell?_setCell_far _ _ _ _ (by exact hne1), World.cell?_setCell_far _ _ _ _ (by exact hne1), World.cell?_setCell_far _ _ _ _ (by exact hne1), World.cell?_setCell_far _ _ _ _ (by exact hne1)]; exact h1, by rw [World.cell?_setCell_far _ _ _ _ (by exact hne1), World.cell?_setCell_far _ _ _ _ (by exact hne1), World.cell?_setCell_far _ _ _ _ (by exact hne1), World.cell?_setCell_far _ _ _ _ (by exact hne1), World.cell?_setCell_far _ _ _ _ (by exact hne1), World.cell?_setCell_far _ _ _ _ (by exact hne1), World.cell?_setCell_far _ _ _ _ (by exact hne1), World.cell?_setCell_far _ _ _ _ (by exact hne1)]; exact h2⟩
  have f0 : w3.cell? ⟨PX, 0, none⟩ = some (.slice a12 ns2.length c12) := by rw [cell_block BK2.out]; rfl
  have f1 : w3.cell? ⟨PX, 1, none⟩ = some (.slice a22 es2.length c22) := by rw [cell_block BK2.out]; rfl
  go_region_with
    (first
      | (go_at_call 68; refine (l2Op B m cap c12 c22 a a12 a22 zs q2 ns2 es2 w3.drew RD.out (by omega) (HG3.out.1.keep ((Below.refl _ _).drew)) (HG3.out.2.1.keep ((Below.refl _ _).drew)) HOK2.out (by omega) (by omega)).mono ?_; rintro e w4 ⟨k, nl, nn, l, al, an, bl, bn, q4, rfl, hq4, hr4, hg4'⟩; have hg4 := gr_drew hg4'; have j0 : w4.cell? ⟨PX, 0, none⟩ = some (.slice a12 ns2.length c12) := (hS.out _ hg4).1; have j1 : w4.cell? ⟨PX, 1, none⟩ = some (.slice a22 es2.length c22) := (hS.out _ hg4).2; have bx0 : w4.heap[w00.heap.size]? = some (.cells #[.slice none 0 0, .slice none 0 0] 26 (0, 0)) := (by rw [hg4.block _ (lt_of_block BK0.out) (by simp; omega)]; exact BK0.out); have bx1 : w4.heap[w00.heap.size + 1]? = some (.cells #[.int .i64 0, .int .i64 0, .int .i64 0, .int .i64 0, .int .i64 0, .int .i64 0, .int .i64 0, .int .i64 0] 50 (0, 0)) := (by rw [hg4.block _ (lt_of_block BK1.out) (by simp; omega)]; exact BK1.out); have bt0 : w4.cell? ⟨w00.heap.size, 0, none⟩ = some (.slice none 0 0) := (by rw [cell_block bx0]; rfl); have bt1 : w4.cell? ⟨w00.heap.size, 1, none⟩ = some (.slice none 0 0) := (by rw [cell_block bx0]; rfl); have bu0 : w4.cell? ⟨w00.heap.size + 1, 0, none⟩ = some (.int .i64 0) := (by rw [cell_block bx1]; rfl); have bu1 : w4.cell? ⟨w00.heap.size + 1, 1, none⟩ = some (.int .i64 0) := (by rw [cell_block bx1]; rfl); have bu2 : w4.cell? ⟨w00.heap.size + 1, 2, none⟩ = some (.int .i64 0) := (by rw [cell_block bx1]; rfl); have bu3 : w4.cell? ⟨w00.heap.size + 1, 3, none⟩ = some (.int .i64 0) := (by rw [cell_block bx1]; rfl); have bu4 : w4.cell? ⟨w00.heap.size + 1, 4, none⟩ = some (.int .i64 0) := (by rw [cell_block bx1]; rfl); have bu5 : w4.cell? ⟨w00.heap.size + 1, 5, none⟩ = some (.int .i64 0) := (by rw [cell_block bx1]; rfl); have bu6 : w4.cell? ⟨w00.heap.size + 1, 6, none⟩ = some (.int .i64 0) := (by rw [cell_block bx1]; rfl); have bu7 : w4.cell? ⟨w00.heap.size + 1, 7, none⟩ = some (.int .i64 0) := (by rw [cell_block bx1]; rfl); have bf0 : ∀ o, w4.frozen? ⟨w00.heap.size, o, none⟩ = false := (fun o => free_block bx0); have bf1 : ∀ o, w4.frozen? ⟨w00.heap.size + 1, o, none⟩ = false := (fun o => free_block bx1); have bl0 : w00.heap.size < w4.heap.size := lt_of_block bx0; have bl1 : w00.heap.size + 1 < w4.heap.size := lt_of_block bx1))
  all_goals (
    have HG4 : Hid (GrAt w4 (.slice a12 ns2.length c12) (.slice a22 es2.length c22) ns2 es2) := HG3.out.gr RD.out hg4
    have HB4 : Hid (w4.heap[w00.heap.size]? = some (.cells #[.slice none 0 0, .slice none 0 0] 26 (0, 0)) ∧ w4.heap[w00.heap.size + 1]? = some (.cells #[.int .i64 0, .int .i64 0, .int .i64 0, .int .i64 0, .int .i64 0, .int .i64 0, .int .i64 0, .int .i64 0] 50 (0, 0)) ∧ w.grownBy w4 (some B)) := ⟨bx0, bx1, grownBy_trans GG.out hg4⟩
    clear bx0 bx1 hg4 hg4' hr4
    go_wp2_with fail
    try simp only [Exit.inBlock, Exit.then]
    refine bodyPost_ret (v := .tuple #[.agg #[.slice a12 ns2.length c12, .slice a22 es2.length c22], OpVal k nl nn l al an bl bn]) (by simp [*, cell_block HB4.out.1, cell_block HB4.out.2.1, results, Tryz.results27, go_sem, OpVal]) rfl ?_
    obtain ⟨ns', es', hg'⟩ := GrAt.ints ((HG4.out.set HB4.out.1 0 (.slice a12 ns2.length c12)).set (set_block _ HB4.out.1) 1 (.slice a22 es2.length c22)) (IntsTo.set (IntsTo.set (IntsTo.set (IntsTo.set (IntsTo.set (IntsTo.set (IntsTo.set (IntsTo.set (IntsTo.refl _) ⟨w00.heap.size + 1, 0, none⟩ k) ⟨w00.heap.size + 1, 1, none⟩ nl) ⟨w00.heap.size + 1, 2, none⟩ nn) ⟨w00.heap.size + 1, 3, none⟩ l) ⟨w00.heap.size + 1, 4, none⟩ al) ⟨w00.heap.size + 1, 5, none⟩ an) ⟨w00.heap.size + 1, 6, none⟩ bl) ⟨w00.heap.size + 1, 7, none⟩ bn)
    exact ⟨_, _, ns', es', k, nl, nn, l, al, an, bl, bn, rfl, hg', (Below.setCell (p := ⟨w00.heap.size + 1, 7, none⟩) ((Below.setCell (p := ⟨w00.heap.size + 1, 6, none⟩) ((Below.setCell (p := ⟨w00.heap.size + 1, 5, none⟩) ((Below.setCell (p := ⟨w00.heap.size + 1, 4, none⟩) ((Below.setCell (p := ⟨w00.heap.size + 1, 3, none⟩) ((Below.setCell (p := ⟨w00.heap.size + 1, 2, none⟩) ((Below.setCell (p := ⟨w00.heap.size + 1, 1, none⟩) ((Below.setCell (p := ⟨w00.heap.size + 1, 0, none⟩) (((HW.out.trans ((below_of_grown HB4.out.2.2 (by omega)).mono (by omega))).setCell (Nat.le_refl _) _).setCell (Nat.le_refl _) _) (Nat.le_succ _) _)) (Nat.le_succ _) _)) (Nat.le_succ _) _)) (Nat.le_succ _) _)) (Nat.le_succ _) _)) (Nat.le_succ _) _)) (Nat.le_succ _) _)) (Nat.le_succ _) _)⟩)
end Go.Proofs.YtlnpbfeihjfnjaaGreatDoor.Lab

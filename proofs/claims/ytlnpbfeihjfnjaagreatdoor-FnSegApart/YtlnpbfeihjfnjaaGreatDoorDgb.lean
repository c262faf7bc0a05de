/-
  What is bent of drawn graphs: spec.l2Bent. (Written by tools/mkdgb.py.)
-/
import Derived.Test.YtlnpbfeihjfnjaaGreatDoorDgg
import Derived.Deep.DeepCutAuto
import Derived.Deep.RegionHeld3
import Derived.Deep.RegionHeld
namespace Go.Proofs.YtlnpbfeihjfnjaaGreatDoor.Lab
open Go.RowKit Go.ChangeMaps
set_option linter.unusedVariables false
theorem row_tail {w : World} {g c : Nat} {ns : List Nd} (c' : Nat) (h : RowAt 2 encNode w (.slice (some ⟨g, 0, none⟩) ns.length c) ns) : RowAt 2 encNode w (.slice (some ⟨g, 2, none⟩) (ns.length - 1) c') (ns.drop 1) := by
  rcases h with ⟨rfl, _⟩ | ⟨h0, b, off, cp, hv, hlt, hc⟩
  · exact .inl ⟨rfl, _, _, rfl⟩
  · simp only [Value.slice.injEq, Option.some.injEq, Addr.mk.injEq] at hv
    obtain ⟨⟨rfl, rfl, _⟩, _, rfl⟩ := hv
    by_cases h1 : ns.length = 1
    · have : ns.drop 1 = [] := List.drop_eq_nil_of_le (by omega)
      rw [this, h1]
      exact .inl ⟨rfl, _, _, rfl⟩
    · refine .inr ⟨by rw [List.length_drop]; omega, g, 2, c', by rw [List.length_drop], hlt, fun j x hx i u hu => ?_⟩
      rw [List.getElem?_drop] at hx
      have := hc (1 + j) x hx i u hu
      rw [show 2 + j * 2 + i = 0 + (1 + j) * 2 + i by omega]
      exact this
theorem gr_dr (w : World) (r : Option Nat) : w.grownBy w.drew r := ⟨rfl, rfl, rfl, Nat.le_refl _, fun _ _ _ => rfl⟩
theorem gr_ad (w : World) (o : Obj) (r : Option Nat) : w.grownBy (w.alloc o).drew r := grownBy_trans (World.grownBy_alloc _ _ _) (gr_dr _ _)
theorem gr_da (w : World) (o : Obj) (r : Option Nat) : w.grownBy (w.drew.alloc o) r := gr_ad w o r
theorem gr_al {w w2 : World} {o : Obj} {r : Option Nat} (h : (w.alloc o).drew.grownBy w2 r) : w.grownBy w2 r := grownBy_trans (World.grownBy_alloc _ _ _) (gr_drew h)
theorem list_keep3 {w w4 : World} {B t : Nat} {x0 x1 x2 : Int} (hB : B < w.heap.size) (h : (w.alloc (.cells #[.int .i64 x0, .int .i64 x1, .int .i64 x2] t)).drew.grownBy w4 (some B)) : ∀ j, j < 3 → w4.cell? ⟨w.heap.size, j, none⟩ = some (.int .i64 ([x0, x1, x2].getD j 0)) := fun j hj => by
  rw [World.cell?_of_block ((gr_drew h).block w.heap.size (by simp) (by simp; omega))]
  have hj' : j = 0 ∨ j = 1 ∨ j = 2 := by omega
  rcases hj' with rfl | rfl | rfl <;> simp [go_sem]
theorem list_keep4 {w w4 : World} {B t : Nat} {x0 x1 x2 x3 : Int} (hB : B < w.heap.size) (h : (w.alloc (.cells #[.int .i64 x0, .int .i64 x1, .int .i64 x2, .int .i64 x3] t)).drew.grownBy w4 (some B)) : ∀ j, j < 4 → w4.cell? ⟨w.heap.size, j, none⟩ = some (.int .i64 ([x0, x1, x2, x3].getD j 0)) := fun j hj => by
  rw [World.cell?_of_block ((gr_drew h).block w.heap.size (by simp) (by simp; omega))]
  have hj' : j = 0 ∨ j = 1 ∨ j = 2 ∨ j = 3 := by omega
  rcases hj' with rfl | rfl | rfl | rfl <;> simp [go_sem]
theorem gr_low {w w3 w4 : World} {r : Option Nat} {n : Nat} (h : w.grownBy w3 r) (k : Below n w3 w4) (hn : w.heap.size ≤ n) : w.grownBy w4 r := ⟨k.os.trans h.os, k.tape.trans h.tape, k.output.trans h.output, Nat.le_trans h.size k.size, fun b hb hr => (k.block b (by omega)).trans (h.block b hb hr)⟩
theorem new_rowG {α : Type} {s : Nat} {enc : α → List Value} (w : World) (x : α) (t : TypeId) : RowAt s enc (w.alloc (.cells (enc x).toArray t)) (.slice (some ⟨w.heap.size, 0, none⟩) 1 1) [x] := by
  refine .inr ⟨by simp, w.heap.size, 0, 1, rfl, by simp, fun j y hy i u hu => ?_⟩
  match j, hy with
  | 0, hy =>
    simp at hy; subst hy
    rw [cell_block (new_block w _)]
    simpa using hu
theorem row_set_num {w : World} {g c j : Nat} {ns : List Nd} {l n : Int} (v : Int) (h : RowAt 2 encNode w (.slice (some ⟨g, 0, none⟩) ns.length c) ns) (hj : ns[j]? = some (l, n)) : RowAt 2 encNode (w.setCell ⟨g, j * 2 + 1, none⟩ (.int .i64 v)) (.slice (some ⟨g, 0, none⟩) ns.length c) (ns.set j (l, v)) := by
  rcases h with ⟨rfl, _⟩ | ⟨h0, b, off, cp, hv, hlt, hc⟩
  · simp at hj
  · simp only [Value.slice.injEq, Option.some.injEq, Addr.mk.injEq] at hv
    obtain ⟨⟨rfl, rfl, _⟩, _, rfl⟩ := hv
    refine .inr ⟨by rw [List.length_set]; exact h0, g, 0, c, by rw [List.length_set], by simpa using hlt, fun i x hx t u hu => ?_⟩
    have ht : t < 2 := by obtain ⟨h1, _⟩ := List.getElem?_eq_some_iff.1 hu; simpa [encNode] using h1
    by_cases hij : j = i
    · subst hij
      have hjl : j < ns.length := by obtain ⟨h1, _⟩ := List.getElem?_eq_some_iff.1 hj; exact h1
      rw [List.getElem?_set_self hjl] at hx
      cases hx
      match t, ht, hu with
      | 0, _, hu =>
        have h0' := hc j _ hj 0 _ rfl
        rw [World.cell?_setCell_other _ _ _ _ (by intro e; simp at e)]
        rw [h0']; exact hu
      | 1, _, hu =>
        have h1' := hc j _ hj 1 _ rfl
        have e : (⟨g, j * 2 + 1, none⟩ : Addr) = ⟨g, 0 + j * 2 + 1, none⟩ := by rw [Nat.zero_add]
        rw [e, World.cell?_setCell_same _ _ _ h1']; exact hu
    · rw [List.getElem?_set_ne hij] at hx
      rw [World.cell?_setCell_other _ _ _ _ (by intro e; have := congrArg Addr.off e; dsimp only at this; omega)]
      exact hc i x hx t u hu
theorem row_set_lab {w : World} {g c j : Nat} {es : List Ed} {x0 : Ed} (v : Int) (h : RowAt 5 encEdge w (.slice (some ⟨g, 0, none⟩) es.length c) es) (hj : es[j]? = some x0) : RowAt 5 encEdge (w.setCell ⟨g, j * 5, none⟩ (.int .i64 v)) (.slice (some ⟨g, 0, none⟩) es.length c) (es.set j (v, x0.2)) := by
  rcases h with ⟨rfl, _⟩ | ⟨h0, b, off, cp, hv, hlt, hc⟩
  · simp at hj
  · simp only [Value.slice.injEq, Option.some.injEq, Addr.mk.injEq] at hv
    obtain ⟨⟨rfl, rfl, _⟩, _, rfl⟩ := hv
    refine .inr ⟨by rw [List.length_set]; exact h0, g, 0, c, by rw [List.length_set], by simpa using hlt, fun i x hx t u hu => ?_⟩
    have ht : t < 5 := by obtain ⟨h1, _⟩ := List.getElem?_eq_some_iff.1 hu; simpa [encEdge] using h1
    by_cases hij : j = i
    · subst hij
      have hjl : j < es.length := by obtain ⟨h1, _⟩ := List.getElem?_eq_some_iff.1 hj; exact h1
      rw [List.getElem?_set_self hjl] at hx
      cases hx
      by_cases ht0 : t = 0
      · subst ht0
        have h1' := hc j _ hj 0 _ rfl
        have e : (⟨g, j * 5, none⟩ : Addr) = ⟨g, 0 + j * 5 + 0, none⟩ := by rw [Nat.zero_add, Nat.add_zero]
        rw [e, World.cell?_setCell_same _ _ _ h1']; exact hu
      · rw [World.cell?_setCell_other _ _ _ _ (by intro e; have := congrArg Addr.off e; dsimp only at this; omega)]
        refine hc j _ hj t u ?_
        match t, ht, ht0, hu with
        | 1, _, _, hu => exact hu
        | 2, _, _, hu => exact hu
        | 3, _, _, hu => exact hu
        | 4, _, _, hu => exact hu
    · rw [List.getElem?_set_ne hij] at hx
      rw [World.cell?_setCell_other _ _ _ _ (by intro e; have := congrArg Addr.off e; dsimp only at this; omega)]
      exact hc i x hx t u hu
theorem flat_set_num : ∀ (ns : List Nd) (j : Nat) (l n v : Int), ns[j]? = some (l, n) → (ns.flatMap encNode).set (j * 2 + 1) (.int .i64 v) = (ns.set j (l, v)).flatMap encNode
  | [], j, l, n, v, h => by simp at h
  | x :: ns, 0, l, n, v, h => by simp at h; subst h; simp [encNode]
  | x :: ns, j + 1, l, n, v, h => by
    have ih := flat_set_num ns j l n v (by simpa using h)
    simp only [List.flatMap_cons, List.set_cons_succ, ← ih, encNode, List.cons_append, List.nil_append]
    rw [show (j + 1) * 2 = j * 2 + 1 + 1 by omega]
    simp
theorem flat_set_lab : ∀ (es : List Ed) (j : Nat) (x : Ed) (v : Int), es[j]? = some x → (es.flatMap encEdge).set (j * 5) (.int .i64 v) = (es.set j (v, x.2)).flatMap encEdge
  | [], j, x, v, h => by simp at h
  | y :: es, 0, x, v, h => by simp at h; subst h; simp [encEdge]
  | y :: es, j + 1, x, v, h => by
    have ih := flat_set_lab es j x v (by simpa using h)
    simp only [List.flatMap_cons, List.set_cons_succ, ← ih, encEdge, List.cons_append, List.nil_append]
    rw [show (j + 1) * 5 = j * 5 + 1 + 1 + 1 + 1 + 1 by omega]
    simp
theorem set_ok {ns : List Nd} {j : Nat} {l n v : Int} (h : ∀ x ∈ ns, okB x.1 = true) (hj : ns[j]? = some (l, n)) : ∀ x ∈ ns.set j (l, v), okB x.1 = true := fun x hx => by
  rcases List.mem_or_eq_of_mem_set hx with hx | rfl
  · exact h x hx
  · exact h (l, n) (List.mem_of_getElem? hj)
theorem own_cellN {w : World} {b e g c : Nat} {ns : List Nd} {j : Nat} (h : w.ownsRow b e 2 (.slice (some ⟨g, 0, none⟩) ns.length c) ns.length (ns.flatMap encNode)) (hj : j < ns.length) : ∃ u, w.cell? ⟨g, j * 2 + 1, none⟩ = some u := by
  rw [h.cellAt (j * 2 + 1) (by omega)]
  have hl : j * 2 + 1 < (ns.flatMap encNode).length := by rw [flat_len encNode_len]; omega
  exact ⟨_, List.getElem?_eq_getElem hl⟩
theorem own_cellE {w : World} {b e g c : Nat} {es : List Ed} {j : Nat} (h : w.ownsRow b e 5 (.slice (some ⟨g, 0, none⟩) es.length c) es.length (es.flatMap encEdge)) (hj : j < es.length) : ∃ u, w.cell? ⟨g, j * 5, none⟩ = some u := by
  rw [h.cellAt (j * 5) (by omega)]
  have hl : j * 5 < (es.flatMap encEdge).length := by rw [flat_len encEdge_len]; omega
  exact ⟨_, List.getElem?_eq_getElem hl⟩
/-- How it ends. -/
def BentPost (w : World) (B len cap : Nat) (a : Option Addr) (zs : List Int) (pos : Int) (ns : List Nd) (es : List Ed) (e : Ending) (w' : World) : Prop := ∃ u1 u2 ns' es' q, e = .returned (.agg #[u1, u2]) ∧ RowAt 2 encNode w' u1 ns' ∧ RowAt 5 encEdge w' u2 es' ∧ ns'.length ≤ ns.length + 6 ∧ es'.length ≤ es.length + 1 ∧ (∀ x ∈ ns', okB x.1 = true) ∧ q ≤ pos + 3 ∧ RdAt w' B a len cap zs q ∧ w.grownBy w' (some B)
theorem pickN (B len cap : Nat) (a : Option Addr) (zs : List Int) (pos : Int) (n : Nat) (w : World) (h : RdAt w B a len cap zs pos) (hp : pos ≤ 1000000000) (h1 : 1 ≤ n) (h2 : n ≤ 1000000) :
    Calls Tryz.prog 80 #[.pointer (some ⟨B, 0, none⟩), .int .i64 (n : Int)] w fun e w' => ∃ j : Nat, e = .returned (.int .i64 (j : Int)) ∧ j < n ∧ RdAt w' B a len cap zs (pos + 1) ∧ w.grownBy w' (some B) := by
  refine (pick B len cap a zs pos n w h hp (by omega) (by omega)).mono ?_
  rintro e w' ⟨x, he, h0, hx, hr, hg⟩
  obtain ⟨j, rfl⟩ := Int.eq_ofNat_of_zero_le h0
  exact ⟨j, he, by omega, hr, hg⟩
set_option maxRecDepth 8000 in
set_option maxHeartbeats 8000000 in
theorem l2Bent (B len cap : Nat) (a : Option Addr) (zs : List Int) (pos : Int) (v1 v2 : Value) (ns : List Nd) (es : List Ed) (w : World) (h : RdAt w B a len cap zs pos) (hp : pos ≤ 100000) (h1 : RowAt 2 encNode w v1 ns) (h2 : RowAt 5 encEdge w v2 es) (hok : ∀ x ∈ ns, okB x.1 = true) (hl : ns.length ≤ 10000) (hm : es.length ≤ 10000) :
    Calls Tryz.prog 67 #[.pointer (some ⟨B, 0, none⟩), .agg #[v1, v2]] w fun e w' => BentPost w B len cap a zs pos ns es e w' := by
  have hB := h.lt
  have H0 : Hid (RdAt w B a len cap zs pos) := h
  obtain ⟨a1, c1, rfl⟩ := h1.len
  obtain ⟨a2, c2, rfl⟩ := h2.len
  have HROW : Hid (RowAt 2 encNode w (.slice a1 ns.length c1) ns ∧ RowAt 5 encEdge w (.slice a2 es.length c2) es) := ⟨h1, h2⟩
  have HOK : Hid (∀ x ∈ ns, okB x.1 = true) := hok
  clear h1 h2 hok
  go_enter Tryz.func67, Tryz.ntmps67
  go_wp2_with fail
  generalize hW : ((w.alloc (.cells #[.slice a1 ns.length c1, .slice a2 es.length c2] 26)).alloc (.cells #[.slice none 0 0, .slice none 0 0] 26)) = w0
  have GG : Hid (w.grownBy w0 (some B)) := by show World.grownBy _ _ _; rw [← hW]; exact grownBy_trans (grownBy_trans (grownBy_refl _ _) (World.grownBy_alloc _ _ _)) (World.grownBy_alloc _ _ _)
  have RD : Hid (RdAt w0 B a len cap zs (pos)) := by show RdAt _ _ _ _ _ _ _; rw [← hW]; exact ((h).alloc _).alloc _
  have BK0 : Hid (w0.heap[w.heap.size]? = some (.cells #[.slice a1 ns.length c1, .slice a2 es.length c2] 26 (0, 0))) := by show _ = _; rw [← hW]; rw [heap_alloc_old _ _ (by simp)]; exact newC (by simp)
  have BK1 : Hid (w0.heap[w.heap.size + 1]? = some (.cells #[.slice none 0 0, .slice none 0 0] 26 (0, 0))) := by show _ = _; rw [← hW]; exact newC (by simp)
  have Z0 : w0.heap.size = w.heap.size + 1 + 1 := by rw [← hW]; simp
  clear hW
  clear h Z0
  refine (l2Copy _ _ ns es w0 (row_gr (by decide) encNode_two HROW.out.1 H0.out GG.out) (row_gr (by decide) encEdge_two HROW.out.2 H0.out GG.out) (by omega) (by omega)).mono ?_
  rintro e w1 ⟨u1, u2, rfl, og, bel⟩
  obtain ⟨y1, d1, y2, d2, rfl, rfl⟩ := og.form
  have hbs : w.heap.size + 1 < w0.heap.size := lt_of_block BK1.out
  have hsz01 : w0.heap.size ≤ w1.heap.size := bel.size
  have HO : Hid (OwnGraph w1 w0.heap.size (.slice y1 ns.length d1) (.slice y2 es.length d2) ns es) := og
  clear og HROW
  have hgb : w0.grownBy w1 (some B) := grownBy_below (grownBy_refl _ _) bel
  have rdb := RD.out.below bel RD.out.lt
  have nGG : Hid (w.grownBy w1 (some B)) := grownBy_trans GG.out hgb
  have nRD : Hid (RdAt w1 B a len cap zs (pos)) := rdb
  have nBK0 : Hid (w1.heap[w.heap.size]? = some (.cells #[.slice a1 ns.length c1, .slice a2 es.length c2] 26 (0, 0))) := by show _ = _; rw [hgb.block (w.heap.size) (lt_of_block BK0.out) (by simp; omega)]; exact BK0.out
  have nBK1 : Hid (w1.heap[w.heap.size + 1]? = some (.cells #[.slice none 0 0, .slice none 0 0] 26 (0, 0))) := by show _ = _; rw [hgb.block (w.heap.size + 1) (lt_of_block BK1.out) (by simp; omega)]; exact BK1.out
  clear GG RD BK0 BK1
  have GG := nGG
  have RD := nRD
  clear nGG nRD
  have BK0 := nBK0
  clear nBK0
  have BK1 := nBK1
  clear nBK1
  clear hgb rdb
  clear bel
  obtain ⟨b0, hb0⟩ : ∃ t, t = w0.heap.size := ⟨_, rfl⟩
  rw [← hb0] at HO hbs hsz01
  clear hb0
  obtain ⟨PX, hPX⟩ : ∃ t, w1.heap.size = t := ⟨_, rfl⟩
  obtain ⟨w2, hWPX⟩ : ∃ t, w1.alloc (.cells #[.slice y1 ns.length d1, .slice y2 es.length d2] 26) = t := ⟨_, rfl⟩
  have kPX : w2.heap[PX]? = some (.cells #[.slice y1 ns.length d1, .slice y2 es.length d2] 26 (0, 0)) := by rw [← hWPX, ← hPX]; exact new_block _ _
  have oPX : w.heap.size ≤ PX := by rw [← hPX]; exact GG.out.size
  have oPX0 : w.heap.size < PX := by rw [← hPX]; exact lt_of_block BK0.out
  have oPX1 : w.heap.size + 1 < PX := by rw [← hPX]; exact lt_of_block BK1.out
  have nGG : Hid (w.grownBy w2 (some B)) := by show World.grownBy _ _ _; rw [← hWPX]; exact grownBy_trans GG.out (World.grownBy_alloc _ _ _)
  have nRD : Hid (RdAt w2 B a len cap zs (pos)) := by show RdAt _ _ _ _ _ _ _; rw [← hWPX]; exact RD.out.alloc _
  have nBK0 : Hid (w2.heap[w.heap.size]? = some (.cells #[.slice a1 ns.length c1, .slice a2 es.length c2] 26 (0, 0))) := by show _ = _; rw [← hWPX, heap_alloc_old _ _ (lt_of_block BK0.out)]; exact BK0.out
  have nBK1 : Hid (w2.heap[w.heap.size + 1]? = some (.cells #[.slice none 0 0, .slice none 0 0] 26 (0, 0))) := by show _ = _; rw [← hWPX, heap_alloc_old _ _ (lt_of_block BK1.out)]; exact BK1.out
  clear GG RD BK0 BK1
  have GG := nGG
  have RD := nRD
  clear nGG nRD
  have BK0 := nBK0
  clear nBK0
  have BK1 := nBK1
  clear nBK1
  have BK2 : Hid (w2.heap[PX]? = some (.cells #[.slice y1 ns.length d1, .slice y2 es.length d2] 26 (0, 0))) := kPX
  clear kPX
  have HO2 : Hid (OwnGraph w2 b0 (.slice y1 ns.length d1) (.slice y2 es.length d2) ns es) := by show OwnGraph _ _ _ _ _ _; rw [← hWPX]; exact HO.out.keep ((Below.refl _ _).alloc (Nat.le_refl _) _)
  have HLT : Hid (∀ k, ((Value.slice y1 ns.length d1).ownBlock = some k ∨ (Value.slice y2 es.length d2).ownBlock = some k) → k < PX) := fun k hk => by
    rw [← hPX]
    rcases hk with hk | hk
    · exact (HO.out.1.lt k hk).2
    · exact (HO.out.2.1.lt k hk).2
  clear HO
  have hb0P : b0 ≤ PX := by rw [← hPX]; exact hsz01
  have hbB : B < b0 := by omega
  have HPX : Hid (w.heap.size + 1 < PX) := by show _ < _; omega
  have c2_0 : w2.cell? ⟨PX, 0, none⟩ = some (.slice y1 ns.length d1) := by rw [cell_block BK2.out]; rfl
  have c2_1 : w2.cell? ⟨PX, 1, none⟩ = some (.slice y2 es.length d2) := by rw [cell_block BK2.out]; rfl
  have l2 : PX < w2.heap.size := lt_of_block BK2.out
  have f2 : ∀ o, w2.frozen? ⟨PX, o, none⟩ = false := fun o => free_block BK2.out
  go_wp2_with fail
  clear hWPX hPX c2_0 c2_1 l2 f2
  refine (pick B len cap a zs _ _ _ RD.out (by omega) (by omega) (by omega)).mono ?_
  rintro e w3 ⟨x, rfl, hx0, hx1, hr1, hg1⟩
  have HO3 : Hid (OwnGraph w3 b0 (.slice y1 ns.length d1) (.slice y2 es.length d2) ns es) := ⟨own_gr HO2.out.1 hg1 (fun k h e => by have := (HO2.out.1.lt k h).1; cases e; omega), own_gr HO2.out.2.1 hg1 (fun k h e => by have := (HO2.out.2.1.lt k h).1; cases e; omega), HO2.out.2.2⟩
  clear HO2
  have nGG : Hid (w.grownBy w3 (some B)) := grownBy_trans GG.out hg1
  have nRD : Hid (RdAt w3 B a len cap zs (pos + 1)) := hr1
  have nBK0 : Hid (w3.heap[w.heap.size]? = some (.cells #[.slice a1 ns.length c1, .slice a2 es.length c2] 26 (0, 0))) := by show _ = _; rw [hg1.block (w.heap.size) (lt_of_block BK0.out) (by simp; omega)]; exact BK0.out
  have nBK1 : Hid (w3.heap[w.heap.size + 1]? = some (.cells #[.slice none 0 0, .slice none 0 0] 26 (0, 0))) := by show _ = _; rw [hg1.block (w.heap.size + 1) (lt_of_block BK1.out) (by simp; omega)]; exact BK1.out
  have nBK2 : Hid (w3.heap[PX]? = some (.cells #[.slice y1 ns.length d1, .slice y2 es.length d2] 26 (0, 0))) := by show _ = _; rw [hg1.block (PX) (lt_of_block BK2.out) (by simp; omega)]; exact BK2.out
  clear GG RD BK0 BK1 BK2
  have GG := nGG
  have RD := nRD
  clear nGG nRD
  have BK0 := nBK0
  clear nBK0
  have BK1 := nBK1
  clear nBK1
  have BK2 := nBK2
  clear nBK2
  clear hg1 hr1
  have hxc : x = 0 ∨ x = 1 ∨ x = 2 ∨ x = 3 ∨ x = 4 ∨ x = 5 ∨ 5 < x := by omega
  rcases hxc with rfl | rfl | rfl | rfl | rfl | rfl | hx5
  · by_cases h0 : 0 < ns.length
    · have h0' : (0 : Int) < (ns.length : Int) := by omega
      obtain ⟨g, hy1, hgb, hcap⟩ : ∃ g, y1 = some ⟨g, 0, none⟩ ∧ b0 ≤ g ∧ ns.length ≤ d1 := by
        rcases HO3.out.1.2 with ⟨hv, hz⟩ | ⟨g, cp, cur, hv, hb, _, hcp, _⟩
        · exact absurd hz (by omega)
        · simp only [Value.slice.injEq] at hv
          exact ⟨g, hv.1, hb, by omega⟩
      subst hy1
      have hgP : g < PX := HLT.out g (.inl rfl)
      have hS : Hid (∀ w', w3.grownBy w' (some B) → w'.cell? ⟨PX, 0, none⟩ = some (.slice (some ⟨g, 0, none⟩) ns.length d1)) := fun w' h => by rw [World.cell?_of_block (h.block PX (lt_of_block BK2.out) (by simp; omega)), cell_block BK2.out]; rfl
      have hSf : Hid (∀ w' (j : Nat) u, w3.grownBy w' (some B) → (w'.setCell ⟨g, j * 2 + 1, none⟩ u).cell? ⟨PX, 0, none⟩ = some (.slice (some ⟨g, 0, none⟩) ns.length d1)) := fun w' j u h => by rw [World.cell?_setCell_far _ _ _ _ (by show g ≠ PX; omega)]; exact hS.out _ h
      have HRD0 : Hid (RdAt w3.drew B a len cap zs (pos + 1)) := RD.out
      have HRD1 : Hid (RdAt (w3.alloc (.cells #[.int .i64 (-1), .int .i64 41, .int .i64 39] 3)).drew B a len cap zs (pos + 1)) := RD.out.alloc _
      have c2_0 : w3.cell? ⟨PX, 0, none⟩ = some (.slice (some ⟨g, 0, none⟩) ns.length d1) := by rw [cell_block BK2.out]; rfl
      have c2_1 : w3.cell? ⟨PX, 1, none⟩ = some (.slice y2 es.length d2) := by rw [cell_block BK2.out]; rfl
      have l2 : PX < w3.heap.size := lt_of_block BK2.out
      have f2 : ∀ o, w3.frozen? ⟨PX, o, none⟩ = false := fun o => free_block BK2.out
      go_upto_region 7 with fail
      clear c2_0 c2_1 l2 f2
      go_region_held3 (fun w' => w'.cell? ⟨PX, 0, none⟩ = some (.slice (some ⟨g, 0, none⟩) ns.length d1))
        (first | with_reducible exact hS.out _ (gr_dr _ _) | with_reducible exact hS.out _ hg3 | with_reducible exact hS.out _ hg1 | with_reducible exact hSf.out _ _ _ hg3 | with_reducible exact hS.out _ (gr_ad _ _ _) | with_reducible exact hS.out _ (gr_da _ _ _) | with_reducible exact hS.out _ (grownBy_trans hg1 (World.grownBy_alloc _ _ _)))
        (first
          | (go_at_call 80; refine (pickN B len cap a zs (pos + 1) _ _ (by first | with_reducible exact HRD0.out | with_reducible exact HRD1.out) (by omega) (by omega) (by omega)).mono ?_; rintro e w4 ⟨j, rfl, hjn, hr1, hg1'⟩; have hg1 : w3.grownBy w4 (some B) := (by first | with_reducible exact gr_drew hg1' | with_reducible exact gr_al hg1'); have hj0 : (0 : Int) ≤ (j : Int) := (by omega); have hj1 : (j : Int) < (ns.length : Int) := (by omega); try (have hli := list_keep3 RD.out.lt hg1'))
          | (go_at_call 81; (first | (refine (num B w3.heap.size len cap a zs _ [-1, 41, 39] w4 hr1 (by omega) (by decide) (by decide) RD.out.lt (Nat.lt_of_lt_of_le (by simp) hg1'.size) hli).mono ?_; rintro e w5 ⟨jv, -, rfl, hr2, hg2⟩; obtain ⟨v, hv⟩ : ∃ v, v = ([-1, 41, 39] : List Int).getD jv 0 := ⟨_, rfl⟩; rw [← hv]; clear hv) | (refine (num_lit B _ len cap a zs _ [-1, 41, 39] w4 hr1 (by omega) (by decide) (by decide) rfl).mono ?_; rintro e w5 ⟨v, -, rfl, hr2, hg2⟩)); have hg3 := grownBy_trans hg1 hg2; have HG5 : Hid (OwnGraph w5 b0 (.slice (some ⟨g, 0, none⟩) ns.length d1) (.slice y2 es.length d2) ns es) := ⟨own_gr HO3.out.1 hg3 (fun k h e => by have := (HO3.out.1.lt k h).1; cases e; omega), own_gr HO3.out.2.1 hg3 (fun k h e => by have := (HO3.out.2.1.lt k h).1; cases e; omega), HO3.out.2.2⟩; have hfz : w5.frozen? ⟨g, j * 2 + 1, none⟩ = false := HG5.out.1.frozenAt (j * 2 + 1); obtain ⟨uu, hcl⟩ : ∃ u, w5.cell? ⟨g, j * 2 + 1, none⟩ = some u := own_cellN HG5.out.1 hjn; have hgl5 : g < w5.heap.size := (HG5.out.1.lt g rfl).2))
      all_goals (
        clear hS hSf hfz hcl hgl5 hj0 hj1
        have nGG : Hid (w.grownBy w5 (some B)) := grownBy_trans GG.out hg3
        have nRD : Hid (RdAt w5 B a len cap zs (pos + 1 + 1 + 1)) := hr2
        have nBK0 : Hid (w5.heap[w.heap.size]? = some (.cells #[.slice a1 ns.length c1, .slice a2 es.length c2] 26 (0, 0))) := by show _ = _; rw [hg3.block (w.heap.size) (lt_of_block BK0.out) (by simp; omega)]; exact BK0.out
        have nBK1 : Hid (w5.heap[w.heap.size + 1]? = some (.cells #[.slice none 0 0, .slice none 0 0] 26 (0, 0))) := by show _ = _; rw [hg3.block (w.heap.size + 1) (lt_of_block BK1.out) (by simp; omega)]; exact BK1.out
        have nBK2 : Hid (w5.heap[PX]? = some (.cells #[.slice (some ⟨g, 0, none⟩) ns.length d1, .slice y2 es.length d2] 26 (0, 0))) := by show _ = _; rw [hg3.block (PX) (lt_of_block BK2.out) (by simp; omega)]; exact BK2.out
        clear GG RD BK0 BK1 BK2
        have GG := nGG
        have RD := nRD
        clear nGG nRD
        have BK0 := nBK0
        clear nBK0
        have BK1 := nBK1
        clear nBK1
        have BK2 := nBK2
        clear nBK2
        clear hg3 hr2
        obtain ⟨x0, hx0⟩ : ∃ x, ns[j]? = some x := ⟨_, List.getElem?_eq_getElem hjn⟩
        have RN : Hid (RowAt 2 encNode (w5.setCell ⟨g, j * 2 + 1, none⟩ (.int .i64 v)) (.slice (some ⟨g, 0, none⟩) ns.length d1) (ns.set j (x0.1, v))) := row_set_num v HG5.out.nodes (by exact hx0)
        have RE : Hid (RowAt 5 encEdge (w5.setCell ⟨g, j * 2 + 1, none⟩ (.int .i64 v)) (.slice y2 es.length d2) es) := row_of_own encEdge_len (by decide) (own_set HG5.out.2.1 (HG5.out.2.2 g rfl) _)
        generalize hW : w5.setCell ⟨g, j * 2 + 1, none⟩ (.int .i64 v) = w6 at RN RE ⊢
        have nGG : Hid (w.grownBy w6 (some B)) := by show World.grownBy _ _ _; rw [← hW]; exact grownBy_setNew GG.out (by show w.heap.size ≤ g; omega) _
        have nRD : Hid (RdAt w6 B a len cap zs (pos + 1 + 1 + 1)) := by show RdAt _ _ _ _ _ _ _; rw [← hW]; exact RD.out.set (by show B < g; omega) _
        have nBK0 : Hid (w6.heap[w.heap.size]? = some (.cells #[.slice a1 ns.length c1, .slice a2 es.length c2] 26 (0, 0))) := by show _ = _; rw [← hW, Below.heap_setCell _ _ _ _ (by show _ ≠ g; omega)]; exact BK0.out
        have nBK1 : Hid (w6.heap[w.heap.size + 1]? = some (.cells #[.slice none 0 0, .slice none 0 0] 26 (0, 0))) := by show _ = _; rw [← hW, Below.heap_setCell _ _ _ _ (by show _ ≠ g; omega)]; exact BK1.out
        have nBK2 : Hid (w6.heap[PX]? = some (.cells #[.slice (some ⟨g, 0, none⟩) ns.length d1, .slice y2 es.length d2] 26 (0, 0))) := by show _ = _; rw [← hW, Below.heap_setCell _ _ _ _ (by show _ ≠ g; omega)]; exact BK2.out
        clear GG RD BK0 BK1 BK2
        have GG := nGG
        have RD := nRD
        clear nGG nRD
        have BK0 := nBK0
        clear nBK0
        have BK1 := nBK1
        clear nBK1
        have BK2 := nBK2
        clear nBK2
        clear hW
        have HOK2 : Hid (∀ x ∈ (ns.set j (x0.1, v)), okB x.1 = true) := set_ok HOK.out (by exact hx0)
        have c1_0 : w6.cell? ⟨w.heap.size + 1, 0, none⟩ = some (.slice none 0 0) := by rw [cell_block BK1.out]; rfl
        have c1_1 : w6.cell? ⟨w.heap.size + 1, 1, none⟩ = some (.slice none 0 0) := by rw [cell_block BK1.out]; rfl
        have l1 : w.heap.size + 1 < w6.heap.size := lt_of_block BK1.out
        have f1 : ∀ o, w6.frozen? ⟨w.heap.size + 1, o, none⟩ = false := fun o => free_block BK1.out
        have c2_0 : w6.cell? ⟨PX, 0, none⟩ = some (.slice (some ⟨g, 0, none⟩) ns.length d1) := by rw [cell_block BK2.out]; rfl
        have c2_1 : w6.cell? ⟨PX, 1, none⟩ = some (.slice y2 es.length d2) := by rw [cell_block BK2.out]; rfl
        have l2 : PX < w6.heap.size := lt_of_block BK2.out
        have f2 : ∀ o, w6.frozen? ⟨PX, o, none⟩ = false := fun o => free_block BK2.out
        go_wp2_with fail
        clear c1_0 c1_1 l1 f1 c2_0 c2_1 l2 f2
        try simp only [Exit.inBlock, Exit.then]
        refine bodyPost_ret (v := .agg #[.slice (some ⟨g, 0, none⟩) ns.length d1, .slice y2 es.length d2]) (by simp [*, cell_block BK1.out, results, Tryz.results67, go_sem]) rfl ?_
        unfold BentPost
        exact ⟨_, _, (ns.set j (x0.1, v)), es, _, rfl, row_set_box encNode_two (row_set_box encNode_two (RN.out) BK1.out 0 _) (set_block _ BK1.out) 1 _, row_set_box encEdge_two (row_set_box encEdge_two (RE.out) BK1.out 0 _) (set_block _ BK1.out) 1 _, by rw [List.length_set]; omega, by omega, HOK2.out, by omega, (RD.out.set (show B < w.heap.size + 1 by omega) _).set (show B < w.heap.size + 1 by omega) _, grownBy_setNew (grownBy_setNew GG.out (by simp) _) (by simp) _⟩)
    · have hz : ns.length = 0 := by omega
      have hz' : ¬ (0 : Int) < (ns.length : Int) := by omega
      have c1_0 : w3.cell? ⟨w.heap.size + 1, 0, none⟩ = some (.slice none 0 0) := by rw [cell_block BK1.out]; rfl
      have c1_1 : w3.cell? ⟨w.heap.size + 1, 1, none⟩ = some (.slice none 0 0) := by rw [cell_block BK1.out]; rfl
      have l1 : w.heap.size + 1 < w3.heap.size := lt_of_block BK1.out
      have f1 : ∀ o, w3.frozen? ⟨w.heap.size + 1, o, none⟩ = false := fun o => free_block BK1.out
      have c2_0 : w3.cell? ⟨PX, 0, none⟩ = some (.slice y1 ns.length d1) := by rw [cell_block BK2.out]; rfl
      have c2_1 : w3.cell? ⟨PX, 1, none⟩ = some (.slice y2 es.length d2) := by rw [cell_block BK2.out]; rfl
      have l2 : PX < w3.heap.size := lt_of_block BK2.out
      have f2 : ∀ o, w3.frozen? ⟨PX, o, none⟩ = false := fun o => free_block BK2.out
      go_wp2_with fail
      clear c1_0 c1_1 l1 f1 c2_0 c2_1 l2 f2
      try simp only [Exit.inBlock, Exit.then]
      refine bodyPost_ret (v := .agg #[.slice y1 ns.length d1, .slice y2 es.length d2]) (by simp [*, cell_block BK1.out, results, Tryz.results67, go_sem]) rfl ?_
      unfold BentPost
      exact ⟨_, _, ns, es, _, rfl, row_set_box encNode_two (row_set_box encNode_two (HO3.out.nodes) BK1.out 0 _) (set_block _ BK1.out) 1 _, row_set_box encEdge_two (row_set_box encEdge_two (HO3.out.edges) BK1.out 0 _) (set_block _ BK1.out) 1 _, by omega, by omega, HOK.out, by omega, (RD.out.set (show B < w.heap.size + 1 by omega) _).set (show B < w.heap.size + 1 by omega) _, grownBy_setNew (grownBy_setNew GG.out (by simp) _) (by simp) _⟩
  · by_cases h0 : 0 < ns.length
    · have h0' : (0 : Int) < (ns.length : Int) := by omega
      obtain ⟨g, hy1, hgb, hcap⟩ : ∃ g, y1 = some ⟨g, 0, none⟩ ∧ b0 ≤ g ∧ ns.length ≤ d1 := by
        rcases HO3.out.1.2 with ⟨hv, hz⟩ | ⟨g, cp, cur, hv, hb, _, hcp, _⟩
        · exact absurd hz (by omega)
        · simp only [Value.slice.injEq] at hv
          exact ⟨g, hv.1, hb, by omega⟩
      subst hy1
      obtain ⟨iN, jN, zN0, zN1, zN2⟩ := info_parts Tryz.infoNode
      have hgP : g < PX := HLT.out g (.inl rfl)
      have hgl : g < w3.heap.size := (HO3.out.1.lt g rfl).2
      obtain ⟨⟨m0, m1⟩, hx0⟩ : ∃ x, ns[0]? = some x := ⟨_, List.getElem?_eq_getElem h0⟩
      have HC0 : Hid (∀ t u, (encNode (m0, m1))[t]? = some u → w3.cell? ⟨g, t, none⟩ = some u) := fun t u hu => by
        rcases HO3.out.nodes with ⟨hz, _⟩ | ⟨_, b, off, cp, hv, _, hc⟩
        · rw [hz] at h0; simp at h0
        · simp only [Value.slice.injEq, Option.some.injEq, Addr.mk.injEq] at hv
          obtain ⟨⟨rfl, rfl, _⟩, _, _⟩ := hv
          have := hc 0 _ hx0 t u hu
          simpa using this
      have e0 : w3.cell? ⟨g, 0, none⟩ = some (.int .i64 m0) := HC0.out 0 _ rfl
      have e1 : w3.cell? ⟨g, 1, none⟩ = some (.int .i64 m1) := HC0.out 1 _ rfl
      have HNR : Hid (RowAt 2 encNode (w3.alloc (.cells #[.int .i64 m0, .int .i64 m1] 46)).drew (.slice (some ⟨w3.heap.size, 0, none⟩) 1 1) [(m0, m1)]) := (new_rowG (s := 2) (enc := encNode) w3 (m0, m1) 46).keep (Below.refl _ _).drew
      have HWB : Hid (Below w3.heap.size w3 (w3.alloc (.cells #[.int .i64 m0, .int .i64 m1] 46)).drew) := ((Below.refl _ _).alloc (Nat.le_refl _) _).drew
      have hb03 : b0 ≤ w3.heap.size := by omega
      have hPl : PX < w3.heap.size := lt_of_block BK2.out
      have hbw : w.heap.size + 1 < b0 := hbs
      have HX0 : Hid (ns[0]? = some (m0, m1)) := hx0
      clear hx0
      have c2_0 : w3.cell? ⟨PX, 0, none⟩ = some (.slice (some ⟨g, 0, none⟩) ns.length d1) := by rw [cell_block BK2.out]; rfl
      have c2_1 : w3.cell? ⟨PX, 1, none⟩ = some (.slice y2 es.length d2) := by rw [cell_block BK2.out]; rfl
      have l2 : PX < w3.heap.size := lt_of_block BK2.out
      have f2 : ∀ o, w3.frozen? ⟨PX, o, none⟩ = false := fun o => free_block BK2.out
      go_upto_region 10 with fail
      go_region_law
        (refine step_appRow encNode_len (by decide) encNode_one (by rfl) _ _ _ (by rfl) Tryz.underlying23 jN zN0 zN1 zN2 rfl b0 (.slice (some ⟨g, 0, none⟩) ns.length d1) ns.length _ (.slice (some ⟨w3.heap.size, 0, none⟩) 1 1) [(m0, m1)] (by rfl) (by rfl) ((HO3.out.1.alloc _).drew) HNR.out (by unfold maxLen; simp; omega) (by simp; omega) (by simp; omega) ?_; intro vv w4 ho hg ha; have hoo : w4.ownsRow b0 46 2 vv (ns.length + 1) (ns.flatMap encNode ++ [(m0, m1)].flatMap encNode) := ho; obtain ⟨y4, d4, rfl⟩ := own_form hoo; have bx4 : w4.heap[PX]? = some (.cells #[.slice (some ⟨g, 0, none⟩) ns.length d1, .slice y2 es.length d2] 26 (0, 0)) := (by rw [hg.block PX (by simp; omega) (by simp [Value.ownBlock]; omega), HWB.out.block PX hPl]; exact BK2.out); have bt4 : w4.cell? ⟨PX, 0, none⟩ = some (.slice (some ⟨g, 0, none⟩) ns.length d1) := (by rw [cell_block bx4]; rfl); have bf4 : ∀ o, w4.frozen? ⟨PX, o, none⟩ = false := (fun o => free_block bx4); have bl4 : PX < w4.heap.size := lt_of_block bx4; clear ho)
      clear c2_0 c2_1 l2 f2
      all_goals (
        have HB4 : Hid (Below b0 w3 w4) := (HWB.out.mono hb03).grown hg (by simp; omega) (fun k hk => (HO3.out.1.lt k hk).1)
        have HX4 : Hid (w4.heap[PX]? = some (.cells #[.slice (some ⟨g, 0, none⟩) ns.length d1, .slice y2 es.length d2] 26 (0, 0))) := bx4
        have RN4 : Hid (RowAt 2 encNode w4 (.slice y4 (ns.length + 1) d4) (ns ++ [(m0, m1)])) := by
          have h := row_of_own (enc := encNode) (xs := (ns ++ [(m0, m1)])) encNode_len (by decide) (w := w4) (base := b0) (e := 46) (v := .slice y4 (ns.length + 1) d4) (by rw [List.length_append, List.flatMap_append]; exact hoo)
          exact h
        have RE4 : Hid (RowAt 5 encEdge w4 (.slice y2 es.length d2) es) := row_of_own encEdge_len (by decide) (own_gr ((HO3.out.2.1.alloc _).drew) hg (fun k h e => by simp [Value.ownBlock] at e; subst e; exact HO3.out.2.2 _ rfl h))
        clear hoo hg ha bx4 bt4 bf4 bl4 HNR HWB e0 e1
        have nGG : Hid (w.grownBy w4 (some B)) := gr_low GG.out HB4.out (by omega)
        have nRD : Hid (RdAt w4 B a len cap zs (pos + 1)) := RD.out.below HB4.out hbB
        have nBK0 : Hid (w4.heap[w.heap.size]? = some (.cells #[.slice a1 ns.length c1, .slice a2 es.length c2] 26 (0, 0))) := (HB4.out.block _ (by omega)).trans BK0.out
        have nBK1 : Hid (w4.heap[w.heap.size + 1]? = some (.cells #[.slice none 0 0, .slice none 0 0] 26 (0, 0))) := (HB4.out.block _ (by omega)).trans BK1.out
        have nBK2 : Hid (w4.heap[PX]? = some (.cells #[.slice (some ⟨g, 0, none⟩) ns.length d1, .slice y2 es.length d2] 26 (0, 0))) := HX4.out
        clear GG RD BK0 BK1 BK2
        have GG := nGG
        have RD := nRD
        clear nGG nRD
        have BK0 := nBK0
        clear nBK0
        have BK1 := nBK1
        clear nBK1
        have BK2 := nBK2
        clear nBK2
        clear HX4 HB4
        generalize hW : (w4.setCell ⟨PX, 0, none⟩ (.slice y4 (ns.length + 1) d4)) = w6
        have RN : Hid (RowAt 2 encNode w6 (.slice y4 (ns.length + 1) d4) (ns ++ [(m0, m1)])) := by rw [← hW]; exact row_set_box encNode_two RN4.out BK2.out 0 _
        have RE : Hid (RowAt 5 encEdge w6 (.slice y2 es.length d2) es) := by rw [← hW]; exact row_set_box encEdge_two RE4.out BK2.out 0 _
        have nGG : Hid (w.grownBy w6 (some B)) := by show World.grownBy _ _ _; rw [← hW]; exact grownBy_setNew (GG.out) (by simp; omega) _
        have nRD : Hid (RdAt w6 B a len cap zs (pos + 1)) := by show RdAt _ _ _ _ _ _ _; rw [← hW]; exact RdAt.set (RD.out) (by simp; omega) _
        have nBK0 : Hid (w6.heap[w.heap.size]? = some (.cells #[.slice a1 ns.length c1, .slice a2 es.length c2] 26 (0, 0))) := by show _ = _; rw [← hW, Below.heap_setCell _ _ _ _ (by simp; omega)]; exact BK0.out
        have nBK1 : Hid (w6.heap[w.heap.size + 1]? = some (.cells #[.slice none 0 0, .slice none 0 0] 26 (0, 0))) := by show _ = _; rw [← hW, Below.heap_setCell _ _ _ _ (by simp; omega)]; exact BK1.out
        have nBK2 : Hid (w6.heap[PX]? = some (.cells #[.slice y4 (ns.length + 1) d4, .slice y2 es.length d2] 26 (0, 0))) := by show _ = _; rw [← hW]; exact set_block _ (BK2.out)
        clear GG RD BK0 BK1 BK2
        have GG := nGG
        have RD := nRD
        clear nGG nRD
        have BK0 := nBK0
        clear nBK0
        have BK1 := nBK1
        clear nBK1
        have BK2 := nBK2
        clear nBK2
        clear hW
        clear RN4 RE4
        have HOK2 : Hid (∀ x ∈ (ns ++ [(m0, m1)]), okB x.1 = true) := fun x hx => by
          rcases List.mem_append.1 hx with h | h
          · exact HOK.out x h
          · rw [List.mem_singleton.1 h]; exact HOK.out _ (List.mem_of_getElem? HX0.out)
        have c1_0 : w6.cell? ⟨w.heap.size + 1, 0, none⟩ = some (.slice none 0 0) := by rw [cell_block BK1.out]; rfl
        have c1_1 : w6.cell? ⟨w.heap.size + 1, 1, none⟩ = some (.slice none 0 0) := by rw [cell_block BK1.out]; rfl
        have l1 : w.heap.size + 1 < w6.heap.size := lt_of_block BK1.out
        have f1 : ∀ o, w6.frozen? ⟨w.heap.size + 1, o, none⟩ = false := fun o => free_block BK1.out
        have c2_0 : w6.cell? ⟨PX, 0, none⟩ = some (.slice y4 (ns.length + 1) d4) := by rw [cell_block BK2.out]; rfl
        have c2_1 : w6.cell? ⟨PX, 1, none⟩ = some (.slice y2 es.length d2) := by rw [cell_block BK2.out]; rfl
        have l2 : PX < w6.heap.size := lt_of_block BK2.out
        have f2 : ∀ o, w6.frozen? ⟨PX, o, none⟩ = false := fun o => free_block BK2.out
        go_wp2_with fail
        clear c1_0 c1_1 l1 f1 c2_0 c2_1 l2 f2
        try simp only [Exit.inBlock, Exit.then]
        refine bodyPost_ret (v := .agg #[.slice y4 (ns.length + 1) d4, .slice y2 es.length d2]) (by simp [*, cell_block BK1.out, results, Tryz.results67, go_sem]) rfl ?_
        unfold BentPost
        exact ⟨_, _, (ns ++ [(m0, m1)]), es, _, rfl, row_set_box encNode_two (row_set_box encNode_two (RN.out) BK1.out 0 _) (set_block _ BK1.out) 1 _, row_set_box encEdge_two (row_set_box encEdge_two (RE.out) BK1.out 0 _) (set_block _ BK1.out) 1 _, by simp, by omega, HOK2.out, by omega, (RD.out.set (show B < w.heap.size + 1 by omega) _).set (show B < w.heap.size + 1 by omega) _, grownBy_setNew (grownBy_setNew GG.out (by simp) _) (by simp) _⟩)
    · have hz : ns.length = 0 := by omega
      have hz' : ¬ (0 : Int) < (ns.length : Int) := by omega
      have c1_0 : w3.cell? ⟨w.heap.size + 1, 0, none⟩ = some (.slice none 0 0) := by rw [cell_block BK1.out]; rfl
      have c1_1 : w3.cell? ⟨w.heap.size + 1, 1, none⟩ = some (.slice none 0 0) := by rw [cell_block BK1.out]; rfl
      have l1 : w.heap.size + 1 < w3.heap.size := lt_of_block BK1.out
      have f1 : ∀ o, w3.frozen? ⟨w.heap.size + 1, o, none⟩ = false := fun o => free_block BK1.out
      have c2_0 : w3.cell? ⟨PX, 0, none⟩ = some (.slice y1 ns.length d1) := by rw [cell_block BK2.out]; rfl
      have c2_1 : w3.cell? ⟨PX, 1, none⟩ = some (.slice y2 es.length d2) := by rw [cell_block BK2.out]; rfl
      have l2 : PX < w3.heap.size := lt_of_block BK2.out
      have f2 : ∀ o, w3.frozen? ⟨PX, o, none⟩ = false := fun o => free_block BK2.out
      go_wp2_with fail
      clear c1_0 c1_1 l1 f1 c2_0 c2_1 l2 f2
      try simp only [Exit.inBlock, Exit.then]
      refine bodyPost_ret (v := .agg #[.slice y1 ns.length d1, .slice y2 es.length d2]) (by simp [*, cell_block BK1.out, results, Tryz.results67, go_sem]) rfl ?_
      unfold BentPost
      exact ⟨_, _, ns, es, _, rfl, row_set_box encNode_two (row_set_box encNode_two (HO3.out.nodes) BK1.out 0 _) (set_block _ BK1.out) 1 _, row_set_box encEdge_two (row_set_box encEdge_two (HO3.out.edges) BK1.out 0 _) (set_block _ BK1.out) 1 _, by omega, by omega, HOK.out, by omega, (RD.out.set (show B < w.heap.size + 1 by omega) _).set (show B < w.heap.size + 1 by omega) _, grownBy_setNew (grownBy_setNew GG.out (by simp) _) (by simp) _⟩
  · by_cases h0 : 0 < ns.length
    · have h0' : (0 : Int) < (ns.length : Int) := by omega
      obtain ⟨g, hy1, hgb, hcap⟩ : ∃ g, y1 = some ⟨g, 0, none⟩ ∧ b0 ≤ g ∧ ns.length ≤ d1 := by
        rcases HO3.out.1.2 with ⟨hv, hz⟩ | ⟨g, cp, cur, hv, hb, _, hcp, _⟩
        · exact absurd hz (by omega)
        · simp only [Value.slice.injEq] at hv
          exact ⟨g, hv.1, hb, by omega⟩
      subst hy1
      by_cases hd1 : d1 = 1
      · have hn1 : ns.length = 1 := by omega
        have c2_0 : w3.cell? ⟨PX, 0, none⟩ = some (.slice (some ⟨g, 0, none⟩) ns.length d1) := by rw [cell_block BK2.out]; rfl
        have c2_1 : w3.cell? ⟨PX, 1, none⟩ = some (.slice y2 es.length d2) := by rw [cell_block BK2.out]; rfl
        have l2 : PX < w3.heap.size := lt_of_block BK2.out
        have f2 : ∀ o, w3.frozen? ⟨PX, o, none⟩ = false := fun o => free_block BK2.out
        go_upto_region 25 with fail
        clear c2_0 c2_1 l2 f2
        generalize hW : (w3.setCell ⟨PX, 0, none⟩ (.slice (some ⟨g, 0, none⟩) 0 0)) = w4
        have RE : Hid (RowAt 5 encEdge w4 (.slice y2 es.length d2) es) := by rw [← hW]; exact row_set_box encEdge_two HO3.out.edges BK2.out 0 _
        have nGG : Hid (w.grownBy w4 (some B)) := by show World.grownBy _ _ _; rw [← hW]; exact grownBy_setNew (GG.out) (by simp; omega) _
        have nRD : Hid (RdAt w4 B a len cap zs (pos + 1)) := by show RdAt _ _ _ _ _ _ _; rw [← hW]; exact RdAt.set (RD.out) (by simp; omega) _
        have nBK0 : Hid (w4.heap[w.heap.size]? = some (.cells #[.slice a1 ns.length c1, .slice a2 es.length c2] 26 (0, 0))) := by show _ = _; rw [← hW, Below.heap_setCell _ _ _ _ (by simp; omega)]; exact BK0.out
        have nBK1 : Hid (w4.heap[w.heap.size + 1]? = some (.cells #[.slice none 0 0, .slice none 0 0] 26 (0, 0))) := by show _ = _; rw [← hW, Below.heap_setCell _ _ _ _ (by simp; omega)]; exact BK1.out
        have nBK2 : Hid (w4.heap[PX]? = some (.cells #[.slice (some ⟨g, 0, none⟩) 0 0, .slice y2 es.length d2] 26 (0, 0))) := by show _ = _; rw [← hW]; exact set_block _ (BK2.out)
        clear GG RD BK0 BK1 BK2
        have GG := nGG
        have RD := nRD
        clear nGG nRD
        have BK0 := nBK0
        clear nBK0
        have BK1 := nBK1
        clear nBK1
        have BK2 := nBK2
        clear nBK2
        clear hW
        have c1_0 : w4.cell? ⟨w.heap.size + 1, 0, none⟩ = some (.slice none 0 0) := by rw [cell_block BK1.out]; rfl
        have c1_1 : w4.cell? ⟨w.heap.size + 1, 1, none⟩ = some (.slice none 0 0) := by rw [cell_block BK1.out]; rfl
        have l1 : w.heap.size + 1 < w4.heap.size := lt_of_block BK1.out
        have f1 : ∀ o, w4.frozen? ⟨w.heap.size + 1, o, none⟩ = false := fun o => free_block BK1.out
        have c2_0 : w4.cell? ⟨PX, 0, none⟩ = some (.slice (some ⟨g, 0, none⟩) 0 0) := by rw [cell_block BK2.out]; rfl
        have c2_1 : w4.cell? ⟨PX, 1, none⟩ = some (.slice y2 es.length d2) := by rw [cell_block BK2.out]; rfl
        have l2 : PX < w4.heap.size := lt_of_block BK2.out
        have f2 : ∀ o, w4.frozen? ⟨PX, o, none⟩ = false := fun o => free_block BK2.out
        go_wp2_with fail
        clear c1_0 c1_1 l1 f1 c2_0 c2_1 l2 f2
        try simp only [Exit.inBlock, Exit.then]
        refine bodyPost_ret (v := .agg #[.slice (some ⟨g, 0, none⟩) 0 0, .slice y2 es.length d2]) (by simp [*, cell_block BK1.out, results, Tryz.results67, go_sem]) rfl ?_
        unfold BentPost
        exact ⟨_, _, [], es, _, rfl, row_set_box encNode_two (row_set_box encNode_two (.inl ⟨rfl, _, _, rfl⟩) BK1.out 0 _) (set_block _ BK1.out) 1 _, row_set_box encEdge_two (row_set_box encEdge_two (RE.out) BK1.out 0 _) (set_block _ BK1.out) 1 _, by simp, by omega, by simp, by omega, (RD.out.set (show B < w.heap.size + 1 by omega) _).set (show B < w.heap.size + 1 by omega) _, grownBy_setNew (grownBy_setNew GG.out (by simp) _) (by simp) _⟩
      · have hd1' : ¬ 1 = d1 := fun e => hd1 e.symm
        have c2_0 : w3.cell? ⟨PX, 0, none⟩ = some (.slice (some ⟨g, 0, none⟩) ns.length d1) := by rw [cell_block BK2.out]; rfl
        have c2_1 : w3.cell? ⟨PX, 1, none⟩ = some (.slice y2 es.length d2) := by rw [cell_block BK2.out]; rfl
        have l2 : PX < w3.heap.size := lt_of_block BK2.out
        have f2 : ∀ o, w3.frozen? ⟨PX, o, none⟩ = false := fun o => free_block BK2.out
        go_upto_region 25 with fail
        clear c2_0 c2_1 l2 f2
        generalize hW : (w3.setCell ⟨PX, 0, none⟩ (.slice (some ⟨g, 2, none⟩) (ns.length - 1) (d1 - 1))) = w4
        have RE : Hid (RowAt 5 encEdge w4 (.slice y2 es.length d2) es) := by rw [← hW]; exact row_set_box encEdge_two HO3.out.edges BK2.out 0 _
        have RN : Hid (RowAt 2 encNode w4 (.slice (some ⟨g, 2, none⟩) (ns.length - 1) (d1 - 1)) (ns.drop 1)) := by rw [← hW]; exact row_set_box encNode_two (row_tail _ HO3.out.nodes) BK2.out 0 _
        have nGG : Hid (w.grownBy w4 (some B)) := by show World.grownBy _ _ _; rw [← hW]; exact grownBy_setNew (GG.out) (by simp; omega) _
        have nRD : Hid (RdAt w4 B a len cap zs (pos + 1)) := by show RdAt _ _ _ _ _ _ _; rw [← hW]; exact RdAt.set (RD.out) (by simp; omega) _
        have nBK0 : Hid (w4.heap[w.heap.size]? = some (.cells #[.slice a1 ns.length c1, .slice a2 es.length c2] 26 (0, 0))) := by show _ = _; rw [← hW, Below.heap_setCell _ _ _ _ (by simp; omega)]; exact BK0.out
        have nBK1 : Hid (w4.heap[w.heap.size + 1]? = some (.cells #[.slice none 0 0, .slice none 0 0] 26 (0, 0))) := by show _ = _; rw [← hW, Below.heap_setCell _ _ _ _ (by simp; omega)]; exact BK1.out
        have nBK2 : Hid (w4.heap[PX]? = some (.cells #[.slice (some ⟨g, 2, none⟩) (ns.length - 1) (d1 - 1), .slice y2 es.length d2] 26 (0, 0))) := by show _ = _; rw [← hW]; exact set_block _ (BK2.out)
        clear GG RD BK0 BK1 BK2
        have GG := nGG
        have RD := nRD
        clear nGG nRD
        have BK0 := nBK0
        clear nBK0
        have BK1 := nBK1
        clear nBK1
        have BK2 := nBK2
        clear nBK2
        clear hW
        have c1_0 : w4.cell? ⟨w.heap.size + 1, 0, none⟩ = some (.slice none 0 0) := by rw [cell_block BK1.out]; rfl
        have c1_1 : w4.cell? ⟨w.heap.size + 1, 1, none⟩ = some (.slice none 0 0) := by rw [cell_block BK1.out]; rfl
        have l1 : w.heap.size + 1 < w4.heap.size := lt_of_block BK1.out
        have f1 : ∀ o, w4.frozen? ⟨w.heap.size + 1, o, none⟩ = false := fun o => free_block BK1.out
        have c2_0 : w4.cell? ⟨PX, 0, none⟩ = some (.slice (some ⟨g, 2, none⟩) (ns.length - 1) (d1 - 1)) := by rw [cell_block BK2.out]; rfl
        have c2_1 : w4.cell? ⟨PX, 1, none⟩ = some (.slice y2 es.length d2) := by rw [cell_block BK2.out]; rfl
        have l2 : PX < w4.heap.size := lt_of_block BK2.out
        have f2 : ∀ o, w4.frozen? ⟨PX, o, none⟩ = false := fun o => free_block BK2.out
        go_wp2_with fail
        clear c1_0 c1_1 l1 f1 c2_0 c2_1 l2 f2
        try simp only [Exit.inBlock, Exit.then]
        refine bodyPost_ret (v := .agg #[.slice (some ⟨g, 2, none⟩) (ns.length - 1) (d1 - 1), .slice y2 es.length d2]) (by simp [*, cell_block BK1.out, results, Tryz.results67, go_sem]) rfl ?_
        unfold BentPost
        exact ⟨_, _, ns.drop 1, es, _, rfl, row_set_box encNode_two (row_set_box encNode_two (RN.out) BK1.out 0 _) (set_block _ BK1.out) 1 _, row_set_box encEdge_two (row_set_box encEdge_two (RE.out) BK1.out 0 _) (set_block _ BK1.out) 1 _, by rw [List.length_drop]; omega, by omega, fun x hx => HOK.out x (List.mem_of_mem_drop hx), by omega, (RD.out.set (show B < w.heap.size + 1 by omega) _).set (show B < w.heap.size + 1 by omega) _, grownBy_setNew (grownBy_setNew GG.out (by simp) _) (by simp) _⟩
    · have hz : ns.length = 0 := by omega
      have hz' : ¬ (0 : Int) < (ns.length : Int) := by omega
      have c1_0 : w3.cell? ⟨w.heap.size + 1, 0, none⟩ = some (.slice none 0 0) := by rw [cell_block BK1.out]; rfl
      have c1_1 : w3.cell? ⟨w.heap.size + 1, 1, none⟩ = some (.slice none 0 0) := by rw [cell_block BK1.out]; rfl
      have l1 : w.heap.size + 1 < w3.heap.size := lt_of_block BK1.out
      have f1 : ∀ o, w3.frozen? ⟨w.heap.size + 1, o, none⟩ = false := fun o => free_block BK1.out
      have c2_0 : w3.cell? ⟨PX, 0, none⟩ = some (.slice y1 ns.length d1) := by rw [cell_block BK2.out]; rfl
      have c2_1 : w3.cell? ⟨PX, 1, none⟩ = some (.slice y2 es.length d2) := by rw [cell_block BK2.out]; rfl
      have l2 : PX < w3.heap.size := lt_of_block BK2.out
      have f2 : ∀ o, w3.frozen? ⟨PX, o, none⟩ = false := fun o => free_block BK2.out
      go_wp2_with fail
      clear c1_0 c1_1 l1 f1 c2_0 c2_1 l2 f2
      try simp only [Exit.inBlock, Exit.then]
      refine bodyPost_ret (v := .agg #[.slice y1 ns.length d1, .slice y2 es.length d2]) (by simp [*, cell_block BK1.out, results, Tryz.results67, go_sem]) rfl ?_
      unfold BentPost
      exact ⟨_, _, ns, es, _, rfl, row_set_box encNode_two (row_set_box encNode_two (HO3.out.nodes) BK1.out 0 _) (set_block _ BK1.out) 1 _, row_set_box encEdge_two (row_set_box encEdge_two (HO3.out.edges) BK1.out 0 _) (set_block _ BK1.out) 1 _, by omega, by omega, HOK.out, by omega, (RD.out.set (show B < w.heap.size + 1 by omega) _).set (show B < w.heap.size + 1 by omega) _, grownBy_setNew (grownBy_setNew GG.out (by simp) _) (by simp) _⟩
  · by_cases h0 : 0 < es.length
    · have h0' : (0 : Int) < (es.length : Int) := by omega
      obtain ⟨g, hy2, hgb, hcap⟩ : ∃ g, y2 = some ⟨g, 0, none⟩ ∧ b0 ≤ g ∧ es.length ≤ d2 := by
        rcases HO3.out.2.1.2 with ⟨hv, hz⟩ | ⟨g, cp, cur, hv, hb, _, hcp, _⟩
        · exact absurd hz (by omega)
        · simp only [Value.slice.injEq] at hv
          exact ⟨g, hv.1, hb, by omega⟩
      subst hy2
      have hgP : g < PX := HLT.out g (.inr rfl)
      have hS : Hid (∀ w', w3.grownBy w' (some B) → w'.cell? ⟨PX, 1, none⟩ = some (.slice (some ⟨g, 0, none⟩) es.length d2)) := fun w' h => by rw [World.cell?_of_block (h.block PX (lt_of_block BK2.out) (by simp; omega)), cell_block BK2.out]; rfl
      have hSf : Hid (∀ w' (j : Nat) u, w3.grownBy w' (some B) → (w'.setCell ⟨g, j * 5, none⟩ u).cell? ⟨PX, 1, none⟩ = some (.slice (some ⟨g, 0, none⟩) es.length d2)) := fun w' j u h => by rw [World.cell?_setCell_far _ _ _ _ (by show g ≠ PX; omega)]; exact hS.out _ h
      have HRD0 : Hid (RdAt w3.drew B a len cap zs (pos + 1)) := RD.out
      have HRD1 : Hid (RdAt (w3.alloc (.cells #[.int .i64 0, .int .i64 8, .int .i64 (-1), .int .i64 7] 3)).drew B a len cap zs (pos + 1)) := RD.out.alloc _
      have c2_0 : w3.cell? ⟨PX, 0, none⟩ = some (.slice y1 ns.length d1) := by rw [cell_block BK2.out]; rfl
      have c2_1 : w3.cell? ⟨PX, 1, none⟩ = some (.slice (some ⟨g, 0, none⟩) es.length d2) := by rw [cell_block BK2.out]; rfl
      have l2 : PX < w3.heap.size := lt_of_block BK2.out
      have f2 : ∀ o, w3.frozen? ⟨PX, o, none⟩ = false := fun o => free_block BK2.out
      go_upto_region 16 with fail
      clear c2_0 c2_1 l2 f2
      go_region_held3 (fun w' => w'.cell? ⟨PX, 1, none⟩ = some (.slice (some ⟨g, 0, none⟩) es.length d2))
        (first | with_reducible exact hS.out _ (gr_dr _ _) | with_reducible exact hS.out _ hg3 | with_reducible exact hS.out _ hg1 | with_reducible exact hSf.out _ _ _ hg3 | with_reducible exact hS.out _ (gr_ad _ _ _) | with_reducible exact hS.out _ (gr_da _ _ _) | with_reducible exact hS.out _ (grownBy_trans hg1 (World.grownBy_alloc _ _ _)))
        (first
          | (go_at_call 80; refine (pickN B len cap a zs (pos + 1) _ _ (by first | with_reducible exact HRD0.out | with_reducible exact HRD1.out) (by omega) (by omega) (by omega)).mono ?_; rintro e w4 ⟨j, rfl, hjn, hr1, hg1'⟩; have hg1 : w3.grownBy w4 (some B) := (by first | with_reducible exact gr_drew hg1' | with_reducible exact gr_al hg1'); have hj0 : (0 : Int) ≤ (j : Int) := (by omega); have hj1 : (j : Int) < (es.length : Int) := (by omega); try (have hli := list_keep4 RD.out.lt hg1'))
          | (go_at_call 81; (first | (refine (num B w3.heap.size len cap a zs _ [0, 8, -1, 7] w4 hr1 (by omega) (by decide) (by decide) RD.out.lt (Nat.lt_of_lt_of_le (by simp) hg1'.size) hli).mono ?_; rintro e w5 ⟨jv, -, rfl, hr2, hg2⟩; obtain ⟨v, hv⟩ : ∃ v, v = ([0, 8, -1, 7] : List Int).getD jv 0 := ⟨_, rfl⟩; rw [← hv]; clear hv) | (refine (num_lit B _ len cap a zs _ [0, 8, -1, 7] w4 hr1 (by omega) (by decide) (by decide) rfl).mono ?_; rintro e w5 ⟨v, -, rfl, hr2, hg2⟩)); have hg3 := grownBy_trans hg1 hg2; have HG5 : Hid (OwnGraph w5 b0 (.slice y1 ns.length d1) (.slice (some ⟨g, 0, none⟩) es.length d2) ns es) := ⟨own_gr HO3.out.1 hg3 (fun k h e => by have := (HO3.out.1.lt k h).1; cases e; omega), own_gr HO3.out.2.1 hg3 (fun k h e => by have := (HO3.out.2.1.lt k h).1; cases e; omega), HO3.out.2.2⟩; have hfz : w5.frozen? ⟨g, j * 5, none⟩ = false := HG5.out.2.1.frozenAt (j * 5); obtain ⟨uu, hcl⟩ : ∃ u, w5.cell? ⟨g, j * 5, none⟩ = some u := own_cellE HG5.out.2.1 hjn; have hgl5 : g < w5.heap.size := (HG5.out.2.1.lt g rfl).2))
      all_goals (
        clear hS hSf hfz hcl hgl5 hj0 hj1
        have nGG : Hid (w.grownBy w5 (some B)) := grownBy_trans GG.out hg3
        have nRD : Hid (RdAt w5 B a len cap zs (pos + 1 + 1 + 1)) := hr2
        have nBK0 : Hid (w5.heap[w.heap.size]? = some (.cells #[.slice a1 ns.length c1, .slice a2 es.length c2] 26 (0, 0))) := by show _ = _; rw [hg3.block (w.heap.size) (lt_of_block BK0.out) (by simp; omega)]; exact BK0.out
        have nBK1 : Hid (w5.heap[w.heap.size + 1]? = some (.cells #[.slice none 0 0, .slice none 0 0] 26 (0, 0))) := by show _ = _; rw [hg3.block (w.heap.size + 1) (lt_of_block BK1.out) (by simp; omega)]; exact BK1.out
        have nBK2 : Hid (w5.heap[PX]? = some (.cells #[.slice y1 ns.length d1, .slice (some ⟨g, 0, none⟩) es.length d2] 26 (0, 0))) := by show _ = _; rw [hg3.block (PX) (lt_of_block BK2.out) (by simp; omega)]; exact BK2.out
        clear GG RD BK0 BK1 BK2
        have GG := nGG
        have RD := nRD
        clear nGG nRD
        have BK0 := nBK0
        clear nBK0
        have BK1 := nBK1
        clear nBK1
        have BK2 := nBK2
        clear nBK2
        clear hg3 hr2
        obtain ⟨x0, hx0⟩ : ∃ x, es[j]? = some x := ⟨_, List.getElem?_eq_getElem hjn⟩
        have RE : Hid (RowAt 5 encEdge (w5.setCell ⟨g, j * 5, none⟩ (.int .i64 v)) (.slice (some ⟨g, 0, none⟩) es.length d2) (es.set j (v, x0.2))) := row_set_lab v HG5.out.edges hx0
        have RN : Hid (RowAt 2 encNode (w5.setCell ⟨g, j * 5, none⟩ (.int .i64 v)) (.slice y1 ns.length d1) ns) := row_of_own encNode_len (by decide) (own_set HG5.out.1 (fun e => HG5.out.2.2 g e rfl) _)
        generalize hW : w5.setCell ⟨g, j * 5, none⟩ (.int .i64 v) = w6 at RN RE ⊢
        have nGG : Hid (w.grownBy w6 (some B)) := by show World.grownBy _ _ _; rw [← hW]; exact grownBy_setNew GG.out (by show w.heap.size ≤ g; omega) _
        have nRD : Hid (RdAt w6 B a len cap zs (pos + 1 + 1 + 1)) := by show RdAt _ _ _ _ _ _ _; rw [← hW]; exact RD.out.set (by show B < g; omega) _
        have nBK0 : Hid (w6.heap[w.heap.size]? = some (.cells #[.slice a1 ns.length c1, .slice a2 es.length c2] 26 (0, 0))) := by show _ = _; rw [← hW, Below.heap_setCell _ _ _ _ (by show _ ≠ g; omega)]; exact BK0.out
        have nBK1 : Hid (w6.heap[w.heap.size + 1]? = some (.cells #[.slice none 0 0, .slice none 0 0] 26 (0, 0))) := by show _ = _; rw [← hW, Below.heap_setCell _ _ _ _ (by show _ ≠ g; omega)]; exact BK1.out
        have nBK2 : Hid (w6.heap[PX]? = some (.cells #[.slice y1 ns.length d1, .slice (some ⟨g, 0, none⟩) es.length d2] 26 (0, 0))) := by show _ = _; rw [← hW, Below.heap_setCell _ _ _ _ (by show _ ≠ g; omega)]; exact BK2.out
        clear GG RD BK0 BK1 BK2
        have GG := nGG
        have RD := nRD
        clear nGG nRD
        have BK0 := nBK0
        clear nBK0
        have BK1 := nBK1
        clear nBK1
        have BK2 := nBK2
        clear nBK2
        clear hW
        have c1_0 : w6.cell? ⟨w.heap.size + 1, 0, none⟩ = some (.slice none 0 0) := by rw [cell_block BK1.out]; rfl
        have c1_1 : w6.cell? ⟨w.heap.size + 1, 1, none⟩ = some (.slice none 0 0) := by rw [cell_block BK1.out]; rfl
        have l1 : w.heap.size + 1 < w6.heap.size := lt_of_block BK1.out
        have f1 : ∀ o, w6.frozen? ⟨w.heap.size + 1, o, none⟩ = false := fun o => free_block BK1.out
        have c2_0 : w6.cell? ⟨PX, 0, none⟩ = some (.slice y1 ns.length d1) := by rw [cell_block BK2.out]; rfl
        have c2_1 : w6.cell? ⟨PX, 1, none⟩ = some (.slice (some ⟨g, 0, none⟩) es.length d2) := by rw [cell_block BK2.out]; rfl
        have l2 : PX < w6.heap.size := lt_of_block BK2.out
        have f2 : ∀ o, w6.frozen? ⟨PX, o, none⟩ = false := fun o => free_block BK2.out
        go_wp2_with fail
        clear c1_0 c1_1 l1 f1 c2_0 c2_1 l2 f2
        try simp only [Exit.inBlock, Exit.then]
        refine bodyPost_ret (v := .agg #[.slice y1 ns.length d1, .slice (some ⟨g, 0, none⟩) es.length d2]) (by simp [*, cell_block BK1.out, results, Tryz.results67, go_sem]) rfl ?_
        unfold BentPost
        exact ⟨_, _, ns, (es.set j (v, x0.2)), _, rfl, row_set_box encNode_two (row_set_box encNode_two (RN.out) BK1.out 0 _) (set_block _ BK1.out) 1 _, row_set_box encEdge_two (row_set_box encEdge_two (RE.out) BK1.out 0 _) (set_block _ BK1.out) 1 _, by omega, by rw [List.length_set]; omega, HOK.out, by omega, (RD.out.set (show B < w.heap.size + 1 by omega) _).set (show B < w.heap.size + 1 by omega) _, grownBy_setNew (grownBy_setNew GG.out (by simp) _) (by simp) _⟩)
    · have hz : es.length = 0 := by omega
      have hz' : ¬ (0 : Int) < (es.length : Int) := by omega
      have c1_0 : w3.cell? ⟨w.heap.size + 1, 0, none⟩ = some (.slice none 0 0) := by rw [cell_block BK1.out]; rfl
      have c1_1 : w3.cell? ⟨w.heap.size + 1, 1, none⟩ = some (.slice none 0 0) := by rw [cell_block BK1.out]; rfl
      have l1 : w.heap.size + 1 < w3.heap.size := lt_of_block BK1.out
      have f1 : ∀ o, w3.frozen? ⟨w.heap.size + 1, o, none⟩ = false := fun o => free_block BK1.out
      have c2_0 : w3.cell? ⟨PX, 0, none⟩ = some (.slice y1 ns.length d1) := by rw [cell_block BK2.out]; rfl
      have c2_1 : w3.cell? ⟨PX, 1, none⟩ = some (.slice y2 es.length d2) := by rw [cell_block BK2.out]; rfl
      have l2 : PX < w3.heap.size := lt_of_block BK2.out
      have f2 : ∀ o, w3.frozen? ⟨PX, o, none⟩ = false := fun o => free_block BK2.out
      go_wp2_with fail
      clear c1_0 c1_1 l1 f1 c2_0 c2_1 l2 f2
      try simp only [Exit.inBlock, Exit.then]
      refine bodyPost_ret (v := .agg #[.slice y1 ns.length d1, .slice y2 es.length d2]) (by simp [*, cell_block BK1.out, results, Tryz.results67, go_sem]) rfl ?_
      unfold BentPost
      exact ⟨_, _, ns, es, _, rfl, row_set_box encNode_two (row_set_box encNode_two (HO3.out.nodes) BK1.out 0 _) (set_block _ BK1.out) 1 _, row_set_box encEdge_two (row_set_box encEdge_two (HO3.out.edges) BK1.out 0 _) (set_block _ BK1.out) 1 _, by omega, by omega, HOK.out, by omega, (RD.out.set (show B < w.heap.size + 1 by omega) _).set (show B < w.heap.size + 1 by omega) _, grownBy_setNew (grownBy_setNew GG.out (by simp) _) (by simp) _⟩
  · by_cases h0 : 0 < es.length
    · have h0' : (0 : Int) < (es.length : Int) := by omega
      obtain ⟨g, hy2, hgb, hcap⟩ : ∃ g, y2 = some ⟨g, 0, none⟩ ∧ b0 ≤ g ∧ es.length ≤ d2 := by
        rcases HO3.out.2.1.2 with ⟨hv, hz⟩ | ⟨g, cp, cur, hv, hb, _, hcp, _⟩
        · exact absurd hz (by omega)
        · simp only [Value.slice.injEq] at hv
          exact ⟨g, hv.1, hb, by omega⟩
      subst hy2
      obtain ⟨iN, jN, zN0, zN1, zN2⟩ := info_parts Tryz.infoEdge
      have hgP : g < PX := HLT.out g (.inr rfl)
      have hgl : g < w3.heap.size := (HO3.out.2.1.lt g rfl).2
      obtain ⟨⟨m0, m1, m2, m3, m4⟩, hx0⟩ : ∃ x, es[0]? = some x := ⟨_, List.getElem?_eq_getElem h0⟩
      have HC0 : Hid (∀ t u, (encEdge (m0, m1, m2, m3, m4))[t]? = some u → w3.cell? ⟨g, t, none⟩ = some u) := fun t u hu => by
        rcases HO3.out.edges with ⟨hz, _⟩ | ⟨_, b, off, cp, hv, _, hc⟩
        · rw [hz] at h0; simp at h0
        · simp only [Value.slice.injEq, Option.some.injEq, Addr.mk.injEq] at hv
          obtain ⟨⟨rfl, rfl, _⟩, _, _⟩ := hv
          have := hc 0 _ hx0 t u hu
          simpa using this
      have e0 : w3.cell? ⟨g, 0, none⟩ = some (.int .i64 m0) := HC0.out 0 _ rfl
      have e1 : w3.cell? ⟨g, 1, none⟩ = some (.int .i64 m1) := HC0.out 1 _ rfl
      have e2 : w3.cell? ⟨g, 2, none⟩ = some (.int .i64 m2) := HC0.out 2 _ rfl
      have e3 : w3.cell? ⟨g, 3, none⟩ = some (.int .i64 m3) := HC0.out 3 _ rfl
      have e4 : w3.cell? ⟨g, 4, none⟩ = some (.int .i64 m4) := HC0.out 4 _ rfl
      have HNR : Hid (RowAt 5 encEdge (w3.alloc (.cells #[.int .i64 m0, .int .i64 m1, .int .i64 m2, .int .i64 m3, .int .i64 m4] 48)).drew (.slice (some ⟨w3.heap.size, 0, none⟩) 1 1) [(m0, m1, m2, m3, m4)]) := (new_rowG (s := 5) (enc := encEdge) w3 (m0, m1, m2, m3, m4) 48).keep (Below.refl _ _).drew
      have HWB : Hid (Below w3.heap.size w3 (w3.alloc (.cells #[.int .i64 m0, .int .i64 m1, .int .i64 m2, .int .i64 m3, .int .i64 m4] 48)).drew) := ((Below.refl _ _).alloc (Nat.le_refl _) _).drew
      have hb03 : b0 ≤ w3.heap.size := by omega
      have hPl : PX < w3.heap.size := lt_of_block BK2.out
      have hbw : w.heap.size + 1 < b0 := hbs
      have HX0 : Hid (es[0]? = some (m0, m1, m2, m3, m4)) := hx0
      clear hx0
      have c2_0 : w3.cell? ⟨PX, 0, none⟩ = some (.slice y1 ns.length d1) := by rw [cell_block BK2.out]; rfl
      have c2_1 : w3.cell? ⟨PX, 1, none⟩ = some (.slice (some ⟨g, 0, none⟩) es.length d2) := by rw [cell_block BK2.out]; rfl
      have l2 : PX < w3.heap.size := lt_of_block BK2.out
      have f2 : ∀ o, w3.frozen? ⟨PX, o, none⟩ = false := fun o => free_block BK2.out
      go_upto_region 19 with fail
      go_region_law
        (refine step_appRow encEdge_len (by decide) encEdge_one (by rfl) _ _ _ (by rfl) Tryz.underlying24 jN zN0 zN1 zN2 rfl b0 (.slice (some ⟨g, 0, none⟩) es.length d2) es.length _ (.slice (some ⟨w3.heap.size, 0, none⟩) 1 1) [(m0, m1, m2, m3, m4)] (by rfl) (by rfl) ((HO3.out.2.1.alloc _).drew) HNR.out (by unfold maxLen; simp; omega) (by simp; omega) (by simp; omega) ?_; intro vv w4 ho hg ha; have hoo : w4.ownsRow b0 48 5 vv (es.length + 1) (es.flatMap encEdge ++ [(m0, m1, m2, m3, m4)].flatMap encEdge) := ho; obtain ⟨y4, d4, rfl⟩ := own_form hoo; have bx4 : w4.heap[PX]? = some (.cells #[.slice y1 ns.length d1, .slice (some ⟨g, 0, none⟩) es.length d2] 26 (0, 0)) := (by rw [hg.block PX (by simp; omega) (by simp [Value.ownBlock]; omega), HWB.out.block PX hPl]; exact BK2.out); have bt4 : w4.cell? ⟨PX, 1, none⟩ = some (.slice (some ⟨g, 0, none⟩) es.length d2) := (by rw [cell_block bx4]; rfl); have bf4 : ∀ o, w4.frozen? ⟨PX, o, none⟩ = false := (fun o => free_block bx4); have bl4 : PX < w4.heap.size := lt_of_block bx4; clear ho)
      clear c2_0 c2_1 l2 f2
      all_goals (
        have HB4 : Hid (Below b0 w3 w4) := (HWB.out.mono hb03).grown hg (by simp; omega) (fun k hk => (HO3.out.2.1.lt k hk).1)
        have HX4 : Hid (w4.heap[PX]? = some (.cells #[.slice y1 ns.length d1, .slice (some ⟨g, 0, none⟩) es.length d2] 26 (0, 0))) := bx4
        have RE4 : Hid (RowAt 5 encEdge w4 (.slice y4 (es.length + 1) d4) (es ++ [(m0, m1, m2, m3, m4)])) := by
          have h := row_of_own (enc := encEdge) (xs := (es ++ [(m0, m1, m2, m3, m4)])) encEdge_len (by decide) (w := w4) (base := b0) (e := 48) (v := .slice y4 (es.length + 1) d4) (by rw [List.length_append, List.flatMap_append]; exact hoo)
          exact h
        have RN4 : Hid (RowAt 2 encNode w4 (.slice y1 ns.length d1) ns) := row_of_own encNode_len (by decide) (own_gr ((HO3.out.1.alloc _).drew) hg (fun k h e => by simp [Value.ownBlock] at e; subst e; exact HO3.out.2.2 _ h rfl))
        clear hoo hg ha bx4 bt4 bf4 bl4 HNR HWB e0 e1 e2 e3 e4
        have nGG : Hid (w.grownBy w4 (some B)) := gr_low GG.out HB4.out (by omega)
        have nRD : Hid (RdAt w4 B a len cap zs (pos + 1)) := RD.out.below HB4.out hbB
        have nBK0 : Hid (w4.heap[w.heap.size]? = some (.cells #[.slice a1 ns.length c1, .slice a2 es.length c2] 26 (0, 0))) := (HB4.out.block _ (by omega)).trans BK0.out
        have nBK1 : Hid (w4.heap[w.heap.size + 1]? = some (.cells #[.slice none 0 0, .slice none 0 0] 26 (0, 0))) := (HB4.out.block _ (by omega)).trans BK1.out
        have nBK2 : Hid (w4.heap[PX]? = some (.cells #[.slice y1 ns.length d1, .slice (some ⟨g, 0, none⟩) es.length d2] 26 (0, 0))) := HX4.out
        clear GG RD BK0 BK1 BK2
        have GG := nGG
        have RD := nRD
        clear nGG nRD
        have BK0 := nBK0
        clear nBK0
        have BK1 := nBK1
        clear nBK1
        have BK2 := nBK2
        clear nBK2
        clear HX4 HB4
        generalize hW : (w4.setCell ⟨PX, 1, none⟩ (.slice y4 (es.length + 1) d4)) = w6
        have RN : Hid (RowAt 2 encNode w6 (.slice y1 ns.length d1) ns) := by rw [← hW]; exact row_set_box encNode_two RN4.out BK2.out 1 _
        have RE : Hid (RowAt 5 encEdge w6 (.slice y4 (es.length + 1) d4) (es ++ [(m0, m1, m2, m3, m4)])) := by rw [← hW]; exact row_set_box encEdge_two RE4.out BK2.out 1 _
        have nGG : Hid (w.grownBy w6 (some B)) := by show World.grownBy _ _ _; rw [← hW]; exact grownBy_setNew (GG.out) (by simp; omega) _
        have nRD : Hid (RdAt w6 B a len cap zs (pos + 1)) := by show RdAt _ _ _ _ _ _ _; rw [← hW]; exact RdAt.set (RD.out) (by simp; omega) _
        have nBK0 : Hid (w6.heap[w.heap.size]? = some (.cells #[.slice a1 ns.length c1, .slice a2 es.length c2] 26 (0, 0))) := by show _ = _; rw [← hW, Below.heap_setCell _ _ _ _ (by simp; omega)]; exact BK0.out
        have nBK1 : Hid (w6.heap[w.heap.size + 1]? = some (.cells #[.slice none 0 0, .slice none 0 0] 26 (0, 0))) := by show _ = _; rw [← hW, Below.heap_setCell _ _ _ _ (by simp; omega)]; exact BK1.out
        have nBK2 : Hid (w6.heap[PX]? = some (.cells #[.slice y1 ns.length d1, .slice y4 (es.length + 1) d4] 26 (0, 0))) := by show _ = _; rw [← hW]; exact set_block _ (BK2.out)
        clear GG RD BK0 BK1 BK2
        have GG := nGG
        have RD := nRD
        clear nGG nRD
        have BK0 := nBK0
        clear nBK0
        have BK1 := nBK1
        clear nBK1
        have BK2 := nBK2
        clear nBK2
        clear hW
        clear RN4 RE4
        have c1_0 : w6.cell? ⟨w.heap.size + 1, 0, none⟩ = some (.slice none 0 0) := by rw [cell_block BK1.out]; rfl
        have c1_1 : w6.cell? ⟨w.heap.size + 1, 1, none⟩ = some (.slice none 0 0) := by rw [cell_block BK1.out]; rfl
        have l1 : w.heap.size + 1 < w6.heap.size := lt_of_block BK1.out
        have f1 : ∀ o, w6.frozen? ⟨w.heap.size + 1, o, none⟩ = false := fun o => free_block BK1.out
        have c2_0 : w6.cell? ⟨PX, 0, none⟩ = some (.slice y1 ns.length d1) := by rw [cell_block BK2.out]; rfl
        have c2_1 : w6.cell? ⟨PX, 1, none⟩ = some (.slice y4 (es.length + 1) d4) := by rw [cell_block BK2.out]; rfl
        have l2 : PX < w6.heap.size := lt_of_block BK2.out
        have f2 : ∀ o, w6.frozen? ⟨PX, o, none⟩ = false := fun o => free_block BK2.out
        go_wp2_with fail
        clear c1_0 c1_1 l1 f1 c2_0 c2_1 l2 f2
        try simp only [Exit.inBlock, Exit.then]
        refine bodyPost_ret (v := .agg #[.slice y1 ns.length d1, .slice y4 (es.length + 1) d4]) (by simp [*, cell_block BK1.out, results, Tryz.results67, go_sem]) rfl ?_
        unfold BentPost
        exact ⟨_, _, ns, (es ++ [(m0, m1, m2, m3, m4)]), _, rfl, row_set_box encNode_two (row_set_box encNode_two (RN.out) BK1.out 0 _) (set_block _ BK1.out) 1 _, row_set_box encEdge_two (row_set_box encEdge_two (RE.out) BK1.out 0 _) (set_block _ BK1.out) 1 _, by omega, by simp, HOK.out, by omega, (RD.out.set (show B < w.heap.size + 1 by omega) _).set (show B < w.heap.size + 1 by omega) _, grownBy_setNew (grownBy_setNew GG.out (by simp) _) (by simp) _⟩)
    · have hz : es.length = 0 := by omega
      have hz' : ¬ (0 : Int) < (es.length : Int) := by omega
      have c1_0 : w3.cell? ⟨w.heap.size + 1, 0, none⟩ = some (.slice none 0 0) := by rw [cell_block BK1.out]; rfl
      have c1_1 : w3.cell? ⟨w.heap.size + 1, 1, none⟩ = some (.slice none 0 0) := by rw [cell_block BK1.out]; rfl
      have l1 : w.heap.size + 1 < w3.heap.size := lt_of_block BK1.out
      have f1 : ∀ o, w3.frozen? ⟨w.heap.size + 1, o, none⟩ = false := fun o => free_block BK1.out
      have c2_0 : w3.cell? ⟨PX, 0, none⟩ = some (.slice y1 ns.length d1) := by rw [cell_block BK2.out]; rfl
      have c2_1 : w3.cell? ⟨PX, 1, none⟩ = some (.slice y2 es.length d2) := by rw [cell_block BK2.out]; rfl
      have l2 : PX < w3.heap.size := lt_of_block BK2.out
      have f2 : ∀ o, w3.frozen? ⟨PX, o, none⟩ = false := fun o => free_block BK2.out
      go_wp2_with fail
      clear c1_0 c1_1 l1 f1 c2_0 c2_1 l2 f2
      try simp only [Exit.inBlock, Exit.then]
      refine bodyPost_ret (v := .agg #[.slice y1 ns.length d1, .slice y2 es.length d2]) (by simp [*, cell_block BK1.out, results, Tryz.results67, go_sem]) rfl ?_
      unfold BentPost
      exact ⟨_, _, ns, es, _, rfl, row_set_box encNode_two (row_set_box encNode_two (HO3.out.nodes) BK1.out 0 _) (set_block _ BK1.out) 1 _, row_set_box encEdge_two (row_set_box encEdge_two (HO3.out.edges) BK1.out 0 _) (set_block _ BK1.out) 1 _, by omega, by omega, HOK.out, by omega, (RD.out.set (show B < w.heap.size + 1 by omega) _).set (show B < w.heap.size + 1 by omega) _, grownBy_setNew (grownBy_setNew GG.out (by simp) _) (by simp) _⟩
  · have c0_0 : w3.cell? ⟨w.heap.size, 0, none⟩ = some (.slice a1 ns.length c1) := by rw [cell_block BK0.out]; rfl
    have c0_1 : w3.cell? ⟨w.heap.size, 1, none⟩ = some (.slice a2 es.length c2) := by rw [cell_block BK0.out]; rfl
    have l0 : w.heap.size < w3.heap.size := lt_of_block BK0.out
    have f0 : ∀ o, w3.frozen? ⟨w.heap.size, o, none⟩ = false := fun o => free_block BK0.out
    have c1_0 : w3.cell? ⟨w.heap.size + 1, 0, none⟩ = some (.slice none 0 0) := by rw [cell_block BK1.out]; rfl
    have c1_1 : w3.cell? ⟨w.heap.size + 1, 1, none⟩ = some (.slice none 0 0) := by rw [cell_block BK1.out]; rfl
    have l1 : w.heap.size + 1 < w3.heap.size := lt_of_block BK1.out
    have f1 : ∀ o, w3.frozen? ⟨w.heap.size + 1, o, none⟩ = false := fun o => free_block BK1.out
    have c2_0 : w3.cell? ⟨PX, 0, none⟩ = some (.slice y1 ns.length d1) := by rw [cell_block BK2.out]; rfl
    have c2_1 : w3.cell? ⟨PX, 1, none⟩ = some (.slice y2 es.length d2) := by rw [cell_block BK2.out]; rfl
    have l2 : PX < w3.heap.size := lt_of_block BK2.out
    have f2 : ∀ o, w3.frozen? ⟨PX, o, none⟩ = false := fun o => free_block BK2.out
    go_wp2_with fail
    clear c0_0 c0_1 l0 f0 c1_0 c1_1 l1 f1 c2_0 c2_1 l2 f2
    go_loopw [8] (fun i wr => ∃ (j : Nat) (u : Value) (ms : List Nd), i = .int .i64 j ∧ 30 ≤ j ∧ j ≤ 36 ∧ ms.length + 30 = ns.length + j ∧ (∀ x ∈ ms, okB x.1 = true) ∧ RdAt wr B a len cap zs (pos + 1) ∧ w.grownBy wr (some B) ∧ wr.heap[w.heap.size]? = some (.cells #[.slice a1 ns.length c1, .slice a2 es.length c2] 26 (0, 0)) ∧ wr.heap[w.heap.size + 1]? = some (.cells #[.slice none 0 0, .slice none 0 0] 26 (0, 0)) ∧ wr.heap[PX]? = some (.cells #[u, .slice y2 es.length d2] 26 (0, 0)) ∧ OwnGraph wr b0 u (.slice y2 es.length d2) ms es ∧ (∀ k, (u.ownBlock = some k ∨ (Value.slice y2 es.length d2).ownBlock = some k) → k ≠ PX)) (fun i _ => 36 - (intOf i).toNat)
    case atStart => exact ⟨30, .slice y1 ns.length d1, ns, rfl, by omega, by omega, by omega, HOK.out, RD.out, GG.out, BK0.out, BK1.out, BK2.out, HO3.out, fun k h => by have := HLT.out k h; omega⟩
    case round =>
      clear GG RD BK0 BK1 BK2 HO3 HLT
      obtain ⟨j, u, ms, rfl, hj0, hj1, hml, hmok, hrd, hgg, hb0', hb1', hb2', hog, hne⟩ := hrel
      obtain ⟨ua, uc, rfl⟩ := own_form hog.1
      have GG : Hid (w.grownBy wr (some B)) := hgg
      have RD : Hid (RdAt wr B a len cap zs (pos + 1)) := hrd
      have BK0 : Hid (wr.heap[w.heap.size]? = some (.cells #[.slice a1 ns.length c1, .slice a2 es.length c2] 26 (0, 0))) := hb0'
      have BK1 : Hid (wr.heap[w.heap.size + 1]? = some (.cells #[.slice none 0 0, .slice none 0 0] 26 (0, 0))) := hb1'
      have BK2 : Hid (wr.heap[PX]? = some (.cells #[.slice ua ms.length uc, .slice y2 es.length d2] 26 (0, 0))) := hb2'
      have HOG : Hid (OwnGraph wr b0 (.slice ua ms.length uc) (.slice y2 es.length d2) ms es) := hog
      have HMO : Hid (∀ x ∈ ms, okB x.1 = true) := hmok
      have HNE : Hid (∀ k, ((Value.slice ua ms.length uc).ownBlock = some k ∨ (Value.slice y2 es.length d2).ownBlock = some k) → k ≠ PX) := hne
      clear hrd hgg hb0' hb1' hb2' hog hmok hne
      by_cases hj : j < 36
      · have hj' : (j : Int) < 36 := by omega
        have hbr : b0 ≤ wr.heap.size := by have := lt_of_block BK2.out; omega
        have c2_0 : wr.cell? ⟨PX, 0, none⟩ = some (.slice ua ms.length uc) := by rw [cell_block BK2.out]; rfl
        have c2_1 : wr.cell? ⟨PX, 1, none⟩ = some (.slice y2 es.length d2) := by rw [cell_block BK2.out]; rfl
        have l2 : PX < wr.heap.size := lt_of_block BK2.out
        have f2 : ∀ o, wr.frozen? ⟨PX, o, none⟩ = false := fun o => free_block BK2.out
        go_wp2_with fail
        clear c2_0 c2_1 l2 f2
        refine (l2PutNode b0 es.length d2 y2 _ ms 5 (j : Int) wr HOG.out.1 hbr (by omega)).mono ?_
        rintro e w4 ⟨u', rfl, ho4, hbut, hu⟩
        obtain ⟨y4, d4, rfl⟩ := own_form ho4
        have hPr : PX < wr.heap.size := lt_of_block BK2.out
        have HB4 : Hid (Below b0 wr w4) := hbut.below (Below.refl _ _) hbr (fun k hk => (HOG.out.1.lt k hk).1)
        have HO4 : Hid (w4.ownsRow b0 46 2 (.slice y4 (insW (5, (j : Int)) ms).length d4) (insW (5, (j : Int)) ms).length ((insW (5, (j : Int)) ms).flatMap encNode)) := ho4
        have HE4 : Hid (w4.ownsRow b0 48 5 (.slice y2 es.length d2) es.length (es.flatMap encEdge)) := hbut.own HOG.out.2.1 (fun k h1 h2 => HOG.out.2.2 k h2 h1)
        have HN4 : Hid (∀ k, (Value.slice y4 (insW (5, (j : Int)) ms).length d4).ownBlock = some k → k ≠ PX ∧ (Value.slice y2 es.length d2).ownBlock ≠ some k) := fun k hk => by
          rcases hu with hu | ⟨k', hu, hk'⟩
          · rw [hu] at hk; exact ⟨HNE.out k (.inl hk), HOG.out.2.2 k hk⟩
          · rw [hu] at hk; cases hk; exact ⟨by omega, fun h => by have := (HOG.out.2.1.lt _ h).2; omega⟩
        have HX4 : Hid (w4.heap[PX]? = some (.cells #[.slice ua ms.length uc, .slice y2 es.length d2] 26 (0, 0))) := by show _ = _; rw [hbut.blk PX hPr (fun e => HNE.out PX (.inl e) rfl)]; exact BK2.out
        have hbw : w.heap.size + 1 < b0 := hbs
        have HIL : Hid ((insW (5, (j : Int)) ms).length = ms.length + 1) := insW_len (5, (j : Int)) ms
        have HMO2 : Hid (∀ x ∈ insW (5, (j : Int)) ms, okB x.1 = true) := fun x hx => by rcases mem_insW hx with rfl | h; rfl; exact HMO.out x h
        obtain ⟨ms2, hms2⟩ : ∃ t, t = insW (5, (j : Int)) ms := ⟨_, rfl⟩
        rw [← hms2] at HO4 HN4 HMO2 HIL ⊢
        clear ho4 hbut hu hms2
        have nGG : Hid (w.grownBy w4 (some B)) := gr_low GG.out HB4.out (by omega)
        have nRD : Hid (RdAt w4 B a len cap zs (pos + 1)) := RD.out.below HB4.out hbB
        have nBK0 : Hid (w4.heap[w.heap.size]? = some (.cells #[.slice a1 ns.length c1, .slice a2 es.length c2] 26 (0, 0))) := (HB4.out.block _ (by omega)).trans BK0.out
        have nBK1 : Hid (w4.heap[w.heap.size + 1]? = some (.cells #[.slice none 0 0, .slice none 0 0] 26 (0, 0))) := (HB4.out.block _ (by omega)).trans BK1.out
        have nBK2 : Hid (w4.heap[PX]? = some (.cells #[.slice ua ms.length uc, .slice y2 es.length d2] 26 (0, 0))) := HX4.out
        clear GG RD BK0 BK1 BK2
        have GG := nGG
        have RD := nRD
        clear nGG nRD
        have BK0 := nBK0
        clear nBK0
        have BK1 := nBK1
        clear nBK1
        have BK2 := nBK2
        clear nBK2
        clear HX4 HB4
        have c2_0 : w4.cell? ⟨PX, 0, none⟩ = some (.slice ua ms.length uc) := by rw [cell_block BK2.out]; rfl
        have c2_1 : w4.cell? ⟨PX, 1, none⟩ = some (.slice y2 es.length d2) := by rw [cell_block BK2.out]; rfl
        have l2 : PX < w4.heap.size := lt_of_block BK2.out
        have f2 : ∀ o, w4.frozen? ⟨PX, o, none⟩ = false := fun o => free_block BK2.out
        go_upto_region 23 with fail
        clear c2_0 c2_1 l2 f2
        generalize hW : ((w4.setCell ⟨PX, 0, none⟩ (.slice y4 ms2.length d4)).setCell ⟨PX, 1, none⟩ (.slice y2 es.length d2)) = w6
        have HOG6 : Hid (OwnGraph w6 b0 (.slice y4 ms2.length d4) (.slice y2 es.length d2) ms2 es) := by rw [← hW]; exact ⟨own_set (own_set HO4.out (fun e => (HN4.out _ e).1 rfl) _) (fun e => (HN4.out _ e).1 rfl) _, own_set (own_set HE4.out (fun e => HNE.out _ (.inr e) rfl) _) (fun e => HNE.out _ (.inr e) rfl) _, fun k h => (HN4.out k h).2⟩
        have nGG : Hid (w.grownBy w6 (some B)) := by show World.grownBy _ _ _; rw [← hW]; exact grownBy_setNew (grownBy_setNew (GG.out) (by simp; omega) _) (by simp; omega) _
        have nRD : Hid (RdAt w6 B a len cap zs (pos + 1)) := by show RdAt _ _ _ _ _ _ _; rw [← hW]; exact RdAt.set (RdAt.set (RD.out) (by simp; omega) _) (by simp; omega) _
        have nBK0 : Hid (w6.heap[w.heap.size]? = some (.cells #[.slice a1 ns.length c1, .slice a2 es.length c2] 26 (0, 0))) := by show _ = _; rw [← hW, Below.heap_setCell _ _ _ _ (by simp; omega), Below.heap_setCell _ _ _ _ (by simp; omega)]; exact BK0.out
        have nBK1 : Hid (w6.heap[w.heap.size + 1]? = some (.cells #[.slice none 0 0, .slice none 0 0] 26 (0, 0))) := by show _ = _; rw [← hW, Below.heap_setCell _ _ _ _ (by simp; omega), Below.heap_setCell _ _ _ _ (by simp; omega)]; exact BK1.out
        have nBK2 : Hid (w6.heap[PX]? = some (.cells #[.slice y4 ms2.length d4, .slice y2 es.length d2] 26 (0, 0))) := by show _ = _; rw [← hW]; exact set_block _ (set_block _ (BK2.out))
        clear GG RD BK0 BK1 BK2
        have GG := nGG
        have RD := nRD
        clear nGG nRD
        have BK0 := nBK0
        clear nBK0
        have BK1 := nBK1
        clear nBK1
        have BK2 := nBK2
        clear nBK2
        clear hW
        have HNE6 : Hid (∀ k, ((Value.slice y4 ms2.length d4).ownBlock = some k ∨ (Value.slice y2 es.length d2).ownBlock = some k) → k ≠ PX) := fun k h => by
          rcases h with h | h
          · exact (HN4.out k h).1
          · exact HNE.out k (.inr h)
        clear HO4 HE4 HN4 HOG HMO HNE
        go_wp2_with fail
        go_roundw
        case rel => exact ⟨j + 1, _, ms2, by go_num, by omega, by omega, by rw [HIL.out]; omega, HMO2.out, RD.out, GG.out, BK0.out, BK1.out, BK2.out, HOG6.out, HNE6.out⟩
        case measure => simp [intOf]; omega
      · have hj' : ¬ (j : Int) < 36 := by omega
        have c1_0 : wr.cell? ⟨w.heap.size + 1, 0, none⟩ = some (.slice none 0 0) := by rw [cell_block BK1.out]; rfl
        have c1_1 : wr.cell? ⟨w.heap.size + 1, 1, none⟩ = some (.slice none 0 0) := by rw [cell_block BK1.out]; rfl
        have l1 : w.heap.size + 1 < wr.heap.size := lt_of_block BK1.out
        have f1 : ∀ o, wr.frozen? ⟨w.heap.size + 1, o, none⟩ = false := fun o => free_block BK1.out
        have c2_0 : wr.cell? ⟨PX, 0, none⟩ = some (.slice ua ms.length uc) := by rw [cell_block BK2.out]; rfl
        have c2_1 : wr.cell? ⟨PX, 1, none⟩ = some (.slice y2 es.length d2) := by rw [cell_block BK2.out]; rfl
        have l2 : PX < wr.heap.size := lt_of_block BK2.out
        have f2 : ∀ o, wr.frozen? ⟨PX, o, none⟩ = false := fun o => free_block BK2.out
        go_wp2_with fail
        clear c1_0 c1_1 l1 f1 c2_0 c2_1 l2 f2
        try simp only [Exit.inBlock, Exit.then]
        refine bodyPost_ret (v := .agg #[.slice ua ms.length uc, .slice y2 es.length d2]) (by simp [*, cell_block BK1.out, results, Tryz.results67, go_sem]) rfl ?_
        unfold BentPost
        exact ⟨_, _, ms, es, _, rfl, row_set_box encNode_two (row_set_box encNode_two (HOG.out.nodes) BK1.out 0 _) (set_block _ BK1.out) 1 _, row_set_box encEdge_two (row_set_box encEdge_two (HOG.out.edges) BK1.out 0 _) (set_block _ BK1.out) 1 _, by omega, by omega, HMO.out, by omega, (RD.out.set (show B < w.heap.size + 1 by omega) _).set (show B < w.heap.size + 1 by omega) _, grownBy_setNew (grownBy_setNew GG.out (by simp) _) (by simp) _⟩
  · have hz0 : (x == 0) = false := by simp only [beq_eq_false_iff_ne, ne_eq]; omega
    have hz1 : (x == 1) = false := by simp only [beq_eq_false_iff_ne, ne_eq]; omega
    have hz2 : (x == 2) = false := by simp only [beq_eq_false_iff_ne, ne_eq]; omega
    have hz3 : (x == 3) = false := by simp only [beq_eq_false_iff_ne, ne_eq]; omega
    have hz4 : (x == 4) = false := by simp only [beq_eq_false_iff_ne, ne_eq]; omega
    have hz5 : (x == 5) = false := by simp only [beq_eq_false_iff_ne, ne_eq]; omega
    clear hx5 hx0 hx1
    have c1_0 : w3.cell? ⟨w.heap.size + 1, 0, none⟩ = some (.slice none 0 0) := by rw [cell_block BK1.out]; rfl
    have c1_1 : w3.cell? ⟨w.heap.size + 1, 1, none⟩ = some (.slice none 0 0) := by rw [cell_block BK1.out]; rfl
    have l1 : w.heap.size + 1 < w3.heap.size := lt_of_block BK1.out
    have f1 : ∀ o, w3.frozen? ⟨w.heap.size + 1, o, none⟩ = false := fun o => free_block BK1.out
    have c2_0 : w3.cell? ⟨PX, 0, none⟩ = some (.slice y1 ns.length d1) := by rw [cell_block BK2.out]; rfl
    have c2_1 : w3.cell? ⟨PX, 1, none⟩ = some (.slice y2 es.length d2) := by rw [cell_block BK2.out]; rfl
    have l2 : PX < w3.heap.size := lt_of_block BK2.out
    have f2 : ∀ o, w3.frozen? ⟨PX, o, none⟩ = false := fun o => free_block BK2.out
    go_wp2_with fail
    clear c1_0 c1_1 l1 f1 c2_0 c2_1 l2 f2
    try simp only [Exit.inBlock, Exit.then]
    refine bodyPost_ret (v := .agg #[.slice y1 ns.length d1, .slice y2 es.length d2]) (by simp [*, cell_block BK1.out, results, Tryz.results67, go_sem]) rfl ?_
    unfold BentPost
    exact ⟨_, _, ns, es, _, rfl, row_set_box encNode_two (row_set_box encNode_two (HO3.out.nodes) BK1.out 0 _) (set_block _ BK1.out) 1 _, row_set_box encEdge_two (row_set_box encEdge_two (HO3.out.edges) BK1.out 0 _) (set_block _ BK1.out) 1 _, by omega, by omega, HOK.out, by omega, (RD.out.set (show B < w.heap.size + 1 by omega) _).set (show B < w.heap.size + 1 by omega) _, grownBy_setNew (grownBy_setNew GG.out (by simp) _) (by simp) _⟩
end Go.Proofs.YtlnpbfeihjfnjaaGreatDoor.Lab

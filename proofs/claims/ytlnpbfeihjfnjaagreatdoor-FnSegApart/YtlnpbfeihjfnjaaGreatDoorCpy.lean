/-
  A graph in new memory: spec.l2Copy.
-/
import Derived.Test.YtlnpbfeihjfnjaaGreatDoorApp
import Derived.Test.YtlnpbfeihjfnjaaGreatDoorMrk
import Derived.Deep.RegionHeld3
import Derived.Deep.DrawnRows
namespace Go.Proofs.YtlnpbfeihjfnjaaGreatDoor.Lab
open Go.RowKit
set_option linter.unusedVariables false
theorem newC {w : World} {o : Obj} {S : Nat} (h : S = w.heap.size) : (w.alloc o).heap[S]? = some o := by subst h; exact new_block w o
theorem own_empty {w : World} {base e size B : Nat} (h : w.heap[B]? = some (.cells #[] e (0, 0))) (hb : base ≤ B) : w.ownsRow base e size (.slice (some ⟨B, 0, none⟩) 0 0) 0 [] := ⟨by simp, .inr ⟨B, 0, #[], rfl, hb, h, Nat.le_refl _, by unfold maxLen; omega, by simp, by simp⟩⟩
theorem copyOwn {b : Nat} {w3 W w7 : World} {v3 v7 : Value} {r : Option Nat} {ns : List (Int × Int)} {es : List (Int × Int × Int × Int × Int)} (h3 : w3.ownsRow b 46 2 v3 (0 + ns.length) ([] ++ ns.flatMap encNode)) (hW : Below w3.heap.size w3 W) (hg : W.grownBy w7 r) (hne : ∀ k, v3.ownBlock = some k → r ≠ some k)
    (h7 : w7.ownsRow b 48 5 v7 (0 + es.length) ([] ++ es.flatMap encEdge)) (ha : v7.ownBlock = r ∨ v7.ownBlock = some W.heap.size) : OwnGraph w7 b v3 v7 ns es := by
  rw [Nat.zero_add, List.nil_append] at h3 h7
  refine ⟨own_grown (own_keep h3 hW) hg hne, h7, fun k hk e => ?_⟩
  have h1 := (h3.lt k hk).2
  have h2 := hW.size
  rcases ha with h | h
  · exact hne k hk (h ▸ e)
  · rw [e] at h; have := Option.some.inj h; omega
theorem buildG (x y : Option Addr) (n c m d : Nat) (w : World) : (Instr.build 26 #[(0, .slice x n c), (1, .slice y m d)]).run Tryz.prog w = .ok (.agg #[.slice x n c, .slice y m d]) w := by
  simp [go_sem]
set_option maxRecDepth 8000 in
set_option maxHeartbeats 8000000 in
theorem l2Copy_walk (a1 a2 : Option Addr) (n m c1 c2 : Nat) (ns : List (Int × Int)) (es : List (Int × Int × Int × Int × Int)) (w : World) (h1 : RowAt 2 encNode w (.slice a1 n c1) ns) (h2 : RowAt 5 encEdge w (.slice a2 m c2) es) (hN : n = ns.length) (hM : m = es.length) (hn : n ≤ 1048576) (hm : m ≤ 1048576) :
    Calls Tryz.prog 73 #[.agg #[.slice a1 n c1, .slice a2 m c2]] w fun e w' => ∃ u1 u2, e = .returned (.agg #[u1, u2]) ∧ OwnGraph w' w.heap.size u1 u2 ns es ∧ Below w.heap.size w w' := by
  have H1 : Hid (RowAt 2 encNode w (.slice a1 n c1) ns) := h1
  have H2 : Hid (RowAt 5 encEdge w (.slice a2 m c2) es) := h2
  have HN0 : Hid (n = ns.length) := hN
  have HN1 : Hid (m = es.length) := hM
  clear h1 h2 hN hM
  obtain ⟨iN, jN, zN0, zN1, zN2⟩ := info_parts Tryz.infoNode
  obtain ⟨iE, jE, zE0, zE1, zE2⟩ := info_parts Tryz.infoEdge
  obtain ⟨W0, hW0⟩ : ∃ W0, W0 = (w.alloc (.cells #[.slice a1 n c1, .slice a2 m c2] 26)).alloc (.cells #[.slice none 0 0, .slice none 0 0] 26) := ⟨_, rfl⟩
  have b0 : Below w.heap.size w W0 := by rw [hW0]; go_grown
  have z0 : W0.heap.size = w.heap.size + 2 := by rw [hW0]; simp
  have G0 : W0.cell? ⟨w.heap.size, 0, none⟩ = some (.slice a1 n c1) := by rw [hW0]; simp [go_sem]
  have G1 : W0.cell? ⟨w.heap.size, 1, none⟩ = some (.slice a2 m c2) := by rw [hW0]; simp [go_sem]
  have Q0 : W0.cell? ⟨w.heap.size + 1, 0, none⟩ = some (.slice none 0 0) := by rw [hW0]; simp [go_sem]
  have Q1 : W0.cell? ⟨w.heap.size + 1, 1, none⟩ = some (.slice none 0 0) := by rw [hW0]; simp [go_sem]
  have QF : ∀ o, W0.frozen? ⟨w.heap.size + 1, o, none⟩ = false := fun o => by rw [hW0]; simp [go_sem]
  have HB0 : Hid (Below w.heap.size w W0) := b0
  have HW0 : Hid (W0 = (w.alloc (.cells #[.slice a1 n c1, .slice a2 m c2] 26)).alloc (.cells #[.slice none 0 0, .slice none 0 0] 26)) := hW0
  have z1 : w.heap.size < W0.heap.size := by omega
  have z2 : w.heap.size + 1 < W0.heap.size := by omega
  clear b0 hW0 z0
  go_enter Tryz.func73, Tryz.ntmps73
  go_wp2_with fail
  rw [← HW0.out]
  clear HW0
  have HRW : Hid (∀ W, Below (w.heap.size + 1) W0 W → RowAt 2 encNode W (.slice a1 n c1) ns ∧ RowAt 5 encEdge W (.slice a2 m c2) es) := fun W h => ⟨H1.out.keep (HB0.out.trans (h.mono (by omega))), H2.out.keep (HB0.out.trans (h.mono (by omega)))⟩
  have nl : ns.length = n := HN0.out.symm
  have el : es.length = m := HN1.out.symm
  have hS : Hid (∀ w', Below (w.heap.size + 1) W0 w' → Below (w.heap.size + 1) W0 w' ∧ w'.cell? ⟨w.heap.size, 0, none⟩ = some (.slice a1 n c1) ∧ w'.cell? ⟨w.heap.size, 1, none⟩ = some (.slice a2 m c2)) := fun w' hn => ⟨hn, (Below.celz hn _ _ _ (by omega)).trans G0, (Below.celz hn _ _ _ (by omega)).trans G1⟩
  have z3 : w.heap.size + 1 ≤ W0.heap.size := by omega
  go_region_held3 (fun w' => Below (w.heap.size + 1) W0 w' ∧ w'.cell? ⟨w.heap.size, 0, none⟩ = some (.slice a1 n c1) ∧ w'.cell? ⟨w.heap.size, 1, none⟩ = some (.slice a2 m c2))
    (first | with_reducible exact hS.out _ (Below.refl _ _).drew | with_reducible exact hS.out _ (Below.alloc (And.left (by assumption)) (Nat.le_trans z3 (Below.size (And.left (by assumption)))) _) | with_reducible exact hS.out _ (Below.mono B7 z3) | with_reducible exact hS.out _ (Below.mono B3 z3) | exact hS.out _ (Below.setCell (Below.setCell (Below.mono B7 z3) (Nat.le_refl _) _) (Nat.le_refl _) _))
    (first
      | (refine step_appRow encNode_len (by decide) encNode_one (by rfl) _ _ _ (by rfl) Tryz.underlying23 jN zN0 zN1 zN2 rfl W0.heap.size _ 0 [] (.slice a1 n c1) ns (by rfl) (by rfl) (own_empty (B := W0.heap.size) (heap_alloc_new W0 _) (Nat.le_refl _)) (HRW.out _ (And.left (by assumption))).1 (by unfold maxLen; omega) (by omega) (Below.size (And.left (by assumption))) ?_; intro v3 w3 ho3 hg3 ha3; have B3 : Below W0.heap.size W0 w3 := (by first | exact (((Below.refl _ _).alloc (Nat.le_refl _) _).drew).grown hg3 (by simp) (fun k hk => by simp [Value.ownBlock] at hk; omega) | exact ((((Below.refl _ _).alloc (Nat.le_refl _) _).alloc (by simp) _).drew).grown hg3 (by simp; omega) (fun k hk => by simp [Value.ownBlock] at hk; omega)); obtain ⟨x3, y3, rfl⟩ := own_form ho3)
      | (refine step_appRow encNode_len (by decide) encNode_one (by rfl) _ _ _ (by rfl) Tryz.underlying23 jN zN0 zN1 zN2 rfl W0.heap.size _ 0 [] (.slice a1 n c1) ns (by rfl) (by rfl) (own_empty (B := W0.heap.size) ((heap_alloc_old (W0.alloc _) _ (by simp)).trans (heap_alloc_new W0 _)) (Nat.le_refl _)) (HRW.out _ (And.left (by assumption))).1 (by unfold maxLen; omega) (by omega) (Below.size (And.left (by assumption))) ?_; intro v3 w3 ho3 hg3 ha3; have B3 : Below W0.heap.size W0 w3 := (by first | exact (((Below.refl _ _).alloc (Nat.le_refl _) _).drew).grown hg3 (by simp) (fun k hk => by simp [Value.ownBlock] at hk; omega) | exact ((((Below.refl _ _).alloc (Nat.le_refl _) _).alloc (by simp) _).drew).grown hg3 (by simp; omega) (fun k hk => by simp [Value.ownBlock] at hk; omega)); obtain ⟨x3, y3, rfl⟩ := own_form ho3)
      | (refine step_appRow encNode_len (by decide) encNode_one (by rfl) _ _ _ (by rfl) Tryz.underlying23 jN zN0 zN1 zN2 rfl W0.heap.size _ 0 [] (.slice a1 n c1) ns (by rfl) (by rfl) (own_empty (B := W0.heap.size + 1) (newC (by simp)) (by omega)) (HRW.out _ (And.left (by assumption))).1 (by unfold maxLen; omega) (by omega) (Below.size (And.left (by assumption))) ?_; intro v3 w3 ho3 hg3 ha3; have B3 : Below W0.heap.size W0 w3 := (by first | exact (((Below.refl _ _).alloc (Nat.le_refl _) _).drew).grown hg3 (by simp) (fun k hk => by simp [Value.ownBlock] at hk; omega) | exact ((((Below.refl _ _).alloc (Nat.le_refl _) _).alloc (by simp) _).drew).grown hg3 (by simp; omega) (fun k hk => by simp [Value.ownBlock] at hk; omega)); obtain ⟨x3, y3, rfl⟩ := own_form ho3)
      | (refine step_appRow encEdge_len (by decide) encEdge_one (by rfl) _ _ _ (by rfl) Tryz.underlying24 jE zE0 zE1 zE2 rfl W0.heap.size _ 0 [] (.slice a2 m c2) es (by rfl) (by rfl) (own_empty (B := w3.heap.size) (heap_alloc_new w3 _) (Below.size B3)) (HRW.out _ (And.left (by assumption))).2 (by unfold maxLen; omega) (by omega) (Below.size (And.left (by assumption))) ?_; intro v7 w7 ho7 hg7 ha7; have B7 : Below W0.heap.size W0 w7 := (by first | exact (B3.alloc (Below.size B3) _).grown hg7 (by have := Below.size B3; simp; omega) (fun k hk => by simp [Value.ownBlock] at hk; have := Below.size B3; omega) | exact B3.grown hg7 (Below.size B3) (fun k hk => by simp [Value.ownBlock] at hk; omega)); obtain ⟨x7, y7, rfl⟩ := own_form ho7; have q70 : w7.cell? ⟨w.heap.size + 1, 0, none⟩ = some (.slice none 0 0) := (Below.celz B7 _ _ _ z2).trans Q0; have q71 : w7.cell? ⟨w.heap.size + 1, 1, none⟩ = some (.slice none 0 0) := (Below.celz B7 _ _ _ z2).trans Q1; have qf7 : ∀ o, w7.frozen? ⟨w.heap.size + 1, o, none⟩ = false := fun o => (Below.froz B7 _ _ _ z2).trans (QF o))
      | (refine step_appRow encEdge_len (by decide) encEdge_one (by rfl) _ _ _ (by rfl) Tryz.underlying24 jE zE0 zE1 zE2 rfl W0.heap.size _ 0 [] (.slice a2 m c2) es (by rfl) (by rfl) (own_empty (B := W0.heap.size + 1) ((hg3.block _ (by simp) (by simp [Value.ownBlock])).trans (newC (by simp))) (by omega)) (HRW.out _ (And.left (by assumption))).2 (by unfold maxLen; omega) (by omega) (Below.size (And.left (by assumption))) ?_; intro v7 w7 ho7 hg7 ha7; have B7 : Below W0.heap.size W0 w7 := (by first | exact (B3.alloc (Below.size B3) _).grown hg7 (by have := Below.size B3; simp; omega) (fun k hk => by simp [Value.ownBlock] at hk; have := Below.size B3; omega) | exact B3.grown hg7 (Below.size B3) (fun k hk => by simp [Value.ownBlock] at hk; omega)); obtain ⟨x7, y7, rfl⟩ := own_form ho7; have q70 : w7.cell? ⟨w.heap.size + 1, 0, none⟩ = some (.slice none 0 0) := (Below.celz B7 _ _ _ z2).trans Q0; have q71 : w7.cell? ⟨w.heap.size + 1, 1, none⟩ = some (.slice none 0 0) := (Below.celz B7 _ _ _ z2).trans Q1; have qf7 : ∀ o, w7.frozen? ⟨w.heap.size + 1, o, none⟩ = false := fun o => (Below.froz B7 _ _ _ z2).trans (QF o))
      | (refine step_appRow encEdge_len (by decide) encEdge_one (by rfl) _ _ _ (by rfl) Tryz.underlying24 jE zE0 zE1 zE2 rfl W0.heap.size _ 0 [] (.slice a2 m c2) es (by rfl) (by rfl) (own_empty (B := W0.heap.size) ((hg3.block _ (by simp; omega) (by simp [Value.ownBlock])).trans ((heap_alloc_old (W0.alloc _) _ (by simp)).trans (heap_alloc_new W0 _))) (Nat.le_refl _)) (HRW.out _ (And.left (by assumption))).2 (by unfold maxLen; omega) (by omega) (Below.size (And.left (by assumption))) ?_; intro v7 w7 ho7 hg7 ha7; have B7 : Below W0.heap.size W0 w7 := (by first | exact (B3.alloc (Below.size B3) _).grown hg7 (by have := Below.size B3; simp; omega) (fun k hk => by simp [Value.ownBlock] at hk; have := Below.size B3; omega) | exact B3.grown hg7 (Below.size B3) (fun k hk => by simp [Value.ownBlock] at hk; omega)); obtain ⟨x7, y7, rfl⟩ := own_form ho7; have q70 : w7.cell? ⟨w.heap.size + 1, 0, none⟩ = some (.slice none 0 0) := (Below.celz B7 _ _ _ z2).trans Q0; have q71 : w7.cell? ⟨w.heap.size + 1, 1, none⟩ = some (.slice none 0 0) := (Below.celz B7 _ _ _ z2).trans Q1; have qf7 : ∀ o, w7.frozen? ⟨w.heap.size + 1, o, none⟩ = false := fun o => (Below.froz B7 _ _ _ z2).trans (QF o)))
  all_goals (
    have HZ : Hid (OwnGraph w7 W0.heap.size (.slice x3 (0 + ns.length) y3) (.slice x7 (0 + es.length) y7) ns es) := by
      first
        | exact copyOwn ho3 (Below.refl _ _) hg7 (fun k hk e => by first | (have := (ho3.lt k hk).2; simp [Value.ownBlock] at e; omega) | (rcases ha3 with h | h <;> (rw [hk] at h; simp [Value.ownBlock] at h e; omega))) ho7 ha7
        | exact copyOwn ho3 ((Below.refl _ _).alloc (Nat.le_refl _) _) hg7 (fun k hk e => by first | (have := (ho3.lt k hk).2; simp [Value.ownBlock] at e; omega) | (rcases ha3 with h | h <;> (rw [hk] at h; simp [Value.ownBlock] at h e; omega))) ho7 ha7
    have HB7 : Hid (Below W0.heap.size W0 w7) := B7
    have s7 : w.heap.size + 1 < w7.heap.size := by have := B7.size; omega
    clear ho3 ho7 hg3 hg7 ha3 ha7 B3 B7
    go_wp2_with fail
    refine bodyPost_ret (v := .agg #[.slice x3 (0 + ns.length) y3, .slice x7 (0 + es.length) y7]) (by simp [*, results, Tryz.results73, go_sem]) rfl ?_
    obtain ⟨f1, f2, f3⟩ := HZ.out
    refine ⟨_, _, rfl, ⟨?_, ?_, f3⟩, ?_⟩
    · exact own_mono (ownsRow_setCell_below (ownsRow_setCell_below f1 (by simp; omega) _) (by simp; omega) _) (by omega)
    · exact own_mono (ownsRow_setCell_below (ownsRow_setCell_below f2 (by simp; omega) _) (by simp; omega) _) (by omega)
    · exact ((HB0.out.trans (HB7.out.mono (by omega))).setCell (by simp) _).setCell (by simp) _)
theorem l2Copy (v1 v2 : Value) (ns : List (Int × Int)) (es : List (Int × Int × Int × Int × Int)) (w : World) (h1 : RowAt 2 encNode w v1 ns) (h2 : RowAt 5 encEdge w v2 es) (l1 : ns.length ≤ 1048576) (l2 : es.length ≤ 1048576) :
    Calls Tryz.prog 73 #[.agg #[v1, v2]] w fun e w' => ∃ u1 u2, e = .returned (.agg #[u1, u2]) ∧ OwnGraph w' w.heap.size u1 u2 ns es ∧ Below w.heap.size w w' := by
  obtain ⟨a1, c1, rfl⟩ := h1.len
  obtain ⟨a2, c2, rfl⟩ := h2.len
  exact l2Copy_walk a1 a2 _ _ c1 c2 ns es w h1 h2 rfl rfl l1 l2
end Go.Proofs.YtlnpbfeihjfnjaaGreatDoor.Lab

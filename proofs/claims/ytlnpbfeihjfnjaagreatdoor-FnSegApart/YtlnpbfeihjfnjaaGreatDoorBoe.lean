/-
  Contract of impl's book: an edge put in.
-/
import Derived.Test.YtlnpbfeihjfnjaaGreatDoorBop
namespace Go.Proofs.YtlnpbfeihjfnjaaGreatDoor.Lab
open Go.RowKit Go.ChangeMaps
set_option linter.unusedVariables false
/-- What lies in a map of edges. -/
def EdgeVals (es : List (Int × Value)) : Prop := ∀ k v, lkp es k = some v → ∃ x y z s t : Int, v = .agg #[.int .i64 x, .int .i64 y, .int .i64 z, .int .i64 s, .int .i64 t]
/-- Where putEdge stands: the argument in its box, the book, the error variables. -/
structure EB (w w1 : World) (b mn me k : Nat) (al an bl bn : Int) (ns es : List (Int × Value)) (cn ce : Nat → Int) (t2 : TypeId) (v2 : Value) (t3 : TypeId) (v3 : Value) : Prop where
  bel : Below w.heap.size w w1
  s1 : w.heap.size < w1.heap.size
  a0 : w1.cell? ⟨w.heap.size, 0, none⟩ = some (.int .i64 k)
  a1 : w1.cell? ⟨w.heap.size, 1, none⟩ = some (.int .i64 al)
  a2 : w1.cell? ⟨w.heap.size, 2, none⟩ = some (.int .i64 an)
  a3 : w1.cell? ⟨w.heap.size, 3, none⟩ = some (.int .i64 bl)
  a4 : w1.cell? ⟨w.heap.size, 4, none⟩ = some (.int .i64 bn)
  bk : BookAt w1 b mn me ns es cn ce
  e2 : w1.cell? ⟨3, 0, none⟩ = some (.iface t2 v2)
  e3 : w1.cell? ⟨2, 0, none⟩ = some (.iface t3 v3)
theorem EB.keep {w w1 w2 : World} {b mn me k : Nat} {al an bl bn : Int} {ns es : List (Int × Value)} {cn ce : Nat → Int} {t2 : TypeId} {v2 : Value} {t3 : TypeId} {v3 : Value} (h : EB w w1 b mn me k al an bl bn ns es cn ce t2 v2 t3 v3) (hb : Below w1.heap.size w1 w2) : EB w w2 b mn me k al an bl bn ns es cn ce t2 v2 t3 v3 := by
  have hc := Below.celz hb
  exact ⟨keep_below h.bel hb, Nat.lt_of_lt_of_le h.s1 hb.size, (hc _ _ _ h.s1).trans h.a0, (hc _ _ _ h.s1).trans h.a1, (hc _ _ _ h.s1).trans h.a2, (hc _ _ _ h.s1).trans h.a3, (hc _ _ _ h.s1).trans h.a4, h.bk.keep hb, (hc _ _ _ (cell_lt h.e2)).trans h.e2, (hc _ _ _ (cell_lt h.e3)).trans h.e3⟩
set_option maxRecDepth 8000 in
set_option maxHeartbeats 4000000 in
theorem putEdgeC (b mn me k : Nat) (al an bl bn : Int) (ns es : List (Int × Value)) (cn ce : Nat → Int) (w : World) (hk : k < 8) (h : BookAt w b mn me ns es cn ce) (hv : NodeVals ns) (hu : EdgeVals es) (hc0 : 0 ≤ ce k)
    (t1 : TypeId) (v1 : Value) (g1 : w.cell? ⟨1, 0, none⟩ = some (.iface t1 v1)) (t2 : TypeId) (v2 : Value) (g2 : w.cell? ⟨3, 0, none⟩ = some (.iface t2 v2)) (t3 : TypeId) (v3 : Value) (g3 : w.cell? ⟨2, 0, none⟩ = some (.iface t3 v3)) :
    Calls Tryz.prog 88 #[.pointer (some ⟨b, 0, none⟩), .agg #[.int .i64 k, .int .i64 al, .int .i64 an, .int .i64 bl, .int .i64 bn]] w fun e w' =>
      ((lkp es (ecodeI k al an bl bn) = none ∧ (lkp ns (codeI al an)).isSome = true ∧ (lkp ns (codeI bl bn)).isSome = true ∧ ce k < 7) ∧ e = .returned .nilIface ∧ BookAt w' b mn me ns (es ++ [(ecodeI k al an bl bn, .agg #[.int .i64 k, .int .i64 al, .int .i64 an, .int .i64 bl, .int .i64 bn])]) cn (bump ce k) ∧ Two b me w w')
      ∨ ((∃ v, lkp es (ecodeI k al an bl bn) = some v) ∧ e = .returned (.iface t1 v1) ∧ Below w.heap.size w w')
      ∨ (lkp es (ecodeI k al an bl bn) = none ∧ ¬ ((lkp ns (codeI al an)).isSome = true ∧ (lkp ns (codeI bl bn)).isSome = true) ∧ e = .returned (.iface t3 v3) ∧ Below w.heap.size w w')
      ∨ ((lkp es (ecodeI k al an bl bn) = none ∧ (lkp ns (codeI al an)).isSome = true ∧ (lkp ns (codeI bl bn)).isSome = true ∧ 7 ≤ ce k) ∧ e = .returned (.iface t2 v2) ∧ Below w.heap.size w w') := by
  have hl := cell_lt h.n0
  have hme := h.em.lt
  have bb : Below w.heap.size w (w.alloc (Obj.cells #[Value.int IntKind.i64 ↑k, Value.int IntKind.i64 al, Value.int IntKind.i64 an, Value.int IntKind.i64 bl, Value.int IntKind.i64 bn] 48)) := (Below.refl _ _).alloc (Nat.le_refl _) _
  have l1 := cell_lt g1
  have l2 := cell_lt g2
  have l3 := cell_lt g3
  go_enter Tryz.func88, Tryz.ntmps88
  go_wp2_with fail
  refine (hasEdge b me k al an bl bn es _ (h.keep bb).e0 (by simp; omega) (h.keep bb).em hu).mono ?_
  rintro e w1 ⟨rfl, bel⟩
  have B1 : Below w.heap.size w w1 := bb.trans (bel.mono (by simp))
  have s1 : w.heap.size < w1.heap.size := by have := bel.size; simp at this; omega
  have a0 : w1.cell? ⟨w.heap.size, 0, none⟩ = some (.int .i64 k) := by rw [Below.celz bel _ _ _ (by simp)]; simp [go_sem]
  have a1 : w1.cell? ⟨w.heap.size, 1, none⟩ = some (.int .i64 al) := by rw [Below.celz bel _ _ _ (by simp)]; simp [go_sem]
  have a2 : w1.cell? ⟨w.heap.size, 2, none⟩ = some (.int .i64 an) := by rw [Below.celz bel _ _ _ (by simp)]; simp [go_sem]
  have a3 : w1.cell? ⟨w.heap.size, 3, none⟩ = some (.int .i64 bl) := by rw [Below.celz bel _ _ _ (by simp)]; simp [go_sem]
  have a4 : w1.cell? ⟨w.heap.size, 4, none⟩ = some (.int .i64 bn) := by rw [Below.celz bel _ _ _ (by simp)]; simp [go_sem]
  have H1 := h.keep B1
  have p0 := H1.n0
  have p1 := H1.e0
  have p2 := H1.ec k hk
  have e1 : w1.cell? ⟨1, 0, none⟩ = some (.iface t1 v1) := (Below.celz B1 _ _ _ l1).trans g1
  have e2 : w1.cell? ⟨3, 0, none⟩ = some (.iface t2 v2) := (Below.celz B1 _ _ _ l2).trans g2
  have e3 : w1.cell? ⟨2, 0, none⟩ = some (.iface t3 v3) := (Below.celz B1 _ _ _ l3).trans g3
  have i0 : (0 : Int) ≤ k := by omega
  have i1 : (k : Int) < 8 := by omega
  clear bel bb g1 g2 g3
  cases hn : lkp es (ecodeI k al an bl bn) with
  | some v =>
    simp only [Option.isSome_some]
    go_wp2_with fail
    go_ret
    exact .inr (.inl ⟨⟨_, hn⟩, rfl, B1⟩)
  | none =>
    simp only [Option.isSome_none]
    have E1 : Hid (EB w w1 b mn me k al an bl bn ns es cn ce t2 v2 t3 v3) := ⟨B1, s1, a0, a1, a2, a3, a4, H1, e2, e3⟩
    go_wp2_with fail
    refine (hasNode b mn al an ns _ H1.n0 (by omega) H1.nm hv).mono ?_
    rintro e w2 ⟨rfl, bel⟩
    have E2 : Hid (EB w w2 b mn me k al an bl bn ns es cn ce t2 v2 t3 v3) := E1.out.keep bel
    clear a0 a1 a2 a3 a4 H1 e1 e2 e3 p0 p1 p2 E1 bel B1 s1
    cases hA : (lkp ns (codeI al an)).isSome
    · have e3 := E2.out.e3
      go_wp2_with fail
      go_ret
      exact .inr (.inr (.inl ⟨hn, (fun hx => by rw [hA] at hx; cases hx.1), rfl, E2.out.bel⟩))
    have a1 := E2.out.a1
    have a2 := E2.out.a2
    have a3 := E2.out.a3
    have a4 := E2.out.a4
    go_wp2_with fail
    refine (hasNode b mn bl bn ns _ E2.out.bk.n0 (by have := E2.out.s1; omega) E2.out.bk.nm hv).mono ?_
    rintro e w3 ⟨rfl, bel⟩
    have E3 : Hid (EB w w3 b mn me k al an bl bn ns es cn ce t2 v2 t3 v3) := E2.out.keep bel
    clear a1 a2 a3 a4 E2 bel
    cases hB : (lkp ns (codeI bl bn)).isSome
    · have e3 := E3.out.e3
      go_wp2_with fail
      go_ret
      exact .inr (.inr (.inl ⟨hn, (fun hx => by rw [hB] at hx; cases hx.2), rfl, E3.out.bel⟩))
    have a0 := E3.out.a0
    have p2 := E3.out.bk.ec k hk
    by_cases hc : 7 ≤ ce k
    · have e2 := E3.out.e2
      go_wp2_with fail
      go_region_held3 (fun w' => w' = w3.drew ∧ w'.cell? ⟨w.heap.size, 0, none⟩ = some (.int .i64 k) ∧ w'.cell? ⟨b, 10 + k, none⟩ = some (.int .i64 (ce k)))
        (first | exact ⟨rfl, E3.out.a0, p2⟩ | assumption)
        (fail)
      rename_i hHeld
      clear hHeld
      go_wp2_with fail
      go_ret
      exact .inr (.inr (.inr ⟨⟨hn, hA, hB, hc⟩, rfl, E3.out.bel.drew⟩))
    · go_wp2_with fail
      go_region_held3 (fun w' => w' = w3.drew ∧ w'.cell? ⟨w.heap.size, 0, none⟩ = some (.int .i64 k) ∧ w'.cell? ⟨b, 10 + k, none⟩ = some (.int .i64 (ce k)))
        (first | exact ⟨rfl, E3.out.a0, p2⟩ | assumption)
        (fail)
      rename_i hHeld
      clear hHeld
      go_wp2_with fail
      have s1 := E3.out.s1
      have nb := E3.out.bk.ne2
      have p1 := E3.out.bk.e0
      have a1 := E3.out.a1
      have a2 := E3.out.a2
      have a3 := E3.out.a3
      have a4 := E3.out.a4
      have hS : Hid (∀ w' : World, (∀ o s, w'.cell? ⟨b, o, s⟩ = w3.cell? ⟨b, o, s⟩) → (∀ o s, w'.cell? ⟨w.heap.size, o, s⟩ = w3.cell? ⟨w.heap.size, o, s⟩) → w'.cell? ⟨b, 1, none⟩ = some (.map (some me)) ∧ w'.cell? ⟨w.heap.size, 0, none⟩ = some (.int .i64 k) ∧ w'.cell? ⟨w.heap.size, 1, none⟩ = some (.int .i64 al) ∧ w'.cell? ⟨w.heap.size, 2, none⟩ = some (.int .i64 an) ∧ w'.cell? ⟨w.heap.size, 3, none⟩ = some (.int .i64 bl) ∧ w'.cell? ⟨w.heap.size, 4, none⟩ = some (.int .i64 bn)) :=
        fun w' x y => ⟨(x _ _).trans p1, (y _ _).trans a0, (y _ _).trans a1, (y _ _).trans a2, (y _ _).trans a3, (y _ _).trans a4⟩
      go_region_held3 (fun w' => w'.cell? ⟨b, 1, none⟩ = some (.map (some me)) ∧ w'.cell? ⟨w.heap.size, 0, none⟩ = some (.int .i64 k) ∧ w'.cell? ⟨w.heap.size, 1, none⟩ = some (.int .i64 al) ∧ w'.cell? ⟨w.heap.size, 2, none⟩ = some (.int .i64 an) ∧ w'.cell? ⟨w.heap.size, 3, none⟩ = some (.int .i64 bl) ∧ w'.cell? ⟨w.heap.size, 4, none⟩ = some (.int .i64 bn))
        (first | exact ⟨p1, a0, a1, a2, a3, a4⟩ | assumption | exact hS.out _ (fun _ _ => Below.celz B3 _ _ _ (by omega)) (fun _ _ => Below.celz B3 _ _ _ (by omega)) | exact hS.out _ (fun _ _ => (T4.cell _ _ _ (by omega) (by assumption)).trans (Below.celz B3 _ _ _ (by omega))) (fun _ _ => (T4.cell _ _ _ (by omega) (by omega)).trans (Below.celz B3 _ _ _ (by omega))))
        (first | (go_at_call_of 87 (Value.agg #[.int .i64 k, .int .i64 al, .int .i64 an, .int .i64 bl, .int .i64 bn]); refine (impl_edgeCode k al an bl bn _).mono ?_; rintro e wx ⟨rfl, be1⟩; have B3 : Below w3.heap.size w3 wx := keep_below (Below.refl _ _).drew.drew be1; have s3 := B3.size; obtain ⟨w4, q1, q2, q3⟩ := ((E3.out.bk.keep B3).em).push und_me und_int hn (.agg #[.int .i64 k, .int .i64 al, .int .i64 an, .int .i64 bl, .int .i64 bn]); have T4 := One.ofGrown q3))
      all_goals (
        rename_i hHeld
        have H4 := (E3.out.bk.keep B3).eput q2 T4
        have c4 := H4.ec k hk
        have f4 := H4.fr (10 + k)
        have b4 := hHeld.2.1
        have U := Two.put (o := 10 + k) (u := .int .i64 (ce k + 1)) (keep_below E3.out.bel B3) T4 hl
        have V := H4.eup hk
        have HH : Hid (BookAt (w4.setCell ⟨b, 10 + k, none⟩ (.int .i64 (ce k + 1))).drew b mn me ns (es ++ [(ecodeI k al an bl bn, .agg #[.int .i64 k, .int .i64 al, .int .i64 an, .int .i64 bl, .int .i64 bn])]) cn (bump ce k) ∧ Two b me w (w4.setCell ⟨b, 10 + k, none⟩ (.int .i64 (ce k + 1))).drew) := ⟨V.drew, U⟩
        clear H4 U V q2 q3 T4 be1 B3 hHeld q1 hS E3 a1 a2 a3 a4 p1
        go_wp2_with fail
        go_region
        go_wp2_with fail
        go_ret
        exact .inl ⟨⟨hn, hA, hB, by omega⟩, rfl, HH.out.1, HH.out.2⟩)
theorem putEdge (b mn me k : Nat) (al an bl bn : Int) (ns es : List (Int × Value)) (cn ce : Nat → Int) (w : World) (hk : k < 8) (h : BookAt w b mn me ns es cn ce) (hv : NodeVals ns) (hu : EdgeVals es) (hc0 : 0 ≤ ce k)
    (h1 : ErrAt w 1) (h2 : ErrAt w 3) (h3 : ErrAt w 2) :
    Calls Tryz.prog 88 #[.pointer (some ⟨b, 0, none⟩), .agg #[.int .i64 k, .int .i64 al, .int .i64 an, .int .i64 bl, .int .i64 bn]] w fun e w' =>
      ((lkp es (ecodeI k al an bl bn) = none ∧ (lkp ns (codeI al an)).isSome = true ∧ (lkp ns (codeI bl bn)).isSome = true ∧ ce k < 7) ∧ e = .returned .nilIface ∧ BookAt w' b mn me ns (es ++ [(ecodeI k al an bl bn, .agg #[.int .i64 k, .int .i64 al, .int .i64 an, .int .i64 bl, .int .i64 bn])]) cn (bump ce k) ∧ Two b me w w')
      ∨ (¬ (lkp es (ecodeI k al an bl bn) = none ∧ (lkp ns (codeI al an)).isSome = true ∧ (lkp ns (codeI bl bn)).isSome = true ∧ ce k < 7) ∧ (∃ t v, e = .returned (.iface t v)) ∧ Below w.heap.size w w') := by
  obtain ⟨t1, v1, g1⟩ := h1
  obtain ⟨t2, v2, g2⟩ := h2
  obtain ⟨t3, v3, g3⟩ := h3
  refine (putEdgeC b mn me k al an bl bn ns es cn ce w hk h hv hu hc0 t1 v1 g1 t2 v2 g2 t3 v3 g3).mono ?_
  rintro e w' (h | ⟨⟨v, hv⟩, he, hb⟩ | ⟨hn, hc, he, hb⟩ | ⟨hc, he, hb⟩)
  · exact .inl h
  · exact .inr ⟨(fun hx => by rw [hv] at hx; cases hx.1), ⟨_, _, he⟩, hb⟩
  · exact .inr ⟨fun hx => hc ⟨hx.2.1, hx.2.2.1⟩, ⟨_, _, he⟩, hb⟩
  · exact .inr ⟨(fun hx => by omega), ⟨_, _, he⟩, hb⟩
end Go.Proofs.YtlnpbfeihjfnjaaGreatDoor.Lab

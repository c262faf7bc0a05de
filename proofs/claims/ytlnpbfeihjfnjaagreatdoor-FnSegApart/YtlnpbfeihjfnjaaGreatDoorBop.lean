/-
  Contracts of impl's book: a node, an edge put in.
-/
import Derived.Test.YtlnpbfeihjfnjaaGreatDoorBok
namespace Go.Proofs.YtlnpbfeihjfnjaaGreatDoor.Lab
open Go.RowKit Go.ChangeMaps
set_option linter.unusedVariables false
/-- A package variable holds an error that is not nil. -/
def ErrAt (w : World) (g : Nat) : Prop := ∃ t v, w.cell? ⟨g, 0, none⟩ = some (.iface t v)
theorem cell_lt {w : World} {g o : Nat} {s : Option Nat} {v : Value} (h : w.cell? ⟨g, o, s⟩ = some v) : g < w.heap.size := by
  rcases Nat.lt_or_ge g w.heap.size with h' | h'
  · exact h'
  · simp [World.cell?, Array.getElem?_eq_none h'] at h
theorem ErrAt.lt {w : World} {g : Nat} (h : ErrAt w g) : g < w.heap.size := by
  obtain ⟨t, v, h⟩ := h
  exact cell_lt h
theorem ErrAt.keep {w w' : World} {g : Nat} (h : ErrAt w g) (hb : Below w.heap.size w w') : ErrAt w' g := by
  have hl := h.lt
  obtain ⟨t, v, h⟩ := h
  exact ⟨t, v, by rw [hb.cell (p := ⟨g, 0, none⟩) hl]; exact h⟩
/-- A book in memory. -/
structure BookAt (w : World) (b mn me : Nat) (ns es : List (Int × Value)) (cn ce : Nat → Int) : Prop where
  n0 : w.cell? ⟨b, 0, none⟩ = some (.map (some mn))
  e0 : w.cell? ⟨b, 1, none⟩ = some (.map (some me))
  nc : ∀ i, i < 8 → w.cell? ⟨b, 2 + i, none⟩ = some (.int .i64 (cn i))
  ec : ∀ i, i < 8 → w.cell? ⟨b, 10 + i, none⟩ = some (.int .i64 (ce i))
  fr : ∀ o, w.frozen? ⟨b, o, none⟩ = false
  nm : MapAt w mn ns
  em : MapAt w me es
  ne1 : b ≠ mn
  ne2 : b ≠ me
  ne3 : mn ≠ me
/-- All but one block is as it was. -/
structure One (m : Nat) (w w' : World) : Prop where
  size : w.heap.size ≤ w'.heap.size
  blk : ∀ k, k < w.heap.size → k ≠ m → w'.heap[k]? = w.heap[k]?
  bel : ∀ B w0, Below B w0 w → B ≤ m → B ≤ w.heap.size → Below B w0 w'
theorem cell_of_blk {w w' : World} {k o : Nat} {s : Option Nat} (h : w'.heap[k]? = w.heap[k]?) : w'.cell? ⟨k, o, s⟩ = w.cell? ⟨k, o, s⟩ := by simp [World.cell?, h]
theorem One.cell {m : Nat} {w w' : World} (h : One m w w') (k o : Nat) (s : Option Nat) (hk : k < w.heap.size) (hm : k ≠ m) : w'.cell? ⟨k, o, s⟩ = w.cell? ⟨k, o, s⟩ := cell_of_blk (h.blk k hk hm)
/-- All but two blocks is as it was. -/
structure Two (b m : Nat) (w w' : World) : Prop where
  size : w.heap.size ≤ w'.heap.size
  blk : ∀ k, k < w.heap.size → k ≠ b → k ≠ m → w'.heap[k]? = w.heap[k]?
  bel : ∀ B w0, Below B w0 w → B ≤ b → B ≤ m → B ≤ w.heap.size → Below B w0 w'
theorem BookAt.keep {w w' : World} {b mn me : Nat} {ns es : List (Int × Value)} {cn ce : Nat → Int} (h : BookAt w b mn me ns es cn ce) (hb : Below w.heap.size w w') : BookAt w' b mn me ns es cn ce := by
  have hl := cell_lt h.n0
  have hc := Below.celz hb
  have hf := Below.froz hb
  exact ⟨(hc _ _ _ hl).trans h.n0, (hc _ _ _ hl).trans h.e0, fun i hi => (hc _ _ _ hl).trans (h.nc i hi), fun i hi => (hc _ _ _ hl).trans (h.ec i hi), fun o => (hf _ _ _ hl).trans (h.fr o), h.nm.keep hb, h.em.keep hb, h.ne1, h.ne2, h.ne3⟩
theorem One.ofGrown {w w' : World} {m : Nat} (h : w.grownBy w' (some m)) : One m w w' :=
  ⟨h.size, fun k hk hm => h.block k hk (fun e => hm (Option.some.inj e)), fun B w0 hb h1 h2 => hb.grown h h2 (fun k hk => by cases hk; exact h1)⟩
/-- A count is put up by one. -/
def bump (c : Nat → Int) (k : Nat) : Nat → Int := fun i => if i = k then c k + 1 else c i
theorem MapAt.other {w w' : World} {m : Nat} {ns : List (Int × Value)} (h : MapAt w m ns) (hb : w'.heap[m]? = w.heap[m]?) : MapAt w' m ns := by
  obtain ⟨ents, clock, h1, h2⟩ := h
  exact ⟨ents, clock, hb.trans h1, h2⟩
theorem froz_of_blk {w w' : World} {k o : Nat} {s : Option Nat} (h : w'.heap[k]? = w.heap[k]?) : w'.frozen? ⟨k, o, s⟩ = w.frozen? ⟨k, o, s⟩ := by simp [World.frozen?, h]
theorem BookAt.drew {w : World} {b mn me : Nat} {ns es : List (Int × Value)} {cn ce : Nat → Int} (h : BookAt w b mn me ns es cn ce) : BookAt w.drew b mn me ns es cn ce := h.keep (Below.refl _ _).drew
theorem BookAt.nput {w w' : World} {b mn me : Nat} {ns es ns' : List (Int × Value)} {cn ce : Nat → Int} (h : BookAt w b mn me ns es cn ce) (hm : MapAt w' mn ns') (ho : One mn w w') : BookAt w' b mn me ns' es cn ce := by
  have hl := cell_lt h.n0
  have hb := ho.blk b hl h.ne1
  exact ⟨(cell_of_blk hb).trans h.n0, (cell_of_blk hb).trans h.e0, fun i hi => (cell_of_blk hb).trans (h.nc i hi), fun i hi => (cell_of_blk hb).trans (h.ec i hi), fun o => (froz_of_blk hb).trans (h.fr o), hm, h.em.other (ho.blk me h.em.lt h.ne3.symm), h.ne1, h.ne2, h.ne3⟩
theorem BookAt.eput {w w' : World} {b mn me : Nat} {ns es es' : List (Int × Value)} {cn ce : Nat → Int} (h : BookAt w b mn me ns es cn ce) (hm : MapAt w' me es') (ho : One me w w') : BookAt w' b mn me ns es' cn ce := by
  have hl := cell_lt h.n0
  have hb := ho.blk b hl h.ne2
  exact ⟨(cell_of_blk hb).trans h.n0, (cell_of_blk hb).trans h.e0, fun i hi => (cell_of_blk hb).trans (h.nc i hi), fun i hi => (cell_of_blk hb).trans (h.ec i hi), fun o => (froz_of_blk hb).trans (h.fr o), h.nm.other (ho.blk mn h.nm.lt h.ne3), hm, h.ne1, h.ne2, h.ne3⟩
theorem heap_setCell_ne (w : World) (a : Addr) (u : Value) (k : Nat) (h : k ≠ a.block) : (w.setCell a u).heap[k]? = w.heap[k]? := Below.heap_setCell w a u k h
theorem cell_set_ne {w : World} {b o o' : Nat} {u : Value} (h : o ≠ o') : (w.setCell ⟨b, o, none⟩ u).cell? ⟨b, o', none⟩ = w.cell? ⟨b, o', none⟩ := World.cell?_setCell_other _ _ _ _ (fun e => h (by cases e; rfl))
theorem BookAt.nup {w : World} {b mn me k : Nat} {ns es : List (Int × Value)} {cn ce : Nat → Int} (h : BookAt w b mn me ns es cn ce) (hk : k < 8) : BookAt (w.setCell ⟨b, 2 + k, none⟩ (.int .i64 (cn k + 1))) b mn me ns es (bump cn k) ce := by
  refine ⟨(cell_set_ne (by omega)).trans h.n0, (cell_set_ne (by omega)).trans h.e0, fun i hi => ?_, fun i hi => (cell_set_ne (by omega)).trans (h.ec i hi), fun o => by simp [h.fr o], h.nm.other (heap_setCell_ne _ _ _ _ h.ne1.symm), h.em.other (heap_setCell_ne _ _ _ _ h.ne2.symm), h.ne1, h.ne2, h.ne3⟩
  by_cases hik : i = k
  · subst hik
    simp only [bump, if_pos]
    exact World.cell?_setCell_same _ _ _ (h.nc i hi)
  · simp only [bump, if_neg hik]
    exact (cell_set_ne (by omega)).trans (h.nc i hi)
theorem BookAt.eup {w : World} {b mn me k : Nat} {ns es : List (Int × Value)} {cn ce : Nat → Int} (h : BookAt w b mn me ns es cn ce) (hk : k < 8) : BookAt (w.setCell ⟨b, 10 + k, none⟩ (.int .i64 (ce k + 1))) b mn me ns es cn (bump ce k) := by
  refine ⟨(cell_set_ne (by omega)).trans h.n0, (cell_set_ne (by omega)).trans h.e0, fun i hi => (cell_set_ne (by omega)).trans (h.nc i hi), fun i hi => ?_, fun o => by simp [h.fr o], h.nm.other (heap_setCell_ne _ _ _ _ h.ne1.symm), h.em.other (heap_setCell_ne _ _ _ _ h.ne2.symm), h.ne1, h.ne2, h.ne3⟩
  by_cases hik : i = k
  · subst hik
    simp only [bump, if_pos]
    exact World.cell?_setCell_same _ _ _ (h.ec i hi)
  · simp only [bump, if_neg hik]
    exact (cell_set_ne (by omega)).trans (h.ec i hi)
theorem Two.put {w w3 w4 : World} {b m o : Nat} {u : Value} (h : Below w.heap.size w w3) (ho : One m w3 w4) (hb : b < w.heap.size) : Two b m w ((w4.setCell ⟨b, o, none⟩ u).drew) := by
  refine ⟨Nat.le_trans h.size (Nat.le_trans ho.size (by simp [World.setCell])), fun k hk h1 h2 => ?_, fun B w0 hB h1 h2 h3 => ?_⟩
  · show (w4.setCell ⟨b, o, none⟩ u).heap[k]? = _
    rw [heap_setCell_ne _ _ _ _ h1]
    exact (ho.blk k (Nat.lt_of_lt_of_le hk h.size) h2).trans (h.block k hk)
  · exact ((ho.bel B w0 (hB.trans (h.mono h3)) h2 (Nat.le_trans h3 h.size)).setCell h1 _).drew
/-- What lies in a map of nodes. -/
def NodeVals (ns : List (Int × Value)) : Prop := ∀ k v, lkp ns k = some v → ∃ x y : Int, v = .agg #[.int .i64 x, .int .i64 y]
set_option maxRecDepth 8000 in
set_option maxHeartbeats 4000000 in
theorem putNodeC (b mn me k : Nat) (n : Int) (ns es : List (Int × Value)) (cn ce : Nat → Int) (w : World) (hk : k < 8) (h : BookAt w b mn me ns es cn ce) (hv : NodeVals ns) (hc0 : 0 ≤ cn k)
    (t1 : TypeId) (v1 : Value) (g1 : w.cell? ⟨1, 0, none⟩ = some (.iface t1 v1)) (t2 : TypeId) (v2 : Value) (g2 : w.cell? ⟨3, 0, none⟩ = some (.iface t2 v2)) :
    Calls Tryz.prog 86 #[.pointer (some ⟨b, 0, none⟩), .agg #[.int .i64 k, .int .i64 n]] w fun e w' =>
      (lkp ns (codeI k n) = none ∧ cn k < 5 ∧ e = .returned .nilIface ∧ BookAt w' b mn me (ns ++ [(codeI k n, .agg #[.int .i64 k, .int .i64 n])]) es (bump cn k) ce ∧ Two b mn w w')
      ∨ ((∃ v, lkp ns (codeI k n) = some v) ∧ e = .returned (.iface t1 v1) ∧ Below w.heap.size w w')
      ∨ (lkp ns (codeI k n) = none ∧ 5 ≤ cn k ∧ e = .returned (.iface t2 v2) ∧ Below w.heap.size w w') := by
  have hl := cell_lt h.n0
  have hmn := h.nm.lt
  have bb : Below w.heap.size w (w.alloc (Obj.cells #[Value.int IntKind.i64 ↑k, Value.int IntKind.i64 n] 46)) := (Below.refl _ _).alloc (Nat.le_refl _) _
  have l1 := cell_lt g1
  have l2 := cell_lt g2
  go_enter Tryz.func86, Tryz.ntmps86
  go_wp2_with fail
  refine (hasNode b mn k n ns _ (h.keep bb).n0 (by simp; omega) (h.keep bb).nm hv).mono ?_
  rintro e w1 ⟨rfl, bel⟩
  have B1 : Below w.heap.size w w1 := bb.trans (bel.mono (by simp))
  have s1 : w.heap.size < w1.heap.size := by have := bel.size; simp at this; omega
  have a0 : w1.cell? ⟨w.heap.size, 0, none⟩ = some (.int .i64 k) := by rw [Below.celz bel _ _ _ (by simp)]; simp [go_sem]
  have a1 : w1.cell? ⟨w.heap.size, 1, none⟩ = some (.int .i64 n) := by rw [Below.celz bel _ _ _ (by simp)]; simp [go_sem]
  have H1 := h.keep B1
  have p0 := H1.n0
  have p2 := H1.nc k hk
  have e1 : w1.cell? ⟨1, 0, none⟩ = some (.iface t1 v1) := (Below.celz B1 _ _ _ l1).trans g1
  have e2 : w1.cell? ⟨3, 0, none⟩ = some (.iface t2 v2) := (Below.celz B1 _ _ _ l2).trans g2
  have i0 : (0 : Int) ≤ k := by omega
  have i1 : (k : Int) < 8 := by omega
  clear bel bb g1 g2
  cases hn : lkp ns (codeI k n) with
  | some v =>
    simp only [Option.isSome_some]
    go_wp2_with fail
    go_ret
    exact .inr (.inl ⟨⟨_, hn⟩, rfl, B1⟩)
  | none =>
    simp only [Option.isSome_none]
    by_cases hc : 5 ≤ cn k
    · go_wp2_with fail
      go_region_held3 (fun w' => w' = w1.drew ∧ w'.cell? ⟨w.heap.size, 0, none⟩ = some (.int .i64 k) ∧ w'.cell? ⟨b, 2 + k, none⟩ = some (.int .i64 (cn k)))
        (first | exact ⟨rfl, a0, p2⟩ | assumption)
        (fail)
      rename_i hHeld
      clear hHeld
      go_wp2_with fail
      go_ret
      exact .inr (.inr ⟨hn, hc, rfl, B1.drew⟩)
    · go_wp2_with fail
      go_region_held3 (fun w' => w' = w1.drew ∧ w'.cell? ⟨w.heap.size, 0, none⟩ = some (.int .i64 k) ∧ w'.cell? ⟨b, 2 + k, none⟩ = some (.int .i64 (cn k)))
        (first | exact ⟨rfl, a0, p2⟩ | assumption)
        (fail)
      rename_i hHeld
      clear hHeld
      go_wp2_with fail
      have nb := H1.ne1
      go_region_held3 (fun w' => w'.cell? ⟨b, 0, none⟩ = some (.map (some mn)) ∧ w'.cell? ⟨w.heap.size, 0, none⟩ = some (.int .i64 k) ∧ w'.cell? ⟨w.heap.size, 1, none⟩ = some (.int .i64 n))
        (first | exact ⟨p0, a0, a1⟩ | assumption | exact ⟨(Below.celz B3 _ _ _ (by omega)).trans p0, (Below.celz B3 _ _ _ (by omega)).trans a0, (Below.celz B3 _ _ _ (by omega)).trans a1⟩ | exact ⟨(T4.cell _ _ _ (by omega) (by assumption)).trans ((Below.celz B3 _ _ _ (by omega)).trans p0), (T4.cell _ _ _ (by omega) (by omega)).trans ((Below.celz B3 _ _ _ (by omega)).trans a0), (T4.cell _ _ _ (by omega) (by omega)).trans ((Below.celz B3 _ _ _ (by omega)).trans a1)⟩)
        (first | (go_at_call_of 85 (Value.agg #[.int .i64 k, .int .i64 n]); refine (impl_NodeCode k n _).mono ?_; rintro e w3 ⟨rfl, be1⟩; have B3 : Below w1.heap.size w1 w3 := keep_below (Below.refl _ _).drew.drew be1; have s3 := B3.size; obtain ⟨w4, q1, q2, q3⟩ := ((H1.keep B3).nm).push und_mn und_int hn (.agg #[.int .i64 k, .int .i64 n]); have T4 := One.ofGrown q3))
      all_goals (
        rename_i hHeld
        have H4 := (H1.keep B3).nput q2 T4
        have c4 := H4.nc k hk
        have f4 := H4.fr (2 + k)
        have a4 := hHeld.2.1
        have U := Two.put (o := 2 + k) (u := .int .i64 (cn k + 1)) (keep_below B1 B3) T4 hl
        have V := H4.nup hk
        have HH : Hid (BookAt ((w4.setCell ⟨b, 2 + k, none⟩ (.int .i64 (cn k + 1))).drew) b mn me (ns ++ [(codeI k n, .agg #[.int .i64 k, .int .i64 n])]) es (bump cn k) ce ∧ Two b mn w ((w4.setCell ⟨b, 2 + k, none⟩ (.int .i64 (cn k + 1))).drew)) := ⟨V.drew, U⟩
        clear H4 U V q2 q3 T4 be1 B3 hHeld q1 H1
        go_wp2_with fail
        go_region
        go_wp2_with fail
        go_ret
        exact .inl ⟨hn, by omega, rfl, HH.out.1, HH.out.2⟩)
theorem putNode (b mn me k : Nat) (n : Int) (ns es : List (Int × Value)) (cn ce : Nat → Int) (w : World) (hk : k < 8) (h : BookAt w b mn me ns es cn ce) (hv : NodeVals ns) (hc0 : 0 ≤ cn k)
    (h1 : ErrAt w 1) (h2 : ErrAt w 3) :
    Calls Tryz.prog 86 #[.pointer (some ⟨b, 0, none⟩), .agg #[.int .i64 k, .int .i64 n]] w fun e w' =>
      (lkp ns (codeI k n) = none ∧ cn k < 5 ∧ e = .returned .nilIface ∧ BookAt w' b mn me (ns ++ [(codeI k n, .agg #[.int .i64 k, .int .i64 n])]) es (bump cn k) ce ∧ Two b mn w w')
      ∨ (¬ (lkp ns (codeI k n) = none ∧ cn k < 5) ∧ (∃ t v, e = .returned (.iface t v)) ∧ Below w.heap.size w w') := by
  obtain ⟨t1, v1, g1⟩ := h1
  obtain ⟨t2, v2, g2⟩ := h2
  refine (putNodeC b mn me k n ns es cn ce w hk h hv hc0 t1 v1 g1 t2 v2 g2).mono ?_
  rintro e w' (h | ⟨⟨v, hv⟩, he, hb⟩ | ⟨hn, hc, he, hb⟩)
  · exact .inl h
  · exact .inr ⟨(fun hx => by rw [hv] at hx; cases hx.1), ⟨_, _, he⟩, hb⟩
  · exact .inr ⟨by omega, ⟨_, _, he⟩, hb⟩
end Go.Proofs.YtlnpbfeihjfnjaaGreatDoor.Lab

/-
  Contracts of impl's book: what it answers of a node or an edge, and what it puts in.
-/
import Derived.Test.YtlnpbfeihjfnjaaGreatDoorMap
import Derived.Test.YtlnpbfeihjfnjaaGreatDoorNod
import Derived.Deep.RegionHeld3
namespace Go.Proofs.YtlnpbfeihjfnjaaGreatDoor.Lab
open Go.RowKit Go.ChangeMaps
set_option linter.unusedVariables false
/-- An edge's number among all. -/
def ecodeI (l al an bl bn : Int) : Int := if edgeB l al an bl bn then (l * 512 + codeI al an) * 512 + codeI bl bn else -1
theorem edgeB_true {l al an bl bn : Int} (h : edgeB l al an bl bn = true) : okB l = true ∧ nodeB al an = true ∧ nodeB bl bn = true := by
  simp only [edgeB, underB, Bool.and_eq_true] at h
  simp_all
set_option maxHeartbeats 4000000 in
theorem impl_edgeCode (l al an bl bn : Int) (w : World) :
    Calls Tryz.prog 87 #[.agg #[.int .i64 l, .int .i64 al, .int .i64 an, .int .i64 bl, .int .i64 bn]] w fun e w' => e = .returned (.int .i64 (ecodeI l al an bl bn)) ∧ Below w.heap.size w w' := by
  unfold ecodeI
  cases ho : edgeB l al an bl bn
  · go_enter Tryz.func87, Tryz.ntmps87
    go_wp2_with fail
    refine (impl_EdgeOk _ _ _ _ _ _).mono ?_
    rintro e w1 ⟨rfl, bel⟩
    go_wp2_with fail
    go_ret
    exact ⟨rfl, ((Below.refl _ _).alloc (Nat.le_refl _) _).trans (bel.mono (by simp))⟩
  · obtain ⟨h1, h2, h3⟩ := edgeB_true ho
    obtain ⟨h4, h5⟩ := okB_true h1
    have hx := codeI_bd al an
    have hy := codeI_bd bl bn
    go_enter Tryz.func87, Tryz.ntmps87
    go_wp2_with fail
    refine (impl_EdgeOk _ _ _ _ _ _).mono ?_
    rintro e w1 ⟨rfl, bel⟩
    have hk := Below.celz (bel.mono (B' := w.heap.size + 1) (by simp))
    have hb : Below w.heap.size w w1 := ((Below.refl _ _).alloc (Nat.le_refl _) _).trans (bel.mono (by simp))
    have hs : w.heap.size < w1.heap.size := by have := bel.size; simp at this; omega
    clear bel
    go_wp2_with fail
    refine wp_region_after (by kernel_rfl) (by kernel_rfl) ?_
    intro hne hac
    repeat (go_big_quiet_step (first | (go_at_call_of 85 (Value.agg #[.int .i64 al, .int .i64 an]); exact after_of (impl_NodeCode al an _)) | (go_at_call_of 85 (Value.agg #[.int .i64 bl, .int .i64 bn]); exact after_of (impl_NodeCode bl bn _))))
    refine wpQuiet_nil ?_
    rintro _ ⟨p, rfl⟩
    have hb2 := keep_below hb p.bel
    clear hne hac hk hb hs
    go_wp2
    go_ret
    exact ⟨rfl, hb2⟩
theorem und_mn : Tryz.prog.underlying 131 = some (.map 3 46) := by kernel_rfl
theorem und_int : Tryz.prog.underlying 3 = some (.int .i64) := by kernel_rfl
theorem zero_node (w : World) : (zeroValue 46).run Tryz.prog w = .ok (.agg #[.int .i64 0, .int .i64 0]) w := by
  simp [go_sem]
set_option maxRecDepth 8000 in
set_option maxHeartbeats 4000000 in
theorem hasNode (b mn : Nat) (l n : Int) (ns : List (Int × Value)) (w : World) (h0 : w.cell? ⟨b, 0, none⟩ = some (.map (some mn))) (hb : b < w.heap.size) (hm : MapAt w mn ns)
    (hv : ∀ k v, lkp ns k = some v → ∃ x y : Int, v = .agg #[.int .i64 x, .int .i64 y]) :
    Calls Tryz.prog 121 #[.pointer (some ⟨b, 0, none⟩), .agg #[.int .i64 l, .int .i64 n]] w fun e w' => e = .returned (.bool (lkp ns (codeI l n)).isSome) ∧ Below w.heap.size w w' := by
  obtain ⟨x, y, hz⟩ : ∃ x y : Int, (lkp ns (codeI l n)).getD (.agg #[.int .i64 0, .int .i64 0]) = .agg #[.int .i64 x, .int .i64 y] := by
    cases h : lkp ns (codeI l n) with
    | none => exact ⟨0, 0, rfl⟩
    | some v => obtain ⟨x, y, rfl⟩ := hv _ _ h; exact ⟨x, y, rfl⟩
  have hl : Hid (∀ w', Below w.heap.size w w' → (Instr.lookup 131 (.map (some mn)) (.int .i64 (codeI l n)) true).run Tryz.prog w' = .ok (.tuple #[.agg #[.int .i64 x, .int .i64 y], .bool (lkp ns (codeI l n)).isSome]) w') := fun w' h => by
    rw [(hm.keep h).look und_mn und_int (zero_node w') (codeI l n), hz]
  go_enter Tryz.func121, Tryz.ntmps121
  go_wp2_with fail
  generalize hW : w.alloc (Obj.cells #[Value.int IntKind.i64 l, Value.int IntKind.i64 n] 46) = w1
  have b1 : Below w.heap.size w w1 := by rw [← hW]; exact (Below.refl _ _).alloc (Nat.le_refl _) _
  have s1 : w1.heap.size = w.heap.size + 1 := by rw [← hW]; simp
  have c0 : w1.cell? ⟨b, 0, none⟩ = some (.map (some mn)) := by rw [Below.celz b1 _ _ _ hb]; exact h0
  have c1 : w1.cell? ⟨w.heap.size, 0, none⟩ = some (.int .i64 l) := by rw [← hW]; simp [go_sem]
  have c2 : w1.cell? ⟨w.heap.size, 1, none⟩ = some (.int .i64 n) := by rw [← hW]; simp [go_sem]
  clear hW hm hv hz h0
  have hS : Hid (∀ w', Below w1.heap.size w1 w' → Below w1.heap.size w1 w' ∧ w'.cell? ⟨b, 0, none⟩ = some (.map (some mn)) ∧ w'.cell? ⟨w.heap.size, 0, none⟩ = some (.int .i64 l) ∧ w'.cell? ⟨w.heap.size, 1, none⟩ = some (.int .i64 n) ∧ (Instr.lookup 131 (.map (some mn)) (.int .i64 (codeI l n)) true).run Tryz.prog w' = .ok (.tuple #[.agg #[.int .i64 x, .int .i64 y], .bool (lkp ns (codeI l n)).isSome]) w') :=
    fun w' hn => ⟨hn, (Below.celz hn _ _ _ (by omega)).trans c0, (Below.celz hn _ _ _ (by omega)).trans c1, (Below.celz hn _ _ _ (by omega)).trans c2, hl.out _ (keep_below b1 hn)⟩
  go_region_held3 (fun w' => Below w1.heap.size w1 w' ∧ w'.cell? ⟨b, 0, none⟩ = some (.map (some mn)) ∧ w'.cell? ⟨w.heap.size, 0, none⟩ = some (.int .i64 l) ∧ w'.cell? ⟨w.heap.size, 1, none⟩ = some (.int .i64 n) ∧ (Instr.lookup 131 (.map (some mn)) (.int .i64 (codeI l n)) true).run Tryz.prog w' = .ok (.tuple #[.agg #[.int .i64 x, .int .i64 y], .bool (lkp ns (codeI l n)).isSome]) w')
    (first | assumption | with_reducible exact hS.out _ (Below.refl _ _).drew | with_reducible exact hS.out _ (Below.alloc (And.left (by assumption)) (Below.size (And.left (by assumption))) _) | with_reducible exact hS.out _ be2 | with_reducible exact hS.out _ (Below.alloc be2 (Below.size be2) _) | with_reducible exact hS.out _ (Below.setCell (Below.setCell be2 (by simp <;> omega) _) (by simp <;> omega) _))
    (first | (go_at_call_of 85 (Value.agg #[.int .i64 l, .int .i64 n]); refine (impl_NodeCode l n _).mono ?_; rintro e w2 ⟨rfl, be1⟩; have be2 : Below w1.heap.size w1 w2 := keep_below (And.left (by assumption)) be1; have hcx := Below.celz be1; have hfx := Below.froz be1))
  all_goals (go_wp2_with fail; go_ret; exact ⟨rfl, keep_below b1 (And.left (by assumption))⟩)
theorem und_me : Tryz.prog.underlying 132 = some (.map 3 48) := by kernel_rfl
theorem zero_edge (w : World) : (zeroValue 48).run Tryz.prog w = .ok (.agg #[.int .i64 0, .int .i64 0, .int .i64 0, .int .i64 0, .int .i64 0]) w := by
  simp [go_sem]
set_option maxRecDepth 8000 in
set_option maxHeartbeats 4000000 in
theorem hasEdge (b mn : Nat) (l al an bl bn : Int) (ns : List (Int × Value)) (w : World) (h0 : w.cell? ⟨b, 1, none⟩ = some (.map (some mn))) (hb : b < w.heap.size) (hm : MapAt w mn ns)
    (hv : ∀ k v, lkp ns k = some v → ∃ x y z s t : Int, v = .agg #[.int .i64 x, .int .i64 y, .int .i64 z, .int .i64 s, .int .i64 t]) :
    Calls Tryz.prog 122 #[.pointer (some ⟨b, 0, none⟩), .agg #[.int .i64 l, .int .i64 al, .int .i64 an, .int .i64 bl, .int .i64 bn]] w fun e w' => e = .returned (.bool (lkp ns (ecodeI l al an bl bn)).isSome) ∧ Below w.heap.size w w' := by
  obtain ⟨x, y, z, s, t, hz⟩ : ∃ x y z s t : Int, (lkp ns (ecodeI l al an bl bn)).getD (.agg #[.int .i64 0, .int .i64 0, .int .i64 0, .int .i64 0, .int .i64 0]) = .agg #[.int .i64 x, .int .i64 y, .int .i64 z, .int .i64 s, .int .i64 t] := by
    cases h : lkp ns (ecodeI l al an bl bn) with
    | none => exact ⟨0, 0, 0, 0, 0, rfl⟩
    | some v => obtain ⟨x, y, z, s, t, rfl⟩ := hv _ _ h; exact ⟨x, y, z, s, t, rfl⟩
  have hl : Hid (∀ w', Below w.heap.size w w' → (Instr.lookup 132 (.map (some mn)) (.int .i64 (ecodeI l al an bl bn)) true).run Tryz.prog w' = .ok (.tuple #[.agg #[.int .i64 x, .int .i64 y, .int .i64 z, .int .i64 s, .int .i64 t], .bool (lkp ns (ecodeI l al an bl bn)).isSome]) w') := fun w' h => by
    rw [(hm.keep h).look und_me und_int (zero_edge w') (ecodeI l al an bl bn), hz]
  go_enter Tryz.func122, Tryz.ntmps122
  go_wp2_with fail
  generalize hW : w.alloc (Obj.cells #[Value.int IntKind.i64 l, Value.int IntKind.i64 al, Value.int IntKind.i64 an, Value.int IntKind.i64 bl, Value.int IntKind.i64 bn] 48) = w1
  have b1 : Below w.heap.size w w1 := by rw [← hW]; exact (Below.refl _ _).alloc (Nat.le_refl _) _
  have s1 : w1.heap.size = w.heap.size + 1 := by rw [← hW]; simp
  have c0 : w1.cell? ⟨b, 1, none⟩ = some (.map (some mn)) := by rw [Below.celz b1 _ _ _ hb]; exact h0
  have c1 : w1.cell? ⟨w.heap.size, 0, none⟩ = some (.int .i64 l) := by rw [← hW]; simp [go_sem]
  have c2 : w1.cell? ⟨w.heap.size, 1, none⟩ = some (.int .i64 al) := by rw [← hW]; simp [go_sem]
  have c3 : w1.cell? ⟨w.heap.size, 2, none⟩ = some (.int .i64 an) := by rw [← hW]; simp [go_sem]
  have c4 : w1.cell? ⟨w.heap.size, 3, none⟩ = some (.int .i64 bl) := by rw [← hW]; simp [go_sem]
  have c5 : w1.cell? ⟨w.heap.size, 4, none⟩ = some (.int .i64 bn) := by rw [← hW]; simp [go_sem]
  clear hW hm hv hz h0
  have hS : Hid (∀ w', Below w1.heap.size w1 w' → Below w1.heap.size w1 w' ∧ w'.cell? ⟨b, 1, none⟩ = some (.map (some mn)) ∧ w'.cell? ⟨w.heap.size, 0, none⟩ = some (.int .i64 l) ∧ w'.cell? ⟨w.heap.size, 1, none⟩ = some (.int .i64 al) ∧ w'.cell? ⟨w.heap.size, 2, none⟩ = some (.int .i64 an) ∧ w'.cell? ⟨w.heap.size, 3, none⟩ = some (.int .i64 bl) ∧ w'.cell? ⟨w.heap.size, 4, none⟩ = some (.int .i64 bn) ∧ (Instr.lookup 132 (.map (some mn)) (.int .i64 (ecodeI l al an bl bn)) true).run Tryz.prog w' = .ok (.tuple #[.agg #[.int .i64 x, .int .i64 y, .int .i64 z, .int .i64 s, .int .i64 t], .bool (lkp ns (ecodeI l al an bl bn)).isSome]) w') :=
    fun w' hn => ⟨hn, (Below.celz hn _ _ _ (by omega)).trans c0, (Below.celz hn _ _ _ (by omega)).trans c1, (Below.celz hn _ _ _ (by omega)).trans c2, (Below.celz hn _ _ _ (by omega)).trans c3, (Below.celz hn _ _ _ (by omega)).trans c4, (Below.celz hn _ _ _ (by omega)).trans c5, hl.out _ (keep_below b1 hn)⟩
  go_region_held3 (fun w' => Below w1.heap.size w1 w' ∧ w'.cell? ⟨b, 1, none⟩ = some (.map (some mn)) ∧ w'.cell? ⟨w.heap.size, 0, none⟩ = some (.int .i64 l) ∧ w'.cell? ⟨w.heap.size, 1, none⟩ = some (.int .i64 al) ∧ w'.cell? ⟨w.heap.size, 2, none⟩ = some (.int .i64 an) ∧ w'.cell? ⟨w.heap.size, 3, none⟩ = some (.int .i64 bl) ∧ w'.cell? ⟨w.heap.size, 4, none⟩ = some (.int .i64 bn) ∧ (Instr.lookup 132 (.map (some mn)) (.int .i64 (ecodeI l al an bl bn)) true).run Tryz.prog w' = .ok (.tuple #[.agg #[.int .i64 x, .int .i64 y, .int .i64 z, .int .i64 s, .int .i64 t], .bool (lkp ns (ecodeI l al an bl bn)).isSome]) w')
    (first | assumption | with_reducible exact hS.out _ (Below.refl _ _).drew | with_reducible exact hS.out _ (Below.alloc (And.left (by assumption)) (Below.size (And.left (by assumption))) _) | with_reducible exact hS.out _ be2 | with_reducible exact hS.out _ (Below.alloc be2 (Below.size be2) _) | with_reducible exact hS.out _ (Below.setCell (Below.setCell (Below.setCell (Below.setCell (Below.setCell be2 (by simp <;> omega) _) (by simp <;> omega) _) (by simp <;> omega) _) (by simp <;> omega) _) (by simp <;> omega) _))
    (first | (go_at_call_of 87 (Value.agg #[.int .i64 l, .int .i64 al, .int .i64 an, .int .i64 bl, .int .i64 bn]); refine (impl_edgeCode l al an bl bn _).mono ?_; rintro e w2 ⟨rfl, be1⟩; have be2 : Below w1.heap.size w1 w2 := keep_below (And.left (by assumption)) be1; have hcx := Below.celz be1; have hfx := Below.froz be1))
  all_goals (go_wp2_with fail; go_ret; exact ⟨rfl, keep_below b1 (And.left (by assumption))⟩)
end Go.Proofs.YtlnpbfeihjfnjaaGreatDoor.Lab

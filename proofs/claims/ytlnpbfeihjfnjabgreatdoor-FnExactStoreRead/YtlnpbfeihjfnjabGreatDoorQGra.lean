/-
  Graphs by value: the laws' own functions on them, and GraphSame. (Written by tools/mkgra.py.)
-/
import Derived.Test.YtlnpbfeihjfnjabGreatDoorQGro
namespace Go.Proofs.YtlnpbfeihjfnjabGreatDoor.Lab
open Go.RowKit
set_option linter.unusedVariables false
set_option maxHeartbeats 1000000 in
theorem szGraph (a1 a2 : Option Addr) (n1 c1 n2 c2 : Nat) (left : Int) (w : World) (h0 : 0 ≤ left) (h1 : left ≤ 1048576) (hn1 : n1 ≤ 9223372036854775807) (hn2 : n2 ≤ 9223372036854775807) :
    Calls Tryz.prog 5 #[.agg #[.slice a1 n1 c1, .slice a2 n2 c2], .int .i64 left] w fun e w' => e = .returned (.int .i64 (if (n1 : Int) + n2 ≤ left then left - n1 - n2 else -1)) ∧ Below w.heap.size w w' := by
  by_cases h : (n1 : Int) ≤ left
  · by_cases h2 : (n1 : Int) + n2 ≤ left
    · rw [if_pos h2]
      go_enter Tryz.func5, Tryz.ntmps5
      go_wp2_with fail
      refine use (szNodeS a1 n1 c1 left _ h0 h1 hn1) ?_
      rw [if_pos h]
      go_wp2_with fail
      refine use (szEdgeS a2 n2 c2 _ _ (by omega) (by omega) hn2) ?_
      rw [if_pos (by omega)]
      go_wp2_with fail
      go_ret
      exact ⟨rfl, by go_grown⟩
    · rw [if_neg h2]
      go_enter Tryz.func5, Tryz.ntmps5
      go_wp2_with fail
      refine use (szNodeS a1 n1 c1 left _ h0 h1 hn1) ?_
      rw [if_pos h]
      go_wp2_with fail
      refine use (szEdgeS a2 n2 c2 _ _ (by omega) (by omega) hn2) ?_
      rw [if_neg (by omega)]
      go_wp2_with fail
      go_ret
      exact ⟨rfl, by go_grown⟩
  · rw [if_neg (by omega)]
    go_enter Tryz.func5, Tryz.ntmps5
    go_wp2_with fail
    refine use (szNodeS a1 n1 c1 left _ h0 h1 hn1) ?_
    rw [if_neg (by omega)]
    go_wp2_with fail
    go_ret
    exact ⟨rfl, by go_grown⟩
/-- A graph that the call owns: two rows, in blocks of their own. -/
def OwnGraph (w : World) (base : Nat) (v1 v2 : Value) (ns : List (Int × Int)) (es : List (Int × Int × Int × Int × Int)) : Prop :=
  w.ownsRow base 69 2 v1 ns.length (ns.flatMap encNode) ∧ w.ownsRow base 72 5 v2 es.length (es.flatMap encEdge) ∧ ∀ k, v1.ownBlock = some k → v2.ownBlock ≠ some k
theorem OwnGraph.keep {w w' : World} {base : Nat} {v1 v2 : Value} {ns : List (Int × Int)} {es : List (Int × Int × Int × Int × Int)} (h : OwnGraph w base v1 v2 ns es) (hb : Below w.heap.size w w') : OwnGraph w' base v1 v2 ns es :=
  ⟨own_keep h.1 hb, own_keep h.2.1 hb, h.2.2⟩
theorem OwnGraph.nodes {w : World} {base : Nat} {v1 v2 : Value} {ns : List (Int × Int)} {es : List (Int × Int × Int × Int × Int)} (h : OwnGraph w base v1 v2 ns es) : RowAt 2 encNode w v1 ns := row_of_own encNode_len (by decide) h.1
theorem OwnGraph.edges {w : World} {base : Nat} {v1 v2 : Value} {ns : List (Int × Int)} {es : List (Int × Int × Int × Int × Int)} (h : OwnGraph w base v1 v2 ns es) : RowAt 5 encEdge w v2 es := row_of_own encEdge_len (by decide) h.2.1
theorem OwnGraph.form {w : World} {base : Nat} {v1 v2 : Value} {ns : List (Int × Int)} {es : List (Int × Int × Int × Int × Int)} (h : OwnGraph w base v1 v2 ns es) : ∃ a1 c1 a2 c2, v1 = .slice a1 ns.length c1 ∧ v2 = .slice a2 es.length c2 := by
  obtain ⟨a1, c1, h1⟩ := own_form h.1
  obtain ⟨a2, c2, h2⟩ := own_form h.2.1
  exact ⟨a1, c1, a2, c2, h1, h2⟩
set_option maxHeartbeats 2000000 in
theorem toGraph (v1 v2 : Value) (ns : List (Int × Int)) (es : List (Int × Int × Int × Int × Int)) (w : World) (h1 : RowAt 2 encNode w v1 ns) (h2 : RowAt 5 encEdge w v2 es) (hl1 : ns.length ≤ 1048576) (hl2 : es.length ≤ 1048576) :
    Calls Tryz.prog 7 #[.agg #[v1, v2]] w fun e w' => ∃ u1 u2, e = .returned (.agg #[u1, u2]) ∧ OwnGraph w' w.heap.size u1 u2 ns es ∧ Below w.heap.size w w' := by
  have b0 : ∀ o1 o2 o3, Below w.heap.size w (((w.alloc o1).alloc o2).alloc o3) := fun o1 o2 o3 => by go_grown
  have k1 : ∀ o1 o2 o3, RowAt 2 encNode (((w.alloc o1).alloc o2).alloc o3) v1 ns := fun o1 o2 o3 => h1.keep (b0 o1 o2 o3)
  obtain ⟨a1, c1, rfl⟩ := h1.len
  obtain ⟨a2, c2, rfl⟩ := h2.len
  have H2 : Hid (RowAt 5 encEdge w (.slice a2 es.length c2) es) := h2
  generalize hN : ns.length = N1 at *
  generalize hE : es.length = N2 at *
  have HL : Hid (ns.length = N1 ∧ es.length = N2) := ⟨hN, hE⟩
  clear h1 h2 hN hE
  go_enter Tryz.func7, Tryz.ntmps7
  go_wp2_with fail
  refine (toNodeS _ _ _ (k1 _ _ _) (by rw [HL.out.1]; omega)).mono ?_
  rintro e w1 ⟨u1, rfl, own1, bel1⟩
  obtain ⟨x1, y1, hu1⟩ := own_form own1
  have B1 : Below w.heap.size w w1 := (b0 _ _ _).trans (bel1.mono (by simp; omega))
  have hs1 : w.heap.size + 3 ≤ w1.heap.size := by have := bel1.size; simp at this; omega
  have hc1 := Below.celz (bel1.mono (B' := w.heap.size + 3) (by simp))
  have hf1 := Below.froz (bel1.mono (B' := w.heap.size + 3) (by simp))
  have own1' := own_mono (base' := w.heap.size + 3) own1 (by simp)
  have ob1 : ∀ k, u1.ownBlock = some k → w.heap.size + 3 ≤ k ∧ k < w1.heap.size := fun k hk => own1'.lt k hk
  have own1s : (w1.setCell ⟨w.heap.size + 1 + 1, 0, none⟩ u1).ownsRow (w.heap.size + 3) 69 2 u1 ns.length (ns.flatMap encNode) := own_set own1' (fun h => by have := (ob1 _ h).1; simp at this; omega) _
  have k2 : RowAt 5 encEdge (w1.setCell ⟨w.heap.size + 1 + 1, 0, none⟩ u1) (.slice a2 N2 c2) es := H2.out.keep (B1.setCell (by simp; omega) _)
  have BS : Below w.heap.size w (w1.setCell ⟨w.heap.size + 1 + 1, 0, none⟩ u1) := B1.setCell (by simp; omega) _
  have HO : Hid ((w1.setCell ⟨w.heap.size + 1 + 1, 0, none⟩ u1).ownsRow (w.heap.size + 3) 69 2 u1 ns.length (ns.flatMap encNode) ∧ Below w.heap.size w (w1.setCell ⟨w.heap.size + 1 + 1, 0, none⟩ u1) ∧ ∀ k, u1.ownBlock = some k → w.heap.size + 3 ≤ k ∧ k < w1.heap.size) := ⟨own1s, BS, ob1⟩
  clear own1 own1' own1s bel1 B1 BS ob1 k1 b0 H2
  subst hu1
  go_wp2_with fail
  refine (toEdgeS _ _ _ k2 (by rw [HL.out.2]; omega)).mono ?_
  rintro e w2 ⟨u2, rfl, own2, bel2⟩
  obtain ⟨x2, y2, hu2⟩ := own_form own2
  have hs2 : w1.heap.size ≤ w2.heap.size := by have := bel2.size; simp at this; omega
  have hc2 := Below.celz (bel2.mono (B' := w.heap.size + 3) (by simp; omega))
  have hf2 := Below.froz (bel2.mono (B' := w.heap.size + 3) (by simp; omega))
  have ob2 : ∀ k, u2.ownBlock = some k → w1.heap.size ≤ k := fun k hk => by have := (own2.lt k hk).1; simpa using this
  have o1 : w2.ownsRow (w.heap.size + 3) 69 2 (.slice x1 ns.length y1) ns.length (ns.flatMap encNode) := own_keep HO.out.1 bel2
  have o2 : w2.ownsRow (w.heap.size + 3) 72 5 u2 es.length (es.flatMap encEdge) := own_mono own2 (by simp; omega)
  have HB : Hid (Below w.heap.size w w2 ∧ OwnGraph w2 (w.heap.size + 3) (.slice x1 ns.length y1) u2 ns es) := ⟨HO.out.2.1.trans (bel2.mono (by simp; omega)), o1, o2, fun k hk h => by have := (HO.out.2.2 k hk).2; have := ob2 k h; omega⟩
  clear own2 bel2 o1 o2 ob2 HO k2
  subst hu2
  go_wp2_with fail
  refine bodyPost_ret (v := .agg #[.slice x1 ns.length y1, .slice x2 es.length y2]) (by simp [*, results, Tryz.results7, go_sem]) rfl ?_
  obtain ⟨z1, q1, q2, q3⟩ := HB.out
  have ob : ∀ v n xs e s, w2.ownsRow (w.heap.size + 3) e s v n xs → ∀ k, k < w.heap.size + 3 → v.ownBlock ≠ some k := fun v n xs e s h k hk hh => by have := (h.lt k hh).1; omega
  refine ⟨_, _, rfl, ⟨own_mono (own_set (own_set (own_set q1 (ob _ _ _ _ _ q1 _ (by simp)) _) (ob _ _ _ _ _ q1 _ (by simp)) _) (ob _ _ _ _ _ q1 _ (by simp)) _) (by omega), own_mono (own_set (own_set (own_set q2 (ob _ _ _ _ _ q2 _ (by simp)) _) (ob _ _ _ _ _ q2 _ (by simp)) _) (ob _ _ _ _ _ q2 _ (by simp)) _) (by omega), q3⟩, ?_⟩
  exact ((z1.setCell (by simp; omega) _).setCell (by simp) _).setCell (by simp) _
set_option maxHeartbeats 1000000 in
theorem eqGraph (v1 v2 u1 u2 : Value) (ns ms : List (Int × Int)) (es fs : List (Int × Int × Int × Int × Int)) (w : World) (h1 : RowAt 2 encNode w v1 ns) (h2 : RowAt 5 encEdge w v2 es) (h3 : RowAt 2 encNode w u1 ms) (h4 : RowAt 5 encEdge w u2 fs)
    (l1 : ns.length ≤ 1048576) (l2 : es.length ≤ 1048576) (l3 : ms.length ≤ 1048576) (l4 : fs.length ≤ 1048576) :
    Calls Tryz.prog 10 #[.agg #[v1, v2], .agg #[u1, u2]] w fun e w' => e = .returned (.bool (eqB ns ms && eqB es fs)) ∧ Below w.heap.size w w' := by
  have b0 : ∀ o1 o2, Below w.heap.size w ((w.alloc o1).alloc o2) := fun o1 o2 => by go_grown
  have k1 : ∀ o1 o2, RowAt 2 encNode ((w.alloc o1).alloc o2) v1 ns := fun o1 o2 => h1.keep (b0 o1 o2)
  have k3 : ∀ o1 o2, RowAt 2 encNode ((w.alloc o1).alloc o2) u1 ms := fun o1 o2 => h3.keep (b0 o1 o2)
  have H : Hid (RowAt 5 encEdge w v2 es ∧ RowAt 5 encEdge w u2 fs) := ⟨h2, h4⟩
  clear h1 h2 h3 h4
  cases hq : eqB ns ms
  · go_enter Tryz.func10, Tryz.ntmps10
    go_wp2_with fail
    refine (eqNodeS _ _ _ _ _ (k1 _ _) (k3 _ _) l1 l3).mono ?_
    rintro e w1 ⟨rfl, bel1⟩
    rw [hq]
    have B1 : Hid (Below w.heap.size w w1) := (b0 _ _).trans (bel1.mono (by simp; omega))
    clear k1 k3 b0 bel1
    go_wp2_with fail
    go_ret
    exact ⟨rfl, B1.out⟩
  · go_enter Tryz.func10, Tryz.ntmps10
    go_wp2_with fail
    refine (eqNodeS _ _ _ _ _ (k1 _ _) (k3 _ _) l1 l3).mono ?_
    rintro e w1 ⟨rfl, bel1⟩
    rw [hq]
    have B1 : Below w.heap.size w w1 := (b0 _ _).trans (bel1.mono (by simp; omega))
    have hc := Below.celz (bel1.mono (B' := w.heap.size + 2) (by simp))
    have hs1 : w.heap.size + 2 ≤ w1.heap.size := by have := bel1.size; simp at this; omega
    have k2 := H.out.1.keep B1
    have k4 := H.out.2.keep B1
    have HB : Hid (Below w.heap.size w w1) := B1
    clear k1 k3 b0 bel1 B1
    go_wp2_with fail
    refine (eqEdgeS _ _ _ _ _ k2 k4 l2 l4).mono ?_
    rintro e w2 ⟨rfl, bel2⟩
    have HB2 : Hid (Below w.heap.size w w2) := HB.out.trans (bel2.mono (by omega))
    clear bel2 k2 k4 hc
    cases hr : eqB es fs
    · go_wp2_with fail
      go_ret
      exact ⟨by simp [hr], HB2.out⟩
    · go_wp2_with fail
      go_ret
      exact ⟨by simp [hr], HB2.out⟩
theorem eqGraph_same (v1 v2 u1 u2 : Value) (ns : List (Int × Int)) (es : List (Int × Int × Int × Int × Int)) (w : World) (h1 : RowAt 2 encNode w v1 ns) (h2 : RowAt 5 encEdge w v2 es) (h3 : RowAt 2 encNode w u1 ns) (h4 : RowAt 5 encEdge w u2 es)
    (l1 : ns.length ≤ 1048576) (l2 : es.length ≤ 1048576) :
    Calls Tryz.prog 10 #[.agg #[v1, v2], .agg #[u1, u2]] w fun e w' => e = .returned (.bool true) ∧ Below w.heap.size w w' :=
  (eqGraph v1 v2 u1 u2 ns ns es es w h1 h2 h3 h4 l1 l2 l1 l2).mono fun e w' h => ⟨by rw [h.1, eqB_true.2 rfl, eqB_true.2 rfl]; rfl, h.2⟩
end Go.Proofs.YtlnpbfeihjfnjabGreatDoor.Lab

/-
  More for FnGraphUnion: a view of what is not right is nothing; sums over views.
-/
import Derived.Test.YtcinjkpedigffaaDoorWpa
namespace Go.Proofs.YtcinjkpedigffaaDoor.Lab
open Go.RowKit
set_option linter.unusedVariables false
set_option maxRecDepth 8000 in
set_option maxHeartbeats 4000000 in
theorem gv_spec_bad (v1 v2 : Value) (c : Int) (ns : List Nd) (es : List Ed) (w : World) (h : GrAt w v1 v2 ns es) (hbad : gokB ns es = false ∨ okB c = false) :
    Calls Tryd.prog 11 #[.agg #[v1, v2], .int .i64 c] w fun e w' => e = .returned (.agg #[.slice none 0 0, .slice none 0 0]) ∧ Below w.heap.size w w' := by
  have h1 := h.1
  have h2 := h.2.1
  have l1 := h.lens.1
  have l2 := h.lens.2
  clear h
  obtain ⟨a1, c1, rfl⟩ := h1.len
  obtain ⟨a2, c2, rfl⟩ := h2.len
  have H1 : Hid (RowAt 2 encNode w (.slice a1 ns.length c1) ns) := h1
  have H2 : Hid (RowAt 5 encEdge w (.slice a2 es.length c2) es) := h2
  clear h1 h2
  have b0 : Hid (∀ o1 o2, Below w.heap.size w ((w.alloc o1).alloc o2)) := fun o1 o2 => by go_grown
  go_enter Tryd.func11, Tryd.ntmps11
  go_wp2_with fail
  refine (spec_GraphOk _ _ ns es _ (H1.out.keep (b0.out _ _)) (H2.out.keep (b0.out _ _)) l1 l2).mono ?_
  rintro e w1 ⟨rfl, bel⟩
  have B1 : Below w.heap.size w w1 := (b0.out _ _).trans (bel.mono (by simp; omega))
  have g0 : w1.cell? ⟨w.heap.size, 0, none⟩ = some (.slice a1 ns.length c1) := by rw [Below.celz bel _ _ _ (by simp; omega)]; simp [go_sem]
  have g1 : w1.cell? ⟨w.heap.size, 1, none⟩ = some (.slice a2 es.length c2) := by rw [Below.celz bel _ _ _ (by simp; omega)]; simp [go_sem]
  have q0 : w1.cell? ⟨w.heap.size + 1, 0, none⟩ = some (.slice none 0 0) := by rw [Below.celz bel _ _ _ (by simp)]; simp [go_sem]
  have q1 : w1.cell? ⟨w.heap.size + 1, 1, none⟩ = some (.slice none 0 0) := by rw [Below.celz bel _ _ _ (by simp)]; simp [go_sem]
  have qf : ∀ o, w1.frozen? ⟨w.heap.size + 1, o, none⟩ = false := fun o => by rw [Below.froz bel _ _ _ (by simp)]; simp [go_sem]
  have s1 : w.heap.size + 2 ≤ w1.heap.size := by have := bel.size; simp at this; omega
  have HB1 : Hid (Below w.heap.size w w1) := B1
  clear bel B1
  cases hg : gokB ns es
  · have HS : Hid (seenN c ns es = [] ∧ seenE c ns es = []) := ⟨by simp [seenN, hg], by simp [seenE, hg]⟩
    go_wp2_with fail
    refine bodyPost_ret (v := .agg #[.slice none 0 0, .slice none 0 0]) (by simp [*, results, Tryd.results11, go_sem]) rfl ?_
    exact ⟨rfl, (HB1.out.setCell (by simp) _).setCell (by simp) _⟩
  · have HG : Hid (seenN c ns es = viewN c ns ∧ seenE c ns es = viewE c es) := ⟨by simp [seenN, hg], by simp [seenE, hg]⟩
    have HGO : Hid (GOk ns es) := gokB_true.1 hg
    have lo := spec_LabelOk c
    cases hc : okB c
    · rw [hc] at lo
      have LO : Hid (∀ w, Calls Tryd.prog 35 #[.int .i64 c] w fun e w' => e = .returned (.bool false) ∧ w' = w) := lo
      have HS : Hid (seenN c ns es = [] ∧ seenE c ns es = []) := ⟨by rw [HG.out.1]; exact viewN_bad hc ns, by rw [HG.out.2]; exact viewE_bad hc es⟩
      clear lo
      go_wp2_with (go_at_call 35; refine use (LO.out _) ?_)
      refine bodyPost_ret (v := .agg #[.slice none 0 0, .slice none 0 0]) (by simp [*, results, Tryd.results11, go_sem]) rfl ?_
      exact ⟨rfl, (HB1.out.setCell (by simp) _).setCell (by simp) _⟩
    · rcases hbad with hb | hb
      · rw [hg] at hb; cases hb
      · rw [hc] at hb; cases hb
theorem lokB (c : Int) (b : Bool) (hb : okB c = b) (w : World) : Calls Tryd.prog 13 #[.int .i64 c] w fun e w' => e = .returned (.bool b) ∧ Below w.heap.size w w' :=
  (lok c w).mono fun e w' ⟨h, hw⟩ => ⟨by rw [h, hb], hw⟩
/-- A world over another (as in Gln: the two are never imported together). -/
structure Ov (w0 w : World) : Prop where
  b : Below w0.heap.size w0 w
theorem Ov.keep {w0 w w' : World} (h : Ov w0 w) (hb : Below w.heap.size w w') : Ov w0 w' := ⟨h.b.trans (hb.mono h.b.size)⟩
theorem countP_or_and {α : Type} (p q : α → Bool) : ∀ xs : List α, xs.countP (fun x => p x || q x) + xs.countP (fun x => p x && q x) = xs.countP p + xs.countP q
  | [] => rfl
  | x :: xs => by
    have ih := countP_or_and p q xs
    simp only [List.countP_cons]
    cases p x <;> cases q x <;> simp <;> omega
theorem countP_filter_of {α : Type} {p q : α → Bool} (h : ∀ x, p x = true → q x = true) (xs : List α) : (xs.filter q).countP p = xs.countP p := by
  rw [List.countP_filter]
  refine List.countP_congr fun x _ => ?_
  constructor
  · intro hx; simp only [Bool.and_eq_true] at hx; exact hx.1
  · intro hx; simp only [Bool.and_eq_true]; exact ⟨hx, h x hx⟩
theorem under_or_join {a b x : Int} (ha : okB a = true) (hb : okB b = true) (h : (underB x a || underB x b) = true) : underB x (joinI a b) = true := by
  have hr : underB (joinI a b) (joinI a b) = true := by
    rcases eight (join_ok ha hb) with e | e | e | e | e | e | e | e <;> rw [e] <;> decide
  rw [join_least _ ha hb, Bool.and_eq_true] at hr
  have hj := hr
  rw [Bool.or_eq_true] at h
  rcases h with h | h
  · exact under_trans h hj.1
  · exact under_trans h hj.2
theorem union_nodes {ns : List Nd} {es : List Ed} {a b : Int} (h : gokB ns es = true) (ha : okB a = true) (hb : okB b = true) :
    (seenN (joinI a b) ns es).countP (fun x => underB x.1 a || underB x.1 b) + (seenN (meetI a b) ns es).length = (seenN a ns es).length + (seenN b ns es).length := by
  simp only [seenN, h, if_true, viewN]
  rw [countP_filter_of (fun x hx => under_or_join ha hb hx), ← List.countP_eq_length_filter, ← List.countP_eq_length_filter, ← List.countP_eq_length_filter]
  have := countP_or_and (fun x : Nd => underB x.1 a) (fun x => underB x.1 b) ns
  have e : (fun x : Nd => underB x.1 (meetI a b)) = fun x => underB x.1 a && underB x.1 b := by funext x; exact meet_most _ ha hb
  rw [e]; exact this
theorem union_edges {ns : List Nd} {es : List Ed} {a b : Int} (h : gokB ns es = true) (ha : okB a = true) (hb : okB b = true) :
    (seenE a ns es).length + (seenE b ns es).length ≤ (seenE (joinI a b) ns es).length + (seenE (meetI a b) ns es).length := by
  simp only [seenE, h, if_true, viewE]
  rw [← List.countP_eq_length_filter, ← List.countP_eq_length_filter, ← List.countP_eq_length_filter, ← List.countP_eq_length_filter]
  have h1 := countP_or_and (fun x : Ed => underB x.1 a) (fun x => underB x.1 b) es
  have e : (fun x : Ed => underB x.1 (meetI a b)) = fun x => underB x.1 a && underB x.1 b := by funext x; exact meet_most _ ha hb
  have h2 : es.countP (fun x => underB x.1 a || underB x.1 b) ≤ es.countP (fun x => underB x.1 (joinI a b)) := List.countP_mono_left (fun x _ hx => under_or_join ha hb hx)
  rw [e]; omega
theorem seen_in {ns : List Nd} {es : List Ed} {c : Int} {x : Nd} (h : gokB ns es = true) (hx : x ∈ ns) : decide (x ∈ seenN c ns es) = underB x.1 c := by
  simp only [seenN, h, if_true, viewN]
  rw [Bool.eq_iff_iff, decide_eq_true_eq, List.mem_filter]
  exact ⟨fun h => h.2, fun h => ⟨hx, h⟩⟩
end Go.Proofs.YtcinjkpedigffaaDoor.Lab

/-
  Right graphs, views and neighbours, in plain words: no function of the program in sight.
-/
import Derived.Test.YtlnpbfeihjfnjabGreatDoorVie
import Derived.Test.YtlnpbfeihjfnjabGreatDoorNpl
namespace Go.Proofs.YtlnpbfeihjfnjabGreatDoor.Lab
open Go.RowKit
set_option linter.unusedVariables false
theorem pw_of_adj {α : Type} {f : α → Int} : ∀ {xs : List α}, (∀ (i : Nat) (x y : α), xs[i]? = some x → xs[i + 1]? = some y → f x < f y) → xs.Pairwise (fun a b => f a < f b)
  | [], _ => List.Pairwise.nil
  | [a], _ => List.pairwise_singleton _ _
  | a :: b :: xs, h => by
    have ih := pw_of_adj (xs := b :: xs) (fun i x y h1 h2 => h (i + 1) x y (by simpa using h1) (by simpa using h2))
    have hab := h 0 a b rfl rfl
    refine List.pairwise_cons.2 ⟨fun z hz => ?_, ih⟩
    rcases List.mem_cons.1 hz with rfl | hz
    · exact hab
    · exact Int.lt_trans hab ((List.pairwise_cons.1 ih).1 z hz)
theorem pw_get {α : Type} {f : α → Int} {xs : List α} (h : xs.Pairwise (fun a b => f a < f b)) {i j : Nat} (hij : i < j) {x y : α} (hx : xs[i]? = some x) (hy : xs[j]? = some y) : f x < f y := by
  obtain ⟨h1, rfl⟩ := List.getElem?_eq_some_iff.1 hx
  obtain ⟨h2, rfl⟩ := List.getElem?_eq_some_iff.1 hy
  exact List.pairwise_iff_getElem.1 h i j h1 h2 hij
theorem all_at {α : Type} {p : α → Prop} {xs : List α} : (∀ (i : Nat) (x : α), xs[i]? = some x → p x) ↔ ∀ x ∈ xs, p x :=
  ⟨fun h x hx => by obtain ⟨i, hi⟩ := mem_at hx; exact h i x hi, fun h i x hx => h x (List.mem_of_getElem? hx)⟩
theorem nodesOk_iff {ns : List Nd} : NodesOk ns ↔ (∀ x ∈ ns, nodeB x.1 x.2 = true) ∧ Asc ns ∧ ∀ a, okB a = true → cntNode a ns ≤ 5 := by
  constructor
  · rintro ⟨h1, h2, h3⟩
    exact ⟨all_at.1 h1, pw_of_adj (f := cod) h2, h3⟩
  · rintro ⟨h1, h2, h3⟩
    exact ⟨all_at.2 h1, fun i x y hx hy => pw_get (f := cod) h2 (Nat.lt_succ_self i) hx hy, h3⟩
theorem edgesOk_iff {ns : List Nd} {es : List Ed} : EdgesOk ns es ↔ (∀ x ∈ es, edB x = true ∧ (x.2.1, x.2.2.1) ∈ ns ∧ (x.2.2.2.1, x.2.2.2.2) ∈ ns) ∧ es.Pairwise (fun a b => eco a < eco b) ∧ ∀ a, okB a = true → cntEdge a es ≤ 7 := by
  constructor
  · rintro ⟨h1, h2, h3⟩
    have h1' := all_at.1 h1
    exact ⟨h1', pw_of_adj (f := eco) (fun i x y hx hy => (eco_lt (h1 i x hx).1 (h1 _ y hy).1).1 (h2 i x y hx hy)), h3⟩
  · rintro ⟨h1, h2, h3⟩
    have h1' := all_at.2 h1
    exact ⟨h1', fun i x y hx hy => (eco_lt (h1' i x hx).1 (h1' _ y hy).1).2 (pw_get (f := eco) h2 (Nat.lt_succ_self i) hx hy), h3⟩
theorem gok_view {ns : List Nd} {es : List Ed} (c : Int) (h : GOk ns es) : GOk (viewN c ns) (viewE c es) := by
  obtain ⟨h1, h2⟩ := h
  rw [nodesOk_iff] at h1
  rw [edgesOk_iff] at h2
  refine ⟨nodesOk_iff.2 ⟨fun x hx => h1.1 x ((List.mem_filter.1 hx).1), h1.2.1.filter _, fun a ha => Nat.le_trans (List.Sublist.countP_le List.filter_sublist) (h1.2.2 a ha)⟩, edgesOk_iff.2 ⟨fun x hx => ?_, h2.2.1.filter _, fun a ha => Nat.le_trans (List.Sublist.countP_le List.filter_sublist) (h2.2.2 a ha)⟩⟩
  obtain ⟨hm, hu⟩ := List.mem_filter.1 hx
  obtain ⟨g1, g2, g3⟩ := h2.1 x hm
  have ge := g1
  simp only [edB, edgeB, Bool.and_eq_true] at ge
  exact ⟨g1, List.mem_filter.2 ⟨g2, under_trans ge.1.2 hu⟩, List.mem_filter.2 ⟨g3, under_trans ge.2 hu⟩⟩
theorem gokB_view {ns : List Nd} {es : List Ed} (c : Int) (h : gokB ns es = true) : gokB (viewN c ns) (viewE c es) = true := gokB_true.2 (gok_view c (gokB_true.1 h))
theorem viewN_view (a b : Int) (ha : okB a = true) (hb : okB b = true) (ns : List Nd) : viewN b (viewN a ns) = viewN (meetI a b) ns := by
  unfold viewN
  rw [List.filter_filter]
  congr 1
  funext x
  rw [meet_most _ ha hb, Bool.and_comm]
theorem viewE_view (a b : Int) (ha : okB a = true) (hb : okB b = true) (es : List Ed) : viewE b (viewE a es) = viewE (meetI a b) es := by
  unfold viewE
  rw [List.filter_filter]
  congr 1
  funext x
  rw [meet_most _ ha hb, Bool.and_comm]
theorem under_seven {a : Int} (h : okB a = true) : underB a 7 = true := by
  rcases eight h with rfl | rfl | rfl | rfl | rfl | rfl | rfl | rfl <;> decide
theorem viewN_seven {ns : List Nd} (h : ∀ x ∈ ns, okB x.1 = true) : viewN 7 ns = ns := List.filter_eq_self.2 (fun x hx => under_seven (h x hx))
theorem viewE_seven {es : List Ed} (h : ∀ x ∈ es, okB x.1 = true) : viewE 7 es = es := List.filter_eq_self.2 (fun x hx => under_seven (h x hx))
theorem gok_labels {ns : List Nd} {es : List Ed} (h : GOk ns es) : (∀ x ∈ ns, okB x.1 = true) ∧ ∀ x ∈ es, okB x.1 = true :=
  ⟨fun x hx => (nodeB_true ((nodesOk_iff.1 h.1).1 x hx)).1, fun x hx => edB_ok ((edgesOk_iff.1 h.2).1 x hx).1⟩
/-- What the graph's functions answer, graph by graph. -/
theorem seen_meet {ns : List Nd} {es : List Ed} {a b : Int} (h : gokB ns es = true) (ha : okB a = true) (hb : okB b = true) :
    seenN b (seenN a ns es) (seenE a ns es) = seenN (meetI a b) ns es ∧ seenE b (seenN a ns es) (seenE a ns es) = seenE (meetI a b) ns es := by
  have hv := gokB_view a h
  simp only [seenN, seenE, h, hv, if_true]
  exact ⟨viewN_view a b ha hb ns, viewE_view a b ha hb es⟩
theorem seen_seven {ns : List Nd} {es : List Ed} (h : gokB ns es = true) : seenN 7 ns es = ns ∧ seenE 7 ns es = es := by
  have := gok_labels (gokB_true.1 h)
  simp only [seenN, seenE, h, if_true]
  exact ⟨viewN_seven this.1, viewE_seven this.2⟩
theorem seen_bad {ns : List Nd} {es : List Ed} {c : Int} (h : gokB ns es = false ∨ okB c = false) : seenN c ns es = [] ∧ seenE c ns es = [] := by
  rcases h with h | h
  · simp [seenN, seenE, h]
  · constructor
    · unfold seenN; split
      · exact viewN_bad h ns
      · rfl
    · unfold seenE; split
      · exact viewE_bad h es
      · rfl
theorem seen_ok {ns : List Nd} {es : List Ed} (c : Int) (h : gokB ns es = true) : gokB (seenN c ns es) (seenE c ns es) = true := by
  simp only [seenN, seenE, h, if_true]
  exact gokB_view c h
theorem seen_mem {ns : List Nd} {es : List Ed} {c : Int} {x : Nd} (h : x ∈ seenN c ns es) : underB x.1 c = true ∧ x ∈ ns := by
  unfold seenN at h
  split at h
  · exact ⟨(List.mem_filter.1 h).2, (List.mem_filter.1 h).1⟩
  · simp at h
theorem seen_cnt {ns : List Nd} {es : List Ed} (c : Int) (h : gokB ns es = true) : (seenN c ns es).length = ns.countP (fun x => underB x.1 c) := by
  simp only [seenN, h, if_true, viewN, List.countP_eq_length_filter]
theorem cntP_step {α : Type} {p : α → Bool} {xs : List α} {k : Nat} {x : α} (h : xs[k]? = some x) : (xs.take (k + 1)).countP p = (xs.take k).countP p + if p x then 1 else 0 := by
  rw [List.take_add_one, h, List.countP_append]
  cases hp : p x <;> simp [hp]
theorem gok_nil : GOk [] [] := ⟨nodesOk_iff.2 ⟨by simp, List.Pairwise.nil, by simp [cntNode]⟩, edgesOk_iff.2 ⟨by simp, List.Pairwise.nil, by simp [cntEdge]⟩⟩
theorem gokB_nil : gokB [] [] = true := gokB_true.2 gok_nil
end Go.Proofs.YtlnpbfeihjfnjabGreatDoor.Lab

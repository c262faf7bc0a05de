/-
  Plain facts on who is near whom: the nodes that edges join to one, in order, each once.
  Right graphs, views and neighbours, in plain words: no function of the program in sight.
-/
import Derived.Test.YtlnpbfeihjfnjabGreatDoorQBpl
import Derived.Test.YtlnpbfeihjfnjabGreatDoorQVie
namespace Go.Proofs.YtlnpbfeihjfnjabGreatDoor.Lab
open Go.RowKit Go.ChangeMaps
set_option linter.unusedVariables false
/-- The other end of an edge. -/
def otherI (x : Ed) (n : Nd) : Option Nd := if n = (x.2.1, x.2.2.1) then some (x.2.2.2.1, x.2.2.2.2) else if n = (x.2.2.2.1, x.2.2.2.2) then some (x.2.1, x.2.2.1) else none
/-- Nodes in the order of their numbers. -/
def Asc (xs : List Nd) : Prop := xs.Pairwise (fun a b => cod a < cod b)
theorem asc_ext : ∀ {xs ys : List Nd}, Asc xs → Asc ys → (∀ z, z ∈ xs ↔ z ∈ ys) → xs = ys
  | [], [], _, _, _ => rfl
  | [], y :: ys, _, _, h => by have := (h y).2 (List.mem_cons_self ..); cases this
  | x :: xs, [], _, _, h => by have := (h x).1 (List.mem_cons_self ..); cases this
  | x :: xs, y :: ys, hx, hy, h => by
    obtain ⟨h1, h2⟩ := List.pairwise_cons.1 hx
    obtain ⟨h3, h4⟩ := List.pairwise_cons.1 hy
    have e : x = y := by
      rcases List.mem_cons.1 ((h x).1 (List.mem_cons_self ..)) with e | hm
      · exact e
      · rcases List.mem_cons.1 ((h y).2 (List.mem_cons_self ..)) with e | hm2
        · exact e.symm
        · have := h3 x hm; have := h1 y hm2; omega
    subst e
    congr 1
    refine asc_ext h2 h4 (fun z => ⟨fun hz => ?_, fun hz => ?_⟩)
    · rcases List.mem_cons.1 ((h z).1 (List.mem_cons_of_mem _ hz)) with e | hm
      · subst e; have := h1 z hz; omega
      · exact hm
    · rcases List.mem_cons.1 ((h z).2 (List.mem_cons_of_mem _ hz)) with e | hm
      · subst e; have := h3 z hz; omega
      · exact hm
/-- A node put into its place. -/
def insN (x : Nd) : List Nd → List Nd
  | [] => [x]
  | y :: ys => if cod y < cod x then y :: insN x ys else x :: y :: ys
theorem mem_insN {x z : Nd} : ∀ {ys : List Nd}, z ∈ insN x ys ↔ z = x ∨ z ∈ ys
  | [] => by simp [insN]
  | y :: ys => by
    unfold insN
    split
    · simp only [List.mem_cons, mem_insN]
      constructor
      · rintro (h | h | h) <;> simp [h]
      · rintro (h | h | h) <;> simp [h]
    · simp
theorem asc_insN {x : Nd} : ∀ {ys : List Nd}, Asc ys → (∀ y ∈ ys, cod y ≠ cod x) → Asc (insN x ys)
  | [], _, _ => by simp [insN, Asc]
  | y :: ys, h, hne => by
    obtain ⟨h1, h2⟩ := List.pairwise_cons.1 h
    unfold insN
    split
    · refine List.pairwise_cons.2 ⟨fun z hz => ?_, asc_insN h2 (fun z hz => hne z (List.mem_cons_of_mem _ hz))⟩
      rcases mem_insN.1 hz with rfl | hz
      · assumption
      · exact h1 z hz
    · have : cod x < cod y := by have := hne y (List.mem_cons_self ..); omega
      refine List.pairwise_cons.2 ⟨fun z hz => ?_, h⟩
      rcases List.mem_cons.1 hz with rfl | hz
      · exact this
      · have := h1 z hz; omega
theorem insN_len (x : Nd) : ∀ ys : List Nd, (insN x ys).length = ys.length + 1
  | [] => rfl
  | y :: ys => by unfold insN; split <;> simp [insN_len x ys]
/-- One edge more is looked at. -/
def nearStep (n : Nd) (acc : List Nd) (x : Ed) : List Nd := match otherI x n with
  | none => acc
  | some o => if o ∈ acc then acc else insN o acc
/-- The nodes near one. -/
def nearF (n : Nd) (es : List Ed) : List Nd := es.foldl (nearStep n) []
theorem nearF_step {n : Nd} {es : List Ed} {k : Nat} {x : Ed} (h : es[k]? = some x) : nearF n (es.take (k + 1)) = nearStep n (nearF n (es.take k)) x := by
  unfold nearF
  rw [List.take_add_one, h, List.foldl_append]
  rfl
theorem otherI_ok {x : Ed} {n o : Nd} (hx : edB x = true) (h : otherI x n = some o) : nodeB o.1 o.2 = true := by
  have hp := edB_parts hx
  unfold otherI at h
  split at h
  · cases h; exact hp.2
  · split at h
    · cases h; exact hp.1
    · cases h
theorem near_spec (n : Nd) : ∀ (es : List Ed) (acc : List Nd), (∀ x ∈ es, edB x = true) → Asc acc → (∀ y ∈ acc, nodeB y.1 y.2 = true) →
    Asc (es.foldl (nearStep n) acc) ∧ (∀ y ∈ es.foldl (nearStep n) acc, nodeB y.1 y.2 = true) ∧ ∀ z, z ∈ es.foldl (nearStep n) acc ↔ z ∈ acc ∨ ∃ x ∈ es, otherI x n = some z
  | [], acc, _, h1, h2 => ⟨h1, h2, fun z => by simp⟩
  | x :: es, acc, he, h1, h2 => by
    have hs : Asc (nearStep n acc x) ∧ (∀ y ∈ nearStep n acc x, nodeB y.1 y.2 = true) ∧ ∀ z, z ∈ nearStep n acc x ↔ z ∈ acc ∨ otherI x n = some z := by
      unfold nearStep
      cases ho : otherI x n with
      | none => exact ⟨h1, h2, fun z => by simp⟩
      | some o =>
        have hok := otherI_ok (he x (List.mem_cons_self ..)) ho
        by_cases hm : o ∈ acc
        · simp only [if_pos hm]
          refine ⟨h1, h2, fun z => ⟨.inl, fun h => ?_⟩⟩
          rcases h with h | h
          · exact h
          · cases h; exact hm
        · simp only [if_neg hm]
          refine ⟨asc_insN h1 (fun y hy e => hm ((cod_inj hok e.symm) ▸ hy)), fun y hy => ?_, fun z => ?_⟩
          · rcases mem_insN.1 hy with rfl | hy
            · exact hok
            · exact h2 y hy
          · rw [mem_insN]
            constructor
            · rintro (rfl | h)
              · exact .inr rfl
              · exact .inl h
            · rintro (h | h)
              · exact .inr h
              · cases h; exact .inl rfl
    obtain ⟨k1, k2, k3⟩ := near_spec n es (nearStep n acc x) (fun y hy => he y (List.mem_cons_of_mem _ hy)) hs.1 hs.2.1
    refine ⟨k1, k2, fun z => ?_⟩
    rw [List.foldl_cons, k3, hs.2.2]
    simp only [List.mem_cons, exists_eq_or_imp]
    constructor
    · rintro ((h | h) | h)
      · exact .inl h
      · exact .inr (.inl h)
      · exact .inr (.inr h)
    · rintro (h | h | h)
      · exact .inl (.inl h)
      · exact .inl (.inr h)
      · exact .inr h
theorem nearF_asc {n : Nd} {es : List Ed} (h : ∀ x ∈ es, edB x = true) : Asc (nearF n es) := (near_spec n es [] h List.Pairwise.nil (by simp)).1
theorem nearF_ok {n : Nd} {es : List Ed} (h : ∀ x ∈ es, edB x = true) : ∀ y ∈ nearF n es, nodeB y.1 y.2 = true := (near_spec n es [] h List.Pairwise.nil (by simp)).2.1
theorem nearF_mem {n : Nd} {es : List Ed} (h : ∀ x ∈ es, edB x = true) (z : Nd) : z ∈ nearF n es ↔ ∃ x ∈ es, otherI x n = some z := by
  have := (near_spec n es [] h List.Pairwise.nil (by simp)).2.2 z
  simpa [nearF] using this
theorem nearF_len (n : Nd) : ∀ (es : List Ed) (acc : List Nd), (es.foldl (nearStep n) acc).length ≤ acc.length + es.length
  | [], acc => by simp
  | x :: es, acc => by
    have h1 := nearF_len n es (nearStep n acc x)
    have h2 : (nearStep n acc x).length ≤ acc.length + 1 := by
      unfold nearStep
      split
      · omega
      · split
        · omega
        · rw [insN_len]; omega
    simp only [List.foldl_cons, List.length_cons]
    omega
theorem nearF_le (n : Nd) (es : List Ed) : (nearF n es).length ≤ es.length := by have := nearF_len n es []; simpa [nearF] using this
/-- A list of nodes in order, by their numbers sorted. -/
theorem sorted_nodes {os rs : List Nd} {ss : List Int} (hok : ∀ o ∈ os, nodeB o.1 o.2 = true) (hp : ss.Perm (os.map cod)) (hnd : (os.map cod).Nodup) (hr : rs.map cod = ss.mergeSort (fun x y => decide (x ≤ y))) (hm : ∀ r ∈ rs, r ∈ os) : Asc rs ∧ ∀ z, z ∈ rs ↔ z ∈ os := by
  have hs : (ss.mergeSort (fun x y => decide (x ≤ y))).Pairwise (fun a b => (decide (a ≤ b)) = true) := List.pairwise_mergeSort (le := fun x y : Int => decide (x ≤ y)) (fun a b c h1 h2 => by simp at h1 h2 ⊢; omega) (fun a b => by simp; omega) ss
  have hpm : (ss.mergeSort (fun x y => decide (x ≤ y))).Perm (os.map cod) := (List.mergeSort_perm ss _).trans hp
  have hn : (rs.map cod).Nodup := by rw [hr]; exact hpm.nodup_iff.2 hnd
  refine ⟨?_, fun z => ⟨hm z, fun hz => ?_⟩⟩
  · rw [← hr] at hs
    have h1 : rs.Pairwise (fun a b => cod a ≤ cod b) := by
      have := List.pairwise_map.1 hs
      exact this.imp (fun h => by simpa using h)
    have h2 : rs.Pairwise (fun a b => cod a ≠ cod b) := List.pairwise_map.1 hn
    exact (h1.and h2).imp (fun h => by omega)
  · have : cod z ∈ rs.map cod := by rw [hr]; exact hpm.mem_iff.2 (List.mem_map.2 ⟨z, hz, rfl⟩)
    obtain ⟨y, hy, e⟩ := List.mem_map.1 this
    have : y = z := cod_inj (hok y (hm y hy)) e
    rw [← this]; exact hy
end Go.Proofs.YtlnpbfeihjfnjabGreatDoor.Lab
namespace Go.Proofs.YtlnpbfeihjfnjabGreatDoor.Lab
open Go.RowKit
set_option linter.unusedVariables false
theorem pw_of_adj {α : Type} {f : α → Int} : ∀ {xs : List α}, (∀ (i : Nat) (x y : α), xs[i]? = some x → xs[i + 1]? = some y → f x < f y) → xs.Pairwise (fun a b => f a < f b)
  | [], _ => List.Pairwise.nil
  | [a], _ => List.pairwise_singleton _ _
  | a :: b :: xs, h => by
    have ih := pw_of_adj (xs := b :: xs) (fun i x y h1 h2 => h (i + 1) x y (by simpa using h1) (by simpa using h2))
    have hab := h 0 a b rfl rfl
    refine List.pairwise_cons.2 ⟨fun z hz => ?_, ih⟩
    rcases List.mem_cons.1 hz with rfl | hz
    · exact hab
    · exact Int.lt_trans hab ((List.pairwise_cons.1 ih).1 z hz)
theorem pw_get {α : Type} {f : α → Int} {xs : List α} (h : xs.Pairwise (fun a b => f a < f b)) {i j : Nat} (hij : i < j) {x y : α} (hx : xs[i]? = some x) (hy : xs[j]? = some y) : f x < f y := by
  obtain ⟨h1, rfl⟩ := List.getElem?_eq_some_iff.1 hx
  obtain ⟨h2, rfl⟩ := List.getElem?_eq_some_iff.1 hy
  exact List.pairwise_iff_getElem.1 h i j h1 h2 hij
theorem all_at {α : Type} {p : α → Prop} {xs : List α} : (∀ (i : Nat) (x : α), xs[i]? = some x → p x) ↔ ∀ x ∈ xs, p x :=
  ⟨fun h x hx => by obtain ⟨i, hi⟩ := mem_at hx; exact h i x hi, fun h i x hx => h x (List.mem_of_getElem? hx)⟩
theorem nodesOk_iff {ns : List Nd} : NodesOk ns ↔ (∀ x ∈ ns, nodeB x.1 x.2 = true) ∧ Asc ns ∧ ∀ a, okB a = true → cntNode a ns ≤ 5 := by
  constructor
  · rintro ⟨h1, h2, h3⟩
    exact ⟨all_at.1 h1, pw_of_adj (f := cod) h2, h3⟩
  · rintro ⟨h1, h2, h3⟩
    exact ⟨all_at.2 h1, fun i x y hx hy => pw_get (f := cod) h2 (Nat.lt_succ_self i) hx hy, h3⟩
theorem edgesOk_iff {ns : List Nd} {es : List Ed} : EdgesOk ns es ↔ (∀ x ∈ es, edB x = true ∧ (x.2.1, x.2.2.1) ∈ ns ∧ (x.2.2.2.1, x.2.2.2.2) ∈ ns) ∧ es.Pairwise (fun a b => eco a < eco b) ∧ ∀ a, okB a = true → cntEdge a es ≤ 7 := by
  constructor
  · rintro ⟨h1, h2, h3⟩
    have h1' := all_at.1 h1
    exact ⟨h1', pw_of_adj (f := eco) (fun i x y hx hy => (eco_lt (h1 i x hx).1 (h1 _ y hy).1).1 (h2 i x y hx hy)), h3⟩
  · rintro ⟨h1, h2, h3⟩
    have h1' := all_at.2 h1
    exact ⟨h1', fun i x y hx hy => (eco_lt (h1' i x hx).1 (h1' _ y hy).1).2 (pw_get (f := eco) h2 (Nat.lt_succ_self i) hx hy), h3⟩
theorem gok_view {ns : List Nd} {es : List Ed} (c : Int) (h : GOk ns es) : GOk (viewN c ns) (viewE c es) := by
  obtain ⟨h1, h2⟩ := h
  rw [nodesOk_iff] at h1
  rw [edgesOk_iff] at h2
  refine ⟨nodesOk_iff.2 ⟨fun x hx => h1.1 x ((List.mem_filter.1 hx).1), h1.2.1.filter _, fun a ha => Nat.le_trans (List.Sublist.countP_le List.filter_sublist) (h1.2.2 a ha)⟩, edgesOk_iff.2 ⟨fun x hx => ?_, h2.2.1.filter _, fun a ha => Nat.le_trans (List.Sublist.countP_le List.filter_sublist) (h2.2.2 a ha)⟩⟩
  obtain ⟨hm, hu⟩ := List.mem_filter.1 hx
  obtain ⟨g1, g2, g3⟩ := h2.1 x hm
  have ge := g1
  simp only [edB, edgeB, Bool.and_eq_true] at ge
  exact ⟨g1, List.mem_filter.2 ⟨g2, under_trans ge.1.2 hu⟩, List.mem_filter.2 ⟨g3, under_trans ge.2 hu⟩⟩
theorem gokB_view {ns : List Nd} {es : List Ed} (c : Int) (h : gokB ns es = true) : gokB (viewN c ns) (viewE c es) = true := gokB_true.2 (gok_view c (gokB_true.1 h))
theorem viewN_view (a b : Int) (ha : okB a = true) (hb : okB b = true) (ns : List Nd) : viewN b (viewN a ns) = viewN (meetI a b) ns := by
  unfold viewN
  rw [List.filter_filter]
  congr 1
  funext x
  rw [meet_most _ ha hb, Bool.and_comm]
theorem viewE_view (a b : Int) (ha : okB a = true) (hb : okB b = true) (es : List Ed) : viewE b (viewE a es) = viewE (meetI a b) es := by
  unfold viewE
  rw [List.filter_filter]
  congr 1
  funext x
  rw [meet_most _ ha hb, Bool.and_comm]
theorem under_seven {a : Int} (h : okB a = true) : underB a 7 = true := by
  rcases eight h with rfl | rfl | rfl | rfl | rfl | rfl | rfl | rfl <;> decide
theorem viewN_seven {ns : List Nd} (h : ∀ x ∈ ns, okB x.1 = true) : viewN 7 ns = ns := List.filter_eq_self.2 (fun x hx => under_seven (h x hx))
theorem viewE_seven {es : List Ed} (h : ∀ x ∈ es, okB x.1 = true) : viewE 7 es = es := List.filter_eq_self.2 (fun x hx => under_seven (h x hx))
theorem gok_labels {ns : List Nd} {es : List Ed} (h : GOk ns es) : (∀ x ∈ ns, okB x.1 = true) ∧ ∀ x ∈ es, okB x.1 = true :=
  ⟨fun x hx => (nodeB_true ((nodesOk_iff.1 h.1).1 x hx)).1, fun x hx => edB_ok ((edgesOk_iff.1 h.2).1 x hx).1⟩
/-- What the graph's functions answer, graph by graph. -/
theorem seen_meet {ns : List Nd} {es : List Ed} {a b : Int} (h : gokB ns es = true) (ha : okB a = true) (hb : okB b = true) :
    seenN b (seenN a ns es) (seenE a ns es) = seenN (meetI a b) ns es ∧ seenE b (seenN a ns es) (seenE a ns es) = seenE (meetI a b) ns es := by
  have hv := gokB_view a h
  simp only [seenN, seenE, h, hv, if_true]
  exact ⟨viewN_view a b ha hb ns, viewE_view a b ha hb es⟩
theorem seen_seven {ns : List Nd} {es : List Ed} (h : gokB ns es = true) : seenN 7 ns es = ns ∧ seenE 7 ns es = es := by
  have := gok_labels (gokB_true.1 h)
  simp only [seenN, seenE, h, if_true]
  exact ⟨viewN_seven this.1, viewE_seven this.2⟩
theorem seen_bad {ns : List Nd} {es : List Ed} {c : Int} (h : gokB ns es = false ∨ okB c = false) : seenN c ns es = [] ∧ seenE c ns es = [] := by
  rcases h with h | h
  · simp [seenN, seenE, h]
  · constructor
    · unfold seenN; split
      · exact viewN_bad h ns
      · rfl
    · unfold seenE; split
      · exact viewE_bad h es
      · rfl
theorem seen_ok {ns : List Nd} {es : List Ed} (c : Int) (h : gokB ns es = true) : gokB (seenN c ns es) (seenE c ns es) = true := by
  simp only [seenN, seenE, h, if_true]
  exact gokB_view c h
theorem seen_mem {ns : List Nd} {es : List Ed} {c : Int} {x : Nd} (h : x ∈ seenN c ns es) : underB x.1 c = true ∧ x ∈ ns := by
  unfold seenN at h
  split at h
  · exact ⟨(List.mem_filter.1 h).2, (List.mem_filter.1 h).1⟩
  · simp at h
theorem seen_cnt {ns : List Nd} {es : List Ed} (c : Int) (h : gokB ns es = true) : (seenN c ns es).length = ns.countP (fun x => underB x.1 c) := by
  simp only [seenN, h, if_true, viewN, List.countP_eq_length_filter]
theorem cntP_step {α : Type} {p : α → Bool} {xs : List α} {k : Nat} {x : α} (h : xs[k]? = some x) : (xs.take (k + 1)).countP p = (xs.take k).countP p + if p x then 1 else 0 := by
  rw [List.take_add_one, h, List.countP_append]
  cases hp : p x <;> simp [hp]
theorem gok_nil : GOk [] [] := ⟨nodesOk_iff.2 ⟨by simp, List.Pairwise.nil, by simp [cntNode]⟩, edgesOk_iff.2 ⟨by simp, List.Pairwise.nil, by simp [cntEdge]⟩⟩
theorem gokB_nil : gokB [] [] = true := gokB_true.2 gok_nil
end Go.Proofs.YtlnpbfeihjfnjabGreatDoor.Lab

/-
  Plain facts on who is near whom: the nodes that edges join to one, in order, each once.
  Right graphs, views and neighbours, in plain words: no function of the program in sight.
  Labels' bytes in plain words: which nodes and edges there are of a label, and how they lie as bytes.
-/
import Derived.Test.YtlnpbfeihjfnjaaGreatDoorBpl
import Derived.Test.YtlnpbfeihjfnjaaGreatDoorVie
import Derived.Test.YtlnpbfeihjfnjaaGreatDoorRErr
namespace Go.Proofs.YtlnpbfeihjfnjaaGreatDoor.Lab
open Go.RowKit Go.ChangeMaps
set_option linter.unusedVariables false
/-- The other end of an edge. -/
def otherI (x : Ed) (n : Nd) : Option Nd := if n = (x.2.1, x.2.2.1) then some (x.2.2.2.1, x.2.2.2.2) else if n = (x.2.2.2.1, x.2.2.2.2) then some (x.2.1, x.2.2.1) else none
/-- Nodes in the order of their numbers. -/
def Asc (xs : List Nd) : Prop := xs.Pairwise (fun a b => cod a < cod b)
theorem asc_ext : ∀ {xs ys : List Nd}, Asc xs → Asc ys → (∀ z, z ∈ xs ↔ z ∈ ys) → xs = ys
  | [], [], _, _, _ => rfl
  | [], y :: ys, _, _, h => by have := (h y).2 (List.mem_cons_self ..); cases this
  | x :: xs, [], _, _, h => by have := (h x).1 (List.mem_cons_self ..); cases this
  | x :: xs, y :: ys, hx, hy, h => by
    obtain ⟨h1, h2⟩ := List.pairwise_cons.1 hx
    obtain ⟨h3, h4⟩ := List.pairwise_cons.1 hy
    have e : x = y := by
      rcases List.mem_cons.1 ((h x).1 (List.mem_cons_self ..)) with e | hm
      · exact e
      · rcases List.mem_cons.1 ((h y).2 (List.mem_cons_self ..)) with e | hm2
        · exact e.symm
        · have := h3 x hm; have := h1 y hm2; omega
    subst e
    congr 1
    refine asc_ext h2 h4 (fun z => ⟨fun hz => ?_, fun hz => ?_⟩)
    · rcases List.mem_cons.1 ((h z).1 (List.mem_cons_of_mem _ hz)) with e | hm
      · subst e; have := h1 z hz; omega
      · exact hm
    · rcases List.mem_cons.1 ((h z).2 (List.mem_cons_of_mem _ hz)) with e | hm
      · subst e; have := h3 z hz; omega
      · exact hm
/-- A node put into its place. -/
def insN (x : Nd) : List Nd → List Nd
  | [] => [x]
  | y :: ys => if cod y < cod x then y :: insN x ys else x :: y :: ys
theorem mem_insN {x z : Nd} : ∀ {ys : List Nd}, z ∈ insN x ys ↔ z = x ∨ z ∈ ys
  | [] => by simp [insN]
  | y :: ys => by
    unfold insN
    split
    · simp only [List.mem_cons, mem_insN]
      constructor
      · rintro (h | h | h) <;> simp [h]
      · rintro (h | h | h) <;> simp [h]
    · simp
theorem asc_insN {x : Nd} : ∀ {ys : List Nd}, Asc ys → (∀ y ∈ ys, cod y ≠ cod x) → Asc (insN x ys)
  | [], _, _ => by simp [insN, Asc]
  | y :: ys, h, hne => by
    obtain ⟨h1, h2⟩ := List.pairwise_cons.1 h
    unfold insN
    split
    · refine List.pairwise_cons.2 ⟨fun z hz => ?_, asc_insN h2 (fun z hz => hne z (List.mem_cons_of_mem _ hz))⟩
      rcases mem_insN.1 hz with rfl | hz
      · assumption
      · exact h1 z hz
    · have : cod x < cod y := by have := hne y (List.mem_cons_self ..); omega
      refine List.pairwise_cons.2 ⟨fun z hz => ?_, h⟩
      rcases List.mem_cons.1 hz with rfl | hz
      · exact this
      · have := h1 z hz; omega
theorem insN_len (x : Nd) : ∀ ys : List Nd, (insN x ys).length = ys.length + 1
  | [] => rfl
  | y :: ys => by unfold insN; split <;> simp [insN_len x ys]
/-- One edge more is looked at. -/
def nearStep (n : Nd) (acc : List Nd) (x : Ed) : List Nd := match otherI x n with
  | none => acc
  | some o => if o ∈ acc then acc else insN o acc
/-- The nodes near one. -/
def nearF (n : Nd) (es : List Ed) : List Nd := es.foldl (nearStep n) []
theorem nearF_step {n : Nd} {es : List Ed} {k : Nat} {x : Ed} (h : es[k]? = some x) : nearF n (es.take (k + 1)) = nearStep n (nearF n (es.take k)) x := by
  unfold nearF
  rw [List.take_add_one, h, List.foldl_append]
  rfl
theorem otherI_ok {x : Ed} {n o : Nd} (hx : edB x = true) (h : otherI x n = some o) : nodeB o.1 o.2 = true := by
  have hp := edB_parts hx
  unfold otherI at h
  split at h
  · cases h; exact hp.2
  · split at h
    · cases h; exact hp.1
    · cases h
theorem near_spec (n : Nd) : ∀ (es : List Ed) (acc : List Nd), (∀ x ∈ es, edB x = true) → Asc acc → (∀ y ∈ acc, nodeB y.1 y.2 = true) →
    Asc (es.foldl (nearStep n) acc) ∧ (∀ y ∈ es.foldl (nearStep n) acc, nodeB y.1 y.2 = true) ∧ ∀ z, z ∈ es.foldl (nearStep n) acc ↔ z ∈ acc ∨ ∃ x ∈ es, otherI x n = some z
  | [], acc, _, h1, h2 => ⟨h1, h2, fun z => by simp⟩
  | x :: es, acc, he, h1, h2 => by
    have hs : Asc (nearStep n acc x) ∧ (∀ y ∈ nearStep n acc x, nodeB y.1 y.2 = true) ∧ ∀ z, z ∈ nearStep n acc x ↔ z ∈ acc ∨ otherI x n = some z := by
      unfold nearStep
      cases ho : otherI x n with
      | none => exact ⟨h1, h2, fun z => by simp⟩
      | some o =>
        have hok := otherI_ok (he x (List.mem_cons_self ..)) ho
        by_cases hm : o ∈ acc
        · simp only [if_pos hm]
          refine ⟨h1, h2, fun z => ⟨.inl, fun h => ?_⟩⟩
          rcases h with h | h
          · exact h
          · cases h; exact hm
        · simp only [if_neg hm]
          refine ⟨asc_insN h1 (fun y hy e => hm ((cod_inj hok e.symm) ▸ hy)), fun y hy => ?_, fun z => ?_⟩
          · rcases mem_insN.1 hy with rfl | hy
            · exact hok
            · exact h2 y hy
          · rw [mem_insN]
            constructor
            · rintro (rfl | h)
              · exact .inr rfl
              · exact .inl h
            · rintro (h | h)
              · exact .inr h
              · cases h; exact .inl rfl
    obtain ⟨k1, k2, k3⟩ := near_spec n es (nearStep n acc x) (fun y hy => he y (List.mem_cons_of_mem _ hy)) hs.1 hs.2.1
    refine ⟨k1, k2, fun z => ?_⟩
    rw [List.foldl_cons, k3, hs.2.2]
    simp only [List.mem_cons, exists_eq_or_imp]
    constructor
    · rintro ((h | h) | h)
      · exact .inl h
      · exact .inr (.inl h)
      · exact .inr (.inr h)
    · rintro (h | h | h)
      · exact .inl (.inl h)
      · exact .inl (.inr h)
      · exact .inr h
theorem nearF_asc {n : Nd} {es : List Ed} (h : ∀ x ∈ es, edB x = true) : Asc (nearF n es) := (near_spec n es [] h List.Pairwise.nil (by simp)).1
theorem nearF_ok {n : Nd} {es : List Ed} (h : ∀ x ∈ es, edB x = true) : ∀ y ∈ nearF n es, nodeB y.1 y.2 = true := (near_spec n es [] h List.Pairwise.nil (by simp)).2.1
theorem nearF_mem {n : Nd} {es : List Ed} (h : ∀ x ∈ es, edB x = true) (z : Nd) : z ∈ nearF n es ↔ ∃ x ∈ es, otherI x n = some z := by
  have := (near_spec n es [] h List.Pairwise.nil (by simp)).2.2 z
  simpa [nearF] using this
theorem nearF_len (n : Nd) : ∀ (es : List Ed) (acc : List Nd), (es.foldl (nearStep n) acc).length ≤ acc.length + es.length
  | [], acc => by simp
  | x :: es, acc => by
    have h1 := nearF_len n es (nearStep n acc x)
    have h2 : (nearStep n acc x).length ≤ acc.length + 1 := by
      unfold nearStep
      split
      · omega
      · split
        · omega
        · rw [insN_len]; omega
    simp only [List.foldl_cons, List.length_cons]
    omega
theorem nearF_le (n : Nd) (es : List Ed) : (nearF n es).length ≤ es.length := by have := nearF_len n es []; simpa [nearF] using this
/-- A list of nodes in order, by their numbers sorted. -/
theorem sorted_nodes {os rs : List Nd} {ss : List Int} (hok : ∀ o ∈ os, nodeB o.1 o.2 = true) (hp : ss.Perm (os.map cod)) (hnd : (os.map cod).Nodup) (hr : rs.map cod = ss.mergeSort (fun x y => decide (x ≤ y))) (hm : ∀ r ∈ rs, r ∈ os) : Asc rs ∧ ∀ z, z ∈ rs ↔ z ∈ os := by
  have hs : (ss.mergeSort (fun x y => decide (x ≤ y))).Pairwise (fun a b => (decide (a ≤ b)) = true) := List.pairwise_mergeSort (le := fun x y : Int => decide (x ≤ y)) (fun a b c h1 h2 => by simp at h1 h2 ⊢; omega) (fun a b => by simp; omega) ss
  have hpm : (ss.mergeSort (fun x y => decide (x ≤ y))).Perm (os.map cod) := (List.mergeSort_perm ss _).trans hp
  have hn : (rs.map cod).Nodup := by rw [hr]; exact hpm.nodup_iff.2 hnd
  refine ⟨?_, fun z => ⟨hm z, fun hz => ?_⟩⟩
  · rw [← hr] at hs
    have h1 : rs.Pairwise (fun a b => cod a ≤ cod b) := by
      have := List.pairwise_map.1 hs
      exact this.imp (fun h => by simpa using h)
    have h2 : rs.Pairwise (fun a b => cod a ≠ cod b) := List.pairwise_map.1 hn
    exact (h1.and h2).imp (fun h => by omega)
  · have : cod z ∈ rs.map cod := by rw [hr]; exact hpm.mem_iff.2 (List.mem_map.2 ⟨z, hz, rfl⟩)
    obtain ⟨y, hy, e⟩ := List.mem_map.1 this
    have : y = z := cod_inj (hok y (hm y hy)) e
    rw [← this]; exact hy
end Go.Proofs.YtlnpbfeihjfnjaaGreatDoor.Lab
namespace Go.Proofs.YtlnpbfeihjfnjaaGreatDoor.Lab
open Go.RowKit
set_option linter.unusedVariables false
theorem pw_of_adj {α : Type} {f : α → Int} : ∀ {xs : List α}, (∀ (i : Nat) (x y : α), xs[i]? = some x → xs[i + 1]? = some y → f x < f y) → xs.Pairwise (fun a b => f a < f b)
  | [], _ => List.Pairwise.nil
  | [a], _ => List.pairwise_singleton _ _
  | a :: b :: xs, h => by
    have ih := pw_of_adj (xs := b :: xs) (fun i x y h1 h2 => h (i + 1) x y (by simpa using h1) (by simpa using h2))
    have hab := h 0 a b rfl rfl
    refine List.pairwise_cons.2 ⟨fun z hz => ?_, ih⟩
    rcases List.mem_cons.1 hz with rfl | hz
    · exact hab
    · exact Int.lt_trans hab ((List.pairwise_cons.1 ih).1 z hz)
theorem pw_get {α : Type} {f : α → Int} {xs : List α} (h : xs.Pairwise (fun a b => f a < f b)) {i j : Nat} (hij : i < j) {x y : α} (hx : xs[i]? = some x) (hy : xs[j]? = some y) : f x < f y := by
  obtain ⟨h1, rfl⟩ := List.getElem?_eq_some_iff.1 hx
  obtain ⟨h2, rfl⟩ := List.getElem?_eq_some_iff.1 hy
  exact List.pairwise_iff_getElem.1 h i j h1 h2 hij
theorem all_at {α : Type} {p : α → Prop} {xs : List α} : (∀ (i : Nat) (x : α), xs[i]? = some x → p x) ↔ ∀ x ∈ xs, p x :=
  ⟨fun h x hx => by obtain ⟨i, hi⟩ := mem_at hx; exact h i x hi, fun h i x hx => h x (List.mem_of_getElem? hx)⟩
theorem nodesOk_iff {ns : List Nd} : NodesOk ns ↔ (∀ x ∈ ns, nodeB x.1 x.2 = true) ∧ Asc ns ∧ ∀ a, okB a = true → cntNode a ns ≤ 5 := by
  constructor
  · rintro ⟨h1, h2, h3⟩
    exact ⟨all_at.1 h1, pw_of_adj (f := cod) h2, h3⟩
  · rintro ⟨h1, h2, h3⟩
    exact ⟨all_at.2 h1, fun i x y hx hy => pw_get (f := cod) h2 (Nat.lt_succ_self i) hx hy, h3⟩
theorem edgesOk_iff {ns : List Nd} {es : List Ed} : EdgesOk ns es ↔ (∀ x ∈ es, edB x = true ∧ (x.2.1, x.2.2.1) ∈ ns ∧ (x.2.2.2.1, x.2.2.2.2) ∈ ns) ∧ es.Pairwise (fun a b => eco a < eco b) ∧ ∀ a, okB a = true → cntEdge a es ≤ 7 := by
  constructor
  · rintro ⟨h1, h2, h3⟩
    have h1' := all_at.1 h1
    exact ⟨h1', pw_of_adj (f := eco) (fun i x y hx hy => (eco_lt (h1 i x hx).1 (h1 _ y hy).1).1 (h2 i x y hx hy)), h3⟩
  · rintro ⟨h1, h2, h3⟩
    have h1' := all_at.2 h1
    exact ⟨h1', fun i x y hx hy => (eco_lt (h1' i x hx).1 (h1' _ y hy).1).2 (pw_get (f := eco) h2 (Nat.lt_succ_self i) hx hy), h3⟩
theorem gok_view {ns : List Nd} {es : List Ed} (c : Int) (h : GOk ns es) : GOk (viewN c ns) (viewE c es) := by
  obtain ⟨h1, h2⟩ := h
  rw [nodesOk_iff] at h1
  rw [edgesOk_iff] at h2
  refine ⟨nodesOk_iff.2 ⟨fun x hx => h1.1 x ((List.mem_filter.1 hx).1), h1.2.1.filter _, fun a ha => Nat.le_trans (List.Sublist.countP_le List.filter_sublist) (h1.2.2 a ha)⟩, edgesOk_iff.2 ⟨fun x hx => ?_, h2.2.1.filter _, fun a ha => Nat.le_trans (List.Sublist.countP_le List.filter_sublist) (h2.2.2 a ha)⟩⟩
  obtain ⟨hm, hu⟩ := List.mem_filter.1 hx
  obtain ⟨g1, g2, g3⟩ := h2.1 x hm
  have ge := g1
  simp only [edB, edgeB, Bool.and_eq_true] at ge
  exact ⟨g1, List.mem_filter.2 ⟨g2, under_trans ge.1.2 hu⟩, List.mem_filter.2 ⟨g3, under_trans ge.2 hu⟩⟩
theorem gokB_view {ns : List Nd} {es : List Ed} (c : Int) (h : gokB ns es = true) : gokB (viewN c ns) (viewE c es) = true := gokB_true.2 (gok_view c (gokB_true.1 h))
theorem viewN_view (a b : Int) (ha : okB a = true) (hb : okB b = true) (ns : List Nd) : viewN b (viewN a ns) = viewN (meetI a b) ns := by
  unfold viewN
  rw [List.filter_filter]
  congr 1
  funext x
  rw [meet_most _ ha hb, Bool.and_comm]
theorem viewE_view (a b : Int) (ha : okB a = true) (hb : okB b = true) (es : List Ed) : viewE b (viewE a es) = viewE (meetI a b) es := by
  unfold viewE
  rw [List.filter_filter]
  congr 1
  funext x
  rw [meet_most _ ha hb, Bool.and_comm]
theorem under_seven {a : Int} (h : okB a = true) : underB a 7 = true := by
  rcases eight h with rfl | rfl | rfl | rfl | rfl | rfl | rfl | rfl <;> decide
theorem viewN_seven {ns : List Nd} (h : ∀ x ∈ ns, okB x.1 = true) : viewN 7 ns = ns := List.filter_eq_self.2 (fun x hx => under_seven (h x hx))
theorem viewE_seven {es : List Ed} (h : ∀ x ∈ es, okB x.1 = true) : viewE 7 es = es := List.filter_eq_self.2 (fun x hx => under_seven (h x hx))
theorem gok_labels {ns : List Nd} {es : List Ed} (h : GOk ns es) : (∀ x ∈ ns, okB x.1 = true) ∧ ∀ x ∈ es, okB x.1 = true :=
  ⟨fun x hx => (nodeB_true ((nodesOk_iff.1 h.1).1 x hx)).1, fun x hx => edB_ok ((edgesOk_iff.1 h.2).1 x hx).1⟩
/-- What the graph's functions answer, graph by graph. -/
theorem seen_meet {ns : List Nd} {es : List Ed} {a b : Int} (h : gokB ns es = true) (ha : okB a = true) (hb : okB b = true) :
    seenN b (seenN a ns es) (seenE a ns es) = seenN (meetI a b) ns es ∧ seenE b (seenN a ns es) (seenE a ns es) = seenE (meetI a b) ns es := by
  have hv := gokB_view a h
  simp only [seenN, seenE, h, hv, if_true]
  exact ⟨viewN_view a b ha hb ns, viewE_view a b ha hb es⟩
theorem seen_seven {ns : List Nd} {es : List Ed} (h : gokB ns es = true) : seenN 7 ns es = ns ∧ seenE 7 ns es = es := by
  have := gok_labels (gokB_true.1 h)
  simp only [seenN, seenE, h, if_true]
  exact ⟨viewN_seven this.1, viewE_seven this.2⟩
theorem seen_bad {ns : List Nd} {es : List Ed} {c : Int} (h : gokB ns es = false ∨ okB c = false) : seenN c ns es = [] ∧ seenE c ns es = [] := by
  rcases h with h | h
  · simp [seenN, seenE, h]
  · constructor
    · unfold seenN; split
      · exact viewN_bad h ns
      · rfl
    · unfold seenE; split
      · exact viewE_bad h es
      · rfl
theorem seen_ok {ns : List Nd} {es : List Ed} (c : Int) (h : gokB ns es = true) : gokB (seenN c ns es) (seenE c ns es) = true := by
  simp only [seenN, seenE, h, if_true]
  exact gokB_view c h
theorem seen_mem {ns : List Nd} {es : List Ed} {c : Int} {x : Nd} (h : x ∈ seenN c ns es) : underB x.1 c = true ∧ x ∈ ns := by
  unfold seenN at h
  split at h
  · exact ⟨(List.mem_filter.1 h).2, (List.mem_filter.1 h).1⟩
  · simp at h
theorem seen_cnt {ns : List Nd} {es : List Ed} (c : Int) (h : gokB ns es = true) : (seenN c ns es).length = ns.countP (fun x => underB x.1 c) := by
  simp only [seenN, h, if_true, viewN, List.countP_eq_length_filter]
theorem cntP_step {α : Type} {p : α → Bool} {xs : List α} {k : Nat} {x : α} (h : xs[k]? = some x) : (xs.take (k + 1)).countP p = (xs.take k).countP p + if p x then 1 else 0 := by
  rw [List.take_add_one, h, List.countP_append]
  cases hp : p x <;> simp [hp]
theorem gok_nil : GOk [] [] := ⟨nodesOk_iff.2 ⟨by simp, List.Pairwise.nil, by simp [cntNode]⟩, edgesOk_iff.2 ⟨by simp, List.Pairwise.nil, by simp [cntEdge]⟩⟩
theorem gokB_nil : gokB [] [] = true := gokB_true.2 gok_nil
end Go.Proofs.YtlnpbfeihjfnjaaGreatDoor.Lab
namespace Go.Proofs.YtlnpbfeihjfnjaaGreatDoor.Lab
open Go.RowKit
set_option linter.unusedVariables false
/-- An edge's two nodes; the edges, the nodes of a label, and these nodes' numbers. -/
def eA (x : Ed) : Nd := (x.2.1, x.2.2.1)
def eB (x : Ed) : Nd := (x.2.2.2.1, x.2.2.2.2)
def ofE (a : Int) (es : List Ed) : List Ed := es.filter (fun x => x.1 == a)
def ofN (a : Int) (ns : List Nd) : List Nd := ns.filter (fun x => x.1 == a)
def numsL (a : Int) (ns : List Nd) : List Int := (ofN a ns).map (·.2)
/-- The nodes that edges have, in order, each once. -/
def putIn (acc : List Nd) (o : Nd) : List Nd := if o ∈ acc then acc else insN o acc
def onlyStep (acc : List Nd) (x : Ed) : List Nd := putIn (putIn acc (eA x)) (eB x)
def onlyF (es : List Ed) : List Nd := es.foldl onlyStep []
/-- The number at an edge's other end. -/
def othC (c : Int) (x : Ed) : Option Int := if cod (eA x) = c then some (cod (eB x)) else if cod (eB x) = c then some (cod (eA x)) else none
def joinL (es : List Ed) (c : Int) : List Int := es.filterMap (othC c)
theorem ends_ok {x : Ed} (h : edB x = true) : nodeB (eA x).1 (eA x).2 = true ∧ nodeB (eB x).1 (eB x).2 = true ∧ cod (eA x) < cod (eB x) := by
  have h1 := edB_parts h
  simp only [edB, edgeB, Bool.and_eq_true, decide_eq_true_eq] at h
  exact ⟨h1.1, h1.2, h.1.1.2⟩
theorem cod_bd (z : Nd) : -1 ≤ cod z ∧ cod z ≤ 488 := codeI_bd z.1 z.2
theorem eco_lex {x y : Ed} (hx : edB x = true) (hy : edB y = true) (hl : x.1 = y.1) (h : eco x < eco y) : cod (eA x) < cod (eA y) ∨ (cod (eA x) = cod (eA y) ∧ cod (eB x) < cod (eB y)) := by
  rw [eco_eq hx, eco_eq hy, hl] at h
  have h : (y.1 * 512 + cod (eA x)) * 512 + cod (eB x) < (y.1 * 512 + cod (eA y)) * 512 + cod (eB y) := h
  have a1 := cod_bd (eA x)
  have a2 := cod_bd (eB x)
  have a3 := cod_bd (eA y)
  have a4 := cod_bd (eB y)
  have b1 := cod_ok' (ends_ok hx).1
  have b2 := cod_ok' (ends_ok hx).2.1
  have b3 := cod_ok' (ends_ok hy).1
  have b4 := cod_ok' (ends_ok hy).2.1
  omega
theorem asc_int_ext : ∀ {xs ys : List Int}, xs.Pairwise (· < ·) → ys.Pairwise (· < ·) → (∀ z, z ∈ xs ↔ z ∈ ys) → xs = ys
  | [], [], _, _, _ => rfl
  | [], y :: ys, _, _, h => by have := (h y).2 (List.mem_cons_self ..); cases this
  | x :: xs, [], _, _, h => by have := (h x).1 (List.mem_cons_self ..); cases this
  | x :: xs, y :: ys, hx, hy, h => by
    obtain ⟨h1, h2⟩ := List.pairwise_cons.1 hx
    obtain ⟨h3, h4⟩ := List.pairwise_cons.1 hy
    have e : x = y := by
      rcases List.mem_cons.1 ((h x).1 (List.mem_cons_self ..)) with e | hm
      · exact e
      · rcases List.mem_cons.1 ((h y).2 (List.mem_cons_self ..)) with e | hm2
        · exact e.symm
        · have := h3 x hm; have := h1 y hm2; omega
    subst e
    congr 1
    refine asc_int_ext h2 h4 (fun z => ⟨fun hz => ?_, fun hz => ?_⟩)
    · rcases List.mem_cons.1 ((h z).1 (List.mem_cons_of_mem _ hz)) with e | hm
      · subst e; have := h1 z hz; omega
      · exact hm
    · rcases List.mem_cons.1 ((h z).2 (List.mem_cons_of_mem _ hz)) with e | hm
      · subst e; have := h3 z hz; omega
      · exact hm
/-- Edges of one label, right and in order. -/
def One1 (es : List Ed) : Prop := (∀ x ∈ es, edB x = true) ∧ es.Pairwise (fun a b => eco a < eco b) ∧ ∀ x ∈ es, ∀ y ∈ es, x.1 = y.1
theorem One1.tail {x : Ed} {es : List Ed} (h : One1 (x :: es)) : One1 es :=
  ⟨fun y hy => h.1 y (List.mem_cons_of_mem _ hy), (List.pairwise_cons.1 h.2.1).2, fun y hy z hz => h.2.2 y (List.mem_cons_of_mem _ hy) z (List.mem_cons_of_mem _ hz)⟩
theorem One1.sub {es es' : List Ed} (h : One1 es) (hs : es'.Sublist es) : One1 es' :=
  ⟨fun y hy => h.1 y (hs.subset hy), h.2.1.sublist hs, fun y hy z hz => h.2.2 y (hs.subset hy) z (hs.subset hz)⟩
theorem joinL_asc (c : Int) : ∀ {es : List Ed}, One1 es → (joinL es c).Pairwise (· < ·)
  | [], _ => List.Pairwise.nil
  | x :: es, h => by
    have ih := joinL_asc c h.tail
    have h1 := (List.pairwise_cons.1 h.2.1).1
    unfold joinL at ih ⊢
    cases ho : othC c x with
    | none => rw [List.filterMap_cons_none ho]; exact ih
    | some p =>
      rw [List.filterMap_cons_some ho]
      refine List.pairwise_cons.2 ⟨fun q hq => ?_, ih⟩
      obtain ⟨y, hy, hyq⟩ := List.mem_filterMap.1 hq
      have hx := h.1 x (List.mem_cons_self ..)
      have hye := h.1 y (List.mem_cons_of_mem _ hy)
      have lx := eco_lex hx hye (h.2.2 x (List.mem_cons_self ..) y (List.mem_cons_of_mem _ hy)) (h1 y hy)
      have ax := (ends_ok hx).2.2
      have ay := (ends_ok hye).2.2
      unfold othC at ho hyq
      split at ho
      · have e1 := Option.some.inj ho
        split at hyq
        · have e2 := Option.some.inj hyq; omega
        · split at hyq
          · have e2 := Option.some.inj hyq; omega
          · cases hyq
      · split at ho
        · have e1 := Option.some.inj ho
          split at hyq
          · have e2 := Option.some.inj hyq; omega
          · split at hyq
            · have e2 := Option.some.inj hyq; omega
            · cases hyq
        · cases ho
theorem oth_mem {x : Ed} {n : Nd} (hx : edB x = true) (hn : nodeB n.1 n.2 = true) (p : Int) : othC (cod n) x = some p ↔ ∃ z, otherI x n = some z ∧ cod z = p := by
  have e1 : otherI x n = if n = eA x then some (eB x) else if n = eB x then some (eA x) else none := rfl
  rw [e1]
  unfold othC
  by_cases hA : n = eA x
  · rw [if_pos (by rw [hA]), if_pos hA]; simp
  · have hA' : ¬ cod (eA x) = cod n := fun e => hA (cod_inj hn e.symm)
    rw [if_neg hA', if_neg hA]
    by_cases hB : n = eB x
    · rw [if_pos (by rw [hB]), if_pos hB]; simp
    · have hB' : ¬ cod (eB x) = cod n := fun e => hB (cod_inj hn e.symm)
      rw [if_neg hB', if_neg hB]; simp
/-- What is kept by a node's number is what is near it. -/
theorem joinL_near {es : List Ed} {n : Nd} (h : One1 es) (hn : nodeB n.1 n.2 = true) : joinL es (cod n) = (nearF n es).map cod := by
  refine asc_int_ext (joinL_asc _ h) (List.pairwise_map.2 (nearF_asc h.1)) (fun z => ?_)
  unfold joinL
  rw [List.mem_filterMap, List.mem_map]
  constructor
  · rintro ⟨x, hx, hz⟩
    obtain ⟨y, h1, h2⟩ := (oth_mem (h.1 x hx) hn z).1 hz
    exact ⟨y, (nearF_mem h.1 y).2 ⟨x, hx, h1⟩, h2⟩
  · rintro ⟨y, hy, rfl⟩
    obtain ⟨x, hx, h1⟩ := (nearF_mem h.1 y).1 hy
    exact ⟨x, hx, (oth_mem (h.1 x hx) hn _).2 ⟨y, h1, rfl⟩⟩
theorem putIn_spec {acc : List Nd} {o : Nd} (ho : nodeB o.1 o.2 = true) (h1 : Asc acc) (h2 : ∀ y ∈ acc, nodeB y.1 y.2 = true) :
    Asc (putIn acc o) ∧ (∀ y ∈ putIn acc o, nodeB y.1 y.2 = true) ∧ ∀ z, z ∈ putIn acc o ↔ z ∈ acc ∨ z = o := by
  unfold putIn
  by_cases hm : o ∈ acc
  · rw [if_pos hm]
    refine ⟨h1, h2, fun z => ⟨.inl, fun h => ?_⟩⟩
    rcases h with h | rfl
    · exact h
    · exact hm
  · rw [if_neg hm]
    refine ⟨asc_insN h1 (fun y hy e => hm ((cod_inj ho e.symm) ▸ hy)), fun y hy => ?_, fun z => ?_⟩
    · rcases mem_insN.1 hy with rfl | hy
      · exact ho
      · exact h2 y hy
    · rw [mem_insN]
      exact ⟨fun h => h.symm, fun h => h.symm⟩
theorem putIn_len (acc : List Nd) (o : Nd) : (putIn acc o).length ≤ acc.length + 1 := by
  unfold putIn
  split
  · omega
  · rw [insN_len]; omega
theorem only_spec : ∀ (es : List Ed) (acc : List Nd), (∀ x ∈ es, edB x = true) → Asc acc → (∀ y ∈ acc, nodeB y.1 y.2 = true) →
    Asc (es.foldl onlyStep acc) ∧ (∀ y ∈ es.foldl onlyStep acc, nodeB y.1 y.2 = true) ∧ (∀ z, z ∈ es.foldl onlyStep acc ↔ z ∈ acc ∨ ∃ x ∈ es, z = eA x ∨ z = eB x) ∧ (es.foldl onlyStep acc).length ≤ acc.length + 2 * es.length
  | [], acc, _, h1, h2 => ⟨h1, h2, fun z => by simp, by simp⟩
  | x :: es, acc, he, h1, h2 => by
    have hx := ends_ok (he x (List.mem_cons_self ..))
    have a := putIn_spec hx.1 h1 h2
    have b := putIn_spec hx.2.1 a.1 a.2.1
    obtain ⟨k1, k2, k3, k4⟩ := only_spec es (onlyStep acc x) (fun y hy => he y (List.mem_cons_of_mem _ hy)) b.1 b.2.1
    refine ⟨k1, k2, fun z => ?_, ?_⟩
    · rw [List.foldl_cons, k3]
      unfold onlyStep
      rw [b.2.2, a.2.2]
      simp only [List.mem_cons, exists_eq_or_imp]
      constructor
      · rintro (((h | h) | h) | h)
        · exact .inl h
        · exact .inr (.inl (.inl h))
        · exact .inr (.inl (.inr h))
        · exact .inr (.inr h)
      · rintro (h | (h | h) | h)
        · exact .inl (.inl (.inl h))
        · exact .inl (.inl (.inr h))
        · exact .inl (.inr h)
        · exact .inr h
    · rw [List.foldl_cons, List.length_cons]
      have l1 := putIn_len acc (eA x)
      have l2 := putIn_len (putIn acc (eA x)) (eB x)
      have : (onlyStep acc x).length ≤ acc.length + 2 := by unfold onlyStep; omega
      omega
theorem onlyF_asc {es : List Ed} (h : ∀ x ∈ es, edB x = true) : Asc (onlyF es) := (only_spec es [] h List.Pairwise.nil (by simp)).1
theorem onlyF_ok {es : List Ed} (h : ∀ x ∈ es, edB x = true) : ∀ y ∈ onlyF es, nodeB y.1 y.2 = true := (only_spec es [] h List.Pairwise.nil (by simp)).2.1
theorem onlyF_mem {es : List Ed} (h : ∀ x ∈ es, edB x = true) (z : Nd) : z ∈ onlyF es ↔ ∃ x ∈ es, z = eA x ∨ z = eB x := by
  have := (only_spec es [] h List.Pairwise.nil (by simp)).2.2.1 z
  simpa [onlyF] using this
theorem onlyF_len {es : List Ed} (h : ∀ x ∈ es, edB x = true) : (onlyF es).length ≤ 2 * es.length := by
  have := (only_spec es [] h List.Pairwise.nil (by simp)).2.2.2
  simpa [onlyF] using this
/-- Which numbers something is kept by. -/
theorem joinL_ne {es : List Ed} (h : ∀ x ∈ es, edB x = true) (c : Int) : joinL es c ≠ [] ↔ c ∈ (onlyF es).map cod := by
  rw [List.mem_map]
  constructor
  · intro hne
    obtain ⟨p, hp⟩ := List.exists_mem_of_ne_nil _ hne
    obtain ⟨x, hx, ho⟩ := List.mem_filterMap.1 hp
    unfold othC at ho
    split at ho
    · rename_i h1
      exact ⟨eA x, (onlyF_mem h _).2 ⟨x, hx, .inl rfl⟩, h1⟩
    · split at ho
      · rename_i h1
        exact ⟨eB x, (onlyF_mem h _).2 ⟨x, hx, .inr rfl⟩, h1⟩
      · cases ho
  · rintro ⟨y, hy, rfl⟩ he
    obtain ⟨x, hx, hz⟩ := (onlyF_mem h y).1 hy
    have hno : ∀ p, ¬ othC (cod y) x = some p := fun p hp => by
      have : p ∈ joinL es (cod y) := List.mem_filterMap.2 ⟨x, hx, hp⟩
      rw [he] at this; cases this
    rcases hz with rfl | rfl
    · exact hno (cod (eB x)) (by unfold othC; rw [if_pos rfl])
    · have h2 := (ends_ok (h x hx)).2.2
      exact hno (cod (eA x)) (by unfold othC; rw [if_neg (by omega), if_pos rfl])
theorem ofE_step {a : Int} {es : List Ed} {k : Nat} {x : Ed} (h : es[k]? = some x) : ofE a (es.take (k + 1)) = if x.1 = a then ofE a (es.take k) ++ [x] else ofE a (es.take k) := by
  unfold ofE
  rw [List.take_add_one, h, List.filter_append]
  by_cases e : x.1 = a
  · simp [e]
  · have : (x.1 == a) = false := beq_eq_false_iff_ne.2 e
    simp [this, e]
theorem ofE_take_le (a : Int) (es : List Ed) (k : Nat) : (ofE a (es.take k)).length ≤ k := Nat.le_trans (List.length_filter_le _ _) (by simp; omega)
theorem onlyF_snoc (es : List Ed) (x : Ed) : onlyF (es ++ [x]) = putIn (putIn (onlyF es) (eA x)) (eB x) := by
  unfold onlyF; rw [List.foldl_append]; rfl
theorem joinL_snoc (es : List Ed) (x : Ed) (c : Int) : joinL (es ++ [x]) c = joinL es c ++ (othC c x).toList := by
  unfold joinL
  rw [List.filterMap_append]
  cases h : othC c x <;> simp [h]
theorem ofN_step {a : Int} {ns : List Nd} {k : Nat} {x : Nd} (h : ns[k]? = some x) : numsL a (ns.take (k + 1)) = if x.1 = a then numsL a (ns.take k) ++ [x.2] else numsL a (ns.take k) := by
  unfold numsL ofN
  rw [List.take_add_one, h, List.filter_append]
  by_cases e : x.1 = a
  · simp [e]
  · have : (x.1 == a) = false := beq_eq_false_iff_ne.2 e
    simp [this, e]
theorem numsL_take_le (a : Int) (ns : List Nd) (k : Nat) : (numsL a (ns.take k)).length ≤ k := by
  unfold numsL; rw [List.length_map]; exact Nat.le_trans (List.length_filter_le _ _) (by simp; omega)
theorem ofE_one {ns : List Nd} {es : List Ed} (h : GOk ns es) (a : Int) : One1 (ofE a es) ∧ (ofE a es).length ≤ 7 := by
  have h2 := edgesOk_iff.1 h.2
  refine ⟨⟨fun x hx => (h2.1 x (List.mem_filter.1 hx).1).1, h2.2.1.filter _, fun x hx y hy => ?_⟩, ?_⟩
  · have e1 := (List.mem_filter.1 hx).2
    have e2 := (List.mem_filter.1 hy).2
    simp only [beq_iff_eq] at e1 e2
    rw [e1, e2]
  · by_cases ha : okB a = true
    · have := h2.2.2 a ha
      unfold cntEdge at this
      rw [List.countP_eq_length_filter] at this
      exact this
    · have : ofE a es = [] := by
        refine List.filter_eq_nil_iff.2 (fun x hx => ?_)
        intro e
        simp only [beq_iff_eq] at e
        exact ha (e ▸ (gok_labels h).2 x hx)
      rw [this]; simp
theorem numsL_facts {ns : List Nd} {es : List Ed} (h : GOk ns es) (a : Int) : (numsL a ns).Pairwise (· < ·) ∧ (∀ x ∈ numsL a ns, 0 ≤ x ∧ x ≤ 40) ∧ (numsL a ns).length ≤ 5 := by
  have h1 := nodesOk_iff.1 h.1
  refine ⟨?_, fun x hx => ?_, ?_⟩
  · unfold numsL
    refine List.pairwise_map.2 ?_
    have hp : (ofN a ns).Pairwise (fun x y => cod x < cod y) := h1.2.1.filter _
    refine List.Pairwise.imp_of_mem ?_ hp
    intro x y hx hy hlt
    obtain ⟨mx, ex⟩ := List.mem_filter.1 hx
    obtain ⟨my, ey⟩ := List.mem_filter.1 hy
    simp only [beq_iff_eq] at ex ey
    have nx := h1.1 x mx
    have ny := h1.1 y my
    have e1 : cod x = 64 * x.1 + x.2 := by unfold cod codeI; rw [if_pos nx]
    have e2 : cod y = 64 * y.1 + y.2 := by unfold cod codeI; rw [if_pos ny]
    rw [e1, e2, ex, ey] at hlt
    omega
  · obtain ⟨y, hy, rfl⟩ := List.mem_map.1 hx
    exact (nodeB_true (h1.1 y (List.mem_filter.1 hy).1)).2
  · unfold numsL
    rw [List.length_map]
    by_cases ha : okB a = true
    · have := h1.2.2 a ha
      unfold cntNode at this
      rw [List.countP_eq_length_filter] at this
      exact this
    · have : ofN a ns = [] := by
        refine List.filter_eq_nil_iff.2 (fun x hx => ?_)
        intro e
        simp only [beq_iff_eq] at e
        exact ha (e ▸ (gok_labels h).1 x hx)
      rw [this]; simp
theorem upB_of {l : List Int} (hp : l.Pairwise (· < ·)) (h0 : ∀ x ∈ l, 0 ≤ x ∧ x ≤ 16383) (hl : l.length ≤ 127) : upB l = true := by
  have h : ∀ j, j < l.length → okAt l j = true := fun j hj => by
    have hx : l[j]? = some l[j] := List.getElem?_eq_getElem hj
    obtain ⟨a, b⟩ := h0 _ (List.getElem_mem hj)
    refine (okAt_iff hx).2 ⟨a, b, ?_⟩
    unfold lastAt
    split
    · omega
    · rename_i hj0
      have h1 : j - 1 < l.length := by omega
      rw [getD_of (List.getElem?_eq_getElem h1)]
      exact List.pairwise_iff_getElem.1 hp _ _ h1 hj (by omega)
  rw [upB_len h]; simpa using hl
/-- The bytes of a label: its nodes' numbers, and for each node that its edges have those at the other ends. -/
def rowOf (ee : List Ed) (n : Nd) : List UInt8 := pkL (cod n) ++ rowL ((nearF n ee).map cod)
def segK (a : Int) (ns : List Nd) (es : List Ed) (k : Nat) : List UInt8 := rowL (numsL a ns) ++ pkL (onlyF (ofE a es)).length ++ ((onlyF (ofE a es)).take k).flatMap (rowOf (ofE a es))
def segL (a : Int) (ns : List Nd) (es : List Ed) : List UInt8 := if numsL a ns = [] ∧ onlyF (ofE a es) = [] then [] else segK a ns es (onlyF (ofE a es)).length
theorem segK_zero (a : Int) (ns : List Nd) (es : List Ed) : segK a ns es 0 = rowL (numsL a ns) ++ pkL (onlyF (ofE a es)).length := by simp [segK]
theorem segK_succ {a : Int} {ns : List Nd} {es : List Ed} {k : Nat} {n : Nd} (h : (onlyF (ofE a es))[k]? = some n) : segK a ns es (k + 1) = segK a ns es k ++ (pkL (cod n) ++ rowL ((nearF n (ofE a es)).map cod)) := by
  unfold segK
  rw [List.take_add_one, h, List.flatMap_append]
  simp [rowOf, List.append_assoc]
theorem rowL_le (l : List Int) : (rowL l).length ≤ 256 := by
  unfold rowL
  split
  · rename_i h
    have := (upB_all h).2
    have := rowK_len l l.length
    omega
  · simp
theorem segK_le (a : Int) (ns : List Nd) (es : List Ed) : ∀ k, (segK a ns es k).length ≤ 258 + 258 * k
  | 0 => by
    rw [segK_zero, List.length_append]
    have := rowL_le (numsL a ns)
    have := pkL_len (((onlyF (ofE a es)).length : Nat) : Int)
    omega
  | k + 1 => by
    have ih := segK_le a ns es k
    cases h : (onlyF (ofE a es))[k]? with
    | none =>
      have : segK a ns es (k + 1) = segK a ns es k := by
        unfold segK; rw [List.take_add_one, h]; simp
      rw [this]; omega
    | some n =>
      rw [segK_succ h, List.length_append, List.length_append]
      have := rowL_le ((nearF n (ofE a es)).map cod)
      have := pkL_len (cod n)
      omega
theorem segL_le {ns : List Nd} {es : List Ed} (h : GOk ns es) (a : Int) : (segL a ns es).length ≤ 4000 := by
  unfold segL
  split
  · simp
  · have h1 := ofE_one h a
    have h2 := onlyF_len h1.1.1
    have := segK_le a ns es (onlyF (ofE a es)).length
    omega
noncomputable def segB (a : Int) (ns : List Nd) (es : List Ed) : List UInt8 := if gokB ns es then segL a ns es else []
theorem segB_ok {ns : List Nd} {es : List Ed} (h : gokB ns es = true) (a : Int) : segB a ns es = segL a ns es := by simp [segB, h]
theorem segB_bad {ns : List Nd} {es : List Ed} (h : gokB ns es = false) (a : Int) : segB a ns es = [] := by simp [segB, h]
theorem segB_le (a : Int) (ns : List Nd) (es : List Ed) : (segB a ns es).length ≤ 4000 := by
  cases h : gokB ns es
  · rw [segB_bad h]; simp
  · rw [segB_ok h]; exact segL_le (gokB_true.1 h) a
/-- No label that is none has bytes. -/
theorem segB_no {a : Int} (ha : okB a = false) (ns : List Nd) (es : List Ed) : segB a ns es = [] := by
  cases h : gokB ns es
  · exact segB_bad h a
  · rw [segB_ok h]
    have hl := gok_labels (gokB_true.1 h)
    have e1 : ofN a ns = [] := List.filter_eq_nil_iff.2 (fun x hx e => by
      simp only [beq_iff_eq] at e
      have := hl.1 x hx; rw [e, ha] at this; cases this)
    have e2 : ofE a es = [] := List.filter_eq_nil_iff.2 (fun x hx e => by
      simp only [beq_iff_eq] at e
      have := hl.2 x hx; rw [e, ha] at this; cases this)
    unfold segL numsL
    rw [e1, e2]
    simp [onlyF]
/-- A graph as bytes, label by label. -/
noncomputable def segAt (ns : List Nd) (es : List Ed) (k : Nat) : Option (Int × List UInt8) := if segB k ns es = [] then none else some ((k : Int), segB k ns es)
noncomputable def storeK (ns : List Nd) (es : List Ed) (k : Nat) : List (Int × List UInt8) := (List.range k).filterMap (segAt ns es)
noncomputable def storeL (ns : List Nd) (es : List Ed) : List (Int × List UInt8) := storeK ns es 8
theorem storeK_succ (ns : List Nd) (es : List Ed) (k : Nat) : storeK ns es (k + 1) = if segB k ns es = [] then storeK ns es k else storeK ns es k ++ [((k : Int), segB k ns es)] := by
  unfold storeK
  rw [List.range_succ, List.filterMap_append]
  by_cases h : segB k ns es = []
  · simp [segAt, h]
  · simp [segAt, h]
theorem storeK_le (ns : List Nd) (es : List Ed) (k : Nat) : (storeK ns es k).length ≤ k := Nat.le_trans (List.length_filterMap_le _ _) (by simp)
theorem storeL_bad {ns : List Nd} {es : List Ed} (h : gokB ns es = false) : storeL ns es = [] := by
  unfold storeL storeK
  refine List.filterMap_eq_nil_iff.2 (fun k _ => ?_)
  simp [segAt, segB_bad h]
end Go.Proofs.YtlnpbfeihjfnjaaGreatDoor.Lab

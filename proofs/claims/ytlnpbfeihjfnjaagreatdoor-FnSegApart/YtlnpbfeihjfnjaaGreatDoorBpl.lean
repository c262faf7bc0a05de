/-
  Plain facts on books: what lies in their maps, in which order, and how many of each label.
-/
import Derived.Test.YtlnpbfeihjfnjaaGreatDoorBoe
import Derived.Test.YtlnpbfeihjfnjaaGreatDoorGok
namespace Go.Proofs.YtlnpbfeihjfnjaaGreatDoor.Lab
open Go.RowKit Go.ChangeMaps
set_option linter.unusedVariables false
def nVal (x : Nd) : Value := .agg #[.int .i64 x.1, .int .i64 x.2]
def eVal (x : Ed) : Value := .agg #[.int .i64 x.1, .int .i64 x.2.1, .int .i64 x.2.2.1, .int .i64 x.2.2.2.1, .int .i64 x.2.2.2.2]
def cod (x : Nd) : Int := codeI x.1 x.2
def eco (x : Ed) : Int := ecodeI x.1 x.2.1 x.2.2.1 x.2.2.2.1 x.2.2.2.2
/-- Nodes by their numbers. -/
def nEnts (xs : List Nd) : List (Int × Value) := xs.map (fun x => (cod x, nVal x))
def eEnts (xs : List Ed) : List (Int × Value) := xs.map (fun x => (eco x, eVal x))
theorem lkp_map {α : Type} (f : α → Int) (g : α → Value) (k : Int) : ∀ xs : List α, (lkp (xs.map (fun x => (f x, g x))) k = none ∧ ∀ x ∈ xs, f x ≠ k) ∨ ∃ x ∈ xs, f x = k ∧ lkp (xs.map (fun x => (f x, g x))) k = some (g x)
  | [] => .inl ⟨rfl, fun x hx => by cases hx⟩
  | y :: ys => by
    by_cases h : k = f y
    · exact .inr ⟨y, List.mem_cons_self .., h.symm, by simp [lkp, h]⟩
    · rcases lkp_map f g k ys with ⟨h1, h2⟩ | ⟨x, h1, h2, h3⟩
      · refine .inl ⟨by simpa [lkp, h] using h1, fun x hx => ?_⟩
        rcases List.mem_cons.1 hx with rfl | hx
        · exact fun e => h e.symm
        · exact h2 x hx
      · exact .inr ⟨x, List.mem_cons_of_mem _ h1, h2, by simpa [lkp, h] using h3⟩
theorem nodeVals (xs : List Nd) : NodeVals (nEnts xs) := fun k v h => by
  rcases lkp_map cod nVal k xs with ⟨h1, _⟩ | ⟨x, _, _, h1⟩
  · rw [nEnts, h1] at h; cases h
  · rw [nEnts, h1] at h; cases h; exact ⟨_, _, rfl⟩
theorem edgeVals (xs : List Ed) : EdgeVals (eEnts xs) := fun k v h => by
  rcases lkp_map eco eVal k xs with ⟨h1, _⟩ | ⟨x, _, _, h1⟩
  · rw [eEnts, h1] at h; cases h
  · rw [eEnts, h1] at h; cases h; exact ⟨_, _, _, _, _, rfl⟩
/-- A node's number tells the node. -/
theorem cod_inj {x y : Nd} (hx : nodeB x.1 x.2 = true) (h : cod x = cod y) : x = y := by
  obtain ⟨h1, h2, h3⟩ := nodeB_true hx
  obtain ⟨h4, h5⟩ := okB_true h1
  unfold cod codeI at h
  rw [if_pos hx] at h
  cases hy : nodeB y.1 y.2
  · rw [hy] at h; simp at h; omega
  · obtain ⟨g1, g2, g3⟩ := nodeB_true hy
    obtain ⟨g4, g5⟩ := okB_true g1
    rw [hy] at h
    simp at h
    exact Prod.ext (by omega) (by omega)
theorem cod_ok {x : Nd} (h : -1 < cod x) : nodeB x.1 x.2 = true := by
  cases hx : nodeB x.1 x.2
  · simp [cod, codeI, hx] at h
  · rfl
theorem cod_ok' {x : Nd} (h : nodeB x.1 x.2 = true) : 0 ≤ cod x := by
  obtain ⟨h1, h2, h3⟩ := nodeB_true h
  obtain ⟨h4, h5⟩ := okB_true h1
  simp [cod, codeI, h]; omega
theorem mem_iff_lkp {xs : List Nd} {x : Nd} (hx : nodeB x.1 x.2 = true) : (lkp (nEnts xs) (cod x)).isSome = true ↔ x ∈ xs := by
  rcases lkp_map cod nVal (cod x) xs with ⟨h1, h2⟩ | ⟨y, h1, h2, h3⟩
  · rw [nEnts, h1]
    simp
    exact fun h => h2 x h rfl
  · rw [nEnts, h3]
    simp
    rw [cod_inj hx h2.symm]; exact h1
/-- The last number of the first k. -/
def lastC {α : Type} (f : α → Int) (xs : List α) : Nat → Int
  | 0 => -1
  | k + 1 => ((xs[k]?).map f).getD (-1)
/-- Numbers that ascend: each is at most the last. -/
theorem le_last {α : Type} {f : α → Int} {xs : List α} : ∀ {k : Nat}, k ≤ xs.length → (∀ (i : Nat) (x y : α), i + 1 < k → xs[i]? = some x → xs[i + 1]? = some y → f x < f y) → ∀ x ∈ xs.take k, f x ≤ lastC f xs k
  | 0, _, _, x, hx => by simp at hx
  | k + 1, hk, h, x, hx => by
    obtain ⟨y, hy⟩ : ∃ y, xs[k]? = some y := ⟨_, List.getElem?_eq_getElem hk⟩
    have hl : lastC f xs (k + 1) = f y := by simp [lastC, hy]
    rw [hl]
    rw [List.take_add_one, hy] at hx
    rcases List.mem_append.1 hx with hx | hx
    · have ih := le_last (k := k) (by omega) (fun i x y hi => h i x y (by omega)) x hx
      cases k with
      | zero => simp at hx
      | succ j =>
        obtain ⟨z, hz⟩ : ∃ z, xs[j]? = some z := ⟨_, List.getElem?_eq_getElem (by omega)⟩
        have : lastC f xs (j + 1) = f z := by simp [lastC, hz]
        rw [this] at ih
        have := h j z y (by omega) hz hy
        omega
    · simp at hx; rw [hx]; exact Int.le_refl _
theorem lkp_none_of_last {α : Type} {f : α → Int} {g : α → Value} {xs : List α} {k : Nat} {c : Int} (hk : k ≤ xs.length) (h : ∀ (i : Nat) (x y : α), i + 1 < k → xs[i]? = some x → xs[i + 1]? = some y → f x < f y) (hc : lastC f xs k < c) : lkp ((xs.take k).map (fun x => (f x, g x))) c = none := by
  rcases lkp_map f g c (xs.take k) with ⟨h1, _⟩ | ⟨x, h1, h2, _⟩
  · exact h1
  · have := le_last hk h x h1; omega
/-- How many of each label. -/
def nCnt (xs : List Nd) : Nat → Int := fun i => cntNode i xs
def eCnt (xs : List Ed) : Nat → Int := fun i => cntEdge i xs
theorem nCnt_step {xs : List Nd} {k l : Nat} {n : Int} (h : xs[k]? = some ((l : Int), n)) : bump (nCnt (xs.take k)) l = nCnt (xs.take (k + 1)) := by
  funext i
  unfold bump nCnt
  rw [cntNode_step h]
  by_cases hi : i = l
  · subst hi; simp
  · have : ((l : Int) == (i : Int)) = false := beq_eq_false_iff_ne.2 (by omega)
    simp [hi, this]
theorem eCnt_step {xs : List Ed} {k l : Nat} {al an bl bn : Int} (h : xs[k]? = some ((l : Int), al, an, bl, bn)) : bump (eCnt (xs.take k)) l = eCnt (xs.take (k + 1)) := by
  funext i
  unfold bump eCnt
  rw [cntEdge_step h]
  by_cases hi : i = l
  · subst hi; simp
  · have : ((l : Int) == (i : Int)) = false := beq_eq_false_iff_ne.2 (by omega)
    simp [hi, this]
theorem nEnts_step {xs : List Nd} {k : Nat} {x : Nd} (h : xs[k]? = some x) : nEnts (xs.take (k + 1)) = nEnts (xs.take k) ++ [(cod x, nVal x)] := by
  simp [nEnts, List.take_add_one, h]
theorem eEnts_step {xs : List Ed} {k : Nat} {x : Ed} (h : xs[k]? = some x) : eEnts (xs.take (k + 1)) = eEnts (xs.take k) ++ [(eco x, eVal x)] := by
  simp [eEnts, List.take_add_one, h]
theorem cntNode_take_le (a : Int) (xs : List Nd) (k : Nat) : cntNode a (xs.take k) ≤ cntNode a xs := by
  unfold cntNode
  exact List.Sublist.countP_le (List.take_sublist k xs)
theorem cntEdge_take_le (a : Int) (xs : List Ed) (k : Nat) : cntEdge a (xs.take k) ≤ cntEdge a xs := by
  unfold cntEdge
  exact List.Sublist.countP_le (List.take_sublist k xs)
theorem eco_ok {x : Ed} (h : -1 < eco x) : edB x = true := by
  cases hx : edB x
  · unfold edB at hx; simp [eco, ecodeI, hx] at h
  · rfl
theorem edB_parts {x : Ed} (h : edB x = true) : nodeB x.2.1 x.2.2.1 = true ∧ nodeB x.2.2.2.1 x.2.2.2.2 = true := ⟨(edgeB_true h).2.1, (edgeB_true h).2.2⟩
theorem eco_eq {x : Ed} (h : edB x = true) : eco x = (x.1 * 512 + cod (x.2.1, x.2.2.1)) * 512 + cod (x.2.2.2.1, x.2.2.2.2) := by
  unfold edB at h
  simp [eco, ecodeI, h, cod]
theorem eco_nat {x : Ed} (h : edB x = true) : 0 ≤ eco x := by
  rw [eco_eq h]
  have h1 := cod_ok' (x := (x.2.1, x.2.2.1)) (edB_parts h).1
  have h2 := cod_ok' (x := (x.2.2.2.1, x.2.2.2.2)) (edB_parts h).2
  have := okB_true (edB_ok h)
  omega
/-- Edges' numbers go as the edges go. -/
theorem eco_lt {x y : Ed} (hx : edB x = true) (hy : edB y = true) : leB x y = true ↔ eco x < eco y := by
  rw [eco_eq hx, eco_eq hy]
  have a1 := codeI_bd x.2.1 x.2.2.1
  have a2 := codeI_bd x.2.2.2.1 x.2.2.2.2
  have b1 := codeI_bd y.2.1 y.2.2.1
  have b2 := codeI_bd y.2.2.2.1 y.2.2.2.2
  have a3 := cod_ok' (x := (x.2.1, x.2.2.1)) (edB_parts hx).1
  have a4 := cod_ok' (x := (x.2.2.2.1, x.2.2.2.2)) (edB_parts hx).2
  have b3 := cod_ok' (x := (y.2.1, y.2.2.1)) (edB_parts hy).1
  have b4 := cod_ok' (x := (y.2.2.2.1, y.2.2.2.2)) (edB_parts hy).2
  unfold leB lessB
  rw [codeW_ok (edB_parts hx).1, codeW_ok (edB_parts hx).2, codeW_ok (edB_parts hy).1, codeW_ok (edB_parts hy).2]
  have hAC : (x.2.1 = y.2.1 ∧ x.2.2.1 = y.2.2.1) ↔ codeI x.2.1 x.2.2.1 = codeI y.2.1 y.2.2.1 :=
    ⟨fun h => by rw [h.1, h.2], fun h => by have := cod_inj (x := (x.2.1, x.2.2.1)) (y := (y.2.1, y.2.2.1)) (edB_parts hx).1 h; exact ⟨(Prod.mk.inj this).1, (Prod.mk.inj this).2⟩⟩
  simp only [cod] at a3 a4 b3 b4 ⊢
  generalize codeI x.2.1 x.2.2.1 = A at *
  generalize codeI x.2.2.2.1 x.2.2.2.2 = B at *
  generalize codeI y.2.1 y.2.2.1 = C at *
  generalize codeI y.2.2.2.1 y.2.2.2.2 = D at *
  have := okB_true (edB_ok hx)
  have := okB_true (edB_ok hy)
  split
  · simp; omega
  · split
    · rename_i h1 h2
      rw [hAC] at h2
      simp; omega
    · rename_i h1 h2
      rw [hAC] at h2
      simp; omega
end Go.Proofs.YtlnpbfeihjfnjaaGreatDoor.Lab

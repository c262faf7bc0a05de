/-
  Who is near whom, from both sides, and in a view: in plain words.
-/
import Derived.Test.YtcinjkpedigffaaDoorGpl
import Derived.Test.YtcinjkpedigffaaDoorNea
namespace Go.Proofs.YtcinjkpedigffaaDoor.Lab
open Go.RowKit
set_option linter.unusedVariables false
theorem edB_ne {x : Ed} (h : edB x = true) : (x.2.1, x.2.2.1) ≠ (x.2.2.2.1, x.2.2.2.2) := fun e => by
  simp only [edB, edgeB, Bool.and_eq_true, decide_eq_true_eq] at h
  have h1 : x.2.1 = x.2.2.2.1 := (Prod.mk.inj e).1
  have h2 : x.2.2.1 = x.2.2.2.2 := (Prod.mk.inj e).2
  rw [h1, h2] at h
  omega
theorem other_turn {x : Ed} {n o : Nd} (hx : edB x = true) (h : otherI x n = some o) : otherI x o = some n ∧ o ≠ n := by
  have hne := edB_ne hx
  unfold otherI at h ⊢
  generalize (x.2.1, x.2.2.1) = A at *
  generalize (x.2.2.2.1, x.2.2.2.2) = B at *
  split at h
  · rename_i h1
    cases h
    subst h1
    exact ⟨by rw [if_neg (fun e => hne e.symm), if_pos rfl], fun e => hne e.symm⟩
  · rename_i h1
    split at h
    · rename_i h2
      cases h
      subst h2
      exact ⟨by rw [if_pos rfl], hne⟩
    · cases h
theorem nearG_eq {ns : List Nd} {es : List Ed} (n : Nd) (h : gokB ns es = true) : nearG n ns es = nearF n es := by rw [nearG, h]; rfl
theorem near_turn {ns : List Nd} {es : List Ed} {n o : Nd} (h : o ∈ nearG n ns es) : n ∈ nearG o ns es ∧ o ≠ n := by
  cases hg : gokB ns es with
  | false => rw [nearG, hg] at h; cases h
  | true =>
    have he := gok_edges (gokB_true.1 hg)
    rw [nearG_eq _ hg] at h ⊢
    obtain ⟨x, hx, ho⟩ := (nearF_mem he o).1 h
    have := other_turn (he x hx) ho
    exact ⟨(nearF_mem he n).2 ⟨x, hx, this.1⟩, this.2⟩
theorem nearG_asc (ns : List Nd) (es : List Ed) (n : Nd) : Asc (nearG n ns es) := by
  cases hg : gokB ns es with
  | false => rw [nearG, hg]; exact List.Pairwise.nil
  | true => rw [nearG_eq _ hg]; exact nearF_asc (gok_edges (gokB_true.1 hg))
theorem nearG_ok {ns : List Nd} {es : List Ed} {n y : Nd} (h : y ∈ nearG n ns es) : nodeB y.1 y.2 = true := by
  cases hg : gokB ns es with
  | false => rw [nearG, hg] at h; cases h
  | true => rw [nearG_eq _ hg] at h; exact nearF_ok (gok_edges (gokB_true.1 hg)) y h
theorem near_seen {ns : List Nd} {es : List Ed} {n o : Nd} {c : Int} (h : o ∈ nearG n (seenN c ns es) (seenE c ns es)) : o ∈ nearG n ns es := by
  cases hg : gokB ns es with
  | false =>
    have := seen_bad (c := c) (.inl hg)
    rw [this.1, this.2, nearG_eq _ gokB_nil] at h
    simp [nearF] at h
  | true =>
    have he := gok_edges (gokB_true.1 hg)
    have hv := gok_edges (gok_view c (gokB_true.1 hg))
    rw [nearG_eq _ (seen_ok c hg)] at h
    rw [nearG_eq _ hg]
    have e : seenE c ns es = viewE c es := by simp only [seenE, hg, if_true]
    rw [e] at h
    obtain ⟨x, hx, ho⟩ := (nearF_mem hv o).1 h
    exact (nearF_mem he o).2 ⟨x, (List.mem_filter.1 hx).1, ho⟩
theorem asc_nodup {xs : List Nd} (h : Asc xs) : xs.Nodup := h.imp (fun h e => by rw [e] at h; omega)
theorem nodup_sub_len {α : Type} [DecidableEq α] : ∀ {xs ys : List α}, xs.Nodup → (∀ x ∈ xs, x ∈ ys) → xs.length ≤ ys.length
  | [], _, _, _ => Nat.zero_le _
  | x :: xs, ys, hd, hs => by
    obtain ⟨h1, h2⟩ := List.nodup_cons.1 hd
    have hx := hs x (List.mem_cons_self ..)
    have ih := nodup_sub_len (xs := xs) (ys := ys.erase x) h2 (fun z hz => (List.mem_erase_of_ne (fun e => by subst e; exact h1 hz)).2 (hs z (List.mem_cons_of_mem _ hz)))
    rw [List.length_erase_of_mem hx] at ih
    have : 0 < ys.length := List.length_pos_of_mem hx
    simp only [List.length_cons]; omega
theorem near_seen_len (ns : List Nd) (es : List Ed) (n : Nd) (c : Int) : (nearG n (seenN c ns es) (seenE c ns es)).length ≤ (nearG n ns es).length :=
  nodup_sub_len (asc_nodup (nearG_asc _ _ _)) (fun _ h => near_seen h)
end Go.Proofs.YtcinjkpedigffaaDoor.Lab

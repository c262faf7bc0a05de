/-
  A store has a part for each label in use: what FnStoreLabels wants.
-/
import Derived.Test.YtlnpbfeihjfnjaaGreatDoorStf
namespace Go.Proofs.YtlnpbfeihjfnjaaGreatDoor.Lab
open Go.RowKit
set_option linter.unusedVariables false
def labN (a : Int) (ns : List Nd) : Bool := ns.any (fun x => x.1 == a)
def labE (a : Int) (es : List Ed) : Bool := es.any (fun x => x.1 == a)
theorem labN_step {a : Int} {ns : List Nd} {k : Nat} {x : Nd} (h : ns[k]? = some x) : labN a (ns.take (k + 1)) = (labN a (ns.take k) || x.1 == a) := by
  unfold labN; rw [List.take_add_one, h, List.any_append]; simp
theorem labE_step {a : Int} {es : List Ed} {k : Nat} {x : Ed} (h : es[k]? = some x) : labE a (es.take (k + 1)) = (labE a (es.take k) || x.1 == a) := by
  unfold labE; rw [List.take_add_one, h, List.any_append]; simp
theorem putIn_ne (acc : List Nd) (o : Nd) : putIn acc o ≠ [] := by
  intro h
  unfold putIn at h
  split at h
  · next hm => rw [h] at hm; simp at hm
  · have hm : o ∈ insN o acc := mem_insN.2 (.inl rfl)
    rw [h] at hm
    simp at hm
theorem onlyF_ne {es : List Ed} (h : es ≠ []) : onlyF es ≠ [] := by
  have H : ∀ (t : List Ed) (acc : List Nd), acc ≠ [] → t.foldl onlyStep acc ≠ [] := by
    intro t
    induction t with
    | nil => intro acc ha; exact ha
    | cons x t ih => intro acc _; exact ih _ (putIn_ne _ _)
  cases es with
  | nil => exact absurd rfl h
  | cons x t => exact H t _ (putIn_ne _ _)
theorem seg_has {ns : List Nd} {es : List Ed} (hg : gokB ns es = true) (hl : es.length ≤ 200) (a : Int) : (segB a ns es).isEmpty = !(labN a ns || labE a es) := by
  rw [segB_ok hg]
  unfold segL
  by_cases hc : numsL a ns = [] ∧ onlyF (ofE a es) = []
  · rw [if_pos hc]
    obtain ⟨h1, h2⟩ := hc
    have e1 : labN a ns = false := by
      unfold numsL at h1
      rw [List.map_eq_nil_iff] at h1
      have := List.filter_eq_nil_iff.1 h1
      unfold labN
      rw [List.any_eq_false]
      exact this
    have e2 : labE a es = false := by
      have h3 : ofE a es = [] := by
        by_cases hh : ofE a es = []
        · exact hh
        · exact absurd h2 (onlyF_ne hh)
      have := List.filter_eq_nil_iff.1 h3
      unfold labE
      rw [List.any_eq_false]
      exact this
    simp [e1, e2]
  · rw [if_neg hc]
    have hne : segK a ns es (onlyF (ofE a es)).length ≠ [] := by
      unfold segK
      intro h
      simp only [List.append_eq_nil_iff] at h
      have h2 := (pkL_nil _).1 h.1.2
      have h3 := onlyF_len (es := ofE a es) ((ofE_one (gokB_true.1 hg) a).1.1)
      have h4 : (ofE a es).length ≤ es.length := List.length_filter_le _ _
      omega
    have e : (labN a ns || labE a es) = true := by
      cases e1 : labN a ns
      · cases e2 : labE a es
        · exfalso
          apply hc
          unfold labN at e1
          unfold labE at e2
          rw [List.any_eq_false] at e1 e2
          refine ⟨by unfold numsL; rw [List.map_eq_nil_iff]; exact List.filter_eq_nil_iff.2 e1, ?_⟩
          rw [show ofE a es = [] from List.filter_eq_nil_iff.2 e2]
          rfl
        · rfl
      · rfl
    rw [e]
    cases hs : segK a ns es (onlyF (ofE a es)).length with
    | nil => exact absurd hs hne
    | cons _ _ => rfl
theorem storeK_pre (ns : List Nd) (es : List Ed) (k : Nat) : ∀ d, ∃ t, storeK ns es (k + d) = storeK ns es k ++ t
  | 0 => ⟨[], by simp⟩
  | d + 1 => by
    obtain ⟨t, ht⟩ := storeK_pre ns es k d
    rw [← Nat.add_assoc, storeK_succ]
    split
    · exact ⟨t, ht⟩
    · exact ⟨t ++ [(((k + d : Nat) : Int), segB (k + d : Nat) ns es)], by rw [ht, List.append_assoc]⟩
theorem store_at {ns : List Nd} {es : List Ed} {k : Nat} (hk : k < 8) (h : segB k ns es ≠ []) : (storeL ns es)[(storeK ns es k).length]? = some ((k : Int), segB k ns es) := by
  obtain ⟨t, ht⟩ := storeK_pre ns es (k + 1) (8 - (k + 1))
  rw [show k + 1 + (8 - (k + 1)) = 8 by omega] at ht
  unfold storeL
  rw [ht, storeK_succ, if_neg h]
  simp
end Go.Proofs.YtlnpbfeihjfnjaaGreatDoor.Lab

/-
  A ring of places, by who stands ahead and who behind: pure facts, no program in sight.
-/
import Derived.Test.YtcifjildjiakgaaDoorPlain
import Derived.WalkKit
namespace Go.Proofs.YtcifjildjiakgaaDoor.Lab
set_option linter.unusedVariables false
/-- From p on these stand one behind the other, and then z. (A: who is ahead; H: who is behind.) -/
def Linked (A H : Nat → Nat) : Nat → List Nat → Nat → Prop
  | p, [], z => H p = z ∧ A z = p
  | p, b :: L, z => H p = b ∧ A b = p ∧ Linked A H b L z
def upd (f : Nat → Nat) (a v : Nat) : Nat → Nat := fun x => if x = a then v else f x
theorem upd_at (f : Nat → Nat) (a v : Nat) : upd f a v a = v := by simp [upd]
theorem upd_else {f : Nat → Nat} {a v x : Nat} (h : x ≠ a) : upd f a v x = f x := by simp [upd, h]
theorem Linked.frame {A H A' H' : Nat → Nat} : ∀ {L : List Nat} {p z : Nat}, Linked A H p L z → (∀ x, x ∈ p :: L → H' x = H x) → (∀ x, x ∈ L ∨ x = z → A' x = A x) → Linked A' H' p L z
  | [], p, z, h, hH, hA => ⟨by rw [hH p (by simp)]; exact h.1, by rw [hA z (.inr rfl)]; exact h.2⟩
  | b :: L, p, z, h, hH, hA => ⟨by rw [hH p (by simp)]; exact h.1, by rw [hA b (.inl (by simp))]; exact h.2.1, h.2.2.frame (fun x hx => hH x (by simp at hx ⊢; exact .inr hx)) (fun x hx => hA x (by rcases hx with hx | hx; exact .inl (by simp [hx]); exact .inr hx))⟩
theorem Linked.parts {A H : Nat → Nat} {b : Nat} {L2 : List Nat} : ∀ {L1 : List Nat} {p z : Nat}, Linked A H p (L1 ++ b :: L2) z → A b ∈ p :: L1 ∧ (H b ∈ L2 ∨ H b = z) ∧ Linked A H b L2 z
  | [], p, z, h => by
    obtain ⟨h1, h2, h3⟩ := h
    refine ⟨by simp [h2], ?_, h3⟩
    cases L2 with
    | nil => exact .inr h3.1
    | cons c L3 => exact .inl (by simp [h3.1])
  | q :: L1, p, z, h => by
    obtain ⟨h1, h2, h3⟩ := h
    obtain ⟨k1, k2, k3⟩ := Linked.parts (L1 := L1) h3
    exact ⟨by simp at k1 ⊢; exact .inr k1, k2, k3⟩
/-- One is taken out of the row. -/
theorem Linked.rem {A H : Nat → Nat} {b : Nat} {L2 : List Nat} : ∀ {L1 : List Nat} {p z : Nat}, Linked A H p (L1 ++ b :: L2) z → (p :: (L1 ++ b :: L2)).Nodup → z ∉ L1 ++ b :: L2 → Linked (upd A (H b) (A b)) (upd H (A b) (H b)) p (L1 ++ L2) z
  | [], p, z, h, hn, hz => by
    obtain ⟨h1, h2, h3⟩ := h
    simp only [List.nil_append] at hn hz ⊢
    cases L2 with
    | nil => exact ⟨by rw [h2, upd_at]; exact h3.1, by rw [h3.1, upd_at]; exact h2⟩
    | cons c L3 =>
      obtain ⟨k1, k2, k3⟩ := h3
      simp only [List.nodup_cons, List.mem_cons, not_or] at hn hz
      refine ⟨by rw [h2, upd_at]; exact k1, by rw [k1, upd_at]; exact h2, k3.frame (fun x hx => upd_else ?_) (fun x hx => upd_else ?_)⟩
      · rw [h2]
        rintro rfl
        rcases List.mem_cons.1 hx with rfl | hx
        · exact hn.1.2.1 rfl
        · exact hn.1.2.2 hx
      · rw [k1]
        rintro rfl
        rcases hx with hx | hx
        · exact hn.2.2.1 hx
        · exact hz.2.1 hx.symm
  | q :: L1, p, z, h, hn, hz => by
    obtain ⟨h1, h2, h3⟩ := h
    obtain ⟨k1, k2, k3⟩ := Linked.parts (L1 := L1) h3
    simp only [List.cons_append, List.nodup_cons, List.mem_cons, List.mem_append, not_or] at hn hz
    have ih := Linked.rem (L1 := L1) h3 (by simp only [List.nodup_cons, List.mem_append, List.mem_cons, not_or]; exact hn.2) (by simp only [List.mem_append, List.mem_cons, not_or]; exact hz.2)
    refine ⟨?_, ?_, ih⟩
    · rw [upd_else (fun e => ?_)]
      · exact h1
      · rw [← e] at k1
        rcases List.mem_cons.1 k1 with k1 | k1
        · exact hn.1.1 k1
        · exact hn.1.2.1 k1
    · rw [upd_else (fun e => ?_)]
      · exact h2
      · rcases k2 with k2 | k2
        · rw [← e] at k2; exact hn.2.1.2.2 k2
        · rw [← e] at k2; exact hz.1 k2.symm
/-- One is put behind the first. -/
theorem Linked.ins {A H : Nat → Nat} {b R : Nat} {L : List Nat} (h : Linked A H R L R) (hn : (R :: L).Nodup) (hb : b ∉ R :: L) :
    Linked (upd (upd A b R) (H R) b) (upd (upd H b (H R)) R b) R (b :: L) R := by
  simp only [List.mem_cons, not_or] at hb
  have hbR : ¬ b = R := hb.1
  cases L with
  | nil =>
    obtain ⟨h1, h2⟩ := h
    rw [h1]
    refine ⟨by rw [upd_at], by rw [upd_else hbR, upd_at], ?_, by rw [upd_at]⟩
    rw [upd_else hbR, upd_at]
  | cons c L =>
    obtain ⟨h1, h2, h3⟩ := h
    simp only [List.nodup_cons, List.mem_cons, not_or] at hn hb
    rw [h1]
    refine ⟨by rw [upd_at], by rw [upd_else hb.2.1, upd_at], by rw [upd_else hbR, upd_at], by rw [upd_at], h3.frame (fun x hx => ?_) (fun x hx => ?_)⟩
    · rw [upd_else, upd_else]
      · rintro rfl
        rcases List.mem_cons.1 hx with hx | hx
        · exact hb.2.1 hx
        · exact hb.2.2 hx
      · rintro rfl
        rcases List.mem_cons.1 hx with hx | hx
        · exact hn.1.1 hx
        · exact hn.1.2 hx
    · rw [upd_else, upd_else]
      · rintro rfl
        rcases hx with hx | hx
        · exact hb.2.2 hx
        · exact hbR hx
      · rintro rfl
        rcases hx with hx | hx
        · exact hn.2.1 hx
        · exact hn.1.1 hx.symm
theorem Linked.last {A H : Nat → Nat} {p z : Nat} {L : List Nat} {b : Nat} (h : Linked A H p (L ++ [b]) z) : A z = b ∧ H b = z := by
  obtain ⟨_, _, k1, k2⟩ := Linked.parts h
  exact ⟨k2, k1⟩
end Go.Proofs.YtcifjildjiakgaaDoor.Lab

/-
  Operations undone, swapped, refused; in plain words.
-/
import Derived.Test.YtkhfbaggkmeahabGreatDoorGdq
namespace Go.Proofs.YtkhfbaggkmeahabGreatDoor.Lab
open Go.RowKit
set_option linter.unusedVariables false
theorem ins_offN {x : Nd} {ns : List Nd} (h : Asc ns) (hok : ∀ y ∈ ns, nodeB y.1 y.2 = true) (hm : x ∈ ns) : insN x (offN x ns) = ns := by
  refine asc_ext (asc_insN (h.filter _) (fun y hy e => ?_)) h (fun z => ?_)
  · have := mem_offN.1 hy; exact this.2 (cod_inj (hok y this.1) e)
  · rw [mem_insN, mem_offN]
    by_cases e : z = x
    · subst e; simp [hm]
    · simp [e]
theorem off_insN {x : Nd} {ns : List Nd} (h : Asc ns) (hi : Asc (insN x ns)) (hm : ¬ x ∈ ns) : offN x (insN x ns) = ns := by
  refine asc_ext (hi.filter _) h (fun z => ?_)
  show z ∈ offN x (insN x ns) ↔ _
  rw [mem_offN, mem_insN]
  refine ⟨fun ⟨h1, h2⟩ => h1.resolve_left h2, fun h1 => ⟨.inr h1, fun e => hm (by rw [← e]; exact h1)⟩⟩
theorem ins_offE {x : Ed} {es : List Ed} (h : AscE es) (hok : ∀ y ∈ es, edB y = true) (hm : x ∈ es) : insE x (offE x es) = es := by
  refine ascE_ext (asc_insE (hok x hm) (h.filter _) (fun y hy => ?_)) h (fun z => ?_)
  · have := mem_offE.1 hy; exact ⟨hok y this.1, this.2⟩
  · rw [mem_insE, mem_offE]
    by_cases e : z = x
    · subst e; simp [hm]
    · simp [e]
theorem off_insE {x : Ed} {es : List Ed} (h : AscE es) (hi : AscE (insE x es)) (hm : ¬ x ∈ es) : offE x (insE x es) = es := by
  refine ascE_ext (hi.filter _) h (fun z => ?_)
  show z ∈ offE x (insE x es) ↔ _
  rw [mem_offE, mem_insE]
  refine ⟨fun ⟨h1, h2⟩ => h1.resolve_left h2, fun h1 => ⟨.inr h1, fun e => hm (by rw [← e]; exact h1)⟩⟩
/-- The operation that undoes. -/
def backK (k : Int) : Int := if k = 1 then 4 else if k = 2 then 3 else 2
section
variable {ns ms : List Nd} {es fs : List Ed} {k nl nn l al an bl bn : Int}
theorem fine_back (hg : GOk ns es) (h : Fine ns es k nl nn l al an bl bn ms fs) (hk4 : k ≠ 4) : Fine ms fs (backK k) nl nn l al an bl bn ns es := by
  obtain ⟨h1, h2, h3, h4, h5, h6⟩ := gok_parts hg
  have hE := edgesOk_iff.1 hg.2
  cases h with
  | put hk ha hm hc =>
    subst hk
    have e1 := off_insN h2 (put_asc hg hm) hm
    have e2 : offG (nl, nn) es = es := by
      refine List.filter_eq_self.2 (fun e he => ?_)
      obtain ⟨g1, g2, g3⟩ := hE.1 e he
      have q1 : ¬ (e.2.1, e.2.2.1) = (nl, nn) := fun q => hm (by rw [← q]; exact g2)
      have q2 : ¬ (e.2.2.2.1, e.2.2.2.2) = (nl, nn) := fun q => hm (by rw [← q]; exact g3)
      have r1 : eqB (e.2.1, e.2.2.1) (nl, nn) = false := by simp only [eqB, decide_eq_false_iff_not]; exact q1
      have r2 : eqB (e.2.2.2.1, e.2.2.2.2) (nl, nn) = false := by simp only [eqB, decide_eq_false_iff_not]; exact q2
      simp only [hasG, r1, r2]; rfl
    have := Fine.gone (ns := insN (nl, nn) ns) (es := es) (k := backK 1) (l := l) (al := al) (an := an) (bl := bl) (bn := bn) rfl ha (mem_insN.2 (.inl rfl))
    rw [e1, e2] at this
    exact this
  | join hk ha hm hA hB hc =>
    subst hk
    have e1 := off_insE h4 (join_asc hg (alone_edge ha) hm) hm
    have := Fine.cut (ns := ns) (es := insE (l, al, an, bl, bn) es) (k := backK 2) (nl := nl) (nn := nn) rfl ha (mem_insE.2 (.inl rfl))
    rw [e1] at this
    exact this
  | cut hk ha hm =>
    subst hk
    have e1 := ins_offE h4 h3 hm
    obtain ⟨g1, g2, g3⟩ := hE.1 _ hm
    have hc : cntEdge l (offE (l, al, an, bl, bn) es) < 7 := by
      have q1 := hE.2.2 l (edB_ok (alone_edge ha))
      have q2 := cnt_insE l (l, al, an, bl, bn) (offE (l, al, an, bl, bn) es)
      rw [e1] at q2
      simp at q2
      omega
    have := Fine.join (ns := ns) (es := offE (l, al, an, bl, bn) es) (k := backK 3) (nl := nl) (nn := nn) rfl ha (fun h => (mem_offE.1 h).2 rfl) g2 g3 hc
    rw [e1] at this
    exact this
  | gone hk ha hm => exact absurd hk hk4
theorem gd_back (hg : gokB ns es = true) (h : gdC ns es k nl nn l al an bl bn = 0) (hk4 : k ≠ 4) :
    gdC (gdN ns es k nl nn l al an bl bn) (gdE ns es k nl nn l al an bl bn) (backK k) nl nn l al an bl bn = 0 ∧ gdN (gdN ns es k nl nn l al an bl bn) (gdE ns es k nl nn l al an bl bn) (backK k) nl nn l al an bl bn = ns ∧ gdE (gdN ns es k nl nn l al an bl bn) (gdE ns es k nl nn l al an bl bn) (backK k) nl nn l al an bl bn = es := by
  have hx := gd_gok (k := k) (nl := nl) (nn := nn) (l := l) (al := al) (an := an) (bl := bl) (bn := bn) hg
  obtain ⟨e1, e2, e3⟩ := gd_ok (k := backK k) (nl := nl) (nn := nn) (l := l) (al := al) (an := an) (bl := bl) (bn := bn) hx
  rw [e1, e2, e3]
  exact fine_do (gokB_true.1 hx) (fine_back (gokB_true.1 hg) (gd_fine hg h) hk4)
/-- Kinds of what is fine. -/
theorem gd_kind (hg : gokB ns es = true) (h : gdC ns es k nl nn l al an bl bn = 0) : k = 1 ∨ k = 2 ∨ k = 3 ∨ k = 4 := by
  have := gd_fine hg h
  generalize gdN ns es k nl nn l al an bl bn = a at this
  generalize gdE ns es k nl nn l al an bl bn = b at this
  cases this <;> omega
theorem gd_gone (hg : gokB ns es = true) (h : gdC ns es 4 nl nn l al an bl bn = 0) :
    (gdN ns es 4 nl nn l al an bl bn).length + 1 = ns.length ∧ (gdE ns es 4 nl nn l al an bl bn).length + es.countP (hasG (nl, nn)) = es.length ∧ gdE ns es 4 nl nn l al an bl bn = offG (nl, nn) es := by
  obtain ⟨h1, h2, h3, h4, h5, h6⟩ := gok_parts (gokB_true.1 hg)
  have hf := gd_fine hg h
  generalize gdN ns es 4 nl nn l al an bl bn = a at hf ⊢
  generalize gdE ns es 4 nl nn l al an bl bn = b at hf ⊢
  cases hf with
  | put hk ha hm hc => cases hk
  | join hk ha hm hA hB hc => cases hk
  | cut hk ha hm => cases hk
  | gone hk ha hm =>
    refine ⟨?_, ?_, rfl⟩
    · have := insN_len (nl, nn) (offN (nl, nn) ns)
      rw [ins_offN h2 h1 hm] at this
      omega
    · have := List.length_eq_countP_add_countP (l := es) (hasG (nl, nn))
      rw [offG, ← List.countP_eq_length_filter]
      have e : List.countP (fun e => !hasG (nl, nn) e) es = List.countP (fun a => decide ¬ hasG (nl, nn) a = true) es := by
        congr 1
        funext a
        cases hasG (nl, nn) a <;> rfl
      rw [e]
      omega
/-- What is full. -/
theorem gd_full (hg : gokB ns es = true) (h : gdC ns es k nl nn l al an bl bn = 4) : (k = 1 ∧ cntNode nl ns = 5) ∨ (k = 2 ∧ cntEdge l es = 7) := by
  rw [(gd_ok hg).2.2] at h
  have hN := nodesOk_iff.1 (gokB_true.1 hg).1
  have hE := edgesOk_iff.1 (gokB_true.1 hg).2
  have ho : ¬ opI k nl nn l al an bl bn < 0 := fun e => by unfold doC at h; rw [if_pos e] at h; cases h
  rw [doC_of ho] at h
  rcases opI_cases _ _ _ _ _ _ _ _ ho with ⟨hk, ha, e⟩ | ⟨hk, ha, e⟩
  · rcases hk with rfl | rfl
    · refine .inl ⟨rfl, ?_⟩
      have := hN.2.2 nl (nodeB_true (alone_node ha)).1
      unfold endsI at h
      rw [if_pos rfl] at h
      (repeat' split at h) <;> first | omega | (simp at h; done)
    · exfalso; unfold endsI at h
      rw [if_neg (by decide), if_neg (by decide), if_neg (by decide), if_pos rfl] at h
      split at h <;> cases h
  · rcases hk with rfl | rfl
    · refine .inr ⟨rfl, ?_⟩
      have := hE.2.2 l (edB_ok (alone_edge ha))
      unfold endsI at h
      rw [if_neg (by decide), if_pos rfl] at h
      (repeat' split at h) <;> first | omega | (simp at h; done)
    · exfalso; unfold endsI at h
      rw [if_neg (by decide), if_neg (by decide), if_pos rfl] at h
      split at h <;> cases h
/-- What is there already. -/
theorem gd_there (hg : gokB ns es = true) (h : gdC ns es k nl nn l al an bl bn = 2) : (k = 1 ∧ (nl, nn) ∈ ns) ∨ (k = 2 ∧ (l, al, an, bl, bn) ∈ es) := by
  rw [(gd_ok hg).2.2] at h
  have ho : ¬ opI k nl nn l al an bl bn < 0 := fun e => by unfold doC at h; rw [if_pos e] at h; cases h
  rw [doC_of ho] at h
  unfold endsI at h
  split at h
  · split at h
    · exact .inl ⟨by assumption, by assumption⟩
    · split at h <;> cases h
  · split at h
    · split at h
      · exact .inr ⟨by assumption, by assumption⟩
      · split at h
        · cases h
        · split at h <;> cases h
    · split at h
      · split at h <;> cases h
      · split at h
        · split at h <;> cases h
        · cases h
/-- What is not there. -/
theorem gd_none (hg : gokB ns es = true) (h : gdC ns es k nl nn l al an bl bn = 3) : (k = 2 ∧ edB (l, al, an, bl, bn) = true ∧ ¬ (l, al, an, bl, bn) ∈ es ∧ ¬ ((al, an) ∈ ns ∧ (bl, bn) ∈ ns)) ∨ (k = 3 ∧ ¬ (l, al, an, bl, bn) ∈ es) ∨ (k = 4 ∧ ¬ (nl, nn) ∈ ns) := by
  rw [(gd_ok hg).2.2] at h
  have ho : ¬ opI k nl nn l al an bl bn < 0 := fun e => by unfold doC at h; rw [if_pos e] at h; cases h
  rw [doC_of ho] at h
  rcases opI_cases _ _ _ _ _ _ _ _ ho with ⟨hk, ha, e⟩ | ⟨hk, ha, e⟩
  · rcases hk with rfl | rfl
    · exfalso; unfold endsI at h
      rw [if_pos rfl] at h
      (repeat' split at h) <;> simp at h
    · unfold endsI at h
      rw [if_neg (by decide), if_neg (by decide), if_neg (by decide), if_pos rfl] at h
      split at h
      · cases h
      · exact .inr (.inr ⟨rfl, by assumption⟩)
  · rcases hk with rfl | rfl
    · unfold endsI at h
      rw [if_neg (by decide), if_pos rfl] at h
      split at h
      · cases h
      · split at h
        · exact .inl ⟨rfl, alone_edge ha, by assumption, by assumption⟩
        · split at h <;> cases h
    · unfold endsI at h
      rw [if_neg (by decide), if_neg (by decide), if_pos rfl] at h
      split at h
      · cases h
      · exact .inr (.inl ⟨rfl, by assumption⟩)
end
theorem cnt_or_le {α : Type} (p q : α → Bool) : ∀ xs : List α, xs.countP (fun x => p x || q x) ≤ xs.countP p + xs.countP q
  | [] => by simp
  | x :: xs => by
    have ih := cnt_or_le p q xs
    simp only [List.countP_cons]
    cases p x <;> cases q x <;> simp <;> omega
theorem cnt_one {xs : List Nd} (h : xs.Nodup) (a : Nd) : xs.countP (fun y => eqB y a) ≤ (if a ∈ xs then 1 else 0) := by
  induction xs with
  | nil => simp
  | cons x xs ih =>
    obtain ⟨h1, h2⟩ := List.nodup_cons.1 h
    have ih := ih h2
    rw [List.countP_cons]
    by_cases e : x = a
    · subst e
      rw [if_neg h1] at ih
      have hx : eqB x x = true := by simp [eqB]
      rw [hx, if_pos (List.mem_cons_self ..)]
      simp only [if_true]
      omega
    · have : eqB x a = false := by simp [eqB, e]
      rw [this]
      have e2 : ¬ a = x := fun q => e q.symm
      by_cases hm : a ∈ xs
      · rw [if_pos hm] at ih; rw [if_pos (List.mem_cons_of_mem _ hm)]; simp only [Bool.false_eq_true, if_false]; omega
      · rw [if_neg hm] at ih; simp only [Bool.false_eq_true, if_false]; rw [if_neg (fun h => by rcases List.mem_cons.1 h with h | h; exact e2 h; exact hm h)]; omega
theorem asc_nd {xs : List Nd} (h : Asc xs) : xs.Nodup := h.imp (fun h e => by rw [e] at h; omega)
/-- Ends that are there: not both, fewer than two. -/
theorem ends_two {ns : List Nd} {es : List Ed} (hg : gokB ns es = true) {a b : Nd} (h : ¬ (a ∈ ns ∧ b ∈ ns)) : ns.countP (fun y => eqB y a || eqB y b) < 2 := by
  have hn := asc_nd (gok_parts (gokB_true.1 hg)).2.1
  have h1 := cnt_or_le (fun y => eqB y a) (fun y => eqB y b) ns
  have h2 := cnt_one hn a
  have h3 := cnt_one hn b
  by_cases ha : a ∈ ns
  · have hb : ¬ b ∈ ns := fun e => h ⟨ha, e⟩
    rw [if_pos ha] at h2
    rw [if_neg hb] at h3
    omega
  · rw [if_neg ha] at h2
    split at h3 <;> omega
/-- Is it among the first j. -/
def anyK {α : Type} [DecidableEq α] (xs : List α) (x : α) (j : Nat) : Bool := (xs.take j).any (fun y => eqB y x)
theorem anyK_zero {α : Type} [DecidableEq α] (xs : List α) (x : α) : anyK xs x 0 = false := by simp [anyK]
theorem anyK_step {α : Type} [DecidableEq α] {xs : List α} {x y : α} {j : Nat} (h : xs[j]? = some y) : anyK xs x (j + 1) = (anyK xs x j || eqB y x) := by
  unfold anyK
  rw [List.take_add_one, h, List.any_append]
  simp
theorem anyK_all {α : Type} [DecidableEq α] {xs : List α} {x : α} {j : Nat} (h : xs.length ≤ j) : anyK xs x j = decide (x ∈ xs) := by
  unfold anyK
  rw [List.take_of_length_le h, Bool.eq_iff_iff, List.any_eq_true]
  simp [eqB]
end Go.Proofs.YtkhfbaggkmeahabGreatDoor.Lab

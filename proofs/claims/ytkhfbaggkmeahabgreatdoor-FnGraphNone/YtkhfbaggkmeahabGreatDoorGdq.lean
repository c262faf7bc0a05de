/-
  What operations do to right graphs, in plain words: what the laws of operations ask.
-/
import Derived.Test.YtkhfbaggkmeahabGreatDoorIgd
namespace Go.Proofs.YtkhfbaggkmeahabGreatDoor.Lab
open Go.RowKit
set_option linter.unusedVariables false
/-- What an operation that is fine does: four ways. -/
inductive Fine (ns : List Nd) (es : List Ed) (k nl nn l al an bl bn : Int) : List Nd → List Ed → Prop
  | put (hk : k = 1) (ha : aloneN nl nn l al an bl bn = true) (hm : ¬ (nl, nn) ∈ ns) (hc : cntNode nl ns < 5) : Fine ns es k nl nn l al an bl bn (insN (nl, nn) ns) es
  | join (hk : k = 2) (ha : aloneE nl nn l al an bl bn = true) (hm : ¬ (l, al, an, bl, bn) ∈ es) (hA : (al, an) ∈ ns) (hB : (bl, bn) ∈ ns) (hc : cntEdge l es < 7) : Fine ns es k nl nn l al an bl bn ns (insE (l, al, an, bl, bn) es)
  | cut (hk : k = 3) (ha : aloneE nl nn l al an bl bn = true) (hm : (l, al, an, bl, bn) ∈ es) : Fine ns es k nl nn l al an bl bn ns (offE (l, al, an, bl, bn) es)
  | gone (hk : k = 4) (ha : aloneN nl nn l al an bl bn = true) (hm : (nl, nn) ∈ ns) : Fine ns es k nl nn l al an bl bn (offN (nl, nn) ns) (offG (nl, nn) es)
theorem opI_cases (k nl nn l al an bl bn : Int) (h : ¬ opI k nl nn l al an bl bn < 0) : ((k = 1 ∨ k = 4) ∧ aloneN nl nn l al an bl bn = true ∧ opI k nl nn l al an bl bn = nl) ∨ ((k = 2 ∨ k = 3) ∧ aloneE nl nn l al an bl bn = true ∧ opI k nl nn l al an bl bn = l) := by
  by_cases h1 : (k = 1 ∨ k = 4) ∧ aloneN nl nn l al an bl bn = true
  · refine .inl ⟨h1.1, h1.2, ?_⟩
    rcases h1.1 with rfl | rfl <;> simp [opI, h1.2]
  · by_cases h2 : (k = 2 ∨ k = 3) ∧ aloneE nl nn l al an bl bn = true
    · refine .inr ⟨h2.1, h2.2, ?_⟩
      rcases h2.1 with rfl | rfl <;> simp [opI, h2.2]
    · exfalso
      apply h
      have e : opI k nl nn l al an bl bn = -1 := by
        unfold opI
        rw [if_neg, if_neg]
        · simp only [Bool.and_eq_true, Bool.or_eq_true, beq_iff_eq]; exact h2
        · simp only [Bool.and_eq_true, Bool.or_eq_true, beq_iff_eq]; exact h1
      omega
theorem alone_node {nl nn l al an bl bn : Int} (h : aloneN nl nn l al an bl bn = true) : nodeB nl nn = true := by unfold aloneN at h; simp at h; exact h.1
theorem alone_edge {nl nn l al an bl bn : Int} (h : aloneE nl nn l al an bl bn = true) : edB (l, al, an, bl, bn) = true := by unfold aloneE at h; simp at h; exact h.1
theorem do_fine {ns : List Nd} {es : List Ed} {k nl nn l al an bl bn : Int} (hg : GOk ns es) (h : doC ns es k nl nn l al an bl bn = 0) : Fine ns es k nl nn l al an bl bn (doN ns es k nl nn l al an bl bn) (doE ns es k nl nn l al an bl bn) := by
  obtain ⟨h1, h2, h3, h4, h5, h6⟩ := gok_parts hg
  have ho : ¬ opI k nl nn l al an bl bn < 0 := fun e => by unfold doC at h; rw [if_pos e] at h; cases h
  rw [doC, if_neg ho] at h
  rcases opI_cases _ _ _ _ _ _ _ _ ho with ⟨hk, ha, _⟩ | ⟨hk, ha, _⟩
  · rcases hk with rfl | rfl
    · have hm : ¬ (nl, nn) ∈ ns := fun e => by simp [endsI, e] at h
      have hc : cntNode nl ns < 5 := by
        rcases Nat.lt_or_ge (cntNode nl ns) 5 with hc | hc
        · exact hc
        · simp [endsI, hm, hc] at h
      have e1 : doN ns es 1 nl nn l al an bl bn = insN (nl, nn) ns := by unfold doN; rw [if_neg ho, if_neg (by rw [h]; simp), if_pos rfl, insW_eq (alone_node ha) h1]
      have e2 : doE ns es 1 nl nn l al an bl bn = es := by unfold doE; rw [if_neg ho, if_neg (by rw [h]; simp), if_pos rfl]
      rw [e1, e2]
      exact .put rfl ha hm hc
    · have hm : (nl, nn) ∈ ns := by
        by_cases e : (nl, nn) ∈ ns
        · exact e
        · simp [endsI, e] at h
      have e1 : doN ns es 4 nl nn l al an bl bn = offN (nl, nn) ns := by unfold doN; rw [if_neg ho, if_neg (by rw [h]; simp), if_neg (by decide), if_neg (by decide), if_neg (by decide)]
      have e2 : doE ns es 4 nl nn l al an bl bn = offG (nl, nn) es := by unfold doE; rw [if_neg ho, if_neg (by rw [h]; simp), if_neg (by decide), if_neg (by decide), if_neg (by decide)]
      rw [e1, e2]
      exact .gone rfl ha hm
  · rcases hk with rfl | rfl
    · have hm : ¬ (l, al, an, bl, bn) ∈ es := fun e => by simp [endsI, e] at h
      have hAB : (al, an) ∈ ns ∧ (bl, bn) ∈ ns := by
        by_cases e : (al, an) ∈ ns ∧ (bl, bn) ∈ ns
        · exact e
        · exfalso
          unfold endsI at h
          rw [if_neg (by decide), if_pos rfl, if_neg hm, if_pos e] at h
          cases h
      have hc : cntEdge l es < 7 := by
        rcases Nat.lt_or_ge (cntEdge l es) 7 with hc | hc
        · exact hc
        · exfalso
          unfold endsI at h
          rw [if_neg (by decide), if_pos rfl, if_neg hm, if_neg (fun e => e hAB), if_pos hc] at h
          cases h
      have e1 : doN ns es 2 nl nn l al an bl bn = ns := by unfold doN; rw [if_neg ho, if_neg (by rw [h]; simp), if_neg (by decide), if_pos rfl]
      have e2 : doE ns es 2 nl nn l al an bl bn = insE (l, al, an, bl, bn) es := by unfold doE; rw [if_neg ho, if_neg (by rw [h]; simp), if_neg (by decide), if_pos rfl]
      rw [e1, e2]
      exact .join rfl ha hm hAB.1 hAB.2 hc
    · have hm : (l, al, an, bl, bn) ∈ es := by
        by_cases e : (l, al, an, bl, bn) ∈ es
        · exact e
        · simp [endsI, e] at h
      have e1 : doN ns es 3 nl nn l al an bl bn = ns := by unfold doN; rw [if_neg ho, if_neg (by rw [h]; simp), if_neg (by decide), if_neg (by decide), if_pos rfl]
      have e2 : doE ns es 3 nl nn l al an bl bn = offE (l, al, an, bl, bn) es := by unfold doE; rw [if_neg ho, if_neg (by rw [h]; simp), if_neg (by decide), if_neg (by decide), if_pos rfl]
      rw [e1, e2]
      exact .cut rfl ha hm
/-- A way that is fine is what is done. -/
theorem fine_do {ns ms : List Nd} {es fs : List Ed} {k nl nn l al an bl bn : Int} (hg : GOk ns es) (h : Fine ns es k nl nn l al an bl bn ms fs) : doC ns es k nl nn l al an bl bn = 0 ∧ doN ns es k nl nn l al an bl bn = ms ∧ doE ns es k nl nn l al an bl bn = fs := by
  obtain ⟨h1, h2, h3, h4, h5, h6⟩ := gok_parts hg
  have key : doC ns es k nl nn l al an bl bn = 0 := by
    cases h with
    | put hk ha hm hc => subst hk; rw [doC_of (opI_node (.inl rfl) ha)]; have : ¬ 5 ≤ cntNode nl ns := by omega
                         simp [endsI, hm, this]
    | join hk ha hm hA hB hc => subst hk; rw [doC_of (opI_edge (.inl rfl) ha)]; have : ¬ 7 ≤ cntEdge l es := by omega
                                simp [endsI, hm, hA, hB, this]
    | cut hk ha hm => subst hk; rw [doC_of (opI_edge (.inr rfl) ha)]; simp [endsI, hm]
    | gone hk ha hm => subst hk; rw [doC_of (opI_node (.inr rfl) ha)]; simp [endsI, hm]
  refine ⟨key, ?_⟩
  have hf := do_fine hg key
  generalize doN ns es k nl nn l al an bl bn = a at *
  generalize doE ns es k nl nn l al an bl bn = b at *
  cases h <;> cases hf <;> first | exact ⟨rfl, rfl⟩ | omega
/-- What is not fine turns nothing. -/
theorem do_not {ns : List Nd} {es : List Ed} {k nl nn l al an bl bn : Int} (hg : GOk ns es) (h : doC ns es k nl nn l al an bl bn ≠ 0) : doN ns es k nl nn l al an bl bn = ns ∧ doE ns es k nl nn l al an bl bn = es := by
  have hr := res_same hg (k := k) (nl := nl) (nn := nn) (l := l) (al := al) (an := an) (bl := bl) (bn := bn) rfl h
  obtain ⟨h1, h2, h3, h4, h5, h6⟩ := gok_parts hg
  exact ⟨asc_ext hr.na h2 hr.n, ascE_ext hr.ea h4 hr.e⟩
theorem cnt_insN (a : Int) (x : Nd) : ∀ ys : List Nd, cntNode a (insN x ys) = cntNode a ys + (if x.1 == a then 1 else 0)
  | [] => by simp [insN, cntNode, List.countP_cons]
  | y :: ys => by
    have ih := cnt_insN a x ys
    unfold insN
    split
    · simp only [cntNode, List.countP_cons] at ih ⊢
      omega
    · simp only [cntNode, List.countP_cons]
theorem cnt_insE (a : Int) (x : Ed) : ∀ ys : List Ed, cntEdge a (insE x ys) = cntEdge a ys + (if x.1 == a then 1 else 0)
  | [] => by simp [insE, cntEdge, List.countP_cons]
  | y :: ys => by
    have ih := cnt_insE a x ys
    unfold insE
    split
    · simp only [cntEdge, List.countP_cons] at ih ⊢
      omega
    · simp only [cntEdge, List.countP_cons]
theorem mem_offN {x z : Nd} {ns : List Nd} : z ∈ offN x ns ↔ z ∈ ns ∧ z ≠ x := by
  unfold offN; rw [List.mem_filter]; simp [eqB]
theorem mem_offE {x z : Ed} {es : List Ed} : z ∈ offE x es ↔ z ∈ es ∧ z ≠ x := by
  unfold offE; rw [List.mem_filter]; simp [eqB]
theorem mem_offG {x : Nd} {z : Ed} {es : List Ed} : z ∈ offG x es ↔ z ∈ es ∧ (z.2.1, z.2.2.1) ≠ x ∧ (z.2.2.2.1, z.2.2.2.2) ≠ x := by
  unfold offG hasG; rw [List.mem_filter]; simp [eqB]
theorem put_asc {ns : List Nd} {es : List Ed} (hg : GOk ns es) {x : Nd} (hm : ¬ x ∈ ns) : Asc (insN x ns) := by
  obtain ⟨h1, h2, h3, h4, h5, h6⟩ := gok_parts hg
  exact asc_insN h2 (fun y hy e => hm (by rw [← cod_inj (h1 y hy) e]; exact hy))
theorem join_asc {ns : List Nd} {es : List Ed} (hg : GOk ns es) {x : Ed} (hx : edB x = true) (hm : ¬ x ∈ es) : AscE (insE x es) := by
  obtain ⟨h1, h2, h3, h4, h5, h6⟩ := gok_parts hg
  exact asc_insE hx h4 (fun y hy => ⟨h3 y hy, fun e => hm (by rw [← e]; exact hy)⟩)
/-- It leaves a right graph. -/
theorem fine_gok {ns ms : List Nd} {es fs : List Ed} {k nl nn l al an bl bn : Int} (hg : GOk ns es) (h : Fine ns es k nl nn l al an bl bn ms fs) : GOk ms fs := by
  obtain ⟨h1, h2, h3, h4, h5, h6⟩ := gok_parts hg
  have hN := nodesOk_iff.1 hg.1
  have hE := edgesOk_iff.1 hg.2
  cases h with
  | put hk ha hm hc =>
    refine ⟨nodesOk_iff.2 ⟨fun x hx => ?_, put_asc hg hm, fun a haok => ?_⟩, edgesOk_iff.2 ⟨fun x hx => ?_, hE.2⟩⟩
    · rcases mem_insN.1 hx with rfl | hx
      · exact alone_node ha
      · exact h1 x hx
    · rw [cnt_insN]
      by_cases e : nl = a
      · subst e; simp; omega
      · have : (nl == a) = false := beq_eq_false_iff_ne.2 e
        have := hN.2.2 a haok
        simp [*]
    · obtain ⟨g1, g2, g3⟩ := hE.1 x hx
      exact ⟨g1, mem_insN.2 (.inr g2), mem_insN.2 (.inr g3)⟩
  | join hk ha hm hA hB hc =>
    refine ⟨hg.1, edgesOk_iff.2 ⟨fun x hx => ?_, join_asc hg (alone_edge ha) hm, fun a haok => ?_⟩⟩
    · rcases mem_insE.1 hx with rfl | hx
      · exact ⟨alone_edge ha, hA, hB⟩
      · exact hE.1 x hx
    · rw [cnt_insE]
      by_cases e : l = a
      · subst e; simp; omega
      · have : (l == a) = false := beq_eq_false_iff_ne.2 e
        have := hE.2.2 a haok
        simp [*]
  | cut hk ha hm =>
    exact ⟨hg.1, edgesOk_iff.2 ⟨fun x hx => hE.1 x (mem_offE.1 hx).1, hE.2.1.filter _, fun a haok => Nat.le_trans (List.Sublist.countP_le List.filter_sublist) (hE.2.2 a haok)⟩⟩
  | gone hk ha hm =>
    refine ⟨nodesOk_iff.2 ⟨fun x hx => h1 x (mem_offN.1 hx).1, h2.filter _, fun a haok => Nat.le_trans (List.Sublist.countP_le List.filter_sublist) (hN.2.2 a haok)⟩, edgesOk_iff.2 ⟨fun x hx => ?_, hE.2.1.filter _, fun a haok => Nat.le_trans (List.Sublist.countP_le List.filter_sublist) (hE.2.2 a haok)⟩⟩
    obtain ⟨q1, q2, q3⟩ := mem_offG.1 hx
    obtain ⟨g1, g2, g3⟩ := hE.1 x q1
    exact ⟨g1, mem_offN.2 ⟨g2, q2⟩, mem_offN.2 ⟨g3, q3⟩⟩
/-- It turns something. -/
theorem fine_new {ns ms : List Nd} {es fs : List Ed} {k nl nn l al an bl bn : Int} (hg : GOk ns es) (h : Fine ns es k nl nn l al an bl bn ms fs) : ¬ (ms = ns ∧ fs = es) := by
  rintro ⟨e1, e2⟩
  cases h with
  | put hk ha hm hc => exact hm (by rw [← e1]; exact mem_insN.2 (.inl rfl))
  | join hk ha hm hA hB hc => exact hm (by rw [← e2]; exact mem_insE.2 (.inl rfl))
  | cut hk ha hm => rw [← e2] at hm; exact (mem_offE.1 hm).2 rfl
  | gone hk ha hm => rw [← e1] at hm; exact (mem_offN.1 hm).2 rfl
/-- Done again it is refused. -/
theorem fine_again {ns ms : List Nd} {es fs : List Ed} {k nl nn l al an bl bn : Int} (hg : GOk ns es) (h : Fine ns es k nl nn l al an bl bn ms fs) : doC ms fs k nl nn l al an bl bn ≠ 0 := by
  cases h with
  | put hk ha hm hc => subst hk; rw [doC_of (opI_node (.inl rfl) ha)]; simp [endsI, mem_insN]
  | join hk ha hm hA hB hc => subst hk; rw [doC_of (opI_edge (.inl rfl) ha)]; simp [endsI, mem_insE]
  | cut hk ha hm => subst hk; rw [doC_of (opI_edge (.inr rfl) ha)]; simp [endsI, mem_offE]
  | gone hk ha hm => subst hk; rw [doC_of (opI_node (.inr rfl) ha)]; simp [endsI, mem_offN]
/-- GraphDo's answer over whatever graph. -/
theorem gd_bad {ns : List Nd} {es : List Ed} {k nl nn l al an bl bn : Int} (h : gokB ns es = false) : gdN ns es k nl nn l al an bl bn = [] ∧ gdE ns es k nl nn l al an bl bn = [] ∧ gdC ns es k nl nn l al an bl bn = 1 := by
  simp [gdN, gdE, gdC, h]
theorem gd_ok {ns : List Nd} {es : List Ed} {k nl nn l al an bl bn : Int} (h : gokB ns es = true) : gdN ns es k nl nn l al an bl bn = doN ns es k nl nn l al an bl bn ∧ gdE ns es k nl nn l al an bl bn = doE ns es k nl nn l al an bl bn ∧ gdC ns es k nl nn l al an bl bn = doC ns es k nl nn l al an bl bn := by
  simp [gdN, gdE, gdC, h]
theorem gd_fine {ns : List Nd} {es : List Ed} {k nl nn l al an bl bn : Int} (hg : gokB ns es = true) (h : gdC ns es k nl nn l al an bl bn = 0) : Fine ns es k nl nn l al an bl bn (gdN ns es k nl nn l al an bl bn) (gdE ns es k nl nn l al an bl bn) := by
  obtain ⟨e1, e2, e3⟩ := gd_ok (k := k) (nl := nl) (nn := nn) (l := l) (al := al) (an := an) (bl := bl) (bn := bn) hg
  rw [e1, e2]
  rw [e3] at h
  exact do_fine (gokB_true.1 hg) h
theorem gd_not {ns : List Nd} {es : List Ed} {k nl nn l al an bl bn : Int} (hg : gokB ns es = true) (h : gdC ns es k nl nn l al an bl bn ≠ 0) : gdN ns es k nl nn l al an bl bn = ns ∧ gdE ns es k nl nn l al an bl bn = es := by
  obtain ⟨e1, e2, e3⟩ := gd_ok (k := k) (nl := nl) (nn := nn) (l := l) (al := al) (an := an) (bl := bl) (bn := bn) hg
  rw [e1, e2]
  rw [e3] at h
  exact do_not (gokB_true.1 hg) h
theorem gd_form {ns : List Nd} {es : List Ed} {k nl nn l al an bl bn : Int} (hg : gokB ns es = true) : gdC ns es k nl nn l al an bl bn = 1 ↔ opI k nl nn l al an bl bn < 0 := by
  rw [(gd_ok hg).2.2, doC]
  split
  · simp [*]
  · rename_i h
    refine ⟨fun e => ?_, fun e => absurd e h⟩
    exfalso
    unfold endsI at e
    (repeat' split at e) <;> simp at e
theorem gd_gok {ns : List Nd} {es : List Ed} {k nl nn l al an bl bn : Int} (hg : gokB ns es = true) : gokB (gdN ns es k nl nn l al an bl bn) (gdE ns es k nl nn l al an bl bn) = true := by
  by_cases h : gdC ns es k nl nn l al an bl bn = 0
  · exact gokB_true.2 (fine_gok (gokB_true.1 hg) (gd_fine hg h))
  · obtain ⟨e1, e2⟩ := gd_not hg h; rw [e1, e2]; exact hg
/-- Done twice. -/
theorem gd_twice {ns : List Nd} {es : List Ed} {k nl nn l al an bl bn : Int} (hg : gokB ns es = true) (h : gdC ns es k nl nn l al an bl bn = 0) :
    gdC (gdN ns es k nl nn l al an bl bn) (gdE ns es k nl nn l al an bl bn) k nl nn l al an bl bn ≠ 0 ∧ gdN (gdN ns es k nl nn l al an bl bn) (gdE ns es k nl nn l al an bl bn) k nl nn l al an bl bn = gdN ns es k nl nn l al an bl bn ∧ gdE (gdN ns es k nl nn l al an bl bn) (gdE ns es k nl nn l al an bl bn) k nl nn l al an bl bn = gdE ns es k nl nn l al an bl bn := by
  have hf := gd_fine hg h
  have hx := gd_gok (k := k) (nl := nl) (nn := nn) (l := l) (al := al) (an := an) (bl := bl) (bn := bn) hg
  have hc : gdC (gdN ns es k nl nn l al an bl bn) (gdE ns es k nl nn l al an bl bn) k nl nn l al an bl bn ≠ 0 := by
    rw [(gd_ok hx).2.2]; exact fine_again (gokB_true.1 hg) hf
  exact ⟨hc, gd_not hx hc⟩
end Go.Proofs.YtkhfbaggkmeahabGreatDoor.Lab

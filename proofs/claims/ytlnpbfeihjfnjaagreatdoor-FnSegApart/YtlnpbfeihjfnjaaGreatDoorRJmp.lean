/-
  What operations do to right graphs, in plain words: what the laws of operations ask.
  What is done to a graph turns the bytes of its own label alone: what FnSegApart wants.
  Maps from numbers to rows of numbers: a row that a key keeps grows. No function of the program in sight.
-/
import Derived.Test.YtlnpbfeihjfnjaaGreatDoorRIgd
import Derived.Test.YtlnpbfeihjfnjaaGreatDoorRRd
import Derived.Test.YtlnpbfeihjfnjaaGreatDoorMap
import Derived.Test.YtlnpbfeihjfnjaaGreatDoorRErr
import Derived.Test.YtlnpbfeihjfnjaaGreatDoorApp
namespace Go.Proofs.YtlnpbfeihjfnjaaGreatDoor.Lab
open Go.RowKit
set_option linter.unusedVariables false
/-- What an operation that is fine does: four ways. -/
inductive Fine (ns : List Nd) (es : List Ed) (k nl nn l al an bl bn : Int) : List Nd → List Ed → Prop
  | put (hk : k = 1) (ha : aloneN nl nn l al an bl bn = true) (hm : ¬ (nl, nn) ∈ ns) (hc : cntNode nl ns < 5) : Fine ns es k nl nn l al an bl bn (insN (nl, nn) ns) es
  | join (hk : k = 2) (ha : aloneE nl nn l al an bl bn = true) (hm : ¬ (l, al, an, bl, bn) ∈ es) (hA : (al, an) ∈ ns) (hB : (bl, bn) ∈ ns) (hc : cntEdge l es < 7) : Fine ns es k nl nn l al an bl bn ns (insE (l, al, an, bl, bn) es)
  | cut (hk : k = 3) (ha : aloneE nl nn l al an bl bn = true) (hm : (l, al, an, bl, bn) ∈ es) : Fine ns es k nl nn l al an bl bn ns (offE (l, al, an, bl, bn) es)
  | gone (hk : k = 4) (ha : aloneN nl nn l al an bl bn = true) (hm : (nl, nn) ∈ ns) : Fine ns es k nl nn l al an bl bn (offN (nl, nn) ns) (offG (nl, nn) es)
theorem opI_cases (k nl nn l al an bl bn : Int) (h : ¬ opI k nl nn l al an bl bn < 0) : ((k = 1 ∨ k = 4) ∧ aloneN nl nn l al an bl bn = true ∧ opI k nl nn l al an bl bn = nl) ∨ ((k = 2 ∨ k = 3) ∧ aloneE nl nn l al an bl bn = true ∧ opI k nl nn l al an bl bn = l) := by
  by_cases h1 : (k = 1 ∨ k = 4) ∧ aloneN nl nn l al an bl bn = true
  · refine .inl ⟨h1.1, h1.2, ?_⟩
    rcases h1.1 with rfl | rfl <;> simp [opI, h1.2]
  · by_cases h2 : (k = 2 ∨ k = 3) ∧ aloneE nl nn l al an bl bn = true
    · refine .inr ⟨h2.1, h2.2, ?_⟩
      rcases h2.1 with rfl | rfl <;> simp [opI, h2.2]
    · exfalso
      apply h
      have e : opI k nl nn l al an bl bn = -1 := by
        unfold opI
        rw [if_neg, if_neg]
        · simp only [Bool.and_eq_true, Bool.or_eq_true, beq_iff_eq]; exact h2
        · simp only [Bool.and_eq_true, Bool.or_eq_true, beq_iff_eq]; exact h1
      omega
theorem alone_node {nl nn l al an bl bn : Int} (h : aloneN nl nn l al an bl bn = true) : nodeB nl nn = true := by unfold aloneN at h; simp at h; exact h.1
theorem alone_edge {nl nn l al an bl bn : Int} (h : aloneE nl nn l al an bl bn = true) : edB (l, al, an, bl, bn) = true := by unfold aloneE at h; simp at h; exact h.1
theorem do_fine {ns : List Nd} {es : List Ed} {k nl nn l al an bl bn : Int} (hg : GOk ns es) (h : doC ns es k nl nn l al an bl bn = 0) : Fine ns es k nl nn l al an bl bn (doN ns es k nl nn l al an bl bn) (doE ns es k nl nn l al an bl bn) := by
  obtain ⟨h1, h2, h3, h4, h5, h6⟩ := gok_parts hg
  have ho : ¬ opI k nl nn l al an bl bn < 0 := fun e => by unfold doC at h; rw [if_pos e] at h; cases h
  rw [doC, if_neg ho] at h
  rcases opI_cases _ _ _ _ _ _ _ _ ho with ⟨hk, ha, _⟩ | ⟨hk, ha, _⟩
  · rcases hk with rfl | rfl
    · have hm : ¬ (nl, nn) ∈ ns := fun e => by simp [endsI, e] at h
      have hc : cntNode nl ns < 5 := by
        rcases Nat.lt_or_ge (cntNode nl ns) 5 with hc | hc
        · exact hc
        · simp [endsI, hm, hc] at h
      have e1 : doN ns es 1 nl nn l al an bl bn = insN (nl, nn) ns := by unfold doN; rw [if_neg ho, if_neg (by rw [h]; simp), if_pos rfl, insW_eq (alone_node ha) h1]
      have e2 : doE ns es 1 nl nn l al an bl bn = es := by unfold doE; rw [if_neg ho, if_neg (by rw [h]; simp), if_pos rfl]
      rw [e1, e2]
      exact .put rfl ha hm hc
    · have hm : (nl, nn) ∈ ns := by
        by_cases e : (nl, nn) ∈ ns
        · exact e
        · simp [endsI, e] at h
      have e1 : doN ns es 4 nl nn l al an bl bn = offN (nl, nn) ns := by unfold doN; rw [if_neg ho, if_neg (by rw [h]; simp), if_neg (by decide), if_neg (by decide), if_neg (by decide)]
      have e2 : doE ns es 4 nl nn l al an bl bn = offG (nl, nn) es := by unfold doE; rw [if_neg ho, if_neg (by rw [h]; simp), if_neg (by decide), if_neg (by decide), if_neg (by decide)]
      rw [e1, e2]
      exact .gone rfl ha hm
  · rcases hk with rfl | rfl
    · have hm : ¬ (l, al, an, bl, bn) ∈ es := fun e => by simp [endsI, e] at h
      have hAB : (al, an) ∈ ns ∧ (bl, bn) ∈ ns := by
        by_cases e : (al, an) ∈ ns ∧ (bl, bn) ∈ ns
        · exact e
        · exfalso
          unfold endsI at h
          rw [if_neg (by decide), if_pos rfl, if_neg hm, if_pos e] at h
          cases h
      have hc : cntEdge l es < 7 := by
        rcases Nat.lt_or_ge (cntEdge l es) 7 with hc | hc
        · exact hc
        · exfalso
          unfold endsI at h
          rw [if_neg (by decide), if_pos rfl, if_neg hm, if_neg (fun e => e hAB), if_pos hc] at h
          cases h
      have e1 : doN ns es 2 nl nn l al an bl bn = ns := by unfold doN; rw [if_neg ho, if_neg (by rw [h]; simp), if_neg (by decide), if_pos rfl]
      have e2 : doE ns es 2 nl nn l al an bl bn = insE (l, al, an, bl, bn) es := by unfold doE; rw [if_neg ho, if_neg (by rw [h]; simp), if_neg (by decide), if_pos rfl]
      rw [e1, e2]
      exact .join rfl ha hm hAB.1 hAB.2 hc
    · have hm : (l, al, an, bl, bn) ∈ es := by
        by_cases e : (l, al, an, bl, bn) ∈ es
        · exact e
        · simp [endsI, e] at h
      have e1 : doN ns es 3 nl nn l al an bl bn = ns := by unfold doN; rw [if_neg ho, if_neg (by rw [h]; simp), if_neg (by decide), if_neg (by decide), if_pos rfl]
      have e2 : doE ns es 3 nl nn l al an bl bn = offE (l, al, an, bl, bn) es := by unfold doE; rw [if_neg ho, if_neg (by rw [h]; simp), if_neg (by decide), if_neg (by decide), if_pos rfl]
      rw [e1, e2]
      exact .cut rfl ha hm
/-- A way that is fine is what is done. -/
theorem fine_do {ns ms : List Nd} {es fs : List Ed} {k nl nn l al an bl bn : Int} (hg : GOk ns es) (h : Fine ns es k nl nn l al an bl bn ms fs) : doC ns es k nl nn l al an bl bn = 0 ∧ doN ns es k nl nn l al an bl bn = ms ∧ doE ns es k nl nn l al an bl bn = fs := by
  obtain ⟨h1, h2, h3, h4, h5, h6⟩ := gok_parts hg
  have key : doC ns es k nl nn l al an bl bn = 0 := by
    cases h with
    | put hk ha hm hc => subst hk; rw [doC_of (opI_node (.inl rfl) ha)]; have : ¬ 5 ≤ cntNode nl ns := by omega
                         simp [endsI, hm, this]
    | join hk ha hm hA hB hc => subst hk; rw [doC_of (opI_edge (.inl rfl) ha)]; have : ¬ 7 ≤ cntEdge l es := by omega
                                simp [endsI, hm, hA, hB, this]
    | cut hk ha hm => subst hk; rw [doC_of (opI_edge (.inr rfl) ha)]; simp [endsI, hm]
    | gone hk ha hm => subst hk; rw [doC_of (opI_node (.inr rfl) ha)]; simp [endsI, hm]
  refine ⟨key, ?_⟩
  have hf := do_fine hg key
  generalize doN ns es k nl nn l al an bl bn = a at *
  generalize doE ns es k nl nn l al an bl bn = b at *
  cases h <;> cases hf <;> first | exact ⟨rfl, rfl⟩ | omega
/-- What is not fine turns nothing. -/
theorem do_not {ns : List Nd} {es : List Ed} {k nl nn l al an bl bn : Int} (hg : GOk ns es) (h : doC ns es k nl nn l al an bl bn ≠ 0) : doN ns es k nl nn l al an bl bn = ns ∧ doE ns es k nl nn l al an bl bn = es := by
  have hr := res_same hg (k := k) (nl := nl) (nn := nn) (l := l) (al := al) (an := an) (bl := bl) (bn := bn) rfl h
  obtain ⟨h1, h2, h3, h4, h5, h6⟩ := gok_parts hg
  exact ⟨asc_ext hr.na h2 hr.n, ascE_ext hr.ea h4 hr.e⟩
theorem cnt_insN (a : Int) (x : Nd) : ∀ ys : List Nd, cntNode a (insN x ys) = cntNode a ys + (if x.1 == a then 1 else 0)
  | [] => by simp [insN, cntNode, List.countP_cons]
  | y :: ys => by
    have ih := cnt_insN a x ys
    unfold insN
    split
    · simp only [cntNode, List.countP_cons] at ih ⊢
      omega
    · simp only [cntNode, List.countP_cons]
theorem cnt_insE (a : Int) (x : Ed) : ∀ ys : List Ed, cntEdge a (insE x ys) = cntEdge a ys + (if x.1 == a then 1 else 0)
  | [] => by simp [insE, cntEdge, List.countP_cons]
  | y :: ys => by
    have ih := cnt_insE a x ys
    unfold insE
    split
    · simp only [cntEdge, List.countP_cons] at ih ⊢
      omega
    · simp only [cntEdge, List.countP_cons]
theorem mem_offN {x z : Nd} {ns : List Nd} : z ∈ offN x ns ↔ z ∈ ns ∧ z ≠ x := by
  unfold offN; rw [List.mem_filter]; simp [eqB]
theorem mem_offE {x z : Ed} {es : List Ed} : z ∈ offE x es ↔ z ∈ es ∧ z ≠ x := by
  unfold offE; rw [List.mem_filter]; simp [eqB]
theorem mem_offG {x : Nd} {z : Ed} {es : List Ed} : z ∈ offG x es ↔ z ∈ es ∧ (z.2.1, z.2.2.1) ≠ x ∧ (z.2.2.2.1, z.2.2.2.2) ≠ x := by
  unfold offG hasG; rw [List.mem_filter]; simp [eqB]
theorem put_asc {ns : List Nd} {es : List Ed} (hg : GOk ns es) {x : Nd} (hm : ¬ x ∈ ns) : Asc (insN x ns) := by
  obtain ⟨h1, h2, h3, h4, h5, h6⟩ := gok_parts hg
  exact asc_insN h2 (fun y hy e => hm (by rw [← cod_inj (h1 y hy) e]; exact hy))
theorem join_asc {ns : List Nd} {es : List Ed} (hg : GOk ns es) {x : Ed} (hx : edB x = true) (hm : ¬ x ∈ es) : AscE (insE x es) := by
  obtain ⟨h1, h2, h3, h4, h5, h6⟩ := gok_parts hg
  exact asc_insE hx h4 (fun y hy => ⟨h3 y hy, fun e => hm (by rw [← e]; exact hy)⟩)
/-- It leaves a right graph. -/
theorem fine_gok {ns ms : List Nd} {es fs : List Ed} {k nl nn l al an bl bn : Int} (hg : GOk ns es) (h : Fine ns es k nl nn l al an bl bn ms fs) : GOk ms fs := by
  obtain ⟨h1, h2, h3, h4, h5, h6⟩ := gok_parts hg
  have hN := nodesOk_iff.1 hg.1
  have hE := edgesOk_iff.1 hg.2
  cases h with
  | put hk ha hm hc =>
    refine ⟨nodesOk_iff.2 ⟨fun x hx => ?_, put_asc hg hm, fun a haok => ?_⟩, edgesOk_iff.2 ⟨fun x hx => ?_, hE.2⟩⟩
    · rcases mem_insN.1 hx with rfl | hx
      · exact alone_node ha
      · exact h1 x hx
    · rw [cnt_insN]
      by_cases e : nl = a
      · subst e; simp; omega
      · have : (nl == a) = false := beq_eq_false_iff_ne.2 e
        have := hN.2.2 a haok
        simp [*]
    · obtain ⟨g1, g2, g3⟩ := hE.1 x hx
      exact ⟨g1, mem_insN.2 (.inr g2), mem_insN.2 (.inr g3)⟩
  | join hk ha hm hA hB hc =>
    refine ⟨hg.1, edgesOk_iff.2 ⟨fun x hx => ?_, join_asc hg (alone_edge ha) hm, fun a haok => ?_⟩⟩
    · rcases mem_insE.1 hx with rfl | hx
      · exact ⟨alone_edge ha, hA, hB⟩
      · exact hE.1 x hx
    · rw [cnt_insE]
      by_cases e : l = a
      · subst e; simp; omega
      · have : (l == a) = false := beq_eq_false_iff_ne.2 e
        have := hE.2.2 a haok
        simp [*]
  | cut hk ha hm =>
    exact ⟨hg.1, edgesOk_iff.2 ⟨fun x hx => hE.1 x (mem_offE.1 hx).1, hE.2.1.filter _, fun a haok => Nat.le_trans (List.Sublist.countP_le List.filter_sublist) (hE.2.2 a haok)⟩⟩
  | gone hk ha hm =>
    refine ⟨nodesOk_iff.2 ⟨fun x hx => h1 x (mem_offN.1 hx).1, h2.filter _, fun a haok => Nat.le_trans (List.Sublist.countP_le List.filter_sublist) (hN.2.2 a haok)⟩, edgesOk_iff.2 ⟨fun x hx => ?_, hE.2.1.filter _, fun a haok => Nat.le_trans (List.Sublist.countP_le List.filter_sublist) (hE.2.2 a haok)⟩⟩
    obtain ⟨q1, q2, q3⟩ := mem_offG.1 hx
    obtain ⟨g1, g2, g3⟩ := hE.1 x q1
    exact ⟨g1, mem_offN.2 ⟨g2, q2⟩, mem_offN.2 ⟨g3, q3⟩⟩
/-- It turns something. -/
theorem fine_new {ns ms : List Nd} {es fs : List Ed} {k nl nn l al an bl bn : Int} (hg : GOk ns es) (h : Fine ns es k nl nn l al an bl bn ms fs) : ¬ (ms = ns ∧ fs = es) := by
  rintro ⟨e1, e2⟩
  cases h with
  | put hk ha hm hc => exact hm (by rw [← e1]; exact mem_insN.2 (.inl rfl))
  | join hk ha hm hA hB hc => exact hm (by rw [← e2]; exact mem_insE.2 (.inl rfl))
  | cut hk ha hm => rw [← e2] at hm; exact (mem_offE.1 hm).2 rfl
  | gone hk ha hm => rw [← e1] at hm; exact (mem_offN.1 hm).2 rfl
/-- Done again it is refused. -/
theorem fine_again {ns ms : List Nd} {es fs : List Ed} {k nl nn l al an bl bn : Int} (hg : GOk ns es) (h : Fine ns es k nl nn l al an bl bn ms fs) : doC ms fs k nl nn l al an bl bn ≠ 0 := by
  cases h with
  | put hk ha hm hc => subst hk; rw [doC_of (opI_node (.inl rfl) ha)]; simp [endsI, mem_insN]
  | join hk ha hm hA hB hc => subst hk; rw [doC_of (opI_edge (.inl rfl) ha)]; simp [endsI, mem_insE]
  | cut hk ha hm => subst hk; rw [doC_of (opI_edge (.inr rfl) ha)]; simp [endsI, mem_offE]
  | gone hk ha hm => subst hk; rw [doC_of (opI_node (.inr rfl) ha)]; simp [endsI, mem_offN]
/-- GraphDo's answer over whatever graph. -/
theorem gd_bad {ns : List Nd} {es : List Ed} {k nl nn l al an bl bn : Int} (h : gokB ns es = false) : gdN ns es k nl nn l al an bl bn = [] ∧ gdE ns es k nl nn l al an bl bn = [] ∧ gdC ns es k nl nn l al an bl bn = 1 := by
  simp [gdN, gdE, gdC, h]
theorem gd_ok {ns : List Nd} {es : List Ed} {k nl nn l al an bl bn : Int} (h : gokB ns es = true) : gdN ns es k nl nn l al an bl bn = doN ns es k nl nn l al an bl bn ∧ gdE ns es k nl nn l al an bl bn = doE ns es k nl nn l al an bl bn ∧ gdC ns es k nl nn l al an bl bn = doC ns es k nl nn l al an bl bn := by
  simp [gdN, gdE, gdC, h]
theorem gd_fine {ns : List Nd} {es : List Ed} {k nl nn l al an bl bn : Int} (hg : gokB ns es = true) (h : gdC ns es k nl nn l al an bl bn = 0) : Fine ns es k nl nn l al an bl bn (gdN ns es k nl nn l al an bl bn) (gdE ns es k nl nn l al an bl bn) := by
  obtain ⟨e1, e2, e3⟩ := gd_ok (k := k) (nl := nl) (nn := nn) (l := l) (al := al) (an := an) (bl := bl) (bn := bn) hg
  rw [e1, e2]
  rw [e3] at h
  exact do_fine (gokB_true.1 hg) h
theorem gd_not {ns : List Nd} {es : List Ed} {k nl nn l al an bl bn : Int} (hg : gokB ns es = true) (h : gdC ns es k nl nn l al an bl bn ≠ 0) : gdN ns es k nl nn l al an bl bn = ns ∧ gdE ns es k nl nn l al an bl bn = es := by
  obtain ⟨e1, e2, e3⟩ := gd_ok (k := k) (nl := nl) (nn := nn) (l := l) (al := al) (an := an) (bl := bl) (bn := bn) hg
  rw [e1, e2]
  rw [e3] at h
  exact do_not (gokB_true.1 hg) h
theorem gd_form {ns : List Nd} {es : List Ed} {k nl nn l al an bl bn : Int} (hg : gokB ns es = true) : gdC ns es k nl nn l al an bl bn = 1 ↔ opI k nl nn l al an bl bn < 0 := by
  rw [(gd_ok hg).2.2, doC]
  split
  · simp [*]
  · rename_i h
    refine ⟨fun e => ?_, fun e => absurd e h⟩
    exfalso
    unfold endsI at e
    (repeat' split at e) <;> simp at e
theorem gd_gok {ns : List Nd} {es : List Ed} {k nl nn l al an bl bn : Int} (hg : gokB ns es = true) : gokB (gdN ns es k nl nn l al an bl bn) (gdE ns es k nl nn l al an bl bn) = true := by
  by_cases h : gdC ns es k nl nn l al an bl bn = 0
  · exact gokB_true.2 (fine_gok (gokB_true.1 hg) (gd_fine hg h))
  · obtain ⟨e1, e2⟩ := gd_not hg h; rw [e1, e2]; exact hg
/-- Done twice. -/
theorem gd_twice {ns : List Nd} {es : List Ed} {k nl nn l al an bl bn : Int} (hg : gokB ns es = true) (h : gdC ns es k nl nn l al an bl bn = 0) :
    gdC (gdN ns es k nl nn l al an bl bn) (gdE ns es k nl nn l al an bl bn) k nl nn l al an bl bn ≠ 0 ∧ gdN (gdN ns es k nl nn l al an bl bn) (gdE ns es k nl nn l al an bl bn) k nl nn l al an bl bn = gdN ns es k nl nn l al an bl bn ∧ gdE (gdN ns es k nl nn l al an bl bn) (gdE ns es k nl nn l al an bl bn) k nl nn l al an bl bn = gdE ns es k nl nn l al an bl bn := by
  have hf := gd_fine hg h
  have hx := gd_gok (k := k) (nl := nl) (nn := nn) (l := l) (al := al) (an := an) (bl := bl) (bn := bn) hg
  have hc : gdC (gdN ns es k nl nn l al an bl bn) (gdE ns es k nl nn l al an bl bn) k nl nn l al an bl bn ≠ 0 := by
    rw [(gd_ok hx).2.2]; exact fine_again (gokB_true.1 hg) hf
  exact ⟨hc, gd_not hx hc⟩
end Go.Proofs.YtlnpbfeihjfnjaaGreatDoor.Lab
namespace Go.Proofs.YtlnpbfeihjfnjaaGreatDoor.Lab
open Go.RowKit
set_option linter.unusedVariables false
theorem segL_congr {a : Int} {ns ms : List Nd} {es fs : List Ed} (h1 : numsL a ns = numsL a ms) (h2 : ofE a es = ofE a fs) : segL a ns es = segL a ms fs := by
  unfold segL segK
  rw [h1, h2]
theorem ofN_same {a : Int} {ns ms : List Nd} (h1 : Asc ns) (h2 : Asc ms) (h : ∀ z : Nd, z.1 = a → (z ∈ ns ↔ z ∈ ms)) : numsL a ns = numsL a ms := by
  unfold numsL ofN
  congr 1
  refine asc_key_ext cod (h1.filter _) (h2.filter _) (fun z => ?_)
  rw [List.mem_filter, List.mem_filter]
  by_cases hz : z.1 = a
  · rw [h z hz]
  · have : (z.1 == a) = false := beq_eq_false_iff_ne.2 hz
    simp [this]
theorem ofE_same {a : Int} {es fs : List Ed} (h1 : AscE es) (h2 : AscE fs) (h : ∀ z : Ed, z.1 = a → (z ∈ es ↔ z ∈ fs)) : ofE a es = ofE a fs := by
  unfold ofE
  refine asc_key_ext eco (h1.filter _) (h2.filter _) (fun z => ?_)
  rw [List.mem_filter, List.mem_filter]
  by_cases hz : z.1 = a
  · rw [h z hz]
  · have : (z.1 == a) = false := beq_eq_false_iff_ne.2 hz
    simp [this]
theorem numsL_mem {a x : Int} {ns : List Nd} : x ∈ numsL a ns ↔ (a, x) ∈ ns := by
  unfold numsL ofN
  rw [List.mem_map]
  constructor
  · rintro ⟨y, hy, rfl⟩
    obtain ⟨h1, h2⟩ := List.mem_filter.1 hy
    have e : y.1 = a := by simpa using h2
    rw [← e]; exact h1
  · intro h
    exact ⟨(a, x), List.mem_filter.2 ⟨h, by simp⟩, rfl⟩
theorem ofE_mem {a : Int} {z : Ed} {es : List Ed} : z ∈ ofE a es ↔ z ∈ es ∧ z.1 = a := by
  unfold ofE
  rw [List.mem_filter]
  simp
/-- The bytes of the operation's own label turn; all others stay, but where a node goes, those above it. -/
theorem seg_apart {ns : List Nd} {es : List Ed} {k nl nn l al an bl bn : Int} (hg : gokB ns es = true) (hf : gdC ns es k nl nn l al an bl bn = 0) (a : Int) :
    (a = opI k nl nn l al an bl bn → segB a ns es ≠ segB a (gdN ns es k nl nn l al an bl bn) (gdE ns es k nl nn l al an bl bn)) ∧
    (a ≠ opI k nl nn l al an bl bn → segB a ns es = segB a (gdN ns es k nl nn l al an bl bn) (gdE ns es k nl nn l al an bl bn) ∨ (k = 4 ∧ underB (opI k nl nn l al an bl bn) a = true)) := by
  have G := gokB_true.1 hg
  have F := gd_fine hg hf
  generalize gdN ns es k nl nn l al an bl bn = ms at *
  generalize gdE ns es k nl nn l al an bl bn = fs at *
  have K := fine_gok G F
  rw [segB_ok hg, segB_ok (gokB_true.2 K)]
  have P := gok_parts G
  have Q := gok_parts K
  cases F with
  | put hk ha hm hc =>
    have ho : opI k nl nn l al an bl bn = nl := by subst hk; simp [opI, ha]
    rw [ho]
    refine ⟨fun e he => ?_, fun hne => .inl ?_⟩
    · subst e
      have h1 := (segL_inj G K he).1
      have h2 : nn ∈ numsL a (insN (a, nn) ns) := numsL_mem.2 (mem_insN.2 (.inl rfl))
      rw [← h1] at h2
      exact hm (numsL_mem.1 h2)
    · refine segL_congr (ofN_same P.2.1 Q.2.1 (fun z hz => ?_)) rfl
      rw [mem_insN]
      constructor
      · exact fun h => .inr h
      · rintro (h | h)
        · exact absurd (hz.symm.trans (by rw [h])) hne
        · exact h
  | join hk ha hm hA hB hc =>
    have ho : opI k nl nn l al an bl bn = l := by subst hk; simp [opI, ha]
    rw [ho]
    refine ⟨fun e he => ?_, fun hne => .inl ?_⟩
    · subst e
      have h1 := (segL_inj G K he).2
      have h2 : (a, al, an, bl, bn) ∈ ofE a (insE (a, al, an, bl, bn) es) := ofE_mem.2 ⟨mem_insE.2 (.inl rfl), rfl⟩
      rw [← h1] at h2
      exact hm (ofE_mem.1 h2).1
    · refine segL_congr rfl (ofE_same P.2.2.2.1 Q.2.2.2.1 (fun z hz => ?_))
      rw [mem_insE]
      constructor
      · exact fun h => .inr h
      · rintro (h | h)
        · exact absurd (hz.symm.trans (by rw [h])) hne
        · exact h
  | cut hk ha hm =>
    have ho : opI k nl nn l al an bl bn = l := by subst hk; simp [opI, ha]
    rw [ho]
    refine ⟨fun e he => ?_, fun hne => .inl ?_⟩
    · subst e
      have h1 := (segL_inj G K he).2
      have h2 : (a, al, an, bl, bn) ∈ ofE a es := ofE_mem.2 ⟨hm, rfl⟩
      rw [h1] at h2
      have h3 := (List.mem_filter.1 (ofE_mem.1 h2).1).2
      rw [eqB_true.2 rfl] at h3
      cases h3
    · refine segL_congr rfl (ofE_same P.2.2.2.1 Q.2.2.2.1 (fun z hz => ?_))
      unfold offE
      rw [List.mem_filter]
      refine ⟨fun h => ⟨h, ?_⟩, fun h => h.1⟩
      have : eqB z (l, al, an, bl, bn) = false := eqB_false.2 (fun e => hne (hz.symm.trans (by rw [e])))
      rw [this]; rfl
  | gone hk ha hm =>
    have ho : opI k nl nn l al an bl bn = nl := by subst hk; simp [opI, ha]
    rw [ho]
    refine ⟨fun e he => ?_, fun hne => ?_⟩
    · subst e
      have h1 := (segL_inj G K he).1
      have h2 : nn ∈ numsL a ns := numsL_mem.2 hm
      rw [h1] at h2
      have h3 := (List.mem_filter.1 (numsL_mem.1 h2)).2
      rw [eqB_true.2 rfl] at h3
      cases h3
    · by_cases hu : underB nl a = true
      · exact .inr ⟨hk, hu⟩
      · refine .inl (segL_congr (ofN_same P.2.1 Q.2.1 (fun z hz => ?_)) (ofE_same P.2.2.2.1 Q.2.2.2.1 (fun z hz => ?_)))
        · unfold offN
          rw [List.mem_filter]
          refine ⟨fun h => ⟨h, ?_⟩, fun h => h.1⟩
          have : eqB z (nl, nn) = false := eqB_false.2 (fun e => hne (hz.symm.trans (by rw [e])))
          rw [this]; rfl
        · unfold offG
          rw [List.mem_filter]
          refine ⟨fun h => ⟨h, ?_⟩, fun h => h.1⟩
          have hz2 := P.2.2.1 z h
          simp only [edB, edgeB, Bool.and_eq_true] at hz2
          have : hasG (nl, nn) z = false := by
            cases hh : hasG (nl, nn) z
            · rfl
            · exfalso
              unfold hasG at hh
              rw [Bool.or_eq_true] at hh
              rcases hh with hh | hh
              · have e := eqB_true.1 hh
                have e1 : z.2.1 = nl := congrArg Prod.fst e
                exact hu (by rw [← e1, ← hz]; exact hz2.1.2)
              · have e := eqB_true.1 hh
                have e1 : z.2.2.2.1 = nl := congrArg Prod.fst e
                exact hu (by rw [← e1, ← hz]; exact hz2.2)
          rw [this]; rfl
end Go.Proofs.YtlnpbfeihjfnjaaGreatDoor.Lab
namespace Go.Proofs.YtlnpbfeihjfnjaaGreatDoor.Lab
open Go.RowKit Go.ChangeMaps
set_option linter.unusedVariables false
def setK (es : List (Int × Value)) (key : Int) (val : Value) : List (Int × Value) := es.map (fun p => if p.1 = key then (key, val) else p)
theorem lkp_mem : ∀ {es : List (Int × Value)} {k : Int} {v : Value}, lkp es k = some v → (k, v) ∈ es
  | [], k, v, h => by cases h
  | p :: es, k, v, h => by
    simp only [lkp] at h
    split at h
    · rename_i hk
      cases h
      rw [hk]; exact List.mem_cons_self ..
    · exact List.mem_cons_of_mem _ (lkp_mem h)
theorem lkp_none_mem {es : List (Int × Value)} {k : Int} (h : lkp es k = none) : k ∉ es.map (·.1) := fun hm => by
  obtain ⟨p, hp, e⟩ := List.mem_map.1 hm
  exact lkp_none_not h p hp e
theorem MapAt.set {P : Program} {w : World} {b : Nat} {es : List (Int × Value)} {t k e : TypeId} (h : MapAt w b es) (ht : P.underlying t = some (.map k e)) (hk : P.underlying k = some (.int .i64)) {key : Int} {val0 : Value} (hn : lkp es key = some val0) (val : Value) :
    ∃ w', (Instr.mapUpdate t (.map (some b)) (.int .i64 key) val).run P w = .ok () w' ∧ MapAt w' b (setK es key val) ∧ w.grownBy w' (some b) := by
  obtain ⟨ents, clock, h1, h2, h0⟩ := h
  obtain ⟨r, hf, ⟨h4, rfl⟩ | ⟨j, v, h4, rfl⟩⟩ := findNow_int key ents.toList es 0 h2
  · rw [hn] at h4; cases h4
  · rw [hn] at h4
    obtain rfl := Option.some.inj h4
    obtain ⟨en, he, _, hek, hev⟩ := findNow_at key ents.toList es 0 j val0 h2 hf
    have he0 : ents.toList[j]? = some en := by simpa using he
    have he' : ents[j]? = some en := by simpa using he
    have h3 : (Instr.findKey k (.int .i64 key) ents.toList).run P w = .ok (some (j, val0)) w := by simp [Instr.findKey, run_underlying hk, hf]
    have hst : (Instr.keyThatStays (.int .i64 key) (.int .i64 key)).run P w = .ok (.int .i64 key) w := MapKept.run_keyThatStays (d := .int .i64) rfl
    refine ⟨setBlock w b (.map (ents.modify j (fun e => { e with key := .int .i64 key, val := val })) clock), ?_, ⟨_, clock, heap_setBlock_same h1 _, ?_, ?_⟩, ⟨rfl, rfl, rfl, by simp [setBlock], fun i _ hi => heap_setBlock_other h1 _ (fun e => hi (by rw [e]))⟩⟩
    · simp [Instr.mapUpdate, run_underlying ht, MapKept.run_getObj_map h1, run_checkKey hk, h3, he', hek, hst, MapKept.run_setObj_map _ h1, Result.andThen, setBlock]
    · apply List.ext_getElem?
      intro i
      have hi2 := congrArg (fun l => l[i]?) h2
      simp only [List.getElem?_map] at hi2
      simp only [List.getElem?_map, Array.getElem?_toList, Array.getElem?_modify, setK]
      by_cases hij : j = i
      · subst hij
        rw [he0] at hi2
        cases hes : es[j]? with
        | none => rw [hes] at hi2; cases hi2
        | some p =>
          rw [hes] at hi2
          simp only [Option.map_some, Option.some.injEq, Prod.mk.injEq] at hi2
          have hp : p.1 = key := by have := hi2.1; rw [hek] at this; simpa using this.symm
          simp [he', hp]
      · rw [if_neg hij]
        cases hes : es[i]? with
        | none =>
          rw [hes] at hi2
          simp only [Option.map_none, Option.map_eq_none_iff, Array.getElem?_toList] at hi2
          simp [hi2]
        | some p =>
          rw [hes] at hi2
          obtain ⟨x, hx, hxe⟩ := Option.map_eq_some_iff.1 hi2
          simp only [Prod.mk.injEq] at hxe
          have hp : ¬ p.1 = key := fun hpk => by
            obtain ⟨l1, l2⟩ := List.getElem?_eq_some_iff.1 hx
            obtain ⟨l3, l4⟩ := List.getElem?_eq_some_iff.1 he0
            have hnd := List.pairwise_iff_getElem.1 h0.2.2
            have hk1 : x.key = .int .i64 key := by rw [hxe.1, hpk]
            rcases Nat.lt_or_gt_of_ne hij with h | h
            · have := hnd j i (by simpa using l3) (by simpa using l1) h
              simp only [List.getElem_map] at this
              rw [l2, l4, hk1, hek] at this; exact this rfl
            · have := hnd i j (by simpa using l1) (by simpa using l3) h
              simp only [List.getElem_map] at this
              rw [l2, l4, hk1, hek] at this; exact this rfl
          rw [Array.getElem?_toList] at hx
          simp [hx, hp, hxe.1, hxe.2]
    · refine MapKept.stamped_modify h0 j _ (fun _ _ => rfl) (fun e hem hje => ?_)
      rw [he'] at hje
      cases hje
      exact hek.symm
/-- A map that keeps rows of numbers: each key's row is f's; rows lie apart. -/
structure JAt (w : World) (J : Nat) (f : Int → List Int) (kv : List (Int × Value)) : Prop where
  map : MapAt w J kv
  nd : (kv.map (·.1)).Nodup
  row : ∀ p ∈ kv, w.ownsRow (J + 1) 3 1 p.2 (f p.1).length ((f p.1).flatMap encI)
  dom : ∀ c, c ∈ kv.map (·.1) ↔ f c ≠ []
  ap : kv.Pairwise (fun p q => ∀ g, p.2.ownBlock = some g → q.2.ownBlock ≠ some g)
def addF (f : Int → List Int) (c x : Int) : Int → List Int := fun d => if d = c then f c ++ [x] else f d
theorem JAt.keep {w w' : World} {J : Nat} {f : Int → List Int} {kv : List (Int × Value)} (h : JAt w J f kv) (hb : Below w.heap.size w w') : JAt w' J f kv :=
  ⟨h.map.keep hb, h.nd, fun p hp => own_keep (h.row p hp) hb, h.dom, h.ap⟩
theorem ap_of {kv : List (Int × Value)} (hnd : (kv.map (·.1)).Nodup) (hap : kv.Pairwise (fun p q => ∀ g, p.2.ownBlock = some g → q.2.ownBlock ≠ some g)) {p q : Int × Value} (hp : p ∈ kv) (hq : q ∈ kv) (hne : p.1 ≠ q.1) : ∀ g, p.2.ownBlock = some g → q.2.ownBlock ≠ some g := by
  obtain ⟨i, hi, rfl⟩ := List.getElem_of_mem hp
  obtain ⟨j, hj, rfl⟩ := List.getElem_of_mem hq
  have hij : i ≠ j := fun e => hne (by subst e; rfl)
  rcases Nat.lt_or_gt_of_ne hij with h | h
  · exact List.pairwise_iff_getElem.1 hap i j hi hj h
  · intro g h1 h2
    exact List.pairwise_iff_getElem.1 hap j i hj hi h g h2 h1
theorem JAt.get {w : World} {J : Nat} {f : Int → List Int} {kv : List (Int × Value)} (h : JAt w J f kv) (c : Int) :
    ∃ v, (lkp kv c).getD (.slice none 0 0) = v ∧ w.ownsRow (J + 1) 3 1 v (f c).length ((f c).flatMap encI) ∧ ∀ p ∈ kv, p.1 ≠ c → ∀ g, v.ownBlock = some g → p.2.ownBlock ≠ some g := by
  cases hl : lkp kv c with
  | none =>
    have hf : f c = [] := by
      cases hc : f c with
      | nil => rfl
      | cons a l => exact absurd ((h.dom c).2 (by rw [hc]; simp)) (lkp_none_mem hl)
    exact ⟨_, rfl, by rw [hf]; exact World.ownsRow_nil _ _ _ _, fun p _ _ g hg => by simp [Value.ownBlock] at hg⟩
  | some v =>
    have hm := lkp_mem hl
    exact ⟨v, rfl, h.row _ hm, fun p hp hne g hg => ap_of h.nd h.ap hm hp (fun e => hne e.symm) g hg⟩
theorem setK_keys {kv : List (Int × Value)} (c : Int) (v : Value) : (setK kv c v).map (·.1) = kv.map (·.1) := by
  unfold setK
  rw [List.map_map]
  refine List.map_congr_left (fun p hp => ?_)
  simp only [Function.comp]
  split
  · rename_i h; exact h.symm
  · rfl
theorem JAt.put {P : Program} {w w1 w3 : World} {J : Nat} {f : Int → List Int} {kv : List (Int × Value)} {t k e : TypeId} (h : JAt w J f kv) (ht : P.underlying t = some (.map k e)) (hk : P.underlying k = some (.int .i64)) (c x : Int) {v v' : Value} (hv : (lkp kv c).getD (.slice none 0 0) = v)
    (hb1 : Below w.heap.size w w1) (hg : w1.grownBy w3 v.ownBlock) (ho : w3.ownsRow (J + 1) 3 1 v' ((f c).length + 1) ((f c).flatMap encI ++ [.int .i64 x])) (hat : v'.ownBlock = v.ownBlock ∨ ∃ k, v'.ownBlock = some k ∧ w.heap.size ≤ k) :
    ∃ w' kv', (Instr.mapUpdate t (.map (some J)) (.int .i64 c) v').run P w3 = .ok () w' ∧ w3.grownBy w' (some J) ∧ JAt w' J (addF f c x) kv' := by
  obtain ⟨v0, hv0, hown, hapv⟩ := h.get c
  rw [hv] at hv0
  subst hv0
  have hJ := h.map.lt
  have hlow := fun g hg => (hown.lt g hg).1
  have hm3 : MapAt w3 J kv := (h.map.keep hb1).of (hg.block J (Nat.lt_of_lt_of_le hJ hb1.size) (fun e => by have := hlow J e.symm; omega))
  have hne' : ∀ g, v'.ownBlock = some g → g ≠ J := fun g hg => by have := (ho.lt g hg).1; omega
  have oth : ∀ p ∈ kv, p.1 ≠ c → w3.ownsRow (J + 1) 3 1 p.2 (f p.1).length ((f p.1).flatMap encI) := fun p hp hpc =>
    own_gr (own_keep (h.row p hp) hb1) hg (fun k h1 h2 => hapv p hp hpc k h2 h1)
  have apn : ∀ p ∈ kv, p.1 ≠ c → ∀ g, v'.ownBlock = some g → p.2.ownBlock ≠ some g := fun p hp hpc g hg hpg => by
    rcases hat with e | ⟨j, e, hj⟩
    · exact hapv p hp hpc g (by rw [← e]; exact hg) hpg
    · rw [e] at hg; cases hg
      have := ((h.row p hp).lt _ hpg).2; omega
  have kept : ∀ {w' : World}, w3.grownBy w' (some J) → (∀ p ∈ kv, p.1 ≠ c → w'.ownsRow (J + 1) 3 1 p.2 (addF f c x p.1).length ((addF f c x p.1).flatMap encI)) ∧ w'.ownsRow (J + 1) 3 1 v' (addF f c x c).length ((addF f c x c).flatMap encI) := fun hg' => by
    refine ⟨fun p hp hpc => ?_, ?_⟩
    · have h1 : addF f c x p.1 = f p.1 := by unfold addF; rw [if_neg hpc]
      rw [h1]
      exact own_gr (oth p hp hpc) hg' (fun k h1 h2 => by cases h2; have := ((oth p hp hpc).lt _ h1).1; omega)
    · have h1 : addF f c x c = f c ++ [x] := by unfold addF; rw [if_pos rfl]
      rw [h1, List.length_append, List.flatMap_append]
      have := own_gr ho hg' (fun k h1 h2 => by cases h2; exact hne' _ h1 rfl)
      simpa [encI] using this
  cases hl : lkp kv c with
  | none =>
    obtain ⟨w', r1, r2, r3⟩ := hm3.push ht hk hl v'
    obtain ⟨k1, k2⟩ := kept r3
    have hnc := lkp_none_mem hl
    have hpc : ∀ p ∈ kv, p.1 ≠ c := fun p hp e => hnc (List.mem_map.2 ⟨p, hp, e⟩)
    refine ⟨w', kv ++ [(c, v')], r1, r3, r2, ?_, ?_, ?_, ?_⟩
    · rw [List.map_append]
      refine List.nodup_append.2 ⟨h.nd, by simp, fun a ha b hb => ?_⟩
      simp at hb
      subst hb
      exact fun e => hnc (e ▸ ha)
    · intro p hp
      rcases List.mem_append.1 hp with hp | hp
      · exact k1 p hp (hpc p hp)
      · simp at hp; subst hp; exact k2
    · intro d
      rw [List.map_append, List.mem_append]
      unfold addF
      by_cases hd : d = c
      · subst hd; simp
      · rw [if_neg hd, h.dom]; simp [hd]
    · refine List.pairwise_append.2 ⟨h.ap, by simp, fun p hp q hq => ?_⟩
      simp at hq
      subst hq
      exact fun g h1 h2 => apn p hp (hpc p hp) g h2 h1
  | some v0 =>
    obtain ⟨w', r1, r2, r3⟩ := hm3.set ht hk hl v'
    obtain ⟨k1, k2⟩ := kept r3
    refine ⟨w', setK kv c v', r1, r3, r2, by rw [setK_keys]; exact h.nd, ?_, ?_, ?_⟩
    · intro p hp
      obtain ⟨q, hq, rfl⟩ := List.mem_map.1 hp
      split
      · exact k2
      · rename_i hqc; exact k1 q hq hqc
    · intro d
      rw [setK_keys]
      unfold addF
      by_cases hd : d = c
      · subst hd
        have : d ∈ kv.map (·.1) := List.mem_map.2 ⟨_, lkp_mem hl, rfl⟩
        simp [this]
      · rw [if_neg hd, h.dom]
    · unfold setK
      rw [List.pairwise_map]
      have hmm := h.ap
      have hnd := List.pairwise_map.1 h.nd
      refine (List.Pairwise.and hmm hnd).imp_of_mem ?_
      intro p q hp hq hpq g h1 h2
      obtain ⟨h3, h4⟩ := hpq
      by_cases hpc : p.1 = c
      · have hqc : ¬ q.1 = c := fun e => h4 (hpc.trans e.symm)
        rw [if_pos hpc] at h1
        rw [if_neg hqc] at h2
        exact apn q hq hqc g h1 h2
      · rw [if_neg hpc] at h1
        by_cases hqc : q.1 = c
        · rw [if_pos hqc] at h2
          exact apn p hp hpc g h2 h1
        · rw [if_neg hqc] at h2
          exact h3 g h1 h2
end Go.Proofs.YtlnpbfeihjfnjaaGreatDoor.Lab

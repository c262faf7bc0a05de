/-
  What operations do to right graphs, in plain words: what the laws of operations ask.
  What is done to a graph turns the bytes of its own label alone: what FnSegApart wants.
  How long a label's bytes are: what holds more is no shorter.
  A label's bytes grow and shrink with what is done: what FnSegLong wants.
-/
import Derived.Test.YtlnpbfeihjfnjaaGreatDoorQIgd
import Derived.Test.YtlnpbfeihjfnjaaGreatDoorQRd
namespace Go.Proofs.YtlnpbfeihjfnjaaGreatDoor.Lab
open Go.RowKit
set_option linter.unusedVariables false
/-- What an operation that is fine does: four ways. -/
inductive Fine (ns : List Nd) (es : List Ed) (k nl nn l al an bl bn : Int) : List Nd → List Ed → Prop
  | put (hk : k = 1) (ha : aloneN nl nn l al an bl bn = true) (hm : ¬ (nl, nn) ∈ ns) (hc : cntNode nl ns < 5) : Fine ns es k nl nn l al an bl bn (insN (nl, nn) ns) es
  | join (hk : k = 2) (ha : aloneE nl nn l al an bl bn = true) (hm : ¬ (l, al, an, bl, bn) ∈ es) (hA : (al, an) ∈ ns) (hB : (bl, bn) ∈ ns) (hc : cntEdge l es < 7) : Fine ns es k nl nn l al an bl bn ns (insE (l, al, an, bl, bn) es)
  | cut (hk : k = 3) (ha : aloneE nl nn l al an bl bn = true) (hm : (l, al, an, bl, bn) ∈ es) : Fine ns es k nl nn l al an bl bn ns (offE (l, al, an, bl, bn) es)
  | gone (hk : k = 4) (ha : aloneN nl nn l al an bl bn = true) (hm : (nl, nn) ∈ ns) : Fine ns es k nl nn l al an bl bn (offN (nl, nn) ns) (offG (nl, nn) es)
theorem opI_cases (k nl nn l al an bl bn : Int) (h : ¬ opI k nl nn l al an bl bn < 0) : ((k = 1 ∨ k = 4) ∧ aloneN nl nn l al an bl bn = true ∧ opI k nl nn l al an bl bn = nl) ∨ ((k = 2 ∨ k = 3) ∧ aloneE nl nn l al an bl bn = true ∧ opI k nl nn l al an bl bn = l) := by
  by_cases h1 : (k = 1 ∨ k = 4) ∧ aloneN nl nn l al an bl bn = true
  · refine .inl ⟨h1.1, h1.2, ?_⟩
    rcases h1.1 with rfl | rfl <;> simp [opI, h1.2]
  · by_cases h2 : (k = 2 ∨ k = 3) ∧ aloneE nl nn l al an bl bn = true
    · refine .inr ⟨h2.1, h2.2, ?_⟩
      rcases h2.1 with rfl | rfl <;> simp [opI, h2.2]
    · exfalso
      apply h
      have e : opI k nl nn l al an bl bn = -1 := by
        unfold opI
        rw [if_neg, if_neg]
        · simp only [Bool.and_eq_true, Bool.or_eq_true, beq_iff_eq]; exact h2
        · simp only [Bool.and_eq_true, Bool.or_eq_true, beq_iff_eq]; exact h1
      omega
theorem alone_node {nl nn l al an bl bn : Int} (h : aloneN nl nn l al an bl bn = true) : nodeB nl nn = true := by unfold aloneN at h; simp at h; exact h.1
theorem alone_edge {nl nn l al an bl bn : Int} (h : aloneE nl nn l al an bl bn = true) : edB (l, al, an, bl, bn) = true := by unfold aloneE at h; simp at h; exact h.1
theorem do_fine {ns : List Nd} {es : List Ed} {k nl nn l al an bl bn : Int} (hg : GOk ns es) (h : doC ns es k nl nn l al an bl bn = 0) : Fine ns es k nl nn l al an bl bn (doN ns es k nl nn l al an bl bn) (doE ns es k nl nn l al an bl bn) := by
  obtain ⟨h1, h2, h3, h4, h5, h6⟩ := gok_parts hg
  have ho : ¬ opI k nl nn l al an bl bn < 0 := fun e => by unfold doC at h; rw [if_pos e] at h; cases h
  rw [doC, if_neg ho] at h
  rcases opI_cases _ _ _ _ _ _ _ _ ho with ⟨hk, ha, _⟩ | ⟨hk, ha, _⟩
  · rcases hk with rfl | rfl
    · have hm : ¬ (nl, nn) ∈ ns := fun e => by simp [endsI, e] at h
      have hc : cntNode nl ns < 5 := by
        rcases Nat.lt_or_ge (cntNode nl ns) 5 with hc | hc
        · exact hc
        · simp [endsI, hm, hc] at h
      have e1 : doN ns es 1 nl nn l al an bl bn = insN (nl, nn) ns := by unfold doN; rw [if_neg ho, if_neg (by rw [h]; simp), if_pos rfl, insW_eq (alone_node ha) h1]
      have e2 : doE ns es 1 nl nn l al an bl bn = es := by unfold doE; rw [if_neg ho, if_neg (by rw [h]; simp), if_pos rfl]
      rw [e1, e2]
      exact .put rfl ha hm hc
    · have hm : (nl, nn) ∈ ns := by
        by_cases e : (nl, nn) ∈ ns
        · exact e
        · simp [endsI, e] at h
      have e1 : doN ns es 4 nl nn l al an bl bn = offN (nl, nn) ns := by unfold doN; rw [if_neg ho, if_neg (by rw [h]; simp), if_neg (by decide), if_neg (by decide), if_neg (by decide)]
      have e2 : doE ns es 4 nl nn l al an bl bn = offG (nl, nn) es := by unfold doE; rw [if_neg ho, if_neg (by rw [h]; simp), if_neg (by decide), if_neg (by decide), if_neg (by decide)]
      rw [e1, e2]
      exact .gone rfl ha hm
  · rcases hk with rfl | rfl
    · have hm : ¬ (l, al, an, bl, bn) ∈ es := fun e => by simp [endsI, e] at h
      have hAB : (al, an) ∈ ns ∧ (bl, bn) ∈ ns := by
        by_cases e : (al, an) ∈ ns ∧ (bl, bn) ∈ ns
        · exact e
        · exfalso
          unfold endsI at h
          rw [if_neg (by decide), if_pos rfl, if_neg hm, if_pos e] at h
          cases h
      have hc : cntEdge l es < 7 := by
        rcases Nat.lt_or_ge (cntEdge l es) 7 with hc | hc
        · exact hc
        · exfalso
          unfold endsI at h
          rw [if_neg (by decide), if_pos rfl, if_neg hm, if_neg (fun e => e hAB), if_pos hc] at h
          cases h
      have e1 : doN ns es 2 nl nn l al an bl bn = ns := by unfold doN; rw [if_neg ho, if_neg (by rw [h]; simp), if_neg (by decide), if_pos rfl]
      have e2 : doE ns es 2 nl nn l al an bl bn = insE (l, al, an, bl, bn) es := by unfold doE; rw [if_neg ho, if_neg (by rw [h]; simp), if_neg (by decide), if_pos rfl]
      rw [e1, e2]
      exact .join rfl ha hm hAB.1 hAB.2 hc
    · have hm : (l, al, an, bl, bn) ∈ es := by
        by_cases e : (l, al, an, bl, bn) ∈ es
        · exact e
        · simp [endsI, e] at h
      have e1 : doN ns es 3 nl nn l al an bl bn = ns := by unfold doN; rw [if_neg ho, if_neg (by rw [h]; simp), if_neg (by decide), if_neg (by decide), if_pos rfl]
      have e2 : doE ns es 3 nl nn l al an bl bn = offE (l, al, an, bl, bn) es := by unfold doE; rw [if_neg ho, if_neg (by rw [h]; simp), if_neg (by decide), if_neg (by decide), if_pos rfl]
      rw [e1, e2]
      exact .cut rfl ha hm
/-- A way that is fine is what is done. -/
theorem fine_do {ns ms : List Nd} {es fs : List Ed} {k nl nn l al an bl bn : Int} (hg : GOk ns es) (h : Fine ns es k nl nn l al an bl bn ms fs) : doC ns es k nl nn l al an bl bn = 0 ∧ doN ns es k nl nn l al an bl bn = ms ∧ doE ns es k nl nn l al an bl bn = fs := by
  obtain ⟨h1, h2, h3, h4, h5, h6⟩ := gok_parts hg
  have key : doC ns es k nl nn l al an bl bn = 0 := by
    cases h with
    | put hk ha hm hc => subst hk; rw [doC_of (opI_node (.inl rfl) ha)]; have : ¬ 5 ≤ cntNode nl ns := by omega
                         simp [endsI, hm, this]
    | join hk ha hm hA hB hc => subst hk; rw [doC_of (opI_edge (.inl rfl) ha)]; have : ¬ 7 ≤ cntEdge l es := by omega
                                simp [endsI, hm, hA, hB, this]
    | cut hk ha hm => subst hk; rw [doC_of (opI_edge (.inr rfl) ha)]; simp [endsI, hm]
    | gone hk ha hm => subst hk; rw [doC_of (opI_node (.inr rfl) ha)]; simp [endsI, hm]
  refine ⟨key, ?_⟩
  have hf := do_fine hg key
  generalize doN ns es k nl nn l al an bl bn = a at *
  generalize doE ns es k nl nn l al an bl bn = b at *
  cases h <;> cases hf <;> first | exact ⟨rfl, rfl⟩ | omega
/-- What is not fine turns nothing. -/
theorem do_not {ns : List Nd} {es : List Ed} {k nl nn l al an bl bn : Int} (hg : GOk ns es) (h : doC ns es k nl nn l al an bl bn ≠ 0) : doN ns es k nl nn l al an bl bn = ns ∧ doE ns es k nl nn l al an bl bn = es := by
  have hr := res_same hg (k := k) (nl := nl) (nn := nn) (l := l) (al := al) (an := an) (bl := bl) (bn := bn) rfl h
  obtain ⟨h1, h2, h3, h4, h5, h6⟩ := gok_parts hg
  exact ⟨asc_ext hr.na h2 hr.n, ascE_ext hr.ea h4 hr.e⟩
theorem cnt_insN (a : Int) (x : Nd) : ∀ ys : List Nd, cntNode a (insN x ys) = cntNode a ys + (if x.1 == a then 1 else 0)
  | [] => by simp [insN, cntNode, List.countP_cons]
  | y :: ys => by
    have ih := cnt_insN a x ys
    unfold insN
    split
    · simp only [cntNode, List.countP_cons] at ih ⊢
      omega
    · simp only [cntNode, List.countP_cons]
theorem cnt_insE (a : Int) (x : Ed) : ∀ ys : List Ed, cntEdge a (insE x ys) = cntEdge a ys + (if x.1 == a then 1 else 0)
  | [] => by simp [insE, cntEdge, List.countP_cons]
  | y :: ys => by
    have ih := cnt_insE a x ys
    unfold insE
    split
    · simp only [cntEdge, List.countP_cons] at ih ⊢
      omega
    · simp only [cntEdge, List.countP_cons]
theorem mem_offN {x z : Nd} {ns : List Nd} : z ∈ offN x ns ↔ z ∈ ns ∧ z ≠ x := by
  unfold offN; rw [List.mem_filter]; simp [eqB]
theorem mem_offE {x z : Ed} {es : List Ed} : z ∈ offE x es ↔ z ∈ es ∧ z ≠ x := by
  unfold offE; rw [List.mem_filter]; simp [eqB]
theorem mem_offG {x : Nd} {z : Ed} {es : List Ed} : z ∈ offG x es ↔ z ∈ es ∧ (z.2.1, z.2.2.1) ≠ x ∧ (z.2.2.2.1, z.2.2.2.2) ≠ x := by
  unfold offG hasG; rw [List.mem_filter]; simp [eqB]
theorem put_asc {ns : List Nd} {es : List Ed} (hg : GOk ns es) {x : Nd} (hm : ¬ x ∈ ns) : Asc (insN x ns) := by
  obtain ⟨h1, h2, h3, h4, h5, h6⟩ := gok_parts hg
  exact asc_insN h2 (fun y hy e => hm (by rw [← cod_inj (h1 y hy) e]; exact hy))
theorem join_asc {ns : List Nd} {es : List Ed} (hg : GOk ns es) {x : Ed} (hx : edB x = true) (hm : ¬ x ∈ es) : AscE (insE x es) := by
  obtain ⟨h1, h2, h3, h4, h5, h6⟩ := gok_parts hg
  exact asc_insE hx h4 (fun y hy => ⟨h3 y hy, fun e => hm (by rw [← e]; exact hy)⟩)
/-- It leaves a right graph. -/
theorem fine_gok {ns ms : List Nd} {es fs : List Ed} {k nl nn l al an bl bn : Int} (hg : GOk ns es) (h : Fine ns es k nl nn l al an bl bn ms fs) : GOk ms fs := by
  obtain ⟨h1, h2, h3, h4, h5, h6⟩ := gok_parts hg
  have hN := nodesOk_iff.1 hg.1
  have hE := edgesOk_iff.1 hg.2
  cases h with
  | put hk ha hm hc =>
    refine ⟨nodesOk_iff.2 ⟨fun x hx => ?_, put_asc hg hm, fun a haok => ?_⟩, edgesOk_iff.2 ⟨fun x hx => ?_, hE.2⟩⟩
    · rcases mem_insN.1 hx with rfl | hx
      · exact alone_node ha
      · exact h1 x hx
    · rw [cnt_insN]
      by_cases e : nl = a
      · subst e; simp; omega
      · have : (nl == a) = false := beq_eq_false_iff_ne.2 e
        have := hN.2.2 a haok
        simp [*]
    · obtain ⟨g1, g2, g3⟩ := hE.1 x hx
      exact ⟨g1, mem_insN.2 (.inr g2), mem_insN.2 (.inr g3)⟩
  | join hk ha hm hA hB hc =>
    refine ⟨hg.1, edgesOk_iff.2 ⟨fun x hx => ?_, join_asc hg (alone_edge ha) hm, fun a haok => ?_⟩⟩
    · rcases mem_insE.1 hx with rfl | hx
      · exact ⟨alone_edge ha, hA, hB⟩
      · exact hE.1 x hx
    · rw [cnt_insE]
      by_cases e : l = a
      · subst e; simp; omega
      · have : (l == a) = false := beq_eq_false_iff_ne.2 e
        have := hE.2.2 a haok
        simp [*]
  | cut hk ha hm =>
    exact ⟨hg.1, edgesOk_iff.2 ⟨fun x hx => hE.1 x (mem_offE.1 hx).1, hE.2.1.filter _, fun a haok => Nat.le_trans (List.Sublist.countP_le List.filter_sublist) (hE.2.2 a haok)⟩⟩
  | gone hk ha hm =>
    refine ⟨nodesOk_iff.2 ⟨fun x hx => h1 x (mem_offN.1 hx).1, h2.filter _, fun a haok => Nat.le_trans (List.Sublist.countP_le List.filter_sublist) (hN.2.2 a haok)⟩, edgesOk_iff.2 ⟨fun x hx => ?_, hE.2.1.filter _, fun a haok => Nat.le_trans (List.Sublist.countP_le List.filter_sublist) (hE.2.2 a haok)⟩⟩
    obtain ⟨q1, q2, q3⟩ := mem_offG.1 hx
    obtain ⟨g1, g2, g3⟩ := hE.1 x q1
    exact ⟨g1, mem_offN.2 ⟨g2, q2⟩, mem_offN.2 ⟨g3, q3⟩⟩
/-- It turns something. -/
theorem fine_new {ns ms : List Nd} {es fs : List Ed} {k nl nn l al an bl bn : Int} (hg : GOk ns es) (h : Fine ns es k nl nn l al an bl bn ms fs) : ¬ (ms = ns ∧ fs = es) := by
  rintro ⟨e1, e2⟩
  cases h with
  | put hk ha hm hc => exact hm (by rw [← e1]; exact mem_insN.2 (.inl rfl))
  | join hk ha hm hA hB hc => exact hm (by rw [← e2]; exact mem_insE.2 (.inl rfl))
  | cut hk ha hm => rw [← e2] at hm; exact (mem_offE.1 hm).2 rfl
  | gone hk ha hm => rw [← e1] at hm; exact (mem_offN.1 hm).2 rfl
/-- Done again it is refused. -/
theorem fine_again {ns ms : List Nd} {es fs : List Ed} {k nl nn l al an bl bn : Int} (hg : GOk ns es) (h : Fine ns es k nl nn l al an bl bn ms fs) : doC ms fs k nl nn l al an bl bn ≠ 0 := by
  cases h with
  | put hk ha hm hc => subst hk; rw [doC_of (opI_node (.inl rfl) ha)]; simp [endsI, mem_insN]
  | join hk ha hm hA hB hc => subst hk; rw [doC_of (opI_edge (.inl rfl) ha)]; simp [endsI, mem_insE]
  | cut hk ha hm => subst hk; rw [doC_of (opI_edge (.inr rfl) ha)]; simp [endsI, mem_offE]
  | gone hk ha hm => subst hk; rw [doC_of (opI_node (.inr rfl) ha)]; simp [endsI, mem_offN]
/-- GraphDo's answer over whatever graph. -/
theorem gd_bad {ns : List Nd} {es : List Ed} {k nl nn l al an bl bn : Int} (h : gokB ns es = false) : gdN ns es k nl nn l al an bl bn = [] ∧ gdE ns es k nl nn l al an bl bn = [] ∧ gdC ns es k nl nn l al an bl bn = 1 := by
  simp [gdN, gdE, gdC, h]
theorem gd_ok {ns : List Nd} {es : List Ed} {k nl nn l al an bl bn : Int} (h : gokB ns es = true) : gdN ns es k nl nn l al an bl bn = doN ns es k nl nn l al an bl bn ∧ gdE ns es k nl nn l al an bl bn = doE ns es k nl nn l al an bl bn ∧ gdC ns es k nl nn l al an bl bn = doC ns es k nl nn l al an bl bn := by
  simp [gdN, gdE, gdC, h]
theorem gd_fine {ns : List Nd} {es : List Ed} {k nl nn l al an bl bn : Int} (hg : gokB ns es = true) (h : gdC ns es k nl nn l al an bl bn = 0) : Fine ns es k nl nn l al an bl bn (gdN ns es k nl nn l al an bl bn) (gdE ns es k nl nn l al an bl bn) := by
  obtain ⟨e1, e2, e3⟩ := gd_ok (k := k) (nl := nl) (nn := nn) (l := l) (al := al) (an := an) (bl := bl) (bn := bn) hg
  rw [e1, e2]
  rw [e3] at h
  exact do_fine (gokB_true.1 hg) h
theorem gd_not {ns : List Nd} {es : List Ed} {k nl nn l al an bl bn : Int} (hg : gokB ns es = true) (h : gdC ns es k nl nn l al an bl bn ≠ 0) : gdN ns es k nl nn l al an bl bn = ns ∧ gdE ns es k nl nn l al an bl bn = es := by
  obtain ⟨e1, e2, e3⟩ := gd_ok (k := k) (nl := nl) (nn := nn) (l := l) (al := al) (an := an) (bl := bl) (bn := bn) hg
  rw [e1, e2]
  rw [e3] at h
  exact do_not (gokB_true.1 hg) h
theorem gd_form {ns : List Nd} {es : List Ed} {k nl nn l al an bl bn : Int} (hg : gokB ns es = true) : gdC ns es k nl nn l al an bl bn = 1 ↔ opI k nl nn l al an bl bn < 0 := by
  rw [(gd_ok hg).2.2, doC]
  split
  · simp [*]
  · rename_i h
    refine ⟨fun e => ?_, fun e => absurd e h⟩
    exfalso
    unfold endsI at e
    (repeat' split at e) <;> simp at e
theorem gd_gok {ns : List Nd} {es : List Ed} {k nl nn l al an bl bn : Int} (hg : gokB ns es = true) : gokB (gdN ns es k nl nn l al an bl bn) (gdE ns es k nl nn l al an bl bn) = true := by
  by_cases h : gdC ns es k nl nn l al an bl bn = 0
  · exact gokB_true.2 (fine_gok (gokB_true.1 hg) (gd_fine hg h))
  · obtain ⟨e1, e2⟩ := gd_not hg h; rw [e1, e2]; exact hg
/-- Done twice. -/
theorem gd_twice {ns : List Nd} {es : List Ed} {k nl nn l al an bl bn : Int} (hg : gokB ns es = true) (h : gdC ns es k nl nn l al an bl bn = 0) :
    gdC (gdN ns es k nl nn l al an bl bn) (gdE ns es k nl nn l al an bl bn) k nl nn l al an bl bn ≠ 0 ∧ gdN (gdN ns es k nl nn l al an bl bn) (gdE ns es k nl nn l al an bl bn) k nl nn l al an bl bn = gdN ns es k nl nn l al an bl bn ∧ gdE (gdN ns es k nl nn l al an bl bn) (gdE ns es k nl nn l al an bl bn) k nl nn l al an bl bn = gdE ns es k nl nn l al an bl bn := by
  have hf := gd_fine hg h
  have hx := gd_gok (k := k) (nl := nl) (nn := nn) (l := l) (al := al) (an := an) (bl := bl) (bn := bn) hg
  have hc : gdC (gdN ns es k nl nn l al an bl bn) (gdE ns es k nl nn l al an bl bn) k nl nn l al an bl bn ≠ 0 := by
    rw [(gd_ok hx).2.2]; exact fine_again (gokB_true.1 hg) hf
  exact ⟨hc, gd_not hx hc⟩
end Go.Proofs.YtlnpbfeihjfnjaaGreatDoor.Lab
namespace Go.Proofs.YtlnpbfeihjfnjaaGreatDoor.Lab
open Go.RowKit
set_option linter.unusedVariables false
theorem segL_congr {a : Int} {ns ms : List Nd} {es fs : List Ed} (h1 : numsL a ns = numsL a ms) (h2 : ofE a es = ofE a fs) : segL a ns es = segL a ms fs := by
  unfold segL segK
  rw [h1, h2]
theorem ofN_same {a : Int} {ns ms : List Nd} (h1 : Asc ns) (h2 : Asc ms) (h : ∀ z : Nd, z.1 = a → (z ∈ ns ↔ z ∈ ms)) : numsL a ns = numsL a ms := by
  unfold numsL ofN
  congr 1
  refine asc_key_ext cod (h1.filter _) (h2.filter _) (fun z => ?_)
  rw [List.mem_filter, List.mem_filter]
  by_cases hz : z.1 = a
  · rw [h z hz]
  · have : (z.1 == a) = false := beq_eq_false_iff_ne.2 hz
    simp [this]
theorem ofE_same {a : Int} {es fs : List Ed} (h1 : AscE es) (h2 : AscE fs) (h : ∀ z : Ed, z.1 = a → (z ∈ es ↔ z ∈ fs)) : ofE a es = ofE a fs := by
  unfold ofE
  refine asc_key_ext eco (h1.filter _) (h2.filter _) (fun z => ?_)
  rw [List.mem_filter, List.mem_filter]
  by_cases hz : z.1 = a
  · rw [h z hz]
  · have : (z.1 == a) = false := beq_eq_false_iff_ne.2 hz
    simp [this]
theorem numsL_mem {a x : Int} {ns : List Nd} : x ∈ numsL a ns ↔ (a, x) ∈ ns := by
  unfold numsL ofN
  rw [List.mem_map]
  constructor
  · rintro ⟨y, hy, rfl⟩
    obtain ⟨h1, h2⟩ := List.mem_filter.1 hy
    have e : y.1 = a := by simpa using h2
    rw [← e]; exact h1
  · intro h
    exact ⟨(a, x), List.mem_filter.2 ⟨h, by simp⟩, rfl⟩
theorem ofE_mem {a : Int} {z : Ed} {es : List Ed} : z ∈ ofE a es ↔ z ∈ es ∧ z.1 = a := by
  unfold ofE
  rw [List.mem_filter]
  simp
/-- The bytes of the operation's own label turn; all others stay, but where a node goes, those above it. -/
theorem seg_apart {ns : List Nd} {es : List Ed} {k nl nn l al an bl bn : Int} (hg : gokB ns es = true) (hf : gdC ns es k nl nn l al an bl bn = 0) (a : Int) :
    (a = opI k nl nn l al an bl bn → segB a ns es ≠ segB a (gdN ns es k nl nn l al an bl bn) (gdE ns es k nl nn l al an bl bn)) ∧
    (a ≠ opI k nl nn l al an bl bn → segB a ns es = segB a (gdN ns es k nl nn l al an bl bn) (gdE ns es k nl nn l al an bl bn) ∨ (k = 4 ∧ underB (opI k nl nn l al an bl bn) a = true)) := by
  have G := gokB_true.1 hg
  have F := gd_fine hg hf
  generalize gdN ns es k nl nn l al an bl bn = ms at *
  generalize gdE ns es k nl nn l al an bl bn = fs at *
  have K := fine_gok G F
  rw [segB_ok hg, segB_ok (gokB_true.2 K)]
  have P := gok_parts G
  have Q := gok_parts K
  cases F with
  | put hk ha hm hc =>
    have ho : opI k nl nn l al an bl bn = nl := by subst hk; simp [opI, ha]
    rw [ho]
    refine ⟨fun e he => ?_, fun hne => .inl ?_⟩
    · subst e
      have h1 := (segL_inj G K he).1
      have h2 : nn ∈ numsL a (insN (a, nn) ns) := numsL_mem.2 (mem_insN.2 (.inl rfl))
      rw [← h1] at h2
      exact hm (numsL_mem.1 h2)
    · refine segL_congr (ofN_same P.2.1 Q.2.1 (fun z hz => ?_)) rfl
      rw [mem_insN]
      constructor
      · exact fun h => .inr h
      · rintro (h | h)
        · exact absurd (hz.symm.trans (by rw [h])) hne
        · exact h
  | join hk ha hm hA hB hc =>
    have ho : opI k nl nn l al an bl bn = l := by subst hk; simp [opI, ha]
    rw [ho]
    refine ⟨fun e he => ?_, fun hne => .inl ?_⟩
    · subst e
      have h1 := (segL_inj G K he).2
      have h2 : (a, al, an, bl, bn) ∈ ofE a (insE (a, al, an, bl, bn) es) := ofE_mem.2 ⟨mem_insE.2 (.inl rfl), rfl⟩
      rw [← h1] at h2
      exact hm (ofE_mem.1 h2).1
    · refine segL_congr rfl (ofE_same P.2.2.2.1 Q.2.2.2.1 (fun z hz => ?_))
      rw [mem_insE]
      constructor
      · exact fun h => .inr h
      · rintro (h | h)
        · exact absurd (hz.symm.trans (by rw [h])) hne
        · exact h
  | cut hk ha hm =>
    have ho : opI k nl nn l al an bl bn = l := by subst hk; simp [opI, ha]
    rw [ho]
    refine ⟨fun e he => ?_, fun hne => .inl ?_⟩
    · subst e
      have h1 := (segL_inj G K he).2
      have h2 : (a, al, an, bl, bn) ∈ ofE a es := ofE_mem.2 ⟨hm, rfl⟩
      rw [h1] at h2
      have h3 := (List.mem_filter.1 (ofE_mem.1 h2).1).2
      rw [eqB_true.2 rfl] at h3
      cases h3
    · refine segL_congr rfl (ofE_same P.2.2.2.1 Q.2.2.2.1 (fun z hz => ?_))
      unfold offE
      rw [List.mem_filter]
      refine ⟨fun h => ⟨h, ?_⟩, fun h => h.1⟩
      have : eqB z (l, al, an, bl, bn) = false := eqB_false.2 (fun e => hne (hz.symm.trans (by rw [e])))
      rw [this]; rfl
  | gone hk ha hm =>
    have ho : opI k nl nn l al an bl bn = nl := by subst hk; simp [opI, ha]
    rw [ho]
    refine ⟨fun e he => ?_, fun hne => ?_⟩
    · subst e
      have h1 := (segL_inj G K he).1
      have h2 : nn ∈ numsL a ns := numsL_mem.2 hm
      rw [h1] at h2
      have h3 := (List.mem_filter.1 (numsL_mem.1 h2)).2
      rw [eqB_true.2 rfl] at h3
      cases h3
    · by_cases hu : underB nl a = true
      · exact .inr ⟨hk, hu⟩
      · refine .inl (segL_congr (ofN_same P.2.1 Q.2.1 (fun z hz => ?_)) (ofE_same P.2.2.2.1 Q.2.2.2.1 (fun z hz => ?_)))
        · unfold offN
          rw [List.mem_filter]
          refine ⟨fun h => ⟨h, ?_⟩, fun h => h.1⟩
          have : eqB z (nl, nn) = false := eqB_false.2 (fun e => hne (hz.symm.trans (by rw [e])))
          rw [this]; rfl
        · unfold offG
          rw [List.mem_filter]
          refine ⟨fun h => ⟨h, ?_⟩, fun h => h.1⟩
          have hz2 := P.2.2.1 z h
          simp only [edB, edgeB, Bool.and_eq_true] at hz2
          have : hasG (nl, nn) z = false := by
            cases hh : hasG (nl, nn) z
            · rfl
            · exfalso
              unfold hasG at hh
              rw [Bool.or_eq_true] at hh
              rcases hh with hh | hh
              · have e := eqB_true.1 hh
                have e1 : z.2.1 = nl := congrArg Prod.fst e
                exact hu (by rw [← e1, ← hz]; exact hz2.1.2)
              · have e := eqB_true.1 hh
                have e1 : z.2.2.2.1 = nl := congrArg Prod.fst e
                exact hu (by rw [← e1, ← hz]; exact hz2.2)
          rw [this]; rfl
end Go.Proofs.YtlnpbfeihjfnjaaGreatDoor.Lab
namespace Go.Proofs.YtlnpbfeihjfnjaaGreatDoor.Lab
open Go.RowKit
set_option linter.unusedVariables false
/-- How many bytes the gaps of an ascending row take, from a last number on. -/
def rl (last : Int) : List Int → Nat
  | [] => 0
  | x :: xs => (pkL (x - last - 1)).length + rl x xs
theorem pk_pos {n : Int} (h0 : 0 ≤ n) (h1 : n ≤ 16383) : 1 ≤ (pkL n).length ∧ (pkL n).length ≤ 2 := by
  by_cases h : n < 128
  · rw [pkL_one h0 h]; simp
  · rw [pkL_two (by omega) h1]; simp
theorem rl_snoc : ∀ (l : List Int) (last x : Int), rl last (l ++ [x]) = rl last l + (pkL (x - (l.getLast?.getD last) - 1)).length
  | [], last, x => by simp [rl]
  | y :: ys, last, x => by
    show (pkL (y - last - 1)).length + rl y (ys ++ [x]) = (pkL (y - last - 1)).length + rl y ys + _
    rw [rl_snoc ys y x]
    have : ((y :: ys).getLast?.getD last) = (ys.getLast?.getD y) := by
      rw [List.getLast?_cons]; rfl
    rw [this]; omega
theorem rowK_rl (l : List Int) : ∀ k, k ≤ l.length → (rowK l k).length = (pkL (l.length : Int)).length + rl (-1) (l.take k)
  | 0, _ => by rw [rowK_zero]; simp [rl]
  | k + 1, hk => by
    have hx : l[k]? = some l[k] := List.getElem?_eq_getElem (by omega)
    rw [rowK_succ, List.length_append, rowK_rl l k (by omega), List.take_add_one, hx, Option.toList_some, rl_snoc]
    have e : gapAt l k = l[k] - ((l.take k).getLast?.getD (-1)) - 1 := by
      unfold gapAt
      rw [getD_of hx]
      congr 2
      unfold lastAt
      cases k with
      | zero => simp
      | succ j =>
        rw [if_neg (Nat.succ_ne_zero j), Nat.add_sub_cancel]
        have hy : l[j]? = some l[j] := List.getElem?_eq_getElem (by omega)
        have ht : l.take (j + 1) = l.take j ++ [l[j]] := by rw [List.take_add_one, hy]; rfl
        rw [getD_of hy, ht, List.getLast?_concat]
        rfl
    rw [e]; omega
theorem rowL_rl {l : List Int} (h : upB l = true) : (rowL l).length = (pkL (l.length : Int)).length + rl (-1) l := by
  have : rowL l = rowK l l.length := by simp [rowL, h]
  rw [this, rowK_rl l l.length (Nat.le_refl _), List.take_length]
/-- All numbers of a row lie in what two bytes bear, above the last one. -/
def Up (last : Int) (l : List Int) : Prop := (∀ x ∈ l, last < x ∧ x ≤ 16383) ∧ l.Pairwise (· < ·)
theorem Up.tail {last x : Int} {l : List Int} (h : Up last (x :: l)) : Up x l :=
  ⟨fun y hy => ⟨(List.pairwise_cons.1 h.2).1 y hy, (h.1 y (List.mem_cons_of_mem _ hy)).2⟩, (List.pairwise_cons.1 h.2).2⟩
theorem rl_from {last y : Int} {l : List Int} (hl : -1 ≤ last) (h : Up last l) (hy : ∀ x ∈ l, y < x) (hly : last < y) : rl last l ≤ 1 + rl y l := by
  cases l with
  | nil => simp [rl]
  | cons x xs =>
    have h1 := h.1 x (List.mem_cons_self ..)
    have h2 := hy x (List.mem_cons_self ..)
    have p1 := pk_pos (n := x - last - 1) (by omega) (by omega)
    have p2 := pk_pos (n := x - y - 1) (by omega) (by omega)
    simp only [rl]
    omega
theorem rl_sub : ∀ {l m : List Int} (last : Int), -1 ≤ last → l.Sublist m → Up last m → rl last l ≤ rl last m := by
  intro l m last hl hs
  induction hs generalizing last with
  | slnil => intro _; exact Nat.le_refl _
  | @cons l m y hs ih =>
    intro h
    have hy := h.1 y (List.mem_cons_self ..)
    have ht := h.tail
    have h1 := ih y (by omega) ht
    have hul : Up last l := ⟨fun x hx => ⟨by have := ht.1 x (hs.subset hx); omega, (ht.1 x (hs.subset hx)).2⟩, ht.2.sublist hs⟩
    have h2 := rl_from hl hul (fun x hx => (ht.1 x (hs.subset hx)).1) hy.1
    have p := pk_pos (n := y - last - 1) (by omega) (by omega)
    show rl last l ≤ (pkL (y - last - 1)).length + rl y m
    omega
  | @cons_cons l m y hs ih =>
    intro h
    have hy := h.1 y (List.mem_cons_self ..)
    have h1 := ih y (by omega) h.tail
    show (pkL (y - last - 1)).length + rl y l ≤ (pkL (y - last - 1)).length + rl y m
    omega
theorem sub_asc {α : Type} (f : α → Int) : ∀ {xs ys : List α}, xs.Pairwise (fun a b => f a < f b) → ys.Pairwise (fun a b => f a < f b) → (∀ z ∈ xs, z ∈ ys) → xs.Sublist ys
  | [], ys, _, _, _ => List.nil_sublist _
  | x :: xs, [], _, _, h => by have := h x (List.mem_cons_self ..); cases this
  | x :: xs, y :: ys, hx, hy, h => by
    obtain ⟨h1, h2⟩ := List.pairwise_cons.1 hx
    obtain ⟨h3, h4⟩ := List.pairwise_cons.1 hy
    rcases List.mem_cons.1 (h x (List.mem_cons_self ..)) with e | hm
    · subst e
      refine List.Sublist.cons_cons x (sub_asc f h2 h4 (fun z hz => ?_))
      rcases List.mem_cons.1 (h z (List.mem_cons_of_mem _ hz)) with e | hm
      · subst e; have := h1 z hz; omega
      · exact hm
    · refine List.Sublist.cons y (sub_asc f hx h4 (fun z hz => ?_))
      rcases List.mem_cons.1 (h z hz) with e | hm2
      · subst e
        rcases List.mem_cons.1 hz with e | hz2
        · subst e; exact hm
        · have a1 := h1 z hz2; have a2 := h3 x hm; omega
      · exact hm2
theorem near_up {ee : List Ed} {n : Nd} (h : One1 ee) (hl : ee.length ≤ 100) : upB ((nearF n ee).map cod) = true ∧ Up (-1) ((nearF n ee).map cod) ∧ (nearF n ee).length ≤ 100 := by
  have hm : ∀ x ∈ (nearF n ee).map cod, 0 ≤ x ∧ x ≤ 488 := fun x hx => by
    obtain ⟨m, hm, rfl⟩ := List.mem_map.1 hx
    obtain ⟨y, hy, ho⟩ := (nearF_mem h.1 m).1 hm
    have e1 : otherI y n = if n = eA y then some (eB y) else if n = eB y then some (eA y) else none := rfl
    rw [e1] at ho
    have hy2 := ends_ok (h.1 y hy)
    have b := cod_bd m
    split at ho
    · have := Option.some.inj ho; subst this; have := cod_ok' hy2.2.1; omega
    · split at ho
      · have := Option.some.inj ho; subst this; have := cod_ok' hy2.1; omega
      · cases ho
  have hp : ((nearF n ee).map cod).Pairwise (· < ·) := List.pairwise_map.2 (nearF_asc h.1)
  have hlen : (nearF n ee).length ≤ 100 := by
    have h1 : (nearF n ee).length ≤ ee.length := nearF_le n ee
    omega
  refine ⟨upB_of hp (fun x hx => by have := hm x hx; omega) (by rw [List.length_map]; omega), ⟨fun x hx => by have := hm x hx; omega, hp⟩, hlen⟩
/-- A row of what is near is no longer, where there are fewer edges. -/
theorem near_len {ee ff : List Ed} {n : Nd} (h : One1 ee) (k : One1 ff) (hl : ff.length ≤ 100) (hs : ∀ x ∈ ee, x ∈ ff) (hle : ee.length ≤ 100) : (rowL ((nearF n ee).map cod)).length ≤ (rowL ((nearF n ff).map cod)).length := by
  have u1 := near_up (n := n) h hle
  have u2 := near_up (n := n) k hl
  have hsub : (nearF n ee).Sublist (nearF n ff) := sub_asc cod (nearF_asc h.1) (nearF_asc k.1) (fun z hz => by
    obtain ⟨y, hy, ho⟩ := (nearF_mem h.1 z).1 hz
    exact (nearF_mem k.1 z).2 ⟨y, hs y hy, ho⟩)
  have hr := rl_sub (-1) (by omega) (hsub.map cod) u2.2.1
  rw [rowL_rl u1.1, rowL_rl u2.1]
  have p1 := pkL_one (n := (((nearF n ee).map cod).length : Int)) (by omega) (by rw [List.length_map]; omega)
  have p2 := pkL_one (n := (((nearF n ff).map cod).length : Int)) (by omega) (by rw [List.length_map]; omega)
  rw [p1, p2]
  simp only [List.length_cons, List.length_nil]
  omega
theorem sum_sub {α : Type} (f g : α → Nat) (hfg : ∀ x, f x ≤ g x) : ∀ {xs ys : List α}, xs.Sublist ys → (xs.map f).sum ≤ (ys.map g).sum := by
  intro xs ys hs
  induction hs with
  | slnil => simp
  | cons y hs ih => simp only [List.map_cons, List.sum_cons]; omega
  | cons_cons y hs ih => simp only [List.map_cons, List.sum_cons]; have := hfg y; omega
theorem flat_sum {α β : Type} (f : α → List β) (xs : List α) : (xs.flatMap f).length = (xs.map (fun x => (f x).length)).sum := by
  induction xs with
  | nil => rfl
  | cons x xs ih => simp [List.flatMap_cons, ih]
/-- The bytes behind a label's numbers are no more, where there are fewer edges. -/
theorem rows_len {ee ff : List Ed} (h : One1 ee) (k : One1 ff) (hl : ff.length ≤ 50) (hs : ∀ x ∈ ee, x ∈ ff) (hle : ee.length ≤ 50) :
    (pkL ((onlyF ee).length : Int) ++ (onlyF ee).flatMap (rowOf ee)).length ≤ (pkL ((onlyF ff).length : Int) ++ (onlyF ff).flatMap (rowOf ff)).length := by
  have hsub : (onlyF ee).Sublist (onlyF ff) := sub_asc cod (onlyF_asc h.1) (onlyF_asc k.1) (fun z hz => by
    obtain ⟨x, hx, hz2⟩ := (onlyF_mem h.1 z).1 hz
    exact (onlyF_mem k.1 z).2 ⟨x, hs x hx, hz2⟩)
  have l1 := onlyF_len h.1
  have l2 := onlyF_len k.1
  rw [List.length_append, List.length_append, flat_sum, flat_sum]
  have hsum := sum_sub (fun n => (rowOf ee n).length) (fun n => (rowOf ff n).length) (fun n => by
    have := near_len (n := n) h k (by omega) hs (by omega)
    simp only [rowOf, List.length_append]; omega) hsub
  have p1 := pkL_one (n := ((onlyF ee).length : Int)) (by omega) (by omega)
  have p2 := pkL_one (n := ((onlyF ff).length : Int)) (by omega) (by omega)
  rw [p1, p2]
  simp only [List.length_cons, List.length_nil]
  omega
theorem rl_small : ∀ {l : List Int} (last : Int), -1 ≤ last → (∀ x ∈ l, last < x ∧ x ≤ 100) → l.Pairwise (· < ·) → rl last l = l.length
  | [], _, _, _, _ => rfl
  | x :: xs, last, hl, h, hp => by
    have h1 := h x (List.mem_cons_self ..)
    have hp2 := List.pairwise_cons.1 hp
    have p := pkL_one (n := x - last - 1) (by omega) (by omega)
    show (pkL (x - last - 1)).length + rl x xs = xs.length + 1
    rw [p, rl_small x (by omega) (fun y hy => ⟨hp2.1 y hy, (h y (List.mem_cons_of_mem _ hy)).2⟩) hp2.2]
    simp; omega
theorem nums_len {ns : List Nd} {es : List Ed} (h : GOk ns es) (a : Int) : (rowL (numsL a ns)).length = 1 + (numsL a ns).length := by
  obtain ⟨f1, f2, f3⟩ := numsL_facts h a
  rw [rowL_rl (upB_of f1 (fun x hx => by have := f2 x hx; omega) (by omega)), rl_small (-1) (by omega) (fun x hx => by have := f2 x hx; omega) f1]
  have p := pkL_one (n := ((numsL a ns).length : Int)) (by omega) (by omega)
  rw [p]; simp
/-- How long a label's bytes are. -/
theorem segL_len {ns : List Nd} {es : List Ed} (h : GOk ns es) (a : Int) : (segL a ns es).length = if numsL a ns = [] ∧ ofE a es = [] then 0 else 1 + (numsL a ns).length + (pkL ((onlyF (ofE a es)).length : Int) ++ (onlyF (ofE a es)).flatMap (rowOf (ofE a es))).length := by
  by_cases hc : numsL a ns = [] ∧ ofE a es = []
  · rw [if_pos hc, (segL_nil h).2 hc]; rfl
  · rw [if_neg hc]
    have hne : segL a ns es ≠ [] := fun e => hc ((segL_nil h).1 e)
    have he : segL a ns es = segK a ns es (onlyF (ofE a es)).length := by
      unfold segL at hne ⊢
      split
      · rename_i hc; rw [if_pos hc] at hne; exact absurd rfl hne
      · rfl
    rw [he]
    unfold segK
    rw [List.take_length, List.append_assoc, List.length_append, nums_len h a]
end Go.Proofs.YtlnpbfeihjfnjaaGreatDoor.Lab
namespace Go.Proofs.YtlnpbfeihjfnjaaGreatDoor.Lab
open Go.RowKit
set_option linter.unusedVariables false
theorem nums_lt {ns ms : List Nd} {es fs : List Ed} (G : GOk ns es) (K : GOk ms fs) {a y : Int} (hs : ∀ x ∈ numsL a ns, x ∈ numsL a ms) (hy : y ∈ numsL a ms) (hn : ¬ y ∈ numsL a ns) : (numsL a ns).length < (numsL a ms).length := by
  have h1 := (numsL_facts G a).1
  have h2 := (numsL_facts K a).1
  have hsub : (numsL a ns).Sublist (numsL a ms) := sub_asc (fun x => x) h1 h2 hs
  rcases Nat.lt_or_ge (numsL a ns).length (numsL a ms).length with h | h
  · exact h
  · have e := hsub.eq_of_length (Nat.le_antisymm hsub.length_le h)
    rw [← e] at hy
    exact absurd hy hn
theorem seg_long {ns : List Nd} {es : List Ed} {k nl nn l al an bl bn : Int} (hg : gokB ns es = true) (hf : gdC ns es k nl nn l al an bl bn = 0) :
    (k = 1 ∧ (segB (opI k nl nn l al an bl bn) ns es).length < (segB (opI k nl nn l al an bl bn) (gdN ns es k nl nn l al an bl bn) (gdE ns es k nl nn l al an bl bn)).length) ∨
    (k = 2 ∧ (segB (opI k nl nn l al an bl bn) ns es).length ≤ (segB (opI k nl nn l al an bl bn) (gdN ns es k nl nn l al an bl bn) (gdE ns es k nl nn l al an bl bn)).length) ∨
    (k = 3 ∧ (segB (opI k nl nn l al an bl bn) (gdN ns es k nl nn l al an bl bn) (gdE ns es k nl nn l al an bl bn)).length ≤ (segB (opI k nl nn l al an bl bn) ns es).length) ∨
    (k = 4 ∧ (segB (opI k nl nn l al an bl bn) (gdN ns es k nl nn l al an bl bn) (gdE ns es k nl nn l al an bl bn)).length < (segB (opI k nl nn l al an bl bn) ns es).length) := by
  have G := gokB_true.1 hg
  have F := gd_fine hg hf
  generalize gdN ns es k nl nn l al an bl bn = ms at *
  generalize gdE ns es k nl nn l al an bl bn = fs at *
  have K := fine_gok G F
  rw [segB_ok hg, segB_ok (gokB_true.2 K), segL_len G, segL_len K]
  cases F with
  | put hk ha hm hc =>
    have ho : opI k nl nn l al an bl bn = nl := by subst hk; simp [opI, ha]
    rw [ho]
    refine .inl ⟨hk, ?_⟩
    have hin : nn ∈ numsL nl (insN (nl, nn) ns) := numsL_mem.2 (mem_insN.2 (.inl rfl))
    have h1 := nums_lt G K (a := nl) (fun x hx => numsL_mem.2 (mem_insN.2 (.inr (numsL_mem.1 hx)))) hin (fun h => hm (numsL_mem.1 h))
    rw [if_neg (c := numsL nl (insN (nl, nn) ns) = [] ∧ ofE nl es = []) (fun h => by rw [h.1] at hin; cases hin)]
    split <;> omega
  | join hk ha hm hA hB hc =>
    have ho : opI k nl nn l al an bl bn = l := by subst hk; simp [opI, ha]
    rw [ho]
    refine .inr (.inl ⟨hk, ?_⟩)
    have hin : (l, al, an, bl, bn) ∈ ofE l (insE (l, al, an, bl, bn) es) := ofE_mem.2 ⟨mem_insE.2 (.inl rfl), rfl⟩
    have o1 := ofE_one G l
    have o2 := ofE_one K l
    have h1 := rows_len o1.1 o2.1 (by omega) (fun x hx => ofE_mem.2 ⟨mem_insE.2 (.inr (ofE_mem.1 hx).1), (ofE_mem.1 hx).2⟩) (by omega)
    rw [if_neg (c := numsL l ns = [] ∧ ofE l (insE (l, al, an, bl, bn) es) = []) (fun h => by rw [h.2] at hin; cases hin)]
    split <;> omega
  | cut hk ha hm =>
    have ho : opI k nl nn l al an bl bn = l := by subst hk; simp [opI, ha]
    rw [ho]
    refine .inr (.inr (.inl ⟨hk, ?_⟩))
    have hin : (l, al, an, bl, bn) ∈ ofE l es := ofE_mem.2 ⟨hm, rfl⟩
    have o1 := ofE_one G l
    have o2 := ofE_one K l
    have h1 := rows_len o2.1 o1.1 (by omega) (fun x hx => ofE_mem.2 ⟨(List.mem_filter.1 (ofE_mem.1 hx).1).1, (ofE_mem.1 hx).2⟩) (by omega)
    rw [if_neg (c := numsL l ns = [] ∧ ofE l es = []) (fun h => by rw [h.2] at hin; cases hin)]
    split <;> omega
  | gone hk ha hm =>
    have ho : opI k nl nn l al an bl bn = nl := by subst hk; simp [opI, ha]
    rw [ho]
    refine .inr (.inr (.inr ⟨hk, ?_⟩))
    have hin : nn ∈ numsL nl ns := numsL_mem.2 hm
    have hno : ¬ nn ∈ numsL nl (offN (nl, nn) ns) := fun h => by
      have h3 := (List.mem_filter.1 (numsL_mem.1 h)).2
      rw [eqB_true.2 rfl] at h3
      cases h3
    have h1 := nums_lt K G (a := nl) (fun x hx => numsL_mem.2 (List.mem_filter.1 (numsL_mem.1 hx)).1) hin hno
    have o1 := ofE_one G nl
    have o2 := ofE_one K nl
    have h2 := rows_len o2.1 o1.1 (by omega) (fun x hx => ofE_mem.2 ⟨(List.mem_filter.1 (ofE_mem.1 hx).1).1, (ofE_mem.1 hx).2⟩) (by omega)
    rw [if_neg (c := numsL nl ns = [] ∧ ofE nl es = []) (fun h => by rw [h.1] at hin; cases hin)]
    split <;> omega
end Go.Proofs.YtlnpbfeihjfnjaaGreatDoor.Lab

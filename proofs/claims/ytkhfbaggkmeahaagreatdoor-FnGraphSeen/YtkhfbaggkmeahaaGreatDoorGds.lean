/-
  Views and operations, in plain words: what is done to what is not seen turns nothing that is; what is seen commutes.
-/
import Derived.Test.YtkhfbaggkmeahaaGreatDoorGdq
namespace Go.Proofs.YtkhfbaggkmeahaaGreatDoor.Lab
open Go.RowKit
set_option linter.unusedVariables false
theorem under_off {a c : Int} (h : a < 0) : underB a c = false := by
  cases hb : underB a c
  · rfl
  · have := okB_true (under_true hb).1; omega
/-- An edge's ends are under its label. -/
theorem ends_under {x : Ed} (h : edB x = true) : underB x.2.1 x.1 = true ∧ underB x.2.2.2.1 x.1 = true := by
  simp only [edB, edgeB, Bool.and_eq_true] at h
  exact ⟨h.1.2, h.2⟩
theorem view_asc {ns : List Nd} (c : Int) (h : Asc ns) : Asc (viewN c ns) := h.filter _
theorem mem_view {c : Int} {ns : List Nd} {z : Nd} : z ∈ viewN c ns ↔ z ∈ ns ∧ underB z.1 c = true := by unfold viewN; rw [List.mem_filter]
theorem mem_viewE {c : Int} {es : List Ed} {z : Ed} : z ∈ viewE c es ↔ z ∈ es ∧ underB z.1 c = true := by unfold viewE; rw [List.mem_filter]
theorem cnt_view {a c : Int} (h : underB a c = true) (ns : List Nd) : cntNode a (viewN c ns) = cntNode a ns := by
  unfold cntNode viewN
  rw [List.countP_filter]
  congr 1
  funext x
  cases hx : (x.1 == a)
  · rfl
  · have : x.1 = a := by simpa using hx
    rw [this, h]; rfl
theorem cnt_viewE {a c : Int} (h : underB a c = true) (es : List Ed) : cntEdge a (viewE c es) = cntEdge a es := by
  unfold cntEdge viewE
  rw [List.countP_filter]
  congr 1
  funext x
  cases hx : (x.1 == a)
  · rfl
  · have : x.1 = a := by simpa using hx
    rw [this, h]; rfl
/-- What is done unseen turns nothing that is seen. -/
theorem fine_unseen {ns ms : List Nd} {es fs : List Ed} {k nl nn l al an bl bn c : Int} (hg : GOk ns es) (h : Fine ns es k nl nn l al an bl bn ms fs) (hu : underB (opI k nl nn l al an bl bn) c = false) : viewN c ms = viewN c ns ∧ viewE c fs = viewE c es := by
  obtain ⟨h1, h2, h3, h4, h5, h6⟩ := gok_parts hg
  cases h with
  | put hk ha hm hc =>
    have ho : opI k nl nn l al an bl bn = nl := by subst hk; simp [opI, ha]
    rw [ho] at hu
    refine ⟨asc_ext (view_asc c (put_asc hg hm)) (view_asc c h2) (fun z => ?_), rfl⟩
    rw [mem_view, mem_view, mem_insN]
    refine ⟨fun ⟨hz, q⟩ => ⟨?_, q⟩, fun ⟨hz, q⟩ => ⟨.inr hz, q⟩⟩
    rcases hz with rfl | hz
    · simp only at q; rw [hu] at q; cases q
    · exact hz
  | join hk ha hm hA hB hc =>
    have ho : opI k nl nn l al an bl bn = l := by subst hk; simp [opI, ha]
    rw [ho] at hu
    refine ⟨rfl, ascE_ext ((join_asc hg (alone_edge ha) hm).filter _) (h4.filter _) (fun z => ?_)⟩
    show z ∈ viewE c _ ↔ z ∈ viewE c _
    rw [mem_viewE, mem_viewE, mem_insE]
    refine ⟨fun ⟨hz, q⟩ => ⟨?_, q⟩, fun ⟨hz, q⟩ => ⟨.inr hz, q⟩⟩
    rcases hz with rfl | hz
    · simp only at q; rw [hu] at q; cases q
    · exact hz
  | cut hk ha hm =>
    have ho : opI k nl nn l al an bl bn = l := by subst hk; simp [opI, ha]
    rw [ho] at hu
    refine ⟨rfl, ascE_ext ((h4.filter _).filter _) (h4.filter _) (fun z => ?_)⟩
    show z ∈ viewE c (offE _ _) ↔ z ∈ viewE c _
    rw [mem_viewE, mem_viewE, mem_offE]
    refine ⟨fun ⟨hz, q⟩ => ⟨hz.1, q⟩, fun ⟨hz, q⟩ => ⟨⟨hz, fun e => ?_⟩, q⟩⟩
    rw [e] at q; simp only at q; rw [hu] at q; cases q
  | gone hk ha hm =>
    have ho : opI k nl nn l al an bl bn = nl := by subst hk; simp [opI, ha]
    rw [ho] at hu
    refine ⟨asc_ext (view_asc c (h2.filter _)) (view_asc c h2) (fun z => ?_), ascE_ext ((h4.filter _).filter _) (h4.filter _) (fun z => ?_)⟩
    · show z ∈ viewN c (offN _ _) ↔ _
      rw [mem_view, mem_view, mem_offN]
      refine ⟨fun ⟨hz, q⟩ => ⟨hz.1, q⟩, fun ⟨hz, q⟩ => ⟨⟨hz, fun e => ?_⟩, q⟩⟩
      rw [e] at q; simp only at q; rw [hu] at q; cases q
    · show z ∈ viewE c (offG _ _) ↔ z ∈ viewE c _
      rw [mem_viewE, mem_viewE, mem_offG]
      refine ⟨fun ⟨hz, q⟩ => ⟨hz.1, q⟩, fun ⟨hz, q⟩ => ⟨⟨hz, fun e => ?_, fun e => ?_⟩, q⟩⟩
      · have := under_trans (ends_under (h3 z hz)).1 q
        rw [show z.2.1 = nl from congrArg Prod.fst e, hu] at this; cases this
      · have := under_trans (ends_under (h3 z hz)).2 q
        rw [show z.2.2.2.1 = nl from congrArg Prod.fst e, hu] at this; cases this
/-- What is done seen is done in the view. -/
theorem fine_seen {ns ms : List Nd} {es fs : List Ed} {k nl nn l al an bl bn c : Int} (hg : GOk ns es) (h : Fine ns es k nl nn l al an bl bn ms fs) (hu : underB (opI k nl nn l al an bl bn) c = true) : Fine (viewN c ns) (viewE c es) k nl nn l al an bl bn (viewN c ms) (viewE c fs) := by
  obtain ⟨h1, h2, h3, h4, h5, h6⟩ := gok_parts hg
  have hv := gok_view c hg
  cases h with
  | put hk ha hm hc =>
    have ho : opI k nl nn l al an bl bn = nl := by subst hk; simp [opI, ha]
    rw [ho] at hu
    have hm' : ¬ (nl, nn) ∈ viewN c ns := fun e => hm (mem_view.1 e).1
    have e1 : viewN c (insN (nl, nn) ns) = insN (nl, nn) (viewN c ns) := by
      refine asc_ext (view_asc c (put_asc hg hm)) (put_asc hv hm') (fun z => ?_)
      rw [mem_view, mem_insN, mem_insN, mem_view]
      exact ⟨fun ⟨hz, q⟩ => hz.imp id (fun h => ⟨h, q⟩), fun hz => hz.elim (fun e => ⟨.inl e, by rw [e]; exact hu⟩) (fun h => ⟨.inr h.1, h.2⟩)⟩
    rw [e1]
    exact .put hk ha hm' (by rw [cnt_view hu]; exact hc)
  | join hk ha hm hA hB hc =>
    have ho : opI k nl nn l al an bl bn = l := by subst hk; simp [opI, ha]
    rw [ho] at hu
    have hm' : ¬ (l, al, an, bl, bn) ∈ viewE c es := fun e => hm (mem_viewE.1 e).1
    have e1 : viewE c (insE (l, al, an, bl, bn) es) = insE (l, al, an, bl, bn) (viewE c es) := by
      refine ascE_ext ((join_asc hg (alone_edge ha) hm).filter _) (join_asc hv (alone_edge ha) hm') (fun z => ?_)
      show z ∈ viewE c _ ↔ _
      rw [mem_viewE, mem_insE, mem_insE, mem_viewE]
      exact ⟨fun ⟨hz, q⟩ => hz.imp id (fun h => ⟨h, q⟩), fun hz => hz.elim (fun e => ⟨.inl e, by rw [e]; exact hu⟩) (fun h => ⟨.inr h.1, h.2⟩)⟩
    rw [e1]
    have he := ends_under (alone_edge ha)
    exact .join hk ha hm' (mem_view.2 ⟨hA, under_trans he.1 hu⟩) (mem_view.2 ⟨hB, under_trans he.2 hu⟩) (by rw [cnt_viewE hu]; exact hc)
  | cut hk ha hm =>
    have ho : opI k nl nn l al an bl bn = l := by subst hk; simp [opI, ha]
    rw [ho] at hu
    have e1 : viewE c (offE (l, al, an, bl, bn) es) = offE (l, al, an, bl, bn) (viewE c es) := by
      unfold viewE offE
      rw [List.filter_filter, List.filter_filter]
      congr 1
      funext x
      rw [Bool.and_comm]
    rw [e1]
    exact .cut hk ha (mem_viewE.2 ⟨hm, hu⟩)
  | gone hk ha hm =>
    have ho : opI k nl nn l al an bl bn = nl := by subst hk; simp [opI, ha]
    rw [ho] at hu
    have e1 : viewN c (offN (nl, nn) ns) = offN (nl, nn) (viewN c ns) := by
      unfold viewN offN
      rw [List.filter_filter, List.filter_filter]
      congr 1
      funext x
      rw [Bool.and_comm]
    have e2 : viewE c (offG (nl, nn) es) = offG (nl, nn) (viewE c es) := by
      unfold viewE offG
      rw [List.filter_filter, List.filter_filter]
      congr 1
      funext x
      rw [Bool.and_comm]
    rw [e1, e2]
    exact .gone hk ha (mem_view.2 ⟨hm, hu⟩)
/-- How it ends is seen. -/
theorem ends_seen {ns : List Nd} {es : List Ed} {k nl nn l al an bl bn c : Int} (hg : GOk ns es) (hu : underB (opI k nl nn l al an bl bn) c = true) : doC (viewN c ns) (viewE c es) k nl nn l al an bl bn = doC ns es k nl nn l al an bl bn := by
  have ho : ¬ opI k nl nn l al an bl bn < 0 := fun h => by rw [under_off h] at hu; cases hu
  rw [doC_of ho, doC_of ho]
  rcases opI_cases _ _ _ _ _ _ _ _ ho with ⟨hk, ha, e⟩ | ⟨hk, ha, e⟩
  · rw [e] at hu
    have m1 : (nl, nn) ∈ viewN c ns ↔ (nl, nn) ∈ ns := by rw [mem_view]; exact ⟨fun h => h.1, fun h => ⟨h, hu⟩⟩
    rcases hk with rfl | rfl <;> simp [endsI, m1, cnt_view hu]
  · rw [e] at hu
    have he := ends_under (alone_edge ha)
    have m1 : (l, al, an, bl, bn) ∈ viewE c es ↔ (l, al, an, bl, bn) ∈ es := by rw [mem_viewE]; exact ⟨fun h => h.1, fun h => ⟨h, hu⟩⟩
    have m2 : (al, an) ∈ viewN c ns ↔ (al, an) ∈ ns := by rw [mem_view]; exact ⟨fun h => h.1, fun h => ⟨h, under_trans he.1 hu⟩⟩
    have m3 : (bl, bn) ∈ viewN c ns ↔ (bl, bn) ∈ ns := by rw [mem_view]; exact ⟨fun h => h.1, fun h => ⟨h, under_trans he.2 hu⟩⟩
    rcases hk with rfl | rfl <;> simp [endsI, m1, m2, m3, cnt_viewE hu]
section
variable {ns : List Nd} {es : List Ed} {k nl nn l al an bl bn c : Int}
theorem gd_unseen (hg : gokB ns es = true) (hu : underB (opI k nl nn l al an bl bn) c = false) :
    seenN c (gdN ns es k nl nn l al an bl bn) (gdE ns es k nl nn l al an bl bn) = seenN c ns es ∧ seenE c (gdN ns es k nl nn l al an bl bn) (gdE ns es k nl nn l al an bl bn) = seenE c ns es := by
  have hx := gd_gok (k := k) (nl := nl) (nn := nn) (l := l) (al := al) (an := an) (bl := bl) (bn := bn) hg
  simp only [seenN, seenE, hg, hx, if_true]
  by_cases h : gdC ns es k nl nn l al an bl bn = 0
  · exact fine_unseen (gokB_true.1 hg) (gd_fine hg h) hu
  · obtain ⟨e1, e2⟩ := gd_not hg h; rw [e1, e2]; exact ⟨rfl, rfl⟩
theorem gd_seen (hg : gokB ns es = true) (hu : underB (opI k nl nn l al an bl bn) c = true) :
    gdN (seenN c ns es) (seenE c ns es) k nl nn l al an bl bn = seenN c (gdN ns es k nl nn l al an bl bn) (gdE ns es k nl nn l al an bl bn) ∧ gdE (seenN c ns es) (seenE c ns es) k nl nn l al an bl bn = seenE c (gdN ns es k nl nn l al an bl bn) (gdE ns es k nl nn l al an bl bn)
      ∧ gdC (seenN c ns es) (seenE c ns es) k nl nn l al an bl bn = gdC ns es k nl nn l al an bl bn := by
  have hx := gd_gok (k := k) (nl := nl) (nn := nn) (l := l) (al := al) (an := an) (bl := bl) (bn := bn) hg
  have hv := gokB_view c hg
  simp only [seenN, seenE, hg, hx, if_true]
  have hc : gdC (viewN c ns) (viewE c es) k nl nn l al an bl bn = gdC ns es k nl nn l al an bl bn := by
    rw [(gd_ok hv).2.2, (gd_ok hg).2.2]; exact ends_seen (gokB_true.1 hg) hu
  by_cases h : gdC ns es k nl nn l al an bl bn = 0
  · have hf := fine_do (gokB_true.1 hv) (fine_seen (gokB_true.1 hg) (gd_fine hg h) hu)
    rw [(gd_ok hv).1, (gd_ok hv).2.1]
    exact ⟨hf.2.1, hf.2.2, hc⟩
  · obtain ⟨e1, e2⟩ := gd_not hg h
    obtain ⟨e3, e4⟩ := gd_not hv (by rw [hc]; exact h)
    rw [e1, e2, e3, e4]; exact ⟨rfl, rfl, hc⟩
end
theorem lund2 (a c : Int) (b : Bool) (hb : underB a c = b) (w : World) : Calls Tryz.prog 18 #[.int .i64 a, .int .i64 c] w fun e w' => e = .returned (.bool b) ∧ Below w.heap.size w w' :=
  (impl_LabelUnder a c w).mono fun e w' ⟨h, hw⟩ => ⟨by rw [h, hb], by rw [hw]; exact Below.refl _ _⟩
end Go.Proofs.YtkhfbaggkmeahaaGreatDoor.Lab

/-
  What is done to a graph: its label (impl and spec); the deed behind an interface.
-/
import Derived.Test.YtlnpbfeihjfnjaaGreatDoorNod
import Derived.Test.YtlnpbfeihjfnjaaGreatDoorRow
import Derived.Deep.DeepCutAuto
import Derived.Deep.CutBlock
namespace Go.Proofs.YtlnpbfeihjfnjaaGreatDoor.Lab
open Go.RowKit
set_option linter.unusedVariables false

/-- Only a node, that is right, is told; only an edge. -/
def aloneN (nl nn l al an bl bn : Int) : Bool := nodeB nl nn && eqB (l, al, an, bl, bn) (0, 0, 0, 0, 0)
def aloneE (nl nn l al an bl bn : Int) : Bool := edgeB l al an bl bn && eqB (nl, nn) (0, 0)
/-- The label of what is done. -/
def opI (k nl nn l al an bl bn : Int) : Int :=
  if (k == 1 || k == 4) && aloneN nl nn l al an bl bn then nl else if (k == 2 || k == 3) && aloneE nl nn l al an bl bn then l else -1
/-- The five fields of an edge that is nothing, one behind another. -/
theorem zeroE_eq (l al an bl bn : Int) : eqB (l, al, an, bl, bn) (0, 0, 0, 0, 0) = (l == 0 && (al == 0 && (an == 0 && (bl == 0 && bn == 0)))) := by
  rw [Bool.eq_iff_iff]; simp [eqB]
theorem zeroN_eq (nl nn : Int) : eqB (nl, nn) (0, 0) = (nl == 0 && nn == 0) := by
  rw [Bool.eq_iff_iff]; simp [eqB]
set_option maxHeartbeats 2000000 in
theorem spec_OpLabel (k nl nn l al an bl bn : Int) (w : World) :
    Calls Tryz.prog 109 #[.agg #[.int .i64 k, .int .i64 nl, .int .i64 nn, .int .i64 l, .int .i64 al, .int .i64 an, .int .i64 bl, .int .i64 bn]] w fun e w' => e = .returned (.int .i64 (opI k nl nn l al an bl bn)) ∧ Below w.heap.size w w' := by
  unfold opI
  by_cases hk : k = 1 ∨ k = 4
  · have e1 : (k == 1 || k == 4) = true := by simpa using hk
    have e2 : (k == 2 || k == 3) = false := by rcases hk with rfl | rfl <;> decide
    rw [e1, e2]
    unfold aloneN
    cases hn : nodeB nl nn
    · rcases hk with rfl | rfl
      all_goals
        go_enter Tryz.func109, Tryz.ntmps109
        go_wp2_with fail
        refine (spec_NodeOk _ _ _).mono ?_
        rintro e w1 ⟨rfl, b1⟩
        have HB : Hid (Below w.heap.size w w1) := Below.trans (by go_grown) (b1.mono (by simp))
        clear b1
        rw [hn]
        go_wp2_with fail
        all_goals go_ret
        all_goals exact ⟨rfl, HB.out⟩
    · rw [zeroE_eq]
      rcases hk with rfl | rfl
      all_goals
        go_enter Tryz.func109, Tryz.ntmps109
        go_wp2_with fail
        refine (spec_NodeOk _ _ _).mono ?_
        rintro e w1 ⟨rfl, b1⟩
        have HB : Hid (Below w.heap.size w w1) := Below.trans (by go_grown) (b1.mono (by simp))
        have hc := Below.celz b1
        clear b1
        rw [hn]
        go_wp2_with fail
        all_goals go_ret
        all_goals exact ⟨rfl, HB.out⟩
  · have e1 : (k == 1 || k == 4) = false := by rw [Bool.eq_false_iff]; intro h; exact hk (by simpa using h)
    have n1 : (k == 1) = false := by rw [Bool.or_eq_false_iff] at e1; exact e1.1
    have n4 : (k == 4) = false := by rw [Bool.or_eq_false_iff] at e1; exact e1.2
    by_cases hk2 : k = 2 ∨ k = 3
    · have e2 : (k == 2 || k == 3) = true := by simpa using hk2
      rw [e1, e2]
      unfold aloneE
      clear hk
      cases hn : edgeB l al an bl bn
      · rcases hk2 with rfl | rfl
        all_goals
          go_enter Tryz.func109, Tryz.ntmps109
          go_wp2_with fail
          refine (spec_EdgeOk _ _ _ _ _ _).mono ?_
          rintro e w1 ⟨rfl, b1⟩
          have HB : Hid (Below w.heap.size w w1) := Below.trans (by go_grown) (b1.mono (by simp))
          clear b1
          rw [hn]
          go_wp2_with fail
          all_goals go_ret
          all_goals exact ⟨rfl, HB.out⟩
      · rw [zeroN_eq]
        rcases hk2 with rfl | rfl
        all_goals
          go_enter Tryz.func109, Tryz.ntmps109
          go_wp2_with fail
          refine (spec_EdgeOk _ _ _ _ _ _).mono ?_
          rintro e w1 ⟨rfl, b1⟩
          have HB : Hid (Below w.heap.size w w1) := Below.trans (by go_grown) (b1.mono (by simp))
          have hc := Below.celz b1
          clear b1
          rw [hn]
          go_wp2_with fail
          all_goals go_ret
          all_goals exact ⟨rfl, HB.out⟩
    · have e2 : (k == 2 || k == 3) = false := by rw [Bool.eq_false_iff]; intro h; exact hk2 (by simpa using h)
      have n2 : (k == 2) = false := by rw [Bool.or_eq_false_iff] at e2; exact e2.1
      have n3 : (k == 3) = false := by rw [Bool.or_eq_false_iff] at e2; exact e2.2
      rw [e1, e2]
      clear hk hk2 e1 e2
      go_enter Tryz.func109, Tryz.ntmps109
      go_wp2_with fail
      go_ret
      exact ⟨rfl, by go_grown⟩
def OpVal (k nl nn l al an bl bn : Int) : Value := .agg #[.int .i64 k, .int .i64 nl, .int .i64 nn, .int .i64 l, .int .i64 al, .int .i64 an, .int .i64 bl, .int .i64 bn]
/-- What deedOf hands back: a deed, or nothing and the code. -/
def DeedIs (k nl nn l al an bl bn : Int) (E d er : Value) : Prop :=
  (er = .nilIface ∧ k = 1 ∧ aloneN nl nn l al an bl bn = true ∧ d = .iface 150 (.agg #[.int .i64 nl, .int .i64 nn])) ∨
  (er = .nilIface ∧ k = 4 ∧ aloneN nl nn l al an bl bn = true ∧ d = .iface 151 (.agg #[.int .i64 nl, .int .i64 nn])) ∨
  (er = .nilIface ∧ k = 2 ∧ aloneE nl nn l al an bl bn = true ∧ d = .iface 153 (.agg #[.int .i64 l, .int .i64 al, .int .i64 an, .int .i64 bl, .int .i64 bn])) ∨
  (er = .nilIface ∧ k = 3 ∧ aloneE nl nn l al an bl bn = true ∧ d = .iface 154 (.agg #[.int .i64 l, .int .i64 al, .int .i64 an, .int .i64 bl, .int .i64 bn])) ∨
  (er = E ∧ opI k nl nn l al an bl bn = -1 ∧ d = .nilIface)
set_option maxHeartbeats 4000000 in
theorem deedOf (k nl nn l al an bl bn : Int) (E : Value) (w : World) (hE : w.cell? ⟨0, 0, none⟩ = some E) (hE0 : 0 < w.heap.size) (hE1 : ∃ t v, E = .iface t v) :
    Calls Tryz.prog 70 #[OpVal k nl nn l al an bl bn] w fun e w' => ∃ d er, e = .returned (.tuple #[d, er]) ∧ Below w.heap.size w w' ∧ DeedIs k nl nn l al an bl bn E d er := by
  obtain ⟨tE, vE, rfl⟩ := hE1
  obtain ⟨W0, hW0⟩ : ∃ W0, W0 = w.alloc (.cells #[.int .i64 k, .int .i64 nl, .int .i64 nn, .int .i64 l, .int .i64 al, .int .i64 an, .int .i64 bl, .int .i64 bn] 50) := ⟨_, rfl⟩
  have b0 : Below w.heap.size w W0 := by rw [hW0]; go_grown
  have hW : W0.heap.size = w.heap.size + 1 := by rw [hW0]; simp
  have hcs : ∀ o, W0.cell? ⟨w.heap.size, o, none⟩ = #[Value.int .i64 k, .int .i64 nl, .int .i64 nn, .int .i64 l, .int .i64 al, .int .i64 an, .int .i64 bl, .int .i64 bn][o]? := fun o => by rw [hW0]; exact World.cell?_alloc_at _ _ _ _ rfl
  unfold OpVal
  go_enter Tryz.func70, Tryz.ntmps70
  go_upto_region 1 with fail
  simp only [← hW0]
  clear hW0
  have q0 := hcs 0
  have q1 := hcs 1
  have q2 := hcs 2
  have q3 := hcs 3
  have q4 := hcs 4
  have q5 := hcs 5
  have q6 := hcs 6
  have q7 := hcs 7
  simp at q0 q1 q2 q3 q4 q5 q6 q7
  go_cut [0, 4] (fun s0 s4 wx => s4 = .bool (aloneN nl nn l al an bl bn) ∧ Below W0.heap.size W0 wx)
  case first =>
    go_wp2_with fail
    refine (impl_NodeOk _ _ _).mono ?_
    rintro e w1 ⟨rfl, b1⟩
    have HB : Hid (Below W0.heap.size W0 w1) := b1
    have hc := Below.celz (b1.mono (B' := w.heap.size + 1) (by omega))
    clear b1
    cases hn : nodeB nl nn
    · go_wp2_with fail
      go_meet
      exact ⟨by simp [aloneN, hn], HB.out⟩
    · go_wp2_with fail
      all_goals go_meet
      all_goals (refine ⟨?_, HB.out⟩; simp_all [aloneN, zeroE_eq])
  case rest =>
  obtain ⟨rfl, hb⟩ := hcut
  generalize haN : aloneN nl nn l al an bl bn = aN at *
  have HA : Hid (aloneN nl nn l al an bl bn = aN) := haN
  clear haN
  have HB0 : Hid (Below W0.heap.size W0 wc) := hb
  have hc := Below.celz (hb.mono (B' := w.heap.size + 1) (by omega))
  clear hb
  go_upto_region 2 with fail
  go_cut [0, 5] (fun s0 s5 wx => s5 = .bool (aloneE nl nn l al an bl bn) ∧ Below W0.heap.size W0 wx)
  case first =>
    go_wp2_with fail
    refine (impl_EdgeOk _ _ _ _ _ _).mono ?_
    rintro e w1 ⟨rfl, b1⟩
    have HB : Hid (Below W0.heap.size W0 w1) := keep_below HB0.out b1
    have hs := HB0.out.size
    have hc1 := Below.celz (b1.mono (B' := w.heap.size + 1) (by omega))
    clear b1
    cases hn : edgeB l al an bl bn
    · go_wp2_with fail
      go_meet
      exact ⟨by simp [aloneE, hn], HB.out⟩
    · go_wp2_with fail
      all_goals go_meet
      all_goals (refine ⟨?_, HB.out⟩; simp_all [aloneE, zeroN_eq])
  case rest =>
  obtain ⟨rfl, hb⟩ := hcut
  generalize haE : aloneE nl nn l al an bl bn = aE at *
  have HE : Hid (aloneE nl nn l al an bl bn = aE) := haE
  clear haE hc HB0
  have HB2 : Hid (Below w.heap.size w wc) := keep_below b0 hb
  have hc := Below.celz (hb.mono (B' := w.heap.size + 1) (by omega))
  have g0 : wc.cell? ⟨0, 0, none⟩ = some (.iface tE vE) := by rw [Below.celz HB2.out _ _ _ hE0]; exact hE
  have gW : W0.cell? ⟨0, 0, none⟩ = some (.iface tE vE) := by rw [Below.celz b0 _ _ _ hE0]; exact hE
  have g1 : 0 < wc.heap.size := Nat.lt_of_lt_of_le hE0 HB2.out.size
  clear hb hE
  by_cases k1 : k = 1
  · subst k1
    cases aN
    · have HO : Hid (opI 1 nl nn l al an bl bn = -1) := by show opI 1 nl nn l al an bl bn = -1; simp [opI, HA.out]
      go_wp2_with fail
      refine wp_region_after (by kernel_rfl) (by kernel_rfl) ?_
      intro hne hac
      have hp0 := fun p => (hac p _ _ _ g1).trans g0
      repeat (go_big_quiet_step (fail))
      refine wpQuiet_nil ?_
      rintro _ ⟨p, rfl⟩
      have hbq : Hid (Below w.heap.size w p.w) := keep_below HB2.out p.bel
      clear hac hne hp0
      generalize p.w = wq at *
      go_wp2_with fail
      go_ret2
      exact ⟨_, _, rfl, hbq.out, .inr (.inr (.inr (.inr ⟨rfl, HO.out, rfl⟩)))⟩
    · go_wp2_with fail
      go_ret2
      exact ⟨_, _, rfl, HB2.out, .inl ⟨rfl, rfl, HA.out, rfl⟩⟩
  by_cases k4 : k = 4
  · subst k4
    cases aN
    · have HO : Hid (opI 4 nl nn l al an bl bn = -1) := by show opI 4 nl nn l al an bl bn = -1; simp [opI, HA.out]
      go_wp2_with fail
      refine wp_region_after (by kernel_rfl) (by kernel_rfl) ?_
      intro hne hac
      have hp0 := fun p => (hac p _ _ _ g1).trans g0
      repeat (go_big_quiet_step (fail))
      refine wpQuiet_nil ?_
      rintro _ ⟨p, rfl⟩
      have hbq : Hid (Below w.heap.size w p.w) := keep_below HB2.out p.bel
      clear hac hne hp0
      generalize p.w = wq at *
      go_wp2_with fail
      go_ret2
      exact ⟨_, _, rfl, hbq.out, .inr (.inr (.inr (.inr ⟨rfl, HO.out, rfl⟩)))⟩
    · go_wp2_with fail
      go_ret2
      exact ⟨_, _, rfl, HB2.out, .inr (.inl ⟨rfl, rfl, HA.out, rfl⟩)⟩
  by_cases k2 : k = 2
  · subst k2
    cases aE
    · have HO : Hid (opI 2 nl nn l al an bl bn = -1) := by show opI 2 nl nn l al an bl bn = -1; simp [opI, HE.out]
      go_wp2_with fail
      refine wp_region_after (by kernel_rfl) (by kernel_rfl) ?_
      intro hne hac
      have hp0 := fun p => (hac p _ _ _ g1).trans g0
      repeat (go_big_quiet_step (fail))
      refine wpQuiet_nil ?_
      rintro _ ⟨p, rfl⟩
      have hbq : Hid (Below w.heap.size w p.w) := keep_below HB2.out p.bel
      clear hac hne hp0
      generalize p.w = wq at *
      go_wp2_with fail
      go_ret2
      exact ⟨_, _, rfl, hbq.out, .inr (.inr (.inr (.inr ⟨rfl, HO.out, rfl⟩)))⟩
    · go_wp2_with fail
      go_ret2
      exact ⟨_, _, rfl, HB2.out, .inr (.inr (.inl ⟨rfl, rfl, HE.out, rfl⟩))⟩
  by_cases k3 : k = 3
  · subst k3
    cases aE
    · have HO : Hid (opI 3 nl nn l al an bl bn = -1) := by show opI 3 nl nn l al an bl bn = -1; simp [opI, HE.out]
      go_wp2_with fail
      refine wp_region_after (by kernel_rfl) (by kernel_rfl) ?_
      intro hne hac
      have hp0 := fun p => (hac p _ _ _ g1).trans g0
      repeat (go_big_quiet_step (fail))
      refine wpQuiet_nil ?_
      rintro _ ⟨p, rfl⟩
      have hbq : Hid (Below w.heap.size w p.w) := keep_below HB2.out p.bel
      clear hac hne hp0
      generalize p.w = wq at *
      go_wp2_with fail
      go_ret2
      exact ⟨_, _, rfl, hbq.out, .inr (.inr (.inr (.inr ⟨rfl, HO.out, rfl⟩)))⟩
    · go_wp2_with fail
      go_ret2
      exact ⟨_, _, rfl, HB2.out, .inr (.inr (.inr (.inl ⟨rfl, rfl, HE.out, rfl⟩)))⟩
  have HO : Hid (opI k nl nn l al an bl bn = -1) := by show opI k nl nn l al an bl bn = -1; simp [opI, k1, k2, k3, k4]
  have n1 : (k == 1) = false := beq_eq_false_iff_ne.2 k1
  have n2 : (k == 2) = false := beq_eq_false_iff_ne.2 k2
  have n3 : (k == 3) = false := beq_eq_false_iff_ne.2 k3
  have n4 : (k == 4) = false := beq_eq_false_iff_ne.2 k4
  clear k1 k2 k3 k4
  go_wp2_with fail
  refine wp_region_after (by kernel_rfl) (by kernel_rfl) ?_
  intro hne hac
  have hp0 := fun p => (hac p _ _ _ g1).trans g0
  repeat (go_big_quiet_step (fail))
  refine wpQuiet_nil ?_
  rintro _ ⟨p, rfl⟩
  have hbq : Hid (Below w.heap.size w p.w) := keep_below HB2.out p.bel
  clear hac hne hp0
  generalize p.w = wq at *
  go_wp2_with fail
  go_ret2
  exact ⟨_, _, rfl, hbq.out, .inr (.inr (.inr (.inr ⟨rfl, HO.out, rfl⟩)))⟩
set_option maxHeartbeats 2000000 in
theorem impl_OpLabel (k nl nn l al an bl bn : Int) (E : Value) (w : World) (hE : w.cell? ⟨0, 0, none⟩ = some E) (hE0 : 0 < w.heap.size) (hE1 : ∃ t v, E = .iface t v) :
    Calls Tryz.prog 30 #[OpVal k nl nn l al an bl bn] w fun e w' => e = .returned (.int .i64 (opI k nl nn l al an bl bn)) ∧ Below w.heap.size w w' := by
  have hc0 : ∀ o, (w.alloc o).cell? ⟨0, 0, none⟩ = some E := fun o => by rw [World.cell?_alloc_past _ _ _ hE0]; exact hE
  have hc1 : ∀ o, 0 < (w.alloc o).heap.size := fun o => by simp
  have HD : Hid (∀ o, Calls Tryz.prog 70 #[OpVal k nl nn l al an bl bn] (w.alloc o) fun e w' => ∃ d er, e = .returned (.tuple #[d, er]) ∧ Below (w.alloc o).heap.size (w.alloc o) w' ∧ DeedIs k nl nn l al an bl bn E d er) := fun o => deedOf k nl nn l al an bl bn E _ (hc0 o) (hc1 o) hE1
  clear hc0 hc1 hE
  unfold OpVal at HD ⊢
  go_enter Tryz.func30, Tryz.ntmps30
  go_wp2_with fail
  refine (HD.out _).mono ?_
  rintro e w1 ⟨d, er, rfl, b1, hd⟩
  have HB : Hid (Below w.heap.size w w1) := Below.trans (by go_grown) (b1.mono (by simp))
  clear b1 HD
  rcases hd with ⟨rfl, rfl, ha, rfl⟩ | ⟨rfl, rfl, ha, rfl⟩ | ⟨rfl, rfl, ha, rfl⟩ | ⟨rfl, rfl, ha, rfl⟩ | ⟨rfl, ho, rfl⟩
  · have HO : Hid (opI 1 nl nn l al an bl bn = nl) := by show opI 1 nl nn l al an bl bn = nl; simp [opI, ha]
    clear ha
    go_wp2
    all_goals go_ret
    all_goals exact ⟨by rw [HO.out]; rfl, by have := HB.out; have := HB.out.size; go_grown⟩
  · have HO : Hid (opI 4 nl nn l al an bl bn = nl) := by show opI 4 nl nn l al an bl bn = nl; simp [opI, ha]
    clear ha
    go_wp2
    all_goals go_ret
    all_goals exact ⟨by rw [HO.out]; rfl, by have := HB.out; have := HB.out.size; go_grown⟩
  · have HO : Hid (opI 2 nl nn l al an bl bn = l) := by show opI 2 nl nn l al an bl bn = l; simp [opI, ha]
    clear ha
    go_wp2
    all_goals go_ret
    all_goals exact ⟨by rw [HO.out]; rfl, by have := HB.out; have := HB.out.size; go_grown⟩
  · have HO : Hid (opI 3 nl nn l al an bl bn = l) := by show opI 3 nl nn l al an bl bn = l; simp [opI, ha]
    clear ha
    go_wp2
    all_goals go_ret
    all_goals exact ⟨by rw [HO.out]; rfl, by have := HB.out; have := HB.out.size; go_grown⟩
  · have HO : Hid (opI k nl nn l al an bl bn = -1) := ho
    clear ho
    obtain ⟨tE, vE, rfl⟩ := hE1
    go_wp2
    go_ret
    exact ⟨by rw [HO.out]; rfl, HB.out⟩
end Go.Proofs.YtlnpbfeihjfnjaaGreatDoor.Lab

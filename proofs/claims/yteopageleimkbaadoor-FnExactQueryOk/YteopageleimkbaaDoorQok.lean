/-
  What is asked, and whether it can be: QueryOk of both.
-/
import Derived.Test.YteopageleimkbaaDoorNod
import Derived.Test.YteopageleimkbaaDoorErr
namespace Go.Proofs.YteopageleimkbaaDoor.Lab
open Go.RowKit
set_option linter.unusedVariables false
def zeroB (l n : Int) : Bool := decide (l = 0) && decide (n = 0)
/-- What is asked can be. -/
def qokB (k l n : Int) : Bool := if k = 1 ∨ k = 2 then nodeB l n else if k = 3 ∨ k = 4 then zeroB l n else false
set_option maxHeartbeats 1000000 in
theorem toQuery (k l n : Int) (w : World) :
    Calls Tryd.prog 5 #[.agg #[.int .i64 k, .int .i64 l, .int .i64 n]] w fun e w' => e = .returned (.agg #[.int .i64 k, .int .i64 l, .int .i64 n]) ∧ Below w.heap.size w w' := by
  go_enter Tryd.func5, Tryd.ntmps5
  go_wp2_with fail
  refine (toNode _ _ _).mono ?_
  rintro e w1 ⟨rfl, bel⟩
  have B1 : Below w.heap.size w w1 := Below.trans (by go_grown) (bel.mono (by simp; omega))
  have hs := bel.size
  have hc := Below.celz (bel.mono (B' := w.heap.size + 3) (by simp))
  have hf := Below.froz (bel.mono (B' := w.heap.size + 3) (by simp))
  simp only [World.size_alloc] at hs
  have HB : Hid (Below w.heap.size w w1) := B1
  clear bel B1
  go_wp2_with fail
  refine bodyPost_ret (v := .agg #[.int .i64 k, .int .i64 l, .int .i64 n]) (by simp [*, results, Tryd.results5, go_sem]) rfl ⟨rfl, ?_⟩
  have := HB.out
  go_grown
set_option maxHeartbeats 2000000 in
theorem spec_QueryOk (k l n : Int) (w : World) :
    Calls Tryd.prog 4 #[.agg #[.int .i64 k, .int .i64 l, .int .i64 n]] w fun e w' => e = .returned (.bool (qokB k l n)) ∧ Below w.heap.size w w' := by
  by_cases h12 : k = 1 ∨ k = 2
  · have hq : qokB k l n = nodeB l n := by simp [qokB, h12]
    rw [hq]
    clear hq
    rcases h12 with rfl | rfl
    all_goals (
      go_enter Tryd.func4, Tryd.ntmps4
      go_wp2_with fail
      refine (spec_NodeOk l n _).mono ?_
      rintro e w1 ⟨rfl, bel⟩
      have HB : Hid (Below w.heap.size w w1) := Below.trans (by go_grown) (bel.mono (by simp))
      clear bel
      go_wp2_with fail
      go_ret
      exact ⟨rfl, HB.out⟩)
  · by_cases h34 : k = 3 ∨ k = 4
    · have hq : qokB k l n = zeroB l n := by simp [qokB, h12, h34]
      rw [hq]
      clear hq h12
      by_cases hl : l = 0
      · subst hl
        by_cases hn : n = 0
        · subst hn
          have hz : zeroB 0 0 = true := rfl
          rw [hz]
          rcases h34 with rfl | rfl
          all_goals (
            go_enter Tryd.func4, Tryd.ntmps4
            go_wp2_with fail
            go_ret
            exact ⟨rfl, (Below.refl _ _).alloc (Nat.le_refl _) _⟩)
        · have hz : zeroB 0 n = false := by simp [zeroB, hn]
          rw [hz]
          have d0 : (n == 0) = false := beq_eq_false_iff_ne.2 hn
          have d1 : decide (n = 0) = false := by simpa using hn
          clear hn
          rcases h34 with rfl | rfl
          all_goals (
            go_enter Tryd.func4, Tryd.ntmps4
            go_wp2_with fail
            go_ret
            exact ⟨rfl, (Below.refl _ _).alloc (Nat.le_refl _) _⟩)
      · have hz : zeroB l n = false := by simp [zeroB, hl]
        rw [hz]
        have d0 : (l == 0) = false := beq_eq_false_iff_ne.2 hl
        have d1 : decide (l = 0) = false := by simpa using hl
        clear hl
        rcases h34 with rfl | rfl
        all_goals (
          go_enter Tryd.func4, Tryd.ntmps4
          go_wp2_with fail
          go_ret
          exact ⟨rfl, (Below.refl _ _).alloc (Nat.le_refl _) _⟩)
    · have hq : qokB k l n = false := by simp [qokB, h12, h34]
      rw [hq]
      have k1 : (k == 1) = false := by simp; omega
      have k2 : (k == 2) = false := by simp; omega
      have k3 : (k == 3) = false := by simp; omega
      have k4 : (k == 4) = false := by simp; omega
      clear hq h12 h34
      go_enter Tryd.func4, Tryd.ntmps4
      go_wp2_with fail
      go_ret
      exact ⟨rfl, (Below.refl _ _).alloc (Nat.le_refl _) _⟩
/-- What is asked, behind its interface. -/
def askV (k l n : Int) : Value :=
  if k = 1 then .iface 42 (.agg #[.int .i64 l, .int .i64 n]) else if k = 2 then .iface 43 (.agg #[.int .i64 l, .int .i64 n]) else if k = 3 then .iface 47 (.agg #[]) else .iface 48 (.agg #[])
set_option maxHeartbeats 4000000 in
theorem questionOf (k l n : Int) (w : World) (hf : FormAt w) :
    Calls Tryd.prog 9 #[.agg #[.int .i64 k, .int .i64 l, .int .i64 n]] w fun e w' => ((qokB k l n = true ∧ e = .returned (.tuple #[askV k l n, .nilIface])) ∨ (qokB k l n = false ∧ ∃ t u, e = .returned (.tuple #[.nilIface, .iface t u]))) ∧ Below w.heap.size w w' := by
  obtain ⟨t, u, hg⟩ := hf
  have hgl : 0 < w.heap.size := FormAt.lt ⟨t, u, hg⟩
  have hz : (l = 0 ∧ n = 0 ∧ zeroB l n = true) ∨ (l = 0 ∧ (n == 0) = false ∧ decide (n = 0) = false ∧ zeroB l n = false) ∨ ((l == 0) = false ∧ decide (l = 0) = false ∧ zeroB l n = false) := by
    by_cases hl : l = 0
    · by_cases hn : n = 0
      · exact .inl ⟨hl, hn, by simp [zeroB, hl, hn]⟩
      · exact .inr (.inl ⟨hl, by simpa using hn, by simpa using hn, by simp [zeroB, hn]⟩)
    · exact .inr (.inr ⟨by simpa using hl, by simpa using hl, by simp [zeroB, hl]⟩)
  have HK : Hid (k = 1 ∨ k = 2 ∨ k = 3 ∨ k = 4 ∨ ((k == 1) = false ∧ (k == 2) = false ∧ (k == 3) = false ∧ (k == 4) = false ∧ qokB k l n = false)) := by
    by_cases h : k = 1 ∨ k = 2 ∨ k = 3 ∨ k = 4
    · rcases h with h | h | h | h
      · exact .inl h
      · exact .inr (.inl h)
      · exact .inr (.inr (.inl h))
      · exact .inr (.inr (.inr (.inl h)))
    · refine .inr (.inr (.inr (.inr ⟨by simp; omega, by simp; omega, by simp; omega, by simp; omega, ?_⟩)))
      have a1 : ¬ (k = 1 ∨ k = 2) := by omega
      have a2 : ¬ (k = 3 ∨ k = 4) := by omega
      simp [qokB, a1, a2]
  have HN1 : ∀ b, nodeB l n = b → Hid (qokB 1 l n = b ∧ qokB 2 l n = b) := fun b h => ⟨by simp [qokB, h], by simp [qokB, h]⟩
  have HN3 : ∀ b, zeroB l n = b → Hid (qokB 3 l n = b ∧ qokB 4 l n = b) := fun b h => ⟨by simp [qokB, h], by simp [qokB, h]⟩
  obtain ⟨W0, hW0⟩ : ∃ W0, W0 = w.alloc (.cells #[.int .i64 k, .int .i64 l, .int .i64 n] 29) := ⟨_, rfl⟩
  have b0 : Hid (Below w.heap.size w W0) := by rw [hW0]; exact (Below.refl _ _).alloc (Nat.le_refl _) _
  have s0 : w.heap.size < W0.heap.size := by rw [hW0]; simp
  have g0 : W0.cell? ⟨w.heap.size, 0, none⟩ = some (.int .i64 k) := by rw [hW0]; simp [go_sem]
  have g1 : W0.cell? ⟨w.heap.size, 1, none⟩ = some (.int .i64 l) := by rw [hW0]; simp [go_sem]
  have g2 : W0.cell? ⟨w.heap.size, 2, none⟩ = some (.int .i64 n) := by rw [hW0]; simp [go_sem]
  have g3 : W0.cell? ⟨0, 0, none⟩ = some (.iface t u) := (Below.celz b0.out _ _ _ hgl).trans hg
  have g4 : 0 < W0.heap.size := by omega
  clear hg
  cases h1 : nodeB l n
  · have HQ1 := HN1 _ h1
    have H1 : Hid (nodeB l n = _) := h1
    clear HN1 h1
    rcases hz with ⟨rfl, rfl, h2⟩ | ⟨rfl, c1, c2, h2⟩ | ⟨c1, c2, h2⟩
    · have HQ3 := HN3 _ h2
      clear HN3 h2
      go_enter Tryd.func9, Tryd.ntmps9
      go_wp2_with fail
      simp only [← hW0]
      clear hW0
      refine wp_region_after (by kernel_rfl) (by kernel_rfl) ?_
      intro hne hac
      repeat (go_big_quiet_step (first | (go_at_call 11; exact after_at H1.out (impl_NodeOk _ _ _))))
      refine wpQuiet_nil ?_
      rintro _ ⟨p, rfl⟩
      have q0 := (Below.celz p.bel _ _ _ s0).trans g0
      have q1 := (Below.celz p.bel _ _ _ s0).trans g1
      have q2 := (Below.celz p.bel _ _ _ s0).trans g2
      have q3 := (Below.celz p.bel _ _ _ g4).trans g3
      have HB : Hid (Below w.heap.size w p.w) := b0.out.trans (p.bel.mono (by omega))
      have z0 : w.heap.size < p.w.heap.size := Nat.lt_of_lt_of_le s0 p.bel.size
      have z1 : 0 < p.w.heap.size := Nat.lt_of_lt_of_le g4 p.bel.size
      clear hac hne g0 g1 g2 g3
      generalize p.w = wq at *
      have HBB : Hid (∀ W, Below wq.heap.size wq W → Below w.heap.size w W) := fun W h => HB.out.trans (h.mono HB.out.size)
      rcases HK.out with rfl | rfl | rfl | rfl | ⟨k1, k2, k3, k4, hqk⟩
      · clear HK
        go_wp2_with fail
        clear HB
        refine wp_region_after (by kernel_rfl) (by kernel_rfl) ?_
        intro hne2 hac2
        repeat (go_big_quiet_step (fail))
        refine wpQuiet_nil ?_
        rintro _ ⟨p2, rfl⟩
        have HB : Hid (Below w.heap.size w p2.w) := HBB.out _ p2.bel
        clear hac2 hne2
        generalize p2.w = wz at *
        go_wp2_with fail
        try simp only [Exit.inBlock, Exit.then]
        refine bodyPost_ret (v := .tuple #[.nilIface, .iface t u]) (by simp [*, results, Tryd.results9, go_sem]) rfl ?_
        exact ⟨.inr ⟨HQ1.out.1, t, u, rfl⟩, HB.out⟩
      · clear HK
        go_wp2_with fail
        clear HB
        refine wp_region_after (by kernel_rfl) (by kernel_rfl) ?_
        intro hne2 hac2
        repeat (go_big_quiet_step (fail))
        refine wpQuiet_nil ?_
        rintro _ ⟨p2, rfl⟩
        have HB : Hid (Below w.heap.size w p2.w) := HBB.out _ p2.bel
        clear hac2 hne2
        generalize p2.w = wz at *
        go_wp2_with fail
        try simp only [Exit.inBlock, Exit.then]
        refine bodyPost_ret (v := .tuple #[.nilIface, .iface t u]) (by simp [*, results, Tryd.results9, go_sem]) rfl ?_
        exact ⟨.inr ⟨HQ1.out.2, t, u, rfl⟩, HB.out⟩
      · clear HK
        go_wp2_with fail
        try simp only [Exit.inBlock, Exit.then]
        refine bodyPost_ret (v := .tuple #[.iface 47 (.agg #[]), .nilIface]) (by simp [*, results, Tryd.results9, go_sem]) rfl ?_
        exact ⟨.inl ⟨HQ3.out.1, by simp [askV]⟩, HB.out⟩
      · clear HK
        go_wp2_with fail
        try simp only [Exit.inBlock, Exit.then]
        refine bodyPost_ret (v := .tuple #[.iface 48 (.agg #[]), .nilIface]) (by simp [*, results, Tryd.results9, go_sem]) rfl ?_
        exact ⟨.inl ⟨HQ3.out.2, by simp [askV]⟩, HB.out⟩
      · clear HK
        go_wp2_with fail
        clear HB
        refine wp_region_after (by kernel_rfl) (by kernel_rfl) ?_
        intro hne2 hac2
        repeat (go_big_quiet_step (fail))
        refine wpQuiet_nil ?_
        rintro _ ⟨p2, rfl⟩
        have HB : Hid (Below w.heap.size w p2.w) := HBB.out _ p2.bel
        clear hac2 hne2
        generalize p2.w = wz at *
        go_wp2_with fail
        try simp only [Exit.inBlock, Exit.then]
        refine bodyPost_ret (v := .tuple #[.nilIface, .iface t u]) (by simp [*, results, Tryd.results9, go_sem]) rfl ?_
        exact ⟨.inr ⟨hqk, t, u, rfl⟩, HB.out⟩
    · have HQ3 := HN3 _ h2
      clear HN3 h2
      go_enter Tryd.func9, Tryd.ntmps9
      go_wp2_with fail
      simp only [← hW0]
      clear hW0
      refine wp_region_after (by kernel_rfl) (by kernel_rfl) ?_
      intro hne hac
      repeat (go_big_quiet_step (first | (go_at_call 11; exact after_at H1.out (impl_NodeOk _ _ _))))
      refine wpQuiet_nil ?_
      rintro _ ⟨p, rfl⟩
      have q0 := (Below.celz p.bel _ _ _ s0).trans g0
      have q1 := (Below.celz p.bel _ _ _ s0).trans g1
      have q2 := (Below.celz p.bel _ _ _ s0).trans g2
      have q3 := (Below.celz p.bel _ _ _ g4).trans g3
      have HB : Hid (Below w.heap.size w p.w) := b0.out.trans (p.bel.mono (by omega))
      have z0 : w.heap.size < p.w.heap.size := Nat.lt_of_lt_of_le s0 p.bel.size
      have z1 : 0 < p.w.heap.size := Nat.lt_of_lt_of_le g4 p.bel.size
      clear hac hne g0 g1 g2 g3
      generalize p.w = wq at *
      have HBB : Hid (∀ W, Below wq.heap.size wq W → Below w.heap.size w W) := fun W h => HB.out.trans (h.mono HB.out.size)
      rcases HK.out with rfl | rfl | rfl | rfl | ⟨k1, k2, k3, k4, hqk⟩
      · clear HK
        go_wp2_with fail
        clear HB
        refine wp_region_after (by kernel_rfl) (by kernel_rfl) ?_
        intro hne2 hac2
        repeat (go_big_quiet_step (fail))
        refine wpQuiet_nil ?_
        rintro _ ⟨p2, rfl⟩
        have HB : Hid (Below w.heap.size w p2.w) := HBB.out _ p2.bel
        clear hac2 hne2
        generalize p2.w = wz at *
        go_wp2_with fail
        try simp only [Exit.inBlock, Exit.then]
        refine bodyPost_ret (v := .tuple #[.nilIface, .iface t u]) (by simp [*, results, Tryd.results9, go_sem]) rfl ?_
        exact ⟨.inr ⟨HQ1.out.1, t, u, rfl⟩, HB.out⟩
      · clear HK
        go_wp2_with fail
        clear HB
        refine wp_region_after (by kernel_rfl) (by kernel_rfl) ?_
        intro hne2 hac2
        repeat (go_big_quiet_step (fail))
        refine wpQuiet_nil ?_
        rintro _ ⟨p2, rfl⟩
        have HB : Hid (Below w.heap.size w p2.w) := HBB.out _ p2.bel
        clear hac2 hne2
        generalize p2.w = wz at *
        go_wp2_with fail
        try simp only [Exit.inBlock, Exit.then]
        refine bodyPost_ret (v := .tuple #[.nilIface, .iface t u]) (by simp [*, results, Tryd.results9, go_sem]) rfl ?_
        exact ⟨.inr ⟨HQ1.out.2, t, u, rfl⟩, HB.out⟩
      · clear HK
        go_wp2_with fail
        clear HB
        refine wp_region_after (by kernel_rfl) (by kernel_rfl) ?_
        intro hne2 hac2
        repeat (go_big_quiet_step (fail))
        refine wpQuiet_nil ?_
        rintro _ ⟨p2, rfl⟩
        have HB : Hid (Below w.heap.size w p2.w) := HBB.out _ p2.bel
        clear hac2 hne2
        generalize p2.w = wz at *
        go_wp2_with fail
        try simp only [Exit.inBlock, Exit.then]
        refine bodyPost_ret (v := .tuple #[.nilIface, .iface t u]) (by simp [*, results, Tryd.results9, go_sem]) rfl ?_
        exact ⟨.inr ⟨HQ3.out.1, t, u, rfl⟩, HB.out⟩
      · clear HK
        go_wp2_with fail
        clear HB
        refine wp_region_after (by kernel_rfl) (by kernel_rfl) ?_
        intro hne2 hac2
        repeat (go_big_quiet_step (fail))
        refine wpQuiet_nil ?_
        rintro _ ⟨p2, rfl⟩
        have HB : Hid (Below w.heap.size w p2.w) := HBB.out _ p2.bel
        clear hac2 hne2
        generalize p2.w = wz at *
        go_wp2_with fail
        try simp only [Exit.inBlock, Exit.then]
        refine bodyPost_ret (v := .tuple #[.nilIface, .iface t u]) (by simp [*, results, Tryd.results9, go_sem]) rfl ?_
        exact ⟨.inr ⟨HQ3.out.2, t, u, rfl⟩, HB.out⟩
      · clear HK
        go_wp2_with fail
        clear HB
        refine wp_region_after (by kernel_rfl) (by kernel_rfl) ?_
        intro hne2 hac2
        repeat (go_big_quiet_step (fail))
        refine wpQuiet_nil ?_
        rintro _ ⟨p2, rfl⟩
        have HB : Hid (Below w.heap.size w p2.w) := HBB.out _ p2.bel
        clear hac2 hne2
        generalize p2.w = wz at *
        go_wp2_with fail
        try simp only [Exit.inBlock, Exit.then]
        refine bodyPost_ret (v := .tuple #[.nilIface, .iface t u]) (by simp [*, results, Tryd.results9, go_sem]) rfl ?_
        exact ⟨.inr ⟨hqk, t, u, rfl⟩, HB.out⟩
    · have HQ3 := HN3 _ h2
      clear HN3 h2
      go_enter Tryd.func9, Tryd.ntmps9
      go_wp2_with fail
      simp only [← hW0]
      clear hW0
      refine wp_region_after (by kernel_rfl) (by kernel_rfl) ?_
      intro hne hac
      repeat (go_big_quiet_step (first | (go_at_call 11; exact after_at H1.out (impl_NodeOk _ _ _))))
      refine wpQuiet_nil ?_
      rintro _ ⟨p, rfl⟩
      have q0 := (Below.celz p.bel _ _ _ s0).trans g0
      have q1 := (Below.celz p.bel _ _ _ s0).trans g1
      have q2 := (Below.celz p.bel _ _ _ s0).trans g2
      have q3 := (Below.celz p.bel _ _ _ g4).trans g3
      have HB : Hid (Below w.heap.size w p.w) := b0.out.trans (p.bel.mono (by omega))
      have z0 : w.heap.size < p.w.heap.size := Nat.lt_of_lt_of_le s0 p.bel.size
      have z1 : 0 < p.w.heap.size := Nat.lt_of_lt_of_le g4 p.bel.size
      clear hac hne g0 g1 g2 g3
      generalize p.w = wq at *
      have HBB : Hid (∀ W, Below wq.heap.size wq W → Below w.heap.size w W) := fun W h => HB.out.trans (h.mono HB.out.size)
      rcases HK.out with rfl | rfl | rfl | rfl | ⟨k1, k2, k3, k4, hqk⟩
      · clear HK
        go_wp2_with fail
        clear HB
        refine wp_region_after (by kernel_rfl) (by kernel_rfl) ?_
        intro hne2 hac2
        repeat (go_big_quiet_step (fail))
        refine wpQuiet_nil ?_
        rintro _ ⟨p2, rfl⟩
        have HB : Hid (Below w.heap.size w p2.w) := HBB.out _ p2.bel
        clear hac2 hne2
        generalize p2.w = wz at *
        go_wp2_with fail
        try simp only [Exit.inBlock, Exit.then]
        refine bodyPost_ret (v := .tuple #[.nilIface, .iface t u]) (by simp [*, results, Tryd.results9, go_sem]) rfl ?_
        exact ⟨.inr ⟨HQ1.out.1, t, u, rfl⟩, HB.out⟩
      · clear HK
        go_wp2_with fail
        clear HB
        refine wp_region_after (by kernel_rfl) (by kernel_rfl) ?_
        intro hne2 hac2
        repeat (go_big_quiet_step (fail))
        refine wpQuiet_nil ?_
        rintro _ ⟨p2, rfl⟩
        have HB : Hid (Below w.heap.size w p2.w) := HBB.out _ p2.bel
        clear hac2 hne2
        generalize p2.w = wz at *
        go_wp2_with fail
        try simp only [Exit.inBlock, Exit.then]
        refine bodyPost_ret (v := .tuple #[.nilIface, .iface t u]) (by simp [*, results, Tryd.results9, go_sem]) rfl ?_
        exact ⟨.inr ⟨HQ1.out.2, t, u, rfl⟩, HB.out⟩
      · clear HK
        go_wp2_with fail
        clear HB
        refine wp_region_after (by kernel_rfl) (by kernel_rfl) ?_
        intro hne2 hac2
        repeat (go_big_quiet_step (fail))
        refine wpQuiet_nil ?_
        rintro _ ⟨p2, rfl⟩
        have HB : Hid (Below w.heap.size w p2.w) := HBB.out _ p2.bel
        clear hac2 hne2
        generalize p2.w = wz at *
        go_wp2_with fail
        try simp only [Exit.inBlock, Exit.then]
        refine bodyPost_ret (v := .tuple #[.nilIface, .iface t u]) (by simp [*, results, Tryd.results9, go_sem]) rfl ?_
        exact ⟨.inr ⟨HQ3.out.1, t, u, rfl⟩, HB.out⟩
      · clear HK
        go_wp2_with fail
        clear HB
        refine wp_region_after (by kernel_rfl) (by kernel_rfl) ?_
        intro hne2 hac2
        repeat (go_big_quiet_step (fail))
        refine wpQuiet_nil ?_
        rintro _ ⟨p2, rfl⟩
        have HB : Hid (Below w.heap.size w p2.w) := HBB.out _ p2.bel
        clear hac2 hne2
        generalize p2.w = wz at *
        go_wp2_with fail
        try simp only [Exit.inBlock, Exit.then]
        refine bodyPost_ret (v := .tuple #[.nilIface, .iface t u]) (by simp [*, results, Tryd.results9, go_sem]) rfl ?_
        exact ⟨.inr ⟨HQ3.out.2, t, u, rfl⟩, HB.out⟩
      · clear HK
        go_wp2_with fail
        clear HB
        refine wp_region_after (by kernel_rfl) (by kernel_rfl) ?_
        intro hne2 hac2
        repeat (go_big_quiet_step (fail))
        refine wpQuiet_nil ?_
        rintro _ ⟨p2, rfl⟩
        have HB : Hid (Below w.heap.size w p2.w) := HBB.out _ p2.bel
        clear hac2 hne2
        generalize p2.w = wz at *
        go_wp2_with fail
        try simp only [Exit.inBlock, Exit.then]
        refine bodyPost_ret (v := .tuple #[.nilIface, .iface t u]) (by simp [*, results, Tryd.results9, go_sem]) rfl ?_
        exact ⟨.inr ⟨hqk, t, u, rfl⟩, HB.out⟩
  · have HQ1 := HN1 _ h1
    have H1 : Hid (nodeB l n = _) := h1
    clear HN1 h1
    rcases hz with ⟨rfl, rfl, h2⟩ | ⟨rfl, c1, c2, h2⟩ | ⟨c1, c2, h2⟩
    · have HQ3 := HN3 _ h2
      clear HN3 h2
      go_enter Tryd.func9, Tryd.ntmps9
      go_wp2_with fail
      simp only [← hW0]
      clear hW0
      refine wp_region_after (by kernel_rfl) (by kernel_rfl) ?_
      intro hne hac
      repeat (go_big_quiet_step (first | (go_at_call 11; exact after_at H1.out (impl_NodeOk _ _ _))))
      refine wpQuiet_nil ?_
      rintro _ ⟨p, rfl⟩
      have q0 := (Below.celz p.bel _ _ _ s0).trans g0
      have q1 := (Below.celz p.bel _ _ _ s0).trans g1
      have q2 := (Below.celz p.bel _ _ _ s0).trans g2
      have q3 := (Below.celz p.bel _ _ _ g4).trans g3
      have HB : Hid (Below w.heap.size w p.w) := b0.out.trans (p.bel.mono (by omega))
      have z0 : w.heap.size < p.w.heap.size := Nat.lt_of_lt_of_le s0 p.bel.size
      have z1 : 0 < p.w.heap.size := Nat.lt_of_lt_of_le g4 p.bel.size
      clear hac hne g0 g1 g2 g3
      generalize p.w = wq at *
      have HBB : Hid (∀ W, Below wq.heap.size wq W → Below w.heap.size w W) := fun W h => HB.out.trans (h.mono HB.out.size)
      rcases HK.out with rfl | rfl | rfl | rfl | ⟨k1, k2, k3, k4, hqk⟩
      · clear HK
        go_wp2_with fail
        try simp only [Exit.inBlock, Exit.then]
        refine bodyPost_ret (v := .tuple #[.iface 42 (.agg #[.int .i64 0, .int .i64 0]), .nilIface]) (by simp [*, results, Tryd.results9, go_sem]) rfl ?_
        exact ⟨.inl ⟨HQ1.out.1, by simp [askV]⟩, HB.out⟩
      · clear HK
        go_wp2_with fail
        try simp only [Exit.inBlock, Exit.then]
        refine bodyPost_ret (v := .tuple #[.iface 43 (.agg #[.int .i64 0, .int .i64 0]), .nilIface]) (by simp [*, results, Tryd.results9, go_sem]) rfl ?_
        exact ⟨.inl ⟨HQ1.out.2, by simp [askV]⟩, HB.out⟩
      · clear HK
        go_wp2_with fail
        try simp only [Exit.inBlock, Exit.then]
        refine bodyPost_ret (v := .tuple #[.iface 47 (.agg #[]), .nilIface]) (by simp [*, results, Tryd.results9, go_sem]) rfl ?_
        exact ⟨.inl ⟨HQ3.out.1, by simp [askV]⟩, HB.out⟩
      · clear HK
        go_wp2_with fail
        try simp only [Exit.inBlock, Exit.then]
        refine bodyPost_ret (v := .tuple #[.iface 48 (.agg #[]), .nilIface]) (by simp [*, results, Tryd.results9, go_sem]) rfl ?_
        exact ⟨.inl ⟨HQ3.out.2, by simp [askV]⟩, HB.out⟩
      · clear HK
        go_wp2_with fail
        clear HB
        refine wp_region_after (by kernel_rfl) (by kernel_rfl) ?_
        intro hne2 hac2
        repeat (go_big_quiet_step (fail))
        refine wpQuiet_nil ?_
        rintro _ ⟨p2, rfl⟩
        have HB : Hid (Below w.heap.size w p2.w) := HBB.out _ p2.bel
        clear hac2 hne2
        generalize p2.w = wz at *
        go_wp2_with fail
        try simp only [Exit.inBlock, Exit.then]
        refine bodyPost_ret (v := .tuple #[.nilIface, .iface t u]) (by simp [*, results, Tryd.results9, go_sem]) rfl ?_
        exact ⟨.inr ⟨hqk, t, u, rfl⟩, HB.out⟩
    · have HQ3 := HN3 _ h2
      clear HN3 h2
      go_enter Tryd.func9, Tryd.ntmps9
      go_wp2_with fail
      simp only [← hW0]
      clear hW0
      refine wp_region_after (by kernel_rfl) (by kernel_rfl) ?_
      intro hne hac
      repeat (go_big_quiet_step (first | (go_at_call 11; exact after_at H1.out (impl_NodeOk _ _ _))))
      refine wpQuiet_nil ?_
      rintro _ ⟨p, rfl⟩
      have q0 := (Below.celz p.bel _ _ _ s0).trans g0
      have q1 := (Below.celz p.bel _ _ _ s0).trans g1
      have q2 := (Below.celz p.bel _ _ _ s0).trans g2
      have q3 := (Below.celz p.bel _ _ _ g4).trans g3
      have HB : Hid (Below w.heap.size w p.w) := b0.out.trans (p.bel.mono (by omega))
      have z0 : w.heap.size < p.w.heap.size := Nat.lt_of_lt_of_le s0 p.bel.size
      have z1 : 0 < p.w.heap.size := Nat.lt_of_lt_of_le g4 p.bel.size
      clear hac hne g0 g1 g2 g3
      generalize p.w = wq at *
      have HBB : Hid (∀ W, Below wq.heap.size wq W → Below w.heap.size w W) := fun W h => HB.out.trans (h.mono HB.out.size)
      rcases HK.out with rfl | rfl | rfl | rfl | ⟨k1, k2, k3, k4, hqk⟩
      · clear HK
        go_wp2_with fail
        try simp only [Exit.inBlock, Exit.then]
        refine bodyPost_ret (v := .tuple #[.iface 42 (.agg #[.int .i64 0, .int .i64 n]), .nilIface]) (by simp [*, results, Tryd.results9, go_sem]) rfl ?_
        exact ⟨.inl ⟨HQ1.out.1, by simp [askV]⟩, HB.out⟩
      · clear HK
        go_wp2_with fail
        try simp only [Exit.inBlock, Exit.then]
        refine bodyPost_ret (v := .tuple #[.iface 43 (.agg #[.int .i64 0, .int .i64 n]), .nilIface]) (by simp [*, results, Tryd.results9, go_sem]) rfl ?_
        exact ⟨.inl ⟨HQ1.out.2, by simp [askV]⟩, HB.out⟩
      · clear HK
        go_wp2_with fail
        clear HB
        refine wp_region_after (by kernel_rfl) (by kernel_rfl) ?_
        intro hne2 hac2
        repeat (go_big_quiet_step (fail))
        refine wpQuiet_nil ?_
        rintro _ ⟨p2, rfl⟩
        have HB : Hid (Below w.heap.size w p2.w) := HBB.out _ p2.bel
        clear hac2 hne2
        generalize p2.w = wz at *
        go_wp2_with fail
        try simp only [Exit.inBlock, Exit.then]
        refine bodyPost_ret (v := .tuple #[.nilIface, .iface t u]) (by simp [*, results, Tryd.results9, go_sem]) rfl ?_
        exact ⟨.inr ⟨HQ3.out.1, t, u, rfl⟩, HB.out⟩
      · clear HK
        go_wp2_with fail
        clear HB
        refine wp_region_after (by kernel_rfl) (by kernel_rfl) ?_
        intro hne2 hac2
        repeat (go_big_quiet_step (fail))
        refine wpQuiet_nil ?_
        rintro _ ⟨p2, rfl⟩
        have HB : Hid (Below w.heap.size w p2.w) := HBB.out _ p2.bel
        clear hac2 hne2
        generalize p2.w = wz at *
        go_wp2_with fail
        try simp only [Exit.inBlock, Exit.then]
        refine bodyPost_ret (v := .tuple #[.nilIface, .iface t u]) (by simp [*, results, Tryd.results9, go_sem]) rfl ?_
        exact ⟨.inr ⟨HQ3.out.2, t, u, rfl⟩, HB.out⟩
      · clear HK
        go_wp2_with fail
        clear HB
        refine wp_region_after (by kernel_rfl) (by kernel_rfl) ?_
        intro hne2 hac2
        repeat (go_big_quiet_step (fail))
        refine wpQuiet_nil ?_
        rintro _ ⟨p2, rfl⟩
        have HB : Hid (Below w.heap.size w p2.w) := HBB.out _ p2.bel
        clear hac2 hne2
        generalize p2.w = wz at *
        go_wp2_with fail
        try simp only [Exit.inBlock, Exit.then]
        refine bodyPost_ret (v := .tuple #[.nilIface, .iface t u]) (by simp [*, results, Tryd.results9, go_sem]) rfl ?_
        exact ⟨.inr ⟨hqk, t, u, rfl⟩, HB.out⟩
    · have HQ3 := HN3 _ h2
      clear HN3 h2
      go_enter Tryd.func9, Tryd.ntmps9
      go_wp2_with fail
      simp only [← hW0]
      clear hW0
      refine wp_region_after (by kernel_rfl) (by kernel_rfl) ?_
      intro hne hac
      repeat (go_big_quiet_step (first | (go_at_call 11; exact after_at H1.out (impl_NodeOk _ _ _))))
      refine wpQuiet_nil ?_
      rintro _ ⟨p, rfl⟩
      have q0 := (Below.celz p.bel _ _ _ s0).trans g0
      have q1 := (Below.celz p.bel _ _ _ s0).trans g1
      have q2 := (Below.celz p.bel _ _ _ s0).trans g2
      have q3 := (Below.celz p.bel _ _ _ g4).trans g3
      have HB : Hid (Below w.heap.size w p.w) := b0.out.trans (p.bel.mono (by omega))
      have z0 : w.heap.size < p.w.heap.size := Nat.lt_of_lt_of_le s0 p.bel.size
      have z1 : 0 < p.w.heap.size := Nat.lt_of_lt_of_le g4 p.bel.size
      clear hac hne g0 g1 g2 g3
      generalize p.w = wq at *
      have HBB : Hid (∀ W, Below wq.heap.size wq W → Below w.heap.size w W) := fun W h => HB.out.trans (h.mono HB.out.size)
      rcases HK.out with rfl | rfl | rfl | rfl | ⟨k1, k2, k3, k4, hqk⟩
      · clear HK
        go_wp2_with fail
        try simp only [Exit.inBlock, Exit.then]
        refine bodyPost_ret (v := .tuple #[.iface 42 (.agg #[.int .i64 l, .int .i64 n]), .nilIface]) (by simp [*, results, Tryd.results9, go_sem]) rfl ?_
        exact ⟨.inl ⟨HQ1.out.1, by simp [askV]⟩, HB.out⟩
      · clear HK
        go_wp2_with fail
        try simp only [Exit.inBlock, Exit.then]
        refine bodyPost_ret (v := .tuple #[.iface 43 (.agg #[.int .i64 l, .int .i64 n]), .nilIface]) (by simp [*, results, Tryd.results9, go_sem]) rfl ?_
        exact ⟨.inl ⟨HQ1.out.2, by simp [askV]⟩, HB.out⟩
      · clear HK
        go_wp2_with fail
        clear HB
        refine wp_region_after (by kernel_rfl) (by kernel_rfl) ?_
        intro hne2 hac2
        repeat (go_big_quiet_step (fail))
        refine wpQuiet_nil ?_
        rintro _ ⟨p2, rfl⟩
        have HB : Hid (Below w.heap.size w p2.w) := HBB.out _ p2.bel
        clear hac2 hne2
        generalize p2.w = wz at *
        go_wp2_with fail
        try simp only [Exit.inBlock, Exit.then]
        refine bodyPost_ret (v := .tuple #[.nilIface, .iface t u]) (by simp [*, results, Tryd.results9, go_sem]) rfl ?_
        exact ⟨.inr ⟨HQ3.out.1, t, u, rfl⟩, HB.out⟩
      · clear HK
        go_wp2_with fail
        clear HB
        refine wp_region_after (by kernel_rfl) (by kernel_rfl) ?_
        intro hne2 hac2
        repeat (go_big_quiet_step (fail))
        refine wpQuiet_nil ?_
        rintro _ ⟨p2, rfl⟩
        have HB : Hid (Below w.heap.size w p2.w) := HBB.out _ p2.bel
        clear hac2 hne2
        generalize p2.w = wz at *
        go_wp2_with fail
        try simp only [Exit.inBlock, Exit.then]
        refine bodyPost_ret (v := .tuple #[.nilIface, .iface t u]) (by simp [*, results, Tryd.results9, go_sem]) rfl ?_
        exact ⟨.inr ⟨HQ3.out.2, t, u, rfl⟩, HB.out⟩
      · clear HK
        go_wp2_with fail
        clear HB
        refine wp_region_after (by kernel_rfl) (by kernel_rfl) ?_
        intro hne2 hac2
        repeat (go_big_quiet_step (fail))
        refine wpQuiet_nil ?_
        rintro _ ⟨p2, rfl⟩
        have HB : Hid (Below w.heap.size w p2.w) := HBB.out _ p2.bel
        clear hac2 hne2
        generalize p2.w = wz at *
        go_wp2_with fail
        try simp only [Exit.inBlock, Exit.then]
        refine bodyPost_ret (v := .tuple #[.nilIface, .iface t u]) (by simp [*, results, Tryd.results9, go_sem]) rfl ?_
        exact ⟨.inr ⟨hqk, t, u, rfl⟩, HB.out⟩
set_option maxHeartbeats 1000000 in
theorem impl_QueryOk (k l n : Int) (w : World) (hf : FormAt w) :
    Calls Tryd.prog 6 #[.agg #[.int .i64 k, .int .i64 l, .int .i64 n]] w fun e w' => e = .returned (.bool (qokB k l n)) ∧ Below w.heap.size w w' := by
  have HF : Hid (FormAt w) := hf
  clear hf
  go_enter Tryd.func6, Tryd.ntmps6
  go_wp2_with fail
  refine (questionOf k l n _ (HF.out.keep ((Below.refl _ _).alloc (Nat.le_refl _) _))).mono ?_
  rintro e w1 ⟨h, bel⟩
  have HB : Hid (Below w.heap.size w w1) := Below.trans (by go_grown) (bel.mono (by simp))
  clear bel
  have HA : Hid (∃ t u, askV k l n = .iface t u) := by
    show ∃ t u, askV k l n = .iface t u
    unfold askV
    split
    · exact ⟨_, _, rfl⟩
    · split
      · exact ⟨_, _, rfl⟩
      · split <;> exact ⟨_, _, rfl⟩
  obtain ⟨ta, ua, hA⟩ := HA.out
  rcases h with ⟨hq, rfl⟩ | ⟨hq, t, u, rfl⟩
  · rw [hA]
    go_wp2_with fail
    go_ret
    exact ⟨by rw [hq]; rfl, HB.out⟩
  · go_wp2_with fail
    go_ret
    exact ⟨by rw [hq]; rfl, HB.out⟩
end Go.Proofs.YteopageleimkbaaDoor.Lab

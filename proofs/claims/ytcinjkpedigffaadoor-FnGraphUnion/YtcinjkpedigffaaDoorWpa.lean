/-
  Where a node stands: laws.wpAt. (As spec.l2At in Spg.)
-/
import Derived.Test.YtcinjkpedigffaaDoorGlx
namespace Go.Proofs.YtcinjkpedigffaaDoor.Lab
open Go.RowKit
set_option linter.unusedVariables false
set_option maxHeartbeats 4000000 in
theorem wpAtC (a1 a2 : Option Addr) (n m c1 c2 : Nat) (ns : List (Int × Int)) (l nn : Int) (w : World) (h1 : RowAt 2 encNode w (.slice a1 n c1) ns) (hN : n = ns.length) (hn : n ≤ 1048576) :
    Calls Tryd.prog 28 #[.agg #[.slice a1 n c1, .slice a2 m c2], .agg #[.int .i64 l, .int .i64 nn]] w fun e w' => e = .returned (.int .i64 (atN ns (l, nn) 0)) ∧ Below w.heap.size w w' := by
  have H1 : Hid (RowAt 2 encNode w (.slice a1 n c1) ns) := h1
  have HN0 : Hid (n = ns.length) := hN
  clear h1 hN
  obtain ⟨W0, hW0⟩ : ∃ W0, W0 = (w.alloc (.cells #[.slice a1 n c1, .slice a2 m c2] 26)).alloc (.cells #[.int .i64 l, .int .i64 nn] 35) := ⟨_, rfl⟩
  have b0 : Below w.heap.size w W0 := by rw [hW0]; go_grown
  have hW : W0.heap.size = w.heap.size + 2 := by rw [hW0]; simp
  have G0 : W0.cell? ⟨w.heap.size, 0, none⟩ = some (.slice a1 n c1) := by rw [hW0]; simp [go_sem]
  have F0 : W0.cell? ⟨w.heap.size + 1, 0, none⟩ = some (.int .i64 l) := by rw [hW0]; simp [go_sem]
  have F1 : W0.cell? ⟨w.heap.size + 1, 1, none⟩ = some (.int .i64 nn) := by rw [hW0]; simp [go_sem]
  go_enter Tryd.func28, Tryd.ntmps28
  go_wp2_with fail
  simp only [← hW0]
  clear hW0
  go_loopw [5] (fun i wr => ∃ k : Nat, k ≤ n ∧ i = .int .i64 k ∧ Below W0.heap.size W0 wr ∧ ∀ j, j < k → ns[j]? ≠ some (l, nn)) (fun i _ => n - (intOf i).toNat)
  case atStart => exact ⟨0, by omega, rfl, Below.refl _ _, fun j hj => by omega⟩
  case round =>
    obtain ⟨k, hk, rfl, hbel, hq⟩ := hrel
    have HQ : Hid (∀ j, j < k → ns[j]? ≠ some (l, nn)) := hq
    clear hq
    have g0 : wr.cell? ⟨w.heap.size, 0, none⟩ = some (.slice a1 n c1) := by rw [Below.celz hbel _ _ _ (by omega)]; exact G0
    have f0 : wr.cell? ⟨w.heap.size + 1, 0, none⟩ = some (.int .i64 l) := by rw [Below.celz hbel _ _ _ (by omega)]; exact F0
    have f1 : wr.cell? ⟨w.heap.size + 1, 1, none⟩ = some (.int .i64 nn) := by rw [Below.celz hbel _ _ _ (by omega)]; exact F1
    have z0 : w.heap.size < wr.heap.size := by have := hbel.size; omega
    have z1 : w.heap.size + 1 < wr.heap.size := by have := hbel.size; omega
    by_cases hlt : k < n
    · rcases H1.out with ⟨hz, _⟩ | ⟨_, b1, o1, q1, hv1, hb1, E1⟩
      · rw [hz] at HN0; have := HN0.out; simp at this; omega
      obtain rfl : a1 = some ⟨b1, o1, none⟩ := by injection hv1
      obtain ⟨⟨m0, m1⟩, hx⟩ : ∃ x, ns[k]? = some x := ⟨_, List.getElem?_eq_getElem (by rw [← HN0.out]; exact hlt)⟩
      have e0 : wr.cell? ⟨b1, o1 + k * 2, none⟩ = some (.int .i64 m0) := by rw [Below.celz hbel _ _ _ (by omega), Below.celz b0 _ _ _ (by omega)]; exact E1 k _ hx 0 _ rfl
      have e1 : wr.cell? ⟨b1, o1 + k * 2 + 1, none⟩ = some (.int .i64 m1) := by rw [Below.celz hbel _ _ _ (by omega), Below.celz b0 _ _ _ (by omega)]; exact E1 k _ hx 1 _ rfl
      have HX : Hid (ns[k]? = some (m0, m1)) := hx
      have z2 : b1 < wr.heap.size := by omega
      have k0 : (0 : Int) ≤ (k : Int) := by omega
      have k1 : (k : Int) < (n : Int) := by omega
      have HB : Hid (Below W0.heap.size W0 wr) := hbel
      clear hx hbel E1 hv1
      by_cases h0 : m0 = l
      · subst h0
        by_cases h2 : m1 = nn
        · subst h2
          go_wp2_with fail
          refine wp_region_after (by kernel_rfl) (by kernel_rfl) ?_
          intro hne hac
          repeat (go_big_quiet_step (fail))
          refine wpQuiet_nil ?_
          rintro _ ⟨p, rfl⟩
          have hbq : Hid (Below W0.heap.size W0 p.w) := HB.out.trans (p.bel.mono (by have := HB.out.size; omega))
          clear hac hne
          generalize p.w = wq at *
          go_wp2_with fail
          go_ret
          have HA : atN ns (m0, m1) 0 = ((0 + k : Nat) : Int) := atN_first ns 0 k HQ.out HX.out
          exact ⟨by rw [HA]; simp, b0.trans (hbq.out.mono (by omega))⟩
        · have HD : Hid (¬ m1 = nn) := h2
          have d0 : (m1 == nn) = false := beq_eq_false_iff_ne.2 h2
          clear h2
          go_wp2_with fail
          refine wp_region_after (by kernel_rfl) (by kernel_rfl) ?_
          intro hne hac
          repeat (go_big_quiet_step (fail))
          refine wpQuiet_nil ?_
          rintro _ ⟨p, rfl⟩
          have hbq : Hid (Below W0.heap.size W0 p.w) := HB.out.trans (p.bel.mono (by have := HB.out.size; omega))
          clear hac hne
          generalize p.w = wq at *
          go_wp2_with fail
          go_roundw
          case rel =>
            refine ⟨k + 1, by omega, by go_num, hbq.out, fun j hj => ?_⟩
            rcases Nat.lt_succ_iff_lt_or_eq.1 hj with h | rfl
            · exact HQ.out j h
            · rw [HX.out]; intro h; simp at h; exact HD.out h
          case measure => simp [intOf]; omega
      · have HD : Hid (¬ m0 = l) := h0
        have d0 : (m0 == l) = false := beq_eq_false_iff_ne.2 h0
        clear h0
        go_wp2_with fail
        refine wp_region_after (by kernel_rfl) (by kernel_rfl) ?_
        intro hne hac
        repeat (go_big_quiet_step (fail))
        refine wpQuiet_nil ?_
        rintro _ ⟨p, rfl⟩
        have hbq : Hid (Below W0.heap.size W0 p.w) := HB.out.trans (p.bel.mono (by have := HB.out.size; omega))
        clear hac hne
        generalize p.w = wq at *
        go_wp2_with fail
        go_roundw
        case rel =>
          refine ⟨k + 1, by omega, by go_num, hbq.out, fun j hj => ?_⟩
          rcases Nat.lt_succ_iff_lt_or_eq.1 hj with h | rfl
          · exact HQ.out j h
          · rw [HX.out]; intro h; simp at h; exact HD.out h.1
        case measure => simp [intOf]; omega
    · have hkn : n = k := by omega
      subst hkn
      have HA : Hid (atN ns (l, nn) 0 = -1) := atN_none ns 0 (fun j hj => HQ.out j (by have := HN0.out; omega))
      go_wp2_with fail
      go_ret
      exact ⟨by rw [HA.out]; rfl, b0.trans (hbel.mono (by omega))⟩
theorem wpAtB (v1 v2 : Value) (ns : List Nd) (es : List Ed) (l nn : Int) (w : World) (h : GrAt w v1 v2 ns es) :
    Calls Tryd.prog 28 #[.agg #[v1, v2], .agg #[.int .i64 l, .int .i64 nn]] w fun e w' => e = .returned (.int .i64 (atN ns (l, nn) 0)) ∧ Below w.heap.size w w' := by
  obtain ⟨a1, c1, a2, c2, rfl, rfl⟩ := h.form
  exact wpAtC a1 a2 ns.length es.length c1 c2 ns l nn w h.1 rfl h.lens.1
theorem atN_ge (ns : List Nd) (x : Nd) : decide ((0 : Int) ≤ atN ns x 0) = decide (x ∈ ns) := by
  have h := atN_sign (x := x) ns 0
  by_cases hx : x ∈ ns
  · simp only [hx, decide_true, Bool.not_true, decide_eq_false_iff_not] at h
    rw [decide_eq_true hx]; exact decide_eq_true (by omega)
  · simp only [hx, decide_false, Bool.not_false, decide_eq_true_eq] at h
    rw [decide_eq_false hx]; exact decide_eq_false (by omega)
end Go.Proofs.YtcinjkpedigffaaDoor.Lab

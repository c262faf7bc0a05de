/-
  Where an edge stands in a graph: spec.l2EdgeAt. (Written by tools/mkeat.py.)
-/
import Derived.Test.YtkhfbaggkmeahabGreatDoorGok
namespace Go.Proofs.YtkhfbaggkmeahabGreatDoor.Lab
open Go.RowKit
set_option linter.unusedVariables false
def atE : List Ed → Ed → Nat → Int
  | [], _, _ => -1
  | y :: ys, x, i => if y = x then i else atE ys x (i + 1)
theorem atE_first {x : Ed} : ∀ (ns : List Ed) (i k : Nat), (∀ j, j < k → ns[j]? ≠ some x) → ns[k]? = some x → atE ns x i = ((i + k : Nat) : Int)
  | [], i, k, _, h => by simp at h
  | y :: ys, i, 0, _, h => by simp at h; simp [atE, h]
  | y :: ys, i, k + 1, hn, h => by
    have h0 : ¬ y = x := fun h => hn 0 (by omega) (by simp [h])
    rw [atE, if_neg h0, atE_first ys (i + 1) k (fun j hj => by simpa using hn (j + 1) (by omega)) (by simpa using h)]
    have : i + 1 + k = i + (k + 1) := by omega
    rw [this]
theorem atE_none {x : Ed} : ∀ (ns : List Ed) (i : Nat), (∀ j, j < ns.length → ns[j]? ≠ some x) → atE ns x i = -1
  | [], i, _ => rfl
  | y :: ys, i, hn => by
    have h0 : ¬ y = x := fun h => hn 0 (by simp) (by simp [h])
    rw [atE, if_neg h0]
    exact atE_none ys (i + 1) (fun j hj => by simpa using hn (j + 1) (by simpa using hj))
theorem atE_sign {x : Ed} : ∀ (ns : List Ed) (i : Nat), decide (atE ns x i < 0) = !decide (x ∈ ns)
  | [], i => by simp [atE]
  | y :: ys, i => by
    by_cases h : y = x
    · subst h; simp [atE]
    · have h' : ¬ x = y := fun e => h e.symm
      rw [atE, if_neg h, atE_sign ys (i + 1)]
      simp [h']
set_option maxHeartbeats 8000000 in
theorem l2EdgeAt (a1 a2 : Option Addr) (n m c1 c2 : Nat) (es : List Ed) (l al an bl bn : Int) (w : World) (h1 : RowAt 5 encEdge w (.slice a2 m c2) es) (hN : m = es.length) (hm : m ≤ 1048576) :
    Calls Tryz.prog 78 #[.agg #[.slice a1 n c1, .slice a2 m c2], .agg #[.int .i64 l, .int .i64 al, .int .i64 an, .int .i64 bl, .int .i64 bn]] w fun e w' => e = .returned (.int .i64 (atE es (l, al, an, bl, bn) 0)) ∧ Below w.heap.size w w' := by
  have H1 : Hid (RowAt 5 encEdge w (.slice a2 m c2) es) := h1
  have HN0 : Hid (m = es.length) := hN
  clear h1 hN
  obtain ⟨W0, hW0⟩ : ∃ W0, W0 = (w.alloc (.cells #[.slice a1 n c1, .slice a2 m c2] 26)).alloc (.cells #[.int .i64 l, .int .i64 al, .int .i64 an, .int .i64 bl, .int .i64 bn] 30) := ⟨_, rfl⟩
  have b0 : Below w.heap.size w W0 := by rw [hW0]; go_grown
  have hW : W0.heap.size = w.heap.size + 2 := by rw [hW0]; simp
  have G0 : W0.cell? ⟨w.heap.size, 1, none⟩ = some (.slice a2 m c2) := by rw [hW0]; simp [go_sem]
  have F0 : W0.cell? ⟨w.heap.size + 1, 0, none⟩ = some (.int .i64 l) := by rw [hW0]; simp [go_sem]
  have F1 : W0.cell? ⟨w.heap.size + 1, 1, none⟩ = some (.int .i64 al) := by rw [hW0]; simp [go_sem]
  have F2 : W0.cell? ⟨w.heap.size + 1, 2, none⟩ = some (.int .i64 an) := by rw [hW0]; simp [go_sem]
  have F3 : W0.cell? ⟨w.heap.size + 1, 3, none⟩ = some (.int .i64 bl) := by rw [hW0]; simp [go_sem]
  have F4 : W0.cell? ⟨w.heap.size + 1, 4, none⟩ = some (.int .i64 bn) := by rw [hW0]; simp [go_sem]
  go_enter Tryz.func78, Tryz.ntmps78
  go_wp2_with fail
  simp only [← hW0]
  clear hW0
  go_loopw [5] (fun i wr => ∃ k : Nat, k ≤ m ∧ i = .int .i64 k ∧ Below W0.heap.size W0 wr ∧ ∀ j, j < k → es[j]? ≠ some (l, al, an, bl, bn)) (fun i _ => m - (intOf i).toNat)
  case atStart => exact ⟨0, by omega, rfl, Below.refl _ _, fun j hj => by omega⟩
  case round =>
    obtain ⟨k, hk, rfl, hbel, hq⟩ := hrel
    have HQ : Hid (∀ j, j < k → es[j]? ≠ some (l, al, an, bl, bn)) := hq
    clear hq
    have g0 : wr.cell? ⟨w.heap.size, 1, none⟩ = some (.slice a2 m c2) := by rw [Below.celz hbel _ _ _ (by omega)]; exact G0
    have f0 : wr.cell? ⟨w.heap.size + 1, 0, none⟩ = some (.int .i64 l) := by rw [Below.celz hbel _ _ _ (by omega)]; exact F0
    have f1 : wr.cell? ⟨w.heap.size + 1, 1, none⟩ = some (.int .i64 al) := by rw [Below.celz hbel _ _ _ (by omega)]; exact F1
    have f2 : wr.cell? ⟨w.heap.size + 1, 2, none⟩ = some (.int .i64 an) := by rw [Below.celz hbel _ _ _ (by omega)]; exact F2
    have f3 : wr.cell? ⟨w.heap.size + 1, 3, none⟩ = some (.int .i64 bl) := by rw [Below.celz hbel _ _ _ (by omega)]; exact F3
    have f4 : wr.cell? ⟨w.heap.size + 1, 4, none⟩ = some (.int .i64 bn) := by rw [Below.celz hbel _ _ _ (by omega)]; exact F4
    have z0 : w.heap.size < wr.heap.size := by have := hbel.size; omega
    have z1 : w.heap.size + 1 < wr.heap.size := by have := hbel.size; omega
    by_cases hlt : k < m
    · rcases H1.out with ⟨hz, _⟩ | ⟨_, b1, o1, q1, hv1, hb1, E1⟩
      · rw [hz] at HN0; have := HN0.out; simp at this; omega
      obtain rfl : a2 = some ⟨b1, o1, none⟩ := by injection hv1
      obtain ⟨⟨m0, m1, m2, m3, m4⟩, hx⟩ : ∃ x, es[k]? = some x := ⟨_, List.getElem?_eq_getElem (by rw [← HN0.out]; exact hlt)⟩
      have e0 : wr.cell? ⟨b1, o1 + k * 5, none⟩ = some (.int .i64 m0) := by rw [Below.celz hbel _ _ _ (by omega), Below.celz b0 _ _ _ (by omega)]; exact E1 k _ hx 0 _ rfl
      have e1 : wr.cell? ⟨b1, o1 + k * 5 + 1, none⟩ = some (.int .i64 m1) := by rw [Below.celz hbel _ _ _ (by omega), Below.celz b0 _ _ _ (by omega)]; exact E1 k _ hx 1 _ rfl
      have e2 : wr.cell? ⟨b1, o1 + k * 5 + 2, none⟩ = some (.int .i64 m2) := by rw [Below.celz hbel _ _ _ (by omega), Below.celz b0 _ _ _ (by omega)]; exact E1 k _ hx 2 _ rfl
      have e3 : wr.cell? ⟨b1, o1 + k * 5 + 3, none⟩ = some (.int .i64 m3) := by rw [Below.celz hbel _ _ _ (by omega), Below.celz b0 _ _ _ (by omega)]; exact E1 k _ hx 3 _ rfl
      have e4 : wr.cell? ⟨b1, o1 + k * 5 + 4, none⟩ = some (.int .i64 m4) := by rw [Below.celz hbel _ _ _ (by omega), Below.celz b0 _ _ _ (by omega)]; exact E1 k _ hx 4 _ rfl
      have HX : Hid (es[k]? = some (m0, m1, m2, m3, m4)) := hx
      have z2 : b1 < wr.heap.size := by omega
      have k0 : (0 : Int) ≤ (k : Int) := by omega
      have k1 : (k : Int) < (m : Int) := by omega
      have HB : Hid (Below W0.heap.size W0 wr) := hbel
      clear hx hbel E1 hv1
      by_cases h0 : m0 = l
      · subst h0
        by_cases h1 : m1 = al
        · subst h1
          by_cases h2 : m2 = an
          · subst h2
            by_cases h3 : m3 = bl
            · subst h3
              by_cases h4 : m4 = bn
              · subst h4
                go_wp2_with fail
                refine wp_region_after (by kernel_rfl) (by kernel_rfl) ?_
                intro hne hac
                repeat (go_big_quiet_step (fail))
                refine wpQuiet_nil ?_
                rintro _ ⟨p, rfl⟩
                have hbq : Hid (Below W0.heap.size W0 p.w) := HB.out.trans (p.bel.mono (by have := HB.out.size; omega))
                clear hac hne
                generalize p.w = wq at *
                go_wp2_with fail
                go_ret
                have HA : atE es (m0, m1, m2, m3, m4) 0 = ((0 + k : Nat) : Int) := atE_first es 0 k HQ.out HX.out
                exact ⟨by rw [HA]; simp, b0.trans (hbq.out.mono (by omega))⟩
              · have HD : Hid (¬ m4 = bn) := h4
                have d0 : (m4 == bn) = false := beq_eq_false_iff_ne.2 h4
                clear h4
                go_wp2_with fail
                refine wp_region_after (by kernel_rfl) (by kernel_rfl) ?_
                intro hne hac
                repeat (go_big_quiet_step (fail))
                refine wpQuiet_nil ?_
                rintro _ ⟨p, rfl⟩
                have hbq : Hid (Below W0.heap.size W0 p.w) := HB.out.trans (p.bel.mono (by have := HB.out.size; omega))
                clear hac hne
                generalize p.w = wq at *
                go_wp2_with fail
                go_roundw
                case rel =>
                  refine ⟨k + 1, by omega, by go_num, hbq.out, fun j hj => ?_⟩
                  rcases Nat.lt_succ_iff_lt_or_eq.1 hj with h | rfl
                  · exact HQ.out j h
                  · rw [HX.out]; intro h; simp at h; exact HD.out h
                case measure => simp [intOf]; omega
            · have HD : Hid (¬ m3 = bl) := h3
              have d0 : (m3 == bl) = false := beq_eq_false_iff_ne.2 h3
              clear h3
              go_wp2_with fail
              refine wp_region_after (by kernel_rfl) (by kernel_rfl) ?_
              intro hne hac
              repeat (go_big_quiet_step (fail))
              refine wpQuiet_nil ?_
              rintro _ ⟨p, rfl⟩
              have hbq : Hid (Below W0.heap.size W0 p.w) := HB.out.trans (p.bel.mono (by have := HB.out.size; omega))
              clear hac hne
              generalize p.w = wq at *
              go_wp2_with fail
              go_roundw
              case rel =>
                refine ⟨k + 1, by omega, by go_num, hbq.out, fun j hj => ?_⟩
                rcases Nat.lt_succ_iff_lt_or_eq.1 hj with h | rfl
                · exact HQ.out j h
                · rw [HX.out]; intro h; simp at h; exact HD.out h.1
              case measure => simp [intOf]; omega
          · have HD : Hid (¬ m2 = an) := h2
            have d0 : (m2 == an) = false := beq_eq_false_iff_ne.2 h2
            clear h2
            go_wp2_with fail
            refine wp_region_after (by kernel_rfl) (by kernel_rfl) ?_
            intro hne hac
            repeat (go_big_quiet_step (fail))
            refine wpQuiet_nil ?_
            rintro _ ⟨p, rfl⟩
            have hbq : Hid (Below W0.heap.size W0 p.w) := HB.out.trans (p.bel.mono (by have := HB.out.size; omega))
            clear hac hne
            generalize p.w = wq at *
            go_wp2_with fail
            go_roundw
            case rel =>
              refine ⟨k + 1, by omega, by go_num, hbq.out, fun j hj => ?_⟩
              rcases Nat.lt_succ_iff_lt_or_eq.1 hj with h | rfl
              · exact HQ.out j h
              · rw [HX.out]; intro h; simp at h; exact HD.out h.1
            case measure => simp [intOf]; omega
        · have HD : Hid (¬ m1 = al) := h1
          have d0 : (m1 == al) = false := beq_eq_false_iff_ne.2 h1
          clear h1
          go_wp2_with fail
          refine wp_region_after (by kernel_rfl) (by kernel_rfl) ?_
          intro hne hac
          repeat (go_big_quiet_step (fail))
          refine wpQuiet_nil ?_
          rintro _ ⟨p, rfl⟩
          have hbq : Hid (Below W0.heap.size W0 p.w) := HB.out.trans (p.bel.mono (by have := HB.out.size; omega))
          clear hac hne
          generalize p.w = wq at *
          go_wp2_with fail
          go_roundw
          case rel =>
            refine ⟨k + 1, by omega, by go_num, hbq.out, fun j hj => ?_⟩
            rcases Nat.lt_succ_iff_lt_or_eq.1 hj with h | rfl
            · exact HQ.out j h
            · rw [HX.out]; intro h; simp at h; exact HD.out h.1
          case measure => simp [intOf]; omega
      · have HD : Hid (¬ m0 = l) := h0
        have d0 : (m0 == l) = false := beq_eq_false_iff_ne.2 h0
        clear h0
        go_wp2_with fail
        refine wp_region_after (by kernel_rfl) (by kernel_rfl) ?_
        intro hne hac
        repeat (go_big_quiet_step (fail))
        refine wpQuiet_nil ?_
        rintro _ ⟨p, rfl⟩
        have hbq : Hid (Below W0.heap.size W0 p.w) := HB.out.trans (p.bel.mono (by have := HB.out.size; omega))
        clear hac hne
        generalize p.w = wq at *
        go_wp2_with fail
        go_roundw
        case rel =>
          refine ⟨k + 1, by omega, by go_num, hbq.out, fun j hj => ?_⟩
          rcases Nat.lt_succ_iff_lt_or_eq.1 hj with h | rfl
          · exact HQ.out j h
          · rw [HX.out]; intro h; simp at h; exact HD.out h.1
        case measure => simp [intOf]; omega
    · have hkn : m = k := by omega
      subst hkn
      have HA : Hid (atE es (l, al, an, bl, bn) 0 = -1) := atE_none es 0 (fun j hj => HQ.out j (by have := HN0.out; omega))
      go_wp2_with fail
      go_ret
      exact ⟨by rw [HA.out]; rfl, b0.trans (hbel.mono (by omega))⟩
end Go.Proofs.YtkhfbaggkmeahabGreatDoor.Lab

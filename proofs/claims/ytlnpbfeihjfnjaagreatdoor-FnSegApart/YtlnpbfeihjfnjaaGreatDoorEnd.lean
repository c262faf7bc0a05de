/-
  Where an edge stands, and how something ends: spec.l2EdgeAt, spec.l2Ends.
-/
import Derived.Test.YtlnpbfeihjfnjaaGreatDoorGok
namespace Go.Proofs.YtlnpbfeihjfnjaaGreatDoor.Lab
open Go.RowKit
set_option linter.unusedVariables false
def atE : List Ed → Ed → Nat → Int
  | [], _, _ => -1
  | y :: ys, x, i => if y = x then i else atE ys x (i + 1)
theorem atE_first {x : Ed} : ∀ (ns : List Ed) (i k : Nat), (∀ j, j < k → ns[j]? ≠ some x) → ns[k]? = some x → atE ns x i = ((i + k : Nat) : Int)
  | [], i, k, _, h => by simp at h
  | y :: ys, i, 0, _, h => by simp at h; simp [atE, h]
  | y :: ys, i, k + 1, hn, h => by
    have h0 : ¬ y = x := fun h => hn 0 (by omega) (by simp [h])
    rw [atE, if_neg h0, atE_first ys (i + 1) k (fun j hj => by simpa using hn (j + 1) (by omega)) (by simpa using h)]
    have : i + 1 + k = i + (k + 1) := by omega
    rw [this]
theorem atE_none {x : Ed} : ∀ (ns : List Ed) (i : Nat), (∀ j, j < ns.length → ns[j]? ≠ some x) → atE ns x i = -1
  | [], i, _ => rfl
  | y :: ys, i, hn => by
    have h0 : ¬ y = x := fun h => hn 0 (by simp) (by simp [h])
    rw [atE, if_neg h0]
    exact atE_none ys (i + 1) (fun j hj => by simpa using hn (j + 1) (by simpa using hj))
theorem atE_sign {x : Ed} : ∀ (ns : List Ed) (i : Nat), decide (atE ns x i < 0) = !decide (x ∈ ns)
  | [], i => by simp [atE]
  | y :: ys, i => by
    by_cases h : y = x
    · subst h; simp [atE]
    · have h' : ¬ x = y := fun e => h e.symm
      rw [atE, if_neg h, atE_sign ys (i + 1)]
      simp [h']
set_option maxHeartbeats 8000000 in
theorem l2EdgeAt (a1 a2 : Option Addr) (n m c1 c2 : Nat) (es : List Ed) (l al an bl bn : Int) (w : World) (h1 : RowAt 5 encEdge w (.slice a2 m c2) es) (hN : m = es.length) (hm : m ≤ 1048576) :
    Calls Tryz.prog 134 #[.agg #[.slice a1 n c1, .slice a2 m c2], .agg #[.int .i64 l, .int .i64 al, .int .i64 an, .int .i64 bl, .int .i64 bn]] w fun e w' => e = .returned (.int .i64 (atE es (l, al, an, bl, bn) 0)) ∧ Below w.heap.size w w' := by
  have H1 : Hid (RowAt 5 encEdge w (.slice a2 m c2) es) := h1
  have HN0 : Hid (m = es.length) := hN
  clear h1 hN
  obtain ⟨W0, hW0⟩ : ∃ W0, W0 = (w.alloc (.cells #[.slice a1 n c1, .slice a2 m c2] 26)).alloc (.cells #[.int .i64 l, .int .i64 al, .int .i64 an, .int .i64 bl, .int .i64 bn] 48) := ⟨_, rfl⟩
  have b0 : Below w.heap.size w W0 := by rw [hW0]; go_grown
  have hW : W0.heap.size = w.heap.size + 2 := by rw [hW0]; simp
  have G0 : W0.cell? ⟨w.heap.size, 1, none⟩ = some (.slice a2 m c2) := by rw [hW0]; simp [go_sem]
  have F0 : W0.cell? ⟨w.heap.size + 1, 0, none⟩ = some (.int .i64 l) := by rw [hW0]; simp [go_sem]
  have F1 : W0.cell? ⟨w.heap.size + 1, 1, none⟩ = some (.int .i64 al) := by rw [hW0]; simp [go_sem]
  have F2 : W0.cell? ⟨w.heap.size + 1, 2, none⟩ = some (.int .i64 an) := by rw [hW0]; simp [go_sem]
  have F3 : W0.cell? ⟨w.heap.size + 1, 3, none⟩ = some (.int .i64 bl) := by rw [hW0]; simp [go_sem]
  have F4 : W0.cell? ⟨w.heap.size + 1, 4, none⟩ = some (.int .i64 bn) := by rw [hW0]; simp [go_sem]
  go_enter Tryz.func134, Tryz.ntmps134
  go_wp2_with fail
  simp only [← hW0]
  clear hW0
  go_loopw [5] (fun i wr => ∃ k : Nat, k ≤ m ∧ i = .int .i64 k ∧ Below W0.heap.size W0 wr ∧ ∀ j, j < k → es[j]? ≠ some (l, al, an, bl, bn)) (fun i _ => m - (intOf i).toNat)
  case atStart => exact ⟨0, by omega, rfl, Below.refl _ _, fun j hj => by omega⟩
  case round =>
    obtain ⟨k, hk, rfl, hbel, hq⟩ := hrel
    have HQ : Hid (∀ j, j < k → es[j]? ≠ some (l, al, an, bl, bn)) := hq
    clear hq
    have g0 : wr.cell? ⟨w.heap.size, 1, none⟩ = some (.slice a2 m c2) := by rw [Below.celz hbel _ _ _ (by omega)]; exact G0
    have f0 : wr.cell? ⟨w.heap.size + 1, 0, none⟩ = some (.int .i64 l) := by rw [Below.celz hbel _ _ _ (by omega)]; exact F0
    have f1 : wr.cell? ⟨w.heap.size + 1, 1, none⟩ = some (.int .i64 al) := by rw [Below.celz hbel _ _ _ (by omega)]; exact F1
    have f2 : wr.cell? ⟨w.heap.size + 1, 2, none⟩ = some (.int .i64 an) := by rw [Below.celz hbel _ _ _ (by omega)]; exact F2
    have f3 : wr.cell? ⟨w.heap.size + 1, 3, none⟩ = some (.int .i64 bl) := by rw [Below.celz hbel _ _ _ (by omega)]; exact F3
    have f4 : wr.cell? ⟨w.heap.size + 1, 4, none⟩ = some (.int .i64 bn) := by rw [Below.celz hbel _ _ _ (by omega)]; exact F4
    have z0 : w.heap.size < wr.heap.size := by have := hbel.size; omega
    have z1 : w.heap.size + 1 < wr.heap.size := by have := hbel.size; omega
    by_cases hlt : k < m
    · rcases H1.out with ⟨hz, _⟩ | ⟨_, b1, o1, q1, hv1, hb1, E1⟩
      · rw [hz] at HN0; have := HN0.out; simp at this; omega
      obtain rfl : a2 = some ⟨b1, o1, none⟩ := by injection hv1
      obtain ⟨⟨m0, m1, m2, m3, m4⟩, hx⟩ : ∃ x, es[k]? = some x := ⟨_, List.getElem?_eq_getElem (by rw [← HN0.out]; exact hlt)⟩
      have e0 : wr.cell? ⟨b1, o1 + k * 5, none⟩ = some (.int .i64 m0) := by rw [Below.celz hbel _ _ _ (by omega), Below.celz b0 _ _ _ (by omega)]; exact E1 k _ hx 0 _ rfl
      have e1 : wr.cell? ⟨b1, o1 + k * 5 + 1, none⟩ = some (.int .i64 m1) := by rw [Below.celz hbel _ _ _ (by omega), Below.celz b0 _ _ _ (by omega)]; exact E1 k _ hx 1 _ rfl
      have e2 : wr.cell? ⟨b1, o1 + k * 5 + 2, none⟩ = some (.int .i64 m2) := by rw [Below.celz hbel _ _ _ (by omega), Below.celz b0 _ _ _ (by omega)]; exact E1 k _ hx 2 _ rfl
      have e3 : wr.cell? ⟨b1, o1 + k * 5 + 3, none⟩ = some (.int .i64 m3) := by rw [Below.celz hbel _ _ _ (by omega), Below.celz b0 _ _ _ (by omega)]; exact E1 k _ hx 3 _ rfl
      have e4 : wr.cell? ⟨b1, o1 + k * 5 + 4, none⟩ = some (.int .i64 m4) := by rw [Below.celz hbel _ _ _ (by omega), Below.celz b0 _ _ _ (by omega)]; exact E1 k _ hx 4 _ rfl
      have HX : Hid (es[k]? = some (m0, m1, m2, m3, m4)) := hx
      have z2 : b1 < wr.heap.size := by omega
      have k0 : (0 : Int) ≤ (k : Int) := by omega
      have k1 : (k : Int) < (m : Int) := by omega
      have HB : Hid (Below W0.heap.size W0 wr) := hbel
      clear hx hbel E1 hv1
      by_cases h0 : m0 = l
      · subst h0
        by_cases h1 : m1 = al
        · subst h1
          by_cases h2 : m2 = an
          · subst h2
            by_cases h3 : m3 = bl
            · subst h3
              by_cases h4 : m4 = bn
              · subst h4
                go_wp2_with fail
                refine wp_region_after (by kernel_rfl) (by kernel_rfl) ?_
                intro hne hac
                repeat (go_big_quiet_step (fail))
                refine wpQuiet_nil ?_
                rintro _ ⟨p, rfl⟩
                have hbq : Hid (Below W0.heap.size W0 p.w) := HB.out.trans (p.bel.mono (by have := HB.out.size; omega))
                clear hac hne
                generalize p.w = wq at *
                go_wp2_with fail
                go_ret
                have HA : atE es (m0, m1, m2, m3, m4) 0 = ((0 + k : Nat) : Int) := atE_first es 0 k HQ.out HX.out
                exact ⟨by rw [HA]; simp, b0.trans (hbq.out.mono (by omega))⟩
              · have HD : Hid (¬ m4 = bn) := h4
                have d0 : (m4 == bn) = false := beq_eq_false_iff_ne.2 h4
                clear h4
                go_wp2_with fail
                refine wp_region_after (by kernel_rfl) (by kernel_rfl) ?_
                intro hne hac
                repeat (go_big_quiet_step (fail))
                refine wpQuiet_nil ?_
                rintro _ ⟨p, rfl⟩
                have hbq : Hid (Below W0.heap.size W0 p.w) := HB.out.trans (p.bel.mono (by have := HB.out.size; omega))
                clear hac hne
                generalize p.w = wq at *
                go_wp2_with fail
                go_roundw
                case rel =>
                  refine ⟨k + 1, by omega, by go_num, hbq.out, fun j hj => ?_⟩
                  rcases Nat.lt_succ_iff_lt_or_eq.1 hj with h | rfl
                  · exact HQ.out j h
                  · rw [HX.out]; intro h; simp at h; exact HD.out h
                case measure => simp [intOf]; omega
            · have HD : Hid (¬ m3 = bl) := h3
              have d0 : (m3 == bl) = false := beq_eq_false_iff_ne.2 h3
              clear h3
              go_wp2_with fail
              refine wp_region_after (by kernel_rfl) (by kernel_rfl) ?_
              intro hne hac
              repeat (go_big_quiet_step (fail))
              refine wpQuiet_nil ?_
              rintro _ ⟨p, rfl⟩
              have hbq : Hid (Below W0.heap.size W0 p.w) := HB.out.trans (p.bel.mono (by have := HB.out.size; omega))
              clear hac hne
              generalize p.w = wq at *
              go_wp2_with fail
              go_roundw
              case rel =>
                refine ⟨k + 1, by omega, by go_num, hbq.out, fun j hj => ?_⟩
                rcases Nat.lt_succ_iff_lt_or_eq.1 hj with h | rfl
                · exact HQ.out j h
                · rw [HX.out]; intro h; simp at h; exact HD.out h.1
              case measure => simp [intOf]; omega
          · have HD : Hid (¬ m2 = an) := h2
            have d0 : (m2 == an) = false := beq_eq_false_iff_ne.2 h2
            clear h2
            go_wp2_with fail
            refine wp_region_after (by kernel_rfl) (by kernel_rfl) ?_
            intro hne hac
            repeat (go_big_quiet_step (fail))
            refine wpQuiet_nil ?_
            rintro _ ⟨p, rfl⟩
            have hbq : Hid (Below W0.heap.size W0 p.w) := HB.out.trans (p.bel.mono (by have := HB.out.size; omega))
            clear hac hne
            generalize p.w = wq at *
            go_wp2_with fail
            go_roundw
            case rel =>
              refine ⟨k + 1, by omega, by go_num, hbq.out, fun j hj => ?_⟩
              rcases Nat.lt_succ_iff_lt_or_eq.1 hj with h | rfl
              · exact HQ.out j h
              · rw [HX.out]; intro h; simp at h; exact HD.out h.1
            case measure => simp [intOf]; omega
        · have HD : Hid (¬ m1 = al) := h1
          have d0 : (m1 == al) = false := beq_eq_false_iff_ne.2 h1
          clear h1
          go_wp2_with fail
          refine wp_region_after (by kernel_rfl) (by kernel_rfl) ?_
          intro hne hac
          repeat (go_big_quiet_step (fail))
          refine wpQuiet_nil ?_
          rintro _ ⟨p, rfl⟩
          have hbq : Hid (Below W0.heap.size W0 p.w) := HB.out.trans (p.bel.mono (by have := HB.out.size; omega))
          clear hac hne
          generalize p.w = wq at *
          go_wp2_with fail
          go_roundw
          case rel =>
            refine ⟨k + 1, by omega, by go_num, hbq.out, fun j hj => ?_⟩
            rcases Nat.lt_succ_iff_lt_or_eq.1 hj with h | rfl
            · exact HQ.out j h
            · rw [HX.out]; intro h; simp at h; exact HD.out h.1
          case measure => simp [intOf]; omega
      · have HD : Hid (¬ m0 = l) := h0
        have d0 : (m0 == l) = false := beq_eq_false_iff_ne.2 h0
        clear h0
        go_wp2_with fail
        refine wp_region_after (by kernel_rfl) (by kernel_rfl) ?_
        intro hne hac
        repeat (go_big_quiet_step (fail))
        refine wpQuiet_nil ?_
        rintro _ ⟨p, rfl⟩
        have hbq : Hid (Below W0.heap.size W0 p.w) := HB.out.trans (p.bel.mono (by have := HB.out.size; omega))
        clear hac hne
        generalize p.w = wq at *
        go_wp2_with fail
        go_roundw
        case rel =>
          refine ⟨k + 1, by omega, by go_num, hbq.out, fun j hj => ?_⟩
          rcases Nat.lt_succ_iff_lt_or_eq.1 hj with h | rfl
          · exact HQ.out j h
          · rw [HX.out]; intro h; simp at h; exact HD.out h.1
        case measure => simp [intOf]; omega
    · have hkn : m = k := by omega
      subst hkn
      have HA : Hid (atE es (l, al, an, bl, bn) 0 = -1) := atE_none es 0 (fun j hj => HQ.out j (by have := HN0.out; omega))
      go_wp2_with fail
      go_ret
      exact ⟨by rw [HA.out]; rfl, b0.trans (hbel.mono (by omega))⟩
end Go.Proofs.YtlnpbfeihjfnjaaGreatDoor.Lab
namespace Go.Proofs.YtlnpbfeihjfnjaaGreatDoor.Lab
open Go.RowKit
set_option linter.unusedVariables false
/-- How it ends, of what can be read: 0, or why not. -/
def endsI (ns : List Nd) (es : List Ed) (k nl nn l al an bl bn : Int) : Int :=
  if k = 1 then (if (nl, nn) ∈ ns then 2 else if 5 ≤ cntNode nl ns then 4 else 0)
  else if k = 2 then (if (l, al, an, bl, bn) ∈ es then 2 else if ¬ ((al, an) ∈ ns ∧ (bl, bn) ∈ ns) then 3 else if 7 ≤ cntEdge l es then 4 else 0)
  else if k = 3 then (if (l, al, an, bl, bn) ∈ es then 0 else 3)
  else if k = 4 then (if (nl, nn) ∈ ns then 0 else 3)
  else 0
theorem atN_pos {x : Nd} {ns : List Nd} (h : x ∈ ns) : 0 ≤ atN ns x 0 := by have := atN_sign (x := x) ns 0; simp [h] at this; exact this
theorem atN_neg {x : Nd} {ns : List Nd} (h : ¬ x ∈ ns) : atN ns x 0 < 0 := by have := atN_sign (x := x) ns 0; simp [h] at this; exact this
theorem atE_pos {x : Ed} {ns : List Ed} (h : x ∈ ns) : 0 ≤ atE ns x 0 := by have := atE_sign (x := x) ns 0; simp [h] at this; exact this
theorem atE_neg {x : Ed} {ns : List Ed} (h : ¬ x ∈ ns) : atE ns x 0 < 0 := by have := atE_sign (x := x) ns 0; simp [h] at this; exact this
theorem keep_below3 {w0 w1 w2 : World} (h : Below w0.heap.size w0 w1) (hb : Below w1.heap.size w1 w2) : Below w0.heap.size w0 w2 := h.trans (hb.mono h.size)
theorem keep_below2 {B : Nat} {w0 w1 w2 : World} (h : Below B w0 w1) (hb : Below w1.heap.size w1 w2) (hB : B ≤ w1.heap.size := by omega) : Below B w0 w2 := h.trans (hb.mono hB)
set_option maxRecDepth 8000 in
set_option maxHeartbeats 20000000 in
theorem l2Ends_walk (a1 a2 : Option Addr) (n m c1 c2 : Nat) (ns : List Nd) (es : List Ed) (k nl nn l al an bl bn : Int) (w : World) (h1 : RowAt 2 encNode w (.slice a1 n c1) ns) (h2 : RowAt 5 encEdge w (.slice a2 m c2) es) (hN : n = ns.length) (hM : m = es.length) (hn : n ≤ 1048576) (hm : m ≤ 1048576) :
    Calls Tryz.prog 110 #[.agg #[.slice a1 n c1, .slice a2 m c2], .agg #[.int .i64 k, .int .i64 nl, .int .i64 nn, .int .i64 l, .int .i64 al, .int .i64 an, .int .i64 bl, .int .i64 bn]] w fun e w' => e = .returned (.int .i64 (endsI ns es k nl nn l al an bl bn)) ∧ Below w.heap.size w w' := by
  have H1 : Hid (RowAt 2 encNode w (.slice a1 n c1) ns) := h1
  have H2 : Hid (RowAt 5 encEdge w (.slice a2 m c2) es) := h2
  have HN0 : Hid (n = ns.length) := hN
  have HN1 : Hid (m = es.length) := hM
  have hcn : cntNode nl ns ≤ n := by rw [hN]; exact List.countP_le_length
  have hce : cntEdge l es ≤ m := by rw [hM]; exact List.countP_le_length
  clear h1 h2 hN hM
  obtain ⟨W0, hW0⟩ : ∃ W0, W0 = (w.alloc (.cells #[.slice a1 n c1, .slice a2 m c2] 26)).alloc (.cells #[.int .i64 k, .int .i64 nl, .int .i64 nn, .int .i64 l, .int .i64 al, .int .i64 an, .int .i64 bl, .int .i64 bn] 50) := ⟨_, rfl⟩
  have b0 : Below w.heap.size w W0 := by rw [hW0]; go_grown
  have z0 : W0.heap.size = w.heap.size + 2 := by rw [hW0]; simp
  have G0 : W0.cell? ⟨w.heap.size, 0, none⟩ = some (.slice a1 n c1) := by rw [hW0]; simp [go_sem]
  have G1 : W0.cell? ⟨w.heap.size, 1, none⟩ = some (.slice a2 m c2) := by rw [hW0]; simp [go_sem]
  have F0 : W0.cell? ⟨w.heap.size + 1, 0, none⟩ = some (.int .i64 k) := by rw [hW0]; simp [go_sem]
  have F1 : W0.cell? ⟨w.heap.size + 1, 1, none⟩ = some (.int .i64 nl) := by rw [hW0]; simp [go_sem]
  have F2 : W0.cell? ⟨w.heap.size + 1, 2, none⟩ = some (.int .i64 nn) := by rw [hW0]; simp [go_sem]
  have F3 : W0.cell? ⟨w.heap.size + 1, 3, none⟩ = some (.int .i64 l) := by rw [hW0]; simp [go_sem]
  have F4 : W0.cell? ⟨w.heap.size + 1, 4, none⟩ = some (.int .i64 al) := by rw [hW0]; simp [go_sem]
  have F5 : W0.cell? ⟨w.heap.size + 1, 5, none⟩ = some (.int .i64 an) := by rw [hW0]; simp [go_sem]
  have F6 : W0.cell? ⟨w.heap.size + 1, 6, none⟩ = some (.int .i64 bl) := by rw [hW0]; simp [go_sem]
  have F7 : W0.cell? ⟨w.heap.size + 1, 7, none⟩ = some (.int .i64 bn) := by rw [hW0]; simp [go_sem]
  have HR : Hid (∀ W, Below W0.heap.size W0 W → RowAt 2 encNode W (.slice a1 n c1) ns ∧ RowAt 5 encEdge W (.slice a2 m c2) es) := fun W h => ⟨(H1.out.keep b0).keep h, (H2.out.keep b0).keep h⟩
  have HCS : Hid (∀ W, Below W0.heap.size W0 W → W.cell? ⟨w.heap.size, 0, none⟩ = some (.slice a1 n c1) ∧ W.cell? ⟨w.heap.size, 1, none⟩ = some (.slice a2 m c2) ∧ W.cell? ⟨w.heap.size + 1, 0, none⟩ = some (.int .i64 k) ∧ W.cell? ⟨w.heap.size + 1, 1, none⟩ = some (.int .i64 nl) ∧ W.cell? ⟨w.heap.size + 1, 2, none⟩ = some (.int .i64 nn) ∧ W.cell? ⟨w.heap.size + 1, 3, none⟩ = some (.int .i64 l) ∧ W.cell? ⟨w.heap.size + 1, 4, none⟩ = some (.int .i64 al) ∧ W.cell? ⟨w.heap.size + 1, 5, none⟩ = some (.int .i64 an) ∧ W.cell? ⟨w.heap.size + 1, 6, none⟩ = some (.int .i64 bl) ∧ W.cell? ⟨w.heap.size + 1, 7, none⟩ = some (.int .i64 bn) ∧ w.heap.size < W.heap.size ∧ w.heap.size + 1 < W.heap.size) := fun W h => ⟨(Below.celz h _ _ _ (by omega)).trans G0, (Below.celz h _ _ _ (by omega)).trans G1, (Below.celz h _ _ _ (by omega)).trans F0, (Below.celz h _ _ _ (by omega)).trans F1, (Below.celz h _ _ _ (by omega)).trans F2, (Below.celz h _ _ _ (by omega)).trans F3, (Below.celz h _ _ _ (by omega)).trans F4, (Below.celz h _ _ _ (by omega)).trans F5, (Below.celz h _ _ _ (by omega)).trans F6, (Below.celz h _ _ _ (by omega)).trans F7, by have := h.size; omega, by have := h.size; omega⟩
  have HB0 : Hid (Below w.heap.size w W0) := b0
  have HW0 : Hid (W0 = (w.alloc (.cells #[.slice a1 n c1, .slice a2 m c2] 26)).alloc (.cells #[.int .i64 k, .int .i64 nl, .int .i64 nn, .int .i64 l, .int .i64 al, .int .i64 an, .int .i64 bl, .int .i64 bn] 50)) := hW0
  have hz : w.heap.size ≤ W0.heap.size := by omega
  clear b0 hW0 z0 G0 G1 F0 F1 F2 F3 F4 F5 F6 F7
  go_enter Tryz.func110, Tryz.ntmps110
  go_wp2_with fail
  rw [← HW0.out]
  clear HW0
  refine (l2At a1 a2 n m c1 c2 ns nl nn _ (HR.out _ (Below.refl _ _)).1 HN0.out hn).mono ?_
  rintro e w1 ⟨rfl, bb⟩
  have HBw1 : Hid (Below W0.heap.size W0 w1) := bb
  obtain ⟨g0, g1, p0, p1, p2, p3, p4, p5, p6, p7, y0, y1⟩ := HCS.out _ HBw1.out
  clear bb
  go_wp2_with fail
  refine (l2EdgeAt a1 a2 n m c1 c2 es l al an bl bn _ (HR.out _ HBw1.out).2 HN1.out hm).mono ?_
  rintro e w2 ⟨rfl, bb⟩
  have HBw2 : Hid (Below W0.heap.size W0 w2) := keep_below3 HBw1.out bb
  clear g0 g1 p0 p1 p2 p3 p4 p5 p6 p7 y0 y1
  obtain ⟨g0, g1, p0, p1, p2, p3, p4, p5, p6, p7, y0, y1⟩ := HCS.out _ HBw2.out
  clear bb
  go_wp2_with fail
  refine (l2At a1 a2 n m c1 c2 ns al an _ (HR.out _ HBw2.out).1 HN0.out hn).mono ?_
  rintro e w3 ⟨rfl, bb⟩
  have HBw3 : Hid (Below W0.heap.size W0 w3) := keep_below3 HBw2.out bb
  clear g0 g1 p0 p1 p2 p3 p4 p5 p6 p7 y0 y1
  obtain ⟨g0, g1, p0, p1, p2, p3, p4, p5, p6, p7, y0, y1⟩ := HCS.out _ HBw3.out
  clear bb
  by_cases hA : (al, an) ∈ ns
  · have s3 := atN_pos hA
    go_wp2_with fail
    refine (l2At a1 a2 n m c1 c2 ns bl bn _ (HR.out _ HBw3.out).1 HN0.out hn).mono ?_
    rintro e w4 ⟨rfl, bb⟩
    have HBw4 : Hid (Below W0.heap.size W0 w4) := keep_below3 HBw3.out bb
    clear g0 g1 p0 p1 p2 p3 p4 p5 p6 p7 y0 y1
    obtain ⟨g0, g1, p0, p1, p2, p3, p4, p5, p6, p7, y0, y1⟩ := HCS.out _ HBw4.out
    clear bb
    by_cases hB : (bl, bn) ∈ ns
    · have s4 := atN_pos hB
      generalize atN ns (bl, bn) 0 = q4 at *
      have s5 : decide (0 ≤ q4) = true := by simpa using s4
      by_cases hk1 : k = 1
      · have HK : Hid (k = 1) := hk1
        by_cases hN : (nl, nn) ∈ ns
        · have s1 := atN_pos hN
          have HE : Hid (endsI ns es k nl nn l al an bl bn = 2) := by show endsI ns es k nl nn l al an bl bn = 2; simp [endsI, HK.out, hN]
          have hK := HK.out
          subst hK
          generalize atN ns (nl, nn) 0 = q1 at *
          generalize atE es (l, al, an, bl, bn) 0 = q2 at *
          generalize atN ns (al, an) 0 = q3 at *
          clear hN
          go_wp2_with fail
          go_ret
          exact ⟨by rw [HE.out]; rfl, HB0.out.trans (HBw4.out.mono hz)⟩
        · have s1 := atN_neg hN
          by_cases h5 : 5 ≤ cntNode nl ns
          · skip
            have HE : Hid (endsI ns es k nl nn l al an bl bn = 4) := by show endsI ns es k nl nn l al an bl bn = 4; simp [endsI, HK.out, hN, h5]
            have hK := HK.out
            subst hK
            generalize atN ns (nl, nn) 0 = q1 at *
            generalize atE es (l, al, an, bl, bn) 0 = q2 at *
            generalize atN ns (al, an) 0 = q3 at *
            clear hN
            go_wp2_with fail
            refine (l2Nodes a1 a2 n m c1 c2 ns nl _ (HR.out _ HBw4.out).1 HN0.out hn).mono ?_
            rintro e w9 ⟨rfl, b9⟩
            have HBw9 : Hid (Below W0.heap.size W0 w9) := keep_below3 HBw4.out b9
            clear b9 g0 g1 p0 p1 p2 p3 p4 p5 p6 p7 y0 y1
            obtain ⟨g0, g1, p0, p1, p2, p3, p4, p5, p6, p7, y0, y1⟩ := HCS.out _ HBw9.out
            generalize cntNode nl ns = qc at *
            go_wp2_with fail
            go_ret
            exact ⟨by rw [HE.out]; rfl, HB0.out.trans (HBw9.out.mono hz)⟩
          · skip
            have HE : Hid (endsI ns es k nl nn l al an bl bn = 0) := by show endsI ns es k nl nn l al an bl bn = 0; simp [endsI, HK.out, hN, h5]
            have hK := HK.out
            subst hK
            generalize atN ns (nl, nn) 0 = q1 at *
            generalize atE es (l, al, an, bl, bn) 0 = q2 at *
            generalize atN ns (al, an) 0 = q3 at *
            clear hN
            go_wp2_with fail
            refine (l2Nodes a1 a2 n m c1 c2 ns nl _ (HR.out _ HBw4.out).1 HN0.out hn).mono ?_
            rintro e w9 ⟨rfl, b9⟩
            have HBw9 : Hid (Below W0.heap.size W0 w9) := keep_below3 HBw4.out b9
            clear b9 g0 g1 p0 p1 p2 p3 p4 p5 p6 p7 y0 y1
            obtain ⟨g0, g1, p0, p1, p2, p3, p4, p5, p6, p7, y0, y1⟩ := HCS.out _ HBw9.out
            generalize cntNode nl ns = qc at *
            go_wp2_with fail
            go_ret
            exact ⟨by rw [HE.out]; rfl, HB0.out.trans (HBw9.out.mono hz)⟩
      · by_cases hk2 : k = 2
        · have HK : Hid (k = 2) := hk2
          by_cases hE : (l, al, an, bl, bn) ∈ es
          · have s2 := atE_pos hE
            have HE : Hid (endsI ns es k nl nn l al an bl bn = 2) := by show endsI ns es k nl nn l al an bl bn = 2; simp [endsI, HK.out, hE]
            have hK := HK.out
            subst hK
            generalize atN ns (nl, nn) 0 = q1 at *
            generalize atE es (l, al, an, bl, bn) 0 = q2 at *
            generalize atN ns (al, an) 0 = q3 at *
            clear hE hk1
            go_wp2_with fail
            go_ret
            exact ⟨by rw [HE.out]; rfl, HB0.out.trans (HBw4.out.mono hz)⟩
          · have s2 := atE_neg hE
            by_cases h7 : 7 ≤ cntEdge l es
            · skip
              have HE : Hid (endsI ns es k nl nn l al an bl bn = 4) := by show endsI ns es k nl nn l al an bl bn = 4; simp [endsI, HK.out, hE, hA, hB, h7]
              have hK := HK.out
              subst hK
              generalize atN ns (nl, nn) 0 = q1 at *
              generalize atE es (l, al, an, bl, bn) 0 = q2 at *
              generalize atN ns (al, an) 0 = q3 at *
              clear hE hk1
              go_wp2_with fail
              refine (l2Edges a1 a2 n m c1 c2 es l _ (HR.out _ HBw4.out).2 HN1.out hm).mono ?_
              rintro e w9 ⟨rfl, b9⟩
              have HBw9 : Hid (Below W0.heap.size W0 w9) := keep_below3 HBw4.out b9
              clear b9 g0 g1 p0 p1 p2 p3 p4 p5 p6 p7 y0 y1
              obtain ⟨g0, g1, p0, p1, p2, p3, p4, p5, p6, p7, y0, y1⟩ := HCS.out _ HBw9.out
              generalize cntEdge l es = qc at *
              go_wp2_with fail
              go_ret
              exact ⟨by rw [HE.out]; rfl, HB0.out.trans (HBw9.out.mono hz)⟩
            · skip
              have HE : Hid (endsI ns es k nl nn l al an bl bn = 0) := by show endsI ns es k nl nn l al an bl bn = 0; simp [endsI, HK.out, hE, hA, hB, h7]
              have hK := HK.out
              subst hK
              generalize atN ns (nl, nn) 0 = q1 at *
              generalize atE es (l, al, an, bl, bn) 0 = q2 at *
              generalize atN ns (al, an) 0 = q3 at *
              clear hE hk1
              go_wp2_with fail
              refine (l2Edges a1 a2 n m c1 c2 es l _ (HR.out _ HBw4.out).2 HN1.out hm).mono ?_
              rintro e w9 ⟨rfl, b9⟩
              have HBw9 : Hid (Below W0.heap.size W0 w9) := keep_below3 HBw4.out b9
              clear b9 g0 g1 p0 p1 p2 p3 p4 p5 p6 p7 y0 y1
              obtain ⟨g0, g1, p0, p1, p2, p3, p4, p5, p6, p7, y0, y1⟩ := HCS.out _ HBw9.out
              generalize cntEdge l es = qc at *
              go_wp2_with fail
              go_ret
              exact ⟨by rw [HE.out]; rfl, HB0.out.trans (HBw9.out.mono hz)⟩
        · by_cases hk3 : k = 3
          · have HK : Hid (k = 3) := hk3
            by_cases hE : (l, al, an, bl, bn) ∈ es
            · have s2 := atE_pos hE
              have HE : Hid (endsI ns es k nl nn l al an bl bn = 0) := by show endsI ns es k nl nn l al an bl bn = 0; simp [endsI, HK.out, hE]
              have hK := HK.out
              subst hK
              generalize atN ns (nl, nn) 0 = q1 at *
              generalize atE es (l, al, an, bl, bn) 0 = q2 at *
              generalize atN ns (al, an) 0 = q3 at *
              clear hE hk1 hk2
              go_wp2_with fail
              go_ret
              exact ⟨by rw [HE.out]; rfl, HB0.out.trans (HBw4.out.mono hz)⟩
            · have s2 := atE_neg hE
              have HE : Hid (endsI ns es k nl nn l al an bl bn = 3) := by show endsI ns es k nl nn l al an bl bn = 3; simp [endsI, HK.out, hE]
              have hK := HK.out
              subst hK
              generalize atN ns (nl, nn) 0 = q1 at *
              generalize atE es (l, al, an, bl, bn) 0 = q2 at *
              generalize atN ns (al, an) 0 = q3 at *
              clear hE hk1 hk2
              go_wp2_with fail
              go_ret
              exact ⟨by rw [HE.out]; rfl, HB0.out.trans (HBw4.out.mono hz)⟩
          · by_cases hk4 : k = 4
            · have HK : Hid (k = 4) := hk4
              by_cases hN : (nl, nn) ∈ ns
              · have s1 := atN_pos hN
                have HE : Hid (endsI ns es k nl nn l al an bl bn = 0) := by show endsI ns es k nl nn l al an bl bn = 0; simp [endsI, HK.out, hN]
                have hK := HK.out
                subst hK
                generalize atN ns (nl, nn) 0 = q1 at *
                generalize atE es (l, al, an, bl, bn) 0 = q2 at *
                generalize atN ns (al, an) 0 = q3 at *
                clear hN hk1 hk2 hk3
                go_wp2_with fail
                go_ret
                exact ⟨by rw [HE.out]; rfl, HB0.out.trans (HBw4.out.mono hz)⟩
              · have s1 := atN_neg hN
                have HE : Hid (endsI ns es k nl nn l al an bl bn = 3) := by show endsI ns es k nl nn l al an bl bn = 3; simp [endsI, HK.out, hN]
                have hK := HK.out
                subst hK
                generalize atN ns (nl, nn) 0 = q1 at *
                generalize atE es (l, al, an, bl, bn) 0 = q2 at *
                generalize atN ns (al, an) 0 = q3 at *
                clear hN hk1 hk2 hk3
                go_wp2_with fail
                go_ret
                exact ⟨by rw [HE.out]; rfl, HB0.out.trans (HBw4.out.mono hz)⟩
            · skip
              have HE : Hid (endsI ns es k nl nn l al an bl bn = 0) := by show endsI ns es k nl nn l al an bl bn = 0; simp [endsI, hk1, hk2, hk3, hk4]
              have d1 : (k == 1) = false := beq_eq_false_iff_ne.2 hk1
              have d2 : (k == 2) = false := beq_eq_false_iff_ne.2 hk2
              have d3 : (k == 3) = false := beq_eq_false_iff_ne.2 hk3
              have d4 : (k == 4) = false := beq_eq_false_iff_ne.2 hk4
              clear hk1 hk2 hk3 hk4
              generalize atN ns (nl, nn) 0 = q1 at *
              generalize atE es (l, al, an, bl, bn) 0 = q2 at *
              generalize atN ns (al, an) 0 = q3 at *
              go_wp2_with fail
              go_ret
              exact ⟨by rw [HE.out]; rfl, HB0.out.trans (HBw4.out.mono hz)⟩
    · have s4 := atN_neg hB
      generalize atN ns (bl, bn) 0 = q4 at *
      have s5 : decide (0 ≤ q4) = false := by simpa using s4
      by_cases hk1 : k = 1
      · have HK : Hid (k = 1) := hk1
        by_cases hN : (nl, nn) ∈ ns
        · have s1 := atN_pos hN
          have HE : Hid (endsI ns es k nl nn l al an bl bn = 2) := by show endsI ns es k nl nn l al an bl bn = 2; simp [endsI, HK.out, hN]
          have hK := HK.out
          subst hK
          generalize atN ns (nl, nn) 0 = q1 at *
          generalize atE es (l, al, an, bl, bn) 0 = q2 at *
          generalize atN ns (al, an) 0 = q3 at *
          clear hN
          go_wp2_with fail
          go_ret
          exact ⟨by rw [HE.out]; rfl, HB0.out.trans (HBw4.out.mono hz)⟩
        · have s1 := atN_neg hN
          by_cases h5 : 5 ≤ cntNode nl ns
          · skip
            have HE : Hid (endsI ns es k nl nn l al an bl bn = 4) := by show endsI ns es k nl nn l al an bl bn = 4; simp [endsI, HK.out, hN, h5]
            have hK := HK.out
            subst hK
            generalize atN ns (nl, nn) 0 = q1 at *
            generalize atE es (l, al, an, bl, bn) 0 = q2 at *
            generalize atN ns (al, an) 0 = q3 at *
            clear hN
            go_wp2_with fail
            refine (l2Nodes a1 a2 n m c1 c2 ns nl _ (HR.out _ HBw4.out).1 HN0.out hn).mono ?_
            rintro e w9 ⟨rfl, b9⟩
            have HBw9 : Hid (Below W0.heap.size W0 w9) := keep_below3 HBw4.out b9
            clear b9 g0 g1 p0 p1 p2 p3 p4 p5 p6 p7 y0 y1
            obtain ⟨g0, g1, p0, p1, p2, p3, p4, p5, p6, p7, y0, y1⟩ := HCS.out _ HBw9.out
            generalize cntNode nl ns = qc at *
            go_wp2_with fail
            go_ret
            exact ⟨by rw [HE.out]; rfl, HB0.out.trans (HBw9.out.mono hz)⟩
          · skip
            have HE : Hid (endsI ns es k nl nn l al an bl bn = 0) := by show endsI ns es k nl nn l al an bl bn = 0; simp [endsI, HK.out, hN, h5]
            have hK := HK.out
            subst hK
            generalize atN ns (nl, nn) 0 = q1 at *
            generalize atE es (l, al, an, bl, bn) 0 = q2 at *
            generalize atN ns (al, an) 0 = q3 at *
            clear hN
            go_wp2_with fail
            refine (l2Nodes a1 a2 n m c1 c2 ns nl _ (HR.out _ HBw4.out).1 HN0.out hn).mono ?_
            rintro e w9 ⟨rfl, b9⟩
            have HBw9 : Hid (Below W0.heap.size W0 w9) := keep_below3 HBw4.out b9
            clear b9 g0 g1 p0 p1 p2 p3 p4 p5 p6 p7 y0 y1
            obtain ⟨g0, g1, p0, p1, p2, p3, p4, p5, p6, p7, y0, y1⟩ := HCS.out _ HBw9.out
            generalize cntNode nl ns = qc at *
            go_wp2_with fail
            go_ret
            exact ⟨by rw [HE.out]; rfl, HB0.out.trans (HBw9.out.mono hz)⟩
      · by_cases hk2 : k = 2
        · have HK : Hid (k = 2) := hk2
          by_cases hE : (l, al, an, bl, bn) ∈ es
          · have s2 := atE_pos hE
            have HE : Hid (endsI ns es k nl nn l al an bl bn = 2) := by show endsI ns es k nl nn l al an bl bn = 2; simp [endsI, HK.out, hE]
            have hK := HK.out
            subst hK
            generalize atN ns (nl, nn) 0 = q1 at *
            generalize atE es (l, al, an, bl, bn) 0 = q2 at *
            generalize atN ns (al, an) 0 = q3 at *
            clear hE hk1
            go_wp2_with fail
            go_ret
            exact ⟨by rw [HE.out]; rfl, HB0.out.trans (HBw4.out.mono hz)⟩
          · have s2 := atE_neg hE
            have HE : Hid (endsI ns es k nl nn l al an bl bn = 3) := by show endsI ns es k nl nn l al an bl bn = 3; simp [endsI, HK.out, hE, hB]
            have hK := HK.out
            subst hK
            generalize atN ns (nl, nn) 0 = q1 at *
            generalize atE es (l, al, an, bl, bn) 0 = q2 at *
            generalize atN ns (al, an) 0 = q3 at *
            clear hE hk1
            go_wp2_with fail
            go_ret
            exact ⟨by rw [HE.out]; rfl, HB0.out.trans (HBw4.out.mono hz)⟩
        · by_cases hk3 : k = 3
          · have HK : Hid (k = 3) := hk3
            by_cases hE : (l, al, an, bl, bn) ∈ es
            · have s2 := atE_pos hE
              have HE : Hid (endsI ns es k nl nn l al an bl bn = 0) := by show endsI ns es k nl nn l al an bl bn = 0; simp [endsI, HK.out, hE]
              have hK := HK.out
              subst hK
              generalize atN ns (nl, nn) 0 = q1 at *
              generalize atE es (l, al, an, bl, bn) 0 = q2 at *
              generalize atN ns (al, an) 0 = q3 at *
              clear hE hk1 hk2
              go_wp2_with fail
              go_ret
              exact ⟨by rw [HE.out]; rfl, HB0.out.trans (HBw4.out.mono hz)⟩
            · have s2 := atE_neg hE
              have HE : Hid (endsI ns es k nl nn l al an bl bn = 3) := by show endsI ns es k nl nn l al an bl bn = 3; simp [endsI, HK.out, hE]
              have hK := HK.out
              subst hK
              generalize atN ns (nl, nn) 0 = q1 at *
              generalize atE es (l, al, an, bl, bn) 0 = q2 at *
              generalize atN ns (al, an) 0 = q3 at *
              clear hE hk1 hk2
              go_wp2_with fail
              go_ret
              exact ⟨by rw [HE.out]; rfl, HB0.out.trans (HBw4.out.mono hz)⟩
          · by_cases hk4 : k = 4
            · have HK : Hid (k = 4) := hk4
              by_cases hN : (nl, nn) ∈ ns
              · have s1 := atN_pos hN
                have HE : Hid (endsI ns es k nl nn l al an bl bn = 0) := by show endsI ns es k nl nn l al an bl bn = 0; simp [endsI, HK.out, hN]
                have hK := HK.out
                subst hK
                generalize atN ns (nl, nn) 0 = q1 at *
                generalize atE es (l, al, an, bl, bn) 0 = q2 at *
                generalize atN ns (al, an) 0 = q3 at *
                clear hN hk1 hk2 hk3
                go_wp2_with fail
                go_ret
                exact ⟨by rw [HE.out]; rfl, HB0.out.trans (HBw4.out.mono hz)⟩
              · have s1 := atN_neg hN
                have HE : Hid (endsI ns es k nl nn l al an bl bn = 3) := by show endsI ns es k nl nn l al an bl bn = 3; simp [endsI, HK.out, hN]
                have hK := HK.out
                subst hK
                generalize atN ns (nl, nn) 0 = q1 at *
                generalize atE es (l, al, an, bl, bn) 0 = q2 at *
                generalize atN ns (al, an) 0 = q3 at *
                clear hN hk1 hk2 hk3
                go_wp2_with fail
                go_ret
                exact ⟨by rw [HE.out]; rfl, HB0.out.trans (HBw4.out.mono hz)⟩
            · skip
              have HE : Hid (endsI ns es k nl nn l al an bl bn = 0) := by show endsI ns es k nl nn l al an bl bn = 0; simp [endsI, hk1, hk2, hk3, hk4]
              have d1 : (k == 1) = false := beq_eq_false_iff_ne.2 hk1
              have d2 : (k == 2) = false := beq_eq_false_iff_ne.2 hk2
              have d3 : (k == 3) = false := beq_eq_false_iff_ne.2 hk3
              have d4 : (k == 4) = false := beq_eq_false_iff_ne.2 hk4
              clear hk1 hk2 hk3 hk4
              generalize atN ns (nl, nn) 0 = q1 at *
              generalize atE es (l, al, an, bl, bn) 0 = q2 at *
              generalize atN ns (al, an) 0 = q3 at *
              go_wp2_with fail
              go_ret
              exact ⟨by rw [HE.out]; rfl, HB0.out.trans (HBw4.out.mono hz)⟩
  · have s3 := atN_neg hA
    by_cases hk1 : k = 1
    · have HK : Hid (k = 1) := hk1
      by_cases hN : (nl, nn) ∈ ns
      · have s1 := atN_pos hN
        have HE : Hid (endsI ns es k nl nn l al an bl bn = 2) := by show endsI ns es k nl nn l al an bl bn = 2; simp [endsI, HK.out, hN]
        have hK := HK.out
        subst hK
        generalize atN ns (nl, nn) 0 = q1 at *
        generalize atE es (l, al, an, bl, bn) 0 = q2 at *
        generalize atN ns (al, an) 0 = q3 at *
        clear hN
        go_wp2_with fail
        go_ret
        exact ⟨by rw [HE.out]; rfl, HB0.out.trans (HBw3.out.mono hz)⟩
      · have s1 := atN_neg hN
        by_cases h5 : 5 ≤ cntNode nl ns
        · skip
          have HE : Hid (endsI ns es k nl nn l al an bl bn = 4) := by show endsI ns es k nl nn l al an bl bn = 4; simp [endsI, HK.out, hN, h5]
          have hK := HK.out
          subst hK
          generalize atN ns (nl, nn) 0 = q1 at *
          generalize atE es (l, al, an, bl, bn) 0 = q2 at *
          generalize atN ns (al, an) 0 = q3 at *
          clear hN
          go_wp2_with fail
          refine (l2Nodes a1 a2 n m c1 c2 ns nl _ (HR.out _ HBw3.out).1 HN0.out hn).mono ?_
          rintro e w9 ⟨rfl, b9⟩
          have HBw9 : Hid (Below W0.heap.size W0 w9) := keep_below3 HBw3.out b9
          clear b9 g0 g1 p0 p1 p2 p3 p4 p5 p6 p7 y0 y1
          obtain ⟨g0, g1, p0, p1, p2, p3, p4, p5, p6, p7, y0, y1⟩ := HCS.out _ HBw9.out
          generalize cntNode nl ns = qc at *
          go_wp2_with fail
          go_ret
          exact ⟨by rw [HE.out]; rfl, HB0.out.trans (HBw9.out.mono hz)⟩
        · skip
          have HE : Hid (endsI ns es k nl nn l al an bl bn = 0) := by show endsI ns es k nl nn l al an bl bn = 0; simp [endsI, HK.out, hN, h5]
          have hK := HK.out
          subst hK
          generalize atN ns (nl, nn) 0 = q1 at *
          generalize atE es (l, al, an, bl, bn) 0 = q2 at *
          generalize atN ns (al, an) 0 = q3 at *
          clear hN
          go_wp2_with fail
          refine (l2Nodes a1 a2 n m c1 c2 ns nl _ (HR.out _ HBw3.out).1 HN0.out hn).mono ?_
          rintro e w9 ⟨rfl, b9⟩
          have HBw9 : Hid (Below W0.heap.size W0 w9) := keep_below3 HBw3.out b9
          clear b9 g0 g1 p0 p1 p2 p3 p4 p5 p6 p7 y0 y1
          obtain ⟨g0, g1, p0, p1, p2, p3, p4, p5, p6, p7, y0, y1⟩ := HCS.out _ HBw9.out
          generalize cntNode nl ns = qc at *
          go_wp2_with fail
          go_ret
          exact ⟨by rw [HE.out]; rfl, HB0.out.trans (HBw9.out.mono hz)⟩
    · by_cases hk2 : k = 2
      · have HK : Hid (k = 2) := hk2
        by_cases hE : (l, al, an, bl, bn) ∈ es
        · have s2 := atE_pos hE
          have HE : Hid (endsI ns es k nl nn l al an bl bn = 2) := by show endsI ns es k nl nn l al an bl bn = 2; simp [endsI, HK.out, hE]
          have hK := HK.out
          subst hK
          generalize atN ns (nl, nn) 0 = q1 at *
          generalize atE es (l, al, an, bl, bn) 0 = q2 at *
          generalize atN ns (al, an) 0 = q3 at *
          clear hE hk1
          go_wp2_with fail
          go_ret
          exact ⟨by rw [HE.out]; rfl, HB0.out.trans (HBw3.out.mono hz)⟩
        · have s2 := atE_neg hE
          have HE : Hid (endsI ns es k nl nn l al an bl bn = 3) := by show endsI ns es k nl nn l al an bl bn = 3; simp [endsI, HK.out, hE, hA]
          have hK := HK.out
          subst hK
          generalize atN ns (nl, nn) 0 = q1 at *
          generalize atE es (l, al, an, bl, bn) 0 = q2 at *
          generalize atN ns (al, an) 0 = q3 at *
          clear hE hk1
          go_wp2_with fail
          go_ret
          exact ⟨by rw [HE.out]; rfl, HB0.out.trans (HBw3.out.mono hz)⟩
      · by_cases hk3 : k = 3
        · have HK : Hid (k = 3) := hk3
          by_cases hE : (l, al, an, bl, bn) ∈ es
          · have s2 := atE_pos hE
            have HE : Hid (endsI ns es k nl nn l al an bl bn = 0) := by show endsI ns es k nl nn l al an bl bn = 0; simp [endsI, HK.out, hE]
            have hK := HK.out
            subst hK
            generalize atN ns (nl, nn) 0 = q1 at *
            generalize atE es (l, al, an, bl, bn) 0 = q2 at *
            generalize atN ns (al, an) 0 = q3 at *
            clear hE hk1 hk2
            go_wp2_with fail
            go_ret
            exact ⟨by rw [HE.out]; rfl, HB0.out.trans (HBw3.out.mono hz)⟩
          · have s2 := atE_neg hE
            have HE : Hid (endsI ns es k nl nn l al an bl bn = 3) := by show endsI ns es k nl nn l al an bl bn = 3; simp [endsI, HK.out, hE]
            have hK := HK.out
            subst hK
            generalize atN ns (nl, nn) 0 = q1 at *
            generalize atE es (l, al, an, bl, bn) 0 = q2 at *
            generalize atN ns (al, an) 0 = q3 at *
            clear hE hk1 hk2
            go_wp2_with fail
            go_ret
            exact ⟨by rw [HE.out]; rfl, HB0.out.trans (HBw3.out.mono hz)⟩
        · by_cases hk4 : k = 4
          · have HK : Hid (k = 4) := hk4
            by_cases hN : (nl, nn) ∈ ns
            · have s1 := atN_pos hN
              have HE : Hid (endsI ns es k nl nn l al an bl bn = 0) := by show endsI ns es k nl nn l al an bl bn = 0; simp [endsI, HK.out, hN]
              have hK := HK.out
              subst hK
              generalize atN ns (nl, nn) 0 = q1 at *
              generalize atE es (l, al, an, bl, bn) 0 = q2 at *
              generalize atN ns (al, an) 0 = q3 at *
              clear hN hk1 hk2 hk3
              go_wp2_with fail
              go_ret
              exact ⟨by rw [HE.out]; rfl, HB0.out.trans (HBw3.out.mono hz)⟩
            · have s1 := atN_neg hN
              have HE : Hid (endsI ns es k nl nn l al an bl bn = 3) := by show endsI ns es k nl nn l al an bl bn = 3; simp [endsI, HK.out, hN]
              have hK := HK.out
              subst hK
              generalize atN ns (nl, nn) 0 = q1 at *
              generalize atE es (l, al, an, bl, bn) 0 = q2 at *
              generalize atN ns (al, an) 0 = q3 at *
              clear hN hk1 hk2 hk3
              go_wp2_with fail
              go_ret
              exact ⟨by rw [HE.out]; rfl, HB0.out.trans (HBw3.out.mono hz)⟩
          · skip
            have HE : Hid (endsI ns es k nl nn l al an bl bn = 0) := by show endsI ns es k nl nn l al an bl bn = 0; simp [endsI, hk1, hk2, hk3, hk4]
            have d1 : (k == 1) = false := beq_eq_false_iff_ne.2 hk1
            have d2 : (k == 2) = false := beq_eq_false_iff_ne.2 hk2
            have d3 : (k == 3) = false := beq_eq_false_iff_ne.2 hk3
            have d4 : (k == 4) = false := beq_eq_false_iff_ne.2 hk4
            clear hk1 hk2 hk3 hk4
            generalize atN ns (nl, nn) 0 = q1 at *
            generalize atE es (l, al, an, bl, bn) 0 = q2 at *
            generalize atN ns (al, an) 0 = q3 at *
            go_wp2_with fail
            go_ret
            exact ⟨by rw [HE.out]; rfl, HB0.out.trans (HBw3.out.mono hz)⟩
theorem l2Ends (v1 v2 : Value) (ns : List Nd) (es : List Ed) (k nl nn l al an bl bn : Int) (w : World) (h1 : RowAt 2 encNode w v1 ns) (h2 : RowAt 5 encEdge w v2 es) (l1 : ns.length ≤ 1048576) (l2 : es.length ≤ 1048576) :
    Calls Tryz.prog 110 #[.agg #[v1, v2], .agg #[.int .i64 k, .int .i64 nl, .int .i64 nn, .int .i64 l, .int .i64 al, .int .i64 an, .int .i64 bl, .int .i64 bn]] w fun e w' => e = .returned (.int .i64 (endsI ns es k nl nn l al an bl bn)) ∧ Below w.heap.size w w' := by
  obtain ⟨a1, c1, rfl⟩ := h1.len
  obtain ⟨a2, c2, rfl⟩ := h2.len
  exact l2Ends_walk a1 a2 _ _ c1 c2 ns es k nl nn l al an bl bn w h1 h2 rfl rfl l1 l2
end Go.Proofs.YtlnpbfeihjfnjaaGreatDoor.Lab

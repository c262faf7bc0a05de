/-
  Worlds by value: the laws' own functions on them, and WorldSame of both. (Written by tools/mkwld.py.)
-/
import Derived.Test.YtnhacflknkgfgaaPer
import Derived.Test.YtnhacflknkgfgaaGra
import Derived.Test.YtnhacflknkgfgaaPls
import Derived.Test.YtnhacflknkgfgaaIss
namespace Go.Proofs.Ytnhacflknkgfgaa.Lab
open Go.RowKit
set_option linter.unusedVariables false
set_option maxHeartbeats 4000000 in
theorem equalPersonS_some (b1 o1 c1 b2 o2 c2 : Nat) (xs ys : List (Int × Int × Int)) (w : World) (hlen : xs.length = ys.length) (hl : xs.length ≤ 1048576) (hb1 : b1 < w.heap.size) (hb2 : b2 < w.heap.size)
    (h1 : ∀ j x, xs[j]? = some x → ∀ i u, (encPerson x)[i]? = some u → w.cell? ⟨b1, o1 + j * 3 + i, none⟩ = some u) (h2 : ∀ j x, ys[j]? = some x → ∀ i u, (encPerson x)[i]? = some u → w.cell? ⟨b2, o2 + j * 3 + i, none⟩ = some u) :
    Calls Try.prog 51 #[.slice (some ⟨b1, o1, none⟩) xs.length c1, .slice (some ⟨b2, o2, none⟩) xs.length c2] w fun e w' => e = .returned (.bool (eqB xs ys)) ∧ Below w.heap.size w w' := by
  have H1 : Hid (∀ j x, xs[j]? = some x → ∀ i u, (encPerson x)[i]? = some u → w.cell? ⟨b1, o1 + j * 3 + i, none⟩ = some u) := h1
  have H2 : Hid (∀ j x, ys[j]? = some x → ∀ i u, (encPerson x)[i]? = some u → w.cell? ⟨b2, o2 + j * 3 + i, none⟩ = some u) := h2
  clear h1 h2
  obtain ⟨n, hn⟩ : ∃ n, n = xs.length := ⟨_, rfl⟩
  have HN : Hid (n = xs.length ∧ n = ys.length) := ⟨hn, by omega⟩
  rw [← hn] at hl ⊢
  clear hn hlen
  go_enter Try.func51, Try.ntmps51
  go_wp2_with fail
  go_loopw [13] (fun i wr => ∃ k : Nat, k ≤ n ∧ i = .int .i64 k ∧ Below w.heap.size w wr ∧ ∀ j, j < k → xs[j]? = ys[j]?) (fun i _ => n - (intOf i).toNat)
  case atStart => exact ⟨0, by omega, rfl, Below.refl _ _, fun j hj => by omega⟩
  case round =>
    obtain ⟨k, hk, rfl, hbel, hq⟩ := hrel
    have HQ : Hid (∀ j, j < k → xs[j]? = ys[j]?) := hq
    clear hq
    by_cases hlt : k < n
    · obtain ⟨⟨m0, m1, m2⟩, hx⟩ : ∃ x, xs[k]? = some x := ⟨_, List.getElem?_eq_getElem (by rw [← HN.out.1]; exact hlt)⟩
      obtain ⟨⟨p0, p1, p2⟩, hy⟩ : ∃ x, ys[k]? = some x := ⟨_, List.getElem?_eq_getElem (by rw [← HN.out.2]; exact hlt)⟩
      have e0 : wr.cell? ⟨b1, o1 + k * 3, none⟩ = some (.int .i64 m0) := by rw [hbel.cell (p := ⟨b1, _, none⟩) hb1]; exact H1.out k _ hx 0 _ rfl
      have e1 : wr.cell? ⟨b1, o1 + k * 3 + 1, none⟩ = some (.int .i64 m1) := by rw [hbel.cell (p := ⟨b1, _, none⟩) hb1]; exact H1.out k _ hx 1 _ rfl
      have e2 : wr.cell? ⟨b1, o1 + k * 3 + 2, none⟩ = some (.int .i64 m2) := by rw [hbel.cell (p := ⟨b1, _, none⟩) hb1]; exact H1.out k _ hx 2 _ rfl
      have f0 : wr.cell? ⟨b2, o2 + k * 3, none⟩ = some (.int .i64 p0) := by rw [hbel.cell (p := ⟨b2, _, none⟩) hb2]; exact H2.out k _ hy 0 _ rfl
      have f1 : wr.cell? ⟨b2, o2 + k * 3 + 1, none⟩ = some (.int .i64 p1) := by rw [hbel.cell (p := ⟨b2, _, none⟩) hb2]; exact H2.out k _ hy 1 _ rfl
      have f2 : wr.cell? ⟨b2, o2 + k * 3 + 2, none⟩ = some (.int .i64 p2) := by rw [hbel.cell (p := ⟨b2, _, none⟩) hb2]; exact H2.out k _ hy 2 _ rfl
      have HX : Hid (xs[k]? = some (m0, m1, m2) ∧ ys[k]? = some (p0, p1, p2)) := ⟨hx, hy⟩
      have hq1 : b1 < wr.heap.size := Nat.lt_of_lt_of_le hb1 hbel.size
      have hq2 : b2 < wr.heap.size := Nat.lt_of_lt_of_le hb2 hbel.size
      have k0 : (0 : Int) ≤ (k : Int) := by omega
      have k1 : (k : Int) < (n : Int) := by omega
      have HB : Hid (Below w.heap.size w wr) := hbel
      clear hx hy hbel
      by_cases h0 : m0 = p0
      · subst h0
        by_cases h1 : m1 = p1
        · subst h1
          by_cases h2 : m2 = p2
          · subst h2
            go_wp2_with fail
            refine wp_region_after (by kernel_rfl) (by kernel_rfl) ?_
            intro hne hac
            repeat (go_big_quiet_step (fail))
            refine wpQuiet_nil ?_
            rintro _ ⟨p, rfl⟩
            have hbq : Hid (Below w.heap.size w p.w) := HB.out.trans (p.bel.mono HB.out.size)
            clear hac hne
            generalize p.w = wq at *
            go_wp2_with fail
            go_roundw
            case rel =>
              refine ⟨k + 1, by omega, by go_num, hbq.out, fun j hj => ?_⟩
              rcases Nat.lt_succ_iff_lt_or_eq.1 hj with h | rfl
              · exact HQ.out j h
              · rw [HX.out.1, HX.out.2]
            case measure => simp [intOf]; omega
          · have HD : Hid (¬ m2 = p2) := h2
            have d2 : (m2 == p2) = false := beq_eq_false_iff_ne.2 h2
            have t2 : (m2 != p2) = true := by simpa using h2
            have u2 : decide (m2 = p2) = false := by simpa using h2
            clear h2
            go_wp2_with fail
            refine wp_region_after (by kernel_rfl) (by kernel_rfl) ?_
            intro hne hac
            repeat (go_big_quiet_step (fail))
            refine wpQuiet_nil ?_
            rintro _ ⟨p, rfl⟩
            have hbq : Hid (Below w.heap.size w p.w) := HB.out.trans (p.bel.mono HB.out.size)
            clear hac hne
            generalize p.w = wq at *
            go_wp2_with fail
            go_ret
            refine ⟨?_, hbq.out⟩
            have : eqB xs ys = false := by
              rw [eqB_false]
              intro h
              have h3 := HX.out.1
              rw [h, HX.out.2] at h3
              simp at h3
              exact HD.out (by simp [h3])
            rw [this]; rfl
        · have HD : Hid (¬ m1 = p1) := h1
          have d1 : (m1 == p1) = false := beq_eq_false_iff_ne.2 h1
          have t1 : (m1 != p1) = true := by simpa using h1
          have u1 : decide (m1 = p1) = false := by simpa using h1
          clear h1
          go_wp2_with fail
          refine wp_region_after (by kernel_rfl) (by kernel_rfl) ?_
          intro hne hac
          repeat (go_big_quiet_step (fail))
          refine wpQuiet_nil ?_
          rintro _ ⟨p, rfl⟩
          have hbq : Hid (Below w.heap.size w p.w) := HB.out.trans (p.bel.mono HB.out.size)
          clear hac hne
          generalize p.w = wq at *
          go_wp2_with fail
          go_ret
          refine ⟨?_, hbq.out⟩
          have : eqB xs ys = false := by
            rw [eqB_false]
            intro h
            have h3 := HX.out.1
            rw [h, HX.out.2] at h3
            simp at h3
            exact HD.out (by simp [h3])
          rw [this]; rfl
      · have HD : Hid (¬ m0 = p0) := h0
        have d0 : (m0 == p0) = false := beq_eq_false_iff_ne.2 h0
        have t0 : (m0 != p0) = true := by simpa using h0
        have u0 : decide (m0 = p0) = false := by simpa using h0
        clear h0
        go_wp2_with fail
        refine wp_region_after (by kernel_rfl) (by kernel_rfl) ?_
        intro hne hac
        repeat (go_big_quiet_step (fail))
        refine wpQuiet_nil ?_
        rintro _ ⟨p, rfl⟩
        have hbq : Hid (Below w.heap.size w p.w) := HB.out.trans (p.bel.mono HB.out.size)
        clear hac hne
        generalize p.w = wq at *
        go_wp2_with fail
        go_ret
        refine ⟨?_, hbq.out⟩
        have : eqB xs ys = false := by
          rw [eqB_false]
          intro h
          have h3 := HX.out.1
          rw [h, HX.out.2] at h3
          simp at h3
          exact HD.out (by simp [h3])
        rw [this]; rfl
    · have hkn : k = n := by omega
      subst hkn
      go_wp2_with fail
      go_ret
      refine ⟨?_, hbel⟩
      have : xs = ys := by
        apply List.ext_getElem?
        intro j
        by_cases hj : j < k
        · exact HQ.out j hj
        · rw [List.getElem?_eq_none (by have := HN.out; omega), List.getElem?_eq_none (by have := HN.out; omega)]
      rw [eqB_true.2 this]; rfl
set_option maxHeartbeats 400000 in
theorem equalPersonS_len (a1 a2 : Option Addr) (n1 c1 n2 c2 : Nat) (w : World) (h1 : n1 ≤ 1048576) (h2 : n2 ≤ 1048576) (hne : n1 ≠ n2) :
    Calls Try.prog 51 #[.slice a1 n1 c1, .slice a2 n2 c2] w fun e w' => e = .returned (.bool false) ∧ w' = w := by
  have hd : ((n1 : Int) != (n2 : Int)) = true := by rw [bne_iff_ne]; omega
  clear hne
  go_enter Try.func51, Try.ntmps51
  go_wp2
  go_ret
  exact ⟨rfl, rfl⟩
set_option maxHeartbeats 400000 in
theorem equalPersonS_empty (a1 a2 : Option Addr) (c1 c2 : Nat) (w : World) :
    Calls Try.prog 51 #[.slice a1 0 c1, .slice a2 0 c2] w fun e w' => e = .returned (.bool true) ∧ w' = w := by
  go_enter Try.func51, Try.ntmps51
  go_wp2
  refine wp_loop_rounds 1 ?_
  rw [rounds_succ]
  go_wp2
  go_ret
  exact ⟨rfl, rfl⟩
theorem equalPersonS (v1 v2 : Value) (xs ys : List (Int × Int × Int)) (w : World) (h1 : RowAt 3 encPerson w v1 xs) (h2 : RowAt 3 encPerson w v2 ys) (hb1 : xs.length ≤ 1048576) (hb2 : ys.length ≤ 1048576) :
    Calls Try.prog 51 #[v1, v2] w fun e w' => e = .returned (.bool (eqB xs ys)) ∧ Below w.heap.size w w' := by
  by_cases hl : xs.length = ys.length
  · rcases h1 with ⟨rfl, a1, c1, rfl⟩ | ⟨p1, b1, o1, c1, rfl, l1, e1⟩
    · have hm : ys = [] := List.length_eq_zero_iff.1 (by simpa using hl.symm)
      subst hm
      obtain ⟨a2, c2, rfl⟩ := h2.len
      exact (equalPersonS_empty a1 a2 c1 c2 w).mono (fun e w' h => ⟨by rw [h.1, eqB_true.2 rfl], by rw [h.2]; exact Below.refl _ _⟩)
    · rcases h2 with ⟨rfl, a2, c2, rfl⟩ | ⟨p2, b2, o2, c2, rfl, l2, e2⟩
      · simp at hl; subst hl; simp at p1
      · rw [← hl]
        exact equalPersonS_some b1 o1 c1 b2 o2 c2 xs ys w hl hb1 l1 l2 e1 e2
  · have hf : eqB xs ys = false := by rw [eqB_false]; intro h; exact hl (by rw [h])
    rw [hf]
    obtain ⟨a1, c1, rfl⟩ := h1.len
    obtain ⟨a2, c2, rfl⟩ := h2.len
    exact (equalPersonS_len a1 a2 _ c1 _ c2 w hb1 hb2 hl).mono (fun e w' h => ⟨h.1, by rw [h.2]; exact Below.refl _ _⟩)
/-- A world's five rows. -/
def AtWorld (w : World) (v1 v2 v3 v4 v5 : Value) (x1 : List (Int × Int × Int)) (x2 : List (Int × Int)) (x3 : List (Int × Int × Int × Int × Int)) (x4 : List (Int × (Value × List (Int × Int)))) (x5 : List Int) : Prop :=
  RowAt 3 encPerson w v1 x1 ∧ RowAt 2 encNode w v2 x2 ∧ RowAt 5 encEdge w v3 x3 ∧ AtPool w v4 x4 ∧ RowAt 1 encI w v5 x5
theorem AtWorld.keep {w w' : World} {v1 v2 v3 v4 v5 : Value} {x1 : List (Int × Int × Int)} {x2 : List (Int × Int)} {x3 : List (Int × Int × Int × Int × Int)} {x4 : List (Int × (Value × List (Int × Int)))} {x5 : List Int} (h : AtWorld w v1 v2 v3 v4 v5 x1 x2 x3 x4 x5) (hb : Below w.heap.size w w') : AtWorld w' v1 v2 v3 v4 v5 x1 x2 x3 x4 x5 :=
  ⟨h.1.keep hb, h.2.1.keep hb, h.2.2.1.keep hb, h.2.2.2.1.keep hb, h.2.2.2.2.keep hb⟩
theorem AtWorld.form {w : World} {v1 v2 v3 v4 v5 : Value} {x1 : List (Int × Int × Int)} {x2 : List (Int × Int)} {x3 : List (Int × Int × Int × Int × Int)} {x4 : List (Int × (Value × List (Int × Int)))} {x5 : List Int} (h : AtWorld w v1 v2 v3 v4 v5 x1 x2 x3 x4 x5) :
    ∃ a1 c1 a2 c2 a3 c3 a4 c4 a5 c5, v1 = .slice a1 x1.length c1 ∧ v2 = .slice a2 x2.length c2 ∧ v3 = .slice a3 x3.length c3 ∧ v4 = .slice a4 x4.length c4 ∧ v5 = .slice a5 x5.length c5 := by
  obtain ⟨a1, c1, h1⟩ := h.1.len
  obtain ⟨a2, c2, h2⟩ := h.2.1.len
  obtain ⟨a3, c3, h3⟩ := h.2.2.1.len
  obtain ⟨a4, c4, h4⟩ := h.2.2.2.1.1.len
  obtain ⟨a5, c5, h5⟩ := h.2.2.2.2.len
  exact ⟨a1, c1, a2, c2, a3, c3, a4, c4, a5, c5, h1, h2, h3, h4, h5⟩
/-- Few enough of all. -/
def FewWorld (x1 : List (Int × Int × Int)) (x2 : List (Int × Int)) (x3 : List (Int × Int × Int × Int × Int)) (x4 : List (Int × (Value × List (Int × Int)))) (x5 : List Int) : Prop := x1.length ≤ 1048576 ∧ x2.length ≤ 1048576 ∧ x3.length ≤ 1048576 ∧ FewPool x4 ∧ x5.length ≤ 1048576
set_option maxHeartbeats 4000000 in
theorem szWorld (v1 v2 v3 v4 v5 : Value) (x1 : List (Int × Int × Int)) (x2 : List (Int × Int)) (x3 : List (Int × Int × Int × Int × Int)) (x4 : List (Int × (Value × List (Int × Int)))) (x5 : List Int) (left : Int) (w : World) (h : AtWorld w v1 v2 v3 v4 v5 x1 x2 x3 x4 x5) (h0 : 0 ≤ left) (h1 : left ≤ 1048576)
    (m1 : x1.length ≤ 9223372036854775807) (m2 : x2.length ≤ 9223372036854775807) (m3 : x3.length ≤ 9223372036854775807) (m4 : x4.length ≤ 9223372036854775807) (m5 : x5.length ≤ 9223372036854775807) (m6 : ∀ x ∈ x4, x.2.2.length ≤ 9223372036854775807) :
    Calls Try.prog 19 #[.agg #[v1, v2, v3, v4, v5], .int .i64 left] w fun e w' => (∃ r : Int, e = .returned (.int .i64 r) ∧ -1 ≤ r ∧ r ≤ left ∧ (0 ≤ r → FewWorld x1 x2 x3 x4 x5)) ∧ Below w.heap.size w w' := by
  obtain ⟨a1, c1, a2, c2, a3, c3, a4, c4, a5, c5, rfl, rfl, rfl, rfl, rfl⟩ := h.form
  obtain ⟨n1, hn1⟩ : ∃ t, t = x1.length := ⟨_, rfl⟩
  obtain ⟨n2, hn2⟩ : ∃ t, t = x2.length := ⟨_, rfl⟩
  obtain ⟨n3, hn3⟩ : ∃ t, t = x3.length := ⟨_, rfl⟩
  obtain ⟨n4, hn4⟩ : ∃ t, t = x4.length := ⟨_, rfl⟩
  obtain ⟨n5, hn5⟩ : ∃ t, t = x5.length := ⟨_, rfl⟩
  have HN : Hid (n1 = x1.length ∧ n2 = x2.length ∧ n3 = x3.length ∧ n4 = x4.length ∧ n5 = x5.length) := ⟨hn1, hn2, hn3, hn4, hn5⟩
  rw [← hn1, ← hn2, ← hn3, ← hn4, ← hn5] at h ⊢
  rw [← hn1] at m1
  rw [← hn2] at m2
  rw [← hn3] at m3
  rw [← hn4] at m4
  rw [← hn5] at m5
  clear hn1 hn2 hn3 hn4 hn5
  have HM : Hid (∀ x ∈ x4, x.2.2.length ≤ 9223372036854775807) := m6
  clear m6
  obtain ⟨A, hA⟩ : ∃ t, t = w.heap.size := ⟨_, rfl⟩
  have HA : Hid (A = w.heap.size) := hA
  have BB : Below A w w := Below.refl _ _
  have sA : A ≤ w.heap.size := by omega
  clear hA
  have HQ : Hid (AtPool w (.slice a4 n4 c4) x4) := h.2.2.2.1
  clear h
  go_enter Try.func19, Try.ntmps19
  go_wp2_with fail
  obtain ⟨B0, hB0⟩ : ∃ t, t = w.heap.size := ⟨_, rfl⟩
  generalize hW : w.alloc (.cells #[.slice a1 n1 c1, .slice a2 n2 c2, .slice a3 n3 c3, .slice a4 n4 c4, .slice a5 n5 c5] 52) = wa
  have nb : Below w.heap.size w wa := by rw [← hW]; exact (Below.refl _ _).alloc (Nat.le_refl _) _
  have k3 : wa.heap.size = B0 + 1 := by rw [← hW, hB0]; simp
  have kk0 : wa.cell? ⟨B0, 0, none⟩ = some (.slice a1 n1 c1) := by rw [← hW, hB0]; simp [go_sem]
  have kk1 : wa.cell? ⟨B0, 1, none⟩ = some (.slice a2 n2 c2) := by rw [← hW, hB0]; simp [go_sem]
  have kk2 : wa.cell? ⟨B0, 2, none⟩ = some (.slice a3 n3 c3) := by rw [← hW, hB0]; simp [go_sem]
  have kk3 : wa.cell? ⟨B0, 3, none⟩ = some (.slice a4 n4 c4) := by rw [← hW, hB0]; simp [go_sem]
  have kk4 : wa.cell? ⟨B0, 4, none⟩ = some (.slice a5 n5 c5) := by rw [← hW, hB0]; simp [go_sem]
  have oB0A : A ≤ B0 := by rw [hB0]; exact sA
  have BB1 : Below A w wa := BB.trans (nb.mono (by omega))
  have sA1 : A ≤ wa.heap.size := by have := Below.size nb; omega
  have q0 : Hid (AtPool wa (.slice a4 n4 c4) x4) := HQ.out.keep nb
  clear BB sA   HQ
  have HQ := q0
  have BB := BB1
  have sA := sA1
  clear BB1 sA1   q0
  have cc0 := kk0
  have cc1 := kk1
  have cc2 := kk2
  have cc3 := kk3
  have cc4 := kk4
  have zz0 : B0 < wa.heap.size := by omega
  rw [← hB0]
  have k3B0 := k3
  clear k3 hW nb hB0 kk0 kk1 kk2 kk3 kk4
  refine use (szPersonS a1 n1 c1 left _ h0 h1 m1) ?_
  by_cases q1 : ¬ (n1 : Int) ≤ left
  · rw [if_neg q1]
    go_wp2_with fail
    go_ret
    exact ⟨⟨-1, rfl, by omega, by omega, fun h => by omega⟩, (by have := BB; rw [HA.out] at this; exact this)⟩
  rw [if_pos (by omega)]
  go_wp2_with fail
  refine (szGraph a2 a3 n2 c2 n3 c3 _ _ (by omega) (by omega) m2 m3).mono ?_
  rintro e wb ⟨rfl, bb⟩
  have d0 : wb.cell? ⟨B0, 0, none⟩ = some (.slice a1 n1 c1) := (Below.celz bb _ _ _ (by omega)).trans cc0
  have d1 : wb.cell? ⟨B0, 1, none⟩ = some (.slice a2 n2 c2) := (Below.celz bb _ _ _ (by omega)).trans cc1
  have d2 : wb.cell? ⟨B0, 2, none⟩ = some (.slice a3 n3 c3) := (Below.celz bb _ _ _ (by omega)).trans cc2
  have d3 : wb.cell? ⟨B0, 3, none⟩ = some (.slice a4 n4 c4) := (Below.celz bb _ _ _ (by omega)).trans cc3
  have d4 : wb.cell? ⟨B0, 4, none⟩ = some (.slice a5 n5 c5) := (Below.celz bb _ _ _ (by omega)).trans cc4
  have y0 : B0 < wb.heap.size := by have := Below.size bb; omega
  have BB1 : Below A w wb := BB.trans (bb.mono (by omega))
  have sA1 : A ≤ wb.heap.size := by have := Below.size bb; omega
  have q0 : Hid (AtPool wb (.slice a4 n4 c4) x4) := HQ.out.keep bb
  clear BB sA cc0 cc1 cc2 cc3 cc4 zz0 HQ
  have cc0 := d0
  have cc1 := d1
  have cc2 := d2
  have cc3 := d3
  have cc4 := d4
  have zz0 := y0
  have HQ := q0
  have BB := BB1
  have sA := sA1
  clear BB1 sA1 d0 d1 d2 d3 d4 y0 q0
  clear bb
  by_cases q2 : ¬ (n2 : Int) + n3 ≤ left - n1
  · rw [if_neg q2]
    go_wp2_with fail
    go_ret
    exact ⟨⟨-1, rfl, by omega, by omega, fun h => by omega⟩, (by have := BB; rw [HA.out] at this; exact this)⟩
  rw [if_pos (by omega)]
  go_wp2_with fail
  refine (szPoolS _ x4 _ _ HQ.out (by omega) (by omega) (by rw [← HN.out.2.2.2.1]; omega) HM.out).mono ?_
  rintro e wc ⟨⟨p, rfl, p0, p1, p2⟩, bc⟩
  have d0 : wc.cell? ⟨B0, 0, none⟩ = some (.slice a1 n1 c1) := (Below.celz bc _ _ _ (by omega)).trans cc0
  have d1 : wc.cell? ⟨B0, 1, none⟩ = some (.slice a2 n2 c2) := (Below.celz bc _ _ _ (by omega)).trans cc1
  have d2 : wc.cell? ⟨B0, 2, none⟩ = some (.slice a3 n3 c3) := (Below.celz bc _ _ _ (by omega)).trans cc2
  have d3 : wc.cell? ⟨B0, 3, none⟩ = some (.slice a4 n4 c4) := (Below.celz bc _ _ _ (by omega)).trans cc3
  have d4 : wc.cell? ⟨B0, 4, none⟩ = some (.slice a5 n5 c5) := (Below.celz bc _ _ _ (by omega)).trans cc4
  have y0 : B0 < wc.heap.size := by have := Below.size bc; omega
  have BB1 : Below A w wc := BB.trans (bc.mono (by omega))
  have sA1 : A ≤ wc.heap.size := by have := Below.size bc; omega
  have q0 : Hid (AtPool wc (.slice a4 n4 c4) x4) := HQ.out.keep bc
  clear BB sA cc0 cc1 cc2 cc3 cc4 zz0 HQ
  have cc0 := d0
  have cc1 := d1
  have cc2 := d2
  have cc3 := d3
  have cc4 := d4
  have zz0 := y0
  have HQ := q0
  have BB := BB1
  have sA := sA1
  clear BB1 sA1 d0 d1 d2 d3 d4 y0 q0
  clear bc
  by_cases q3 : p < 0
  · clear p2
    go_wp2_with fail
    go_ret
    exact ⟨⟨-1, rfl, by omega, by omega, fun h => by omega⟩, (by have := BB; rw [HA.out] at this; exact this)⟩
  have HF : Hid (FewPool x4) := p2 (by omega)
  clear p2
  go_wp2_with fail
  refine use (szIntS a5 n5 c5 p _ (by omega) (by omega) m5) ?_
  by_cases q5 : ¬ (n5 : Int) ≤ p
  · rw [if_neg q5]
    go_wp2_with fail
    go_ret
    exact ⟨⟨-1, rfl, by omega, by omega, fun h => by omega⟩, (by have := BB; rw [HA.out] at this; exact this)⟩
  rw [if_pos (by omega)]
  go_wp2_with fail
  go_ret
  exact ⟨⟨p - n5, rfl, by omega, by omega, fun _ => ⟨by rw [← HN.out.1]; omega, by rw [← HN.out.2.1]; omega, by rw [← HN.out.2.2.1]; omega, HF.out, by rw [← HN.out.2.2.2.2]; omega⟩⟩, (by have := BB; rw [HA.out] at this; exact this)⟩
/-- Two worlds are one, in plain words. -/
def sameW (x1 : List (Int × Int × Int)) (x2 : List (Int × Int)) (x3 : List (Int × Int × Int × Int × Int)) (x4 : List (Int × (Value × List (Int × Int)))) (x5 : List Int) (t1 : List (Int × Int × Int)) (t2 : List (Int × Int)) (t3 : List (Int × Int × Int × Int × Int)) (t4 : List (Int × (Value × List (Int × Int)))) (t5 : List Int) : Bool := eqB x1 t1 && ((eqB x2 t2 && eqB x3 t3) && (eqB (x4.map plPool) (t4.map plPool) && eqB x5 t5))
theorem sameW_true {x1 t1 : List (Int × Int × Int)} {x2 t2 : List (Int × Int)} {x3 t3 : List (Int × Int × Int × Int × Int)} {x4 t4 : List (Int × (Value × List (Int × Int)))} {x5 t5 : List Int} : sameW x1 x2 x3 x4 x5 t1 t2 t3 t4 t5 = true ↔ x1 = t1 ∧ x2 = t2 ∧ x3 = t3 ∧ x4.map plPool = t4.map plPool ∧ x5 = t5 := by
  simp only [sameW, Bool.and_eq_true, eqB_true, and_assoc]
set_option maxHeartbeats 8000000 in
theorem eqWorld (v1 v2 v3 v4 v5 u1 u2 u3 u4 u5 : Value) (x1 : List (Int × Int × Int)) (x2 : List (Int × Int)) (x3 : List (Int × Int × Int × Int × Int)) (x4 : List (Int × (Value × List (Int × Int)))) (x5 : List Int) (t1 : List (Int × Int × Int)) (t2 : List (Int × Int)) (t3 : List (Int × Int × Int × Int × Int)) (t4 : List (Int × (Value × List (Int × Int)))) (t5 : List Int) (w : World) (h : AtWorld w v1 v2 v3 v4 v5 x1 x2 x3 x4 x5) (k : AtWorld w u1 u2 u3 u4 u5 t1 t2 t3 t4 t5) (fx : FewWorld x1 x2 x3 x4 x5) (fy : FewWorld t1 t2 t3 t4 t5) :
    Calls Try.prog 14 #[.agg #[v1, v2, v3, v4, v5], .agg #[u1, u2, u3, u4, u5]] w fun e w' => e = .returned (.bool (sameW x1 x2 x3 x4 x5 t1 t2 t3 t4 t5)) ∧ Below w.heap.size w w' := by
  unfold sameW
  obtain ⟨a1, c1, a2, c2, a3, c3, a4, c4, a5, c5, rfl, rfl, rfl, rfl, rfl⟩ := h.form
  obtain ⟨b1, f1, b2, f2, b3, f3, b4, f4, b5, f5, rfl, rfl, rfl, rfl, rfl⟩ := k.form
  generalize hn1 : x1.length = n1 at h k ⊢
  generalize hn2 : x2.length = n2 at h k ⊢
  generalize hn3 : x3.length = n3 at h k ⊢
  generalize hn4 : x4.length = n4 at h k ⊢
  generalize hn5 : x5.length = n5 at h k ⊢
  generalize hr1 : t1.length = r1 at h k ⊢
  generalize hr2 : t2.length = r2 at h k ⊢
  generalize hr3 : t3.length = r3 at h k ⊢
  generalize hr4 : t4.length = r4 at h k ⊢
  generalize hr5 : t5.length = r5 at h k ⊢
  have HFW : Hid (FewWorld x1 x2 x3 x4 x5 ∧ FewWorld t1 t2 t3 t4 t5) := ⟨fx, fy⟩
  clear fx fy hn1 hn2 hn3 hn4 hn5 hr1 hr2 hr3 hr4 hr5
  obtain ⟨A, hA⟩ : ∃ t, t = w.heap.size := ⟨_, rfl⟩
  have HA : Hid (A = w.heap.size) := hA
  have BB : Below A w w := Below.refl _ _
  have sA : A ≤ w.heap.size := by omega
  clear hA
  have HX : Hid (AtWorld w (.slice a1 n1 c1) (.slice a2 n2 c2) (.slice a3 n3 c3) (.slice a4 n4 c4) (.slice a5 n5 c5) x1 x2 x3 x4 x5) := h
  have HY : Hid (AtWorld w (.slice b1 r1 f1) (.slice b2 r2 f2) (.slice b3 r3 f3) (.slice b4 r4 f4) (.slice b5 r5 f5) t1 t2 t3 t4 t5) := k
  clear h k
  go_enter Try.func14, Try.ntmps14
  go_wp2_with fail
  obtain ⟨B0, hB0⟩ : ∃ t, t = w.heap.size := ⟨_, rfl⟩
  generalize hW : w.alloc (.cells #[.slice a1 n1 c1, .slice a2 n2 c2, .slice a3 n3 c3, .slice a4 n4 c4, .slice a5 n5 c5] 38) = wa
  have nb : Below w.heap.size w wa := by rw [← hW]; exact (Below.refl _ _).alloc (Nat.le_refl _) _
  have k3 : wa.heap.size = B0 + 1 := by rw [← hW, hB0]; simp
  have kk0 : wa.cell? ⟨B0, 0, none⟩ = some (.slice a1 n1 c1) := by rw [← hW, hB0]; simp [go_sem]
  have kk1 : wa.cell? ⟨B0, 1, none⟩ = some (.slice a2 n2 c2) := by rw [← hW, hB0]; simp [go_sem]
  have kk2 : wa.cell? ⟨B0, 2, none⟩ = some (.slice a3 n3 c3) := by rw [← hW, hB0]; simp [go_sem]
  have kk3 : wa.cell? ⟨B0, 3, none⟩ = some (.slice a4 n4 c4) := by rw [← hW, hB0]; simp [go_sem]
  have kk4 : wa.cell? ⟨B0, 4, none⟩ = some (.slice a5 n5 c5) := by rw [← hW, hB0]; simp [go_sem]
  have oB0A : A ≤ B0 := by rw [hB0]; exact sA
  have BB1 : Below A w wa := BB.trans (nb.mono (by omega))
  have sA1 : A ≤ wa.heap.size := by have := Below.size nb; omega
  have q0 : Hid (AtWorld wa (.slice a1 n1 c1) (.slice a2 n2 c2) (.slice a3 n3 c3) (.slice a4 n4 c4) (.slice a5 n5 c5) x1 x2 x3 x4 x5) := HX.out.keep nb
  have q1 : Hid (AtWorld wa (.slice b1 r1 f1) (.slice b2 r2 f2) (.slice b3 r3 f3) (.slice b4 r4 f4) (.slice b5 r5 f5) t1 t2 t3 t4 t5) := HY.out.keep nb
  clear BB sA   HX HY
  have HX := q0
  have HY := q1
  have BB := BB1
  have sA := sA1
  clear BB1 sA1   q0 q1
  have cc0 := kk0
  have cc1 := kk1
  have cc2 := kk2
  have cc3 := kk3
  have cc4 := kk4
  have zz0 : B0 < wa.heap.size := by omega
  rw [← hB0]
  have k3B0 := k3
  clear k3 hW nb hB0 kk0 kk1 kk2 kk3 kk4
  rw [k3B0.symm]
  obtain ⟨B1, hB1⟩ : ∃ t, t = wa.heap.size := ⟨_, rfl⟩
  generalize hW : wa.alloc (.cells #[.slice b1 r1 f1, .slice b2 r2 f2, .slice b3 r3 f3, .slice b4 r4 f4, .slice b5 r5 f5] 38) = wb
  have nb : Below wa.heap.size wa wb := by rw [← hW]; exact (Below.refl _ _).alloc (Nat.le_refl _) _
  have k3 : wb.heap.size = B1 + 1 := by rw [← hW, hB1]; simp
  have kk0 : wb.cell? ⟨B1, 0, none⟩ = some (.slice b1 r1 f1) := by rw [← hW, hB1]; simp [go_sem]
  have kk1 : wb.cell? ⟨B1, 1, none⟩ = some (.slice b2 r2 f2) := by rw [← hW, hB1]; simp [go_sem]
  have kk2 : wb.cell? ⟨B1, 2, none⟩ = some (.slice b3 r3 f3) := by rw [← hW, hB1]; simp [go_sem]
  have kk3 : wb.cell? ⟨B1, 3, none⟩ = some (.slice b4 r4 f4) := by rw [← hW, hB1]; simp [go_sem]
  have kk4 : wb.cell? ⟨B1, 4, none⟩ = some (.slice b5 r5 f5) := by rw [← hW, hB1]; simp [go_sem]
  have oB1A : A ≤ B1 := by rw [hB1]; exact sA
  have oB10 : B0 < B1 := by rw [hB1]; exact zz0
  have d0 : wb.cell? ⟨B0, 0, none⟩ = some (.slice a1 n1 c1) := (Below.celz nb _ _ _ (by omega)).trans cc0
  have d1 : wb.cell? ⟨B0, 1, none⟩ = some (.slice a2 n2 c2) := (Below.celz nb _ _ _ (by omega)).trans cc1
  have d2 : wb.cell? ⟨B0, 2, none⟩ = some (.slice a3 n3 c3) := (Below.celz nb _ _ _ (by omega)).trans cc2
  have d3 : wb.cell? ⟨B0, 3, none⟩ = some (.slice a4 n4 c4) := (Below.celz nb _ _ _ (by omega)).trans cc3
  have d4 : wb.cell? ⟨B0, 4, none⟩ = some (.slice a5 n5 c5) := (Below.celz nb _ _ _ (by omega)).trans cc4
  have y0 : B0 < wb.heap.size := by have := Below.size nb; omega
  have BB1 : Below A w wb := BB.trans (nb.mono (by omega))
  have sA1 : A ≤ wb.heap.size := by have := Below.size nb; omega
  have q0 : Hid (AtWorld wb (.slice a1 n1 c1) (.slice a2 n2 c2) (.slice a3 n3 c3) (.slice a4 n4 c4) (.slice a5 n5 c5) x1 x2 x3 x4 x5) := HX.out.keep nb
  have q1 : Hid (AtWorld wb (.slice b1 r1 f1) (.slice b2 r2 f2) (.slice b3 r3 f3) (.slice b4 r4 f4) (.slice b5 r5 f5) t1 t2 t3 t4 t5) := HY.out.keep nb
  clear BB sA cc0 cc1 cc2 cc3 cc4 zz0 HX HY
  have cc0 := d0
  have cc1 := d1
  have cc2 := d2
  have cc3 := d3
  have cc4 := d4
  have zz0 := y0
  have HX := q0
  have HY := q1
  have BB := BB1
  have sA := sA1
  clear BB1 sA1 d0 d1 d2 d3 d4 y0 q0 q1
  have cc5 := kk0
  have cc6 := kk1
  have cc7 := kk2
  have cc8 := kk3
  have cc9 := kk4
  have zz1 : B1 < wb.heap.size := by omega
  rw [← hB1]
  have k3B1 := k3
  clear k3 hW nb hB1 kk0 kk1 kk2 kk3 kk4
  clear k3B0 k3B1
  refine (eqPersonS _ _ x1 t1 _ HX.out.1 HY.out.1 HFW.out.1.1 HFW.out.2.1).mono ?_
  rintro e wc ⟨rfl, bz⟩
  have d0 : wc.cell? ⟨B0, 0, none⟩ = some (.slice a1 n1 c1) := (Below.celz bz _ _ _ (by omega)).trans cc0
  have d1 : wc.cell? ⟨B0, 1, none⟩ = some (.slice a2 n2 c2) := (Below.celz bz _ _ _ (by omega)).trans cc1
  have d2 : wc.cell? ⟨B0, 2, none⟩ = some (.slice a3 n3 c3) := (Below.celz bz _ _ _ (by omega)).trans cc2
  have d3 : wc.cell? ⟨B0, 3, none⟩ = some (.slice a4 n4 c4) := (Below.celz bz _ _ _ (by omega)).trans cc3
  have d4 : wc.cell? ⟨B0, 4, none⟩ = some (.slice a5 n5 c5) := (Below.celz bz _ _ _ (by omega)).trans cc4
  have d5 : wc.cell? ⟨B1, 0, none⟩ = some (.slice b1 r1 f1) := (Below.celz bz _ _ _ (by omega)).trans cc5
  have d6 : wc.cell? ⟨B1, 1, none⟩ = some (.slice b2 r2 f2) := (Below.celz bz _ _ _ (by omega)).trans cc6
  have d7 : wc.cell? ⟨B1, 2, none⟩ = some (.slice b3 r3 f3) := (Below.celz bz _ _ _ (by omega)).trans cc7
  have d8 : wc.cell? ⟨B1, 3, none⟩ = some (.slice b4 r4 f4) := (Below.celz bz _ _ _ (by omega)).trans cc8
  have d9 : wc.cell? ⟨B1, 4, none⟩ = some (.slice b5 r5 f5) := (Below.celz bz _ _ _ (by omega)).trans cc9
  have y0 : B0 < wc.heap.size := by have := Below.size bz; omega
  have y1 : B1 < wc.heap.size := by have := Below.size bz; omega
  have BB1 : Below A w wc := BB.trans (bz.mono (by omega))
  have sA1 : A ≤ wc.heap.size := by have := Below.size bz; omega
  have q0 : Hid (AtWorld wc (.slice a1 n1 c1) (.slice a2 n2 c2) (.slice a3 n3 c3) (.slice a4 n4 c4) (.slice a5 n5 c5) x1 x2 x3 x4 x5) := HX.out.keep bz
  have q1 : Hid (AtWorld wc (.slice b1 r1 f1) (.slice b2 r2 f2) (.slice b3 r3 f3) (.slice b4 r4 f4) (.slice b5 r5 f5) t1 t2 t3 t4 t5) := HY.out.keep bz
  clear BB sA cc0 cc1 cc2 cc3 cc4 cc5 cc6 cc7 cc8 cc9 zz0 zz1 HX HY
  have cc0 := d0
  have cc1 := d1
  have cc2 := d2
  have cc3 := d3
  have cc4 := d4
  have cc5 := d5
  have cc6 := d6
  have cc7 := d7
  have cc8 := d8
  have cc9 := d9
  have zz0 := y0
  have zz1 := y1
  have HX := q0
  have HY := q1
  have BB := BB1
  have sA := sA1
  clear BB1 sA1 d0 d1 d2 d3 d4 d5 d6 d7 d8 d9 y0 y1 q0 q1
  clear bz
  cases e1 : eqB x1 t1
  · go_wp2_with fail
    go_ret
    exact ⟨by first | rfl | (simp; done) | (simp [*]; done), (by have := BB; rw [HA.out] at this; exact this)⟩
  · go_wp2_with fail
    refine (eqGraph _ _ _ _ x2 t2 x3 t3 _ HX.out.2.1 HX.out.2.2.1 HY.out.2.1 HY.out.2.2.1 HFW.out.1.2.1 HFW.out.1.2.2.1 HFW.out.2.2.1 HFW.out.2.2.2.1).mono ?_
    rintro e wd ⟨rfl, bz⟩
    have d0 : wd.cell? ⟨B0, 0, none⟩ = some (.slice a1 n1 c1) := (Below.celz bz _ _ _ (by omega)).trans cc0
    have d1 : wd.cell? ⟨B0, 1, none⟩ = some (.slice a2 n2 c2) := (Below.celz bz _ _ _ (by omega)).trans cc1
    have d2 : wd.cell? ⟨B0, 2, none⟩ = some (.slice a3 n3 c3) := (Below.celz bz _ _ _ (by omega)).trans cc2
    have d3 : wd.cell? ⟨B0, 3, none⟩ = some (.slice a4 n4 c4) := (Below.celz bz _ _ _ (by omega)).trans cc3
    have d4 : wd.cell? ⟨B0, 4, none⟩ = some (.slice a5 n5 c5) := (Below.celz bz _ _ _ (by omega)).trans cc4
    have d5 : wd.cell? ⟨B1, 0, none⟩ = some (.slice b1 r1 f1) := (Below.celz bz _ _ _ (by omega)).trans cc5
    have d6 : wd.cell? ⟨B1, 1, none⟩ = some (.slice b2 r2 f2) := (Below.celz bz _ _ _ (by omega)).trans cc6
    have d7 : wd.cell? ⟨B1, 2, none⟩ = some (.slice b3 r3 f3) := (Below.celz bz _ _ _ (by omega)).trans cc7
    have d8 : wd.cell? ⟨B1, 3, none⟩ = some (.slice b4 r4 f4) := (Below.celz bz _ _ _ (by omega)).trans cc8
    have d9 : wd.cell? ⟨B1, 4, none⟩ = some (.slice b5 r5 f5) := (Below.celz bz _ _ _ (by omega)).trans cc9
    have y0 : B0 < wd.heap.size := by have := Below.size bz; omega
    have y1 : B1 < wd.heap.size := by have := Below.size bz; omega
    have BB1 : Below A w wd := BB.trans (bz.mono (by omega))
    have sA1 : A ≤ wd.heap.size := by have := Below.size bz; omega
    have q0 : Hid (AtWorld wd (.slice a1 n1 c1) (.slice a2 n2 c2) (.slice a3 n3 c3) (.slice a4 n4 c4) (.slice a5 n5 c5) x1 x2 x3 x4 x5) := HX.out.keep bz
    have q1 : Hid (AtWorld wd (.slice b1 r1 f1) (.slice b2 r2 f2) (.slice b3 r3 f3) (.slice b4 r4 f4) (.slice b5 r5 f5) t1 t2 t3 t4 t5) := HY.out.keep bz
    clear BB sA cc0 cc1 cc2 cc3 cc4 cc5 cc6 cc7 cc8 cc9 zz0 zz1 HX HY
    have cc0 := d0
    have cc1 := d1
    have cc2 := d2
    have cc3 := d3
    have cc4 := d4
    have cc5 := d5
    have cc6 := d6
    have cc7 := d7
    have cc8 := d8
    have cc9 := d9
    have zz0 := y0
    have zz1 := y1
    have HX := q0
    have HY := q1
    have BB := BB1
    have sA := sA1
    clear BB1 sA1 d0 d1 d2 d3 d4 d5 d6 d7 d8 d9 y0 y1 q0 q1
    clear bz
    cases e2 : (eqB x2 t2 && eqB x3 t3)
    · go_wp2_with fail
      go_ret
      exact ⟨by first | rfl | (simp; done) | (simp [*]; done), (by have := BB; rw [HA.out] at this; exact this)⟩
    · go_wp2_with fail
      refine (eqPoolS _ _ x4 t4 _ HX.out.2.2.2.1 HY.out.2.2.2.1 HFW.out.1.2.2.2.1 HFW.out.2.2.2.2.1).mono ?_
      rintro e we ⟨rfl, bz⟩
      have d0 : we.cell? ⟨B0, 0, none⟩ = some (.slice a1 n1 c1) := (Below.celz bz _ _ _ (by omega)).trans cc0
      have d1 : we.cell? ⟨B0, 1, none⟩ = some (.slice a2 n2 c2) := (Below.celz bz _ _ _ (by omega)).trans cc1
      have d2 : we.cell? ⟨B0, 2, none⟩ = some (.slice a3 n3 c3) := (Below.celz bz _ _ _ (by omega)).trans cc2
      have d3 : we.cell? ⟨B0, 3, none⟩ = some (.slice a4 n4 c4) := (Below.celz bz _ _ _ (by omega)).trans cc3
      have d4 : we.cell? ⟨B0, 4, none⟩ = some (.slice a5 n5 c5) := (Below.celz bz _ _ _ (by omega)).trans cc4
      have d5 : we.cell? ⟨B1, 0, none⟩ = some (.slice b1 r1 f1) := (Below.celz bz _ _ _ (by omega)).trans cc5
      have d6 : we.cell? ⟨B1, 1, none⟩ = some (.slice b2 r2 f2) := (Below.celz bz _ _ _ (by omega)).trans cc6
      have d7 : we.cell? ⟨B1, 2, none⟩ = some (.slice b3 r3 f3) := (Below.celz bz _ _ _ (by omega)).trans cc7
      have d8 : we.cell? ⟨B1, 3, none⟩ = some (.slice b4 r4 f4) := (Below.celz bz _ _ _ (by omega)).trans cc8
      have d9 : we.cell? ⟨B1, 4, none⟩ = some (.slice b5 r5 f5) := (Below.celz bz _ _ _ (by omega)).trans cc9
      have y0 : B0 < we.heap.size := by have := Below.size bz; omega
      have y1 : B1 < we.heap.size := by have := Below.size bz; omega
      have BB1 : Below A w we := BB.trans (bz.mono (by omega))
      have sA1 : A ≤ we.heap.size := by have := Below.size bz; omega
      have q0 : Hid (AtWorld we (.slice a1 n1 c1) (.slice a2 n2 c2) (.slice a3 n3 c3) (.slice a4 n4 c4) (.slice a5 n5 c5) x1 x2 x3 x4 x5) := HX.out.keep bz
      have q1 : Hid (AtWorld we (.slice b1 r1 f1) (.slice b2 r2 f2) (.slice b3 r3 f3) (.slice b4 r4 f4) (.slice b5 r5 f5) t1 t2 t3 t4 t5) := HY.out.keep bz
      clear BB sA cc0 cc1 cc2 cc3 cc4 cc5 cc6 cc7 cc8 cc9 zz0 zz1 HX HY
      have cc0 := d0
      have cc1 := d1
      have cc2 := d2
      have cc3 := d3
      have cc4 := d4
      have cc5 := d5
      have cc6 := d6
      have cc7 := d7
      have cc8 := d8
      have cc9 := d9
      have zz0 := y0
      have zz1 := y1
      have HX := q0
      have HY := q1
      have BB := BB1
      have sA := sA1
      clear BB1 sA1 d0 d1 d2 d3 d4 d5 d6 d7 d8 d9 y0 y1 q0 q1
      clear bz
      cases e3 : eqB (x4.map plPool) (t4.map plPool)
      · go_wp2_with fail
        go_ret
        exact ⟨by first | rfl | (simp; done) | (simp [*]; done), (by have := BB; rw [HA.out] at this; exact this)⟩
      · go_wp2_with fail
        refine (eqIntS _ _ x5 t5 _ HX.out.2.2.2.2 HY.out.2.2.2.2 HFW.out.1.2.2.2.2 HFW.out.2.2.2.2.2).mono ?_
        rintro e wf ⟨rfl, bz⟩
        have d0 : wf.cell? ⟨B0, 0, none⟩ = some (.slice a1 n1 c1) := (Below.celz bz _ _ _ (by omega)).trans cc0
        have d1 : wf.cell? ⟨B0, 1, none⟩ = some (.slice a2 n2 c2) := (Below.celz bz _ _ _ (by omega)).trans cc1
        have d2 : wf.cell? ⟨B0, 2, none⟩ = some (.slice a3 n3 c3) := (Below.celz bz _ _ _ (by omega)).trans cc2
        have d3 : wf.cell? ⟨B0, 3, none⟩ = some (.slice a4 n4 c4) := (Below.celz bz _ _ _ (by omega)).trans cc3
        have d4 : wf.cell? ⟨B0, 4, none⟩ = some (.slice a5 n5 c5) := (Below.celz bz _ _ _ (by omega)).trans cc4
        have d5 : wf.cell? ⟨B1, 0, none⟩ = some (.slice b1 r1 f1) := (Below.celz bz _ _ _ (by omega)).trans cc5
        have d6 : wf.cell? ⟨B1, 1, none⟩ = some (.slice b2 r2 f2) := (Below.celz bz _ _ _ (by omega)).trans cc6
        have d7 : wf.cell? ⟨B1, 2, none⟩ = some (.slice b3 r3 f3) := (Below.celz bz _ _ _ (by omega)).trans cc7
        have d8 : wf.cell? ⟨B1, 3, none⟩ = some (.slice b4 r4 f4) := (Below.celz bz _ _ _ (by omega)).trans cc8
        have d9 : wf.cell? ⟨B1, 4, none⟩ = some (.slice b5 r5 f5) := (Below.celz bz _ _ _ (by omega)).trans cc9
        have y0 : B0 < wf.heap.size := by have := Below.size bz; omega
        have y1 : B1 < wf.heap.size := by have := Below.size bz; omega
        have BB1 : Below A w wf := BB.trans (bz.mono (by omega))
        have sA1 : A ≤ wf.heap.size := by have := Below.size bz; omega
        have q0 : Hid (AtWorld wf (.slice a1 n1 c1) (.slice a2 n2 c2) (.slice a3 n3 c3) (.slice a4 n4 c4) (.slice a5 n5 c5) x1 x2 x3 x4 x5) := HX.out.keep bz
        have q1 : Hid (AtWorld wf (.slice b1 r1 f1) (.slice b2 r2 f2) (.slice b3 r3 f3) (.slice b4 r4 f4) (.slice b5 r5 f5) t1 t2 t3 t4 t5) := HY.out.keep bz
        clear BB sA cc0 cc1 cc2 cc3 cc4 cc5 cc6 cc7 cc8 cc9 zz0 zz1 HX HY
        have cc0 := d0
        have cc1 := d1
        have cc2 := d2
        have cc3 := d3
        have cc4 := d4
        have cc5 := d5
        have cc6 := d6
        have cc7 := d7
        have cc8 := d8
        have cc9 := d9
        have zz0 := y0
        have zz1 := y1
        have HX := q0
        have HY := q1
        have BB := BB1
        have sA := sA1
        clear BB1 sA1 d0 d1 d2 d3 d4 d5 d6 d7 d8 d9 y0 y1 q0 q1
        clear bz
        cases e4 : eqB x5 t5
        · go_wp2_with fail
          go_ret
          exact ⟨by first | rfl | (simp; done) | (simp [*]; done), (by have := BB; rw [HA.out] at this; exact this)⟩
        · go_wp2_with fail
          go_ret
          exact ⟨by first | rfl | (simp; done) | (simp [*]; done), (by have := BB; rw [HA.out] at this; exact this)⟩
set_option maxHeartbeats 8000000 in
theorem impl_WorldSame (v1 v2 v3 v4 v5 u1 u2 u3 u4 u5 : Value) (x1 : List (Int × Int × Int)) (x2 : List (Int × Int)) (x3 : List (Int × Int × Int × Int × Int)) (x4 : List (Int × (Value × List (Int × Int)))) (x5 : List Int) (t1 : List (Int × Int × Int)) (t2 : List (Int × Int)) (t3 : List (Int × Int × Int × Int × Int)) (t4 : List (Int × (Value × List (Int × Int)))) (t5 : List Int) (w : World) (h : AtWorld w v1 v2 v3 v4 v5 x1 x2 x3 x4 x5) (k : AtWorld w u1 u2 u3 u4 u5 t1 t2 t3 t4 t5) (fx : FewWorld x1 x2 x3 x4 x5) (fy : FewWorld t1 t2 t3 t4 t5) :
    Calls Try.prog 22 #[.agg #[v1, v2, v3, v4, v5], .agg #[u1, u2, u3, u4, u5]] w fun e w' => e = .returned (.bool (sameW x1 x2 x3 x4 x5 t1 t2 t3 t4 t5)) ∧ Below w.heap.size w w' := by
  unfold sameW
  obtain ⟨a1, c1, a2, c2, a3, c3, a4, c4, a5, c5, rfl, rfl, rfl, rfl, rfl⟩ := h.form
  obtain ⟨b1, f1, b2, f2, b3, f3, b4, f4, b5, f5, rfl, rfl, rfl, rfl, rfl⟩ := k.form
  generalize hn1 : x1.length = n1 at h k ⊢
  generalize hn2 : x2.length = n2 at h k ⊢
  generalize hn3 : x3.length = n3 at h k ⊢
  generalize hn4 : x4.length = n4 at h k ⊢
  generalize hn5 : x5.length = n5 at h k ⊢
  generalize hr1 : t1.length = r1 at h k ⊢
  generalize hr2 : t2.length = r2 at h k ⊢
  generalize hr3 : t3.length = r3 at h k ⊢
  generalize hr4 : t4.length = r4 at h k ⊢
  generalize hr5 : t5.length = r5 at h k ⊢
  have HFW : Hid (FewWorld x1 x2 x3 x4 x5 ∧ FewWorld t1 t2 t3 t4 t5) := ⟨fx, fy⟩
  clear fx fy hn1 hn2 hn3 hn4 hn5 hr1 hr2 hr3 hr4 hr5
  obtain ⟨A, hA⟩ : ∃ t, t = w.heap.size := ⟨_, rfl⟩
  have HA : Hid (A = w.heap.size) := hA
  have BB : Below A w w := Below.refl _ _
  have sA : A ≤ w.heap.size := by omega
  clear hA
  have HX : Hid (AtWorld w (.slice a1 n1 c1) (.slice a2 n2 c2) (.slice a3 n3 c3) (.slice a4 n4 c4) (.slice a5 n5 c5) x1 x2 x3 x4 x5) := h
  have HY : Hid (AtWorld w (.slice b1 r1 f1) (.slice b2 r2 f2) (.slice b3 r3 f3) (.slice b4 r4 f4) (.slice b5 r5 f5) t1 t2 t3 t4 t5) := k
  clear h k
  go_enter Try.func22, Try.ntmps22
  go_wp2_with fail
  obtain ⟨B0, hB0⟩ : ∃ t, t = w.heap.size := ⟨_, rfl⟩
  generalize hW : w.alloc (.cells #[.slice a1 n1 c1, .slice a2 n2 c2, .slice a3 n3 c3, .slice a4 n4 c4, .slice a5 n5 c5] 38) = wa
  have nb : Below w.heap.size w wa := by rw [← hW]; exact (Below.refl _ _).alloc (Nat.le_refl _) _
  have k3 : wa.heap.size = B0 + 1 := by rw [← hW, hB0]; simp
  have kk0 : wa.cell? ⟨B0, 0, none⟩ = some (.slice a1 n1 c1) := by rw [← hW, hB0]; simp [go_sem]
  have kk1 : wa.cell? ⟨B0, 1, none⟩ = some (.slice a2 n2 c2) := by rw [← hW, hB0]; simp [go_sem]
  have kk2 : wa.cell? ⟨B0, 2, none⟩ = some (.slice a3 n3 c3) := by rw [← hW, hB0]; simp [go_sem]
  have kk3 : wa.cell? ⟨B0, 3, none⟩ = some (.slice a4 n4 c4) := by rw [← hW, hB0]; simp [go_sem]
  have kk4 : wa.cell? ⟨B0, 4, none⟩ = some (.slice a5 n5 c5) := by rw [← hW, hB0]; simp [go_sem]
  have oB0A : A ≤ B0 := by rw [hB0]; exact sA
  have BB1 : Below A w wa := BB.trans (nb.mono (by omega))
  have sA1 : A ≤ wa.heap.size := by have := Below.size nb; omega
  have q0 : Hid (AtWorld wa (.slice a1 n1 c1) (.slice a2 n2 c2) (.slice a3 n3 c3) (.slice a4 n4 c4) (.slice a5 n5 c5) x1 x2 x3 x4 x5) := HX.out.keep nb
  have q1 : Hid (AtWorld wa (.slice b1 r1 f1) (.slice b2 r2 f2) (.slice b3 r3 f3) (.slice b4 r4 f4) (.slice b5 r5 f5) t1 t2 t3 t4 t5) := HY.out.keep nb
  clear BB sA   HX HY
  have HX := q0
  have HY := q1
  have BB := BB1
  have sA := sA1
  clear BB1 sA1   q0 q1
  have cc0 := kk0
  have cc1 := kk1
  have cc2 := kk2
  have cc3 := kk3
  have cc4 := kk4
  have zz0 : B0 < wa.heap.size := by omega
  rw [← hB0]
  have k3B0 := k3
  clear k3 hW nb hB0 kk0 kk1 kk2 kk3 kk4
  rw [k3B0.symm]
  obtain ⟨B1, hB1⟩ : ∃ t, t = wa.heap.size := ⟨_, rfl⟩
  generalize hW : wa.alloc (.cells #[.slice b1 r1 f1, .slice b2 r2 f2, .slice b3 r3 f3, .slice b4 r4 f4, .slice b5 r5 f5] 38) = wb
  have nb : Below wa.heap.size wa wb := by rw [← hW]; exact (Below.refl _ _).alloc (Nat.le_refl _) _
  have k3 : wb.heap.size = B1 + 1 := by rw [← hW, hB1]; simp
  have kk0 : wb.cell? ⟨B1, 0, none⟩ = some (.slice b1 r1 f1) := by rw [← hW, hB1]; simp [go_sem]
  have kk1 : wb.cell? ⟨B1, 1, none⟩ = some (.slice b2 r2 f2) := by rw [← hW, hB1]; simp [go_sem]
  have kk2 : wb.cell? ⟨B1, 2, none⟩ = some (.slice b3 r3 f3) := by rw [← hW, hB1]; simp [go_sem]
  have kk3 : wb.cell? ⟨B1, 3, none⟩ = some (.slice b4 r4 f4) := by rw [← hW, hB1]; simp [go_sem]
  have kk4 : wb.cell? ⟨B1, 4, none⟩ = some (.slice b5 r5 f5) := by rw [← hW, hB1]; simp [go_sem]
  have oB1A : A ≤ B1 := by rw [hB1]; exact sA
  have oB10 : B0 < B1 := by rw [hB1]; exact zz0
  have d0 : wb.cell? ⟨B0, 0, none⟩ = some (.slice a1 n1 c1) := (Below.celz nb _ _ _ (by omega)).trans cc0
  have d1 : wb.cell? ⟨B0, 1, none⟩ = some (.slice a2 n2 c2) := (Below.celz nb _ _ _ (by omega)).trans cc1
  have d2 : wb.cell? ⟨B0, 2, none⟩ = some (.slice a3 n3 c3) := (Below.celz nb _ _ _ (by omega)).trans cc2
  have d3 : wb.cell? ⟨B0, 3, none⟩ = some (.slice a4 n4 c4) := (Below.celz nb _ _ _ (by omega)).trans cc3
  have d4 : wb.cell? ⟨B0, 4, none⟩ = some (.slice a5 n5 c5) := (Below.celz nb _ _ _ (by omega)).trans cc4
  have y0 : B0 < wb.heap.size := by have := Below.size nb; omega
  have BB1 : Below A w wb := BB.trans (nb.mono (by omega))
  have sA1 : A ≤ wb.heap.size := by have := Below.size nb; omega
  have q0 : Hid (AtWorld wb (.slice a1 n1 c1) (.slice a2 n2 c2) (.slice a3 n3 c3) (.slice a4 n4 c4) (.slice a5 n5 c5) x1 x2 x3 x4 x5) := HX.out.keep nb
  have q1 : Hid (AtWorld wb (.slice b1 r1 f1) (.slice b2 r2 f2) (.slice b3 r3 f3) (.slice b4 r4 f4) (.slice b5 r5 f5) t1 t2 t3 t4 t5) := HY.out.keep nb
  clear BB sA cc0 cc1 cc2 cc3 cc4 zz0 HX HY
  have cc0 := d0
  have cc1 := d1
  have cc2 := d2
  have cc3 := d3
  have cc4 := d4
  have zz0 := y0
  have HX := q0
  have HY := q1
  have BB := BB1
  have sA := sA1
  clear BB1 sA1 d0 d1 d2 d3 d4 y0 q0 q1
  have cc5 := kk0
  have cc6 := kk1
  have cc7 := kk2
  have cc8 := kk3
  have cc9 := kk4
  have zz1 : B1 < wb.heap.size := by omega
  rw [← hB1]
  have k3B1 := k3
  clear k3 hW nb hB1 kk0 kk1 kk2 kk3 kk4
  clear k3B0 k3B1
  refine (equalPersonS _ _ x1 t1 _ HX.out.1 HY.out.1 HFW.out.1.1 HFW.out.2.1).mono ?_
  rintro e wc ⟨rfl, bz⟩
  have d0 : wc.cell? ⟨B0, 0, none⟩ = some (.slice a1 n1 c1) := (Below.celz bz _ _ _ (by omega)).trans cc0
  have d1 : wc.cell? ⟨B0, 1, none⟩ = some (.slice a2 n2 c2) := (Below.celz bz _ _ _ (by omega)).trans cc1
  have d2 : wc.cell? ⟨B0, 2, none⟩ = some (.slice a3 n3 c3) := (Below.celz bz _ _ _ (by omega)).trans cc2
  have d3 : wc.cell? ⟨B0, 3, none⟩ = some (.slice a4 n4 c4) := (Below.celz bz _ _ _ (by omega)).trans cc3
  have d4 : wc.cell? ⟨B0, 4, none⟩ = some (.slice a5 n5 c5) := (Below.celz bz _ _ _ (by omega)).trans cc4
  have d5 : wc.cell? ⟨B1, 0, none⟩ = some (.slice b1 r1 f1) := (Below.celz bz _ _ _ (by omega)).trans cc5
  have d6 : wc.cell? ⟨B1, 1, none⟩ = some (.slice b2 r2 f2) := (Below.celz bz _ _ _ (by omega)).trans cc6
  have d7 : wc.cell? ⟨B1, 2, none⟩ = some (.slice b3 r3 f3) := (Below.celz bz _ _ _ (by omega)).trans cc7
  have d8 : wc.cell? ⟨B1, 3, none⟩ = some (.slice b4 r4 f4) := (Below.celz bz _ _ _ (by omega)).trans cc8
  have d9 : wc.cell? ⟨B1, 4, none⟩ = some (.slice b5 r5 f5) := (Below.celz bz _ _ _ (by omega)).trans cc9
  have y0 : B0 < wc.heap.size := by have := Below.size bz; omega
  have y1 : B1 < wc.heap.size := by have := Below.size bz; omega
  have BB1 : Below A w wc := BB.trans (bz.mono (by omega))
  have sA1 : A ≤ wc.heap.size := by have := Below.size bz; omega
  have q0 : Hid (AtWorld wc (.slice a1 n1 c1) (.slice a2 n2 c2) (.slice a3 n3 c3) (.slice a4 n4 c4) (.slice a5 n5 c5) x1 x2 x3 x4 x5) := HX.out.keep bz
  have q1 : Hid (AtWorld wc (.slice b1 r1 f1) (.slice b2 r2 f2) (.slice b3 r3 f3) (.slice b4 r4 f4) (.slice b5 r5 f5) t1 t2 t3 t4 t5) := HY.out.keep bz
  clear BB sA cc0 cc1 cc2 cc3 cc4 cc5 cc6 cc7 cc8 cc9 zz0 zz1 HX HY
  have cc0 := d0
  have cc1 := d1
  have cc2 := d2
  have cc3 := d3
  have cc4 := d4
  have cc5 := d5
  have cc6 := d6
  have cc7 := d7
  have cc8 := d8
  have cc9 := d9
  have zz0 := y0
  have zz1 := y1
  have HX := q0
  have HY := q1
  have BB := BB1
  have sA := sA1
  clear BB1 sA1 d0 d1 d2 d3 d4 d5 d6 d7 d8 d9 y0 y1 q0 q1
  clear bz
  cases e1 : eqB x1 t1
  · go_wp2_with fail
    go_ret
    exact ⟨by first | rfl | (simp; done) | (simp [*]; done), (by have := BB; rw [HA.out] at this; exact this)⟩
  · go_wp2_with fail
    refine (impl_GraphSame _ _ _ _ x2 t2 x3 t3 _ HX.out.2.1 HX.out.2.2.1 HY.out.2.1 HY.out.2.2.1 HFW.out.1.2.1 HFW.out.1.2.2.1 HFW.out.2.2.1 HFW.out.2.2.2.1).mono ?_
    rintro e wd ⟨rfl, bz⟩
    have d0 : wd.cell? ⟨B0, 0, none⟩ = some (.slice a1 n1 c1) := (Below.celz bz _ _ _ (by omega)).trans cc0
    have d1 : wd.cell? ⟨B0, 1, none⟩ = some (.slice a2 n2 c2) := (Below.celz bz _ _ _ (by omega)).trans cc1
    have d2 : wd.cell? ⟨B0, 2, none⟩ = some (.slice a3 n3 c3) := (Below.celz bz _ _ _ (by omega)).trans cc2
    have d3 : wd.cell? ⟨B0, 3, none⟩ = some (.slice a4 n4 c4) := (Below.celz bz _ _ _ (by omega)).trans cc3
    have d4 : wd.cell? ⟨B0, 4, none⟩ = some (.slice a5 n5 c5) := (Below.celz bz _ _ _ (by omega)).trans cc4
    have d5 : wd.cell? ⟨B1, 0, none⟩ = some (.slice b1 r1 f1) := (Below.celz bz _ _ _ (by omega)).trans cc5
    have d6 : wd.cell? ⟨B1, 1, none⟩ = some (.slice b2 r2 f2) := (Below.celz bz _ _ _ (by omega)).trans cc6
    have d7 : wd.cell? ⟨B1, 2, none⟩ = some (.slice b3 r3 f3) := (Below.celz bz _ _ _ (by omega)).trans cc7
    have d8 : wd.cell? ⟨B1, 3, none⟩ = some (.slice b4 r4 f4) := (Below.celz bz _ _ _ (by omega)).trans cc8
    have d9 : wd.cell? ⟨B1, 4, none⟩ = some (.slice b5 r5 f5) := (Below.celz bz _ _ _ (by omega)).trans cc9
    have y0 : B0 < wd.heap.size := by have := Below.size bz; omega
    have y1 : B1 < wd.heap.size := by have := Below.size bz; omega
    have BB1 : Below A w wd := BB.trans (bz.mono (by omega))
    have sA1 : A ≤ wd.heap.size := by have := Below.size bz; omega
    have q0 : Hid (AtWorld wd (.slice a1 n1 c1) (.slice a2 n2 c2) (.slice a3 n3 c3) (.slice a4 n4 c4) (.slice a5 n5 c5) x1 x2 x3 x4 x5) := HX.out.keep bz
    have q1 : Hid (AtWorld wd (.slice b1 r1 f1) (.slice b2 r2 f2) (.slice b3 r3 f3) (.slice b4 r4 f4) (.slice b5 r5 f5) t1 t2 t3 t4 t5) := HY.out.keep bz
    clear BB sA cc0 cc1 cc2 cc3 cc4 cc5 cc6 cc7 cc8 cc9 zz0 zz1 HX HY
    have cc0 := d0
    have cc1 := d1
    have cc2 := d2
    have cc3 := d3
    have cc4 := d4
    have cc5 := d5
    have cc6 := d6
    have cc7 := d7
    have cc8 := d8
    have cc9 := d9
    have zz0 := y0
    have zz1 := y1
    have HX := q0
    have HY := q1
    have BB := BB1
    have sA := sA1
    clear BB1 sA1 d0 d1 d2 d3 d4 d5 d6 d7 d8 d9 y0 y1 q0 q1
    clear bz
    cases e2 : (eqB x2 t2 && eqB x3 t3)
    · go_wp2_with fail
      go_ret
      exact ⟨by first | rfl | (simp; done) | (simp [*]; done), (by have := BB; rw [HA.out] at this; exact this)⟩
    · go_wp2_with fail
      refine (equalFuncPoolS _ _ x4 t4 _ HX.out.2.2.2.1 HY.out.2.2.2.1 HFW.out.1.2.2.2.1 HFW.out.2.2.2.2.1).mono ?_
      rintro e we ⟨rfl, bz⟩
      have d0 : we.cell? ⟨B0, 0, none⟩ = some (.slice a1 n1 c1) := (Below.celz bz _ _ _ (by omega)).trans cc0
      have d1 : we.cell? ⟨B0, 1, none⟩ = some (.slice a2 n2 c2) := (Below.celz bz _ _ _ (by omega)).trans cc1
      have d2 : we.cell? ⟨B0, 2, none⟩ = some (.slice a3 n3 c3) := (Below.celz bz _ _ _ (by omega)).trans cc2
      have d3 : we.cell? ⟨B0, 3, none⟩ = some (.slice a4 n4 c4) := (Below.celz bz _ _ _ (by omega)).trans cc3
      have d4 : we.cell? ⟨B0, 4, none⟩ = some (.slice a5 n5 c5) := (Below.celz bz _ _ _ (by omega)).trans cc4
      have d5 : we.cell? ⟨B1, 0, none⟩ = some (.slice b1 r1 f1) := (Below.celz bz _ _ _ (by omega)).trans cc5
      have d6 : we.cell? ⟨B1, 1, none⟩ = some (.slice b2 r2 f2) := (Below.celz bz _ _ _ (by omega)).trans cc6
      have d7 : we.cell? ⟨B1, 2, none⟩ = some (.slice b3 r3 f3) := (Below.celz bz _ _ _ (by omega)).trans cc7
      have d8 : we.cell? ⟨B1, 3, none⟩ = some (.slice b4 r4 f4) := (Below.celz bz _ _ _ (by omega)).trans cc8
      have d9 : we.cell? ⟨B1, 4, none⟩ = some (.slice b5 r5 f5) := (Below.celz bz _ _ _ (by omega)).trans cc9
      have y0 : B0 < we.heap.size := by have := Below.size bz; omega
      have y1 : B1 < we.heap.size := by have := Below.size bz; omega
      have BB1 : Below A w we := BB.trans (bz.mono (by omega))
      have sA1 : A ≤ we.heap.size := by have := Below.size bz; omega
      have q0 : Hid (AtWorld we (.slice a1 n1 c1) (.slice a2 n2 c2) (.slice a3 n3 c3) (.slice a4 n4 c4) (.slice a5 n5 c5) x1 x2 x3 x4 x5) := HX.out.keep bz
      have q1 : Hid (AtWorld we (.slice b1 r1 f1) (.slice b2 r2 f2) (.slice b3 r3 f3) (.slice b4 r4 f4) (.slice b5 r5 f5) t1 t2 t3 t4 t5) := HY.out.keep bz
      clear BB sA cc0 cc1 cc2 cc3 cc4 cc5 cc6 cc7 cc8 cc9 zz0 zz1 HX HY
      have cc0 := d0
      have cc1 := d1
      have cc2 := d2
      have cc3 := d3
      have cc4 := d4
      have cc5 := d5
      have cc6 := d6
      have cc7 := d7
      have cc8 := d8
      have cc9 := d9
      have zz0 := y0
      have zz1 := y1
      have HX := q0
      have HY := q1
      have BB := BB1
      have sA := sA1
      clear BB1 sA1 d0 d1 d2 d3 d4 d5 d6 d7 d8 d9 y0 y1 q0 q1
      clear bz
      cases e3 : eqB (x4.map plPool) (t4.map plPool)
      · go_wp2_with fail
        go_ret
        exact ⟨by first | rfl | (simp; done) | (simp [*]; done), (by have := BB; rw [HA.out] at this; exact this)⟩
      · go_wp2_with fail
        refine (equalIntS _ _ x5 t5 _ HX.out.2.2.2.2 HY.out.2.2.2.2 HFW.out.1.2.2.2.2 HFW.out.2.2.2.2.2).mono ?_
        rintro e wf ⟨rfl, bz⟩
        have d0 : wf.cell? ⟨B0, 0, none⟩ = some (.slice a1 n1 c1) := (Below.celz bz _ _ _ (by omega)).trans cc0
        have d1 : wf.cell? ⟨B0, 1, none⟩ = some (.slice a2 n2 c2) := (Below.celz bz _ _ _ (by omega)).trans cc1
        have d2 : wf.cell? ⟨B0, 2, none⟩ = some (.slice a3 n3 c3) := (Below.celz bz _ _ _ (by omega)).trans cc2
        have d3 : wf.cell? ⟨B0, 3, none⟩ = some (.slice a4 n4 c4) := (Below.celz bz _ _ _ (by omega)).trans cc3
        have d4 : wf.cell? ⟨B0, 4, none⟩ = some (.slice a5 n5 c5) := (Below.celz bz _ _ _ (by omega)).trans cc4
        have d5 : wf.cell? ⟨B1, 0, none⟩ = some (.slice b1 r1 f1) := (Below.celz bz _ _ _ (by omega)).trans cc5
        have d6 : wf.cell? ⟨B1, 1, none⟩ = some (.slice b2 r2 f2) := (Below.celz bz _ _ _ (by omega)).trans cc6
        have d7 : wf.cell? ⟨B1, 2, none⟩ = some (.slice b3 r3 f3) := (Below.celz bz _ _ _ (by omega)).trans cc7
        have d8 : wf.cell? ⟨B1, 3, none⟩ = some (.slice b4 r4 f4) := (Below.celz bz _ _ _ (by omega)).trans cc8
        have d9 : wf.cell? ⟨B1, 4, none⟩ = some (.slice b5 r5 f5) := (Below.celz bz _ _ _ (by omega)).trans cc9
        have y0 : B0 < wf.heap.size := by have := Below.size bz; omega
        have y1 : B1 < wf.heap.size := by have := Below.size bz; omega
        have BB1 : Below A w wf := BB.trans (bz.mono (by omega))
        have sA1 : A ≤ wf.heap.size := by have := Below.size bz; omega
        have q0 : Hid (AtWorld wf (.slice a1 n1 c1) (.slice a2 n2 c2) (.slice a3 n3 c3) (.slice a4 n4 c4) (.slice a5 n5 c5) x1 x2 x3 x4 x5) := HX.out.keep bz
        have q1 : Hid (AtWorld wf (.slice b1 r1 f1) (.slice b2 r2 f2) (.slice b3 r3 f3) (.slice b4 r4 f4) (.slice b5 r5 f5) t1 t2 t3 t4 t5) := HY.out.keep bz
        clear BB sA cc0 cc1 cc2 cc3 cc4 cc5 cc6 cc7 cc8 cc9 zz0 zz1 HX HY
        have cc0 := d0
        have cc1 := d1
        have cc2 := d2
        have cc3 := d3
        have cc4 := d4
        have cc5 := d5
        have cc6 := d6
        have cc7 := d7
        have cc8 := d8
        have cc9 := d9
        have zz0 := y0
        have zz1 := y1
        have HX := q0
        have HY := q1
        have BB := BB1
        have sA := sA1
        clear BB1 sA1 d0 d1 d2 d3 d4 d5 d6 d7 d8 d9 y0 y1 q0 q1
        clear bz
        cases e4 : eqB x5 t5
        · go_wp2_with fail
          go_ret
          exact ⟨by first | rfl | (simp; done) | (simp [*]; done), (by have := BB; rw [HA.out] at this; exact this)⟩
        · go_wp2_with fail
          go_ret
          exact ⟨by first | rfl | (simp; done) | (simp [*]; done), (by have := BB; rw [HA.out] at this; exact this)⟩
end Go.Proofs.Ytnhacflknkgfgaa.Lab

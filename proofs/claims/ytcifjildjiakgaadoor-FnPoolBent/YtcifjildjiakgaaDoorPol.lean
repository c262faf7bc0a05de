/-
  Pools by value: the laws' own functions on them, and PoolSame of both. (Written by tools/mkpag.py.)
-/
import Derived.Test.YtcifjildjiakgaaDoorPag
namespace Go.Proofs.YtcifjildjiakgaaDoor.Lab
open Go.RowKit
set_option linter.unusedVariables false
theorem gr_new {w w' : World} {o : Obj} {r : Option Nat} (h : (w.alloc o).grownBy w' r) : w.grownBy w' r :=
  ⟨h.os, h.tape, h.output, by have := h.size; simp at this; omega, fun k hk hne => (h.block k (by simp; omega) hne).trans (by show (w.heap.push o)[k]? = w.heap[k]?; rw [Array.getElem?_push]; simp; omega)⟩
/-- A pool's pages that the call owns. -/
def OwnPool (w : World) (base : Nat) (v : Value) (ns : List (Int × Int)) : Prop := w.ownsRow base 41 2 v ns.length (ns.flatMap encPage)
theorem OwnPool.keep {w w' : World} {base : Nat} {v : Value} {ns : List (Int × Int)} (h : OwnPool w base v ns) (hb : Below w.heap.size w w') : OwnPool w' base v ns := own_keep h hb
theorem OwnPool.row {w : World} {base : Nat} {v : Value} {ns : List (Int × Int)} (h : OwnPool w base v ns) : RowAt 2 encPage w v ns := row_of_own encPage_len (by decide) h
theorem OwnPool.form {w : World} {base : Nat} {v : Value} {ns : List (Int × Int)} (h : OwnPool w base v ns) : ∃ a c, v = .slice a ns.length c := own_form h
set_option maxHeartbeats 1000000 in
theorem impl_PoolSame (z1 z2 : Int) (v u : Value) (ns ms : List (Int × Int)) (w : World) (h1 : RowAt 2 encPage w v ns) (h3 : RowAt 2 encPage w u ms)
    (l1 : ns.length ≤ 1048576) (l3 : ms.length ≤ 1048576) :
    Calls Tryd.prog 6 #[.agg #[.int .i64 z1, v], .agg #[.int .i64 z2, u]] w fun e w' => e = .returned (.bool (decide (z1 = z2) && eqB ns ms)) ∧ Below w.heap.size w w' := by
  have b0 : ∀ o1 o2, Below w.heap.size w ((w.alloc o1).alloc o2) := fun o1 o2 => by go_grown
  have k1 : ∀ o1 o2, RowAt 2 encPage ((w.alloc o1).alloc o2) v ns := fun o1 o2 => h1.keep (b0 o1 o2)
  have k3 : ∀ o1 o2, RowAt 2 encPage ((w.alloc o1).alloc o2) u ms := fun o1 o2 => h3.keep (b0 o1 o2)
  clear h1 h3
  by_cases hz : z1 = z2
  · subst hz
    go_enter Tryd.func6, Tryd.ntmps6
    go_wp2_with fail
    refine (equalPageS _ _ _ _ _ (k1 _ _) (k3 _ _) l1 l3).mono ?_
    rintro e w1 ⟨rfl, bel1⟩
    have B1 : Hid (Below w.heap.size w w1) := (b0 _ _).trans (bel1.mono (by simp; omega))
    clear k1 k3 b0 bel1
    cases hq : eqB ns ms
    · go_wp2_with fail
      go_ret
      exact ⟨by simp [hq], B1.out⟩
    · go_wp2_with fail
      go_ret
      exact ⟨by simp [hq], B1.out⟩
  · have hd : (z1 != z2) = true := by simpa using hz
    have hd2 : (z1 == z2) = false := by simpa using hz
    have hd3 : decide (z1 = z2) = false := by simpa using hz
    clear hz k1 k3
    go_enter Tryd.func6, Tryd.ntmps6
    go_wp2_with fail
    go_ret
    exact ⟨by first | rfl | simp [hd3], b0 _ _⟩
set_option maxHeartbeats 4000000 in
theorem spec_PoolSame_len (z1 z2 : Int) (a1 a3 : Option Addr) (n1 n3 c1 c3 : Nat) (w : World) (l1 : n1 ≤ 1048576) (l3 : n3 ≤ 1048576) (hne : z1 ≠ z2 ∨ n1 ≠ n3) :
    Calls Tryd.prog 7 #[.agg #[.int .i64 z1, .slice a1 n1 c1], .agg #[.int .i64 z2, .slice a3 n3 c3]] w fun e w' => e = .returned (.bool false) ∧ Below w.heap.size w w' := by
  by_cases h : z1 = z2
  · subst h
    have h2 : n1 ≠ n3 := by simpa using hne
    have hd : ((n1 : Int) != (n3 : Int)) = true := by rw [bne_iff_ne]; omega
    clear hne h2
    go_enter Tryd.func7, Tryd.ntmps7
    go_wp2_with fail
    go_ret
    exact ⟨rfl, by go_grown⟩
  · have hd : (z1 != z2) = true := by simpa using h
    clear hne h
    go_enter Tryd.func7, Tryd.ntmps7
    go_wp2_with fail
    go_ret
    exact ⟨rfl, by go_grown⟩
set_option maxHeartbeats 8000000 in
theorem spec_PoolSame_walk (z : Int) (a1 a3 : Option Addr) (n c1 c3 : Nat) (ns ms : List (Int × Int)) (w : World) (H1 : Hid (RowAt 2 encPage w (.slice a1 n c1) ns)) (H3 : Hid (RowAt 2 encPage w (.slice a3 n c3) ms))
    (HN1 : Hid (n = ns.length ∧ n = ms.length)) (hn : n ≤ 1048576) :
    Calls Tryd.prog 7 #[.agg #[.int .i64 z, .slice a1 n c1], .agg #[.int .i64 z, .slice a3 n c3]] w fun e w' => e = .returned (.bool (eqB ns ms)) ∧ Below w.heap.size w w' := by
  obtain ⟨W0, hW0⟩ : ∃ W0, W0 = (w.alloc (.cells #[.int .i64 z, .slice a1 n c1] 25)).alloc (.cells #[.int .i64 z, .slice a3 n c3] 25) := ⟨_, rfl⟩
  have b0 : Below w.heap.size w W0 := by rw [hW0]; go_grown
  have hW : W0.heap.size = w.heap.size + 2 := by rw [hW0]; simp
  have G0 : W0.cell? ⟨w.heap.size, 0, none⟩ = some (.int .i64 z) := by rw [hW0]; simp [go_sem]
  have G1 : W0.cell? ⟨w.heap.size, 1, none⟩ = some (.slice a1 n c1) := by rw [hW0]; simp [go_sem]
  have F0 : W0.cell? ⟨w.heap.size + 1, 0, none⟩ = some (.int .i64 z) := by rw [hW0]; simp [go_sem]
  have F1 : W0.cell? ⟨w.heap.size + 1, 1, none⟩ = some (.slice a3 n c3) := by rw [hW0]; simp [go_sem]
  go_enter Tryd.func7, Tryd.ntmps7
  go_wp2_with fail
  simp only [← hW0]
  clear hW0
  go_loopw [5] (fun i wr => ∃ k : Nat, k ≤ n ∧ i = .int .i64 k ∧ Below W0.heap.size W0 wr ∧ ∀ j, j < k → ns[j]? = ms[j]?) (fun i _ => n - (intOf i).toNat)
  case atStart => exact ⟨0, by omega, rfl, Below.refl _ _, fun j hj => by omega⟩
  case round =>
    obtain ⟨k, hk, rfl, hbel, hq⟩ := hrel
    have HQ : Hid (∀ j, j < k → ns[j]? = ms[j]?) := hq
    clear hq
    have g0 : wr.cell? ⟨w.heap.size, 1, none⟩ = some (.slice a1 n c1) := by rw [Below.celz hbel _ _ _ (by omega)]; exact G1
    have g1 : wr.cell? ⟨w.heap.size + 1, 1, none⟩ = some (.slice a3 n c3) := by rw [Below.celz hbel _ _ _ (by omega)]; exact F1
    have z0 : w.heap.size < wr.heap.size := by have := hbel.size; omega
    have z1 : w.heap.size + 1 < wr.heap.size := by have := hbel.size; omega
    by_cases hlt : k < n
    · rcases H1.out with ⟨hz, _⟩ | ⟨_, b1, o1, q1, hv1, hb1, E1⟩
      · rw [hz] at HN1; have := HN1.out; simp at this; omega
      rcases H3.out with ⟨hz, _⟩ | ⟨_, b2, o2, q2, hv2, hb2, E2⟩
      · rw [hz] at HN1; have := HN1.out; simp at this; omega
      obtain rfl : a1 = some ⟨b1, o1, none⟩ := by injection hv1
      obtain rfl : a3 = some ⟨b2, o2, none⟩ := by injection hv2
      obtain ⟨⟨m0, m1⟩, hx⟩ : ∃ x, ns[k]? = some x := ⟨_, List.getElem?_eq_getElem (by rw [← HN1.out.1]; exact hlt)⟩
      obtain ⟨⟨p0, p1⟩, hy⟩ : ∃ x, ms[k]? = some x := ⟨_, List.getElem?_eq_getElem (by rw [← HN1.out.2]; exact hlt)⟩
      have e0 : wr.cell? ⟨b1, o1 + k * 2, none⟩ = some (.int .i64 m0) := by rw [Below.celz hbel _ _ _ (by omega), Below.celz b0 _ _ _ (by omega)]; exact E1 k _ hx 0 _ rfl
      have e1 : wr.cell? ⟨b1, o1 + k * 2 + 1, none⟩ = some (.int .i64 m1) := by rw [Below.celz hbel _ _ _ (by omega), Below.celz b0 _ _ _ (by omega)]; exact E1 k _ hx 1 _ rfl
      have f0 : wr.cell? ⟨b2, o2 + k * 2, none⟩ = some (.int .i64 p0) := by rw [Below.celz hbel _ _ _ (by omega), Below.celz b0 _ _ _ (by omega)]; exact E2 k _ hy 0 _ rfl
      have f1 : wr.cell? ⟨b2, o2 + k * 2 + 1, none⟩ = some (.int .i64 p1) := by rw [Below.celz hbel _ _ _ (by omega), Below.celz b0 _ _ _ (by omega)]; exact E2 k _ hy 1 _ rfl
      have HX : Hid (ns[k]? = some (m0, m1) ∧ ms[k]? = some (p0, p1)) := ⟨hx, hy⟩
      have z2 : b1 < wr.heap.size := by omega
      have z3 : b2 < wr.heap.size := by omega
      have k0 : (0 : Int) ≤ (k : Int) := by omega
      have k1 : (k : Int) < (n : Int) := by omega
      have HB : Hid (Below W0.heap.size W0 wr) := hbel
      clear hx hy hbel E1 E2 hv1 hv2
      by_cases h0 : m0 = p0
      · subst h0
        by_cases h1 : m1 = p1
        · subst h1
          go_wp2_with fail
          refine wp_region_after (by kernel_rfl) (by kernel_rfl) ?_
          intro hne hac
          repeat (go_big_quiet_step (fail))
          refine wpQuiet_nil ?_
          rintro _ ⟨p, rfl⟩
          have hbq : Hid (Below W0.heap.size W0 p.w) := HB.out.trans (p.bel.mono (by omega))
          clear hac hne
          generalize p.w = wq at *
          go_wp2_with fail
          go_roundw
          case rel =>
            refine ⟨k + 1, by omega, by go_num, hbq.out, fun j hj => ?_⟩
            rcases Nat.lt_succ_iff_lt_or_eq.1 hj with h | rfl
            · exact HQ.out j h
            · rw [HX.out.1, HX.out.2]
          case measure => simp [intOf]; omega
        · have HD : Hid (¬ m1 = p1) := h1
          have d1 : (m1 == p1) = false := beq_eq_false_iff_ne.2 h1
          have t1 : (m1 != p1) = true := by simpa using h1
          have u1 : decide (m1 = p1) = false := by simpa using h1
          clear h1
          go_wp2_with fail
          refine wp_region_after (by kernel_rfl) (by kernel_rfl) ?_
          intro hne hac
          repeat (go_big_quiet_step (fail))
          refine wpQuiet_nil ?_
          rintro _ ⟨p, rfl⟩
          have hbq : Hid (Below W0.heap.size W0 p.w) := HB.out.trans (p.bel.mono (by omega))
          clear hac hne
          generalize p.w = wq at *
          go_wp2_with fail
          go_ret
          refine ⟨?_, b0.trans (hbq.out.mono (by omega))⟩
          have : eqB ns ms = false := by
            rw [eqB_false]
            intro h
            have h3 := HX.out.1
            rw [h, HX.out.2] at h3
            simp at h3
            exact HD.out (by simp [h3])
          simp [this]
      · have HD : Hid (¬ m0 = p0) := h0
        have d0 : (m0 == p0) = false := beq_eq_false_iff_ne.2 h0
        have t0 : (m0 != p0) = true := by simpa using h0
        have u0 : decide (m0 = p0) = false := by simpa using h0
        clear h0
        go_wp2_with fail
        refine wp_region_after (by kernel_rfl) (by kernel_rfl) ?_
        intro hne hac
        repeat (go_big_quiet_step (fail))
        refine wpQuiet_nil ?_
        rintro _ ⟨p, rfl⟩
        have hbq : Hid (Below W0.heap.size W0 p.w) := HB.out.trans (p.bel.mono (by omega))
        clear hac hne
        generalize p.w = wq at *
        go_wp2_with fail
        go_ret
        refine ⟨?_, b0.trans (hbq.out.mono (by omega))⟩
        have : eqB ns ms = false := by
          rw [eqB_false]
          intro h
          have h3 := HX.out.1
          rw [h, HX.out.2] at h3
          simp at h3
          exact HD.out (by simp [h3])
        simp [this]
    · have hkn : n = k := by omega
      subst hkn
      have heq : ns = ms := by
        apply List.ext_getElem?
        intro j
        by_cases hj : j < n
        · exact HQ.out j hj
        · rw [List.getElem?_eq_none (by have := HN1.out; omega), List.getElem?_eq_none (by have := HN1.out; omega)]
      go_wp2_with fail
      go_ret
      exact ⟨by rw [eqB_true.2 heq]; simp, b0.trans (hbel.mono (by omega))⟩
theorem spec_PoolSame (z1 z2 : Int) (v u : Value) (ns ms : List (Int × Int)) (w : World) (h1 : RowAt 2 encPage w v ns) (h3 : RowAt 2 encPage w u ms) (l1 : ns.length ≤ 1048576) (l3 : ms.length ≤ 1048576) :
    Calls Tryd.prog 7 #[.agg #[.int .i64 z1, v], .agg #[.int .i64 z2, u]] w fun e w' => e = .returned (.bool (decide (z1 = z2) && eqB ns ms)) ∧ Below w.heap.size w w' := by
  obtain ⟨a1, c1, rfl⟩ := h1.len
  obtain ⟨a3, c3, rfl⟩ := h3.len
  by_cases hl : z1 = z2 ∧ ns.length = ms.length
  · obtain ⟨rfl, p1⟩ := hl
    rw [← p1] at h3
    rw [← p1]
    exact (spec_PoolSame_walk z1 a1 a3 ns.length c1 c3 ns ms w h1 h3 ⟨rfl, p1⟩ l1).mono (fun e w' h => ⟨by rw [h.1]; simp, h.2⟩)
  · refine (spec_PoolSame_len z1 z2 a1 a3 _ _ c1 c3 w l1 l3 (by omega)).mono (fun e w' h => ⟨?_, h.2⟩)
    rw [h.1]
    have : (decide (z1 = z2) && eqB ns ms) = false := by
      rw [Bool.and_eq_false_iff, eqB_false]
      by_cases p1 : z1 = z2
      · right; intro p2; exact hl ⟨p1, by rw [p2]⟩
      · exact .inl (by simpa using p1)
    rw [this]
end Go.Proofs.YtcifjildjiakgaaDoor.Lab

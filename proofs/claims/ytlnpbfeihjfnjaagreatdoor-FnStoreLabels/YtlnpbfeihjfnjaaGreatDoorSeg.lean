/-
  Contracts of the laws' own functions on slices of Seg. (Written by tools/mkseg.py.)
-/
import Derived.Test.YtlnpbfeihjfnjaaGreatDoorRow
import Derived.Test.YtlnpbfeihjfnjaaGreatDoorNod
namespace Go.Proofs.YtlnpbfeihjfnjaaGreatDoor.Lab
open Go.RowKit
set_option linter.unusedVariables false
def encSeg (x : Int × List UInt8) : List Value := [.int .i64 x.1, .string ⟨x.2.toArray⟩]
theorem encSeg_len (x : Int × List UInt8) : (encSeg x).length = 2 := rfl
theorem Tryz.infoSeg : (Tryz.prog.info? 60).map (fun i => (i.zero, i.size, i.bytes)) = some (some (.agg #[.int .i64 0, .string ⟨#[]⟩]), 2, 24) := by kernel_rfl
set_option maxHeartbeats 4000000 in
theorem equalSegS_some (b1 o1 c1 b2 o2 c2 : Nat) (xs ys : List (Int × List UInt8)) (w : World) (hlen : xs.length = ys.length) (hl : xs.length ≤ 1048576) (hb1 : b1 < w.heap.size) (hb2 : b2 < w.heap.size)
    (h1 : ∀ j x, xs[j]? = some x → ∀ i u, (encSeg x)[i]? = some u → w.cell? ⟨b1, o1 + j * 2 + i, none⟩ = some u) (h2 : ∀ j x, ys[j]? = some x → ∀ i u, (encSeg x)[i]? = some u → w.cell? ⟨b2, o2 + j * 2 + i, none⟩ = some u) :
    Calls Tryz.prog 36 #[.slice (some ⟨b1, o1, none⟩) xs.length c1, .slice (some ⟨b2, o2, none⟩) xs.length c2] w fun e w' => e = .returned (.bool (eqB xs ys)) ∧ Below w.heap.size w w' := by
  have H1 : Hid (∀ j x, xs[j]? = some x → ∀ i u, (encSeg x)[i]? = some u → w.cell? ⟨b1, o1 + j * 2 + i, none⟩ = some u) := h1
  have H2 : Hid (∀ j x, ys[j]? = some x → ∀ i u, (encSeg x)[i]? = some u → w.cell? ⟨b2, o2 + j * 2 + i, none⟩ = some u) := h2
  clear h1 h2
  obtain ⟨n, hn⟩ : ∃ n, n = xs.length := ⟨_, rfl⟩
  have HN : Hid (n = xs.length ∧ n = ys.length) := ⟨hn, by omega⟩
  rw [← hn] at hl ⊢
  clear hn hlen
  go_enter Tryz.func36, Tryz.ntmps36
  go_wp2_with fail
  go_loopw [13] (fun i wr => ∃ k : Nat, k ≤ n ∧ i = .int .i64 k ∧ Below w.heap.size w wr ∧ ∀ j, j < k → xs[j]? = ys[j]?) (fun i _ => n - (intOf i).toNat)
  case atStart => exact ⟨0, by omega, rfl, Below.refl _ _, fun j hj => by omega⟩
  case round =>
    obtain ⟨k, hk, rfl, hbel, hq⟩ := hrel
    have HQ : Hid (∀ j, j < k → xs[j]? = ys[j]?) := hq
    clear hq
    by_cases hlt : k < n
    · obtain ⟨⟨m0, m1⟩, hx⟩ : ∃ x, xs[k]? = some x := ⟨_, List.getElem?_eq_getElem (by rw [← HN.out.1]; exact hlt)⟩
      obtain ⟨⟨p0, p1⟩, hy⟩ : ∃ x, ys[k]? = some x := ⟨_, List.getElem?_eq_getElem (by rw [← HN.out.2]; exact hlt)⟩
      have e0 : wr.cell? ⟨b1, o1 + k * 2, none⟩ = some (.int .i64 m0) := by rw [hbel.cell (p := ⟨b1, _, none⟩) hb1]; exact H1.out k _ hx 0 _ rfl
      have e1 : wr.cell? ⟨b1, o1 + k * 2 + 1, none⟩ = some (.string ⟨m1.toArray⟩) := by rw [hbel.cell (p := ⟨b1, _, none⟩) hb1]; exact H1.out k _ hx 1 _ rfl
      have f0 : wr.cell? ⟨b2, o2 + k * 2, none⟩ = some (.int .i64 p0) := by rw [hbel.cell (p := ⟨b2, _, none⟩) hb2]; exact H2.out k _ hy 0 _ rfl
      have f1 : wr.cell? ⟨b2, o2 + k * 2 + 1, none⟩ = some (.string ⟨p1.toArray⟩) := by rw [hbel.cell (p := ⟨b2, _, none⟩) hb2]; exact H2.out k _ hy 1 _ rfl
      have HX : Hid (xs[k]? = some (m0, m1) ∧ ys[k]? = some (p0, p1)) := ⟨hx, hy⟩
      have hq1 : b1 < wr.heap.size := Nat.lt_of_lt_of_le hb1 hbel.size
      have hq2 : b2 < wr.heap.size := Nat.lt_of_lt_of_le hb2 hbel.size
      have k0 : (0 : Int) ≤ (k : Int) := by omega
      have k1 : (k : Int) < (n : Int) := by omega
      have HB : Hid (Below w.heap.size w wr) := hbel
      clear hx hy hbel
      by_cases h0 : m0 = p0
      · subst h0
        by_cases h1 : m1 = p1
        · subst h1
          go_wp2_with fail
          refine wp_region_after (by kernel_rfl) (by kernel_rfl) ?_
          intro hne hac
          repeat (go_big_quiet_step (fail))
          refine wpQuiet_nil ?_
          rintro _ ⟨p, rfl⟩
          have hbq : Hid (Below w.heap.size w p.w) := HB.out.trans (p.bel.mono HB.out.size)
          clear hac hne
          generalize p.w = wq at *
          go_wp2_with fail
          go_roundw
          case rel =>
            refine ⟨k + 1, by omega, by go_num, hbq.out, fun j hj => ?_⟩
            rcases Nat.lt_succ_iff_lt_or_eq.1 hj with h | rfl
            · exact HQ.out j h
            · rw [HX.out.1, HX.out.2]
          case measure => simp [intOf]; omega
        · have HD : Hid (¬ m1 = p1) := h1
          have d1 : (m1 == p1) = false := beq_eq_false_iff_ne.2 h1
          have t1 : (m1 != p1) = true := by simpa using h1
          have u1 : decide (m1 = p1) = false := by simpa using h1
          clear h1
          go_wp2_with fail
          refine wp_region_after (by kernel_rfl) (by kernel_rfl) ?_
          intro hne hac
          repeat (go_big_quiet_step (fail))
          refine wpQuiet_nil ?_
          rintro _ ⟨p, rfl⟩
          have hbq : Hid (Below w.heap.size w p.w) := HB.out.trans (p.bel.mono HB.out.size)
          clear hac hne
          generalize p.w = wq at *
          go_wp2_with fail
          go_ret
          refine ⟨?_, hbq.out⟩
          have : eqB xs ys = false := by
            rw [eqB_false]
            intro h
            have h3 := HX.out.1
            rw [h, HX.out.2] at h3
            simp at h3
            exact HD.out (by simp [h3])
          rw [this]; rfl
      · have HD : Hid (¬ m0 = p0) := h0
        have d0 : (m0 == p0) = false := beq_eq_false_iff_ne.2 h0
        have t0 : (m0 != p0) = true := by simpa using h0
        have u0 : decide (m0 = p0) = false := by simpa using h0
        clear h0
        go_wp2_with fail
        refine wp_region_after (by kernel_rfl) (by kernel_rfl) ?_
        intro hne hac
        repeat (go_big_quiet_step (fail))
        refine wpQuiet_nil ?_
        rintro _ ⟨p, rfl⟩
        have hbq : Hid (Below w.heap.size w p.w) := HB.out.trans (p.bel.mono HB.out.size)
        clear hac hne
        generalize p.w = wq at *
        go_wp2_with fail
        go_ret
        refine ⟨?_, hbq.out⟩
        have : eqB xs ys = false := by
          rw [eqB_false]
          intro h
          have h3 := HX.out.1
          rw [h, HX.out.2] at h3
          simp at h3
          exact HD.out (by simp [h3])
        rw [this]; rfl
    · have hkn : k = n := by omega
      subst hkn
      go_wp2_with fail
      go_ret
      refine ⟨?_, hbel⟩
      have : xs = ys := by
        apply List.ext_getElem?
        intro j
        by_cases hj : j < k
        · exact HQ.out j hj
        · rw [List.getElem?_eq_none (by have := HN.out; omega), List.getElem?_eq_none (by have := HN.out; omega)]
      rw [eqB_true.2 this]; rfl
set_option maxHeartbeats 400000 in
theorem equalSegS_len (a1 a2 : Option Addr) (n1 c1 n2 c2 : Nat) (w : World) (h1 : n1 ≤ 1048576) (h2 : n2 ≤ 1048576) (hne : n1 ≠ n2) :
    Calls Tryz.prog 36 #[.slice a1 n1 c1, .slice a2 n2 c2] w fun e w' => e = .returned (.bool false) ∧ w' = w := by
  have hd : ((n1 : Int) != (n2 : Int)) = true := by rw [bne_iff_ne]; omega
  clear hne
  go_enter Tryz.func36, Tryz.ntmps36
  go_wp2
  go_ret
  exact ⟨rfl, rfl⟩
set_option maxHeartbeats 400000 in
theorem equalSegS_empty (a1 a2 : Option Addr) (c1 c2 : Nat) (w : World) :
    Calls Tryz.prog 36 #[.slice a1 0 c1, .slice a2 0 c2] w fun e w' => e = .returned (.bool true) ∧ w' = w := by
  go_enter Tryz.func36, Tryz.ntmps36
  go_wp2
  refine wp_loop_rounds 1 ?_
  rw [rounds_succ]
  go_wp2
  go_ret
  exact ⟨rfl, rfl⟩
theorem equalSegS (v1 v2 : Value) (xs ys : List (Int × List UInt8)) (w : World) (h1 : RowAt 2 encSeg w v1 xs) (h2 : RowAt 2 encSeg w v2 ys) (hb1 : xs.length ≤ 1048576) (hb2 : ys.length ≤ 1048576) :
    Calls Tryz.prog 36 #[v1, v2] w fun e w' => e = .returned (.bool (eqB xs ys)) ∧ Below w.heap.size w w' := by
  by_cases hl : xs.length = ys.length
  · rcases h1 with ⟨rfl, a1, c1, rfl⟩ | ⟨p1, b1, o1, c1, rfl, l1, e1⟩
    · have hm : ys = [] := List.length_eq_zero_iff.1 (by simpa using hl.symm)
      subst hm
      obtain ⟨a2, c2, rfl⟩ := h2.len
      exact (equalSegS_empty a1 a2 c1 c2 w).mono (fun e w' h => ⟨by rw [h.1, eqB_true.2 rfl], by rw [h.2]; exact Below.refl _ _⟩)
    · rcases h2 with ⟨rfl, a2, c2, rfl⟩ | ⟨p2, b2, o2, c2, rfl, l2, e2⟩
      · simp at hl; subst hl; simp at p1
      · rw [← hl]
        exact equalSegS_some b1 o1 c1 b2 o2 c2 xs ys w hl hb1 l1 l2 e1 e2
  · have hf : eqB xs ys = false := by rw [eqB_false]; intro h; exact hl (by rw [h])
    rw [hf]
    obtain ⟨a1, c1, rfl⟩ := h1.len
    obtain ⟨a2, c2, rfl⟩ := h2.len
    exact (equalSegS_len a1 a2 _ c1 _ c2 w hb1 hb2 hl).mono (fun e w' h => ⟨h.1, by rw [h.2]; exact Below.refl _ _⟩)
set_option maxHeartbeats 4000000 in
theorem specStoreSame_some (b1 o1 c1 b2 o2 c2 : Nat) (xs ys : List (Int × List UInt8)) (w : World) (hlen : xs.length = ys.length) (hl : xs.length ≤ 1048576) (hb1 : b1 < w.heap.size) (hb2 : b2 < w.heap.size)
    (h1 : ∀ j x, xs[j]? = some x → ∀ i u, (encSeg x)[i]? = some u → w.cell? ⟨b1, o1 + j * 2 + i, none⟩ = some u) (h2 : ∀ j x, ys[j]? = some x → ∀ i u, (encSeg x)[i]? = some u → w.cell? ⟨b2, o2 + j * 2 + i, none⟩ = some u) :
    Calls Tryz.prog 33 #[.slice (some ⟨b1, o1, none⟩) xs.length c1, .slice (some ⟨b2, o2, none⟩) xs.length c2] w fun e w' => e = .returned (.bool (eqB xs ys)) ∧ Below w.heap.size w w' := by
  have H1 : Hid (∀ j x, xs[j]? = some x → ∀ i u, (encSeg x)[i]? = some u → w.cell? ⟨b1, o1 + j * 2 + i, none⟩ = some u) := h1
  have H2 : Hid (∀ j x, ys[j]? = some x → ∀ i u, (encSeg x)[i]? = some u → w.cell? ⟨b2, o2 + j * 2 + i, none⟩ = some u) := h2
  clear h1 h2
  obtain ⟨n, hn⟩ : ∃ n, n = xs.length := ⟨_, rfl⟩
  have HN : Hid (n = xs.length ∧ n = ys.length) := ⟨hn, by omega⟩
  rw [← hn] at hl ⊢
  clear hn hlen
  go_enter Tryz.func33, Tryz.ntmps33
  go_wp2_with fail
  go_loopw [5] (fun i wr => ∃ k : Nat, k ≤ n ∧ i = .int .i64 k ∧ Below w.heap.size w wr ∧ ∀ j, j < k → xs[j]? = ys[j]?) (fun i _ => n - (intOf i).toNat)
  case atStart => exact ⟨0, by omega, rfl, Below.refl _ _, fun j hj => by omega⟩
  case round =>
    obtain ⟨k, hk, rfl, hbel, hq⟩ := hrel
    have HQ : Hid (∀ j, j < k → xs[j]? = ys[j]?) := hq
    clear hq
    by_cases hlt : k < n
    · obtain ⟨⟨m0, m1⟩, hx⟩ : ∃ x, xs[k]? = some x := ⟨_, List.getElem?_eq_getElem (by rw [← HN.out.1]; exact hlt)⟩
      obtain ⟨⟨p0, p1⟩, hy⟩ : ∃ x, ys[k]? = some x := ⟨_, List.getElem?_eq_getElem (by rw [← HN.out.2]; exact hlt)⟩
      have e0 : wr.cell? ⟨b1, o1 + k * 2, none⟩ = some (.int .i64 m0) := by rw [hbel.cell (p := ⟨b1, _, none⟩) hb1]; exact H1.out k _ hx 0 _ rfl
      have e1 : wr.cell? ⟨b1, o1 + k * 2 + 1, none⟩ = some (.string ⟨m1.toArray⟩) := by rw [hbel.cell (p := ⟨b1, _, none⟩) hb1]; exact H1.out k _ hx 1 _ rfl
      have f0 : wr.cell? ⟨b2, o2 + k * 2, none⟩ = some (.int .i64 p0) := by rw [hbel.cell (p := ⟨b2, _, none⟩) hb2]; exact H2.out k _ hy 0 _ rfl
      have f1 : wr.cell? ⟨b2, o2 + k * 2 + 1, none⟩ = some (.string ⟨p1.toArray⟩) := by rw [hbel.cell (p := ⟨b2, _, none⟩) hb2]; exact H2.out k _ hy 1 _ rfl
      have HX : Hid (xs[k]? = some (m0, m1) ∧ ys[k]? = some (p0, p1)) := ⟨hx, hy⟩
      have hq1 : b1 < wr.heap.size := Nat.lt_of_lt_of_le hb1 hbel.size
      have hq2 : b2 < wr.heap.size := Nat.lt_of_lt_of_le hb2 hbel.size
      have k0 : (0 : Int) ≤ (k : Int) := by omega
      have k1 : (k : Int) < (n : Int) := by omega
      have HB : Hid (Below w.heap.size w wr) := hbel
      clear hx hy hbel
      by_cases h0 : m0 = p0
      · subst h0
        by_cases h1 : m1 = p1
        · subst h1
          go_wp2_with fail
          refine wp_region_after (by kernel_rfl) (by kernel_rfl) ?_
          intro hne hac
          repeat (go_big_quiet_step (fail))
          refine wpQuiet_nil ?_
          rintro _ ⟨p, rfl⟩
          have hbq : Hid (Below w.heap.size w p.w) := HB.out.trans (p.bel.mono HB.out.size)
          clear hac hne
          generalize p.w = wq at *
          go_wp2_with fail
          go_roundw
          case rel =>
            refine ⟨k + 1, by omega, by go_num, hbq.out, fun j hj => ?_⟩
            rcases Nat.lt_succ_iff_lt_or_eq.1 hj with h | rfl
            · exact HQ.out j h
            · rw [HX.out.1, HX.out.2]
          case measure => simp [intOf]; omega
        · have HD : Hid (¬ m1 = p1) := h1
          have d1 : (m1 == p1) = false := beq_eq_false_iff_ne.2 h1
          have t1 : (m1 != p1) = true := by simpa using h1
          have u1 : decide (m1 = p1) = false := by simpa using h1
          clear h1
          go_wp2_with fail
          refine wp_region_after (by kernel_rfl) (by kernel_rfl) ?_
          intro hne hac
          repeat (go_big_quiet_step (fail))
          refine wpQuiet_nil ?_
          rintro _ ⟨p, rfl⟩
          have hbq : Hid (Below w.heap.size w p.w) := HB.out.trans (p.bel.mono HB.out.size)
          clear hac hne
          generalize p.w = wq at *
          go_wp2_with fail
          go_ret
          refine ⟨?_, hbq.out⟩
          have : eqB xs ys = false := by
            rw [eqB_false]
            intro h
            have h3 := HX.out.1
            rw [h, HX.out.2] at h3
            simp at h3
            exact HD.out (by simp [h3])
          rw [this]; rfl
      · have HD : Hid (¬ m0 = p0) := h0
        have d0 : (m0 == p0) = false := beq_eq_false_iff_ne.2 h0
        have t0 : (m0 != p0) = true := by simpa using h0
        have u0 : decide (m0 = p0) = false := by simpa using h0
        clear h0
        go_wp2_with fail
        refine wp_region_after (by kernel_rfl) (by kernel_rfl) ?_
        intro hne hac
        repeat (go_big_quiet_step (fail))
        refine wpQuiet_nil ?_
        rintro _ ⟨p, rfl⟩
        have hbq : Hid (Below w.heap.size w p.w) := HB.out.trans (p.bel.mono HB.out.size)
        clear hac hne
        generalize p.w = wq at *
        go_wp2_with fail
        go_ret
        refine ⟨?_, hbq.out⟩
        have : eqB xs ys = false := by
          rw [eqB_false]
          intro h
          have h3 := HX.out.1
          rw [h, HX.out.2] at h3
          simp at h3
          exact HD.out (by simp [h3])
        rw [this]; rfl
    · have hkn : k = n := by omega
      subst hkn
      go_wp2_with fail
      go_ret
      refine ⟨?_, hbel⟩
      have : xs = ys := by
        apply List.ext_getElem?
        intro j
        by_cases hj : j < k
        · exact HQ.out j hj
        · rw [List.getElem?_eq_none (by have := HN.out; omega), List.getElem?_eq_none (by have := HN.out; omega)]
      rw [eqB_true.2 this]; rfl
set_option maxHeartbeats 400000 in
theorem specStoreSame_len (a1 a2 : Option Addr) (n1 c1 n2 c2 : Nat) (w : World) (h1 : n1 ≤ 1048576) (h2 : n2 ≤ 1048576) (hne : n1 ≠ n2) :
    Calls Tryz.prog 33 #[.slice a1 n1 c1, .slice a2 n2 c2] w fun e w' => e = .returned (.bool false) ∧ w' = w := by
  have hd : ((n1 : Int) != (n2 : Int)) = true := by rw [bne_iff_ne]; omega
  clear hne
  go_enter Tryz.func33, Tryz.ntmps33
  go_wp2
  go_ret
  exact ⟨rfl, rfl⟩
set_option maxHeartbeats 400000 in
theorem specStoreSame_empty (a1 a2 : Option Addr) (c1 c2 : Nat) (w : World) :
    Calls Tryz.prog 33 #[.slice a1 0 c1, .slice a2 0 c2] w fun e w' => e = .returned (.bool true) ∧ w' = w := by
  go_enter Tryz.func33, Tryz.ntmps33
  go_wp2
  refine wp_loop_rounds 1 ?_
  rw [rounds_succ]
  go_wp2
  go_ret
  exact ⟨rfl, rfl⟩
theorem specStoreSame (v1 v2 : Value) (xs ys : List (Int × List UInt8)) (w : World) (h1 : RowAt 2 encSeg w v1 xs) (h2 : RowAt 2 encSeg w v2 ys) (hb1 : xs.length ≤ 1048576) (hb2 : ys.length ≤ 1048576) :
    Calls Tryz.prog 33 #[v1, v2] w fun e w' => e = .returned (.bool (eqB xs ys)) ∧ Below w.heap.size w w' := by
  by_cases hl : xs.length = ys.length
  · rcases h1 with ⟨rfl, a1, c1, rfl⟩ | ⟨p1, b1, o1, c1, rfl, l1, e1⟩
    · have hm : ys = [] := List.length_eq_zero_iff.1 (by simpa using hl.symm)
      subst hm
      obtain ⟨a2, c2, rfl⟩ := h2.len
      exact (specStoreSame_empty a1 a2 c1 c2 w).mono (fun e w' h => ⟨by rw [h.1, eqB_true.2 rfl], by rw [h.2]; exact Below.refl _ _⟩)
    · rcases h2 with ⟨rfl, a2, c2, rfl⟩ | ⟨p2, b2, o2, c2, rfl, l2, e2⟩
      · simp at hl; subst hl; simp at p1
      · rw [← hl]
        exact specStoreSame_some b1 o1 c1 b2 o2 c2 xs ys w hl hb1 l1 l2 e1 e2
  · have hf : eqB xs ys = false := by rw [eqB_false]; intro h; exact hl (by rw [h])
    rw [hf]
    obtain ⟨a1, c1, rfl⟩ := h1.len
    obtain ⟨a2, c2, rfl⟩ := h2.len
    exact (specStoreSame_len a1 a2 _ c1 _ c2 w hb1 hb2 hl).mono (fun e w' h => ⟨h.1, by rw [h.2]; exact Below.refl _ _⟩)
theorem implStoreSame (v1 v2 : Value) (xs ys : List (Int × List UInt8)) (w : World) (h1 : RowAt 2 encSeg w v1 xs) (h2 : RowAt 2 encSeg w v2 ys) (hb1 : xs.length ≤ 1048576) (hb2 : ys.length ≤ 1048576) :
    Calls Tryz.prog 12 #[v1, v2] w fun e w' => e = .returned (.bool (eqB xs ys)) ∧ Below w.heap.size w w' := by
  go_enter Tryz.func12, Tryz.ntmps12
  go_wp2_with fail
  refine (equalSegS _ _ xs ys _ h1 h2 hb1 hb2).mono ?_
  rintro e w1 ⟨rfl, bel⟩
  go_wp2_with fail
  go_ret
  exact ⟨rfl, bel⟩
end Go.Proofs.YtlnpbfeihjfnjaaGreatDoor.Lab

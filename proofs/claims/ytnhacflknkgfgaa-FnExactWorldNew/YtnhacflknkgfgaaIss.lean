/-
  Rows of numbers: their size, and two of them held against one another. (Written by tools/mknest.py.)
-/
import Derived.Test.YtnhacflknkgfgaaIts
import Derived.Test.YtnhacflknkgfgaaNod
namespace Go.Proofs.Ytnhacflknkgfgaa.Lab
open Go.RowKit
set_option linter.unusedVariables false
set_option maxHeartbeats 400000 in
theorem szIntS (a : Option Addr) (n cap : Nat) (left : Int) (w : World) (h0 : 0 ≤ left) (h1 : left ≤ 1048576) (hn : n ≤ 9223372036854775807) :
    Calls Try.prog 45 #[.slice a n cap, .int .i64 left] w fun e w' => e = .returned (.int .i64 (if (n : Int) ≤ left then left - n else -1)) ∧ w' = w := by
  by_cases h : (n : Int) ≤ left
  · rw [if_pos h]
    go_enter Try.func45, Try.ntmps45
    go_wp2
    go_ret
    exact ⟨rfl, rfl⟩
  · rw [if_neg h]
    go_enter Try.func45, Try.ntmps45
    go_wp2
    go_ret
    exact ⟨rfl, rfl⟩
set_option maxHeartbeats 4000000 in
theorem spec_l7Ints_some (b1 o1 c1 b2 o2 c2 : Nat) (xs ys : List Int) (w : World) (hlen : xs.length = ys.length) (hl : xs.length ≤ 1048576) (hb1 : b1 < w.heap.size) (hb2 : b2 < w.heap.size)
    (h1 : ∀ j x, xs[j]? = some x → ∀ i u, (encI x)[i]? = some u → w.cell? ⟨b1, o1 + j * 1 + i, none⟩ = some u) (h2 : ∀ j x, ys[j]? = some x → ∀ i u, (encI x)[i]? = some u → w.cell? ⟨b2, o2 + j * 1 + i, none⟩ = some u) :
    Calls Try.prog 57 #[.slice (some ⟨b1, o1, none⟩) xs.length c1, .slice (some ⟨b2, o2, none⟩) xs.length c2] w fun e w' => e = .returned (.bool (eqB xs ys)) ∧ Below w.heap.size w w' := by
  have H1 : Hid (∀ j x, xs[j]? = some x → ∀ i u, (encI x)[i]? = some u → w.cell? ⟨b1, o1 + j * 1 + i, none⟩ = some u) := h1
  have H2 : Hid (∀ j x, ys[j]? = some x → ∀ i u, (encI x)[i]? = some u → w.cell? ⟨b2, o2 + j * 1 + i, none⟩ = some u) := h2
  clear h1 h2
  obtain ⟨n, hn⟩ : ∃ n, n = xs.length := ⟨_, rfl⟩
  have HN : Hid (n = xs.length ∧ n = ys.length) := ⟨hn, by omega⟩
  rw [← hn] at hl ⊢
  clear hn hlen
  go_enter Try.func57, Try.ntmps57
  go_wp2_with fail
  go_loopw [5] (fun i wr => ∃ k : Nat, k ≤ n ∧ i = .int .i64 k ∧ Below w.heap.size w wr ∧ ∀ j, j < k → xs[j]? = ys[j]?) (fun i _ => n - (intOf i).toNat)
  case atStart => exact ⟨0, by omega, rfl, Below.refl _ _, fun j hj => by omega⟩
  case round =>
    obtain ⟨k, hk, rfl, hbel, hq⟩ := hrel
    have HQ : Hid (∀ j, j < k → xs[j]? = ys[j]?) := hq
    clear hq
    by_cases hlt : k < n
    · obtain ⟨m0, hx⟩ : ∃ x, xs[k]? = some x := ⟨_, List.getElem?_eq_getElem (by rw [← HN.out.1]; exact hlt)⟩
      obtain ⟨p0, hy⟩ : ∃ x, ys[k]? = some x := ⟨_, List.getElem?_eq_getElem (by rw [← HN.out.2]; exact hlt)⟩
      have e0 : wr.cell? ⟨b1, o1 + k, none⟩ = some (.int .i64 m0) := by rw [hbel.cell (p := ⟨b1, _, none⟩) hb1]; exact cellI H1.out hx
      have f0 : wr.cell? ⟨b2, o2 + k, none⟩ = some (.int .i64 p0) := by rw [hbel.cell (p := ⟨b2, _, none⟩) hb2]; exact cellI H2.out hy
      have HX : Hid (xs[k]? = some m0 ∧ ys[k]? = some p0) := ⟨hx, hy⟩
      have k0 : (0 : Int) ≤ (k : Int) := by omega
      have k1 : (k : Int) < (n : Int) := by omega
      have HB : Hid (Below w.heap.size w wr) := hbel
      clear hx hy hbel
      by_cases h0 : m0 = p0
      · subst h0
        go_wp2_with fail
        go_quiet (fail)
        go_wp2_with fail
        go_roundw
        case rel =>
          refine ⟨k + 1, by omega, by go_num, belN HB.out _, fun j hj => ?_⟩
          rcases Nat.lt_succ_iff_lt_or_eq.1 hj with h | rfl
          · exact HQ.out j h
          · rw [HX.out.1, HX.out.2]
        case measure => simp [intOf]; omega
      · have HD : Hid (¬ m0 = p0) := h0
        have t0 : (m0 != p0) = true := by simpa using h0
        clear h0
        go_wp2_with fail
        go_quiet (fail)
        go_wp2_with fail
        go_ret
        refine ⟨?_, belN HB.out _⟩
        have : eqB xs ys = false := by
          rw [eqB_false]
          intro h
          have h3 := HX.out.1
          rw [h, HX.out.2] at h3
          exact HD.out (Option.some.inj h3).symm
        rw [this]; rfl
    · have hkn : k = n := by omega
      subst hkn
      go_wp2_with fail
      go_ret
      refine ⟨?_, hbel⟩
      have : xs = ys := by
        apply List.ext_getElem?
        intro j
        by_cases hj : j < k
        · exact HQ.out j hj
        · rw [List.getElem?_eq_none (by have := HN.out; omega), List.getElem?_eq_none (by have := HN.out; omega)]
      rw [eqB_true.2 this]; rfl
set_option maxHeartbeats 400000 in
theorem spec_l7Ints_len (a1 a2 : Option Addr) (n1 c1 n2 c2 : Nat) (w : World) (h1 : n1 ≤ 1048576) (h2 : n2 ≤ 1048576) (hne : n1 ≠ n2) :
    Calls Try.prog 57 #[.slice a1 n1 c1, .slice a2 n2 c2] w fun e w' => e = .returned (.bool false) ∧ w' = w := by
  have hd : ((n1 : Int) != (n2 : Int)) = true := by rw [bne_iff_ne]; omega
  clear hne
  go_enter Try.func57, Try.ntmps57
  go_wp2
  go_ret
  exact ⟨rfl, rfl⟩
set_option maxHeartbeats 400000 in
theorem spec_l7Ints_empty (a1 a2 : Option Addr) (c1 c2 : Nat) (w : World) :
    Calls Try.prog 57 #[.slice a1 0 c1, .slice a2 0 c2] w fun e w' => e = .returned (.bool true) ∧ w' = w := by
  go_enter Try.func57, Try.ntmps57
  go_wp2
  refine wp_loop_rounds 1 ?_
  rw [rounds_succ]
  go_wp2
  go_ret
  exact ⟨rfl, rfl⟩
theorem spec_l7Ints (v1 v2 : Value) (xs ys : List Int) (w : World) (h1 : RowAt 1 encI w v1 xs) (h2 : RowAt 1 encI w v2 ys) (hb1 : xs.length ≤ 1048576) (hb2 : ys.length ≤ 1048576) :
    Calls Try.prog 57 #[v1, v2] w fun e w' => e = .returned (.bool (eqB xs ys)) ∧ Below w.heap.size w w' := by
  by_cases hl : xs.length = ys.length
  · rcases h1 with ⟨rfl, a1, c1, rfl⟩ | ⟨p1, b1, o1, c1, rfl, l1, e1⟩
    · have hm : ys = [] := List.length_eq_zero_iff.1 (by simpa using hl.symm)
      subst hm
      obtain ⟨a2, c2, rfl⟩ := h2.len
      exact (spec_l7Ints_empty a1 a2 c1 c2 w).mono (fun e w' h => ⟨by rw [h.1, eqB_true.2 rfl], by rw [h.2]; exact Below.refl _ _⟩)
    · rcases h2 with ⟨rfl, a2, c2, rfl⟩ | ⟨p2, b2, o2, c2, rfl, l2, e2⟩
      · simp at hl; subst hl; simp at p1
      · rw [← hl]
        exact spec_l7Ints_some b1 o1 c1 b2 o2 c2 xs ys w hl hb1 l1 l2 e1 e2
  · have hf : eqB xs ys = false := by rw [eqB_false]; intro h; exact hl (by rw [h])
    rw [hf]
    obtain ⟨a1, c1, rfl⟩ := h1.len
    obtain ⟨a2, c2, rfl⟩ := h2.len
    exact (spec_l7Ints_len a1 a2 _ c1 _ c2 w hb1 hb2 hl).mono (fun e w' h => ⟨h.1, by rw [h.2]; exact Below.refl _ _⟩)
set_option maxHeartbeats 4000000 in
theorem equalIntS_some (b1 o1 c1 b2 o2 c2 : Nat) (xs ys : List Int) (w : World) (hlen : xs.length = ys.length) (hl : xs.length ≤ 1048576) (hb1 : b1 < w.heap.size) (hb2 : b2 < w.heap.size)
    (h1 : ∀ j x, xs[j]? = some x → ∀ i u, (encI x)[i]? = some u → w.cell? ⟨b1, o1 + j * 1 + i, none⟩ = some u) (h2 : ∀ j x, ys[j]? = some x → ∀ i u, (encI x)[i]? = some u → w.cell? ⟨b2, o2 + j * 1 + i, none⟩ = some u) :
    Calls Try.prog 55 #[.slice (some ⟨b1, o1, none⟩) xs.length c1, .slice (some ⟨b2, o2, none⟩) xs.length c2] w fun e w' => e = .returned (.bool (eqB xs ys)) ∧ Below w.heap.size w w' := by
  have H1 : Hid (∀ j x, xs[j]? = some x → ∀ i u, (encI x)[i]? = some u → w.cell? ⟨b1, o1 + j * 1 + i, none⟩ = some u) := h1
  have H2 : Hid (∀ j x, ys[j]? = some x → ∀ i u, (encI x)[i]? = some u → w.cell? ⟨b2, o2 + j * 1 + i, none⟩ = some u) := h2
  clear h1 h2
  obtain ⟨n, hn⟩ : ∃ n, n = xs.length := ⟨_, rfl⟩
  have HN : Hid (n = xs.length ∧ n = ys.length) := ⟨hn, by omega⟩
  rw [← hn] at hl ⊢
  clear hn hlen
  go_enter Try.func55, Try.ntmps55
  go_wp2_with fail
  go_loopw [13] (fun i wr => ∃ k : Nat, k ≤ n ∧ i = .int .i64 k ∧ Below w.heap.size w wr ∧ ∀ j, j < k → xs[j]? = ys[j]?) (fun i _ => n - (intOf i).toNat)
  case atStart => exact ⟨0, by omega, rfl, Below.refl _ _, fun j hj => by omega⟩
  case round =>
    obtain ⟨k, hk, rfl, hbel, hq⟩ := hrel
    have HQ : Hid (∀ j, j < k → xs[j]? = ys[j]?) := hq
    clear hq
    by_cases hlt : k < n
    · obtain ⟨m0, hx⟩ : ∃ x, xs[k]? = some x := ⟨_, List.getElem?_eq_getElem (by rw [← HN.out.1]; exact hlt)⟩
      obtain ⟨p0, hy⟩ : ∃ x, ys[k]? = some x := ⟨_, List.getElem?_eq_getElem (by rw [← HN.out.2]; exact hlt)⟩
      have e0 : wr.cell? ⟨b1, o1 + k, none⟩ = some (.int .i64 m0) := by rw [hbel.cell (p := ⟨b1, _, none⟩) hb1]; exact cellI H1.out hx
      have f0 : wr.cell? ⟨b2, o2 + k, none⟩ = some (.int .i64 p0) := by rw [hbel.cell (p := ⟨b2, _, none⟩) hb2]; exact cellI H2.out hy
      have HX : Hid (xs[k]? = some m0 ∧ ys[k]? = some p0) := ⟨hx, hy⟩
      have k0 : (0 : Int) ≤ (k : Int) := by omega
      have k1 : (k : Int) < (n : Int) := by omega
      have HB : Hid (Below w.heap.size w wr) := hbel
      clear hx hy hbel
      by_cases h0 : m0 = p0
      · subst h0
        go_wp2_with fail
        go_quiet (fail)
        go_wp2_with fail
        go_roundw
        case rel =>
          refine ⟨k + 1, by omega, by go_num, belN HB.out _, fun j hj => ?_⟩
          rcases Nat.lt_succ_iff_lt_or_eq.1 hj with h | rfl
          · exact HQ.out j h
          · rw [HX.out.1, HX.out.2]
        case measure => simp [intOf]; omega
      · have HD : Hid (¬ m0 = p0) := h0
        have t0 : (m0 != p0) = true := by simpa using h0
        clear h0
        go_wp2_with fail
        go_quiet (fail)
        go_wp2_with fail
        go_ret
        refine ⟨?_, belN HB.out _⟩
        have : eqB xs ys = false := by
          rw [eqB_false]
          intro h
          have h3 := HX.out.1
          rw [h, HX.out.2] at h3
          exact HD.out (Option.some.inj h3).symm
        rw [this]; rfl
    · have hkn : k = n := by omega
      subst hkn
      go_wp2_with fail
      go_ret
      refine ⟨?_, hbel⟩
      have : xs = ys := by
        apply List.ext_getElem?
        intro j
        by_cases hj : j < k
        · exact HQ.out j hj
        · rw [List.getElem?_eq_none (by have := HN.out; omega), List.getElem?_eq_none (by have := HN.out; omega)]
      rw [eqB_true.2 this]; rfl
set_option maxHeartbeats 400000 in
theorem equalIntS_len (a1 a2 : Option Addr) (n1 c1 n2 c2 : Nat) (w : World) (h1 : n1 ≤ 1048576) (h2 : n2 ≤ 1048576) (hne : n1 ≠ n2) :
    Calls Try.prog 55 #[.slice a1 n1 c1, .slice a2 n2 c2] w fun e w' => e = .returned (.bool false) ∧ w' = w := by
  have hd : ((n1 : Int) != (n2 : Int)) = true := by rw [bne_iff_ne]; omega
  clear hne
  go_enter Try.func55, Try.ntmps55
  go_wp2
  go_ret
  exact ⟨rfl, rfl⟩
set_option maxHeartbeats 400000 in
theorem equalIntS_empty (a1 a2 : Option Addr) (c1 c2 : Nat) (w : World) :
    Calls Try.prog 55 #[.slice a1 0 c1, .slice a2 0 c2] w fun e w' => e = .returned (.bool true) ∧ w' = w := by
  go_enter Try.func55, Try.ntmps55
  go_wp2
  refine wp_loop_rounds 1 ?_
  rw [rounds_succ]
  go_wp2
  go_ret
  exact ⟨rfl, rfl⟩
theorem equalIntS (v1 v2 : Value) (xs ys : List Int) (w : World) (h1 : RowAt 1 encI w v1 xs) (h2 : RowAt 1 encI w v2 ys) (hb1 : xs.length ≤ 1048576) (hb2 : ys.length ≤ 1048576) :
    Calls Try.prog 55 #[v1, v2] w fun e w' => e = .returned (.bool (eqB xs ys)) ∧ Below w.heap.size w w' := by
  by_cases hl : xs.length = ys.length
  · rcases h1 with ⟨rfl, a1, c1, rfl⟩ | ⟨p1, b1, o1, c1, rfl, l1, e1⟩
    · have hm : ys = [] := List.length_eq_zero_iff.1 (by simpa using hl.symm)
      subst hm
      obtain ⟨a2, c2, rfl⟩ := h2.len
      exact (equalIntS_empty a1 a2 c1 c2 w).mono (fun e w' h => ⟨by rw [h.1, eqB_true.2 rfl], by rw [h.2]; exact Below.refl _ _⟩)
    · rcases h2 with ⟨rfl, a2, c2, rfl⟩ | ⟨p2, b2, o2, c2, rfl, l2, e2⟩
      · simp at hl; subst hl; simp at p1
      · rw [← hl]
        exact equalIntS_some b1 o1 c1 b2 o2 c2 xs ys w hl hb1 l1 l2 e1 e2
  · have hf : eqB xs ys = false := by rw [eqB_false]; intro h; exact hl (by rw [h])
    rw [hf]
    obtain ⟨a1, c1, rfl⟩ := h1.len
    obtain ⟨a2, c2, rfl⟩ := h2.len
    exact (equalIntS_len a1 a2 _ c1 _ c2 w hb1 hb2 hl).mono (fun e w' h => ⟨h.1, by rw [h.2]; exact Below.refl _ _⟩)
end Go.Proofs.Ytnhacflknkgfgaa.Lab

/-
  Pages, and rows of pages: PageOk of both; the laws' own functions on them. (Written by tools/mkpag.py.)
-/
import Derived.Test.YtcifjildjiakgaaDoorRow
import Derived.Test.YtcifjildjiakgaaDoorNod
import Derived.Test.YtcifjildjiakgaaDoorGrw
namespace Go.Proofs.YtcifjildjiakgaaDoor.Lab
open Go.RowKit
set_option linter.unusedVariables false
/-- A page is right. -/
def pageB (l n : Int) : Bool := okB l && decide (0 ≤ n) && decide (n < 1000)
theorem pageB_true {l n : Int} (h : pageB l n = true) : okB l = true ∧ 0 ≤ n ∧ n < 1000 := by
  simp only [pageB, Bool.and_eq_true, decide_eq_true_eq] at h; exact ⟨h.1.1, h.1.2, h.2⟩
set_option maxHeartbeats 400000 in
theorem impl_PageOk (l n : Int) (w : World) :
    Calls Tryd.prog 24 #[.agg #[.int .i64 l, .int .i64 n]] w fun e w' => e = .returned (.bool (pageB l n)) ∧ Below w.heap.size w w' := by
  unfold pageB
  cases ho : okB l
  · go_enter Tryd.func24, Tryd.ntmps24
    go_wp2_with (first | (go_at_call 28; refine use (impl_LabelOk _ _) ?_))
    go_ret
    exact ⟨rfl, (Below.refl _ _).alloc (Nat.le_refl _) _⟩
  · cases h1 : decide (0 ≤ n)
    · go_enter Tryd.func24, Tryd.ntmps24
      go_wp2_with (first | (go_at_call 28; refine use (impl_LabelOk _ _) ?_))
      go_ret
      exact ⟨rfl, (Below.refl _ _).alloc (Nat.le_refl _) _⟩
    · go_enter Tryd.func24, Tryd.ntmps24
      go_wp2_with (first | (go_at_call 28; refine use (impl_LabelOk _ _) ?_))
      go_ret
      exact ⟨rfl, (Below.refl _ _).alloc (Nat.le_refl _) _⟩
set_option maxHeartbeats 400000 in
theorem spec_PageOk (l n : Int) (w : World) :
    Calls Tryd.prog 18 #[.agg #[.int .i64 l, .int .i64 n]] w fun e w' => e = .returned (.bool (pageB l n)) ∧ Below w.heap.size w w' := by
  unfold pageB
  cases ho : okB l
  · go_enter Tryd.func18, Tryd.ntmps18
    go_wp2_with (first | (go_at_call 26; refine use (spec_LabelOk _ _) ?_))
    go_ret
    exact ⟨rfl, (Below.refl _ _).alloc (Nat.le_refl _) _⟩
  · cases h1 : decide (0 ≤ n)
    · go_enter Tryd.func18, Tryd.ntmps18
      go_wp2_with (first | (go_at_call 26; refine use (spec_LabelOk _ _) ?_))
      go_ret
      exact ⟨rfl, (Below.refl _ _).alloc (Nat.le_refl _) _⟩
    · go_enter Tryd.func18, Tryd.ntmps18
      go_wp2_with (first | (go_at_call 26; refine use (spec_LabelOk _ _) ?_))
      go_ret
      exact ⟨rfl, (Below.refl _ _).alloc (Nat.le_refl _) _⟩
def encPage (x : Int × Int) : List Value := [.int .i64 x.1, .int .i64 x.2]
theorem encPage_len (x : Int × Int) : (encPage x).length = 2 := rfl
/-- A row of which the first k elements have been laid. -/
def laidPage (xs : List (Int × Int)) (k n : Nat) (cur : Array Value) : Prop := cur.size = n * 2 ∧ ∀ j x, j < k → xs[j]? = some x → ∀ i u, (encPage x)[i]? = some u → cur[j * 2 + i]? = some u
theorem laidPage_step {xs : List (Int × Int)} {k n : Nat} {cur : Array Value} {m0 m1 : Int} (h : laidPage xs k n cur) (hk : k < n) (hx : xs[k]? = some (m0, m1)) : laidPage xs (k + 1) n ((cur.setIfInBounds (k * 2) (.int .i64 m0)).setIfInBounds (k * 2 + 1) (.int .i64 m1)) := by
  obtain ⟨h1, h2⟩ := h
  refine ⟨by simp [h1], fun j x hj hxj i u hu => ?_⟩
  have hi : i < 2 := by
    obtain ⟨h3, _⟩ := List.getElem?_eq_some_iff.1 hu
    rw [encPage_len] at h3; exact h3
  rcases Nat.lt_succ_iff_lt_or_eq.1 hj with hj | rfl
  · simp only [Array.getElem?_setIfInBounds]
    repeat rw [if_neg (by omega)]
    exact h2 j x hj hxj i u hu
  · rw [hx] at hxj
    cases hxj
    have : i = 0 ∨ i = 1 := by omega
    rcases this with rfl | rfl <;> (simp [encPage] at hu; subst hu; simp [Array.getElem?_setIfInBounds]; omega)
theorem laidPage_all {xs : List (Int × Int)} {cur : Array Value} (h : laidPage xs xs.length xs.length cur) : cur.toList = xs.flatMap encPage := by
  obtain ⟨h1, h2⟩ := h
  apply List.ext_getElem?
  intro m
  by_cases hm : m < xs.length * 2
  · have hj : m / 2 < xs.length := by omega
    have h3 := flat_get encPage_len xs (m / 2) (m % 2) _ (List.getElem?_eq_getElem hj) (Nat.mod_lt _ (by omega))
    have hmm : m / 2 * 2 + m % 2 = m := by omega
    rw [hmm] at h3
    rw [h3]
    have hlen : m % 2 < (encPage xs[m / 2]).length := by rw [encPage_len]; exact Nat.mod_lt _ (by omega)
    have h4 := h2 (m / 2) _ hj (List.getElem?_eq_getElem hj) (m % 2) _ (List.getElem?_eq_getElem hlen)
    rw [hmm] at h4
    rw [List.getElem?_eq_getElem hlen]
    simpa using h4
  · rw [List.getElem?_eq_none (by simp; omega), List.getElem?_eq_none (by rw [flat_len encPage_len]; omega)]
theorem Tryd.infoPage : (Tryd.prog.info? 41).map (fun i => (i.zero, i.size, i.bytes)) = some (some (.agg #[.int .i64 0, .int .i64 0]), 2, 16) := by kernel_rfl
set_option maxHeartbeats 4000000 in
theorem equalPageS_some (b1 o1 c1 b2 o2 c2 : Nat) (xs ys : List (Int × Int)) (w : World) (hlen : xs.length = ys.length) (hl : xs.length ≤ 1048576) (hb1 : b1 < w.heap.size) (hb2 : b2 < w.heap.size)
    (h1 : ∀ j x, xs[j]? = some x → ∀ i u, (encPage x)[i]? = some u → w.cell? ⟨b1, o1 + j * 2 + i, none⟩ = some u) (h2 : ∀ j x, ys[j]? = some x → ∀ i u, (encPage x)[i]? = some u → w.cell? ⟨b2, o2 + j * 2 + i, none⟩ = some u) :
    Calls Tryd.prog 16 #[.slice (some ⟨b1, o1, none⟩) xs.length c1, .slice (some ⟨b2, o2, none⟩) xs.length c2] w fun e w' => e = .returned (.bool (eqB xs ys)) ∧ Below w.heap.size w w' := by
  have H1 : Hid (∀ j x, xs[j]? = some x → ∀ i u, (encPage x)[i]? = some u → w.cell? ⟨b1, o1 + j * 2 + i, none⟩ = some u) := h1
  have H2 : Hid (∀ j x, ys[j]? = some x → ∀ i u, (encPage x)[i]? = some u → w.cell? ⟨b2, o2 + j * 2 + i, none⟩ = some u) := h2
  clear h1 h2
  obtain ⟨n, hn⟩ : ∃ n, n = xs.length := ⟨_, rfl⟩
  have HN : Hid (n = xs.length ∧ n = ys.length) := ⟨hn, by omega⟩
  rw [← hn] at hl ⊢
  clear hn hlen
  go_enter Tryd.func16, Tryd.ntmps16
  go_wp2_with fail
  go_loopw [13] (fun i wr => ∃ k : Nat, k ≤ n ∧ i = .int .i64 k ∧ Below w.heap.size w wr ∧ ∀ j, j < k → xs[j]? = ys[j]?) (fun i _ => n - (intOf i).toNat)
  case atStart => exact ⟨0, by omega, rfl, Below.refl _ _, fun j hj => by omega⟩
  case round =>
    obtain ⟨k, hk, rfl, hbel, hq⟩ := hrel
    have HQ : Hid (∀ j, j < k → xs[j]? = ys[j]?) := hq
    clear hq
    by_cases hlt : k < n
    · obtain ⟨⟨m0, m1⟩, hx⟩ : ∃ x, xs[k]? = some x := ⟨_, List.getElem?_eq_getElem (by rw [← HN.out.1]; exact hlt)⟩
      obtain ⟨⟨p0, p1⟩, hy⟩ : ∃ x, ys[k]? = some x := ⟨_, List.getElem?_eq_getElem (by rw [← HN.out.2]; exact hlt)⟩
      have e0 : wr.cell? ⟨b1, o1 + k * 2, none⟩ = some (.int .i64 m0) := by rw [hbel.cell (p := ⟨b1, _, none⟩) hb1]; exact H1.out k _ hx 0 _ rfl
      have e1 : wr.cell? ⟨b1, o1 + k * 2 + 1, none⟩ = some (.int .i64 m1) := by rw [hbel.cell (p := ⟨b1, _, none⟩) hb1]; exact H1.out k _ hx 1 _ rfl
      have f0 : wr.cell? ⟨b2, o2 + k * 2, none⟩ = some (.int .i64 p0) := by rw [hbel.cell (p := ⟨b2, _, none⟩) hb2]; exact H2.out k _ hy 0 _ rfl
      have f1 : wr.cell? ⟨b2, o2 + k * 2 + 1, none⟩ = some (.int .i64 p1) := by rw [hbel.cell (p := ⟨b2, _, none⟩) hb2]; exact H2.out k _ hy 1 _ rfl
      have HX : Hid (xs[k]? = some (m0, m1) ∧ ys[k]? = some (p0, p1)) := ⟨hx, hy⟩
      have hq1 : b1 < wr.heap.size := Nat.lt_of_lt_of_le hb1 hbel.size
      have hq2 : b2 < wr.heap.size := Nat.lt_of_lt_of_le hb2 hbel.size
      have k0 : (0 : Int) ≤ (k : Int) := by omega
      have k1 : (k : Int) < (n : Int) := by omega
      have HB : Hid (Below w.heap.size w wr) := hbel
      clear hx hy hbel
      by_cases h0 : m0 = p0
      · subst h0
        by_cases h1 : m1 = p1
        · subst h1
          go_wp2_with fail
          refine wp_region_after (by kernel_rfl) (by kernel_rfl) ?_
          intro hne hac
          repeat (go_big_quiet_step (fail))
          refine wpQuiet_nil ?_
          rintro _ ⟨p, rfl⟩
          have hbq : Hid (Below w.heap.size w p.w) := HB.out.trans (p.bel.mono HB.out.size)
          clear hac hne
          generalize p.w = wq at *
          go_wp2_with fail
          go_roundw
          case rel =>
            refine ⟨k + 1, by omega, by go_num, hbq.out, fun j hj => ?_⟩
            rcases Nat.lt_succ_iff_lt_or_eq.1 hj with h | rfl
            · exact HQ.out j h
            · rw [HX.out.1, HX.out.2]
          case measure => simp [intOf]; omega
        · have HD : Hid (¬ m1 = p1) := h1
          have d1 : (m1 == p1) = false := beq_eq_false_iff_ne.2 h1
          have t1 : (m1 != p1) = true := by simpa using h1
          have u1 : decide (m1 = p1) = false := by simpa using h1
          clear h1
          go_wp2_with fail
          refine wp_region_after (by kernel_rfl) (by kernel_rfl) ?_
          intro hne hac
          repeat (go_big_quiet_step (fail))
          refine wpQuiet_nil ?_
          rintro _ ⟨p, rfl⟩
          have hbq : Hid (Below w.heap.size w p.w) := HB.out.trans (p.bel.mono HB.out.size)
          clear hac hne
          generalize p.w = wq at *
          go_wp2_with fail
          go_ret
          refine ⟨?_, hbq.out⟩
          have : eqB xs ys = false := by
            rw [eqB_false]
            intro h
            have h3 := HX.out.1
            rw [h, HX.out.2] at h3
            simp at h3
            exact HD.out (by simp [h3])
          rw [this]; rfl
      · have HD : Hid (¬ m0 = p0) := h0
        have d0 : (m0 == p0) = false := beq_eq_false_iff_ne.2 h0
        have t0 : (m0 != p0) = true := by simpa using h0
        have u0 : decide (m0 = p0) = false := by simpa using h0
        clear h0
        go_wp2_with fail
        refine wp_region_after (by kernel_rfl) (by kernel_rfl) ?_
        intro hne hac
        repeat (go_big_quiet_step (fail))
        refine wpQuiet_nil ?_
        rintro _ ⟨p, rfl⟩
        have hbq : Hid (Below w.heap.size w p.w) := HB.out.trans (p.bel.mono HB.out.size)
        clear hac hne
        generalize p.w = wq at *
        go_wp2_with fail
        go_ret
        refine ⟨?_, hbq.out⟩
        have : eqB xs ys = false := by
          rw [eqB_false]
          intro h
          have h3 := HX.out.1
          rw [h, HX.out.2] at h3
          simp at h3
          exact HD.out (by simp [h3])
        rw [this]; rfl
    · have hkn : k = n := by omega
      subst hkn
      go_wp2_with fail
      go_ret
      refine ⟨?_, hbel⟩
      have : xs = ys := by
        apply List.ext_getElem?
        intro j
        by_cases hj : j < k
        · exact HQ.out j hj
        · rw [List.getElem?_eq_none (by have := HN.out; omega), List.getElem?_eq_none (by have := HN.out; omega)]
      rw [eqB_true.2 this]; rfl
set_option maxHeartbeats 400000 in
theorem equalPageS_len (a1 a2 : Option Addr) (n1 c1 n2 c2 : Nat) (w : World) (h1 : n1 ≤ 1048576) (h2 : n2 ≤ 1048576) (hne : n1 ≠ n2) :
    Calls Tryd.prog 16 #[.slice a1 n1 c1, .slice a2 n2 c2] w fun e w' => e = .returned (.bool false) ∧ w' = w := by
  have hd : ((n1 : Int) != (n2 : Int)) = true := by rw [bne_iff_ne]; omega
  clear hne
  go_enter Tryd.func16, Tryd.ntmps16
  go_wp2
  go_ret
  exact ⟨rfl, rfl⟩
set_option maxHeartbeats 400000 in
theorem equalPageS_empty (a1 a2 : Option Addr) (c1 c2 : Nat) (w : World) :
    Calls Tryd.prog 16 #[.slice a1 0 c1, .slice a2 0 c2] w fun e w' => e = .returned (.bool true) ∧ w' = w := by
  go_enter Tryd.func16, Tryd.ntmps16
  go_wp2
  refine wp_loop_rounds 1 ?_
  rw [rounds_succ]
  go_wp2
  go_ret
  exact ⟨rfl, rfl⟩
theorem equalPageS (v1 v2 : Value) (xs ys : List (Int × Int)) (w : World) (h1 : RowAt 2 encPage w v1 xs) (h2 : RowAt 2 encPage w v2 ys) (hb1 : xs.length ≤ 1048576) (hb2 : ys.length ≤ 1048576) :
    Calls Tryd.prog 16 #[v1, v2] w fun e w' => e = .returned (.bool (eqB xs ys)) ∧ Below w.heap.size w w' := by
  by_cases hl : xs.length = ys.length
  · rcases h1 with ⟨rfl, a1, c1, rfl⟩ | ⟨p1, b1, o1, c1, rfl, l1, e1⟩
    · have hm : ys = [] := List.length_eq_zero_iff.1 (by simpa using hl.symm)
      subst hm
      obtain ⟨a2, c2, rfl⟩ := h2.len
      exact (equalPageS_empty a1 a2 c1 c2 w).mono (fun e w' h => ⟨by rw [h.1, eqB_true.2 rfl], by rw [h.2]; exact Below.refl _ _⟩)
    · rcases h2 with ⟨rfl, a2, c2, rfl⟩ | ⟨p2, b2, o2, c2, rfl, l2, e2⟩
      · simp at hl; subst hl; simp at p1
      · rw [← hl]
        exact equalPageS_some b1 o1 c1 b2 o2 c2 xs ys w hl hb1 l1 l2 e1 e2
  · have hf : eqB xs ys = false := by rw [eqB_false]; intro h; exact hl (by rw [h])
    rw [hf]
    obtain ⟨a1, c1, rfl⟩ := h1.len
    obtain ⟨a2, c2, rfl⟩ := h2.len
    exact (equalPageS_len a1 a2 _ c1 _ c2 w hb1 hb2 hl).mono (fun e w' h => ⟨h.1, by rw [h.2]; exact Below.refl _ _⟩)
end Go.Proofs.YtcifjildjiakgaaDoor.Lab

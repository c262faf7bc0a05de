/-
  People are right: peopleOk of the program, l7People of the model. (Written by tools/mkpeo.py.)
-/
import Derived.Test.YtnhacflknkgfgaaPer
namespace Go.Proofs.Ytnhacflknkgfgaa.Lab
open Go.RowKit
set_option linter.unusedVariables false
/-- People are right. -/
def peopleB (xs : List (Int × Int × Int)) : Bool := decide (xs.length ≤ 4) && xs.all (fun x => personB x.1 x.2.1 x.2.2)
theorem peopleB_at {xs : List (Int × Int × Int)} {k : Nat} {c s q : Int} (hx : xs[k]? = some (c, s, q)) (h : personB c s q = false) : peopleB xs = false := by
  unfold peopleB
  rw [Bool.and_eq_false_iff]
  right
  rw [List.all_eq_false]
  exact ⟨_, List.mem_of_getElem? hx, by rw [h]; simp⟩
theorem peopleB_all {xs : List (Int × Int × Int)} (hl : xs.length ≤ 4) (h : ∀ j x, j < xs.length → xs[j]? = some x → personB x.1 x.2.1 x.2.2 = true) : peopleB xs = true := by
  unfold peopleB
  rw [Bool.and_eq_true, List.all_eq_true]
  exact ⟨by simpa using hl, fun x hx => by obtain ⟨j, hj⟩ := List.getElem?_of_mem hx; exact h j x (List.getElem?_eq_some_iff.1 hj).1 hj⟩
set_option maxHeartbeats 2000000 in
theorem spec_l7People_some (b off cap : Nat) (xs : List (Int × Int × Int)) (w : World) (hl : xs.length ≤ 1048576) (hb : b < w.heap.size)
    (hc : ∀ j x, xs[j]? = some x → ∀ i u, (encPerson x)[i]? = some u → w.cell? ⟨b, off + j * 3 + i, none⟩ = some u) :
    Calls Try.prog 30 #[.slice (some ⟨b, off, none⟩) xs.length cap] w fun e w' => e = .returned (.bool (peopleB xs)) ∧ Below w.heap.size w w' := by
  have HC : Hid (∀ j x, xs[j]? = some x → ∀ i u, (encPerson x)[i]? = some u → w.cell? ⟨b, off + j * 3 + i, none⟩ = some u) := hc
  clear hc
  obtain ⟨n, hn⟩ : ∃ n, n = xs.length := ⟨_, rfl⟩
  have HN : Hid (n = xs.length) := hn
  rw [← hn] at hl ⊢
  clear hn
  go_enter Try.func30, Try.ntmps30
  go_wp2_with fail
  go_loopw [3] (fun i wr => ∃ k : Nat, k ≤ n ∧ i = .int .i64 k ∧ Below w.heap.size w wr ∧ ∀ j x, j < k → xs[j]? = some x → personB x.1 x.2.1 x.2.2 = true) (fun i _ => n - (intOf i).toNat)
  case atStart => exact ⟨0, by omega, rfl, Below.refl _ _, fun j x hj => by omega⟩
  case round =>
    obtain ⟨k, hk, rfl, hbel, hq⟩ := hrel
    have HQ : Hid (∀ j x, j < k → xs[j]? = some x → personB x.1 x.2.1 x.2.2 = true) := hq
    clear hq
    by_cases hlt : k < n
    · obtain ⟨⟨m0, m1, m2⟩, hx⟩ : ∃ x, xs[k]? = some x := ⟨_, List.getElem?_eq_getElem (by rw [← HN.out]; exact hlt)⟩
      have e0 : wr.cell? ⟨b, off + k * 3, none⟩ = some (.int .i64 m0) := by rw [hbel.cell (p := ⟨b, _, none⟩) hb]; exact HC.out k _ hx 0 _ rfl
      have e1 : wr.cell? ⟨b, off + k * 3 + 1, none⟩ = some (.int .i64 m1) := by rw [hbel.cell (p := ⟨b, _, none⟩) hb]; exact HC.out k _ hx 1 _ rfl
      have e2 : wr.cell? ⟨b, off + k * 3 + 2, none⟩ = some (.int .i64 m2) := by rw [hbel.cell (p := ⟨b, _, none⟩) hb]; exact HC.out k _ hx 2 _ rfl
      have HX : Hid (xs[k]? = some (m0, m1, m2)) := hx
      have zb : b < wr.heap.size := Nat.lt_of_lt_of_le hb hbel.size
      have k0 : (0 : Int) ≤ (k : Int) := by omega
      have k1 : (k : Int) < (n : Int) := by omega
      have HB : Hid (Below w.heap.size w wr) := hbel
      clear hx hbel
      go_wp2_with fail
      refine (spec_PersonOk m0 m1 m2 _).mono ?_
      rintro e w1 ⟨rfl, b1⟩
      have HB1 : Hid (Below w.heap.size w w1) := HB.out.trans ((Below.trans (by first | exact Below.refl _ _ | go_grown) (b1.mono (by simp))).mono HB.out.size)
      clear b1
      cases hp : personB m0 m1 m2
      · go_wp2_with fail
        go_ret
        exact ⟨by rw [peopleB_at HX.out hp]; rfl, HB1.out⟩
      · go_wp2_with fail
        go_roundw
        case rel =>
          refine ⟨k + 1, by omega, by go_num, HB1.out, fun j x hj hxj => ?_⟩
          rcases Nat.lt_succ_iff_lt_or_eq.1 hj with h | rfl
          · exact HQ.out j x h hxj
          · rw [HX.out] at hxj; cases hxj; exact hp
        case measure => simp [intOf]; omega
    · have hkn : k = n := by omega
      subst hkn
      by_cases h4 : k ≤ 4
      · go_wp2_with fail
        go_ret
        exact ⟨by rw [peopleB_all (by rw [← HN.out]; exact h4) (fun j x hj => HQ.out j x (by rw [HN.out]; exact hj))]; simp; omega, hbel⟩
      · go_wp2_with fail
        go_ret
        have hf : peopleB xs = false := by unfold peopleB; rw [Bool.and_eq_false_iff]; left; simp; rw [← HN.out]; omega
        exact ⟨by rw [hf]; simp; omega, hbel⟩
set_option maxHeartbeats 400000 in
theorem spec_l7People_zero (a : Option Addr) (cap : Nat) (w : World) :
    Calls Try.prog 30 #[.slice a 0 cap] w fun e w' => e = .returned (.bool true) ∧ w' = w := by
  go_enter Try.func30, Try.ntmps30
  go_wp2
  refine wp_loop_rounds 1 ?_
  rw [rounds_succ]
  go_wp2
  go_ret
  exact ⟨rfl, rfl⟩
theorem spec_l7People (v : Value) (xs : List (Int × Int × Int)) (w : World) (h : RowAt 3 encPerson w v xs) (hl : xs.length ≤ 1048576) :
    Calls Try.prog 30 #[v] w fun e w' => e = .returned (.bool (peopleB xs)) ∧ Below w.heap.size w w' := by
  rcases h with ⟨rfl, a1, c1, rfl⟩ | ⟨p1, b1, o1, c1, rfl, l1, e1⟩
  · exact (spec_l7People_zero a1 c1 w).mono (fun e w' h => ⟨h.1, by rw [h.2]; exact Below.refl _ _⟩)
  · exact spec_l7People_some b1 o1 c1 xs w hl l1 e1
set_option maxHeartbeats 2000000 in
theorem impl_peopleOk_some (b off cap : Nat) (xs : List (Int × Int × Int)) (w : World) (hl : xs.length ≤ 1048576) (hl4 : xs.length ≤ 4) (hb : b < w.heap.size)
    (hc : ∀ j x, xs[j]? = some x → ∀ i u, (encPerson x)[i]? = some u → w.cell? ⟨b, off + j * 3 + i, none⟩ = some u) :
    Calls Try.prog 31 #[.slice (some ⟨b, off, none⟩) xs.length cap] w fun e w' => e = .returned (.bool (peopleB xs)) ∧ Below w.heap.size w w' := by
  have HC : Hid (∀ j x, xs[j]? = some x → ∀ i u, (encPerson x)[i]? = some u → w.cell? ⟨b, off + j * 3 + i, none⟩ = some u) := hc
  clear hc
  obtain ⟨n, hn⟩ : ∃ n, n = xs.length := ⟨_, rfl⟩
  have HN : Hid (n = xs.length) := hn
  rw [← hn] at hl hl4 ⊢
  clear hn
  go_enter Try.func31, Try.ntmps31
  go_wp2_with fail
  go_loopw [10] (fun i wr => ∃ k : Nat, k ≤ n ∧ i = .int .i64 k ∧ Below w.heap.size w wr ∧ ∀ j x, j < k → xs[j]? = some x → personB x.1 x.2.1 x.2.2 = true) (fun i _ => n - (intOf i).toNat)
  case atStart => exact ⟨0, by omega, rfl, Below.refl _ _, fun j x hj => by omega⟩
  case round =>
    obtain ⟨k, hk, rfl, hbel, hq⟩ := hrel
    have HQ : Hid (∀ j x, j < k → xs[j]? = some x → personB x.1 x.2.1 x.2.2 = true) := hq
    clear hq
    by_cases hlt : k < n
    · obtain ⟨⟨m0, m1, m2⟩, hx⟩ : ∃ x, xs[k]? = some x := ⟨_, List.getElem?_eq_getElem (by rw [← HN.out]; exact hlt)⟩
      have e0 : wr.cell? ⟨b, off + k * 3, none⟩ = some (.int .i64 m0) := by rw [hbel.cell (p := ⟨b, _, none⟩) hb]; exact HC.out k _ hx 0 _ rfl
      have e1 : wr.cell? ⟨b, off + k * 3 + 1, none⟩ = some (.int .i64 m1) := by rw [hbel.cell (p := ⟨b, _, none⟩) hb]; exact HC.out k _ hx 1 _ rfl
      have e2 : wr.cell? ⟨b, off + k * 3 + 2, none⟩ = some (.int .i64 m2) := by rw [hbel.cell (p := ⟨b, _, none⟩) hb]; exact HC.out k _ hx 2 _ rfl
      have HX : Hid (xs[k]? = some (m0, m1, m2)) := hx
      have zb : b < wr.heap.size := Nat.lt_of_lt_of_le hb hbel.size
      have k0 : (0 : Int) ≤ (k : Int) := by omega
      have k1 : (k : Int) < (n : Int) := by omega
      have HB : Hid (Below w.heap.size w wr) := hbel
      clear hx hbel
      go_wp2_with fail
      refine (impl_PersonOk m0 m1 m2 _).mono ?_
      rintro e w1 ⟨rfl, b1⟩
      have HB1 : Hid (Below w.heap.size w w1) := HB.out.trans ((Below.trans (by first | exact Below.refl _ _ | go_grown) (b1.mono (by simp))).mono HB.out.size)
      clear b1
      cases hp : personB m0 m1 m2
      · go_wp2_with fail
        go_ret
        exact ⟨by rw [peopleB_at HX.out hp]; rfl, HB1.out⟩
      · go_wp2_with fail
        go_roundw
        case rel =>
          refine ⟨k + 1, by omega, by go_num, HB1.out, fun j x hj hxj => ?_⟩
          rcases Nat.lt_succ_iff_lt_or_eq.1 hj with h | rfl
          · exact HQ.out j x h hxj
          · rw [HX.out] at hxj; cases hxj; exact hp
        case measure => simp [intOf]; omega
    · have hkn : k = n := by omega
      subst hkn
      go_wp2_with fail
      go_ret
      exact ⟨by rw [peopleB_all (by rw [← HN.out]; exact hl4) (fun j x hj => HQ.out j x (by rw [HN.out]; exact hj))]; rfl, hbel⟩
set_option maxHeartbeats 400000 in
theorem impl_peopleOk_zero (a : Option Addr) (cap : Nat) (w : World) :
    Calls Try.prog 31 #[.slice a 0 cap] w fun e w' => e = .returned (.bool true) ∧ w' = w := by
  go_enter Try.func31, Try.ntmps31
  go_wp2
  refine wp_loop_rounds 1 ?_
  rw [rounds_succ]
  go_wp2
  go_ret
  exact ⟨rfl, rfl⟩
set_option maxHeartbeats 400000 in
theorem impl_peopleOk_long (a : Option Addr) (n cap : Nat) (w : World) (hl : n ≤ 1048576) (h4 : 4 < n) :
    Calls Try.prog 31 #[.slice a n cap] w fun e w' => e = .returned (.bool false) ∧ w' = w := by
  go_enter Try.func31, Try.ntmps31
  go_wp2
  go_ret
  exact ⟨rfl, rfl⟩
theorem impl_peopleOk (v : Value) (xs : List (Int × Int × Int)) (w : World) (h : RowAt 3 encPerson w v xs) (hl : xs.length ≤ 1048576) :
    Calls Try.prog 31 #[v] w fun e w' => e = .returned (.bool (peopleB xs)) ∧ Below w.heap.size w w' := by
  by_cases h4 : xs.length ≤ 4
  · rcases h with ⟨rfl, a1, c1, rfl⟩ | ⟨p1, b1, o1, c1, rfl, l1, e1⟩
    · exact (impl_peopleOk_zero a1 c1 w).mono (fun e w' h => ⟨h.1, by rw [h.2]; exact Below.refl _ _⟩)
    · exact impl_peopleOk_some b1 o1 c1 xs w hl h4 l1 e1
  · obtain ⟨a, c, rfl⟩ := h.len
    have hf : peopleB xs = false := by unfold peopleB; rw [Bool.and_eq_false_iff]; left; simp; omega
    rw [hf]
    exact (impl_peopleOk_long a _ c w hl (by omega)).mono (fun e w' h => ⟨h.1, by rw [h.2]; exact Below.refl _ _⟩)
end Go.Proofs.Ytnhacflknkgfgaa.Lab

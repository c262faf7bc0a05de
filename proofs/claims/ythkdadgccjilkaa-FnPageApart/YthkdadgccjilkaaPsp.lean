/-
  The pages of some bytes: PageSpan of both. (Written by tools/mkpsp.py.)
-/
import Derived.Test.YthkdadgccjilkaaPag
import Derived.Laws.OwnMore
namespace Go.Proofs.Ythkdadgccjilkaa.Lab
open Go.RowKit
set_option linter.unusedVariables false

/-- Bytes that there are. -/
def spanB (l f t : Int) : Bool := okB l && decide (0 ≤ f) && decide (f < t) && decide (t ≤ 8000)
theorem spanB_true {l f t : Int} (h : spanB l f t = true) : okB l = true ∧ 0 ≤ f ∧ f < t ∧ t ≤ 8000 := by
  simp only [spanB, Bool.and_eq_true, decide_eq_true_eq] at h; exact ⟨h.1.1.1, h.1.1.2, h.1.2, h.2⟩
/-- So many pages, from one on. -/
def spanN (l g : Int) (n : Nat) : List (Int × Int) := (List.range n).map (fun i : Nat => (l, g + i))
/-- How many pages some bytes are in. -/
def spanC (f t : Int) : Nat := ((t + 7) / 8 - f / 8).toNat
/-- The pages of some bytes. -/
def spanL (l f t : Int) : List (Int × Int) := if spanB l f t then spanN l (f / 8) (spanC f t) else []
theorem spanN_len (l g : Int) (n : Nat) : (spanN l g n).length = n := by simp [spanN]
theorem spanN_step (l g : Int) (k : Nat) : spanN l g (k + 1) = spanN l g k ++ [(l, g + k)] := by simp [spanN, List.range_succ]
theorem spanC_le {l f t : Int} (h : spanB l f t = true) : spanC f t ≤ 1000 := by
  obtain ⟨_, h1, h2, h3⟩ := spanB_true h
  unfold spanC; omega
theorem spanL_le (l f t : Int) : (spanL l f t).length ≤ 1000 := by
  unfold spanL
  cases h : spanB l f t
  · simp
  · simpa [spanN_len] using spanC_le h
theorem own_zero {w : World} {base B e size : Nat} (h : w.heap[B]? = some (.cells #[] e (0, 0))) (hb : base ≤ B) : w.ownsRow base e size (.slice (some ⟨B, 0, none⟩) 0 0) 0 [] :=
  ⟨by simp, .inr ⟨B, 0, #[], rfl, hb, h, Nat.le_refl _, by simp [maxLen], by simp, by simp⟩⟩
set_option maxHeartbeats 4000000 in
theorem impl_PageSpan_no (l f t : Int) (w : World) (hs : spanB l f t = false) :
    Calls Try.prog 10 #[.int .i64 l, .int .i64 f, .int .i64 t] w fun e w' => ∃ u, e = .returned u ∧ w'.ownsRow w.heap.size 26 2 u 0 [] ∧ Below w.heap.size w w' := by
  cases ho : okB l
  · clear hs
    go_enter Try.func10, Try.ntmps10
    go_wp2_with (first | (go_at_call 15; refine use (impl_LabelOk _ _) ?_))
    go_ret
    exact ⟨_, rfl, by simpa using World.ownsRow_nil _ _ _ _, Below.refl _ _⟩
  · simp only [spanB, ho, Bool.true_and] at hs
    by_cases h1 : 0 ≤ f
    · by_cases h2 : f < t
      · have h3 : ¬ t ≤ 8000 := fun h => by simp [h1, h2, h] at hs
        clear hs
        go_enter Try.func10, Try.ntmps10
        go_wp2_with (first | (go_at_call 15; refine use (impl_LabelOk _ _) ?_))
        go_ret
        exact ⟨_, rfl, by simpa using World.ownsRow_nil _ _ _ _, Below.refl _ _⟩
      · clear hs
        go_enter Try.func10, Try.ntmps10
        go_wp2_with (first | (go_at_call 15; refine use (impl_LabelOk _ _) ?_))
        go_ret
        exact ⟨_, rfl, by simpa using World.ownsRow_nil _ _ _ _, Below.refl _ _⟩
    · clear hs
      go_enter Try.func10, Try.ntmps10
      go_wp2_with (first | (go_at_call 15; refine use (impl_LabelOk _ _) ?_))
      go_ret
      exact ⟨_, rfl, by simpa using World.ownsRow_nil _ _ _ _, Below.refl _ _⟩
set_option maxHeartbeats 4000000 in
theorem impl_PageSpan_yes (l f t : Int) (w : World) (hs : spanB l f t = true) :
    Calls Try.prog 10 #[.int .i64 l, .int .i64 f, .int .i64 t] w fun e w' => ∃ u, e = .returned u ∧ w'.ownsRow w.heap.size 26 2 u (spanN l (f / 8) (spanC f t)).length ((spanN l (f / 8) (spanC f t)).flatMap encPage) ∧ Below w.heap.size w w' := by
  obtain ⟨ho, h1, h2, h3⟩ := spanB_true hs
  clear hs
  obtain ⟨i0, hi, hz0, hz1, hz2⟩ := info_parts Try.infoPage
  obtain ⟨n, hn⟩ : ∃ n, n = spanC f t := ⟨_, rfl⟩
  obtain ⟨g, hg⟩ : ∃ g : Nat, (g : Int) = f / 8 := ⟨(f / 8).toNat, by omega⟩
  have hnt : ∀ k : Nat, k < n ↔ ((g : Int) + k) * 8 < t := fun k => by rw [hn, hg]; unfold spanC; omega
  have hgb : g ≤ 1000 := by omega
  have hnb : n ≤ 1000 := by rw [hn]; unfold spanC; omega
  have HN : Hid (n = spanC f t ∧ (g : Int) = f / 8) := ⟨hn, hg⟩
  have HT : Hid (∀ k : Nat, k < n ↔ ((g : Int) + k) * 8 < t) := hnt
  have hg8 : f.tdiv 8 = (g : Int) := by rw [hg]; exact Int.tdiv_eq_ediv_of_nonneg h1
  rw [← hn, ← hg]
  clear hn hg hnt
  go_enter Try.func10, Try.ntmps10
  go_wp2_with (first | (go_at_call 15; refine use (impl_LabelOk _ _) ?_))
  go_loopw [7, 8] (fun q i wr => ∃ k : Nat, k ≤ n ∧ i = .int .i64 ((g : Int) + k) ∧ Below w.heap.size w wr ∧ wr.ownsRow w.heap.size 26 2 q k ((spanN l g k).flatMap encPage)) (fun _ i _ => (g + n) - (intOf i).toNat)
  case atStart => exact ⟨0, by omega, by first | rfl | simp | (simp; omega), Below.refl _ _, by simpa [spanN] using World.ownsRow_nil _ _ _ _⟩
  case round =>
    obtain ⟨k, hk, rfl, hbel, hown⟩ := hrel
    have hsz := hbel.size
    obtain ⟨xa, xc, rfl⟩ := own_form hown
    by_cases hlt : k < n
    · have hc : ((g : Int) + k) * 8 < t := (HT.out k).1 hlt
      have HB : Hid (Below w.heap.size w wr) := hbel
      have LT : Hid (∀ b, (Value.slice xa k xc).ownBlock = some b → w.heap.size ≤ b) := fun b hb => (hown.lt b hb).1
      clear hbel
      go_wp2_with (first
        | (at_builtin; refine wpList_append_own _ rfl _ _ 28 rfl w.heap.size 26 i0 _ 2 16 Try.underlying28 hi hz0 hz1 hz2 rfl (by decide) _ _ _ rfl (hown.alloc _) ⟨wr.heap.size, 0, none⟩ 1 1 [.int .i64 l, .int .i64 ((g : Int) + k)] rfl rfl ?c1 ?c2 ?c3 ?c4 ?c5 ?_))
      case c1 =>
        intro j u hj
        match j, hj with
        | 0, hj => simp at hj; subst hj; simp [Addr.add]
        | 1, hj => simp at hj; subst hj; simp [Addr.add]
      case c2 => intro u hu; simp at hu; rcases hu with rfl | rfl <;> rfl
      case c3 => unfold maxLen; omega
      case c4 => omega
      case c5 => simp; omega
      · intro v' w3 hown' hgrow _
        have R : Hid (Below w.heap.size w w3 ∧ w3.ownsRow w.heap.size 26 2 v' (k + 1) ((spanN l g (k + 1)).flatMap encPage)) :=
          ⟨(HB.out.alloc (by omega) _).grown hgrow (by simp; omega) (fun b hb => LT.out b hb), by rw [spanN_step]; simpa [List.flatMap_append, encPage] using hown'⟩
        clear hown' hgrow hown
        go_wp2_with fail
        go_roundw
        case rel => exact ⟨k + 1, by omega, by go_num, R.out⟩
        case measure => simp [intOf]; omega
    · have hkn : n = k := by omega
      subst hkn
      have hc : ¬ ((g : Int) + n) * 8 < t := fun h => by have := (HT.out n).2 h; omega
      go_wp2_with fail
      go_ret
      exact ⟨_, rfl, by simpa [spanN] using hown, hbel⟩
theorem impl_PageSpan (l f t : Int) (w : World) :
    Calls Try.prog 10 #[.int .i64 l, .int .i64 f, .int .i64 t] w fun e w' => ∃ u, e = .returned u ∧ w'.ownsRow w.heap.size 26 2 u (spanL l f t).length ((spanL l f t).flatMap encPage) ∧ Below w.heap.size w w' := by
  unfold spanL
  cases hs : spanB l f t
  · simpa using impl_PageSpan_no l f t w hs
  · simpa using impl_PageSpan_yes l f t w hs
set_option maxHeartbeats 4000000 in
theorem spec_PageSpan_no (l f t : Int) (w : World) (hs : spanB l f t = false) :
    Calls Try.prog 12 #[.int .i64 l, .int .i64 f, .int .i64 t] w fun e w' => ∃ u, e = .returned u ∧ w'.ownsRow w.heap.size 26 2 u 0 [] ∧ Below w.heap.size w w' := by
  cases ho : okB l
  · clear hs
    go_enter Try.func12, Try.ntmps12
    go_wp2_with (first | (go_at_call 28; refine use (spec_LabelOk _ _) ?_))
    go_ret
    exact ⟨_, rfl, by simpa using (own_zero (new_block _ _) (Nat.le_refl _)), (Below.refl _ _).alloc (Nat.le_refl _) _⟩
  · simp only [spanB, ho, Bool.true_and] at hs
    by_cases h1 : 0 ≤ f
    · by_cases h2 : f < t
      · have h3 : ¬ t ≤ 8000 := fun h => by simp [h1, h2, h] at hs
        clear hs
        go_enter Try.func12, Try.ntmps12
        go_wp2_with (first | (go_at_call 28; refine use (spec_LabelOk _ _) ?_))
        go_ret
        exact ⟨_, rfl, by simpa using (own_zero (new_block _ _) (Nat.le_refl _)), (Below.refl _ _).alloc (Nat.le_refl _) _⟩
      · clear hs
        go_enter Try.func12, Try.ntmps12
        go_wp2_with (first | (go_at_call 28; refine use (spec_LabelOk _ _) ?_))
        go_ret
        exact ⟨_, rfl, by simpa using (own_zero (new_block _ _) (Nat.le_refl _)), (Below.refl _ _).alloc (Nat.le_refl _) _⟩
    · clear hs
      go_enter Try.func12, Try.ntmps12
      go_wp2_with (first | (go_at_call 28; refine use (spec_LabelOk _ _) ?_))
      go_ret
      exact ⟨_, rfl, by simpa using (own_zero (new_block _ _) (Nat.le_refl _)), (Below.refl _ _).alloc (Nat.le_refl _) _⟩
set_option maxHeartbeats 4000000 in
theorem spec_PageSpan_yes (l f t : Int) (w : World) (hs : spanB l f t = true) :
    Calls Try.prog 12 #[.int .i64 l, .int .i64 f, .int .i64 t] w fun e w' => ∃ u, e = .returned u ∧ w'.ownsRow w.heap.size 26 2 u (spanN l (f / 8) (spanC f t)).length ((spanN l (f / 8) (spanC f t)).flatMap encPage) ∧ Below w.heap.size w w' := by
  obtain ⟨ho, h1, h2, h3⟩ := spanB_true hs
  clear hs
  obtain ⟨i0, hi, hz0, hz1, hz2⟩ := info_parts Try.infoPage
  obtain ⟨n, hn⟩ : ∃ n, n = spanC f t := ⟨_, rfl⟩
  obtain ⟨g, hg⟩ : ∃ g : Nat, (g : Int) = f / 8 := ⟨(f / 8).toNat, by omega⟩
  have hnt : ∀ k : Nat, k < n ↔ ((g : Int) + k) * 8 < t := fun k => by rw [hn, hg]; unfold spanC; omega
  have hgb : g ≤ 1000 := by omega
  have hnb : n ≤ 1000 := by rw [hn]; unfold spanC; omega
  have HN : Hid (n = spanC f t ∧ (g : Int) = f / 8) := ⟨hn, hg⟩
  have HT : Hid (∀ k : Nat, k < n ↔ ((g : Int) + k) * 8 < t) := hnt
  have hg8 : f.tdiv 8 = (g : Int) := by rw [hg]; exact Int.tdiv_eq_ediv_of_nonneg h1
  rw [← hn, ← hg]
  clear hn hg hnt
  go_enter Try.func12, Try.ntmps12
  go_wp2_with (first | (go_at_call 28; refine use (spec_LabelOk _ _) ?_))
  go_loopw [7, 8] (fun q i wr => ∃ k : Nat, k ≤ n ∧ i = .int .i64 ((g : Int) + k) ∧ Below w.heap.size w wr ∧ wr.ownsRow w.heap.size 26 2 q k ((spanN l g k).flatMap encPage)) (fun _ i _ => (g + n) - (intOf i).toNat)
  case atStart => exact ⟨0, by omega, by first | rfl | simp | (simp; omega), (Below.refl _ _).alloc (Nat.le_refl _) _, by simpa [spanN] using (own_zero (new_block _ _) (Nat.le_refl _))⟩
  case round =>
    obtain ⟨k, hk, rfl, hbel, hown⟩ := hrel
    have hsz := hbel.size
    obtain ⟨xa, xc, rfl⟩ := own_form hown
    by_cases hlt : k < n
    · have hc : ((g : Int) + k) * 8 < t := (HT.out k).1 hlt
      have HB : Hid (Below w.heap.size w wr) := hbel
      have LT : Hid (∀ b, (Value.slice xa k xc).ownBlock = some b → w.heap.size ≤ b) := fun b hb => (hown.lt b hb).1
      clear hbel
      go_wp2_with (first
        | (at_builtin; refine wpList_append_own _ rfl _ _ 28 rfl w.heap.size 26 i0 _ 2 16 Try.underlying28 hi hz0 hz1 hz2 rfl (by decide) _ _ _ rfl (hown.alloc _) ⟨wr.heap.size, 0, none⟩ 1 1 [.int .i64 l, .int .i64 ((g : Int) + k)] rfl rfl ?c1 ?c2 ?c3 ?c4 ?c5 ?_))
      case c1 =>
        intro j u hj
        match j, hj with
        | 0, hj => simp at hj; subst hj; simp [Addr.add]
        | 1, hj => simp at hj; subst hj; simp [Addr.add]
      case c2 => intro u hu; simp at hu; rcases hu with rfl | rfl <;> rfl
      case c3 => unfold maxLen; omega
      case c4 => omega
      case c5 => simp; omega
      · intro v' w3 hown' hgrow _
        have R : Hid (Below w.heap.size w w3 ∧ w3.ownsRow w.heap.size 26 2 v' (k + 1) ((spanN l g (k + 1)).flatMap encPage)) :=
          ⟨(HB.out.alloc (by omega) _).grown hgrow (by simp; omega) (fun b hb => LT.out b hb), by rw [spanN_step]; simpa [List.flatMap_append, encPage] using hown'⟩
        clear hown' hgrow hown
        go_wp2_with fail
        go_roundw
        case rel => exact ⟨k + 1, by omega, by go_num, R.out⟩
        case measure => simp [intOf]; omega
    · have hkn : n = k := by omega
      subst hkn
      have hc : ¬ ((g : Int) + n) * 8 < t := fun h => by have := (HT.out n).2 h; omega
      go_wp2_with fail
      go_ret
      exact ⟨_, rfl, by simpa [spanN] using hown, hbel⟩
theorem spec_PageSpan (l f t : Int) (w : World) :
    Calls Try.prog 12 #[.int .i64 l, .int .i64 f, .int .i64 t] w fun e w' => ∃ u, e = .returned u ∧ w'.ownsRow w.heap.size 26 2 u (spanL l f t).length ((spanL l f t).flatMap encPage) ∧ Below w.heap.size w w' := by
  unfold spanL
  cases hs : spanB l f t
  · simpa using spec_PageSpan_no l f t w hs
  · simpa using spec_PageSpan_yes l f t w hs
end Go.Proofs.Ythkdadgccjilkaa.Lab

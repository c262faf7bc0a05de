/-
  What is drawn of pages: bounded; a code is only read.
-/
import Derived.Test.YthkdadgccjilkaaDrn
import Derived.Test.YthkdadgccjilkaaPag
namespace Go.Proofs.Ythkdadgccjilkaa.Lab
open Go.RowKit
set_option linter.unusedVariables false
set_option maxHeartbeats 1000000 in
theorem drawPageSpan (a : Option Addr) (len cap : Nat) (zs : List Int) (w : World) (h : CodeAt w a len cap zs) :
    Calls Try.prog 8 #[.slice a len cap] w fun e w' => ∃ l f t, e = .returned (.tuple #[.int .i64 l, .int .i64 f, .int .i64 t]) ∧ i64In l ∧ (-1 ≤ f ∧ f ≤ 30) ∧ (-10 ≤ t ∧ t ≤ 10000) ∧ Below w.heap.size w w' := by
  go_enter Try.func8, Try.ntmps8
  go_wp2_with fail
  refine (l9Open a len cap zs _ h).mono ?_
  rintro e w1 ⟨rfl, ⟨n, hr⟩, hb⟩
  go_wp2_with fail
  refine (l1Label _ _ _ _ _ _ _ hr (by omega)).mono ?_
  rintro e w2 ⟨x, p2, rfl, hx, hp, hr2, hg⟩
  go_wp2_with fail
  refine (num_lit _ _ _ _ _ _ _ [0, 1, 7, 8, 9, 15, 30, -1] _ hr2 (by omega) (by decide) (by decide) (by simp)).mono ?_
  rintro e w3 ⟨f, hf, rfl, hr3, hg3⟩
  have hfb : -1 ≤ f ∧ f ≤ 30 := by simp at hf; omega
  have HB3 : Hid (Below w.heap.size w w3 ∧ i64In x) := ⟨hb.trans (below_of_grown (grownBy_trans hg hg3) hb.size), hx⟩
  have hs3 : w.heap.size ≤ w3.heap.size := HB3.out.1.size
  clear hf hr2 hg hx hg3 hr hb h
  go_wp2_with fail
  refine (num_lit _ _ _ _ _ _ _ [1, 2, 7, 8, 9, 20, 0, -3, 9000] _ hr3 (by omega) (by decide) (by decide) (by simp)).mono ?_
  rintro e w4 ⟨d, hd, rfl, hr4, hg4⟩
  have hdb : -3 ≤ d ∧ d ≤ 9000 := by simp at hd; omega
  have HB : Hid (Below w.heap.size w w4 ∧ i64In x) := ⟨HB3.out.1.trans (below_of_grown hg4 (by omega)), HB3.out.2⟩
  clear hd hr3 hr4 hg4 HB3
  go_wp2_with fail
  refine bodyPost_ret (v := .tuple #[.int .i64 x, .int .i64 f, .int .i64 (f + d)]) (by simp [*, results, Try.results8, go_sem]) rfl ?_
  exact ⟨x, f, f + d, rfl, HB.out.2, by omega, by omega, HB.out.1⟩
set_option maxHeartbeats 1000000 in
theorem drawPageOk (a : Option Addr) (len cap : Nat) (zs : List Int) (w : World) (h : CodeAt w a len cap zs) :
    Calls Try.prog 9 #[.slice a len cap] w fun e w' => ∃ l n, e = .returned (.agg #[.int .i64 l, .int .i64 n]) ∧ i64In l ∧ i64In n ∧ Below w.heap.size w w' := by
  have h0 : CodeAt (w.alloc (.cells #[.int .i64 0, .int .i64 0] 26)) a len cap zs := h.below ((Below.refl _ _).alloc (Nat.le_refl _) _)
  clear h
  go_enter Try.func9, Try.ntmps9
  go_wp2_with fail
  refine (l9Open a len cap zs _ h0).mono ?_
  rintro e w1 ⟨rfl, ⟨m, hr1⟩, hb1⟩
  clear h0
  simp only [World.size_alloc] at hr1 hb1
  have g1 : Below w.heap.size w w1 := Below.trans ((Below.refl _ _).alloc (Nat.le_refl _) _) (hb1.mono (by omega))
  have hc1 := Below.celz hb1
  have hf1 := Below.froz hb1
  have hV := hr1.lt
  go_wp2_with fail
  refine (l1Label _ _ _ _ _ _ _ hr1 (by omega)).mono ?_
  rintro e w2 ⟨x, p2, rfl, hx, hp, hr2, hg⟩
  go_wp2_with fail
  refine (num_lit _ _ _ _ _ _ _ [0, 1, 5, 999, 1000, -1] _ hr2 (by omega) (by decide) (by decide) rfl).mono ?_
  rintro e w3 ⟨f, hf, rfl, hr3, hg3⟩
  have hfb : -1 ≤ f ∧ f ≤ 1000 := by simp at hf; omega
  have b3 : Below (w.heap.size + 1) w1 w3 := below_of_grown (grownBy_trans hg hg3) (Nat.le_of_lt hV)
  have hfr : (w3.frozen? ⟨w.heap.size, 0, none⟩ = false ∧ w3.frozen? ⟨w.heap.size, 1, none⟩ = false) ∧ w3.cell? ⟨w.heap.size, 0, none⟩ = some (.int .i64 0) ∧ w3.cell? ⟨w.heap.size, 1, none⟩ = some (.int .i64 0) := by
    refine ⟨⟨?_, ?_⟩, ?_, ?_⟩
    · rw [Below.froz b3 _ _ _ (by omega), hf1 _ _ _ (by omega)]; simp [go_sem]
    · rw [Below.froz b3 _ _ _ (by omega), hf1 _ _ _ (by omega)]; simp [go_sem]
    · rw [Below.celz b3 _ _ _ (by omega), hc1 _ _ _ (by omega)]; simp [go_sem]
    · rw [Below.celz b3 _ _ _ (by omega), hc1 _ _ _ (by omega)]; simp [go_sem]
  have HB : Hid (Below w.heap.size w w3 ∧ i64In x) := ⟨g1.trans (b3.mono (by omega)), hx⟩
  clear hf hr2 hg hx hg3 hr1 hb1 g1 hc1 hf1 hr3 b3
  go_wp2_with fail
  refine bodyPost_ret (v := .agg #[.int .i64 x, .int .i64 f]) (by simp [*, results, Try.results9, go_sem]) rfl ?_
  exact ⟨x, f, rfl, HB.out.2, ⟨by omega, by omega⟩, by first | exact (HB.out.1.setCell (by simp) _).setCell (by simp) _ | exact HB.out.1⟩
end Go.Proofs.Ythkdadgccjilkaa.Lab

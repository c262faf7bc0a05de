/-
  What is drawn of bytes with a place: DrawNumAt, DrawRowAt.
-/
import Derived.Test.YtladmjhokdgipaaDoorTrn
namespace Go.Proofs.YtladmjhokdgipaaDoor.Lab
open Go.RowKit
set_option linter.unusedVariables false
theorem row_lit (w : World) (xs : List Int) (hx : 0 < xs.length) : RowAt 1 encI (w.alloc (.cells (xs.map (Value.int .i64)).toArray 3)) (.slice (some ⟨w.heap.size, 0, none⟩) xs.length xs.length) xs := by
  refine .inr ⟨hx, w.heap.size, 0, xs.length, rfl, by simp, fun j x hj i u hu => ?_⟩
  rw [cell_block (new_block _ _)]
  match i, hu with
  | 0, hu =>
    simp [encI] at hu
    subst hu
    simp [List.getElem?_map, hj]
theorem rowL_len (xs : List Int) : (rowL xs).length ≤ 2 + 2 * xs.length := by
  unfold rowL
  split
  · exact rowK_len _ _
  · simp
set_option maxHeartbeats 1000000 in
theorem drawNumAt (a : Option Addr) (len cap : Nat) (zs : List Int) (w : World) (h : CodeAt w a len cap zs) :
    Calls Tryd.prog 9 #[.slice a len cap] w fun e w' => ∃ (t : List UInt8) (p : Int), e = .returned (.tuple #[.string ⟨t.toArray⟩, .int .i64 p]) ∧ t.length ≤ 20 ∧ Below w.heap.size w w' := by
  go_enter Tryd.func9, Tryd.ntmps9
  go_wp2_with fail
  refine (l9Open a len cap zs _ h).mono ?_
  rintro e w1 ⟨rfl, ⟨n, hr⟩, hb⟩
  have hlt := hr.lt
  have HB : Hid (Below w.heap.size w w1) := hb
  have HR : Hid (RdAt w1 w.heap.size a n cap zs 0) := hr
  clear h hr hb
  go_wp2_with fail
  refine (spec_PackRow _ [1, 200, 400, 4000] _ (row_lit w1 [1, 200, 400, 4000] (by simp)) (by simp)).mono ?_
  rintro e w2 ⟨rfl, b2⟩
  have B2 : Below w1.heap.size w1 w2 := ((Below.refl _ _).alloc (Nat.le_refl _) _).trans (b2.mono (by simp))
  have r2 : RdAt w2 w.heap.size a n cap zs 0 := HR.out.below B2 hlt
  have HB2 : Hid (Below w.heap.size w w2) := HB.out.trans (B2.mono HB.out.size)
  have hl := rowL_len [1, 200, 400, 4000]
  obtain ⟨R, hR⟩ : ∃ R, R = rowL [1, 200, 400, 4000] := ⟨_, rfl⟩
  rw [← hR] at hl ⊢
  simp only [List.length_cons, List.length_nil] at hl
  have hz : (ByteArray.mk R.toArray).size = R.length := by simp [ByteArray.size]
  clear b2 B2 hR HB HR
  go_wp2_with fail
  refine (l4Torn _ _ _ _ _ _ ⟨R.toArray⟩ _ r2 (by omega) (by omega)).mono ?_
  rintro e w3 ⟨t, q, rfl, ht, hq, hr3, hg3⟩
  have HB3 : Hid (Below w.heap.size w w3) := HB2.out.trans (below_of_grown hg3 HB2.out.size)
  have hts : t.data.toList.length ≤ 20 := by rw [Array.length_toList]; show t.size ≤ 20; omega
  have HT : Hid (t.data.toList.length ≤ 20) := hts
  clear r2 hg3 HB2 ht hts hz hl
  go_wp2_with fail
  refine (num_lit _ _ _ _ _ _ _ [0, 1, 2, 3, 4, 5, 7, -1, 20] _ hr3 (by omega) (by decide) (by decide) rfl).mono ?_
  rintro e w4 ⟨p, _, rfl, hr4, hg4⟩
  have HB4 : Hid (Below w.heap.size w w4) := HB3.out.trans (below_of_grown hg4 HB3.out.size)
  clear hr3 hr4 hg4 HB3
  go_wp2_with fail
  go_ret2
  exact ⟨t.data.toList, p, rfl, HT.out, HB4.out⟩
set_option maxHeartbeats 1000000 in
theorem drawRowAt (a : Option Addr) (len cap : Nat) (zs : List Int) (w : World) (h : CodeAt w a len cap zs) :
    Calls Tryd.prog 15 #[.slice a len cap] w fun e w' => ∃ (t : List UInt8) (p : Int), e = .returned (.tuple #[.string ⟨t.toArray⟩, .int .i64 p]) ∧ t.length ≤ 20 ∧ Below w.heap.size w w' := by
  go_enter Tryd.func15, Tryd.ntmps15
  go_wp2_with fail
  refine (l9Open a len cap zs _ h).mono ?_
  rintro e w1 ⟨rfl, ⟨n, hr⟩, hb⟩
  have HB : Hid (Below w.heap.size w w1) := hb
  clear h hb
  go_wp2_with fail
  refine (l4List _ _ _ _ _ _ _ hr (by omega)).mono ?_
  rintro e w1' ⟨v, xs, q0, rfl, ho, hxl, hq0, hr1, hg1⟩
  have HB1 : Hid (Below w.heap.size w w1') := HB.out.trans (below_of_grown hg1 HB.out.size)
  have hrow : RowAt 1 encI w1' v xs := row_of_own encI_len (by decide) ho
  have hlt := hr1.lt
  obtain ⟨xa, xc, rfl⟩ := own_form ho
  clear hr hg1 ho HB
  go_wp2_with fail
  refine (spec_PackRow _ xs _ hrow (by omega)).mono ?_
  rintro e w2 ⟨rfl, b2⟩
  have r2 : RdAt w2 w.heap.size a n cap zs q0 := hr1.below b2 hlt
  have HB2 : Hid (Below w.heap.size w w2) := HB1.out.trans (b2.mono HB1.out.size)
  have hl := rowL_len xs
  obtain ⟨R, hR⟩ : ∃ R, R = rowL xs := ⟨_, rfl⟩
  rw [← hR] at hl ⊢
  have hz : (ByteArray.mk R.toArray).size = R.length := by simp [ByteArray.size]
  clear b2 hR HB1 hr1 hrow
  go_wp2_with fail
  refine (l4Torn _ _ _ _ _ _ ⟨R.toArray⟩ _ r2 (by omega) (by omega)).mono ?_
  rintro e w3 ⟨t, q, rfl, ht, hq, hr3, hg3⟩
  have HB3 : Hid (Below w.heap.size w w3) := HB2.out.trans (below_of_grown hg3 HB2.out.size)
  have hts : t.data.toList.length ≤ 20 := by rw [Array.length_toList]; show t.size ≤ 20; omega
  have HT : Hid (t.data.toList.length ≤ 20) := hts
  clear r2 hg3 HB2 ht hts hz hl
  go_wp2_with fail
  refine (num_lit _ _ _ _ _ _ _ [0, 0, 0, 1, 2, -1, 9] _ hr3 (by omega) (by decide) (by decide) rfl).mono ?_
  rintro e w4 ⟨p, _, rfl, hr4, hg4⟩
  have HB4 : Hid (Below w.heap.size w w4) := HB3.out.trans (below_of_grown hg4 HB3.out.size)
  clear hr3 hr4 hg4 HB3
  go_wp2_with fail
  go_ret2
  exact ⟨t.data.toList, p, rfl, HT.out, HB4.out⟩
end Go.Proofs.YtladmjhokdgipaaDoor.Lab

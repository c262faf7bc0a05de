/-
  How much a store holds, all its bytes together: szSegS again, told of the sum.
-/
import Derived.Test.YtlnpbfeihjfnjabGreatDoorSrd
import Derived.Test.YtlnpbfeihjfnjabGreatDoorSeg
namespace Go.Proofs.YtlnpbfeihjfnjabGreatDoor.Lab
open Go.RowKit
set_option linter.unusedVariables false
theorem srO_len (xs : List (Int × List UInt8)) : (srN (srO xs)).length ≤ 40 ∧ (srE (srO xs)).length ≤ 56 := by
  cases h : srO xs with
  | none => exact ⟨by simp [srN], by simp [srE]⟩
  | some y =>
    obtain ⟨ns, es⟩ := y
    have hg := gokB_true.1 (srO_gok h)
    exact ⟨nodes_len hg.1, edges_len hg.2⟩
set_option maxHeartbeats 2000000 in
theorem szSegT_some (b off cap : Nat) (xs : List (Int × List UInt8)) (left : Int) (w : World) (h0 : 0 ≤ left) (h1 : left ≤ 1048576) (hl : (xs.length : Int) ≤ left) (hb : b < w.heap.size) (hsm : ∀ x ∈ xs, x.2.length ≤ 9223372036854775807)
    (hc : ∀ j x, xs[j]? = some x → ∀ i u, (encSeg x)[i]? = some u → w.cell? ⟨b, off + j * 2 + i, none⟩ = some u) :
    Calls Tryz.prog 14 #[.slice (some ⟨b, off, none⟩) xs.length cap, .int .i64 left] w fun e w' => (∃ r : Int, e = .returned (.int .i64 r) ∧ -1 ≤ r ∧ r ≤ left - xs.length ∧ (0 ≤ r → (xs.length : Int) + lenS xs + r ≤ left)) ∧ Below w.heap.size w w' := by
  have HC : Hid (∀ j x, xs[j]? = some x → ∀ i u, (encSeg x)[i]? = some u → w.cell? ⟨b, off + j * 2 + i, none⟩ = some u) := hc
  have HM : Hid (∀ x ∈ xs, x.2.length ≤ 9223372036854775807) := hsm
  clear hc hsm
  obtain ⟨n, hn⟩ : ∃ n, n = xs.length := ⟨_, rfl⟩
  have HN : Hid (n = xs.length) := hn
  rw [← hn] at hl ⊢
  clear hn
  go_enter Tryz.func14, Tryz.ntmps14
  go_wp2_with fail
  go_loopw [1, 5] (fun l i wr => ∃ k : Nat, ∃ r : Int, k ≤ n ∧ i = .int .i64 k ∧ l = .int .i64 r ∧ 0 ≤ r ∧ r ≤ left - n ∧ Below w.heap.size w wr ∧ (lenS (xs.take k) : Int) + r = left - n) (fun _ i _ => n - (intOf i).toNat)
  case atStart => exact ⟨0, left - n, by omega, rfl, rfl, by omega, by omega, Below.refl _ _, by simp [lenS]⟩
  case round =>
    obtain ⟨k, r, hk, rfl, rfl, hr0, hr1, hbel, hq⟩ := hrel
    have HQ : Hid ((lenS (xs.take k) : Int) + r = left - n) := hq
    clear hq
    by_cases hlt : k < n
    · obtain ⟨⟨m0, m1⟩, hx⟩ : ∃ x, xs[k]? = some x := ⟨_, List.getElem?_eq_getElem (by rw [← HN.out]; exact hlt)⟩
      have e0 : wr.cell? ⟨b, off + k * 2, none⟩ = some (.int .i64 m0) := by rw [hbel.cell (p := ⟨b, off + k * 2, none⟩) hb]; exact HC.out k _ hx 0 _ rfl
      have e1 : wr.cell? ⟨b, off + k * 2 + 1, none⟩ = some (.string ⟨m1.toArray⟩) := by rw [hbel.cell (p := ⟨b, off + k * 2 + 1, none⟩) hb]; exact HC.out k _ hx 1 _ rfl
      have HX : Hid (xs[k]? = some (m0, m1)) := hx
      have HL : Hid (m1.length ≤ 9223372036854775807) := HM.out _ (List.mem_of_getElem? hx)
      have HB : Hid (Below w.heap.size w wr) := hbel
      have k0 : (0 : Int) ≤ (k : Int) := by omega
      have k1 : (k : Int) < (n : Int) := by omega
      clear hx hbel
      by_cases hs : (m1.length : Int) ≤ r
      · go_wp2_with fail
        refine (szSeg m0 m1 r _ hr0 (by omega) HL.out).mono ?_
        rintro e w1 ⟨rfl, b1⟩
        rw [if_pos hs]
        have HB1 : Hid (Below w.heap.size w w1) := HB.out.trans (b1.mono HB.out.size)
        have r2 : 0 ≤ r - m1.length := by omega
        clear b1 HB
        go_wp2_with fail
        go_roundw
        case rel =>
          refine ⟨k + 1, r - m1.length, by omega, by go_num, rfl, by omega, by omega, HB1.out, ?_⟩
          rw [lenS_step HX.out]
          have := HQ.out
          simp only
          push_cast
          omega
        case measure => simp [intOf]; omega
      · go_wp2_with fail
        refine (szSeg m0 m1 r _ hr0 (by omega) HL.out).mono ?_
        rintro e w1 ⟨rfl, b1⟩
        rw [if_neg (by omega)]
        have HB1 : Hid (Below w.heap.size w w1) := HB.out.trans (b1.mono HB.out.size)
        clear b1 HB
        go_wp2_with fail
        go_ret
        exact ⟨⟨-1, rfl, by omega, by omega, fun h => by omega⟩, HB1.out⟩
    · have hkn : k = n := by omega
      subst hkn
      go_wp2_with fail
      go_ret
      refine ⟨⟨r, rfl, by omega, hr1, fun _ => ?_⟩, hbel⟩
      have h := HQ.out
      have hk := HN.out
      rw [HN.out, List.take_length] at h
      omega
theorem szSegT (v : Value) (xs : List (Int × List UInt8)) (left : Int) (w : World) (h : RowAt 2 encSeg w v xs) (h0 : 0 ≤ left) (h1 : left ≤ 1048576) (hn : xs.length ≤ 9223372036854775807) (hsm : ∀ x ∈ xs, x.2.length ≤ 9223372036854775807) :
    Calls Tryz.prog 14 #[v, .int .i64 left] w fun e w' => (∃ r : Int, e = .returned (.int .i64 r) ∧ -1 ≤ r ∧ r ≤ left ∧ (0 ≤ r → (xs.length : Int) + lenS xs + r ≤ left)) ∧ Below w.heap.size w w' := by
  obtain ⟨a, cap, hv⟩ := h.len
  by_cases hl : left < (xs.length : Int)
  · subst hv
    exact (szSegS_none a _ cap left w h0 h1 hn hl).mono (fun e w' h => ⟨⟨-1, h.1, by omega, by omega, fun h => by omega⟩, by rw [h.2]; exact Below.refl _ _⟩)
  · rcases h with ⟨rfl, a1, c1, rfl⟩ | ⟨p1, b1, o1, c1, rfl, l1, e1⟩
    · exact (szSegS_zero a1 c1 left w h0 h1).mono (fun e w' h => ⟨⟨left, h.1, by omega, by omega, fun _ => by simp [lenS]⟩, by rw [h.2]; exact Below.refl _ _⟩)
    · exact (szSegT_some b1 o1 c1 xs left w h0 h1 (by omega) l1 hsm e1).mono (fun e w' ⟨⟨r, h1, h2, h3, h4⟩, hb⟩ => ⟨⟨r, h1, h2, by omega, fun hr => h4 hr⟩, hb⟩)
end Go.Proofs.YtlnpbfeihjfnjabGreatDoor.Lab

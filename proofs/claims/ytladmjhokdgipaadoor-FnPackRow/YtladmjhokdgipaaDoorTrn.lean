/-
  What is drawn of bytes: a text that is torn, a number's and a row's bytes with a place.
-/
import Derived.Test.YtladmjhokdgipaaDoorDpk
import Derived.Test.YtladmjhokdgipaaDoorPrw
import Derived.Deep.RegionHeld3
import Derived.Deep.RegionWith
namespace Go.Proofs.YtladmjhokdgipaaDoor.Lab
open Go.RowKit
set_option linter.unusedVariables false
/-- While a text is torn: the reader stands somewhere, all else that was is as it was. -/
def TS (w0 : World) (B len cap : Nat) (a : Option Addr) (zs : List Int) (p : Int) (w : World) : Prop := (∃ q, q ≤ p ∧ RdAt w B a len cap zs q) ∧ w0.grownBy w (some B)
theorem TS.alloc {w0 w : World} {B len cap : Nat} {a : Option Addr} {zs : List Int} {p : Int} (h : TS w0 B len cap a zs p w) (o : Obj) : TS w0 B len cap a zs p (w.alloc o) := by
  obtain ⟨⟨q, hq, hr⟩, hg⟩ := h
  exact ⟨⟨q, hq, hr.alloc o⟩, grownBy_trans hg (World.grownBy_alloc _ _ _)⟩
theorem TS.step {w0 w w' : World} {B len cap : Nat} {a : Option Addr} {zs : List Int} {p q : Int} (h : TS w0 B len cap a zs p w) (hr : RdAt w' B a len cap zs q) (hq : q ≤ p) (hg : w.grownBy w' (some B)) : TS w0 B len cap a zs p w' := ⟨⟨q, hq, hr⟩, grownBy_trans h.2 hg⟩
theorem torn_num (B len cap : Nat) (a : Option Addr) (zs : List Int) (pos : Int) (w : World) (h : RdAt w B a len cap zs pos) (hp : pos ≤ 1000000000) :
    Calls Tryd.prog 21 #[.pointer (some ⟨B, 0, none⟩), .slice (some ⟨w.heap.size, 0, none⟩) 9 9] ((w.alloc (.cells #[.int .i64 0, .int .i64 1, .int .i64 2, .int .i64 3, .int .i64 64, .int .i64 127, .int .i64 128, .int .i64 129, .int .i64 255] 3)).drew) fun e w' => ∃ v, 0 ≤ v ∧ v ≤ 255 ∧ e = .returned (.int .i64 v) ∧ RdAt w' B a len cap zs (pos + 1) ∧ w.grownBy w' (some B) := by
  have h' : RdAt w.drew B a len cap zs pos := h
  have := num_lit B w.heap.size len cap a zs pos [0, 1, 2, 3, 64, 127, 128, 129, 255] w.drew h' hp (by decide) (by decide) rfl
  refine Calls.mono (show Calls Tryd.prog 21 #[.pointer (some ⟨B, 0, none⟩), .slice (some ⟨w.heap.size, 0, none⟩) 9 9] ((w.alloc (.cells #[.int .i64 0, .int .i64 1, .int .i64 2, .int .i64 3, .int .i64 64, .int .i64 127, .int .i64 128, .int .i64 129, .int .i64 255] 3)).drew) _ from this) ?_
  rintro e w' ⟨v, hv, rfl, hr, hg⟩
  have hvb : 0 ≤ v ∧ v ≤ 255 := by
    simp at hv; omega
  exact ⟨v, hvb.1, hvb.2, rfl, hr, ⟨hg.os, hg.tape, hg.output, hg.size, hg.block⟩⟩
theorem torn_len1 (c : UInt8) {p s : ByteArray} (hz : p.size ≤ s.size) (hs : s.size ≤ 100000) : (9223372036854775807 < p.size + (ByteArray.mk #[c]).size) = False := by
  have : (ByteArray.mk #[c]).size = 1 := rfl
  rw [this, eq_iff_iff, iff_false]; omega
theorem torn_len1' (c : UInt8) {p s : ByteArray} (hz : p.size ≤ s.size) (hs : s.size ≤ 100000) : (p.size + (ByteArray.mk #[c]).size ≤ 9223372036854775807) = True := by
  have : (ByteArray.mk #[c]).size = 1 := rfl
  rw [this, eq_iff_iff, iff_true]; omega
theorem torn_size (s : ByteArray) (j k : Nat) (c : UInt8) (h : j ≤ k) : (s.extract 0 j ++ ⟨#[c]⟩ ++ s.extract k s.size).size ≤ s.size + 1 := by
  have h1 : (ByteArray.mk #[c]).size = 1 := rfl
  rw [ByteArray.size_append, ByteArray.size_append, h1, ByteArray.size_extract, ByteArray.size_extract]
  omega
theorem ext_size (s : ByteArray) (k : Nat) : (s.extract k s.size).size ≤ s.size := by rw [ByteArray.size_extract]; omega
theorem torn_len2 (c : UInt8) {p q s : ByteArray} (hz : p.size ≤ s.size) (hq : q.size ≤ s.size) (hs : s.size ≤ 100000) : (9223372036854775807 < p.size + (ByteArray.mk #[c]).size + q.size) = False := by
  have : (ByteArray.mk #[c]).size = 1 := rfl
  rw [this, eq_iff_iff, iff_false]; omega
theorem torn_len2' (c : UInt8) {p q s : ByteArray} (hz : p.size ≤ s.size) (hq : q.size ≤ s.size) (hs : s.size ≤ 100000) : (9223372036854775807 < (p ++ ByteArray.mk #[c]).size + q.size) = False := by
  have h1 : (ByteArray.mk #[c]).size = 1 := rfl
  rw [ByteArray.size_append, h1, eq_iff_iff, iff_false]; omega
theorem torn_cell {w3 w4 : World} {B t : Nat} {u : Value} (hg : (w3.alloc (.cells #[u] t)).grownBy w4 (some B)) (hB : B < w3.heap.size) : w4.cell? ⟨w3.heap.size, 0, none⟩ = some u := by
  rw [World.cell?_of_block (a := ⟨w3.heap.size, 0, none⟩) (hg.block w3.heap.size (by simp) (fun e => absurd (Option.some.inj e) (by omega)))]
  simp
theorem torn_sum (x : Int) (h0 : 0 ≤ x) (h1 : x ≤ 1000000) : IntKind.i64.wrap x = x := by
  unfold IntKind.wrap
  simp [IntKind.bits, IntKind.signed]
  omega
theorem torn_str (v : Int) (v0 : 0 ≤ v) (v1 : v ≤ 255) (w : World) (b : Nat) (h : w.cell? ⟨b, 0, none⟩ = some (.int .u8 (IntKind.u8.wrap v))) :
    (convert 22 9 (.slice (some ⟨b, 0, none⟩) 1 1)).run Tryd.prog w = .ok (.string ⟨#[UInt8.ofNat v.toNat]⟩) w := by
  refine str_one _ w b ?_
  rw [h, byte_nat _ (by omega)]
  have : IntKind.u8.wrap v = (v.toNat : Int) := by
    unfold IntKind.wrap
    simp [IntKind.bits, IntKind.signed]
    omega
  rw [this]
set_option maxHeartbeats 4000000 in
theorem l4Torn (B len cap : Nat) (a : Option Addr) (zs : List Int) (pos : Int) (s : ByteArray) (w : World) (h : RdAt w B a len cap zs pos) (hp : pos ≤ 100000000) (hs : s.size ≤ 100000) :
    Calls Tryd.prog 22 #[.pointer (some ⟨B, 0, none⟩), .string s] w fun e w' => ∃ (t : ByteArray) (q : Int), e = .returned (.string t) ∧ t.size ≤ s.size + 1 ∧ q ≤ pos + 4 ∧ RdAt w' B a len cap zs q ∧ w.grownBy w' (some B) := by
  have hB := h.lt
  by_cases hs0 : s.size = 0
  · have he : s = ⟨#[]⟩ := by
      apply ByteArray.ext
      exact Array.eq_empty_of_size_eq_zero hs0
    subst he
    have HR : Hid (RdAt w B a len cap zs pos) := h
    clear h
    go_enter Tryd.func22, Tryd.ntmps22
    go_wp2_with fail
    go_ret
    exact ⟨_, pos, rfl, by simp, by omega, HR.out, grownBy_refl _ _⟩
  have he : s.toList.isEmpty = false := by
    rw [ByteArray.toList_eq]
    cases hx : s.data.toList with
    | nil => exfalso; apply hs0; show s.data.size = 0; rw [← Array.length_toList, hx]; rfl
    | cons x xs => rfl
  go_enter Tryd.func22, Tryd.ntmps22
  go_wp2_with fail
  refine (pick B len cap a zs pos _ _ h (by omega) (by omega) (by omega)).mono ?_
  rintro e w1 ⟨x, rfl, x0, x1, hr1, hg1⟩
  by_cases hx : x = 0
  · subst hx
    have HR : Hid (RdAt w1 B a len cap zs (pos + 1) ∧ w.grownBy w1 (some B)) := ⟨hr1, hg1⟩
    clear h hr1 hg1
    go_wp2_with fail
    go_ret
    exact ⟨s, pos + 1, rfl, by omega, by omega, HR.out⟩
  · have hxb : (x == 0) = false := by simpa using hx
    clear h hx
    go_wp2_with fail
    refine (pick B len cap a zs (pos + 1) _ _ hr1 (by omega) (by omega) (by omega)).mono ?_
    rintro e w2 ⟨k, rfl, k0, k1, hr2, hg2⟩
    obtain ⟨j, rfl⟩ := Int.eq_ofNat_of_zero_le k0
    have hj : j < s.size := by omega
    have hji : (j : Int) ≤ (s.size : Int) := by omega
    have HG2 : Hid (w.grownBy w2 (some B)) := grownBy_trans hg1 hg2
    have HR2 : Hid (TS w2 B len cap a zs (pos + 4) w2) := ⟨⟨_, by omega, hr2⟩, grownBy_refl _ _⟩
    have HRD : Hid (RdAt w2 B a len cap zs (pos + 1 + 1)) := hr2
    have hz0 : (s.extract 0 j).size ≤ s.size := by rw [ByteArray.size_extract]; omega
    clear hr1 hg1 hr2 hg2
    go_wp2_with fail
    go_region_with (first
        | (go_at_call 21; refine (torn_num B len cap a zs (pos + 1 + 1) w2 HRD.out (by omega)).mono ?_; rintro e w3 ⟨v, v0, v1, rfl, hr3, hg3⟩; have ks := torn_str v v0 v1; have n1 := torn_len1 (UInt8.ofNat v.toNat) hz0 hs; have n1' := torn_len1' (UInt8.ofNat v.toNat) hz0 hs)
        | (go_at_call 31; refine (pick B len cap a zs (pos + 1 + 1 + 1) _ _ hr3 (by omega) (by omega) (by omega)).mono ?_; rintro e w4 ⟨y, rfl, y0, y1, hr4, hg4⟩; have hw4 : IntKind.i64.wrap ((j : Int) + y) = (j : Int) + y := torn_sum _ (by omega) (by omega); have q0 : (0 : Int) ≤ (j : Int) + y := (by omega); have q1 : (j : Int) + y ≤ (s.size : Int) := (by omega); obtain ⟨y', rfl⟩ := Int.eq_ofNat_of_zero_le y0; have q2 : ((j : Int) + (y' : Int)).toNat = j + y' := (by omega); have q3 : j + y' ≤ s.size := (by omega); have q4 : ((j : Int) + (y' : Int) ≤ (s.size : Int)) = True := (by rw [eq_iff_iff, iff_true]; omega); have q5 : ((0 : Int) ≤ (j : Int) + (y' : Int)) = True := (by rw [eq_iff_iff, iff_true]; omega); have n2 := torn_len2 (p := s.extract 0 j) (q := s.extract (j + y') s.size) (UInt8.ofNat v.toNat) hz0 (ext_size s (j + y')) hs; have n2' := torn_len2' (p := s.extract 0 j) (q := s.extract (j + y') s.size) (UInt8.ofNat v.toNat) hz0 (ext_size s (j + y')) hs)
        | (go_at_call 31; refine (pick B len cap a zs (pos + 1 + 1 + 1) _ _ (hr3.alloc _) (by omega) (by omega) (by omega)).mono ?_; rintro e w4 ⟨y, rfl, y0, y1, hr4, hg4⟩; have c4 := torn_cell hg4 hr3.lt; have hw4 : IntKind.i64.wrap ((j : Int) + y) = (j : Int) + y := torn_sum _ (by omega) (by omega); have q0 : (0 : Int) ≤ (j : Int) + y := (by omega); have q1 : (j : Int) + y ≤ (s.size : Int) := (by omega); obtain ⟨y', rfl⟩ := Int.eq_ofNat_of_zero_le y0; have q2 : ((j : Int) + (y' : Int)).toNat = j + y' := (by omega); have q3 : j + y' ≤ s.size := (by omega); have q4 : ((j : Int) + (y' : Int) ≤ (s.size : Int)) = True := (by rw [eq_iff_iff, iff_true]; omega); have q5 : ((0 : Int) ≤ (j : Int) + (y' : Int)) = True := (by rw [eq_iff_iff, iff_true]; omega); have n2 := torn_len2 (p := s.extract 0 j) (q := s.extract (j + y') s.size) (UInt8.ofNat v.toNat) hz0 (ext_size s (j + y')) hs; have n2' := torn_len2' (p := s.extract 0 j) (q := s.extract (j + y') s.size) (UInt8.ofNat v.toNat) hz0 (ext_size s (j + y')) hs))
    all_goals (
      have HF : Hid (RdAt w4 B a len cap zs (pos + 1 + 1 + 1 + 1) ∧ w2.grownBy w4 (some B)) := ⟨hr4, by first | exact grownBy_trans hg3 hg4 | exact grownBy_trans (grownBy_trans hg3 (World.grownBy_alloc _ _ _)) hg4⟩
      clear hr3 hg3 hr4 hg4 ks n1 n1' n2 n2'
      go_wp2_with fail
      go_ret
      first
        | exact ⟨_, _, rfl, torn_size s j _ _ (by omega), by omega, HF.out.1, grownBy_trans HG2.out HF.out.2⟩
        | exact ⟨_, _, rfl, torn_size s j _ _ (by omega), by omega, HF.out.1.alloc _, grownBy_trans (grownBy_trans HG2.out HF.out.2) (World.grownBy_alloc _ _ _)⟩)
end Go.Proofs.YtladmjhokdgipaaDoor.Lab

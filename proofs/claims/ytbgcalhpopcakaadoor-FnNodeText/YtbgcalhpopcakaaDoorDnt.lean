/-
  What is drawn of nodes' texts: DrawNodeText, DrawNodeRead.
-/
import Derived.Test.YtbgcalhpopcakaaDoorDrn
import Derived.Test.YtbgcalhpopcakaaDoorNdt
import Derived.Deep.RegionHeld3
namespace Go.Proofs.YtbgcalhpopcakaaDoor.Lab
open Go.RowKit
set_option linter.unusedVariables false
theorem gr_drew {w w2 : World} {r : Option Nat} (h : w.drew.grownBy w2 r) : w.grownBy w2 r := ⟨h.os, h.tape, h.output, h.size, h.block⟩
theorem ndt_size {l n : Int} (h : nodeB l n = true) : 1 ≤ (ndt l n).size ∧ (ndt l n).size ≤ 6 := by
  obtain ⟨h1, h2, h3⟩ := nodeB_true h
  obtain ⟨k, rfl⟩ := Int.eq_ofNat_of_zero_le h2
  rw [ndt, h, if_pos rfl]
  have a := textOf_size l
  have b := dec_size k (by omega)
  rw [ByteArray.size_append, ByteArray.size_append]
  have c : (⟨#[46]⟩ : ByteArray).size = 1 := rfl
  rw [c, show ((k : Int)).toNat = k by simp]
  omega
theorem ndt_le (l n : Int) : (ndt l n).size ≤ 1048576 := by
  cases h : nodeB l n with
  | true => have := (ndt_size h).2; omega
  | false =>
    have e : ndt l n = ⟨#[]⟩ := by rw [ndt, h]; rfl
    rw [e]; decide
set_option maxHeartbeats 400000 in
theorem drawNodeText (a : Option Addr) (len cap : Nat) (zs : List Int) (w : World) (h : CodeAt w a len cap zs) :
    Calls Tryd.prog 6 #[.slice a len cap] w fun e w' => ∃ l n, e = .returned (.agg #[.int .i64 l, .int .i64 n]) ∧ i64In l ∧ i64In n ∧ Below w.heap.size w w' := by
  have h0 : CodeAt (w.alloc (.cells #[.int .i64 0, .int .i64 0] 24)) a len cap zs := h.below ((Below.refl _ _).alloc (Nat.le_refl _) _)
  clear h
  go_enter Tryd.func6, Tryd.ntmps6
  go_wp2_with fail
  refine (drawNodeOk a len cap zs _ h0).mono ?_
  rintro e w1 ⟨l, n, rfl, hl, hn, hb1⟩
  have hc := Below.celz hb1
  have hf := Below.froz hb1
  have HB : Hid (Below w.heap.size w w1 ∧ i64In l ∧ i64In n) := ⟨Below.trans ((Below.refl _ _).alloc (Nat.le_refl _) _) (hb1.mono (by simp)), hl, hn⟩
  clear hb1 h0 hl hn
  go_wp2_with fail
  refine bodyPost_ret (v := .agg #[.int .i64 l, .int .i64 n]) (by simp [*, results, Tryd.results6, go_sem]) rfl ?_
  exact ⟨l, n, rfl, HB.out.2.1, HB.out.2.2, (HB.out.1.setCell (by simp) _).setCell (by simp) _⟩
theorem ofB (B L len cap : Nat) (a : Option Addr) (zs : List Int) (pos : Int) (n M : Nat) (w : World) (h : RdAt w B a len cap zs pos) (hp : pos ≤ 1000000000) (h1 : 1 ≤ n) (h2 : n ≤ 1000)
    (hL : B < L) (hL2 : L < w.heap.size) (hc : ∀ j, j < n → ∃ s, w.cell? ⟨L, j, none⟩ = some (.string s) ∧ s.size ≤ M) :
    Calls Tryd.prog 24 #[.pointer (some ⟨B, 0, none⟩), .slice (some ⟨L, 0, none⟩) n n] w fun e w' => ∃ s, e = .returned (.string s) ∧ s.size ≤ M ∧ RdAt w' B a len cap zs (pos + 1) ∧ w.grownBy w' (some B) := by
  have HC : Hid (∀ j, j < n → ∃ s, w.cell? ⟨L, j, none⟩ = some (.string s) ∧ s.size ≤ M) := hc
  clear hc
  go_enter Tryd.func24, Tryd.ntmps24
  go_wp2_with fail
  refine (pick B len cap a zs pos _ _ h hp (by omega) (by omega)).mono ?_
  rintro e w' ⟨x, rfl, hx0, hx1, hr, hg⟩
  obtain ⟨j, rfl⟩ := Int.eq_ofNat_of_zero_le hx0
  have hj : j < n := by omega
  obtain ⟨s, hs, hsm⟩ := HC.out j hj
  have hcell : w'.cell? ⟨L, j, none⟩ = some (.string s) := by
    rw [World.cell?_of_block (a := ⟨L, j, none⟩) (hg.block L hL2 (by simp; omega))]; exact hs
  have HR : Hid (RdAt w' B a len cap zs (pos + 1) ∧ w.grownBy w' (some B)) := ⟨hr, hg⟩
  clear hr hg h hs
  go_wp2
  go_ret
  exact ⟨s, rfl, hsm, HR.out.1, HR.out.2⟩
theorem ofLit (B L len cap : Nat) (a : Option Addr) (zs : List Int) (pos : Int) (M : Nat) (xs : List ByteArray) (w : World) (h : RdAt w B a len cap zs pos) (hp : pos ≤ 1000000000) (h1 : 1 ≤ xs.length) (h2 : xs.length ≤ 1000) (hL : w.heap.size = L) (hM : ∀ x ∈ xs, x.size ≤ M) :
    Calls Tryd.prog 24 #[.pointer (some ⟨B, 0, none⟩), .slice (some ⟨L, 0, none⟩) xs.length xs.length] (w.alloc (.cells (xs.map Value.string).toArray 9)) fun e w' => ∃ s, e = .returned (.string s) ∧ s.size ≤ M ∧ RdAt w' B a len cap zs (pos + 1) ∧ w.grownBy w' (some B) := by
  subst hL
  refine (ofB B w.heap.size len cap a zs pos xs.length M _ (h.alloc _) hp h1 h2 h.lt (by simp) (fun j hj => ?_)).mono ?_
  · refine ⟨xs[j]'hj, ?_, hM _ (List.getElem_mem hj)⟩
    rw [World.cell?_alloc_at _ _ _ _ rfl]
    simp [hj]
  · rintro e w' ⟨s, rfl, hs, hr, hg⟩
    exact ⟨s, rfl, hs, hr, grownBy_trans (World.grownBy_alloc _ _ _) hg⟩
set_option maxRecDepth 8000 in
set_option maxHeartbeats 4000000 in
theorem drawNodeRead (a : Option Addr) (len cap : Nat) (zs : List Int) (w : World) (h : CodeAt w a len cap zs) :
    Calls Tryd.prog 9 #[.slice a len cap] w fun e w' => ∃ t, e = .returned (.string t) ∧ t.size ≤ 1000 ∧ Below w.heap.size w w' := by
  go_enter Tryd.func9, Tryd.ntmps9
  go_wp2_with fail
  refine (l9Open a len cap zs _ h).mono ?_
  rintro e w1 ⟨rfl, ⟨m, hr1⟩, hb1⟩
  have HB1 : Hid (Below w.heap.size w w1) := hb1
  have hV := hr1.lt
  clear h hb1
  go_wp2_with fail
  refine (l2Node _ _ _ _ _ _ _ hr1 (by omega)).mono ?_
  rintro e w2 ⟨l, n, rfl, hok, hr2, hg2⟩
  have HB2 : Hid (Below w.heap.size w w2) := HB1.out.trans (below_of_grown hg2 (by omega))
  have hV2 : w.heap.size < w2.heap.size := by have := hg2.size; omega
  clear hr1 hg2 HB1 hV
  go_wp2_with fail
  refine (spec_NodeText l n _).mono ?_
  rintro e w3 ⟨rfl, hb3⟩
  have hz := ndt_size hok
  have hr3 := hr2.below hb3 hr2.lt
  have HB3 : Hid (Below w.heap.size w w3) := HB2.out.trans (hb3.mono (by omega))
  have hV3 : w.heap.size < w3.heap.size := by have := hb3.size; omega
  generalize ndt l n = s at *
  clear hr2 hb3 HB2 hV2 hok
  go_wp2_with fail
  refine (pick _ _ _ _ _ _ _ _ hr3 (by omega) (by omega) (by omega)).mono ?_
  rintro e w4 ⟨x, rfl, hx0, hx1, hr4, hg4⟩
  have HB4 : Hid (Below w.heap.size w w4) := HB3.out.trans (below_of_grown hg4 (by omega))
  have hV4 : w.heap.size < w4.heap.size := by have := hg4.size; omega
  clear hr3 hg4 HB3 hV3
  obtain ⟨hs1, hs6⟩ := hz
  by_cases hx : x = 0
  · subst hx
    clear hr4
    go_wp2
    go_ret
    exact ⟨s, rfl, by omega, HB4.out⟩
  · have hxb : (x == 0) = false := by simpa using hx
    clear hx hx0 hx1
    go_wp2_with fail
    refine (pick _ _ _ _ _ _ _ _ hr4 (by omega) (by omega) (by omega)).mono ?_
    rintro e w5 ⟨k', rfl, hk0, hk1, hr5, hg5⟩
    obtain ⟨k, rfl⟩ := Int.eq_ofNat_of_zero_le hk0
    have HB5 : Hid (Below w.heap.size w w5) := HB4.out.trans (below_of_grown hg5 (by omega))
    have hV5 : w.heap.size < w5.heap.size := by have := hg5.size; omega
    have hks : k < s.size := by omega
    have hks' : k ≤ s.size := by omega
    clear hr4 hg5 HB4 hV4
    go_wp2_with fail
    go_region_with (first
      | (go_at_call 24; refine (ofLit w.heap.size _ m cap a zs _ 1 [⟨#[]⟩, ⟨#[48]⟩, ⟨#[46]⟩, ⟨#[97]⟩, ⟨#[100]⟩, ⟨#[52]⟩, ⟨#[45]⟩] w5.drew hr5 (by omega) (by decide) (by decide) rfl (by intro x hx; simp at hx; rcases hx with rfl | rfl | rfl | rfl | rfl | rfl | rfl <;> decide)).mono ?_; rintro e w6 ⟨t1, rfl, ht1, hr6, hg6'⟩; have hg6 := gr_drew hg6'; have hV6 : w.heap.size < w6.heap.size := (by have := hg6.size; omega); have qf1 : ¬ 9223372036854775807 < k + t1.size := (by omega))
      | (go_at_call 23; refine (pick w.heap.size m cap a zs _ _ w6 hr6 (by omega) (by omega) (by omega)).mono ?_; rintro e w7 ⟨j', rfl, hj0, hj1, hr7, hg7⟩; obtain ⟨j, rfl⟩ := Int.eq_ofNat_of_zero_le hj0; have hjs : k + j ≤ s.size := (by omega); have qf2 : ¬ 9223372036854775807 < k + t1.size + (s.size - (k + j)) := (by omega); have hwr : IntKind.i64.wrap ((k : Int) + (j : Int)) = ((k + j : Nat) : Int) := (by rw [IntKind.wrap_i64]; omega)))
    all_goals (
      have HB7 : Hid (Below w.heap.size w w7) := HB5.out.trans ((below_of_grown hg6 (by omega)).trans (below_of_grown hg7 (by omega)))
      have HZ : Hid ((s.extract 0 k ++ t1 ++ s.extract (k + j) s.size).size ≤ 1000) := by show _ ≤ _; simp; omega
      clear hr5 hr6 hr7 hg6 hg6' hg7 HB5
      go_wp2
      go_ret
      exact ⟨_, rfl, HZ.out, HB7.out⟩)
end Go.Proofs.YtbgcalhpopcakaaDoor.Lab

/-
  Of every two codes: the pages of bytes that stand one behind the other share at most one page, one just where the first bytes end inside a page; more bytes are in no fewer pages, the same first.
-/
import Derived.Test.YthkdadgccjilkaaRows
import Derived.Test.YthkdadgccjilkaaNod
import Derived.Test.YthkdadgccjilkaaRow
import Derived.Test.YthkdadgccjilkaaPag
import Derived.Test.YthkdadgccjilkaaPsp
import Derived.Test.YthkdadgccjilkaaDps
import Derived.WalkKit
import Derived.ProofKit
import Derived.OpenShut
import Derived.ShutString
import Derived.ChangeOld
import Derived.Below
import Derived.Carry
import Derived.Handy
import Derived.Deep.RegionHeld3
namespace Go.Proofs.Ythkdadgccjilkaa.fnPageApart
open Go.Proofs.Ythkdadgccjilkaa.Lab
open Go.ChangeShapes Go.WideShapes Go.ChangeAt Go.RowKit
open Go.ChangeMaps (open_string shut_string)
set_option linter.unusedVariables false

theorem own : ownKnob Try.prog.godebug = none := by kernel_rfl
theorem laidOut : laidOutB Try.prog = true := by kernel_rfl
/-- A row of numbers that came in: nil, or so many cells. -/
def IsRow (k : IntKind) (w : World) (a : Option Addr) (len cap : Nat) (zs : List Int) : Prop :=
  (a = none ∧ len = 0 ∧ cap = 0 ∧ zs = []) ∨ ∃ x, a = some x ∧ len ≤ cap ∧ cap ≤ maxLen ∧ zs.length = cap ∧ (∀ i, i < zs.length → w.cell? (x.add i) = some (.int k (zs.getD i 0))) ∧ ∀ n ∈ zs, (Lit.int k n).wf = true
/-- Is a page among both. -/
def apQ (t : Int) (nb : Nat) : Bool := decide (t % 8 ≠ 0) && decide (0 < nb)
/-- How many are among both, so far. -/
def apN (t : Int) (na nb i k : Nat) : Int := if apQ t nb = true ∧ i + 1 = na ∧ 0 < k then 1 else 0
theorem apN_le (t : Int) (na nb i k : Nat) : 0 ≤ apN t na nb i k ∧ apN t na nb i k ≤ 1 := by unfold apN; split <;> omega
theorem spanL_get {l f t : Int} {n k : Nat} (hs : spanB l f t = true) (hn : n = (spanL l f t).length) (hk : k < n) : (spanL l f t)[k]? = some (l, f / 8 + k) := by
  unfold spanL at hn ⊢
  rw [hs] at hn ⊢
  simp [spanN_len] at hn
  simp [spanN, ← hn, hk]
theorem spanL_cnt {l f t : Int} {n : Nat} (hs : spanB l f t = true) (hn : n = (spanL l f t).length) : n = ((t + 7) / 8 - f / 8).toNat := by
  unfold spanL at hn
  rw [hs] at hn
  simpa [spanN_len, spanC] using hn
theorem spanL_none {l f t : Int} {n : Nat} (hs : spanB l f t = false) (hn : n = (spanL l f t).length) : n = 0 := by
  unfold spanL at hn
  rw [hs] at hn
  simpa using hn
theorem spanL_cut {l f t t2 : Int} {n : Nat} (hs : spanB l f t = true) (h2 : spanB l f t2 = true) (hn : n = (spanL l f t).length) (ht : t ≤ t2) : (spanL l f t2).take n = spanL l f t := by
  have h1 := spanL_cnt hs hn
  obtain ⟨_, q1, q2, q3⟩ := spanB_true hs
  have e1 : spanL l f t = spanN l (f / 8) n := by unfold spanL; rw [hs, h1]; simp [spanC]
  have e2 : spanL l f t2 = spanN l (f / 8) (spanC f t2) := by unfold spanL; rw [h2]; simp
  have h3 : n ≤ spanC f t2 := by rw [h1]; unfold spanC; omega
  rw [e1, e2]
  unfold spanN
  rw [← List.map_take, List.take_range, Nat.min_eq_left h3]
/-- The first of a row. -/
theorem RowAt.take {α : Type} {s : Nat} {enc : α → List Value} {w : World} {a : Option Addr} {n c : Nat} {xs : List α} (h : RowAt s enc w (.slice a n c) xs) (k : Nat) (hk : k ≤ n) : RowAt s enc w (.slice a k c) (xs.take k) := by
  rcases h with ⟨rfl, a1, c1, hv⟩ | ⟨h0, b, off, cap, hv, hlt, hc⟩
  · simp only [Value.slice.injEq] at hv
    have : k = 0 := by omega
    subst this
    exact .inl ⟨by simp, a, c, rfl⟩
  · simp only [Value.slice.injEq] at hv
    obtain ⟨rfl, rfl, rfl⟩ := hv
    by_cases hk0 : k = 0
    · subst hk0; exact .inl ⟨by simp, _, _, rfl⟩
    · refine .inr ⟨by simp; omega, b, off, _, by simp [Nat.min_eq_left hk]; rfl, hlt, fun j x hx i u hu => ?_⟩
      rw [List.getElem?_take] at hx
      split at hx
      · exact hc j x hx i u hu
      · cases hx

set_option maxHeartbeats 4000000 in
theorem walk (a0 : Option Addr) (len0 cap0 : Nat) (z0 : List Int) (a1 : Option Addr) (len1 cap1 : Nat) (z1 : List Int) (w : World) (w0 : IsRow .u8 w a0 len0 cap0 z0) (w1 : IsRow .u8 w a1 len1 cap1 z1) :
    Calls Try.prog 4 #[.slice a0 len0 cap0, .slice a1 len1 cap1] w fun e w' => e = .returned (.bool true) ∧ Below w.heap.size w w' := by
  by_cases hlen : len0 > 1048576
  · go_enter Try.func4, Try.ntmps4
    go_wp2
    go_ret
    exact ⟨rfl, Below.refl _ _⟩
  by_cases hlen1 : len1 > 1048576
  · go_enter Try.func4, Try.ntmps4
    go_wp2
    go_ret
    exact ⟨rfl, Below.refl _ _⟩
  have k0 : CodeAt w a0 len0 cap0 z0 := code_of w0
  clear w0 w1
  go_enter Try.func4, Try.ntmps4
  go_wp2_with fail
  refine (drawPageSpan _ _ _ _ _ k0).mono ?_
  rintro e wa ⟨l, f, t, rfl, hl, ⟨f0, f1⟩, ⟨t0, t1⟩, ba⟩
  have HB : Hid (Below w.heap.size w wa) := ba
  have sb : w.heap.size ≤ wa.heap.size := HB.out.size
  clear k0 ba hl
  go_wp2_with fail
  refine (impl_PageSpan l f t _).mono ?_
  rintro e wc ⟨u, rfl, ou, bc⟩
  have lv : (spanL l f t).length ≤ 1000 := spanL_le _ _ _
  have HC : Hid (Below w.heap.size w wc) := HB.out.trans (bc.mono sb)
  have HR : Hid (RowAt 2 encPage wc u (spanL l f t)) := row_of_own encPage_len (by decide) ou
  obtain ⟨ua, uc, rfl⟩ := own_form ou
  clear ou bc HB
  obtain ⟨n, hn⟩ : ∃ n, n = (spanL l f t).length := ⟨_, rfl⟩
  have HN : Hid (n = (spanL l f t).length) := hn
  rw [← hn] at lv HR ⊢
  clear hn
  go_wp2_with fail
  refine (spec_PageSpan l f t _).mono ?_
  rintro e wd ⟨y, rfl, oy, bd⟩
  have HD : Hid (Below w.heap.size w wd) := HC.out.trans (bd.mono HC.out.size)
  have HY : Hid (RowAt 2 encPage wd y (spanL l f t)) := row_of_own encPage_len (by decide) oy
  have HU : Hid (RowAt 2 encPage wd (.slice ua n uc) (spanL l f t)) := HR.out.keep bd
  clear oy bd
  go_wp2_with fail
  refine (wpPages_same _ y (spanL l f t) _ HU.out HY.out (by rw [← HN.out]; omega)).mono ?_
  rintro e we ⟨rfl, be⟩
  have HE : Hid (Below w.heap.size w we ∧ RowAt 2 encPage we (.slice ua n uc) (spanL l f t)) := ⟨HD.out.trans (be.mono HD.out.size), HU.out.keep be⟩
  clear be HD HU HY HC HR
  by_cases hA : n = 0
  · have hn0 : ((n : Int) == 0) = true := by simp; omega
    have HAA : Hid (n = 0) := hA
    clear hA
    go_wp2_with fail
    refine (spec_PageSpan l f t _).mono ?_
    rintro e wx ⟨y2, rfl, oy2, bx⟩
    have HX : Hid (Below w.heap.size w wx) := HE.out.1.trans (bx.mono HE.out.1.size)
    have HY : Hid (RowAt 2 encPage wx y2 (spanL l f t)) := row_of_own encPage_len (by decide) oy2
    have HU : Hid (RowAt 2 encPage wx (.slice ua n uc) (spanL l f t)) := HE.out.2.keep bx
    clear oy2 bx
    go_wp2_with fail
    refine (wpPages_same _ y2 (spanL l f t) _ HU.out HY.out (by rw [← HN.out]; omega)).mono ?_
    rintro e wv ⟨rfl, bv⟩
    have HV : Hid (Below w.heap.size w wv) := HX.out.trans (bv.mono HX.out.size)
    clear bv
    go_wp2_with fail
    go_ret
    exact ⟨rfl, HV.out⟩
  by_cases hT : t + len1 ≤ 8000
  rotate_left
  · have hn0 : ((n : Int) == 0) = false := by simp; omega
    have hgt : decide (8000 < t + (len1 : Int)) = true := by simp; omega
    go_wp2_with fail
    refine (spec_PageSpan l f t _).mono ?_
    rintro e wx ⟨y2, rfl, oy2, bx⟩
    have HX : Hid (Below w.heap.size w wx) := HE.out.1.trans (bx.mono HE.out.1.size)
    have HY : Hid (RowAt 2 encPage wx y2 (spanL l f t)) := row_of_own encPage_len (by decide) oy2
    have HU : Hid (RowAt 2 encPage wx (.slice ua n uc) (spanL l f t)) := HE.out.2.keep bx
    clear oy2 bx
    go_wp2_with fail
    refine (wpPages_same _ y2 (spanL l f t) _ HU.out HY.out (by rw [← HN.out]; omega)).mono ?_
    rintro e wv ⟨rfl, bv⟩
    have HV : Hid (Below w.heap.size w wv) := HX.out.trans (bv.mono HX.out.size)
    clear bv
    go_wp2_with fail
    go_ret
    exact ⟨rfl, HV.out⟩
  have hs : spanB l f t = true := by
    cases h : spanB l f t
    · exact absurd (spanL_none h HN.out) hA
    · rfl
  obtain ⟨ho, h1, h2, h3⟩ := spanB_true hs
  have hnn := spanL_cnt hs HN.out
  have hn0 : ((n : Int) == 0) = false := by simp; omega
  obtain ⟨r, hr⟩ : ∃ r : Nat, r = len1 % 20 := ⟨_, rfl⟩
  have hr1 : ((len1 : Int).tmod 20) = r := by rw [hr, Int.tmod_eq_emod_of_nonneg (by omega)]; omega
  have hr2 : ((len1 : Int) % 20) = r := by rw [hr]; omega
  have hr3 : r < 20 ∧ r ≤ len1 := by omega
  have HS : Hid (spanB l f t = true ∧ n = ((t + 7) / 8 - f / 8).toNat) := ⟨hs, hnn⟩
  clear hr hs hnn
  go_wp2_with fail
  refine (impl_PageSpan l t (t + 1 + r) _).mono ?_
  rintro e wf ⟨ub, rfl, ob, bf⟩
  have HF : Hid (Below w.heap.size w wf ∧ RowAt 2 encPage wf (.slice ua n uc) (spanL l f t)) := ⟨HE.out.1.trans (bf.mono HE.out.1.size), HE.out.2.keep bf⟩
  obtain ⟨vb, cb, rfl⟩ := own_form ob
  have lb : (spanL l t (t + 1 + r)).length ≤ 1000 := spanL_le _ _ _
  obtain ⟨nb, hnb⟩ : ∃ n, n = (spanL l t (t + 1 + r)).length := ⟨_, rfl⟩
  have HNb : Hid (nb = (spanL l t (t + 1 + r)).length) := hnb
  have HRb : Hid (RowAt 2 encPage wf (.slice vb nb cb) (spanL l t (t + 1 + r))) := by show RowAt _ _ _ _ _; rw [hnb]; exact row_of_own encPage_len (by decide) ob
  rw [← hnb] at lb ⊢
  clear ob bf hnb HE
  go_wp2_with fail
  refine (impl_PageSpan l f (t + r) _).mono ?_
  rintro e wg ⟨uq, rfl, oc, bg⟩
  have HG : Hid (Below w.heap.size w wg ∧ RowAt 2 encPage wg (.slice ua n uc) (spanL l f t)) := ⟨HF.out.1.trans (bg.mono HF.out.1.size), HF.out.2.keep bg⟩
  have HGb : Hid (RowAt 2 encPage wg (.slice vb nb cb) (spanL l t (t + 1 + r))) := HRb.out.keep bg
  obtain ⟨vc, cc, rfl⟩ := own_form oc
  have lc : (spanL l f (t + r)).length ≤ 1000 := spanL_le _ _ _
  have hcc : (spanL l f (t + r)).length ≤ cc := by
    obtain ⟨_, ⟨hv, hv2⟩ | ⟨g, cap, cur, hv, _, _, hh, _⟩⟩ := oc
    · simp only [Value.slice.injEq] at hv; omega
    · simp only [Value.slice.injEq] at hv; omega
  obtain ⟨nc, hnc⟩ : ∃ n, n = (spanL l f (t + r)).length := ⟨_, rfl⟩
  have HNc : Hid (nc = (spanL l f (t + r)).length) := hnc
  have HGc : Hid (RowAt 2 encPage wg (.slice vc nc cc) (spanL l f (t + r))) := by show RowAt _ _ _ _ _; rw [hnc]; exact row_of_own encPage_len (by decide) oc
  rw [← hnc] at lc hcc ⊢
  clear oc bg hnc HF HRb
  -- what the pages are
  have hs2 : spanB l f (t + r) = true := by simp only [spanB, ho, Bool.true_and, Bool.and_eq_true, decide_eq_true_eq]; omega
  have HCut : Hid ((spanL l f (t + r)).take n = spanL l f t) := spanL_cut HS.out.1 hs2 HN.out (by omega)
  have hac : n ≤ nc := by rw [HNc.out, HN.out, ← HCut.out, List.length_take]; omega
  have HA : Hid (∀ i, i < n → (spanL l f t)[i]? = some (l, f / 8 + i)) := fun i hi => spanL_get HS.out.1 HN.out hi
  have HBk : Hid (∀ k, k < nb → (spanL l t (t + 1 + r))[k]? = some (l, t / 8 + k)) := fun k hk => by
    cases hq : spanB l t (t + 1 + r)
    · have := spanL_none hq HNb.out; omega
    · exact spanL_get hq HNb.out hk
  have HQ : Hid (∀ i k : Nat, i < n → k < nb → (f / 8 + (i : Int) = t / 8 + (k : Int) ↔ (apQ t nb = true ∧ i + 1 = n ∧ k = 0))) := fun i k hi hk => by
    have := HS.out.2
    simp only [apQ, Bool.and_eq_true, decide_eq_true_eq, ne_eq]
    omega
  clear hs2
  go_wp2_with fail
  go_loopw [11, 12] (fun q i wr => ∃ j : Nat, j ≤ n ∧ i = .int .i64 j ∧ q = .int .i64 (if apQ t nb = true ∧ j = n then 1 else 0) ∧ Below wg.heap.size wg wr) (fun _ i _ => n - (intOf i).toNat)
  case atStart => exact ⟨0, by omega, rfl, by rw [if_neg (by omega)], Below.refl _ _⟩
  case round =>
    obtain ⟨j, hj, rfl, rfl, hbel⟩ := hrel
    by_cases hlt : j < n
    · rcases HG.out.2 with ⟨hz, _⟩ | ⟨_, b1, o1, q1, hv1, hb1, E1⟩
      · have := HN.out; rw [hz] at this; simp at this; omega
      obtain rfl : ua = some ⟨b1, o1, none⟩ := by injection hv1
      have e0 : wg.cell? ⟨b1, o1 + j * 2, none⟩ = some (.int .i64 l) := E1 j _ (HA.out j hlt) 0 _ rfl
      have e1 : wg.cell? ⟨b1, o1 + j * 2 + 1, none⟩ = some (.int .i64 (f / 8 + j)) := E1 j _ (HA.out j hlt) 1 _ rfl
      have HB0 : Hid (Below wg.heap.size wg wr) := hbel
      have hji : (j : Int) < (n : Int) := by omega
      clear hbel hv1 E1
      rw [if_neg (by omega)]
      go_wp2_with fail
      go_loopw [11, 13] (fun q i wr => ∃ k : Nat, k ≤ nb ∧ i = .int .i64 k ∧ q = .int .i64 (apN t n nb j k) ∧ Below wg.heap.size wg wr) (fun _ i _ => nb - (intOf i).toNat)
      case atStart => exact ⟨0, by omega, rfl, by simp [apN], HB0.out⟩
      case round =>
        obtain ⟨k, hk, rfl, rfl, hbel⟩ := hrel
        have an := apN_le t n nb j k
        by_cases hkt : k < nb
        · rcases HGb.out with ⟨hz, _⟩ | ⟨_, b2, o2, q2, hv2, hb2, E2⟩
          · have := HNb.out; rw [hz] at this; simp at this; omega
          obtain rfl : vb = some ⟨b2, o2, none⟩ := by injection hv2
          have g0 : wr.cell? ⟨b1, o1 + j * 2, none⟩ = some (.int .i64 l) := by rw [Below.celz hbel _ _ _ hb1]; exact e0
          have g1 : wr.cell? ⟨b1, o1 + j * 2 + 1, none⟩ = some (.int .i64 (f / 8 + j)) := by rw [Below.celz hbel _ _ _ hb1]; exact e1
          have g2 : wr.cell? ⟨b2, o2 + k * 2, none⟩ = some (.int .i64 l) := by rw [Below.celz hbel _ _ _ hb2]; exact E2 k _ (HBk.out k hkt) 0 _ rfl
          have g3 : wr.cell? ⟨b2, o2 + k * 2 + 1, none⟩ = some (.int .i64 (t / 8 + k)) := by rw [Below.celz hbel _ _ _ hb2]; exact E2 k _ (HBk.out k hkt) 1 _ rfl
          have z1 : b1 < wr.heap.size := Nat.lt_of_lt_of_le hb1 hbel.size
          have z2 : b2 < wr.heap.size := Nat.lt_of_lt_of_le hb2 hbel.size
          have hki : (k : Int) < (nb : Int) := by omega
          have HB1 : Hid (Below wg.heap.size wg wr) := hbel
          have hq := HQ.out j k hlt hkt
          have HAN : Hid (apN t n nb j (k + 1) = apN t n nb j k + (if f / 8 + (j : Int) = t / 8 + (k : Int) then 1 else 0)) := by
            show apN _ _ _ _ _ = _
            unfold apN
            by_cases hk0 : k = 0
            · subst hk0
              simp only [hq]
              by_cases hh : apQ t nb = true <;> by_cases hh2 : j + 1 = n <;> simp [hh, hh2]
            · rw [if_neg (c := f / 8 + (j : Int) = t / 8 + (k : Int)) (fun h => hk0 (hq.1 h).2.2)]
              simp [Nat.pos_of_ne_zero hk0]
          generalize f / 8 + (j : Int) = X1 at *
          generalize t / 8 + (k : Int) = X2 at *
          clear hbel hv2 E2 hq
          by_cases hx : X1 = X2
          · subst hx
            rw [if_pos rfl] at HAN
            have d0 : (l == l && X1 == X1) = true := by simp
            go_wp2_with fail
            refine wp_region_after (by kernel_rfl) (by kernel_rfl) ?_
            intro hne hac2
            repeat (go_big_quiet_step (fail))
            refine wpQuiet_nil ?_
            rintro _ ⟨p, rfl⟩
            have HB2 : Hid (Below wg.heap.size wg p.w) := HB1.out.trans (p.bel.mono HB1.out.size)
            clear hac2 hne
            generalize p.w = wq at *
            go_wp2_with fail
            go_roundw
            case rel => exact ⟨k + 1, by omega, by go_num, by rw [HAN.out], HB2.out⟩
            case measure => simp [intOf]; omega
          · rw [if_neg hx] at HAN
            have d0 : (X1 == X2) = false := beq_eq_false_iff_ne.2 hx
            have u0 : decide (X1 = X2) = false := by simpa using hx
            clear hx
            go_wp2_with fail
            refine wp_region_after (by kernel_rfl) (by kernel_rfl) ?_
            intro hne hac2
            repeat (go_big_quiet_step (fail))
            refine wpQuiet_nil ?_
            rintro _ ⟨p, rfl⟩
            have HB2 : Hid (Below wg.heap.size wg p.w) := HB1.out.trans (p.bel.mono HB1.out.size)
            clear hac2 hne
            generalize p.w = wq at *
            go_wp2_with fail
            go_roundw
            case rel => exact ⟨k + 1, by omega, by go_num, by rw [HAN.out]; simp, HB2.out⟩
            case measure => simp [intOf]; omega
        · have hkn : nb = k := by omega
          subst hkn
          have HAN : Hid (apN t n nb j nb = if apQ t nb = true ∧ j + 1 = n then 1 else 0) := by
            show apN _ _ _ _ _ = _
            unfold apN
            by_cases hh : apQ t nb = true ∧ j + 1 = n
            · have : 0 < nb := by have := hh.1; simp [apQ] at this; omega
              simp [hh, this]
            · rw [if_neg (fun h => hh ⟨h.1, h.2.1⟩), if_neg hh]
          have HB1 : Hid (Below wg.heap.size wg wr) := hbel
          clear hbel
          go_wp2_with fail
          go_roundw
          case rel => exact ⟨j + 1, by omega, by go_num, by rw [HAN.out], HB1.out⟩
          case measure => simp [intOf]; omega
    · have hjn : n = j := by omega
      subst hjn
      have HZ : Hid (Below w.heap.size w wr ∧ RowAt 2 encPage wr (.slice ua n uc) (spanL l f t) ∧ RowAt 2 encPage wr (.slice vc n cc) (spanL l f t)) := ⟨HG.out.1.trans (hbel.mono HG.out.1.size), HG.out.2.keep hbel, by have h := RowAt.take (HGc.out.keep hbel) n hac; rw [HCut.out] at h; exact h⟩
      have hnc : (n : Int) ≤ (nc : Int) := by omega
      have hncc : (n : Int) ≤ (cc : Int) := by omega
      clear hbel
      obtain ⟨R, hR⟩ : ∃ R, R = t % 8 := ⟨_, rfl⟩
      have ht8 : t.tmod 8 = R := by rw [hR]; exact Int.tmod_eq_emod_of_nonneg (by omega)
      have hv : ∀ b, apQ t nb = b → (if apQ t nb = true ∧ n = n then (1 : Int) else 0) = if b = true then 1 else 0 := fun b h => by rw [h]; simp
      by_cases hR0 : R = 0
      · rw [hv false (by simp [apQ, ← hR, hR0])]
        subst hR0
        clear hv hR
        rw [if_neg Bool.false_ne_true]
        go_wp2_with fail
        refine (wpPages_same _ _ (spanL l f t) _ HZ.out.2.2 HZ.out.2.1 (by rw [← HN.out]; omega)).mono ?_
        rintro e wy ⟨rfl, by1⟩
        have HY : Hid (Below w.heap.size w wy) := HZ.out.1.trans (by1.mono HZ.out.1.size)
        clear by1
        go_wp2_with fail
        go_ret
        exact ⟨by first | rfl | simp, HY.out⟩
      · have hR1 : (R != 0) = true := by simpa using hR0
        have hR2 : (R == 0) = false := by simpa using hR0
        by_cases hnb : nb = 0
        · subst hnb
          rw [hv false (by simp [apQ])]
          clear hv hR
          rw [if_neg Bool.false_ne_true]
          go_wp2_with fail
          refine (wpPages_same _ _ (spanL l f t) _ HZ.out.2.2 HZ.out.2.1 (by rw [← HN.out]; omega)).mono ?_
          rintro e wy ⟨rfl, by1⟩
          have HY : Hid (Below w.heap.size w wy) := HZ.out.1.trans (by1.mono HZ.out.1.size)
          clear by1
          go_wp2_with fail
          go_ret
          exact ⟨by first | rfl | simp, HY.out⟩
        · have hnb1 : (0 : Int) < (nb : Int) := by omega
          rw [hv true (by simp [apQ, ← hR, hR0]; omega)]
          clear hv hR
          rw [if_pos rfl]
          go_wp2_with fail
          refine (wpPages_same _ _ (spanL l f t) _ HZ.out.2.2 HZ.out.2.1 (by rw [← HN.out]; omega)).mono ?_
          rintro e wy ⟨rfl, by1⟩
          have HY : Hid (Below w.heap.size w wy) := HZ.out.1.trans (by1.mono HZ.out.1.size)
          clear by1
          go_wp2_with fail
          go_ret
          exact ⟨by first | rfl | simp, HY.out⟩

set_option maxRecDepth 100000 in
set_option maxHeartbeats 1000000 in
theorem lifted (os : Os) (started : os.Started) (H : Type) (enc : TypeId × Value → H) :
    ReturnsInHanded {} Try.checked os 4 .any (Rows.fnPageApartSpec.pre6 enc Try.prog Try.f4 Rows.fnPageApartRow.domain false) (Rows.fnPageApartSpec.post enc Try.prog Try.f4 false true false false) := by
  refine returnsInHanded_of_change (C := Try.checked) own started (by kernel_rfl) Try.func4
    (ChangeSpec.witness6 (enc := enc) (C := Try.checked) false ⟨#[], #[.slice none 0 0, .slice none 0 0], []⟩ 8 (by kernel_rfl) (by kernel_rfl) (by kernel_rfl) (by kernel_rfl)) ?_
  intro W base args ds gs before hval0 hW hcnd _
  have hval : ∀ (j : Nat) t v, Try.f4.params[j]? = some t → args[j]? = some v → Value.okWide Try.prog W .any base t v := hval0
  have hW' := hW
  obtain ⟨p, q, hA0, hV, rfl, hfz, hnd⟩ := hW
  have hA : DataW.TrodAll enc Try.prog W 0 (fun _ => true) true Try.f4.params.toList args.toList ds p := hA0
  rw [Try.params4] at hA hval
  obtain ⟨v0, vs0, d0, ds0, p0, q0, hargs, rfl, rfl, h0, r0⟩ := trodAll_cons hA
  obtain ⟨v1, vs1, d1, ds1, p1, q1, rfl, rfl, rfl, h1, r1⟩ := trodAll_cons r0
  obtain ⟨rfl, rfl, rfl⟩ := trodAll_nil r1
  obtain rfl : args = #[v0, v1] := by cases args; simp_all
  obtain ⟨rfl, rfl⟩ := trodVars_none hV
  have kr0 := h0
  have lt0 : ∀ x ∈ p0, x.block < W.heap.size := by obtain ⟨m, hm⟩ := kr0; exact DataW.trod_lt m _ _ _ hm
  have kr1 := h1
  have lt1 : ∀ x ∈ p1, x.block < W.heap.size := by obtain ⟨m, hm⟩ := kr1; exact DataW.trod_lt m _ _ _ hm
  obtain ⟨a0, len0, cap0, rfl⟩ := okWide_slice Try.underlying22 (hval 0 22 v0 rfl rfl)
  obtain ⟨z0, w0⟩ : ∃ zs, IsRow .u8 W a0 len0 cap0 zs := by
    obtain ⟨fuel, hf⟩ := h0
    rcases open_ints Try.underlying22 Try.underlying5 (by kernel_rfl) hf with ⟨hcs, _⟩ | ⟨x, l, c, zs, hcs, _, hl, hm, hz, _, hcell, hwz⟩
    · simp [Value.cells] at hcs
      obtain ⟨rfl, rfl, rfl⟩ := hcs
      exact ⟨[], .inl ⟨rfl, rfl, rfl, rfl⟩⟩
    · simp [Value.cells] at hcs
      obtain ⟨rfl, rfl, rfl⟩ := hcs
      exact ⟨zs, .inr ⟨_, rfl, hl, hm, by simpa using hz, hcell, hwz⟩⟩
  obtain ⟨a1, len1, cap1, rfl⟩ := okWide_slice Try.underlying22 (hval 1 22 v1 rfl rfl)
  obtain ⟨z1, w1⟩ : ∃ zs, IsRow .u8 W a1 len1 cap1 zs := by
    obtain ⟨fuel, hf⟩ := h1
    rcases open_ints Try.underlying22 Try.underlying5 (by kernel_rfl) hf with ⟨hcs, _⟩ | ⟨x, l, c, zs, hcs, _, hl, hm, hz, _, hcell, hwz⟩
    · simp [Value.cells] at hcs
      obtain ⟨rfl, rfl, rfl⟩ := hcs
      exact ⟨[], .inl ⟨rfl, rfl, rfl, rfl⟩⟩
    · simp [Value.cells] at hcs
      obtain ⟨rfl, rfl, rfl⟩ := hcs
      exact ⟨zs, .inr ⟨_, rfl, hl, hm, by simpa using hz, hcell, hwz⟩⟩
  clear hA0 hval0
  refine (walk a0 len0 cap0 z0 a1 len1 cap1 z1 W w0 w1).mono fun e W' ⟨he, bel⟩ => ?_
  subst he
  exact ⟨_, rfl, _, _, _, [], _, [], hW', trodAll_mk1 (shut_bool Try.underlying4 _), (trodAll_cons_mk (Below.trod laidOut (by kernel_rfl) (of_decide_eq_true (by kernel_rfl)) kr0 bel lt0) (trodAll_cons_mk (Below.trod laidOut (by kernel_rfl) (of_decide_eq_true (by kernel_rfl)) kr1 bel lt1) trodAll_mk0)), rfl, bel.frame _, fun h => by cases h⟩

theorem over : Rows.fnPageApartRow.holds Try.pinned (OpenSpec.ofChange Rows.fnPageApartSpec) :=
  OpenClaim.holds_of_wide 4 Try.f4 rfl rfl rfl rfl rfl rfl rfl ⟨rfl, rfl, rfl, rfl, rfl⟩ rfl rfl rfl rfl rfl (by kernel_rfl) Try.func4 (by kernel_rfl)
    (of_decide_eq_true (by kernel_rfl)) (by unfold Func.isWrapper; first | (rw [if_pos (by decide +kernel)]; kernel_rfl) | (rw [if_neg (by decide +kernel)]; exact ⟨rfl, rfl⟩))
    (fun os started H enc _ => lifted os started H enc)

end Go.Proofs.Ythkdadgccjilkaa.fnPageApart
namespace Go.Proofs.Ythkdadgccjilkaa
theorem fnPageApart_holds : Rows.FnPageApartSaid := fnPageApart.over
#print axioms fnPageApart_holds
end Go.Proofs.Ythkdadgccjilkaa

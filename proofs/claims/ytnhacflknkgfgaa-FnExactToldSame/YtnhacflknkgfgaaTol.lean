/-
  Rows of Told, each of which holds a row of its own: the laws' own functions on them. (Written by tools/mknest.py.)
-/
import Derived.Test.YtnhacflknkgfgaaRow
import Derived.Test.YtnhacflknkgfgaaNod
import Derived.Test.YtnhacflknkgfgaaGrw
import Derived.Test.YtnhacflknkgfgaaIts
namespace Go.Proofs.Ytnhacflknkgfgaa.Lab
open Go.RowKit
set_option linter.unusedVariables false
def encTold (x : Int × (Value × List Int) × Int) : List Value := [.int .i64 x.1, x.2.1.1, .int .i64 x.2.2]
theorem encTold_len (x : Int × (Value × List Int) × Int) : (encTold x).length = 3 := rfl
/-- In plain words: without where the inner row lies. -/
def plTold (x : Int × (Value × List Int) × Int) : Int × List Int × Int := (x.1, x.2.1.2, x.2.2)
/-- A row of these, and each inner row. -/
def AtTold (w : World) (v : Value) (xs : List (Int × (Value × List Int) × Int)) : Prop := RowAt 3 encTold w v xs ∧ ∀ x ∈ xs, RowAt 1 encI w x.2.1.1 x.2.1.2
theorem AtTold.keep {w w' : World} {v : Value} {xs : List (Int × (Value × List Int) × Int)} (h : AtTold w v xs) (hb : Below w.heap.size w w') : AtTold w' v xs := ⟨h.1.keep hb, fun x hx => (h.2 x hx).keep hb⟩
/-- The same, owned by the call. -/
def OwnTold (w : World) (base : Nat) (v : Value) (xs : List (Int × (Value × List Int) × Int)) : Prop := w.ownsRow base 84 3 v xs.length (xs.flatMap encTold) ∧ ∀ x ∈ xs, w.ownsRow base 3 1 x.2.1.1 x.2.1.2.length (x.2.1.2.flatMap encI)
theorem OwnTold.keep {w w' : World} {base : Nat} {v : Value} {xs : List (Int × (Value × List Int) × Int)} (h : OwnTold w base v xs) (hb : Below w.heap.size w w') : OwnTold w' base v xs := ⟨own_keep h.1 hb, fun x hx => own_keep (h.2 x hx) hb⟩
theorem OwnTold.at {w : World} {base : Nat} {v : Value} {xs : List (Int × (Value × List Int) × Int)} (h : OwnTold w base v xs) : AtTold w v xs := ⟨row_of_own encTold_len (by decide) h.1, fun x hx => row_of_own encI_len (by decide) (h.2 x hx)⟩
theorem OwnTold.form {w : World} {base : Nat} {v : Value} {xs : List (Int × (Value × List Int) × Int)} (h : OwnTold w base v xs) : ∃ a c, v = .slice a xs.length c := own_form h.1
/-- Few enough, and each inner row short enough. -/
def FewTold (xs : List (Int × (Value × List Int) × Int)) : Prop := xs.length ≤ 1048576 ∧ ∀ x ∈ xs, x.2.1.2.length ≤ 1048576
theorem FewTold.same {xs ys : List (Int × (Value × List Int) × Int)} (h : FewTold xs) (he : ys.map plTold = xs.map plTold) : FewTold ys := by
  have hl : ys.length = xs.length := by simpa using congrArg List.length he
  refine ⟨by rw [hl]; exact h.1, fun x hx => ?_⟩
  obtain ⟨j, hj⟩ := List.getElem?_of_mem hx
  have h1 : (xs.map plTold)[j]? = some (plTold x) := by rw [← he, List.getElem?_map, hj]; rfl
  rw [List.getElem?_map] at h1
  obtain ⟨y, hy, hxy⟩ := Option.map_eq_some_iff.1 h1
  have h2 := h.2 y (List.mem_of_getElem? hy)
  have h3 : y.2.1.2 = x.2.1.2 := by simp only [plTold, Prod.mk.injEq] at hxy; exact hxy.2.1
  rw [← h3]; exact h2
set_option maxHeartbeats 400000 in
theorem szIntS (a : Option Addr) (n cap : Nat) (left : Int) (w : World) (h0 : 0 ≤ left) (h1 : left ≤ 1048576) (hn : n ≤ 9223372036854775807) :
    Calls Try.prog 45 #[.slice a n cap, .int .i64 left] w fun e w' => e = .returned (.int .i64 (if (n : Int) ≤ left then left - n else -1)) ∧ w' = w := by
  by_cases h : (n : Int) ≤ left
  · rw [if_pos h]
    go_enter Try.func45, Try.ntmps45
    go_wp2
    go_ret
    exact ⟨rfl, rfl⟩
  · rw [if_neg h]
    go_enter Try.func45, Try.ntmps45
    go_wp2
    go_ret
    exact ⟨rfl, rfl⟩
set_option maxHeartbeats 1000000 in
theorem szTold (z q : Int) (a : Option Addr) (n c : Nat) (left : Int) (w : World) (h0 : 0 ≤ left) (h1 : left ≤ 1048576) (hn : n ≤ 9223372036854775807) :
    Calls Try.prog 56 #[.agg #[.int .i64 z, .slice a n c, .int .i64 q], .int .i64 left] w fun e w' => e = .returned (.int .i64 (if (n : Int) ≤ left then left - n else -1)) ∧ Below w.heap.size w w' := by
  by_cases h : (n : Int) ≤ left
  · rw [if_pos h]
    go_enter Try.func56, Try.ntmps56
    go_wp2_with fail
    refine use (szIntS a n c left _ h0 h1 hn) ?_
    rw [if_pos h]
    go_wp2_with fail
    go_ret
    exact ⟨rfl, by go_grown⟩
  · rw [if_neg (by omega)]
    go_enter Try.func56, Try.ntmps56
    go_wp2_with fail
    refine use (szIntS a n c left _ h0 h1 hn) ?_
    rw [if_neg (by omega)]
    go_wp2_with fail
    go_ret
    exact ⟨rfl, by go_grown⟩
theorem szToldS_none (a : Option Addr) (n cap : Nat) (left : Int) (w : World) (h0 : 0 ≤ left) (h1 : left ≤ 1048576) (hn : n ≤ 9223372036854775807) (hx : left < n) :
    Calls Try.prog 23 #[.slice a n cap, .int .i64 left] w fun e w' => e = .returned (.int .i64 (-1)) ∧ w' = w := by
  go_enter Try.func23, Try.ntmps23
  go_wp2
  go_ret
  exact ⟨rfl, rfl⟩
set_option maxHeartbeats 400000 in
theorem szToldS_zero (a : Option Addr) (cap : Nat) (left : Int) (w : World) (h0 : 0 ≤ left) (h1 : left ≤ 1048576) :
    Calls Try.prog 23 #[.slice a 0 cap, .int .i64 left] w fun e w' => e = .returned (.int .i64 left) ∧ w' = w := by
  go_enter Try.func23, Try.ntmps23
  go_wp2
  refine wp_loop_rounds 1 ?_
  rw [rounds_succ]
  go_wp2
  go_ret
  exact ⟨rfl, rfl⟩
set_option maxHeartbeats 2000000 in
theorem szToldS_some (b off cap : Nat) (xs : List (Int × (Value × List Int) × Int)) (left : Int) (w : World) (h0 : 0 ≤ left) (h1 : left ≤ 1048576) (hl : (xs.length : Int) ≤ left) (hb : b < w.heap.size) (hsm : ∀ x ∈ xs, x.2.1.2.length ≤ 9223372036854775807) (hfm : ∀ x ∈ xs, ∃ a c, x.2.1.1 = .slice a x.2.1.2.length c)
    (hc : ∀ j x, xs[j]? = some x → ∀ i u, (encTold x)[i]? = some u → w.cell? ⟨b, off + j * 3 + i, none⟩ = some u) :
    Calls Try.prog 23 #[.slice (some ⟨b, off, none⟩) xs.length cap, .int .i64 left] w fun e w' => (∃ r : Int, e = .returned (.int .i64 r) ∧ -1 ≤ r ∧ r ≤ left - xs.length ∧ (0 ≤ r → ∀ x ∈ xs, x.2.1.2.length ≤ 1048576)) ∧ Below w.heap.size w w' := by
  have HC : Hid (∀ j x, xs[j]? = some x → ∀ i u, (encTold x)[i]? = some u → w.cell? ⟨b, off + j * 3 + i, none⟩ = some u) := hc
  have HM : Hid (∀ x ∈ xs, x.2.1.2.length ≤ 9223372036854775807) := hsm
  have HFM : Hid (∀ x ∈ xs, ∃ a c, x.2.1.1 = .slice a x.2.1.2.length c) := hfm
  clear hc hsm hfm
  obtain ⟨n, hn⟩ : ∃ n, n = xs.length := ⟨_, rfl⟩
  have HN : Hid (n = xs.length) := hn
  rw [← hn] at hl ⊢
  clear hn
  go_enter Try.func23, Try.ntmps23
  go_wp2_with fail
  go_loopw [1, 5] (fun l i wr => ∃ k : Nat, ∃ r : Int, k ≤ n ∧ i = .int .i64 k ∧ l = .int .i64 r ∧ 0 ≤ r ∧ r ≤ left - n ∧ Below w.heap.size w wr ∧ ∀ j x, j < k → xs[j]? = some x → x.2.1.2.length ≤ 1048576) (fun _ i _ => n - (intOf i).toNat)
  case atStart => exact ⟨0, left - n, by omega, rfl, rfl, by omega, by omega, Below.refl _ _, fun j x hj => by omega⟩
  case round =>
    obtain ⟨k, r, hk, rfl, rfl, hr0, hr1, hbel, hq⟩ := hrel
    have HQ : Hid (∀ j x, j < k → xs[j]? = some x → x.2.1.2.length ≤ 1048576) := hq
    clear hq
    by_cases hlt : k < n
    · obtain ⟨⟨m0, ⟨mv, ml⟩, m2⟩, hx⟩ : ∃ x, xs[k]? = some x := ⟨_, List.getElem?_eq_getElem (by rw [← HN.out]; exact hlt)⟩
      obtain ⟨ma, mc, hmv⟩ := HFM.out _ (List.mem_of_getElem? hx)
      have hml := HM.out _ (List.mem_of_getElem? hx)
      simp only at hmv hml
      obtain ⟨mn, hmn⟩ : ∃ t, t = ml.length := ⟨_, rfl⟩
      rw [← hmn] at hmv hml
      subst hmv
      have e0 : wr.cell? ⟨b, off + k * 3, none⟩ = some (.int .i64 m0) := by rw [hbel.cell (p := ⟨b, off + k * 3, none⟩) hb]; exact HC.out k _ hx 0 _ rfl
      have e1 : wr.cell? ⟨b, off + k * 3 + 1, none⟩ = some (.slice ma mn mc) := by rw [hbel.cell (p := ⟨b, off + k * 3 + 1, none⟩) hb]; exact HC.out k _ hx 1 _ rfl
      have e2 : wr.cell? ⟨b, off + k * 3 + 2, none⟩ = some (.int .i64 m2) := by rw [hbel.cell (p := ⟨b, off + k * 3 + 2, none⟩) hb]; exact HC.out k _ hx 2 _ rfl
      have HX : Hid (xs[k]? = some (m0, (.slice ma mn mc, ml), m2)) := hx
      have HL : Hid (mn ≤ 9223372036854775807) := hml
      have HLN : Hid (mn = ml.length) := hmn
      have HB : Hid (Below w.heap.size w wr) := hbel
      have k0 : (0 : Int) ≤ (k : Int) := by omega
      have k1 : (k : Int) < (n : Int) := by omega
      clear hx hbel hml hmn
      by_cases hs : (mn : Int) ≤ r
      · go_wp2_with fail
        refine (szTold m0 m2 ma mn mc r _ hr0 (by omega) HL.out).mono ?_
        rintro e w1 ⟨rfl, b1⟩
        rw [if_pos hs]
        have HB1 : Hid (Below w.heap.size w w1) := HB.out.trans (b1.mono HB.out.size)
        have r2 : 0 ≤ r - mn := by omega
        clear b1 HB
        go_wp2_with fail
        go_roundw
        case rel =>
          refine ⟨k + 1, r - mn, by omega, by go_num, rfl, by omega, by omega, HB1.out, fun j x hj hxj => ?_⟩
          rcases Nat.lt_succ_iff_lt_or_eq.1 hj with h | rfl
          · exact HQ.out j x h hxj
          · rw [HX.out] at hxj; cases hxj; simp only; rw [← HLN.out]; omega
        case measure => simp [intOf]; omega
      · go_wp2_with fail
        refine (szTold m0 m2 ma mn mc r _ hr0 (by omega) HL.out).mono ?_
        rintro e w1 ⟨rfl, b1⟩
        rw [if_neg (by omega)]
        have HB1 : Hid (Below w.heap.size w w1) := HB.out.trans (b1.mono HB.out.size)
        clear b1 HB
        go_wp2_with fail
        go_ret
        exact ⟨⟨-1, rfl, by omega, by omega, fun h => by omega⟩, HB1.out⟩
    · have hkn : k = n := by omega
      subst hkn
      go_wp2_with fail
      go_ret
      refine ⟨⟨r, rfl, by omega, hr1, fun _ x hx => ?_⟩, hbel⟩
      obtain ⟨j, hj⟩ := List.getElem?_of_mem hx
      exact HQ.out j x (by rw [HN.out]; exact (List.getElem?_eq_some_iff.1 hj).1) hj
theorem szToldS (v : Value) (xs : List (Int × (Value × List Int) × Int)) (left : Int) (w : World) (h : AtTold w v xs) (h0 : 0 ≤ left) (h1 : left ≤ 1048576) (hn : xs.length ≤ 9223372036854775807) (hsm : ∀ x ∈ xs, x.2.1.2.length ≤ 9223372036854775807) :
    Calls Try.prog 23 #[v, .int .i64 left] w fun e w' => (∃ r : Int, e = .returned (.int .i64 r) ∧ -1 ≤ r ∧ r ≤ left ∧ (0 ≤ r → FewTold xs)) ∧ Below w.heap.size w w' := by
  obtain ⟨h, hin⟩ := h
  obtain ⟨a, cap, hv⟩ := h.len
  by_cases hl : left < (xs.length : Int)
  · subst hv
    exact (szToldS_none a _ cap left w h0 h1 hn hl).mono (fun e w' h => ⟨⟨-1, h.1, by omega, by omega, fun h => by omega⟩, by rw [h.2]; exact Below.refl _ _⟩)
  · rcases h with ⟨rfl, a1, c1, rfl⟩ | ⟨p1, b1, o1, c1, rfl, l1, e1⟩
    · exact (szToldS_zero a1 c1 left w h0 h1).mono (fun e w' h => ⟨⟨left, h.1, by omega, by omega, fun _ => ⟨by simp, by simp⟩⟩, by rw [h.2]; exact Below.refl _ _⟩)
    · exact (szToldS_some b1 o1 c1 xs left w h0 h1 (by omega) l1 hsm (fun x hx => (hin x hx).len) e1).mono (fun e w' ⟨⟨r, h1, h2, h3, h4⟩, hb⟩ => ⟨⟨r, h1, h2, by omega, fun hr => ⟨by omega, h4 hr⟩⟩, hb⟩)
set_option maxHeartbeats 2000000 in
theorem toTold (z q : Int) (v : Value) (ns : List Int) (w : World) (h1 : RowAt 1 encI w v ns) (hl1 : ns.length ≤ 1048576) :
    Calls Try.prog 58 #[.agg #[.int .i64 z, v, .int .i64 q]] w fun e w' => ∃ u, e = .returned (.agg #[.int .i64 z, u, .int .i64 q]) ∧ w'.ownsRow w.heap.size 3 1 u ns.length (ns.flatMap encI) ∧ Below w.heap.size w w' := by
  have b0 : ∀ o1 o2 o3, Below w.heap.size w (((w.alloc o1).alloc o2).alloc o3) := fun o1 o2 o3 => by go_grown
  have k1 : ∀ o1 o2 o3, RowAt 1 encI (((w.alloc o1).alloc o2).alloc o3) v ns := fun o1 o2 o3 => h1.keep (b0 o1 o2 o3)
  obtain ⟨a1, c1, rfl⟩ := h1.len
  generalize hN : ns.length = N1 at *
  have HL : Hid (ns.length = N1) := hN
  clear h1 hN
  go_enter Try.func58, Try.ntmps58
  go_wp2_with fail
  refine (toIntS _ ns _ ?hk (by rw [HL.out]; omega)).mono ?_
  case hk => exact k1 _ _ _
  rintro e w1 ⟨u1, rfl, own1, bel1⟩
  obtain ⟨x1, y1, hu1⟩ := own_form own1
  have hs1 : w.heap.size + 3 ≤ w1.heap.size := by have := bel1.size; simp at this; omega
  have B1 : Hid (Below w.heap.size w w1) := (b0 _ _ _).trans (bel1.mono (by simp; omega))
  have hc1 := Below.celz (bel1.mono (B' := w.heap.size + 3) (by simp))
  have hf1 := Below.froz (bel1.mono (B' := w.heap.size + 3) (by simp))
  have HO : Hid (w1.ownsRow (w.heap.size + 3) 3 1 u1 ns.length (ns.flatMap encI)) := own_mono (base' := w.heap.size + 3) own1 (by simp)
  clear own1 bel1 k1 b0
  subst hu1
  go_wp2_with fail
  refine bodyPost_ret (v := .agg #[.int .i64 z, .slice x1 ns.length y1, .int .i64 q]) (by simp [*, results, Try.results58, go_sem]) rfl ?_
  have q1 := HO.out
  have ob : ∀ v n xs e s, w1.ownsRow (w.heap.size + 3) e s v n xs → ∀ k, k < w.heap.size + 3 → v.ownBlock ≠ some k := fun v n xs e s h k hk hh => by have := (h.lt k hh).1; omega
  rw [← HL.out]
  have O : ∀ k, k < w.heap.size + 3 → (Value.slice x1 ns.length y1).ownBlock ≠ some k := ob _ _ _ _ _ q1
  refine ⟨_, rfl, own_mono (own_set (own_set (own_set (own_set (own_set q1 (O _ (by simp)) _) (O _ (by simp)) _) (O _ (by simp)) _) (O _ (by simp)) _) (O _ (by simp)) _) (by omega), ?_⟩
  exact ((((B1.out.setCell (by simp; omega) _).setCell (by simp; omega) _).setCell (by simp) _).setCell (by simp) _).setCell (by simp) _
theorem dec_told (c1 r1 c2 r2 : Int) (l1 l2 : List Int) : eqB (c1, l1, r1) (c2, l2, r2) = (decide (c1 = c2) && (eqB l1 l2 && decide (r1 = r2))) := by
  rw [Bool.eq_iff_iff]; simp [eqB]
set_option maxHeartbeats 4000000 in
theorem spec_l7Ints_some (b1 o1 c1 b2 o2 c2 : Nat) (xs ys : List Int) (w : World) (hlen : xs.length = ys.length) (hl : xs.length ≤ 1048576) (hb1 : b1 < w.heap.size) (hb2 : b2 < w.heap.size)
    (h1 : ∀ j x, xs[j]? = some x → ∀ i u, (encI x)[i]? = some u → w.cell? ⟨b1, o1 + j * 1 + i, none⟩ = some u) (h2 : ∀ j x, ys[j]? = some x → ∀ i u, (encI x)[i]? = some u → w.cell? ⟨b2, o2 + j * 1 + i, none⟩ = some u) :
    Calls Try.prog 57 #[.slice (some ⟨b1, o1, none⟩) xs.length c1, .slice (some ⟨b2, o2, none⟩) xs.length c2] w fun e w' => e = .returned (.bool (eqB xs ys)) ∧ Below w.heap.size w w' := by
  have H1 : Hid (∀ j x, xs[j]? = some x → ∀ i u, (encI x)[i]? = some u → w.cell? ⟨b1, o1 + j * 1 + i, none⟩ = some u) := h1
  have H2 : Hid (∀ j x, ys[j]? = some x → ∀ i u, (encI x)[i]? = some u → w.cell? ⟨b2, o2 + j * 1 + i, none⟩ = some u) := h2
  clear h1 h2
  obtain ⟨n, hn⟩ : ∃ n, n = xs.length := ⟨_, rfl⟩
  have HN : Hid (n = xs.length ∧ n = ys.length) := ⟨hn, by omega⟩
  rw [← hn] at hl ⊢
  clear hn hlen
  go_enter Try.func57, Try.ntmps57
  go_wp2_with fail
  go_loopw [5] (fun i wr => ∃ k : Nat, k ≤ n ∧ i = .int .i64 k ∧ Below w.heap.size w wr ∧ ∀ j, j < k → xs[j]? = ys[j]?) (fun i _ => n - (intOf i).toNat)
  case atStart => exact ⟨0, by omega, rfl, Below.refl _ _, fun j hj => by omega⟩
  case round =>
    obtain ⟨k, hk, rfl, hbel, hq⟩ := hrel
    have HQ : Hid (∀ j, j < k → xs[j]? = ys[j]?) := hq
    clear hq
    by_cases hlt : k < n
    · obtain ⟨m0, hx⟩ : ∃ x, xs[k]? = some x := ⟨_, List.getElem?_eq_getElem (by rw [← HN.out.1]; exact hlt)⟩
      obtain ⟨p0, hy⟩ : ∃ x, ys[k]? = some x := ⟨_, List.getElem?_eq_getElem (by rw [← HN.out.2]; exact hlt)⟩
      have e0 : wr.cell? ⟨b1, o1 + k, none⟩ = some (.int .i64 m0) := by rw [hbel.cell (p := ⟨b1, _, none⟩) hb1]; exact cellI H1.out hx
      have f0 : wr.cell? ⟨b2, o2 + k, none⟩ = some (.int .i64 p0) := by rw [hbel.cell (p := ⟨b2, _, none⟩) hb2]; exact cellI H2.out hy
      have HX : Hid (xs[k]? = some m0 ∧ ys[k]? = some p0) := ⟨hx, hy⟩
      have k0 : (0 : Int) ≤ (k : Int) := by omega
      have k1 : (k : Int) < (n : Int) := by omega
      have HB : Hid (Below w.heap.size w wr) := hbel
      clear hx hy hbel
      by_cases h0 : m0 = p0
      · subst h0
        go_wp2_with fail
        go_quiet (fail)
        go_wp2_with fail
        go_roundw
        case rel =>
          refine ⟨k + 1, by omega, by go_num, belN HB.out _, fun j hj => ?_⟩
          rcases Nat.lt_succ_iff_lt_or_eq.1 hj with h | rfl
          · exact HQ.out j h
          · rw [HX.out.1, HX.out.2]
        case measure => simp [intOf]; omega
      · have HD : Hid (¬ m0 = p0) := h0
        have t0 : (m0 != p0) = true := by simpa using h0
        clear h0
        go_wp2_with fail
        go_quiet (fail)
        go_wp2_with fail
        go_ret
        refine ⟨?_, belN HB.out _⟩
        have : eqB xs ys = false := by
          rw [eqB_false]
          intro h
          have h3 := HX.out.1
          rw [h, HX.out.2] at h3
          exact HD.out (Option.some.inj h3).symm
        rw [this]; rfl
    · have hkn : k = n := by omega
      subst hkn
      go_wp2_with fail
      go_ret
      refine ⟨?_, hbel⟩
      have : xs = ys := by
        apply List.ext_getElem?
        intro j
        by_cases hj : j < k
        · exact HQ.out j hj
        · rw [List.getElem?_eq_none (by have := HN.out; omega), List.getElem?_eq_none (by have := HN.out; omega)]
      rw [eqB_true.2 this]; rfl
set_option maxHeartbeats 400000 in
theorem spec_l7Ints_len (a1 a2 : Option Addr) (n1 c1 n2 c2 : Nat) (w : World) (h1 : n1 ≤ 1048576) (h2 : n2 ≤ 1048576) (hne : n1 ≠ n2) :
    Calls Try.prog 57 #[.slice a1 n1 c1, .slice a2 n2 c2] w fun e w' => e = .returned (.bool false) ∧ w' = w := by
  have hd : ((n1 : Int) != (n2 : Int)) = true := by rw [bne_iff_ne]; omega
  clear hne
  go_enter Try.func57, Try.ntmps57
  go_wp2
  go_ret
  exact ⟨rfl, rfl⟩
set_option maxHeartbeats 400000 in
theorem spec_l7Ints_empty (a1 a2 : Option Addr) (c1 c2 : Nat) (w : World) :
    Calls Try.prog 57 #[.slice a1 0 c1, .slice a2 0 c2] w fun e w' => e = .returned (.bool true) ∧ w' = w := by
  go_enter Try.func57, Try.ntmps57
  go_wp2
  refine wp_loop_rounds 1 ?_
  rw [rounds_succ]
  go_wp2
  go_ret
  exact ⟨rfl, rfl⟩
theorem spec_l7Ints (v1 v2 : Value) (xs ys : List Int) (w : World) (h1 : RowAt 1 encI w v1 xs) (h2 : RowAt 1 encI w v2 ys) (hb1 : xs.length ≤ 1048576) (hb2 : ys.length ≤ 1048576) :
    Calls Try.prog 57 #[v1, v2] w fun e w' => e = .returned (.bool (eqB xs ys)) ∧ Below w.heap.size w w' := by
  by_cases hl : xs.length = ys.length
  · rcases h1 with ⟨rfl, a1, c1, rfl⟩ | ⟨p1, b1, o1, c1, rfl, l1, e1⟩
    · have hm : ys = [] := List.length_eq_zero_iff.1 (by simpa using hl.symm)
      subst hm
      obtain ⟨a2, c2, rfl⟩ := h2.len
      exact (spec_l7Ints_empty a1 a2 c1 c2 w).mono (fun e w' h => ⟨by rw [h.1, eqB_true.2 rfl], by rw [h.2]; exact Below.refl _ _⟩)
    · rcases h2 with ⟨rfl, a2, c2, rfl⟩ | ⟨p2, b2, o2, c2, rfl, l2, e2⟩
      · simp at hl; subst hl; simp at p1
      · rw [← hl]
        exact spec_l7Ints_some b1 o1 c1 b2 o2 c2 xs ys w hl hb1 l1 l2 e1 e2
  · have hf : eqB xs ys = false := by rw [eqB_false]; intro h; exact hl (by rw [h])
    rw [hf]
    obtain ⟨a1, c1, rfl⟩ := h1.len
    obtain ⟨a2, c2, rfl⟩ := h2.len
    exact (spec_l7Ints_len a1 a2 _ c1 _ c2 w hb1 hb2 hl).mono (fun e w' h => ⟨h.1, by rw [h.2]; exact Below.refl _ _⟩)
set_option maxHeartbeats 4000000 in
theorem equalIntS_some (b1 o1 c1 b2 o2 c2 : Nat) (xs ys : List Int) (w : World) (hlen : xs.length = ys.length) (hl : xs.length ≤ 1048576) (hb1 : b1 < w.heap.size) (hb2 : b2 < w.heap.size)
    (h1 : ∀ j x, xs[j]? = some x → ∀ i u, (encI x)[i]? = some u → w.cell? ⟨b1, o1 + j * 1 + i, none⟩ = some u) (h2 : ∀ j x, ys[j]? = some x → ∀ i u, (encI x)[i]? = some u → w.cell? ⟨b2, o2 + j * 1 + i, none⟩ = some u) :
    Calls Try.prog 55 #[.slice (some ⟨b1, o1, none⟩) xs.length c1, .slice (some ⟨b2, o2, none⟩) xs.length c2] w fun e w' => e = .returned (.bool (eqB xs ys)) ∧ Below w.heap.size w w' := by
  have H1 : Hid (∀ j x, xs[j]? = some x → ∀ i u, (encI x)[i]? = some u → w.cell? ⟨b1, o1 + j * 1 + i, none⟩ = some u) := h1
  have H2 : Hid (∀ j x, ys[j]? = some x → ∀ i u, (encI x)[i]? = some u → w.cell? ⟨b2, o2 + j * 1 + i, none⟩ = some u) := h2
  clear h1 h2
  obtain ⟨n, hn⟩ : ∃ n, n = xs.length := ⟨_, rfl⟩
  have HN : Hid (n = xs.length ∧ n = ys.length) := ⟨hn, by omega⟩
  rw [← hn] at hl ⊢
  clear hn hlen
  go_enter Try.func55, Try.ntmps55
  go_wp2_with fail
  go_loopw [13] (fun i wr => ∃ k : Nat, k ≤ n ∧ i = .int .i64 k ∧ Below w.heap.size w wr ∧ ∀ j, j < k → xs[j]? = ys[j]?) (fun i _ => n - (intOf i).toNat)
  case atStart => exact ⟨0, by omega, rfl, Below.refl _ _, fun j hj => by omega⟩
  case round =>
    obtain ⟨k, hk, rfl, hbel, hq⟩ := hrel
    have HQ : Hid (∀ j, j < k → xs[j]? = ys[j]?) := hq
    clear hq
    by_cases hlt : k < n
    · obtain ⟨m0, hx⟩ : ∃ x, xs[k]? = some x := ⟨_, List.getElem?_eq_getElem (by rw [← HN.out.1]; exact hlt)⟩
      obtain ⟨p0, hy⟩ : ∃ x, ys[k]? = some x := ⟨_, List.getElem?_eq_getElem (by rw [← HN.out.2]; exact hlt)⟩
      have e0 : wr.cell? ⟨b1, o1 + k, none⟩ = some (.int .i64 m0) := by rw [hbel.cell (p := ⟨b1, _, none⟩) hb1]; exact cellI H1.out hx
      have f0 : wr.cell? ⟨b2, o2 + k, none⟩ = some (.int .i64 p0) := by rw [hbel.cell (p := ⟨b2, _, none⟩) hb2]; exact cellI H2.out hy
      have HX : Hid (xs[k]? = some m0 ∧ ys[k]? = some p0) := ⟨hx, hy⟩
      have k0 : (0 : Int) ≤ (k : Int) := by omega
      have k1 : (k : Int) < (n : Int) := by omega
      have HB : Hid (Below w.heap.size w wr) := hbel
      clear hx hy hbel
      by_cases h0 : m0 = p0
      · subst h0
        go_wp2_with fail
        go_quiet (fail)
        go_wp2_with fail
        go_roundw
        case rel =>
          refine ⟨k + 1, by omega, by go_num, belN HB.out _, fun j hj => ?_⟩
          rcases Nat.lt_succ_iff_lt_or_eq.1 hj with h | rfl
          · exact HQ.out j h
          · rw [HX.out.1, HX.out.2]
        case measure => simp [intOf]; omega
      · have HD : Hid (¬ m0 = p0) := h0
        have t0 : (m0 != p0) = true := by simpa using h0
        clear h0
        go_wp2_with fail
        go_quiet (fail)
        go_wp2_with fail
        go_ret
        refine ⟨?_, belN HB.out _⟩
        have : eqB xs ys = false := by
          rw [eqB_false]
          intro h
          have h3 := HX.out.1
          rw [h, HX.out.2] at h3
          exact HD.out (Option.some.inj h3).symm
        rw [this]; rfl
    · have hkn : k = n := by omega
      subst hkn
      go_wp2_with fail
      go_ret
      refine ⟨?_, hbel⟩
      have : xs = ys := by
        apply List.ext_getElem?
        intro j
        by_cases hj : j < k
        · exact HQ.out j hj
        · rw [List.getElem?_eq_none (by have := HN.out; omega), List.getElem?_eq_none (by have := HN.out; omega)]
      rw [eqB_true.2 this]; rfl
set_option maxHeartbeats 400000 in
theorem equalIntS_len (a1 a2 : Option Addr) (n1 c1 n2 c2 : Nat) (w : World) (h1 : n1 ≤ 1048576) (h2 : n2 ≤ 1048576) (hne : n1 ≠ n2) :
    Calls Try.prog 55 #[.slice a1 n1 c1, .slice a2 n2 c2] w fun e w' => e = .returned (.bool false) ∧ w' = w := by
  have hd : ((n1 : Int) != (n2 : Int)) = true := by rw [bne_iff_ne]; omega
  clear hne
  go_enter Try.func55, Try.ntmps55
  go_wp2
  go_ret
  exact ⟨rfl, rfl⟩
set_option maxHeartbeats 400000 in
theorem equalIntS_empty (a1 a2 : Option Addr) (c1 c2 : Nat) (w : World) :
    Calls Try.prog 55 #[.slice a1 0 c1, .slice a2 0 c2] w fun e w' => e = .returned (.bool true) ∧ w' = w := by
  go_enter Try.func55, Try.ntmps55
  go_wp2
  refine wp_loop_rounds 1 ?_
  rw [rounds_succ]
  go_wp2
  go_ret
  exact ⟨rfl, rfl⟩
theorem equalIntS (v1 v2 : Value) (xs ys : List Int) (w : World) (h1 : RowAt 1 encI w v1 xs) (h2 : RowAt 1 encI w v2 ys) (hb1 : xs.length ≤ 1048576) (hb2 : ys.length ≤ 1048576) :
    Calls Try.prog 55 #[v1, v2] w fun e w' => e = .returned (.bool (eqB xs ys)) ∧ Below w.heap.size w w' := by
  by_cases hl : xs.length = ys.length
  · rcases h1 with ⟨rfl, a1, c1, rfl⟩ | ⟨p1, b1, o1, c1, rfl, l1, e1⟩
    · have hm : ys = [] := List.length_eq_zero_iff.1 (by simpa using hl.symm)
      subst hm
      obtain ⟨a2, c2, rfl⟩ := h2.len
      exact (equalIntS_empty a1 a2 c1 c2 w).mono (fun e w' h => ⟨by rw [h.1, eqB_true.2 rfl], by rw [h.2]; exact Below.refl _ _⟩)
    · rcases h2 with ⟨rfl, a2, c2, rfl⟩ | ⟨p2, b2, o2, c2, rfl, l2, e2⟩
      · simp at hl; subst hl; simp at p1
      · rw [← hl]
        exact equalIntS_some b1 o1 c1 b2 o2 c2 xs ys w hl hb1 l1 l2 e1 e2
  · have hf : eqB xs ys = false := by rw [eqB_false]; intro h; exact hl (by rw [h])
    rw [hf]
    obtain ⟨a1, c1, rfl⟩ := h1.len
    obtain ⟨a2, c2, rfl⟩ := h2.len
    exact (equalIntS_len a1 a2 _ c1 _ c2 w hb1 hb2 hl).mono (fun e w' h => ⟨h.1, by rw [h.2]; exact Below.refl _ _⟩)
set_option maxHeartbeats 2000000 in
theorem eqTold (c1 r1 c2 r2 : Int) (v u : Value) (ns ms : List Int) (w : World) (h1 : RowAt 1 encI w v ns) (h3 : RowAt 1 encI w u ms)
    (l1 : ns.length ≤ 1048576) (l3 : ms.length ≤ 1048576) :
    Calls Try.prog 61 #[.agg #[.int .i64 c1, v, .int .i64 r1], .agg #[.int .i64 c2, u, .int .i64 r2]] w fun e w' => e = .returned (.bool (eqB (c1, ns, r1) (c2, ms, r2))) ∧ Below w.heap.size w w' := by
  rw [dec_told]
  have b0 : ∀ o1 o2, Below w.heap.size w ((w.alloc o1).alloc o2) := fun o1 o2 => by go_grown
  have k1 : ∀ o1 o2, RowAt 1 encI ((w.alloc o1).alloc o2) v ns := fun o1 o2 => h1.keep (b0 o1 o2)
  have k3 : ∀ o1 o2, RowAt 1 encI ((w.alloc o1).alloc o2) u ms := fun o1 o2 => h3.keep (b0 o1 o2)
  clear h1 h3
  by_cases hz : c1 = c2
  · subst hz
    go_enter Try.func61, Try.ntmps61
    go_wp2_with fail
    refine (eqIntS _ _ _ _ _ (k1 _ _) (k3 _ _) l1 l3).mono ?_
    rintro e w1 ⟨rfl, bel1⟩
    have B1 : Hid (Below w.heap.size w w1) := (b0 _ _).trans (bel1.mono (by simp; omega))
    have hs1 : w.heap.size + 2 ≤ w1.heap.size := by have := bel1.size; simp at this; omega
    have hc1 := Below.celz (bel1.mono (B' := w.heap.size + 2) (by simp))
    clear k1 k3 b0 bel1
    cases hq : eqB ns ms
    · go_wp2_with fail
      go_ret
      exact ⟨by first | (simp; done) | (simp [hq]; done), B1.out⟩
    · by_cases hr : r1 = r2
      · subst hr
        go_wp2_with fail
        go_ret
        exact ⟨by first | (simp; done) | (simp [hq]; done), B1.out⟩
      · have hd : (r1 != r2) = true := by simpa using hr
        have hd2 : (r1 == r2) = false := by simpa using hr
        have hd3 : decide (r1 = r2) = false := by simpa using hr
        clear hr
        go_wp2_with fail
        go_ret
        exact ⟨by first | (simp [hd3]; done) | (simp [hq, hd3]; done), B1.out⟩
  · have hd : (c1 != c2) = true := by simpa using hz
    have hd2 : (c1 == c2) = false := by simpa using hz
    have hd3 : decide (c1 = c2) = false := by simpa using hz
    clear hz k1 k3
    go_enter Try.func61, Try.ntmps61
    go_wp2_with fail
    go_ret
    exact ⟨by first | rfl | simp [hd3], b0 _ _⟩
set_option maxHeartbeats 2000000 in
theorem impl_toldOnce (c1 r1 c2 r2 : Int) (v u : Value) (ns ms : List Int) (w : World) (h1 : RowAt 1 encI w v ns) (h3 : RowAt 1 encI w u ms)
    (l1 : ns.length ≤ 1048576) (l3 : ms.length ≤ 1048576) :
    Calls Try.prog 60 #[.agg #[.int .i64 c1, v, .int .i64 r1], .agg #[.int .i64 c2, u, .int .i64 r2]] w fun e w' => e = .returned (.bool (eqB (c1, ns, r1) (c2, ms, r2))) ∧ Below w.heap.size w w' := by
  rw [dec_told]
  have b0 : ∀ o1 o2, Below w.heap.size w ((w.alloc o1).alloc o2) := fun o1 o2 => by go_grown
  have k1 : ∀ o1 o2, RowAt 1 encI ((w.alloc o1).alloc o2) v ns := fun o1 o2 => h1.keep (b0 o1 o2)
  have k3 : ∀ o1 o2, RowAt 1 encI ((w.alloc o1).alloc o2) u ms := fun o1 o2 => h3.keep (b0 o1 o2)
  clear h1 h3
  by_cases hz : c1 = c2
  · subst hz
    go_enter Try.func60, Try.ntmps60
    go_wp2_with fail
    refine (equalIntS _ _ _ _ _ (k1 _ _) (k3 _ _) l1 l3).mono ?_
    rintro e w1 ⟨rfl, bel1⟩
    have B1 : Hid (Below w.heap.size w w1) := (b0 _ _).trans (bel1.mono (by simp; omega))
    have hs1 : w.heap.size + 2 ≤ w1.heap.size := by have := bel1.size; simp at this; omega
    have hc1 := Below.celz (bel1.mono (B' := w.heap.size + 2) (by simp))
    clear k1 k3 b0 bel1
    cases hq : eqB ns ms
    · go_wp2_with fail
      go_ret
      exact ⟨by first | (simp; done) | (simp [hq]; done), B1.out⟩
    · by_cases hr : r1 = r2
      · subst hr
        go_wp2_with fail
        go_ret
        exact ⟨by first | (simp; done) | (simp [hq]; done), B1.out⟩
      · have hd : (r1 != r2) = true := by simpa using hr
        have hd2 : (r1 == r2) = false := by simpa using hr
        have hd3 : decide (r1 = r2) = false := by simpa using hr
        clear hr
        go_wp2_with fail
        go_ret
        exact ⟨by first | (simp [hd3]; done) | (simp [hq, hd3]; done), B1.out⟩
  · have hd : (c1 != c2) = true := by simpa using hz
    have hd2 : (c1 == c2) = false := by simpa using hz
    have hd3 : decide (c1 = c2) = false := by simpa using hz
    clear hz k1 k3
    go_enter Try.func60, Try.ntmps60
    go_wp2_with fail
    go_ret
    exact ⟨by first | rfl | simp [hd3], b0 _ _⟩
theorem Try.infoTold : (Try.prog.info? 84).map (fun i => (i.zero, i.size, i.bytes)) = some (some (.agg #[.int .i64 0, .slice none 0 0, .int .i64 0]), 3, 40) := by kernel_rfl
theorem makeToldS (n : Nat) (h : n ≤ 1048576) (w : World) : (Instr.makeSlice 59 (.int .i64 n) (.int .i64 n)).run Try.prog w = .ok (.slice (some ⟨w.heap.size, 0, none⟩) n n) (w.alloc (.cells (madeCells #[.int .i64 0, .slice none 0 0, .int .i64 0] (n * 3)) 84)) := by
  obtain ⟨i0, hi, hz0, hz1, hz2⟩ := info_parts Try.infoTold
  have := run_make (P := Try.prog) w 59 84 i0 _ Try.underlying59 hi hz0 .i64 .i64 n n (by omega) (by omega) (by rw [hz2]; omega) (by omega)
  rw [hz1] at this
  simpa [Value.cells] using this
/-- A row of which the first elements have been laid. -/
def laidTold (ys : List (Int × (Value × List Int) × Int)) (n : Nat) (cur : Array Value) : Prop := cur.size = n * 3 ∧ ∀ j x, ys[j]? = some x → ∀ i u, (encTold x)[i]? = some u → cur[j * 3 + i]? = some u
theorem laidTold_step {ys : List (Int × (Value × List Int) × Int)} {k n : Nat} {cur : Array Value} (x : Int × (Value × List Int) × Int) (h : laidTold ys n cur) (hl : ys.length = k) (hk : k < n) : laidTold (ys ++ [x]) n (((cur.setIfInBounds (k * 3) (.int .i64 x.1)).setIfInBounds (k * 3 + 1) (x.2.1.1)).setIfInBounds (k * 3 + 2) (.int .i64 x.2.2)) := by
  obtain ⟨h1, h2⟩ := h
  refine ⟨by simp [h1], fun j y hj i u hu => ?_⟩
  have hi : i < 3 := by
    obtain ⟨h3, _⟩ := List.getElem?_eq_some_iff.1 hu
    rw [encTold_len] at h3; exact h3
  by_cases hjk : j < k
  · rw [List.getElem?_append_left (by omega)] at hj
    simp only [Array.getElem?_setIfInBounds]
    repeat rw [if_neg (by omega)]
    exact h2 j y hj i u hu
  · have hjl := (List.getElem?_eq_some_iff.1 hj).1
    simp at hjl
    obtain rfl : j = k := by omega
    rw [List.getElem?_append_right (by omega), hl] at hj
    simp at hj
    subst hj
    have : i = 0 ∨ i = 1 ∨ i = 2 := by omega
    rcases this with rfl | rfl | rfl <;> (simp [encTold] at hu; subst hu; simp [Array.getElem?_setIfInBounds]; omega)
theorem laidTold_all {ys : List (Int × (Value × List Int) × Int)} {n : Nat} {cur : Array Value} (h : laidTold ys n cur) (hn : ys.length = n) : cur.toList = ys.flatMap encTold := by
  obtain ⟨h1, h2⟩ := h
  apply List.ext_getElem?
  intro m
  by_cases hm : m < ys.length * 3
  · have hj : m / 3 < ys.length := by omega
    have h3 := flat_get encTold_len ys (m / 3) (m % 3) _ (List.getElem?_eq_getElem hj) (Nat.mod_lt _ (by omega))
    have hmm : m / 3 * 3 + m % 3 = m := by omega
    rw [hmm] at h3
    rw [h3]
    have hlen : m % 3 < (encTold ys[m / 3]).length := by rw [encTold_len]; exact Nat.mod_lt _ (by omega)
    have h4 := h2 (m / 3) _ (List.getElem?_eq_getElem hj) (m % 3) _ (List.getElem?_eq_getElem hlen)
    rw [hmm] at h4
    rw [List.getElem?_eq_getElem hlen]
    simpa using h4
  · rw [List.getElem?_eq_none (by simp; omega), List.getElem?_eq_none (by rw [flat_len encTold_len]; omega)]
set_option maxHeartbeats 4000000 in
theorem toToldS_some (b off cap : Nat) (xs : List (Int × (Value × List Int) × Int)) (w : World) (hf : FewTold xs) (hb : b < w.heap.size) (hin : ∀ x ∈ xs, RowAt 1 encI w x.2.1.1 x.2.1.2)
    (hc : ∀ j x, xs[j]? = some x → ∀ i u, (encTold x)[i]? = some u → w.cell? ⟨b, off + j * 3 + i, none⟩ = some u) :
    Calls Try.prog 25 #[.slice (some ⟨b, off, none⟩) xs.length cap] w fun e w' => ∃ v' ys, e = .returned v' ∧ ys.map plTold = xs.map plTold ∧ OwnTold w' w.heap.size v' ys ∧ Below w.heap.size w w' := by
  have HC : Hid (∀ j x, xs[j]? = some x → ∀ i u, (encTold x)[i]? = some u → w.cell? ⟨b, off + j * 3 + i, none⟩ = some u) := hc
  have HI : Hid (∀ x ∈ xs, RowAt 1 encI w x.2.1.1 x.2.1.2 ∧ x.2.1.2.length ≤ 1048576) := fun x hx => ⟨hin x hx, hf.2 x hx⟩
  have hl := hf.1
  clear hc hin hf
  obtain ⟨n, hn⟩ : ∃ n, n = xs.length := ⟨_, rfl⟩
  have HN : Hid (n = xs.length) := hn
  rw [← hn] at hl ⊢
  clear hn
  have hmk := makeToldS n hl
  go_enter Try.func25, Try.ntmps25
  go_wp2_with fail
  clear hmk
  go_loopw [4] (fun i wr => ∃ k : Nat, k ≤ n ∧ i = .int .i64 k ∧ Below w.heap.size w wr ∧ ∃ cur ys, wr.heap[w.heap.size]? = some (.cells cur 84 (0, 0)) ∧ laidTold ys n cur ∧ ys.length = k ∧ ys.map plTold = (xs.take k).map plTold ∧ ∀ y ∈ ys, wr.ownsRow (w.heap.size + 1) 3 1 y.2.1.1 y.2.1.2.length (y.2.1.2.flatMap encI)) (fun i _ => n - (intOf i).toNat)
  case atStart => exact ⟨0, by omega, rfl, (Below.refl _ _).alloc (Nat.le_refl _) _, _, [], new_block _ _, ⟨by simp [size_madeCells], fun j x hj => by simp at hj⟩, rfl, by simp, by simp⟩
  case round =>
    obtain ⟨k, hk, rfl, hbel, cur, ys, hblk, hlaid, hyl, hym, hyo⟩ := hrel
    have hsz := hlaid.1
    by_cases hlt : k < n
    · obtain ⟨⟨m0, ⟨mv, ml⟩, m2⟩, hx⟩ : ∃ x, xs[k]? = some x := ⟨_, List.getElem?_eq_getElem (by rw [← HN.out]; exact hlt)⟩
      obtain ⟨hrow, hml⟩ := HI.out _ (List.mem_of_getElem? hx)
      simp only at hrow hml
      obtain ⟨ma, mc, rfl⟩ := hrow.len
      obtain ⟨mn, hmn⟩ : ∃ t, t = ml.length := ⟨_, rfl⟩
      have HMN : Hid (mn = ml.length) := hmn
      rw [← hmn] at hrow hml hx
      have e0 : wr.cell? ⟨b, off + k * 3, none⟩ = some (.int .i64 m0) := by rw [hbel.cell (p := ⟨b, off + k * 3, none⟩) hb]; exact HC.out k _ hx 0 _ rfl
      have e1 : wr.cell? ⟨b, off + k * 3 + 1, none⟩ = some (.slice ma mn mc) := by rw [hbel.cell (p := ⟨b, off + k * 3 + 1, none⟩) hb]; exact HC.out k _ hx 1 _ rfl
      have e2 : wr.cell? ⟨b, off + k * 3 + 2, none⟩ = some (.int .i64 m2) := by rw [hbel.cell (p := ⟨b, off + k * 3 + 2, none⟩) hb]; exact HC.out k _ hx 2 _ rfl
      have HX : Hid (xs[k]? = some (m0, (.slice ma mn mc, ml), m2)) := hx
      have HR : Hid (RowAt 1 encI wr (.slice ma mn mc) ml) := hrow.keep hbel
      have HY : Hid (laidTold ys n cur ∧ ys.length = k ∧ ys.map plTold = (xs.take k).map plTold ∧ ∀ y ∈ ys, wr.ownsRow (w.heap.size + 1) 3 1 y.2.1.1 y.2.1.2.length (y.2.1.2.flatMap encI)) := ⟨hlaid, hyl, hym, hyo⟩
      have HBK : Hid (wr.heap[w.heap.size]? = some (.cells cur 84 (0, 0)) ∧ Below w.heap.size w wr) := ⟨hblk, hbel⟩
      have hgl := lt_of_block hblk
      clear hlaid hyl hym hyo hx hrow hblk hbel hmn
      go_wp2_with fail
      refine (toTold m0 m2 (.slice ma mn mc) ml _ (HR.out.keep (by first | exact Below.refl _ _ | go_grown)) (by rw [← HMN.out]; exact hml)).mono ?_
      rintro e w1 ⟨u, rfl, ou, b1⟩
      have hou := ou
      obtain ⟨ua, uc, rfl⟩ := own_form hou
      have b1' : Below wr.heap.size wr w1 := by first | exact b1 | exact Below.trans (by go_grown) (b1.mono (by simp))
      have g1 : w1.heap[w.heap.size]? = some (.cells cur 84 (0, 0)) := by rw [b1'.block _ hgl]; exact HBK.out.1
      have b2 : Below w.heap.size w w1 := HBK.out.2.trans (b1'.mono (by omega))
      have HOU : Hid (w1.ownsRow (w.heap.size + 1) 3 1 (.slice ua ml.length uc) ml.length (ml.flatMap encI)) := own_mono hou (by first | omega | (simp; omega))
      have HYO : Hid (∀ y ∈ ys, w1.ownsRow (w.heap.size + 1) 3 1 y.2.1.1 y.2.1.2.length (y.2.1.2.flatMap encI)) := fun y hy => own_keep (HY.out.2.2.2 y hy) b1'
      rw [← HMN.out] at HOU ⊢
      obtain ⟨y0, r0⟩ : ∃ y, w1.cell? ⟨w.heap.size, k * 3, none⟩ = some y := by rw [cell_block g1]; exact ⟨_, Array.getElem?_eq_getElem (by omega)⟩
      obtain ⟨y1, r1⟩ : ∃ y, w1.cell? ⟨w.heap.size, k * 3 + 1, none⟩ = some y := by rw [cell_block g1]; exact ⟨_, Array.getElem?_eq_getElem (by omega)⟩
      obtain ⟨y2, r2⟩ : ∃ y, w1.cell? ⟨w.heap.size, k * 3 + 2, none⟩ = some y := by rw [cell_block g1]; exact ⟨_, Array.getElem?_eq_getElem (by omega)⟩
      have hf : ∀ i, w1.frozen? ⟨w.heap.size, i, none⟩ = false := fun i => free_block g1
      have HG : Hid ((((w1.setCell ⟨w.heap.size, k * 3, none⟩ (.int .i64 m0)).setCell ⟨w.heap.size, k * 3 + 1, none⟩ (.slice ua mn uc)).setCell ⟨w.heap.size, k * 3 + 2, none⟩ (.int .i64 m2)).heap[w.heap.size]? = some (.cells (((cur.setIfInBounds (k * 3) (.int .i64 m0)).setIfInBounds (k * 3 + 1) (.slice ua mn uc)).setIfInBounds (k * 3 + 2) (.int .i64 m2)) 84 (0, 0)) ∧ Below w.heap.size w (((w1.setCell ⟨w.heap.size, k * 3, none⟩ (.int .i64 m0)).setCell ⟨w.heap.size, k * 3 + 1, none⟩ (.slice ua mn uc)).setCell ⟨w.heap.size, k * 3 + 2, none⟩ (.int .i64 m2))) := ⟨(set_block _ (set_block _ (set_block _ g1))), (((b2.setCell (by simp) _).setCell (by simp) _).setCell (by simp) _)⟩
      have HO2 : Hid (∀ y ∈ ys ++ [(m0, (.slice ua mn uc, ml), m2)], (((w1.setCell ⟨w.heap.size, k * 3, none⟩ (.int .i64 m0)).setCell ⟨w.heap.size, k * 3 + 1, none⟩ (.slice ua mn uc)).setCell ⟨w.heap.size, k * 3 + 2, none⟩ (.int .i64 m2)).ownsRow (w.heap.size + 1) 3 1 y.2.1.1 y.2.1.2.length (y.2.1.2.flatMap encI)) := by
        intro y hy
        have q0 : w1.ownsRow (w.heap.size + 1) 3 1 y.2.1.1 y.2.1.2.length (y.2.1.2.flatMap encI) := by
          rcases List.mem_append.1 hy with h | h
          · exact HYO.out y h
          · simp only [List.mem_singleton] at h
            subst h
            have := HOU.out
            rw [HMN.out] at this ⊢
            exact this
        have ob : (y.2.1.1).ownBlock ≠ some w.heap.size := fun hh => by have := (q0.lt _ hh).1; omega
        exact own_set (own_set (own_set q0 ob _) ob _) ob _
      clear g1 b1 b1' b2 ou hou HOU HYO HR
      go_wp2_with fail
      go_roundw
      case rel =>
        obtain ⟨y1, y2, y3, y4⟩ := HY.out
        refine ⟨k + 1, by omega, by go_num, HG.out.2, _, ys ++ [(m0, (.slice ua mn uc, ml), m2)], HG.out.1, laidTold_step (m0, (.slice ua mn uc, ml), m2) y1 y2 hlt, by simp [y2], ?_, HO2.out⟩
        rw [List.take_add_one, HX.out, List.map_append, List.map_append, y3]
        rfl
      case measure => simp [intOf]; omega
    · have hkn : k = n := by omega
      subst hkn
      go_wp2_with fail
      go_ret
      have ht := HN.out
      refine ⟨_, ys, rfl, by rw [hym, ht, List.take_length], ⟨⟨by rw [flat_len encTold_len], .inr ⟨w.heap.size, k, cur, by rw [hyl]; rfl, Nat.le_refl _, hblk, by omega, by unfold maxLen; omega, hsz, ?_⟩⟩, fun y hy => own_mono (hyo y hy) (by omega)⟩, hbel⟩
      rw [← laidTold_all hlaid hyl]
      exact List.take_of_length_le (by simp [hsz, hyl])
set_option maxHeartbeats 400000 in
theorem toToldS_empty (a1 : Option Addr) (c1 : Nat) (w : World) :
    Calls Try.prog 25 #[.slice a1 0 c1] w fun e w' => ∃ v', e = .returned v' ∧ w'.ownsRow w.heap.size 84 3 v' 0 [] ∧ Below w.heap.size w w' := by
  have hmk : ∀ w, (Instr.makeSlice 59 (.int .i64 0) (.int .i64 0)).run Try.prog w = .ok (.slice (some ⟨w.heap.size, 0, none⟩) 0 0) (w.alloc (.cells (madeCells #[.int .i64 0, .slice none 0 0, .int .i64 0] (0 * 3)) 84)) := makeToldS 0 (by omega)
  go_enter Try.func25, Try.ntmps25
  go_wp2
  refine wp_loop_rounds 1 ?_
  rw [rounds_succ]
  go_wp2
  go_ret
  exact ⟨_, rfl, ⟨rfl, .inr ⟨w.heap.size, 0, _, rfl, Nat.le_refl _, new_block _ _, Nat.le_refl _, by unfold maxLen; omega, by simp [size_madeCells], by simp⟩⟩, (Below.refl _ _).alloc (Nat.le_refl _) _⟩
theorem toToldS (v : Value) (xs : List (Int × (Value × List Int) × Int)) (w : World) (h : AtTold w v xs) (hf : FewTold xs) :
    Calls Try.prog 25 #[v] w fun e w' => ∃ v' ys, e = .returned v' ∧ ys.map plTold = xs.map plTold ∧ OwnTold w' w.heap.size v' ys ∧ Below w.heap.size w w' := by
  obtain ⟨h, hin⟩ := h
  rcases h with ⟨rfl, a1, c1, rfl⟩ | ⟨p1, b1, o1, c1, rfl, l1, e1⟩
  · exact (toToldS_empty a1 c1 w).mono fun e w' ⟨v', h1, h2, h3⟩ => ⟨v', [], h1, rfl, ⟨h2, by simp⟩, h3⟩
  · exact toToldS_some b1 o1 c1 xs w hf l1 hin e1
set_option maxHeartbeats 4000000 in
theorem eqToldS_some (b1 o1 c1 b2 o2 c2 : Nat) (xs ys : List (Int × (Value × List Int) × Int)) (w : World) (hlen : xs.length = ys.length) (hf1 : FewTold xs) (hf2 : FewTold ys) (hb1 : b1 < w.heap.size) (hb2 : b2 < w.heap.size) (hi1 : ∀ x ∈ xs, RowAt 1 encI w x.2.1.1 x.2.1.2) (hi2 : ∀ x ∈ ys, RowAt 1 encI w x.2.1.1 x.2.1.2)
    (h1 : ∀ j x, xs[j]? = some x → ∀ i u, (encTold x)[i]? = some u → w.cell? ⟨b1, o1 + j * 3 + i, none⟩ = some u) (h2 : ∀ j x, ys[j]? = some x → ∀ i u, (encTold x)[i]? = some u → w.cell? ⟨b2, o2 + j * 3 + i, none⟩ = some u) :
    Calls Try.prog 27 #[.slice (some ⟨b1, o1, none⟩) xs.length c1, .slice (some ⟨b2, o2, none⟩) xs.length c2] w fun e w' => e = .returned (.bool (eqB (xs.map plTold) (ys.map plTold))) ∧ Below w.heap.size w w' := by
  have H1 : Hid (∀ j x, xs[j]? = some x → ∀ i u, (encTold x)[i]? = some u → w.cell? ⟨b1, o1 + j * 3 + i, none⟩ = some u) := h1
  have H2 : Hid (∀ j x, ys[j]? = some x → ∀ i u, (encTold x)[i]? = some u → w.cell? ⟨b2, o2 + j * 3 + i, none⟩ = some u) := h2
  have HI1 : Hid (∀ x ∈ xs, RowAt 1 encI w x.2.1.1 x.2.1.2 ∧ x.2.1.2.length ≤ 1048576) := fun x hx => ⟨hi1 x hx, hf1.2 x hx⟩
  have HI2 : Hid (∀ x ∈ ys, RowAt 1 encI w x.2.1.1 x.2.1.2 ∧ x.2.1.2.length ≤ 1048576) := fun x hx => ⟨hi2 x hx, hf2.2 x hx⟩
  have hl := hf1.1
  clear h1 h2 hi1 hi2 hf1 hf2
  obtain ⟨n, hn⟩ : ∃ n, n = xs.length := ⟨_, rfl⟩
  have HN : Hid (n = xs.length ∧ n = ys.length) := ⟨hn, by omega⟩
  rw [← hn] at hl ⊢
  clear hn hlen
  go_enter Try.func27, Try.ntmps27
  go_wp2_with fail
  go_loopw [5] (fun i wr => ∃ k : Nat, k ≤ n ∧ i = .int .i64 k ∧ Below w.heap.size w wr ∧ ∀ j, j < k → (xs.map plTold)[j]? = (ys.map plTold)[j]?) (fun i _ => n - (intOf i).toNat)
  case atStart => exact ⟨0, by omega, rfl, Below.refl _ _, fun j hj => by omega⟩
  case round =>
    obtain ⟨k, hk, rfl, hbel, hq⟩ := hrel
    have HQ : Hid (∀ j, j < k → (xs.map plTold)[j]? = (ys.map plTold)[j]?) := hq
    clear hq
    by_cases hlt : k < n
    · obtain ⟨⟨m0, ⟨mv, ml⟩, m2⟩, hx⟩ : ∃ x, xs[k]? = some x := ⟨_, List.getElem?_eq_getElem (by rw [← HN.out.1]; exact hlt)⟩
      obtain ⟨⟨p0, ⟨pv, pl⟩, p2⟩, hy⟩ : ∃ x, ys[k]? = some x := ⟨_, List.getElem?_eq_getElem (by rw [← HN.out.2]; exact hlt)⟩
      obtain ⟨hr1, hml⟩ := HI1.out _ (List.mem_of_getElem? hx)
      obtain ⟨hr2, hpl⟩ := HI2.out _ (List.mem_of_getElem? hy)
      simp only at hr1 hml hr2 hpl
      obtain ⟨ma, mc, rfl⟩ := hr1.len
      obtain ⟨pa, pc, rfl⟩ := hr2.len
      obtain ⟨mn, hmn⟩ : ∃ t, t = ml.length := ⟨_, rfl⟩
      obtain ⟨pn, hpn⟩ : ∃ t, t = pl.length := ⟨_, rfl⟩
      rw [← hmn] at hr1 hx
      rw [← hpn] at hr2 hy
      have HRA : Hid (∀ w', Below wr.heap.size wr w' → RowAt 1 encI w' (.slice ma mn mc) ml) := fun w' h => (hr1.keep hbel).keep h
      have HRB : Hid (∀ w', Below wr.heap.size wr w' → RowAt 1 encI w' (.slice pa pn pc) pl) := fun w' h => (hr2.keep hbel).keep h
      have e0 : wr.cell? ⟨b1, o1 + k * 3, none⟩ = some (.int .i64 m0) := by rw [hbel.cell (p := ⟨b1, _, none⟩) hb1]; exact H1.out k _ hx 0 _ rfl
      have e1 : wr.cell? ⟨b1, o1 + k * 3 + 1, none⟩ = some (.slice ma mn mc) := by rw [hbel.cell (p := ⟨b1, _, none⟩) hb1]; exact H1.out k _ hx 1 _ rfl
      have e2 : wr.cell? ⟨b1, o1 + k * 3 + 2, none⟩ = some (.int .i64 m2) := by rw [hbel.cell (p := ⟨b1, _, none⟩) hb1]; exact H1.out k _ hx 2 _ rfl
      have f0 : wr.cell? ⟨b2, o2 + k * 3, none⟩ = some (.int .i64 p0) := by rw [hbel.cell (p := ⟨b2, _, none⟩) hb2]; exact H2.out k _ hy 0 _ rfl
      have f1 : wr.cell? ⟨b2, o2 + k * 3 + 1, none⟩ = some (.slice pa pn pc) := by rw [hbel.cell (p := ⟨b2, _, none⟩) hb2]; exact H2.out k _ hy 1 _ rfl
      have f2 : wr.cell? ⟨b2, o2 + k * 3 + 2, none⟩ = some (.int .i64 p2) := by rw [hbel.cell (p := ⟨b2, _, none⟩) hb2]; exact H2.out k _ hy 2 _ rfl
      have HX : Hid ((xs.map plTold)[k]? = some (m0, ml, m2) ∧ (ys.map plTold)[k]? = some (p0, pl, p2)) := ⟨by rw [List.getElem?_map, hx]; rfl, by rw [List.getElem?_map, hy]; rfl⟩
      have hq1 : b1 < wr.heap.size := Nat.lt_of_lt_of_le hb1 hbel.size
      have hq2 : b2 < wr.heap.size := Nat.lt_of_lt_of_le hb2 hbel.size
      have k0 : (0 : Int) ≤ (k : Int) := by omega
      have k1 : (k : Int) < (n : Int) := by omega
      have HB : Hid (Below w.heap.size w wr) := hbel
      have HML : Hid (ml.length ≤ 1048576 ∧ pl.length ≤ 1048576) := ⟨hml, hpl⟩
      clear hx hy hbel hr1 hr2 hmn hpn hml hpl
      cases hd : eqB (m0, ml, m2) (p0, pl, p2)
      · go_wp2_with fail
        refine wp_region_after (by kernel_rfl) (by kernel_rfl) ?_
        intro hne hac
        repeat (go_big_quiet_step (first | (go_at_call 61; exact after_at (x := eqB (m0, ml, m2) (p0, pl, p2)) (y := false) hd (eqTold m0 m2 p0 p2 _ _ ml pl _ (HRA.out _ (After.bel _)) (HRB.out _ (After.bel _)) HML.out.1 HML.out.2))))
        refine wpQuiet_nil ?_
        rintro _ ⟨p, rfl⟩
        have hbq := HB.out.trans (p.bel.mono HB.out.size)
        generalize p.w = wq at *
        clear hac hne
        go_wp2_with fail
        go_ret
        refine ⟨?_, hbq⟩
        have : eqB (xs.map plTold) (ys.map plTold) = false := by
          rw [eqB_false] at hd ⊢
          intro h
          apply hd
          have h3 := HX.out.1
          rw [h, HX.out.2] at h3
          exact (Option.some.inj h3).symm
        rw [this]; rfl
      · go_wp2_with fail
        refine wp_region_after (by kernel_rfl) (by kernel_rfl) ?_
        intro hne hac
        repeat (go_big_quiet_step (first | (go_at_call 61; exact after_at (x := eqB (m0, ml, m2) (p0, pl, p2)) (y := true) hd (eqTold m0 m2 p0 p2 _ _ ml pl _ (HRA.out _ (After.bel _)) (HRB.out _ (After.bel _)) HML.out.1 HML.out.2))))
        refine wpQuiet_nil ?_
        rintro _ ⟨p, rfl⟩
        have HB2 : Hid (Below w.heap.size w p.w) := HB.out.trans (p.bel.mono HB.out.size)
        clear hac hne
        generalize p.w = wq at *
        go_wp2_with fail
        go_roundw
        case rel =>
          refine ⟨k + 1, by omega, by go_num, HB2.out, fun j hj => ?_⟩
          rcases Nat.lt_succ_iff_lt_or_eq.1 hj with h | rfl
          · exact HQ.out j h
          · rw [HX.out.1, HX.out.2, eqB_true.1 hd]
        case measure => simp [intOf]; omega
    · have hkn : k = n := by omega
      subst hkn
      go_wp2_with fail
      go_ret
      refine ⟨?_, hbel⟩
      have : xs.map plTold = ys.map plTold := by
        apply List.ext_getElem?
        intro j
        by_cases hj : j < k
        · exact HQ.out j hj
        · rw [List.getElem?_eq_none (by have := HN.out; simp; omega), List.getElem?_eq_none (by have := HN.out; simp; omega)]
      rw [eqB_true.2 this]; rfl
set_option maxHeartbeats 400000 in
theorem eqToldS_len (a1 a2 : Option Addr) (n1 c1 n2 c2 : Nat) (w : World) (h1 : n1 ≤ 1048576) (h2 : n2 ≤ 1048576) (hne : n1 ≠ n2) :
    Calls Try.prog 27 #[.slice a1 n1 c1, .slice a2 n2 c2] w fun e w' => e = .returned (.bool false) ∧ w' = w := by
  have hd : ((n1 : Int) != (n2 : Int)) = true := by rw [bne_iff_ne]; omega
  clear hne
  go_enter Try.func27, Try.ntmps27
  go_wp2
  go_ret
  exact ⟨rfl, rfl⟩
set_option maxHeartbeats 400000 in
theorem eqToldS_empty (a1 a2 : Option Addr) (c1 c2 : Nat) (w : World) :
    Calls Try.prog 27 #[.slice a1 0 c1, .slice a2 0 c2] w fun e w' => e = .returned (.bool true) ∧ w' = w := by
  go_enter Try.func27, Try.ntmps27
  go_wp2
  refine wp_loop_rounds 1 ?_
  rw [rounds_succ]
  go_wp2
  go_ret
  exact ⟨rfl, rfl⟩
theorem eqToldS (v1 v2 : Value) (xs ys : List (Int × (Value × List Int) × Int)) (w : World) (h1 : AtTold w v1 xs) (h2 : AtTold w v2 ys) (hb1 : FewTold xs) (hb2 : FewTold ys) :
    Calls Try.prog 27 #[v1, v2] w fun e w' => e = .returned (.bool (eqB (xs.map plTold) (ys.map plTold))) ∧ Below w.heap.size w w' := by
  obtain ⟨h1, i1⟩ := h1
  obtain ⟨h2, i2⟩ := h2
  by_cases hl : xs.length = ys.length
  · rcases h1 with ⟨rfl, a1, c1, rfl⟩ | ⟨p1, b1, o1, c1, rfl, l1, e1⟩
    · have hm : ys = [] := List.length_eq_zero_iff.1 (by simpa using hl.symm)
      subst hm
      obtain ⟨a2, c2, rfl⟩ := h2.len
      exact (eqToldS_empty a1 a2 c1 c2 w).mono (fun e w' h => ⟨by rw [h.1, eqB_true.2 rfl], by rw [h.2]; exact Below.refl _ _⟩)
    · rcases h2 with ⟨rfl, a2, c2, rfl⟩ | ⟨p2, b2, o2, c2, rfl, l2, e2⟩
      · simp at hl; subst hl; simp at p1
      · rw [← hl]
        exact eqToldS_some b1 o1 c1 b2 o2 c2 xs ys w hl hb1 hb2 l1 l2 i1 i2 e1 e2
  · have hf : eqB (xs.map plTold) (ys.map plTold) = false := by rw [eqB_false]; intro h; exact hl (by simpa using congrArg List.length h)
    rw [hf]
    obtain ⟨a1, c1, rfl⟩ := h1.len
    obtain ⟨a2, c2, rfl⟩ := h2.len
    exact (eqToldS_len a1 a2 _ c1 _ c2 w hb1.1 hb2.1 hl).mono (fun e w' h => ⟨h.1, by rw [h.2]; exact Below.refl _ _⟩)
set_option maxHeartbeats 4000000 in
theorem spec_ToldSame_some (b1 o1 c1 b2 o2 c2 : Nat) (xs ys : List (Int × (Value × List Int) × Int)) (w : World) (hlen : xs.length = ys.length) (hf1 : FewTold xs) (hf2 : FewTold ys) (hb1 : b1 < w.heap.size) (hb2 : b2 < w.heap.size) (hi1 : ∀ x ∈ xs, RowAt 1 encI w x.2.1.1 x.2.1.2) (hi2 : ∀ x ∈ ys, RowAt 1 encI w x.2.1.1 x.2.1.2)
    (h1 : ∀ j x, xs[j]? = some x → ∀ i u, (encTold x)[i]? = some u → w.cell? ⟨b1, o1 + j * 3 + i, none⟩ = some u) (h2 : ∀ j x, ys[j]? = some x → ∀ i u, (encTold x)[i]? = some u → w.cell? ⟨b2, o2 + j * 3 + i, none⟩ = some u) :
    Calls Try.prog 24 #[.slice (some ⟨b1, o1, none⟩) xs.length c1, .slice (some ⟨b2, o2, none⟩) xs.length c2] w fun e w' => e = .returned (.bool (eqB (xs.map plTold) (ys.map plTold))) ∧ Below w.heap.size w w' := by
  have H1 : Hid (∀ j x, xs[j]? = some x → ∀ i u, (encTold x)[i]? = some u → w.cell? ⟨b1, o1 + j * 3 + i, none⟩ = some u) := h1
  have H2 : Hid (∀ j x, ys[j]? = some x → ∀ i u, (encTold x)[i]? = some u → w.cell? ⟨b2, o2 + j * 3 + i, none⟩ = some u) := h2
  have HI1 : Hid (∀ x ∈ xs, RowAt 1 encI w x.2.1.1 x.2.1.2 ∧ x.2.1.2.length ≤ 1048576) := fun x hx => ⟨hi1 x hx, hf1.2 x hx⟩
  have HI2 : Hid (∀ x ∈ ys, RowAt 1 encI w x.2.1.1 x.2.1.2 ∧ x.2.1.2.length ≤ 1048576) := fun x hx => ⟨hi2 x hx, hf2.2 x hx⟩
  have hl := hf1.1
  clear h1 h2 hi1 hi2 hf1 hf2
  obtain ⟨n, hn⟩ : ∃ n, n = xs.length := ⟨_, rfl⟩
  have HN : Hid (n = xs.length ∧ n = ys.length) := ⟨hn, by omega⟩
  rw [← hn] at hl ⊢
  clear hn hlen
  go_enter Try.func24, Try.ntmps24
  go_wp2_with fail
  go_loopw [5] (fun i wr => ∃ k : Nat, k ≤ n ∧ i = .int .i64 k ∧ Below w.heap.size w wr ∧ ∀ j, j < k → (xs.map plTold)[j]? = (ys.map plTold)[j]?) (fun i _ => n - (intOf i).toNat)
  case atStart => exact ⟨0, by omega, rfl, Below.refl _ _, fun j hj => by omega⟩
  case round =>
    obtain ⟨k, hk, rfl, hbel, hq⟩ := hrel
    have HQ : Hid (∀ j, j < k → (xs.map plTold)[j]? = (ys.map plTold)[j]?) := hq
    clear hq
    by_cases hlt : k < n
    · obtain ⟨⟨m0, ⟨mv, ml⟩, m2⟩, hx⟩ : ∃ x, xs[k]? = some x := ⟨_, List.getElem?_eq_getElem (by rw [← HN.out.1]; exact hlt)⟩
      obtain ⟨⟨p0, ⟨pv, pl⟩, p2⟩, hy⟩ : ∃ x, ys[k]? = some x := ⟨_, List.getElem?_eq_getElem (by rw [← HN.out.2]; exact hlt)⟩
      obtain ⟨hr1, hml⟩ := HI1.out _ (List.mem_of_getElem? hx)
      obtain ⟨hr2, hpl⟩ := HI2.out _ (List.mem_of_getElem? hy)
      simp only at hr1 hml hr2 hpl
      obtain ⟨ma, mc, rfl⟩ := hr1.len
      obtain ⟨pa, pc, rfl⟩ := hr2.len
      obtain ⟨mn, hmn⟩ : ∃ t, t = ml.length := ⟨_, rfl⟩
      obtain ⟨pn, hpn⟩ : ∃ t, t = pl.length := ⟨_, rfl⟩
      rw [← hmn] at hr1 hx
      rw [← hpn] at hr2 hy
      have HRA : Hid (∀ w', Below wr.heap.size wr w' → RowAt 1 encI w' (.slice ma mn mc) ml) := fun w' h => (hr1.keep hbel).keep h
      have HRB : Hid (∀ w', Below wr.heap.size wr w' → RowAt 1 encI w' (.slice pa pn pc) pl) := fun w' h => (hr2.keep hbel).keep h
      have e0 : wr.cell? ⟨b1, o1 + k * 3, none⟩ = some (.int .i64 m0) := by rw [hbel.cell (p := ⟨b1, _, none⟩) hb1]; exact H1.out k _ hx 0 _ rfl
      have e1 : wr.cell? ⟨b1, o1 + k * 3 + 1, none⟩ = some (.slice ma mn mc) := by rw [hbel.cell (p := ⟨b1, _, none⟩) hb1]; exact H1.out k _ hx 1 _ rfl
      have e2 : wr.cell? ⟨b1, o1 + k * 3 + 2, none⟩ = some (.int .i64 m2) := by rw [hbel.cell (p := ⟨b1, _, none⟩) hb1]; exact H1.out k _ hx 2 _ rfl
      have f0 : wr.cell? ⟨b2, o2 + k * 3, none⟩ = some (.int .i64 p0) := by rw [hbel.cell (p := ⟨b2, _, none⟩) hb2]; exact H2.out k _ hy 0 _ rfl
      have f1 : wr.cell? ⟨b2, o2 + k * 3 + 1, none⟩ = some (.slice pa pn pc) := by rw [hbel.cell (p := ⟨b2, _, none⟩) hb2]; exact H2.out k _ hy 1 _ rfl
      have f2 : wr.cell? ⟨b2, o2 + k * 3 + 2, none⟩ = some (.int .i64 p2) := by rw [hbel.cell (p := ⟨b2, _, none⟩) hb2]; exact H2.out k _ hy 2 _ rfl
      have HX : Hid ((xs.map plTold)[k]? = some (m0, ml, m2) ∧ (ys.map plTold)[k]? = some (p0, pl, p2)) := ⟨by rw [List.getElem?_map, hx]; rfl, by rw [List.getElem?_map, hy]; rfl⟩
      have hq1 : b1 < wr.heap.size := Nat.lt_of_lt_of_le hb1 hbel.size
      have hq2 : b2 < wr.heap.size := Nat.lt_of_lt_of_le hb2 hbel.size
      have k0 : (0 : Int) ≤ (k : Int) := by omega
      have k1 : (k : Int) < (n : Int) := by omega
      have HB : Hid (Below w.heap.size w wr) := hbel
      have HML : Hid (ml.length ≤ 1048576 ∧ pl.length ≤ 1048576) := ⟨hml, hpl⟩
      clear hx hy hbel hr1 hr2 hmn hpn hml hpl
      by_cases h0 : m0 = p0
      · subst h0
        by_cases h2 : m2 = p2
        · subst h2
          cases hd : eqB ml pl
          · have HD : Hid (¬ ml = pl) := eqB_false.1 hd
            go_wp2_with fail
            refine wp_region_after (by kernel_rfl) (by kernel_rfl) ?_
            intro hne hac
            repeat (go_big_quiet_step (first | (go_at_call 57; exact after_at (x := eqB ml pl) (y := false) hd (spec_l7Ints _ _ ml pl _ (HRA.out _ (After.bel _)) (HRB.out _ (After.bel _)) HML.out.1 HML.out.2))))
            refine wpQuiet_nil ?_
            rintro _ ⟨p, rfl⟩
            have hbq := HB.out.trans (p.bel.mono HB.out.size)
            generalize p.w = wq at *
            clear hac hne
            go_wp2_with fail
            go_ret
            refine ⟨?_, hbq⟩
            have : eqB (xs.map plTold) (ys.map plTold) = false := by
              rw [eqB_false]
              intro h
              have h3 := HX.out.1
              rw [h, HX.out.2] at h3
              have h4 := (Option.some.inj h3).symm
              simp only [Prod.mk.injEq] at h4
              exact HD.out h4.2.1
            rw [this]; rfl
          · go_wp2_with fail
            refine wp_region_after (by kernel_rfl) (by kernel_rfl) ?_
            intro hne hac
            repeat (go_big_quiet_step (first | (go_at_call 57; exact after_at (x := eqB ml pl) (y := true) hd (spec_l7Ints _ _ ml pl _ (HRA.out _ (After.bel _)) (HRB.out _ (After.bel _)) HML.out.1 HML.out.2))))
            refine wpQuiet_nil ?_
            rintro _ ⟨p, rfl⟩
            have HB2 : Hid (Below w.heap.size w p.w) := HB.out.trans (p.bel.mono HB.out.size)
            clear hac hne
            generalize p.w = wq at *
            go_wp2_with fail
            go_roundw
            case rel =>
              refine ⟨k + 1, by omega, by go_num, HB2.out, fun j hj => ?_⟩
              rcases Nat.lt_succ_iff_lt_or_eq.1 hj with h | rfl
              · exact HQ.out j h
              · rw [HX.out.1, HX.out.2, eqB_true.1 hd]
            case measure => simp [intOf]; omega
        · have HD : Hid (¬ m2 = p2) := h2
          have d1 : (m2 == p2) = false := beq_eq_false_iff_ne.2 h2
          have t1 : (m2 != p2) = true := by simpa using h2
          have u1 : decide (m2 = p2) = false := by simpa using h2
          clear h2
          go_wp2_with fail
          refine wp_region_after (by kernel_rfl) (by kernel_rfl) ?_
          intro hne hac
          repeat (go_big_quiet_step (fail))
          refine wpQuiet_nil ?_
          rintro _ ⟨p, rfl⟩
          have hbq := HB.out.trans (p.bel.mono HB.out.size)
          generalize p.w = wq at *
          clear hac hne
          go_wp2_with fail
          go_ret
          refine ⟨?_, hbq⟩
          have : eqB (xs.map plTold) (ys.map plTold) = false := by
            rw [eqB_false]
            intro h
            have h3 := HX.out.1
            rw [h, HX.out.2] at h3
            have h4 := (Option.some.inj h3).symm
            simp only [Prod.mk.injEq] at h4
            exact HD.out h4.2.2
          rw [this]; rfl
      · have HD : Hid (¬ m0 = p0) := h0
        have d1 : (m0 == p0) = false := beq_eq_false_iff_ne.2 h0
        have t1 : (m0 != p0) = true := by simpa using h0
        have u1 : decide (m0 = p0) = false := by simpa using h0
        clear h0
        go_wp2_with fail
        refine wp_region_after (by kernel_rfl) (by kernel_rfl) ?_
        intro hne hac
        repeat (go_big_quiet_step (fail))
        refine wpQuiet_nil ?_
        rintro _ ⟨p, rfl⟩
        have hbq := HB.out.trans (p.bel.mono HB.out.size)
        generalize p.w = wq at *
        clear hac hne
        go_wp2_with fail
        go_ret
        refine ⟨?_, hbq⟩
        have : eqB (xs.map plTold) (ys.map plTold) = false := by
          rw [eqB_false]
          intro h
          have h3 := HX.out.1
          rw [h, HX.out.2] at h3
          have h4 := (Option.some.inj h3).symm
          simp only [Prod.mk.injEq] at h4
          exact HD.out h4.1
        rw [this]; rfl
    · have hkn : k = n := by omega
      subst hkn
      go_wp2_with fail
      go_ret
      refine ⟨?_, hbel⟩
      have : xs.map plTold = ys.map plTold := by
        apply List.ext_getElem?
        intro j
        by_cases hj : j < k
        · exact HQ.out j hj
        · rw [List.getElem?_eq_none (by have := HN.out; simp; omega), List.getElem?_eq_none (by have := HN.out; simp; omega)]
      rw [eqB_true.2 this]; rfl
set_option maxHeartbeats 400000 in
theorem spec_ToldSame_len (a1 a2 : Option Addr) (n1 c1 n2 c2 : Nat) (w : World) (h1 : n1 ≤ 1048576) (h2 : n2 ≤ 1048576) (hne : n1 ≠ n2) :
    Calls Try.prog 24 #[.slice a1 n1 c1, .slice a2 n2 c2] w fun e w' => e = .returned (.bool false) ∧ w' = w := by
  have hd : ((n1 : Int) != (n2 : Int)) = true := by rw [bne_iff_ne]; omega
  clear hne
  go_enter Try.func24, Try.ntmps24
  go_wp2
  go_ret
  exact ⟨rfl, rfl⟩
set_option maxHeartbeats 400000 in
theorem spec_ToldSame_empty (a1 a2 : Option Addr) (c1 c2 : Nat) (w : World) :
    Calls Try.prog 24 #[.slice a1 0 c1, .slice a2 0 c2] w fun e w' => e = .returned (.bool true) ∧ w' = w := by
  go_enter Try.func24, Try.ntmps24
  go_wp2
  refine wp_loop_rounds 1 ?_
  rw [rounds_succ]
  go_wp2
  go_ret
  exact ⟨rfl, rfl⟩
theorem spec_ToldSame (v1 v2 : Value) (xs ys : List (Int × (Value × List Int) × Int)) (w : World) (h1 : AtTold w v1 xs) (h2 : AtTold w v2 ys) (hb1 : FewTold xs) (hb2 : FewTold ys) :
    Calls Try.prog 24 #[v1, v2] w fun e w' => e = .returned (.bool (eqB (xs.map plTold) (ys.map plTold))) ∧ Below w.heap.size w w' := by
  obtain ⟨h1, i1⟩ := h1
  obtain ⟨h2, i2⟩ := h2
  by_cases hl : xs.length = ys.length
  · rcases h1 with ⟨rfl, a1, c1, rfl⟩ | ⟨p1, b1, o1, c1, rfl, l1, e1⟩
    · have hm : ys = [] := List.length_eq_zero_iff.1 (by simpa using hl.symm)
      subst hm
      obtain ⟨a2, c2, rfl⟩ := h2.len
      exact (spec_ToldSame_empty a1 a2 c1 c2 w).mono (fun e w' h => ⟨by rw [h.1, eqB_true.2 rfl], by rw [h.2]; exact Below.refl _ _⟩)
    · rcases h2 with ⟨rfl, a2, c2, rfl⟩ | ⟨p2, b2, o2, c2, rfl, l2, e2⟩
      · simp at hl; subst hl; simp at p1
      · rw [← hl]
        exact spec_ToldSame_some b1 o1 c1 b2 o2 c2 xs ys w hl hb1 hb2 l1 l2 i1 i2 e1 e2
  · have hf : eqB (xs.map plTold) (ys.map plTold) = false := by rw [eqB_false]; intro h; exact hl (by simpa using congrArg List.length h)
    rw [hf]
    obtain ⟨a1, c1, rfl⟩ := h1.len
    obtain ⟨a2, c2, rfl⟩ := h2.len
    exact (spec_ToldSame_len a1 a2 _ c1 _ c2 w hb1.1 hb2.1 hl).mono (fun e w' h => ⟨h.1, by rw [h.2]; exact Below.refl _ _⟩)
set_option maxHeartbeats 4000000 in
theorem equalFuncToldS_some (b1 o1 c1 b2 o2 c2 : Nat) (xs ys : List (Int × (Value × List Int) × Int)) (w : World) (hlen : xs.length = ys.length) (hf1 : FewTold xs) (hf2 : FewTold ys) (hb1 : b1 < w.heap.size) (hb2 : b2 < w.heap.size) (hi1 : ∀ x ∈ xs, RowAt 1 encI w x.2.1.1 x.2.1.2) (hi2 : ∀ x ∈ ys, RowAt 1 encI w x.2.1.1 x.2.1.2)
    (h1 : ∀ j x, xs[j]? = some x → ∀ i u, (encTold x)[i]? = some u → w.cell? ⟨b1, o1 + j * 3 + i, none⟩ = some u) (h2 : ∀ j x, ys[j]? = some x → ∀ i u, (encTold x)[i]? = some u → w.cell? ⟨b2, o2 + j * 3 + i, none⟩ = some u) :
    Calls Try.prog 59 #[.slice (some ⟨b1, o1, none⟩) xs.length c1, .slice (some ⟨b2, o2, none⟩) xs.length c2, .func (.func 60) #[] #[]] w fun e w' => e = .returned (.bool (eqB (xs.map plTold) (ys.map plTold))) ∧ Below w.heap.size w w' := by
  have H1 : Hid (∀ j x, xs[j]? = some x → ∀ i u, (encTold x)[i]? = some u → w.cell? ⟨b1, o1 + j * 3 + i, none⟩ = some u) := h1
  have H2 : Hid (∀ j x, ys[j]? = some x → ∀ i u, (encTold x)[i]? = some u → w.cell? ⟨b2, o2 + j * 3 + i, none⟩ = some u) := h2
  have HI1 : Hid (∀ x ∈ xs, RowAt 1 encI w x.2.1.1 x.2.1.2 ∧ x.2.1.2.length ≤ 1048576) := fun x hx => ⟨hi1 x hx, hf1.2 x hx⟩
  have HI2 : Hid (∀ x ∈ ys, RowAt 1 encI w x.2.1.1 x.2.1.2 ∧ x.2.1.2.length ≤ 1048576) := fun x hx => ⟨hi2 x hx, hf2.2 x hx⟩
  have hl := hf1.1
  clear h1 h2 hi1 hi2 hf1 hf2
  obtain ⟨n, hn⟩ : ∃ n, n = xs.length := ⟨_, rfl⟩
  have HN : Hid (n = xs.length ∧ n = ys.length) := ⟨hn, by omega⟩
  rw [← hn] at hl ⊢
  clear hn hlen
  go_enter Try.func59, Try.ntmps59
  go_wp2_with fail
  go_loopw [17] (fun i wr => ∃ k : Nat, k ≤ n ∧ i = .int .i64 k ∧ Below w.heap.size w wr ∧ ∀ j, j < k → (xs.map plTold)[j]? = (ys.map plTold)[j]?) (fun i _ => n - (intOf i).toNat)
  case atStart => exact ⟨0, by omega, rfl, Below.refl _ _, fun j hj => by omega⟩
  case round =>
    obtain ⟨k, hk, rfl, hbel, hq⟩ := hrel
    have HQ : Hid (∀ j, j < k → (xs.map plTold)[j]? = (ys.map plTold)[j]?) := hq
    clear hq
    by_cases hlt : k < n
    · obtain ⟨⟨m0, ⟨mv, ml⟩, m2⟩, hx⟩ : ∃ x, xs[k]? = some x := ⟨_, List.getElem?_eq_getElem (by rw [← HN.out.1]; exact hlt)⟩
      obtain ⟨⟨p0, ⟨pv, pl⟩, p2⟩, hy⟩ : ∃ x, ys[k]? = some x := ⟨_, List.getElem?_eq_getElem (by rw [← HN.out.2]; exact hlt)⟩
      obtain ⟨hr1, hml⟩ := HI1.out _ (List.mem_of_getElem? hx)
      obtain ⟨hr2, hpl⟩ := HI2.out _ (List.mem_of_getElem? hy)
      simp only at hr1 hml hr2 hpl
      obtain ⟨ma, mc, rfl⟩ := hr1.len
      obtain ⟨pa, pc, rfl⟩ := hr2.len
      obtain ⟨mn, hmn⟩ : ∃ t, t = ml.length := ⟨_, rfl⟩
      obtain ⟨pn, hpn⟩ : ∃ t, t = pl.length := ⟨_, rfl⟩
      rw [← hmn] at hr1 hx
      rw [← hpn] at hr2 hy
      have HRA : Hid (∀ w', Below wr.heap.size wr w' → RowAt 1 encI w' (.slice ma mn mc) ml) := fun w' h => (hr1.keep hbel).keep h
      have HRB : Hid (∀ w', Below wr.heap.size wr w' → RowAt 1 encI w' (.slice pa pn pc) pl) := fun w' h => (hr2.keep hbel).keep h
      have e0 : wr.cell? ⟨b1, o1 + k * 3, none⟩ = some (.int .i64 m0) := by rw [hbel.cell (p := ⟨b1, _, none⟩) hb1]; exact H1.out k _ hx 0 _ rfl
      have e1 : wr.cell? ⟨b1, o1 + k * 3 + 1, none⟩ = some (.slice ma mn mc) := by rw [hbel.cell (p := ⟨b1, _, none⟩) hb1]; exact H1.out k _ hx 1 _ rfl
      have e2 : wr.cell? ⟨b1, o1 + k * 3 + 2, none⟩ = some (.int .i64 m2) := by rw [hbel.cell (p := ⟨b1, _, none⟩) hb1]; exact H1.out k _ hx 2 _ rfl
      have f0 : wr.cell? ⟨b2, o2 + k * 3, none⟩ = some (.int .i64 p0) := by rw [hbel.cell (p := ⟨b2, _, none⟩) hb2]; exact H2.out k _ hy 0 _ rfl
      have f1 : wr.cell? ⟨b2, o2 + k * 3 + 1, none⟩ = some (.slice pa pn pc) := by rw [hbel.cell (p := ⟨b2, _, none⟩) hb2]; exact H2.out k _ hy 1 _ rfl
      have f2 : wr.cell? ⟨b2, o2 + k * 3 + 2, none⟩ = some (.int .i64 p2) := by rw [hbel.cell (p := ⟨b2, _, none⟩) hb2]; exact H2.out k _ hy 2 _ rfl
      have HX : Hid ((xs.map plTold)[k]? = some (m0, ml, m2) ∧ (ys.map plTold)[k]? = some (p0, pl, p2)) := ⟨by rw [List.getElem?_map, hx]; rfl, by rw [List.getElem?_map, hy]; rfl⟩
      have hq1 : b1 < wr.heap.size := Nat.lt_of_lt_of_le hb1 hbel.size
      have hq2 : b2 < wr.heap.size := Nat.lt_of_lt_of_le hb2 hbel.size
      have k0 : (0 : Int) ≤ (k : Int) := by omega
      have k1 : (k : Int) < (n : Int) := by omega
      have HB : Hid (Below w.heap.size w wr) := hbel
      have HML : Hid (ml.length ≤ 1048576 ∧ pl.length ≤ 1048576) := ⟨hml, hpl⟩
      clear hx hy hbel hr1 hr2 hmn hpn hml hpl
      go_wp2_with fail
      refine (impl_toldOnce m0 m2 p0 p2 _ _ ml pl _ (HRA.out _ (by go_grown)) (HRB.out _ (by go_grown)) HML.out.1 HML.out.2).mono ?_
      rintro e w1 ⟨rfl, b1⟩
      have HB1 : Hid (Below w.heap.size w w1) := HB.out.trans ((Below.trans (by go_grown) (b1.mono (by simp; omega))).mono HB.out.size)
      clear b1
      cases hd : eqB (m0, ml, m2) (p0, pl, p2)
      · go_wp2_with fail
        go_ret
        refine ⟨?_, HB1.out⟩
        have : eqB (xs.map plTold) (ys.map plTold) = false := by
          rw [eqB_false] at hd ⊢
          intro h
          apply hd
          have h3 := HX.out.1
          rw [h, HX.out.2] at h3
          exact (Option.some.inj h3).symm
        rw [this]; rfl
      · go_wp2_with fail
        go_roundw
        case rel =>
          refine ⟨k + 1, by omega, by go_num, HB1.out, fun j hj => ?_⟩
          rcases Nat.lt_succ_iff_lt_or_eq.1 hj with h | rfl
          · exact HQ.out j h
          · rw [HX.out.1, HX.out.2, eqB_true.1 hd]
        case measure => simp [intOf]; omega
    · have hkn : k = n := by omega
      subst hkn
      go_wp2_with fail
      go_ret
      refine ⟨?_, hbel⟩
      have : xs.map plTold = ys.map plTold := by
        apply List.ext_getElem?
        intro j
        by_cases hj : j < k
        · exact HQ.out j hj
        · rw [List.getElem?_eq_none (by have := HN.out; simp; omega), List.getElem?_eq_none (by have := HN.out; simp; omega)]
      rw [eqB_true.2 this]; rfl
set_option maxHeartbeats 400000 in
theorem equalFuncToldS_len (a1 a2 : Option Addr) (n1 c1 n2 c2 : Nat) (w : World) (h1 : n1 ≤ 1048576) (h2 : n2 ≤ 1048576) (hne : n1 ≠ n2) :
    Calls Try.prog 59 #[.slice a1 n1 c1, .slice a2 n2 c2, .func (.func 60) #[] #[]] w fun e w' => e = .returned (.bool false) ∧ w' = w := by
  have hd : ((n1 : Int) != (n2 : Int)) = true := by rw [bne_iff_ne]; omega
  clear hne
  go_enter Try.func59, Try.ntmps59
  go_wp2
  go_ret
  exact ⟨rfl, rfl⟩
set_option maxHeartbeats 400000 in
theorem equalFuncToldS_empty (a1 a2 : Option Addr) (c1 c2 : Nat) (w : World) :
    Calls Try.prog 59 #[.slice a1 0 c1, .slice a2 0 c2, .func (.func 60) #[] #[]] w fun e w' => e = .returned (.bool true) ∧ w' = w := by
  go_enter Try.func59, Try.ntmps59
  go_wp2
  refine wp_loop_rounds 1 ?_
  rw [rounds_succ]
  go_wp2
  go_ret
  exact ⟨rfl, rfl⟩
theorem equalFuncToldS (v1 v2 : Value) (xs ys : List (Int × (Value × List Int) × Int)) (w : World) (h1 : AtTold w v1 xs) (h2 : AtTold w v2 ys) (hb1 : FewTold xs) (hb2 : FewTold ys) :
    Calls Try.prog 59 #[v1, v2, .func (.func 60) #[] #[]] w fun e w' => e = .returned (.bool (eqB (xs.map plTold) (ys.map plTold))) ∧ Below w.heap.size w w' := by
  obtain ⟨h1, i1⟩ := h1
  obtain ⟨h2, i2⟩ := h2
  by_cases hl : xs.length = ys.length
  · rcases h1 with ⟨rfl, a1, c1, rfl⟩ | ⟨p1, b1, o1, c1, rfl, l1, e1⟩
    · have hm : ys = [] := List.length_eq_zero_iff.1 (by simpa using hl.symm)
      subst hm
      obtain ⟨a2, c2, rfl⟩ := h2.len
      exact (equalFuncToldS_empty a1 a2 c1 c2 w).mono (fun e w' h => ⟨by rw [h.1, eqB_true.2 rfl], by rw [h.2]; exact Below.refl _ _⟩)
    · rcases h2 with ⟨rfl, a2, c2, rfl⟩ | ⟨p2, b2, o2, c2, rfl, l2, e2⟩
      · simp at hl; subst hl; simp at p1
      · rw [← hl]
        exact equalFuncToldS_some b1 o1 c1 b2 o2 c2 xs ys w hl hb1 hb2 l1 l2 i1 i2 e1 e2
  · have hf : eqB (xs.map plTold) (ys.map plTold) = false := by rw [eqB_false]; intro h; exact hl (by simpa using congrArg List.length h)
    rw [hf]
    obtain ⟨a1, c1, rfl⟩ := h1.len
    obtain ⟨a2, c2, rfl⟩ := h2.len
    exact (equalFuncToldS_len a1 a2 _ c1 _ c2 w hb1.1 hb2.1 hl).mono (fun e w' h => ⟨h.1, by rw [h.2]; exact Below.refl _ _⟩)
theorem impl_ToldSame (v1 v2 : Value) (xs ys : List (Int × (Value × List Int) × Int)) (w : World) (h1 : AtTold w v1 xs) (h2 : AtTold w v2 ys) (hb1 : FewTold xs) (hb2 : FewTold ys) :
    Calls Try.prog 26 #[v1, v2] w fun e w' => e = .returned (.bool (eqB (xs.map plTold) (ys.map plTold))) ∧ Below w.heap.size w w' := by
  go_enter Try.func26, Try.ntmps26
  go_wp2_with fail
  refine (equalFuncToldS _ _ xs ys _ h1 h2 hb1 hb2).mono ?_
  rintro e w1 ⟨rfl, bel⟩
  go_wp2_with fail
  go_ret
  exact ⟨rfl, bel⟩
end Go.Proofs.Ytnhacflknkgfgaa.Lab

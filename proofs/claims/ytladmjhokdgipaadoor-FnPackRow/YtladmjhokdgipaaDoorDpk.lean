/-
  What is drawn of numbers as bytes: bounded; a code is only read.
-/
import Derived.Test.YtladmjhokdgipaaDoorDrn
import Derived.Test.YtladmjhokdgipaaDoorPck
import Derived.Test.YtladmjhokdgipaaDoorIts
namespace Go.Proofs.YtladmjhokdgipaaDoor.Lab
open Go.RowKit
set_option linter.unusedVariables false
set_option maxHeartbeats 400000 in
theorem drawPackNum (a : Option Addr) (len cap : Nat) (zs : List Int) (w : World) (h : CodeAt w a len cap zs) :
    Calls Tryd.prog 7 #[.slice a len cap] w fun e w' => ∃ x, e = .returned (.int .i64 x) ∧ (Lit.int .i64 x).wf = true ∧ Below w.heap.size w w' := by
  go_enter Tryd.func7, Tryd.ntmps7
  go_wp2_with fail
  refine (l9Open a len cap zs _ h).mono ?_
  rintro e w1 ⟨rfl, ⟨n, hr⟩, hb⟩
  go_wp2_with fail
  refine (num_lit _ _ _ _ _ _ _ [0, 1, 127, 128, 129, 255, 300, 16383, 16384, -1, 9223372036854775807] _ hr (by omega) (by decide) (by decide) (by simp)).mono ?_
  rintro e w2 ⟨x, hx, rfl, hr2, hg2⟩
  have hw : (Lit.int .i64 x).wf = true := by
    simp at hx
    rcases hx with rfl | rfl | rfl | rfl | rfl | rfl | rfl | rfl | rfl | rfl | rfl <;> decide
  have HB : Hid (Below w.heap.size w w2 ∧ (Lit.int .i64 x).wf = true) := ⟨hb.trans (below_of_grown hg2 hb.size), hw⟩
  clear h hr hb hr2 hg2 hx hw
  go_wp2_with fail
  go_ret
  exact ⟨x, rfl, HB.out.2, HB.out.1⟩
theorem own_put {w : World} {base n j : Nat} {v : Value} {xs : List Int} (u : Int) (h : w.ownsRow base 3 1 v n (xs.flatMap encI)) (hn : n = xs.length) (hj : j < n) : ∃ g cap cur, v = .slice (some ⟨g, 0, none⟩) n cap ∧ w.heap[g]? = some (.cells cur 3 (0, 0)) ∧ base ≤ g ∧ j < cur.size ∧ (w.setCell ⟨g, j, none⟩ (.int .i64 u)).ownsRow base 3 1 v (xs.set j u).length ((xs.set j u).flatMap encI) := by
  subst hn
  obtain ⟨h1, ⟨h2, h3⟩ | ⟨g, cap, cur, rfl, hb, hg, hc, hm, hs, ht⟩⟩ := h
  · omega
  · refine ⟨g, cap, cur, rfl, hg, hb, by omega, ⟨by rw [flat_len encI_len], .inr ⟨g, cap, _, by rw [List.length_set], hb, set_block _ hg, by rw [List.length_set]; exact hc, hm, by simp [hs], ?_⟩⟩⟩
    rw [flatI] at ht ⊢
    rw [Array.toList_setIfInBounds, List.length_set, Nat.mul_one]
    rw [Nat.mul_one] at ht
    rw [List.map_set, ← ht, List.take_set]
set_option maxHeartbeats 4000000 in
theorem l4List (B len cap : Nat) (a : Option Addr) (zs : List Int) (pos : Int) (w : World) (h : RdAt w B a len cap zs pos) (hp : pos ≤ 100000000) :
    Calls Tryd.prog 24 #[.pointer (some ⟨B, 0, none⟩)] w fun e w' => ∃ (v : Value) (xs : List Int) (q : Int), e = .returned v ∧ w'.ownsRow w.heap.size 3 1 v xs.length (xs.flatMap encI) ∧ xs.length ≤ 5 ∧ q ≤ pos + 9 ∧ RdAt w' B a len cap zs q ∧ w.grownBy w' (some B) := by
  obtain ⟨i0, hi, hz0, hz1, hz2⟩ := info_parts Tryd.infoI
  have hB := h.lt
  have own0 : (w.alloc (.cells #[] 3)).ownsRow w.heap.size 3 1 (.slice (some ⟨w.heap.size, 0, none⟩) 0 0) 0 [] :=
    ⟨by simp, .inr ⟨w.heap.size, 0, #[], rfl, Nat.le_refl _, new_block _ _, Nat.le_refl _, by unfold maxLen; omega, by simp, by simp⟩⟩
  have h0 := h.alloc (.cells #[] 3)
  go_enter Tryd.func24, Tryd.ntmps24
  go_wp2_with fail
  refine (pick B len cap a zs pos _ _ h0 (by omega) (by omega) (by omega)).mono ?_
  rintro e w1 ⟨x, rfl, x0, x1, hr1, hg1⟩
  obtain ⟨c, rfl⟩ := Int.eq_ofNat_of_zero_le x0
  have HS : Hid (RdAt w1 B a len cap zs (pos + 1) ∧ w.grownBy w1 (some B) ∧ w1.ownsRow w.heap.size 3 1 (.slice (some ⟨w.heap.size, 0, none⟩) 0 0) 0 []) :=
    ⟨hr1, grownBy_trans (World.grownBy_alloc _ _ _) hg1, own_gr own0 hg1 (fun k h1 h2 => by simp [Value.ownBlock] at h1; cases h2; omega)⟩
  clear h h0 own0 hr1 hg1
  go_wp2_with fail
  go_loopw [3, 4, 5] (fun q3 q4 q5 wr => ∃ (i : Nat) (xs : List Int) (y q : Int), q5 = .int .i64 i ∧ i ≤ c ∧ q4 = .int .i64 y ∧ xs.length = c - i ∧ -1 ≤ y ∧ y ≤ 1000 * (c - i) ∧ q ≤ pos + 1 + (c - i) ∧ RdAt wr B a len cap zs q ∧ w.grownBy wr (some B) ∧ wr.ownsRow w.heap.size 3 1 q3 xs.length (xs.flatMap encI)) (fun _ _ q5 _ => (intOf q5).toNat)
  case atStart => exact ⟨c, [], -1, pos + 1, rfl, Nat.le_refl _, rfl, by simp, by omega, by omega, by omega, HS.out.1, HS.out.2.1, HS.out.2.2⟩
  case round =>
    obtain ⟨i, xs, y, q, rfl, hic, rfl, hxl, y0, y1, hq, hr, hg, hown⟩ := hrel
    have HXL : Hid (xs.length = c - i) := hxl
    have hx5 : xs.length ≤ 5 := by omega
    clear hxl HS
    obtain ⟨xa, xc, rfl⟩ := own_form hown
    have hsz := hg.size
    have hBr := hr.lt
    by_cases hi0 : 0 < i
    · have LT : Hid (∀ z, (Value.slice xa xs.length xc).ownBlock = some z → w.heap.size ≤ z) := fun z hz => (hown.lt z hz).1
      have HG : Hid (w.grownBy wr (some B)) := hg
      have HO : Hid (wr.ownsRow w.heap.size 3 1 (.slice xa xs.length xc) xs.length (xs.flatMap encI)) := hown
      clear hg hown
      go_wp2_with fail
      refine (num_lit B _ len cap a zs q [0, 1, 5, 63, 126, 127, 128, 200] _ hr (by omega) (by decide) (by decide) rfl).mono ?_
      rintro e w2 ⟨v, hv, rfl, hr2, hg2⟩
      have hvb : 0 ≤ v ∧ v ≤ 200 := by simp at hv; omega
      have own2 : w2.ownsRow w.heap.size 3 1 (.slice xa xs.length xc) xs.length (xs.flatMap encI) := own_gr HO.out hg2 (fun k h1 h2 => by have := LT.out k h1; cases h2; omega)
      have HG2 : Hid (w.grownBy w2 (some B)) := grownBy_trans HG.out hg2
      have HR2 : Hid (RdAt w2 B a len cap zs (q + 1)) := hr2
      have s2 : w.heap.size ≤ w2.heap.size := HG2.out.size
      clear hv hr hr2 hg2 HG HO
      go_wp2_with (at_builtin; refine wpList_append_own _ rfl _ _ 30 rfl w.heap.size 3 i0 _ 1 8 Tryd.underlying30 hi hz0 hz1 hz2 rfl (by decide) _ _ _ rfl (own2.alloc _) ⟨w2.heap.size, 0, none⟩ 1 1 [.int .i64 (y + 1 + v)] rfl rfl ?c1 ?c2 ?c3 ?c4 ?c5 ?_)
      case c1 =>
        intro k u hu
        match k, hu with
        | 0, hu => simp at hu; subst hu; simp [Addr.add]
      case c2 => intro u hu; simp at hu; subst hu; rfl
      case c3 => unfold maxLen; omega
      case c4 => omega
      case c5 => simp; omega
      · intro v' w3 hown' hgrow _
        have gr3 : w.grownBy w3 (some B) := by
          have ga := grownBy_trans HG2.out (World.grownBy_alloc w2 (.cells #[.int .i64 (y + 1 + v)] 3) (some B))
          exact ⟨hgrow.os.trans ga.os, hgrow.tape.trans ga.tape, hgrow.output.trans ga.output, Nat.le_trans ga.size hgrow.size, fun k hk hne => (hgrow.block k (Nat.lt_of_lt_of_le hk ga.size) (fun e => by have := LT.out k e.symm; omega)).trans (ga.block k hk hne)⟩
        have rd3 : RdAt w3 B a len cap zs (q + 1) := by
          have b3 : Below w.heap.size (w2.alloc (.cells #[.int .i64 (y + 1 + v)] 3)) w3 := (Below.refl _ _).grown hgrow (by simp; omega) (fun z hz => LT.out z hz)
          exact (HR2.out.alloc _).below b3 hB
        have R : Hid (RdAt w3 B a len cap zs (q + 1) ∧ w.grownBy w3 (some B) ∧ w3.ownsRow w.heap.size 3 1 v' (xs ++ [y + 1 + v]).length ((xs ++ [y + 1 + v]).flatMap encI)) := ⟨rd3, gr3, by simpa [List.flatMap_append, encI] using hown'⟩
        clear hown' hgrow gr3 rd3 own2
        go_wp2_with fail
        go_roundw
        case rel =>
          have := HXL.out
          exact ⟨i - 1, xs ++ [y + 1 + v], y + 1 + v, q + 1, by go_num, by omega, rfl, by simp; omega, by omega, by omega, by omega, R.out⟩
        case measure => simp [intOf]; omega
    · have : i = 0 := by omega
      subst this
      have hqq : q ≤ pos + 6 := by omega
      by_cases hx0 : xs.length = 0
      · obtain rfl := List.length_eq_zero_iff.1 hx0
        have HR : Hid (RdAt wr B a len cap zs q ∧ w.grownBy wr (some B) ∧ wr.ownsRow w.heap.size 3 1 (.slice xa 0 xc) 0 []) := ⟨hr, hg, hown⟩
        clear hr hg hown
        go_wp2_with fail
        go_ret
        exact ⟨_, [], q, rfl, HR.out.2.2, by simp, by omega, HR.out.1, HR.out.2.1⟩
      · have hxi : (0 : Int) < (xs.length : Int) := by omega
        have LT : Hid (∀ z, (Value.slice xa xs.length xc).ownBlock = some z → w.heap.size ≤ z) := fun z hz => (hown.lt z hz).1
        have HG : Hid (w.grownBy wr (some B)) := hg
        have HO : Hid (wr.ownsRow w.heap.size 3 1 (.slice xa xs.length xc) xs.length (xs.flatMap encI)) := hown
        clear hg hown
        go_wp2_with fail
        refine (pick B len cap a zs q _ _ hr (by omega) (by omega) (by omega)).mono ?_
        rintro e w2 ⟨z, rfl, z0, z1, hr2, hg2⟩
        have own2 : w2.ownsRow w.heap.size 3 1 (.slice xa xs.length xc) xs.length (xs.flatMap encI) := own_gr HO.out hg2 (fun k h1 h2 => by have := LT.out k h1; cases h2; omega)
        have HG2 : Hid (w.grownBy w2 (some B)) := grownBy_trans HG.out hg2
        clear hr hg2 HG HO
        by_cases hz : z = 0
        · subst hz
          have HO2 : Hid (w2.ownsRow w.heap.size 3 1 (.slice xa xs.length xc) xs.length (xs.flatMap encI)) := own2
          clear own2
          go_wp2_with fail
          refine (pick B len cap a zs (q + 1) _ _ hr2 (by omega) (by omega) (by omega)).mono ?_
          rintro e w3 ⟨j', rfl, j0, j1, hr3, hg3⟩
          obtain ⟨j, rfl⟩ := Int.eq_ofNat_of_zero_le j0
          have own3 : w3.ownsRow w.heap.size 3 1 (.slice xa xs.length xc) xs.length (xs.flatMap encI) := own_gr HO2.out hg3 (fun k h1 h2 => by have := LT.out k h1; cases h2; omega)
          have HG3 : Hid (w.grownBy w3 (some B)) := grownBy_trans HG2.out hg3
          have HO3 : Hid (w3.ownsRow w.heap.size 3 1 (.slice xa xs.length xc) xs.length (xs.flatMap encI)) := own3
          clear hr2 hg3 HG2 HO2 own3
          go_wp2_with fail
          refine (num_lit B _ len cap a zs (q + 1 + 1) [-1, 16383, 16384, 0] _ hr3 (by omega) (by decide) (by decide) rfl).mono ?_
          rintro e w4 ⟨v, hv, rfl, hr4, hg4⟩
          have own4 : w4.ownsRow w.heap.size 3 1 (.slice xa xs.length xc) xs.length (xs.flatMap encI) := own_gr HO3.out hg4 (fun k h1 h2 => by have := LT.out k h1; cases h2; omega)
          obtain ⟨g, cp, cur, hv4, hb4, hg0, hj4, own5⟩ := own_put (j := j) v own4 rfl (by omega)
          simp only [Value.slice.injEq] at hv4
          obtain ⟨rfl, -, rfl⟩ := hv4
          have c4 : ∃ y, w4.cell? ⟨g, j, none⟩ = some y := by rw [cell_block hb4]; exact ⟨_, Array.getElem?_eq_getElem hj4⟩
          obtain ⟨y4, c4⟩ := c4
          have f4 : w4.frozen? ⟨g, j, none⟩ = false := free_block hb4
          have jl : (j : Int) < (xs.length : Int) := by omega
          have R : Hid (RdAt (w4.setCell ⟨g, j, none⟩ (.int .i64 v)) B a len cap zs (q + 1 + 1 + 1) ∧ w.grownBy (w4.setCell ⟨g, j, none⟩ (.int .i64 v)) (some B) ∧ (w4.setCell ⟨g, j, none⟩ (.int .i64 v)).ownsRow w.heap.size 3 1 (.slice (some ⟨g, 0, none⟩) xs.length xc) (xs.set j v).length ((xs.set j v).flatMap encI)) :=
            ⟨hr4.set (by simp; omega) _, grownBy_setNew (grownBy_trans HG3.out hg4) (by simp; omega) _, own5⟩
          clear hr3 hr4 hg4 own4 own5 hb4 HO3 HG3 hv
          go_wp2_with fail
          go_ret
          exact ⟨_, xs.set j v, _, rfl, R.out.2.2, by simp; omega, by omega, R.out.1, R.out.2.1⟩
        · have hzb : (z == 0) = false := by simpa using hz
          have R : Hid (RdAt w2 B a len cap zs (q + 1) ∧ w.grownBy w2 (some B) ∧ w2.ownsRow w.heap.size 3 1 (.slice xa xs.length xc) xs.length (xs.flatMap encI)) := ⟨hr2, HG2.out, own2⟩
          clear hr2 own2 hz
          go_wp2_with fail
          go_ret
          exact ⟨_, xs, _, rfl, R.out.2.2, hx5, by omega, R.out.1, R.out.2.1⟩
set_option maxHeartbeats 400000 in
theorem drawPackRow (a : Option Addr) (len cap : Nat) (zs : List Int) (w : World) (h : CodeAt w a len cap zs) :
    Calls Tryd.prog 13 #[.slice a len cap] w fun e w' => ∃ (v : Value) (xs : List Int), e = .returned v ∧ w'.ownsRow w.heap.size 3 1 v xs.length (xs.flatMap encI) ∧ xs.length ≤ 5 ∧ Below w.heap.size w w' := by
  go_enter Tryd.func13, Tryd.ntmps13
  go_wp2_with fail
  refine (l9Open a len cap zs _ h).mono ?_
  rintro e w1 ⟨rfl, ⟨n, hr⟩, hb⟩
  go_wp2_with fail
  refine (l4List _ _ _ _ _ _ _ hr (by omega)).mono ?_
  rintro e w2 ⟨v, xs, q, rfl, ho, hl, _, hr2, hg2⟩
  have HB : Hid (Below w.heap.size w w2 ∧ w2.ownsRow w.heap.size 3 1 v xs.length (xs.flatMap encI)) := ⟨hb.trans (below_of_grown hg2 hb.size), own_mono ho hb.size⟩
  clear h hr hb hr2 hg2 ho
  obtain ⟨xa, xc, rfl⟩ := own_form HB.out.2
  go_wp2_with fail
  go_ret
  exact ⟨_, xs, rfl, HB.out.2, hl, HB.out.1⟩
end Go.Proofs.YtladmjhokdgipaaDoor.Lab

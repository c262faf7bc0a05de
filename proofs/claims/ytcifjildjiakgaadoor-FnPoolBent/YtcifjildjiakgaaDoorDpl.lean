/-
  What is drawn of pools: rows of pages, pools; bounded, in rows of their own; a code is only read.
-/
import Derived.Test.YtcifjildjiakgaaDoorDrn
import Derived.Test.YtcifjildjiakgaaDoorPol
import Derived.Test.YtcifjildjiakgaaDoorSal
namespace Go.Proofs.YtcifjildjiakgaaDoor.Lab
open Go.RowKit
set_option linter.unusedVariables false
theorem own_grD {w w' : World} {base e size : Nat} {v : Value} {n : Nat} {xs : List Value} {r : Option Nat} (h : w.ownsRow base e size v n xs) (hg : w.grownBy w' r) (hne : ∀ k, v.ownBlock = some k → r ≠ some k) : w'.ownsRow base e size v n xs := by
  refine h.kept hg ?_
  cases hv : v.ownBlock with
  | none => exact .inl rfl
  | some k => exact .inr (fun e => hne k hv e.symm)
set_option maxHeartbeats 400000 in
theorem l5Page (B len cap : Nat) (a : Option Addr) (zs : List Int) (pos : Int) (w : World) (h : RdAt w B a len cap zs pos) (hp : pos ≤ 100000000) :
    Calls Tryd.prog 20 #[.pointer (some ⟨B, 0, none⟩)] w fun e w' => ∃ x y, e = .returned (.agg #[.int .i64 x, .int .i64 y]) ∧ pageB x y = true ∧ RdAt w' B a len cap zs (pos + 2) ∧ w.grownBy w' (some B) := by
  have hB := h.lt
  have h0 := h.alloc (.cells #[.int .i64 0, .int .i64 0] 41)
  go_enter Tryd.func20, Tryd.ntmps20
  go_wp2_with fail
  refine (pick B len cap a zs pos _ _ h0 (by omega) (by omega) (by omega)).mono ?_
  rintro e w1 ⟨l, rfl, l0, l1, hr1, hg1⟩
  go_wp2_with fail
  refine (pick B len cap a zs (pos + 1) _ _ hr1 (by omega) (by omega) (by omega)).mono ?_
  rintro e w2 ⟨n, rfl, n0, n1, hr2, hg2⟩
  have hok : pageB l n = true := by
    have hl : l = 0 ∨ l = 1 ∨ l = 2 := by omega
    have hn : n = 0 ∨ n = 1 ∨ n = 2 ∨ n = 3 := by omega
    rcases hl with rfl | rfl | rfl <;> rcases hn with rfl | rfl | rfl | rfl <;> decide
  have hg := grownBy_trans hg1 hg2
  have hf := grownBy_froz hg hB
  have hc := grownBy_cells hg hB
  have HR : Hid (RdAt w2 B a len cap zs (pos + 1 + 1) ∧ w.grownBy w2 (some B) ∧ pageB l n = true) := ⟨hr2, grownBy_trans (World.grownBy_alloc _ _ _) hg, hok⟩
  clear hr1 hg1 hr2 hg2 hg hok h h0
  go_wp2_with fail
  refine bodyPost_ret (v := .agg #[.int .i64 l, .int .i64 n]) (by simp [*, results, Tryd.results20, go_sem]) rfl ?_
  obtain ⟨k1, k2, k3⟩ := HR.out
  have e2 : pos + 1 + 1 = pos + 2 := by omega
  rw [e2] at k1
  exact ⟨l, n, rfl, k3, (k1.set (by simpa using hB) _).set (by simpa using hB) _, grownBy_setNew (grownBy_setNew k2 (by simp) _) (by simp) _⟩
theorem own_put2 {w : World} {base n : Nat} {v : Value} {xs : List (Int × Int)} (x y : Int) (h : w.ownsRow base 41 2 v n (xs.flatMap encPage)) (hn : n = xs.length) (hj : 0 < n) : ∃ g cap cur, v = .slice (some ⟨g, 0, none⟩) n cap ∧ w.heap[g]? = some (.cells cur 41 (0, 0)) ∧ base ≤ g ∧ 1 < cur.size ∧ ((w.setCell ⟨g, 0, none⟩ (.int .i64 x)).setCell ⟨g, 1, none⟩ (.int .i64 y)).ownsRow base 41 2 v (xs.set 0 (x, y)).length ((xs.set 0 (x, y)).flatMap encPage) := by
  subst hn
  obtain ⟨h1, ⟨h2, h3⟩ | ⟨g, cap, cur, rfl, hb, hg, hc, hm, hs, ht⟩⟩ := h
  · omega
  · refine ⟨g, cap, cur, rfl, hg, hb, by omega, ⟨by rw [flat_len encPage_len], .inr ⟨g, cap, _, by rw [List.length_set], hb, set_block _ (set_block _ hg), by rw [List.length_set]; exact hc, hm, by simp [hs], ?_⟩⟩⟩
    cases xs with
    | nil => simp at hj
    | cons z zs =>
      obtain ⟨c⟩ := cur
      match c with
      | [] => simp at hs; omega
      | [_] => simp at hs; omega
      | p :: q :: c =>
        simp only [List.length_cons, List.flatMap_cons, encPage, List.cons_append, List.nil_append, List.set_cons_zero] at ht ⊢
        have e2 : (zs.length + 1) * 2 = zs.length * 2 + 1 + 1 := by omega
        rw [e2] at ht ⊢
        simp at ht ⊢
        exact ht.2.2
set_option maxHeartbeats 4000000 in
theorem l5Pages (B len cap : Nat) (a : Option Addr) (zs : List Int) (pos : Int) (w : World) (h : RdAt w B a len cap zs pos) (hp : pos ≤ 10000000) :
    Calls Tryd.prog 12 #[.pointer (some ⟨B, 0, none⟩)] w fun e w' => ∃ (v : Value) (xs : List (Int × Int)) (q : Int), e = .returned v ∧ OwnPool w' w.heap.size v xs ∧ xs.length ≤ 24 ∧ q ≤ pos + 60 ∧ RdAt w' B a len cap zs q ∧ w.grownBy w' (some B) := by
  obtain ⟨i0, hi, hz0, hz1, hz2⟩ := info_parts Tryd.infoPage
  have hB := h.lt
  have own0 : (w.alloc (.cells #[] 41)).ownsRow w.heap.size 41 2 (.slice (some ⟨w.heap.size, 0, none⟩) 0 0) 0 [] :=
    ⟨by simp, .inr ⟨w.heap.size, 0, #[], rfl, Nat.le_refl _, new_block _ _, Nat.le_refl _, by unfold maxLen; omega, by simp, by simp⟩⟩
  have h0 := h.alloc (.cells #[] 41)
  go_enter Tryd.func12, Tryd.ntmps12
  go_wp2_with fail
  refine (pick B len cap a zs pos _ _ h0 (by omega) (by omega) (by omega)).mono ?_
  rintro e w1 ⟨x, rfl, x0, x1, hr1, hg1⟩
  obtain ⟨c, rfl⟩ := Int.eq_ofNat_of_zero_le x0
  have HS : Hid (RdAt w1 B a len cap zs (pos + 1) ∧ w.grownBy w1 (some B) ∧ w1.ownsRow w.heap.size 41 2 (.slice (some ⟨w.heap.size, 0, none⟩) 0 0) 0 []) :=
    ⟨hr1, grownBy_trans (World.grownBy_alloc _ _ _) hg1, own_grD own0 hg1 (fun k h1 h2 => by simp [Value.ownBlock] at h1; cases h2; omega)⟩
  clear h h0 own0 hr1 hg1
  go_wp2_with fail
  go_loopw [3, 4] (fun q3 q4 wr => ∃ (i : Nat) (xs : List (Int × Int)) (q : Int), q4 = .int .i64 i ∧ i ≤ c ∧ xs.length = c - i ∧ q ≤ pos + 1 + 2 * (c - i) ∧ RdAt wr B a len cap zs q ∧ w.grownBy wr (some B) ∧ wr.ownsRow w.heap.size 41 2 q3 xs.length (xs.flatMap encPage)) (fun _ q4 _ => (intOf q4).toNat)
  case atStart => exact ⟨c, [], pos + 1, rfl, Nat.le_refl _, by simp, by omega, HS.out.1, HS.out.2.1, HS.out.2.2⟩
  case round =>
    obtain ⟨i, xs, q, rfl, hic, hxl, hq, hr, hg, hown⟩ := hrel
    have HXL : Hid (xs.length = c - i) := hxl
    have hx5 : xs.length ≤ 24 := by omega
    clear hxl HS
    obtain ⟨xa, xc, rfl⟩ := own_form hown
    have hsz := hg.size
    have hBr := hr.lt
    by_cases hi0 : 0 < i
    · have LT : Hid (∀ z, (Value.slice xa xs.length xc).ownBlock = some z → w.heap.size ≤ z) := fun z hz => (hown.lt z hz).1
      have HG : Hid (w.grownBy wr (some B)) := hg
      have HO : Hid (wr.ownsRow w.heap.size 41 2 (.slice xa xs.length xc) xs.length (xs.flatMap encPage)) := hown
      clear hg hown
      go_wp2_with fail
      refine (l5Page B len cap a zs q _ hr (by omega)).mono ?_
      rintro e w2 ⟨x, y, rfl, hxy, hr2, hg2⟩
      have own2 : w2.ownsRow w.heap.size 41 2 (.slice xa xs.length xc) xs.length (xs.flatMap encPage) := own_grD HO.out hg2 (fun k h1 h2 => by have := LT.out k h1; cases h2; omega)
      have HG2 : Hid (w.grownBy w2 (some B)) := grownBy_trans HG.out hg2
      have HR2 : Hid (RdAt w2 B a len cap zs (q + 2)) := hr2
      have s2 : w.heap.size ≤ w2.heap.size := HG2.out.size
      clear hr hr2 hg2 HG HO
      go_wp2_with (at_builtin; refine wpList_append_own _ rfl _ _ 23 rfl w.heap.size 41 i0 _ 2 16 Tryd.underlying23 hi hz0 hz1 hz2 rfl (by decide) _ _ _ rfl (own2.alloc _) ⟨w2.heap.size, 0, none⟩ 1 1 [.int .i64 x, .int .i64 y] rfl rfl ?c1 ?c2 ?c3 ?c4 ?c5 ?_)
      case c1 =>
        intro k u hu
        match k, hu with
        | 0, hu => simp at hu; subst hu; simp [Addr.add]
        | 1, hu => simp at hu; subst hu; simp [Addr.add]
      case c2 => intro u hu; simp at hu; rcases hu with rfl | rfl <;> rfl
      case c3 => unfold maxLen; omega
      case c4 => omega
      case c5 => simp; omega
      · intro v' w3 hown' hgrow _
        have gr3 : w.grownBy w3 (some B) := by
          have ga := grownBy_trans HG2.out (World.grownBy_alloc w2 (.cells #[.int .i64 x, .int .i64 y] 41) (some B))
          exact ⟨hgrow.os.trans ga.os, hgrow.tape.trans ga.tape, hgrow.output.trans ga.output, Nat.le_trans ga.size hgrow.size, fun k hk hne => (hgrow.block k (Nat.lt_of_lt_of_le hk ga.size) (fun e => by have := LT.out k e.symm; omega)).trans (ga.block k hk hne)⟩
        have rd3 : RdAt w3 B a len cap zs (q + 2) := by
          have b3 : Below w.heap.size (w2.alloc (.cells #[.int .i64 x, .int .i64 y] 41)) w3 := (Below.refl _ _).grown hgrow (by simp; omega) (fun z hz => LT.out z hz)
          exact (HR2.out.alloc _).below b3 hB
        have R : Hid (RdAt w3 B a len cap zs (q + 2) ∧ w.grownBy w3 (some B) ∧ w3.ownsRow w.heap.size 41 2 v' (xs ++ [(x, y)]).length ((xs ++ [(x, y)]).flatMap encPage)) := ⟨rd3, gr3, by simpa [List.flatMap_append, encPage] using hown'⟩
        clear hown' hgrow gr3 rd3 own2
        go_wp2_with fail
        go_roundw
        case rel =>
          have := HXL.out
          exact ⟨i - 1, xs ++ [(x, y)], q + 2, by go_num, by omega, by simp; omega, by omega, R.out⟩
        case measure => simp [intOf]; omega
    · have : i = 0 := by omega
      subst this
      have hqq : q ≤ pos + 50 := by omega
      by_cases hx0 : xs.length = 0
      · obtain rfl := List.length_eq_zero_iff.1 hx0
        have HR : Hid (RdAt wr B a len cap zs q ∧ w.grownBy wr (some B) ∧ wr.ownsRow w.heap.size 41 2 (.slice xa 0 xc) 0 []) := ⟨hr, hg, hown⟩
        clear hr hg hown
        go_wp2_with fail
        go_ret
        exact ⟨_, [], q, rfl, HR.out.2.2, by simp, by omega, HR.out.1, HR.out.2.1⟩
      · have hxi : (0 : Int) < (xs.length : Int) := by omega
        have LT : Hid (∀ z, (Value.slice xa xs.length xc).ownBlock = some z → w.heap.size ≤ z) := fun z hz => (hown.lt z hz).1
        have HG : Hid (w.grownBy wr (some B)) := hg
        have HO : Hid (wr.ownsRow w.heap.size 41 2 (.slice xa xs.length xc) xs.length (xs.flatMap encPage)) := hown
        clear hg hown
        go_wp2_with fail
        refine (pick B len cap a zs q _ _ hr (by omega) (by omega) (by omega)).mono ?_
        rintro e w2 ⟨z, rfl, z0, z1, hr2, hg2⟩
        have own2 : w2.ownsRow w.heap.size 41 2 (.slice xa xs.length xc) xs.length (xs.flatMap encPage) := own_grD HO.out hg2 (fun k h1 h2 => by have := LT.out k h1; cases h2; omega)
        have HG2 : Hid (w.grownBy w2 (some B)) := grownBy_trans HG.out hg2
        clear hr hg2 HG HO
        by_cases hz : z = 0
        · subst hz
          have HO2 : Hid (w2.ownsRow w.heap.size 41 2 (.slice xa xs.length xc) xs.length (xs.flatMap encPage)) := own2
          clear own2
          go_wp2_with fail
          refine (num_lit B _ len cap a zs (q + 1) [8, -1, 0] _ hr2 (by omega) (by decide) (by decide) rfl).mono ?_
          rintro e w3 ⟨v3, hv3, rfl, hr3, hg3⟩
          have own3 : w3.ownsRow w.heap.size 41 2 (.slice xa xs.length xc) xs.length (xs.flatMap encPage) := own_grD HO2.out hg3 (fun k h1 h2 => by have := LT.out k h1; cases h2; omega)
          have HG3 : Hid (w.grownBy w3 (some B)) := grownBy_trans HG2.out hg3
          have HO3 : Hid (w3.ownsRow w.heap.size 41 2 (.slice xa xs.length xc) xs.length (xs.flatMap encPage)) := own3
          clear hr2 hg3 HG2 HO2 own3 hv3
          go_wp2_with fail
          refine (num_lit B _ len cap a zs (q + 1 + 1) [-1, 1000, 999] _ hr3 (by omega) (by decide) (by decide) rfl).mono ?_
          rintro e w4 ⟨v, hv, rfl, hr4, hg4⟩
          have own4 : w4.ownsRow w.heap.size 41 2 (.slice xa xs.length xc) xs.length (xs.flatMap encPage) := own_grD HO3.out hg4 (fun k h1 h2 => by have := LT.out k h1; cases h2; omega)
          obtain ⟨g, cp, cur, hv4, hb4, hg0, hj4, own5⟩ := own_put2 v3 v own4 rfl (by omega)
          simp only [Value.slice.injEq] at hv4
          obtain ⟨rfl, -, rfl⟩ := hv4
          have c40 : ∃ y, w4.cell? ⟨g, 0, none⟩ = some y := by rw [cell_block hb4]; exact ⟨_, Array.getElem?_eq_getElem (by omega)⟩
          have c41 : ∃ y, w4.cell? ⟨g, 1, none⟩ = some y := by rw [cell_block hb4]; exact ⟨_, Array.getElem?_eq_getElem hj4⟩
          obtain ⟨y40, c40⟩ := c40
          obtain ⟨y41, c41⟩ := c41
          have f4 : ∀ i, w4.frozen? ⟨g, i, none⟩ = false := fun i => free_block hb4
          have R : Hid (RdAt ((w4.setCell ⟨g, 0, none⟩ (.int .i64 v3)).setCell ⟨g, 1, none⟩ (.int .i64 v)) B a len cap zs (q + 1 + 1 + 1) ∧ w.grownBy ((w4.setCell ⟨g, 0, none⟩ (.int .i64 v3)).setCell ⟨g, 1, none⟩ (.int .i64 v)) (some B) ∧ ((w4.setCell ⟨g, 0, none⟩ (.int .i64 v3)).setCell ⟨g, 1, none⟩ (.int .i64 v)).ownsRow w.heap.size 41 2 (.slice (some ⟨g, 0, none⟩) xs.length xc) (xs.set 0 (v3, v)).length ((xs.set 0 (v3, v)).flatMap encPage)) :=
            ⟨(hr4.set (by simp; omega) _).set (by simp; omega) _, grownBy_setNew (grownBy_setNew (grownBy_trans HG3.out hg4) (by simp; omega) _) (by simp; omega) _, own5⟩
          clear hr3 hr4 hg4 own4 own5 hb4 HO3 HG3 hv
          go_wp2_with fail
          go_ret
          exact ⟨_, xs.set 0 (v3, v), _, rfl, R.out.2.2, by simp; omega, by omega, R.out.1, R.out.2.1⟩
        · have hzb : (z == 0) = false := by simpa using hz
          have R : Hid (RdAt w2 B a len cap zs (q + 1) ∧ w.grownBy w2 (some B) ∧ w2.ownsRow w.heap.size 41 2 (.slice xa xs.length xc) xs.length (xs.flatMap encPage)) := ⟨hr2, HG2.out, own2⟩
          clear hr2 own2 hz
          go_wp2_with fail
          go_ret
          exact ⟨_, xs, _, rfl, R.out.2.2, hx5, by omega, R.out.1, R.out.2.1⟩
end Go.Proofs.YtcifjildjiakgaaDoor.Lab

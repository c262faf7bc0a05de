/-
  WorldPurge of both.
-/
import Derived.Test.YtchphdhjbjeplaaDoorEvs
import Derived.Test.YtchphdhjbjeplaaDoorPer
import Derived.Test.YtchphdhjbjeplaaDoorOpl
import Derived.Test.YtchphdhjbjeplaaDoorApp
import Derived.Deep.RegionHeld3
import Derived.Deep.DrawnRows
import Derived.Deep.DeepCutAuto
namespace Go.Proofs.YtchphdhjbjeplaaDoor.Lab
open Go.RowKit
set_option linter.unusedVariables false
abbrev Evt := Int × Int × Int × Int × Int × Int × Int × Int × Int × Int × Int × Int × Int
/-- Something is of one who sees no more than c. -/
def lowB (xs : List (Int × Int × Int)) (who c : Int) : Bool := decide (0 ≤ who) && (decide (who < xs.length) && underB ((xs[who.toNat]?).getD (0, 0, 0)).1 c)
def opB (x : Evt) (c : Int) : Bool := underB (opI x.2.2.1 x.2.2.2.1 x.2.2.2.2.1 x.2.2.2.2.2.1 x.2.2.2.2.2.2.1 x.2.2.2.2.2.2.2.1 x.2.2.2.2.2.2.2.2.1 x.2.2.2.2.2.2.2.2.2.1) c
def purgeB (xs : List (Int × Int × Int)) (c : Int) (x : Evt) : Bool := lowB xs x.2.1 c || (decide (x.1 = 1) && opB x c)
def purged (xs : List (Int × Int × Int)) (c : Int) (es : List Evt) : List Evt := es.filter (purgeB xs c)
theorem purged_le (xs : List (Int × Int × Int)) (c : Int) (es : List Evt) : (purged xs c es).length ≤ es.length := List.length_filter_le _ _
theorem purged_in {xs : List (Int × Int × Int)} {c : Int} {es : List Evt} {k : Nat} {x : Evt} (h : es[k]? = some x) (hu : purgeB xs c x = true) : purged xs c (es.take (k + 1)) = purged xs c (es.take k) ++ [x] := by
  unfold purged
  rw [List.take_add_one, h, List.filter_append]
  simp [hu]
theorem purged_out {xs : List (Int × Int × Int)} {c : Int} {es : List Evt} {k : Nat} {x : Evt} (h : es[k]? = some x) (hu : purgeB xs c x = false) : purged xs c (es.take (k + 1)) = purged xs c (es.take k) := by
  unfold purged
  rw [List.take_add_one, h, List.filter_append]
  simp [hu]
set_option maxRecDepth 8000 in
set_option maxHeartbeats 4000000 in
theorem impl_ofOneUnder (v : Value) (xs : List (Int × Int × Int)) (m0 m1 m2 m3 m4 m5 m6 m7 m8 m9 m10 m11 m12 c : Int) (w : World) (h : RowAt 3 encPerson w v xs) (hl : xs.length ≤ 1048576) :
    Calls Tryd.prog 20 #[v, .agg #[.int .i64 m0, .int .i64 m1, .int .i64 m2, .int .i64 m3, .int .i64 m4, .int .i64 m5, .int .i64 m6, .int .i64 m7, .int .i64 m8, .int .i64 m9, .int .i64 m10, .int .i64 m11, .int .i64 m12], .int .i64 c] w fun e w' => e = .returned (.bool (lowB xs m1 c)) ∧ Below w.heap.size w w' := by
  obtain ⟨a, cap, rfl⟩ := h.len
  obtain ⟨n, hn⟩ : ∃ n, n = xs.length := ⟨_, rfl⟩
  unfold lowB
  by_cases h0 : 0 ≤ m1
  · by_cases h1 : m1 < (xs.length : Int)
    · obtain ⟨k, rfl⟩ := Int.eq_ofNat_of_zero_le h0
      have hk : k < n := by omega
      rcases h with ⟨hz, _⟩ | ⟨_, b1, o1, q1, hv1, hb1, E1⟩
      · rw [hz] at h1; simp at h1; omega
      obtain rfl : a = some ⟨b1, o1, none⟩ := by injection hv1
      obtain ⟨⟨p0, p1, p2⟩, hx⟩ : ∃ x, xs[k]? = some x := ⟨_, List.getElem?_eq_getElem (by omega)⟩
      have e0 : w.cell? ⟨b1, o1 + k * 3, none⟩ = some (.int .i64 p0) := E1 k _ hx 0 _ rfl
      have HV : Hid (xs[((k : Int)).toNat]?.getD (0, 0, 0) = (p0, p1, p2)) := by show xs[((k : Int)).toNat]?.getD (0, 0, 0) = (p0, p1, p2); simp [hx]
      have HD : Hid (decide ((0 : Int) ≤ (k : Int)) = true ∧ decide ((k : Int) < (xs.length : Int)) = true) := ⟨by simp, by simpa using h1⟩
      rw [HV.out, HD.out.1, HD.out.2]
      rw [← hn]
      clear hx E1 hv1 HV HD h1 hn hl
      have k1 : (k : Int) < (n : Int) := by omega
      go_enter Tryd.func20, Tryd.ntmps20
      go_wp2_with (go_at_call 21; refine use (impl_LabelUnder _ _ _) ?_)
      go_ret
      exact ⟨by simp, (Below.refl _ _).alloc (Nat.le_refl _) _⟩
    · have HD : Hid (decide ((m1 : Int) < (xs.length : Int)) = false) := by show decide _ = false; simpa using h1
      rw [HD.out, ← hn]
      have h2 : ¬ m1 < (n : Int) := by omega
      clear h1 HD h hn hl
      go_enter Tryd.func20, Tryd.ntmps20
      go_wp2_with fail
      go_ret
      exact ⟨by simp, (Below.refl _ _).alloc (Nat.le_refl _) _⟩
  · have HD : Hid (decide ((0 : Int) ≤ m1) = false) := by show decide _ = false; simpa using h0
    rw [HD.out, ← hn]
    clear HD h hn hl
    go_enter Tryd.func20, Tryd.ntmps20
    go_wp2_with fail
    go_ret
    exact ⟨by simp, (Below.refl _ _).alloc (Nat.le_refl _) _⟩
set_option maxRecDepth 8000 in
set_option maxHeartbeats 4000000 in
theorem spec_l7Low (v : Value) (xs : List (Int × Int × Int)) (m0 m1 m2 m3 m4 m5 m6 m7 m8 m9 m10 m11 m12 c : Int) (w : World) (h : RowAt 3 encPerson w v xs) (hl : xs.length ≤ 1048576) :
    Calls Tryd.prog 15 #[v, .agg #[.int .i64 m0, .int .i64 m1, .int .i64 m2, .int .i64 m3, .int .i64 m4, .int .i64 m5, .int .i64 m6, .int .i64 m7, .int .i64 m8, .int .i64 m9, .int .i64 m10, .int .i64 m11, .int .i64 m12], .int .i64 c] w fun e w' => e = .returned (.bool (lowB xs m1 c)) ∧ Below w.heap.size w w' := by
  obtain ⟨a, cap, rfl⟩ := h.len
  obtain ⟨n, hn⟩ : ∃ n, n = xs.length := ⟨_, rfl⟩
  unfold lowB
  by_cases h0 : 0 ≤ m1
  · by_cases h1 : m1 < (xs.length : Int)
    · obtain ⟨k, rfl⟩ := Int.eq_ofNat_of_zero_le h0
      have hk : k < n := by omega
      rcases h with ⟨hz, _⟩ | ⟨_, b1, o1, q1, hv1, hb1, E1⟩
      · rw [hz] at h1; simp at h1; omega
      obtain rfl : a = some ⟨b1, o1, none⟩ := by injection hv1
      obtain ⟨⟨p0, p1, p2⟩, hx⟩ : ∃ x, xs[k]? = some x := ⟨_, List.getElem?_eq_getElem (by omega)⟩
      have e0 : w.cell? ⟨b1, o1 + k * 3, none⟩ = some (.int .i64 p0) := E1 k _ hx 0 _ rfl
      have HV : Hid (xs[((k : Int)).toNat]?.getD (0, 0, 0) = (p0, p1, p2)) := by show xs[((k : Int)).toNat]?.getD (0, 0, 0) = (p0, p1, p2); simp [hx]
      have HD : Hid (decide ((0 : Int) ≤ (k : Int)) = true ∧ decide ((k : Int) < (xs.length : Int)) = true) := ⟨by simp, by simpa using h1⟩
      rw [HV.out, HD.out.1, HD.out.2]
      rw [← hn]
      clear hx E1 hv1 HV HD h1 hn hl
      have k1 : (k : Int) < (n : Int) := by omega
      go_enter Tryd.func15, Tryd.ntmps15
      go_wp2_with (go_at_call 16; refine use (spec_LabelUnder _ _ _) ?_)
      go_ret
      exact ⟨by simp, (Below.refl _ _).alloc (Nat.le_refl _) _⟩
    · have HD : Hid (decide ((m1 : Int) < (xs.length : Int)) = false) := by show decide _ = false; simpa using h1
      rw [HD.out, ← hn]
      have h2 : ¬ m1 < (n : Int) := by omega
      clear h1 HD h hn hl
      go_enter Tryd.func15, Tryd.ntmps15
      go_wp2_with fail
      go_ret
      exact ⟨by simp, (Below.refl _ _).alloc (Nat.le_refl _) _⟩
  · have HD : Hid (decide ((0 : Int) ≤ m1) = false) := by show decide _ = false; simpa using h0
    rw [HD.out, ← hn]
    clear HD h hn hl
    go_enter Tryd.func15, Tryd.ntmps15
    go_wp2_with fail
    go_ret
    exact ⟨by simp, (Below.refl _ _).alloc (Nat.le_refl _) _⟩
theorem encEv_one (x : Evt) : ∀ u ∈ encEv x, u.oneCell' = true := fun u hu => by
  simp [encEv] at hu
  rcases hu with rfl | rfl | rfl | rfl | rfl | rfl | rfl | rfl | rfl | rfl | rfl | rfl | rfl <;> rfl
theorem new_rowE (w : World) (x : Evt) (t : TypeId) : RowAt 13 encEv (w.alloc (.cells (encEv x).toArray t)) (.slice (some ⟨w.heap.size, 0, none⟩) 1 1) [x] := by
  refine .inr ⟨by simp, w.heap.size, 0, 1, rfl, by simp, fun j y hy i u hu => ?_⟩
  match j, hy with
  | 0, hy =>
    simp at hy
    subst hy
    rw [cell_block (new_block w _)]
    simpa using hu
set_option maxRecDepth 10000 in
set_option maxHeartbeats 20000000 in
theorem impl_WorldPurge (vp v : Value) (xs : List (Int × Int × Int)) (es : List Evt) (c : Int) (E : Value) (w : World) (hp : RowAt 3 encPerson w vp xs) (h : RowAt 13 encEv w v es) (hpl : xs.length ≤ 1048576) (hl : es.length ≤ 1048576) (hE : w.cell? ⟨0, 0, none⟩ = some E) (hE0 : 0 < w.heap.size) (hE1 : ∃ t v, E = .iface t v) :
    Calls Tryd.prog 9 #[vp, v, .int .i64 c] w fun e w' => ∃ u, e = .returned u ∧ w'.ownsRow w.heap.size 46 13 u (purged xs c es).length ((purged xs c es).flatMap encEv) ∧ Below w.heap.size w w' := by
  obtain ⟨pa, pc, rfl⟩ := hp.len
  obtain ⟨a, cap, rfl⟩ := h.len
  obtain ⟨i0, hi, hz0, hz1, hz2⟩ := info_parts Tryd.infoEv
  have H : Hid (RowAt 13 encEv w (.slice a es.length cap) es) := h
  have HP : Hid (RowAt 3 encPerson w (.slice pa xs.length pc) xs) := hp
  have HPL : Hid (xs.length ≤ 1048576) := hpl
  clear h hp hpl
  obtain ⟨n, hn⟩ : ∃ n, n = es.length := ⟨_, rfl⟩
  obtain ⟨np, hnp⟩ : ∃ np, np = xs.length := ⟨_, rfl⟩
  have HN : Hid (n = es.length) := hn
  rw [← hn] at H hl ⊢
  rw [← hnp] at HP ⊢
  clear hn hnp
  have HE : Hid (w.cell? ⟨0, 0, none⟩ = some E) := hE
  have HE1 : Hid (∃ t v, E = .iface t v) := hE1
  clear hE hE1
  go_enter Tryd.func9, Tryd.ntmps9
  go_wp2_with fail
  go_loopw [7, 12] (fun q i wr => ∃ k : Nat, k ≤ n ∧ i = .int .i64 k ∧ Below w.heap.size w wr ∧ wr.ownsRow w.heap.size 46 13 q (purged xs c (es.take k)).length ((purged xs c (es.take k)).flatMap encEv)) (fun _ i _ => n - (intOf i).toNat)
  case atStart => exact ⟨0, by omega, rfl, Below.refl _ _, World.ownsRow_nil _ _ _ _⟩
  case round =>
    obtain ⟨k, hk, rfl, hbel, hown⟩ := hrel
    have hsz := hbel.size
    obtain ⟨xa, xc, rfl⟩ := own_form hown
    by_cases hlt : k < n
    · rcases H.out with ⟨hz, _⟩ | ⟨_, b1, o1, q1, hv1, hb1, E1⟩
      · have := HN.out; rw [hz] at this; simp at this; omega
      obtain rfl : a = some ⟨b1, o1, none⟩ := by injection hv1
      obtain ⟨⟨m0, m1, m2, m3, m4, m5, m6, m7, m8, m9, m10, m11, m12⟩, hx⟩ : ∃ x, es[k]? = some x := ⟨_, List.getElem?_eq_getElem (by rw [← HN.out]; exact hlt)⟩
      have e0 : wr.cell? ⟨b1, o1 + k * 13, none⟩ = some (.int .i64 m0) := by rw [Below.celz hbel _ _ _ hb1]; exact E1 k _ hx 0 _ rfl
      have e1 : wr.cell? ⟨b1, o1 + k * 13 + 1, none⟩ = some (.int .i64 m1) := by rw [Below.celz hbel _ _ _ hb1]; exact E1 k _ hx 1 _ rfl
      have e2 : wr.cell? ⟨b1, o1 + k * 13 + 2, none⟩ = some (.int .i64 m2) := by rw [Below.celz hbel _ _ _ hb1]; exact E1 k _ hx 2 _ rfl
      have e3 : wr.cell? ⟨b1, o1 + k * 13 + 3, none⟩ = some (.int .i64 m3) := by rw [Below.celz hbel _ _ _ hb1]; exact E1 k _ hx 3 _ rfl
      have e4 : wr.cell? ⟨b1, o1 + k * 13 + 4, none⟩ = some (.int .i64 m4) := by rw [Below.celz hbel _ _ _ hb1]; exact E1 k _ hx 4 _ rfl
      have e5 : wr.cell? ⟨b1, o1 + k * 13 + 5, none⟩ = some (.int .i64 m5) := by rw [Below.celz hbel _ _ _ hb1]; exact E1 k _ hx 5 _ rfl
      have e6 : wr.cell? ⟨b1, o1 + k * 13 + 6, none⟩ = some (.int .i64 m6) := by rw [Below.celz hbel _ _ _ hb1]; exact E1 k _ hx 6 _ rfl
      have e7 : wr.cell? ⟨b1, o1 + k * 13 + 7, none⟩ = some (.int .i64 m7) := by rw [Below.celz hbel _ _ _ hb1]; exact E1 k _ hx 7 _ rfl
      have e8 : wr.cell? ⟨b1, o1 + k * 13 + 8, none⟩ = some (.int .i64 m8) := by rw [Below.celz hbel _ _ _ hb1]; exact E1 k _ hx 8 _ rfl
      have e9 : wr.cell? ⟨b1, o1 + k * 13 + 9, none⟩ = some (.int .i64 m9) := by rw [Below.celz hbel _ _ _ hb1]; exact E1 k _ hx 9 _ rfl
      have e10 : wr.cell? ⟨b1, o1 + k * 13 + 10, none⟩ = some (.int .i64 m10) := by rw [Below.celz hbel _ _ _ hb1]; exact E1 k _ hx 10 _ rfl
      have e11 : wr.cell? ⟨b1, o1 + k * 13 + 11, none⟩ = some (.int .i64 m11) := by rw [Below.celz hbel _ _ _ hb1]; exact E1 k _ hx 11 _ rfl
      have e12 : wr.cell? ⟨b1, o1 + k * 13 + 12, none⟩ = some (.int .i64 m12) := by rw [Below.celz hbel _ _ _ hb1]; exact E1 k _ hx 12 _ rfl
      have hle : (purged xs c (es.take k)).length ≤ k := Nat.le_trans (purged_le _ _ _) (by simp; omega)
      have z2 : b1 < wr.heap.size := by omega
      have k0 : (0 : Int) ≤ (k : Int) := by omega
      have k1 : (k : Int) < (n : Int) := by omega
      have HX : Hid (es[k]? = some (m0, m1, m2, m3, m4, m5, m6, m7, m8, m9, m10, m11, m12)) := hx
      have HB : Hid (Below w.heap.size w wr) := hbel
      have HO : Hid (wr.ownsRow w.heap.size 46 13 (.slice xa (purged xs c (es.take k)).length xc) (purged xs c (es.take k)).length ((purged xs c (es.take k)).flatMap encEv)) := hown
      clear hx hbel E1 hv1 hown
      obtain ⟨pl, hpl⟩ : ∃ t, t = (purged xs c (es.take k)).length := ⟨_, rfl⟩
      have HPLEN : Hid ((purged xs c (es.take k)).length = pl) := hpl.symm
      rw [← hpl] at HO hle ⊢
      clear hpl
      obtain ⟨W1, hW1⟩ : ∃ W1, W1 = wr.alloc (.cells #[.int .i64 m0, .int .i64 m1, .int .i64 m2, .int .i64 m3, .int .i64 m4, .int .i64 m5, .int .i64 m6, .int .i64 m7, .int .i64 m8, .int .i64 m9, .int .i64 m10, .int .i64 m11, .int .i64 m12] 46) := ⟨_, rfl⟩
      obtain ⟨Y, hY⟩ : ∃ Y, Y = wr.heap.size := ⟨_, rfl⟩
      have y0 : W1.cell? ⟨Y, 0, none⟩ = some (.int .i64 m0) := by rw [hW1, hY]; simp [go_sem]
      have y1 : W1.cell? ⟨Y, 1, none⟩ = some (.int .i64 m1) := by rw [hW1, hY]; simp [go_sem]
      have y2 : W1.cell? ⟨Y, 2, none⟩ = some (.int .i64 m2) := by rw [hW1, hY]; simp [go_sem]
      have y3 : W1.cell? ⟨Y, 3, none⟩ = some (.int .i64 m3) := by rw [hW1, hY]; simp [go_sem]
      have y4 : W1.cell? ⟨Y, 4, none⟩ = some (.int .i64 m4) := by rw [hW1, hY]; simp [go_sem]
      have y5 : W1.cell? ⟨Y, 5, none⟩ = some (.int .i64 m5) := by rw [hW1, hY]; simp [go_sem]
      have y6 : W1.cell? ⟨Y, 6, none⟩ = some (.int .i64 m6) := by rw [hW1, hY]; simp [go_sem]
      have y7 : W1.cell? ⟨Y, 7, none⟩ = some (.int .i64 m7) := by rw [hW1, hY]; simp [go_sem]
      have y8 : W1.cell? ⟨Y, 8, none⟩ = some (.int .i64 m8) := by rw [hW1, hY]; simp [go_sem]
      have y9 : W1.cell? ⟨Y, 9, none⟩ = some (.int .i64 m9) := by rw [hW1, hY]; simp [go_sem]
      have y10 : W1.cell? ⟨Y, 10, none⟩ = some (.int .i64 m10) := by rw [hW1, hY]; simp [go_sem]
      have y11 : W1.cell? ⟨Y, 11, none⟩ = some (.int .i64 m11) := by rw [hW1, hY]; simp [go_sem]
      have y12 : W1.cell? ⟨Y, 12, none⟩ = some (.int .i64 m12) := by rw [hW1, hY]; simp [go_sem]
      have zY : Y < W1.heap.size := by rw [hW1, hY]; simp
      have HB1 : Hid (Below w.heap.size w W1) := by show Below _ _ _; rw [hW1]; exact HB.out.alloc (by omega) _
      have HO1 : Hid (W1.ownsRow w.heap.size 46 13 (.slice xa pl xc) pl ((purged xs c (es.take k)).flatMap encEv)) := by show W1.ownsRow _ _ _ _ _ _; rw [hW1]; exact HO.out.alloc _
      have HW1 : Hid (W1 = wr.alloc (.cells #[.int .i64 m0, .int .i64 m1, .int .i64 m2, .int .i64 m3, .int .i64 m4, .int .i64 m5, .int .i64 m6, .int .i64 m7, .int .i64 m8, .int .i64 m9, .int .i64 m10, .int .i64 m11, .int .i64 m12] 46) ∧ Y = wr.heap.size) := ⟨hW1, hY⟩
      clear hW1 hY
      go_wp2_with fail
      rw [← HW1.out.1, ← HW1.out.2]
      clear HW1 HB HO e0 e1 e2 e3 e4 e5 e6 e7 e8 e9 e10 e11 e12 z2
      cases hlow : lowB xs m1 c
      · have HLOW : Hid (lowB xs m1 c = false) := hlow
        have hc := impl_ofOneUnder _ xs m0 m1 m2 m3 m4 m5 m6 m7 m8 m9 m10 m11 m12 c _ (HP.out.keep HB1.out) HPL.out
        rw [hlow] at hc
        clear hlow
        refine (hc).mono ?_
        rintro e v1 ⟨rfl, bz⟩
        have g1_0 : v1.cell? ⟨Y, 0, none⟩ = some (.int .i64 m0) := (Below.celz bz _ _ _ zY).trans y0
        have g1_1 : v1.cell? ⟨Y, 1, none⟩ = some (.int .i64 m1) := (Below.celz bz _ _ _ zY).trans y1
        have g1_2 : v1.cell? ⟨Y, 2, none⟩ = some (.int .i64 m2) := (Below.celz bz _ _ _ zY).trans y2
        have g1_3 : v1.cell? ⟨Y, 3, none⟩ = some (.int .i64 m3) := (Below.celz bz _ _ _ zY).trans y3
        have g1_4 : v1.cell? ⟨Y, 4, none⟩ = some (.int .i64 m4) := (Below.celz bz _ _ _ zY).trans y4
        have g1_5 : v1.cell? ⟨Y, 5, none⟩ = some (.int .i64 m5) := (Below.celz bz _ _ _ zY).trans y5
        have g1_6 : v1.cell? ⟨Y, 6, none⟩ = some (.int .i64 m6) := (Below.celz bz _ _ _ zY).trans y6
        have g1_7 : v1.cell? ⟨Y, 7, none⟩ = some (.int .i64 m7) := (Below.celz bz _ _ _ zY).trans y7
        have g1_8 : v1.cell? ⟨Y, 8, none⟩ = some (.int .i64 m8) := (Below.celz bz _ _ _ zY).trans y8
        have g1_9 : v1.cell? ⟨Y, 9, none⟩ = some (.int .i64 m9) := (Below.celz bz _ _ _ zY).trans y9
        have g1_10 : v1.cell? ⟨Y, 10, none⟩ = some (.int .i64 m10) := (Below.celz bz _ _ _ zY).trans y10
        have g1_11 : v1.cell? ⟨Y, 11, none⟩ = some (.int .i64 m11) := (Below.celz bz _ _ _ zY).trans y11
        have g1_12 : v1.cell? ⟨Y, 12, none⟩ = some (.int .i64 m12) := (Below.celz bz _ _ _ zY).trans y12
        have zz1 : Y < v1.heap.size := Nat.lt_of_lt_of_le zY bz.size
        have HB1' : Hid (Below w.heap.size w v1) := HB1.out.trans (bz.mono HB1.out.size)
        have HO1' : Hid (v1.ownsRow w.heap.size 46 13 (.slice xa pl xc) pl ((purged xs c (es.take k)).flatMap encEv)) := own_keep HO1.out bz
        clear bz zY HB1 HO1 y0 y1 y2 y3 y4 y5 y6 y7 y8 y9 y10 y11 y12
        by_cases hk1 : m0 = 1
        · subst hk1
          cases hu : underB (opI m2 m3 m4 m5 m6 m7 m8 m9) c
          · have HU : Hid (underB (opI m2 m3 m4 m5 m6 m7 m8 m9) c = false) := hu
            have lu := impl_LabelUnder (opI m2 m3 m4 m5 m6 m7 m8 m9) c
            rw [hu] at lu
            have LU : Hid (∀ w, Calls Tryd.prog 21 #[.int .i64 (opI m2 m3 m4 m5 m6 m7 m8 m9), .int .i64 c] w fun e w' => e = .returned (.bool false) ∧ w' = w) := lu
            clear lu hu
            go_wp2_with fail
            refine (impl_OpLabel m2 m3 m4 m5 m6 m7 m8 m9 E _ (by rw [Below.celz HB1'.out _ _ _ hE0]; exact HE.out) (Nat.lt_of_lt_of_le hE0 HB1'.out.size) HE1.out).mono ?_
            rintro e v2 ⟨rfl, bz⟩
            have g2_0 : v2.cell? ⟨Y, 0, none⟩ = some (.int .i64 1) := (Below.celz bz _ _ _ zz1).trans g1_0
            have g2_1 : v2.cell? ⟨Y, 1, none⟩ = some (.int .i64 m1) := (Below.celz bz _ _ _ zz1).trans g1_1
            have g2_2 : v2.cell? ⟨Y, 2, none⟩ = some (.int .i64 m2) := (Below.celz bz _ _ _ zz1).trans g1_2
            have g2_3 : v2.cell? ⟨Y, 3, none⟩ = some (.int .i64 m3) := (Below.celz bz _ _ _ zz1).trans g1_3
            have g2_4 : v2.cell? ⟨Y, 4, none⟩ = some (.int .i64 m4) := (Below.celz bz _ _ _ zz1).trans g1_4
            have g2_5 : v2.cell? ⟨Y, 5, none⟩ = some (.int .i64 m5) := (Below.celz bz _ _ _ zz1).trans g1_5
            have g2_6 : v2.cell? ⟨Y, 6, none⟩ = some (.int .i64 m6) := (Below.celz bz _ _ _ zz1).trans g1_6
            have g2_7 : v2.cell? ⟨Y, 7, none⟩ = some (.int .i64 m7) := (Below.celz bz _ _ _ zz1).trans g1_7
            have g2_8 : v2.cell? ⟨Y, 8, none⟩ = some (.int .i64 m8) := (Below.celz bz _ _ _ zz1).trans g1_8
            have g2_9 : v2.cell? ⟨Y, 9, none⟩ = some (.int .i64 m9) := (Below.celz bz _ _ _ zz1).trans g1_9
            have g2_10 : v2.cell? ⟨Y, 10, none⟩ = some (.int .i64 m10) := (Below.celz bz _ _ _ zz1).trans g1_10
            have g2_11 : v2.cell? ⟨Y, 11, none⟩ = some (.int .i64 m11) := (Below.celz bz _ _ _ zz1).trans g1_11
            have g2_12 : v2.cell? ⟨Y, 12, none⟩ = some (.int .i64 m12) := (Below.celz bz _ _ _ zz1).trans g1_12
            have zz2 : Y < v2.heap.size := Nat.lt_of_lt_of_le zz1 bz.size
            have HB2' : Hid (Below w.heap.size w v2) := HB1'.out.trans (bz.mono HB1'.out.size)
            have HO2' : Hid (v2.ownsRow w.heap.size 46 13 (.slice xa pl xc) pl ((purged xs c (es.take k)).flatMap encEv)) := own_keep HO1'.out bz
            clear bz zz1 HB1' HO1' g1_0 g1_1 g1_2 g1_3 g1_4 g1_5 g1_6 g1_7 g1_8 g1_9 g1_10 g1_11 g1_12
            go_wp2_with fail
            refine use (LU.out _) ?_
            go_wp2_with fail
            have HV : Hid (purged xs c (es.take (k + 1)) = purged xs c (es.take k)) := purged_out HX.out (by simp [purgeB, opB, HLOW.out, HU.out])
            go_roundw
            case rel => exact ⟨k + 1, by omega, by go_num, HB2'.out, by rw [HV.out]; exact (by have := HO2'.out; have hq := HPLEN.out; rw [← hq] at this; simpa [hq] using this)⟩
            case measure => simp [intOf]; omega
          · have HU : Hid (underB (opI m2 m3 m4 m5 m6 m7 m8 m9) c = true) := hu
            have lu := impl_LabelUnder (opI m2 m3 m4 m5 m6 m7 m8 m9) c
            rw [hu] at lu
            have LU : Hid (∀ w, Calls Tryd.prog 21 #[.int .i64 (opI m2 m3 m4 m5 m6 m7 m8 m9), .int .i64 c] w fun e w' => e = .returned (.bool true) ∧ w' = w) := lu
            clear lu hu
            go_wp2_with fail
            refine (impl_OpLabel m2 m3 m4 m5 m6 m7 m8 m9 E _ (by rw [Below.celz HB1'.out _ _ _ hE0]; exact HE.out) (Nat.lt_of_lt_of_le hE0 HB1'.out.size) HE1.out).mono ?_
            rintro e v2 ⟨rfl, bz⟩
            have g2_0 : v2.cell? ⟨Y, 0, none⟩ = some (.int .i64 1) := (Below.celz bz _ _ _ zz1).trans g1_0
            have g2_1 : v2.cell? ⟨Y, 1, none⟩ = some (.int .i64 m1) := (Below.celz bz _ _ _ zz1).trans g1_1
            have g2_2 : v2.cell? ⟨Y, 2, none⟩ = some (.int .i64 m2) := (Below.celz bz _ _ _ zz1).trans g1_2
            have g2_3 : v2.cell? ⟨Y, 3, none⟩ = some (.int .i64 m3) := (Below.celz bz _ _ _ zz1).trans g1_3
            have g2_4 : v2.cell? ⟨Y, 4, none⟩ = some (.int .i64 m4) := (Below.celz bz _ _ _ zz1).trans g1_4
            have g2_5 : v2.cell? ⟨Y, 5, none⟩ = some (.int .i64 m5) := (Below.celz bz _ _ _ zz1).trans g1_5
            have g2_6 : v2.cell? ⟨Y, 6, none⟩ = some (.int .i64 m6) := (Below.celz bz _ _ _ zz1).trans g1_6
            have g2_7 : v2.cell? ⟨Y, 7, none⟩ = some (.int .i64 m7) := (Below.celz bz _ _ _ zz1).trans g1_7
            have g2_8 : v2.cell? ⟨Y, 8, none⟩ = some (.int .i64 m8) := (Below.celz bz _ _ _ zz1).trans g1_8
            have g2_9 : v2.cell? ⟨Y, 9, none⟩ = some (.int .i64 m9) := (Below.celz bz _ _ _ zz1).trans g1_9
            have g2_10 : v2.cell? ⟨Y, 10, none⟩ = some (.int .i64 m10) := (Below.celz bz _ _ _ zz1).trans g1_10
            have g2_11 : v2.cell? ⟨Y, 11, none⟩ = some (.int .i64 m11) := (Below.celz bz _ _ _ zz1).trans g1_11
            have g2_12 : v2.cell? ⟨Y, 12, none⟩ = some (.int .i64 m12) := (Below.celz bz _ _ _ zz1).trans g1_12
            have zz2 : Y < v2.heap.size := Nat.lt_of_lt_of_le zz1 bz.size
            have HB2' : Hid (Below w.heap.size w v2) := HB1'.out.trans (bz.mono HB1'.out.size)
            have HO2' : Hid (v2.ownsRow w.heap.size 46 13 (.slice xa pl xc) pl ((purged xs c (es.take k)).flatMap encEv)) := own_keep HO1'.out bz
            clear bz zz1 HB1' HO1' g1_0 g1_1 g1_2 g1_3 g1_4 g1_5 g1_6 g1_7 g1_8 g1_9 g1_10 g1_11 g1_12
            go_wp2_with fail
            refine use (LU.out _) ?_
            have HV : Hid (purged xs c (es.take (k + 1)) = purged xs c (es.take k) ++ [(1, m1, m2, m3, m4, m5, m6, m7, m8, m9, m10, m11, m12)]) := purged_in HX.out (by simp [purgeB, opB, HLOW.out, HU.out])
            go_wp2_with (at_builtin; go_must (refine wpList_appRow encEv_len (by decide) encEv_one rfl _ _ 26 rfl Tryd.underlying26 hi hz0 hz1 hz2 rfl w.heap.size (.slice xa pl xc) pl _ (.slice (some ⟨v2.heap.size, 0, none⟩) 1 1) [(1, m1, m2, m3, m4, m5, m6, m7, m8, m9, m10, m11, m12)] rfl rfl (HO2'.out.alloc _) (new_rowE _ _ 46) (by unfold maxLen; simp; omega) (by simp; omega) (by have := HB2'.out.size; simp; omega) ?_))
            intro v' w3 hown' hgrow _
            have LT : Hid (∀ g, (Value.slice xa pl xc).ownBlock = some g → w.heap.size ≤ g) := fun g hg => (HO2'.out.lt g hg).1
            have R : Hid (Below w.heap.size w w3 ∧ w3.ownsRow w.heap.size 46 13 v' (purged xs c (es.take (k + 1))).length ((purged xs c (es.take (k + 1))).flatMap encEv)) := by
              refine ⟨(HB2'.out.alloc HB2'.out.size _).grown hgrow (by have := HB2'.out.size; simp; omega) LT.out, ?_⟩
              rw [HV.out, List.length_append, HPLEN.out, List.flatMap_append]
              simpa using hown'
            clear hown' hgrow
            go_wp2_with fail
            go_roundw
            case rel => exact ⟨k + 1, by omega, by go_num, R.out⟩
            case measure => simp [intOf]; omega
        · have HK : Hid (¬ m0 = 1) := hk1
          have d0 : (m0 == 1) = false := beq_eq_false_iff_ne.2 hk1
          go_wp2_with fail
          have HV : Hid (purged xs c (es.take (k + 1)) = purged xs c (es.take k)) := purged_out HX.out (by simp [purgeB, opB, HLOW.out, HK.out])
          go_roundw
          case rel => exact ⟨k + 1, by omega, by go_num, HB1'.out, by rw [HV.out]; exact (by have := HO1'.out; have hq := HPLEN.out; rw [← hq] at this; simpa [hq] using this)⟩
          case measure => simp [intOf]; omega
      · have HLOW : Hid (lowB xs m1 c = true) := hlow
        have hc := impl_ofOneUnder _ xs m0 m1 m2 m3 m4 m5 m6 m7 m8 m9 m10 m11 m12 c _ (HP.out.keep HB1.out) HPL.out
        rw [hlow] at hc
        clear hlow
        refine (hc).mono ?_
        rintro e v1 ⟨rfl, bz⟩
        have g1_0 : v1.cell? ⟨Y, 0, none⟩ = some (.int .i64 m0) := (Below.celz bz _ _ _ zY).trans y0
        have g1_1 : v1.cell? ⟨Y, 1, none⟩ = some (.int .i64 m1) := (Below.celz bz _ _ _ zY).trans y1
        have g1_2 : v1.cell? ⟨Y, 2, none⟩ = some (.int .i64 m2) := (Below.celz bz _ _ _ zY).trans y2
        have g1_3 : v1.cell? ⟨Y, 3, none⟩ = some (.int .i64 m3) := (Below.celz bz _ _ _ zY).trans y3
        have g1_4 : v1.cell? ⟨Y, 4, none⟩ = some (.int .i64 m4) := (Below.celz bz _ _ _ zY).trans y4
        have g1_5 : v1.cell? ⟨Y, 5, none⟩ = some (.int .i64 m5) := (Below.celz bz _ _ _ zY).trans y5
        have g1_6 : v1.cell? ⟨Y, 6, none⟩ = some (.int .i64 m6) := (Below.celz bz _ _ _ zY).trans y6
        have g1_7 : v1.cell? ⟨Y, 7, none⟩ = some (.int .i64 m7) := (Below.celz bz _ _ _ zY).trans y7
        have g1_8 : v1.cell? ⟨Y, 8, none⟩ = some (.int .i64 m8) := (Below.celz bz _ _ _ zY).trans y8
        have g1_9 : v1.cell? ⟨Y, 9, none⟩ = some (.int .i64 m9) := (Below.celz bz _ _ _ zY).trans y9
        have g1_10 : v1.cell? ⟨Y, 10, none⟩ = some (.int .i64 m10) := (Below.celz bz _ _ _ zY).trans y10
        have g1_11 : v1.cell? ⟨Y, 11, none⟩ = some (.int .i64 m11) := (Below.celz bz _ _ _ zY).trans y11
        have g1_12 : v1.cell? ⟨Y, 12, none⟩ = some (.int .i64 m12) := (Below.celz bz _ _ _ zY).trans y12
        have zz1 : Y < v1.heap.size := Nat.lt_of_lt_of_le zY bz.size
        have HB1' : Hid (Below w.heap.size w v1) := HB1.out.trans (bz.mono HB1.out.size)
        have HO1' : Hid (v1.ownsRow w.heap.size 46 13 (.slice xa pl xc) pl ((purged xs c (es.take k)).flatMap encEv)) := own_keep HO1.out bz
        clear bz zY HB1 HO1 y0 y1 y2 y3 y4 y5 y6 y7 y8 y9 y10 y11 y12
        have HV : Hid (purged xs c (es.take (k + 1)) = purged xs c (es.take k) ++ [(m0, m1, m2, m3, m4, m5, m6, m7, m8, m9, m10, m11, m12)]) := purged_in HX.out (by simp [purgeB, opB, HLOW.out])
        go_wp2_with (at_builtin; go_must (refine wpList_appRow encEv_len (by decide) encEv_one rfl _ _ 26 rfl Tryd.underlying26 hi hz0 hz1 hz2 rfl w.heap.size (.slice xa pl xc) pl _ (.slice (some ⟨v1.heap.size, 0, none⟩) 1 1) [(m0, m1, m2, m3, m4, m5, m6, m7, m8, m9, m10, m11, m12)] rfl rfl (HO1'.out.alloc _) (new_rowE _ _ 46) (by unfold maxLen; simp; omega) (by simp; omega) (by have := HB1'.out.size; simp; omega) ?_))
        intro v' w3 hown' hgrow _
        have LT : Hid (∀ g, (Value.slice xa pl xc).ownBlock = some g → w.heap.size ≤ g) := fun g hg => (HO1'.out.lt g hg).1
        have R : Hid (Below w.heap.size w w3 ∧ w3.ownsRow w.heap.size 46 13 v' (purged xs c (es.take (k + 1))).length ((purged xs c (es.take (k + 1))).flatMap encEv)) := by
          refine ⟨(HB1'.out.alloc HB1'.out.size _).grown hgrow (by have := HB1'.out.size; simp; omega) LT.out, ?_⟩
          rw [HV.out, List.length_append, HPLEN.out, List.flatMap_append]
          simpa using hown'
        clear hown' hgrow
        go_wp2_with fail
        go_roundw
        case rel => exact ⟨k + 1, by omega, by go_num, R.out⟩
        case measure => simp [intOf]; omega
    · have hkn : n = k := by omega
      subst hkn
      have HV : Hid (purged xs c (es.take n) = purged xs c es) := by show purged xs c (es.take n) = purged xs c es; rw [HN.out, List.take_length]
      have HO : Hid (wr.ownsRow w.heap.size 46 13 (.slice xa (purged xs c (es.take n)).length xc) (purged xs c (es.take n)).length ((purged xs c (es.take n)).flatMap encEv)) := hown
      clear hown
      go_wp2_with fail
      go_ret
      refine ⟨_, rfl, ?_, hbel⟩
      have := HO.out
      rw [HV.out] at this
      simpa [HV.out] using this
  --@end
  --@if F:spec.WorldPurge
set_option maxRecDepth 10000 in
set_option maxHeartbeats 20000000 in
theorem spec_WorldPurge (vp v : Value) (xs : List (Int × Int × Int)) (es : List Evt) (c : Int) (w : World) (hp : RowAt 3 encPerson w vp xs) (h : RowAt 13 encEv w v es) (hpl : xs.length ≤ 1048576) (hl : es.length ≤ 1048576) :
    Calls Tryd.prog 6 #[vp, v, .int .i64 c] w fun e w' => ∃ u, e = .returned u ∧ w'.ownsRow w.heap.size 46 13 u (purged xs c es).length ((purged xs c es).flatMap encEv) ∧ Below w.heap.size w w' := by
  obtain ⟨pa, pc, rfl⟩ := hp.len
  obtain ⟨a, cap, rfl⟩ := h.len
  obtain ⟨i0, hi, hz0, hz1, hz2⟩ := info_parts Tryd.infoEv
  have H : Hid (RowAt 13 encEv w (.slice a es.length cap) es) := h
  have HP : Hid (RowAt 3 encPerson w (.slice pa xs.length pc) xs) := hp
  have HPL : Hid (xs.length ≤ 1048576) := hpl
  clear h hp hpl
  obtain ⟨n, hn⟩ : ∃ n, n = es.length := ⟨_, rfl⟩
  obtain ⟨np, hnp⟩ : ∃ np, np = xs.length := ⟨_, rfl⟩
  have HN : Hid (n = es.length) := hn
  rw [← hn] at H hl ⊢
  rw [← hnp] at HP ⊢
  clear hn hnp
  have b0 : Hid (Below w.heap.size w (w.alloc (.cells #[] 46))) := (Below.refl _ _).alloc (Nat.le_refl _) _
  go_enter Tryd.func6, Tryd.ntmps6
  go_wp2_with fail
  go_loopw [7, 8] (fun q i wr => ∃ k : Nat, k ≤ n ∧ i = .int .i64 k ∧ Below w.heap.size w wr ∧ wr.ownsRow w.heap.size 46 13 q (purged xs c (es.take k)).length ((purged xs c (es.take k)).flatMap encEv)) (fun _ i _ => n - (intOf i).toNat)
  case atStart => exact ⟨0, by omega, rfl, b0.out, ⟨by simp [purged], .inr ⟨w.heap.size, 0, #[], by simp [purged], Nat.le_refl _, new_block _ _, Nat.le_refl _, by simp [maxLen], by simp, by simp [purged]⟩⟩⟩
  case round =>
    obtain ⟨k, hk, rfl, hbel, hown⟩ := hrel
    have hsz := hbel.size
    obtain ⟨xa, xc, rfl⟩ := own_form hown
    by_cases hlt : k < n
    · rcases H.out with ⟨hz, _⟩ | ⟨_, b1, o1, q1, hv1, hb1, E1⟩
      · have := HN.out; rw [hz] at this; simp at this; omega
      obtain rfl : a = some ⟨b1, o1, none⟩ := by injection hv1
      obtain ⟨⟨m0, m1, m2, m3, m4, m5, m6, m7, m8, m9, m10, m11, m12⟩, hx⟩ : ∃ x, es[k]? = some x := ⟨_, List.getElem?_eq_getElem (by rw [← HN.out]; exact hlt)⟩
      have e0 : wr.cell? ⟨b1, o1 + k * 13, none⟩ = some (.int .i64 m0) := by rw [Below.celz hbel _ _ _ hb1]; exact E1 k _ hx 0 _ rfl
      have e1 : wr.cell? ⟨b1, o1 + k * 13 + 1, none⟩ = some (.int .i64 m1) := by rw [Below.celz hbel _ _ _ hb1]; exact E1 k _ hx 1 _ rfl
      have e2 : wr.cell? ⟨b1, o1 + k * 13 + 2, none⟩ = some (.int .i64 m2) := by rw [Below.celz hbel _ _ _ hb1]; exact E1 k _ hx 2 _ rfl
      have e3 : wr.cell? ⟨b1, o1 + k * 13 + 3, none⟩ = some (.int .i64 m3) := by rw [Below.celz hbel _ _ _ hb1]; exact E1 k _ hx 3 _ rfl
      have e4 : wr.cell? ⟨b1, o1 + k * 13 + 4, none⟩ = some (.int .i64 m4) := by rw [Below.celz hbel _ _ _ hb1]; exact E1 k _ hx 4 _ rfl
      have e5 : wr.cell? ⟨b1, o1 + k * 13 + 5, none⟩ = some (.int .i64 m5) := by rw [Below.celz hbel _ _ _ hb1]; exact E1 k _ hx 5 _ rfl
      have e6 : wr.cell? ⟨b1, o1 + k * 13 + 6, none⟩ = some (.int .i64 m6) := by rw [Below.celz hbel _ _ _ hb1]; exact E1 k _ hx 6 _ rfl
      have e7 : wr.cell? ⟨b1, o1 + k * 13 + 7, none⟩ = some (.int .i64 m7) := by rw [Below.celz hbel _ _ _ hb1]; exact E1 k _ hx 7 _ rfl
      have e8 : wr.cell? ⟨b1, o1 + k * 13 + 8, none⟩ = some (.int .i64 m8) := by rw [Below.celz hbel _ _ _ hb1]; exact E1 k _ hx 8 _ rfl
      have e9 : wr.cell? ⟨b1, o1 + k * 13 + 9, none⟩ = some (.int .i64 m9) := by rw [Below.celz hbel _ _ _ hb1]; exact E1 k _ hx 9 _ rfl
      have e10 : wr.cell? ⟨b1, o1 + k * 13 + 10, none⟩ = some (.int .i64 m10) := by rw [Below.celz hbel _ _ _ hb1]; exact E1 k _ hx 10 _ rfl
      have e11 : wr.cell? ⟨b1, o1 + k * 13 + 11, none⟩ = some (.int .i64 m11) := by rw [Below.celz hbel _ _ _ hb1]; exact E1 k _ hx 11 _ rfl
      have e12 : wr.cell? ⟨b1, o1 + k * 13 + 12, none⟩ = some (.int .i64 m12) := by rw [Below.celz hbel _ _ _ hb1]; exact E1 k _ hx 12 _ rfl
      have hle : (purged xs c (es.take k)).length ≤ k := Nat.le_trans (purged_le _ _ _) (by simp; omega)
      have z2 : b1 < wr.heap.size := by omega
      have k0 : (0 : Int) ≤ (k : Int) := by omega
      have k1 : (k : Int) < (n : Int) := by omega
      have HX : Hid (es[k]? = some (m0, m1, m2, m3, m4, m5, m6, m7, m8, m9, m10, m11, m12)) := hx
      have HB : Hid (Below w.heap.size w wr) := hbel
      have HO : Hid (wr.ownsRow w.heap.size 46 13 (.slice xa (purged xs c (es.take k)).length xc) (purged xs c (es.take k)).length ((purged xs c (es.take k)).flatMap encEv)) := hown
      clear hx hbel E1 hv1 hown
      obtain ⟨pl, hpl⟩ : ∃ t, t = (purged xs c (es.take k)).length := ⟨_, rfl⟩
      have HPLEN : Hid ((purged xs c (es.take k)).length = pl) := hpl.symm
      rw [← hpl] at HO hle ⊢
      clear hpl
      go_wp2_with fail
      cases hlow : lowB xs m1 c
      · have HLOW : Hid (lowB xs m1 c = false) := hlow
        have hc := spec_l7Low _ xs m0 m1 m2 m3 m4 m5 m6 m7 m8 m9 m10 m11 m12 c _ (HP.out.keep HB.out) HPL.out
        rw [hlow] at hc
        clear hlow
        refine (hc).mono ?_
        rintro e v1 ⟨rfl, bz⟩
        have g1_0 : v1.cell? ⟨b1, o1 + k * 13, none⟩ = some (.int .i64 m0) := (Below.celz bz _ _ _ z2).trans e0
        have g1_1 : v1.cell? ⟨b1, o1 + k * 13 + 1, none⟩ = some (.int .i64 m1) := (Below.celz bz _ _ _ z2).trans e1
        have g1_2 : v1.cell? ⟨b1, o1 + k * 13 + 2, none⟩ = some (.int .i64 m2) := (Below.celz bz _ _ _ z2).trans e2
        have g1_3 : v1.cell? ⟨b1, o1 + k * 13 + 3, none⟩ = some (.int .i64 m3) := (Below.celz bz _ _ _ z2).trans e3
        have g1_4 : v1.cell? ⟨b1, o1 + k * 13 + 4, none⟩ = some (.int .i64 m4) := (Below.celz bz _ _ _ z2).trans e4
        have g1_5 : v1.cell? ⟨b1, o1 + k * 13 + 5, none⟩ = some (.int .i64 m5) := (Below.celz bz _ _ _ z2).trans e5
        have g1_6 : v1.cell? ⟨b1, o1 + k * 13 + 6, none⟩ = some (.int .i64 m6) := (Below.celz bz _ _ _ z2).trans e6
        have g1_7 : v1.cell? ⟨b1, o1 + k * 13 + 7, none⟩ = some (.int .i64 m7) := (Below.celz bz _ _ _ z2).trans e7
        have g1_8 : v1.cell? ⟨b1, o1 + k * 13 + 8, none⟩ = some (.int .i64 m8) := (Below.celz bz _ _ _ z2).trans e8
        have g1_9 : v1.cell? ⟨b1, o1 + k * 13 + 9, none⟩ = some (.int .i64 m9) := (Below.celz bz _ _ _ z2).trans e9
        have g1_10 : v1.cell? ⟨b1, o1 + k * 13 + 10, none⟩ = some (.int .i64 m10) := (Below.celz bz _ _ _ z2).trans e10
        have g1_11 : v1.cell? ⟨b1, o1 + k * 13 + 11, none⟩ = some (.int .i64 m11) := (Below.celz bz _ _ _ z2).trans e11
        have g1_12 : v1.cell? ⟨b1, o1 + k * 13 + 12, none⟩ = some (.int .i64 m12) := (Below.celz bz _ _ _ z2).trans e12
        have zz1 : b1 < v1.heap.size := Nat.lt_of_lt_of_le z2 bz.size
        have HB1' : Hid (Below w.heap.size w v1) := HB.out.trans (bz.mono HB.out.size)
        have HO1' : Hid (v1.ownsRow w.heap.size 46 13 (.slice xa pl xc) pl ((purged xs c (es.take k)).flatMap encEv)) := own_keep HO.out bz
        clear bz z2 HB HO e0 e1 e2 e3 e4 e5 e6 e7 e8 e9 e10 e11 e12
        by_cases hk1 : m0 = 1
        · subst hk1
          cases hu : underB (opI m2 m3 m4 m5 m6 m7 m8 m9) c
          · have HU : Hid (underB (opI m2 m3 m4 m5 m6 m7 m8 m9) c = false) := hu
            have lu := spec_LabelUnder (opI m2 m3 m4 m5 m6 m7 m8 m9) c
            rw [hu] at lu
            have LU : Hid (∀ w, Calls Tryd.prog 16 #[.int .i64 (opI m2 m3 m4 m5 m6 m7 m8 m9), .int .i64 c] w fun e w' => e = .returned (.bool false) ∧ w' = w) := lu
            clear lu hu
            go_wp2_with fail
            refine (spec_OpLabel m2 m3 m4 m5 m6 m7 m8 m9 _).mono ?_
            rintro e v2 ⟨rfl, bz⟩
            have g2_0 : v2.cell? ⟨b1, o1 + k * 13, none⟩ = some (.int .i64 1) := (Below.celz bz _ _ _ zz1).trans g1_0
            have g2_1 : v2.cell? ⟨b1, o1 + k * 13 + 1, none⟩ = some (.int .i64 m1) := (Below.celz bz _ _ _ zz1).trans g1_1
            have g2_2 : v2.cell? ⟨b1, o1 + k * 13 + 2, none⟩ = some (.int .i64 m2) := (Below.celz bz _ _ _ zz1).trans g1_2
            have g2_3 : v2.cell? ⟨b1, o1 + k * 13 + 3, none⟩ = some (.int .i64 m3) := (Below.celz bz _ _ _ zz1).trans g1_3
            have g2_4 : v2.cell? ⟨b1, o1 + k * 13 + 4, none⟩ = some (.int .i64 m4) := (Below.celz bz _ _ _ zz1).trans g1_4
            have g2_5 : v2.cell? ⟨b1, o1 + k * 13 + 5, none⟩ = some (.int .i64 m5) := (Below.celz bz _ _ _ zz1).trans g1_5
            have g2_6 : v2.cell? ⟨b1, o1 + k * 13 + 6, none⟩ = some (.int .i64 m6) := (Below.celz bz _ _ _ zz1).trans g1_6
            have g2_7 : v2.cell? ⟨b1, o1 + k * 13 + 7, none⟩ = some (.int .i64 m7) := (Below.celz bz _ _ _ zz1).trans g1_7
            have g2_8 : v2.cell? ⟨b1, o1 + k * 13 + 8, none⟩ = some (.int .i64 m8) := (Below.celz bz _ _ _ zz1).trans g1_8
            have g2_9 : v2.cell? ⟨b1, o1 + k * 13 + 9, none⟩ = some (.int .i64 m9) := (Below.celz bz _ _ _ zz1).trans g1_9
            have g2_10 : v2.cell? ⟨b1, o1 + k * 13 + 10, none⟩ = some (.int .i64 m10) := (Below.celz bz _ _ _ zz1).trans g1_10
            have g2_11 : v2.cell? ⟨b1, o1 + k * 13 + 11, none⟩ = some (.int .i64 m11) := (Below.celz bz _ _ _ zz1).trans g1_11
            have g2_12 : v2.cell? ⟨b1, o1 + k * 13 + 12, none⟩ = some (.int .i64 m12) := (Below.celz bz _ _ _ zz1).trans g1_12
            have zz2 : b1 < v2.heap.size := Nat.lt_of_lt_of_le zz1 bz.size
            have HB2' : Hid (Below w.heap.size w v2) := HB1'.out.trans (bz.mono HB1'.out.size)
            have HO2' : Hid (v2.ownsRow w.heap.size 46 13 (.slice xa pl xc) pl ((purged xs c (es.take k)).flatMap encEv)) := own_keep HO1'.out bz
            clear bz zz1 HB1' HO1' g1_0 g1_1 g1_2 g1_3 g1_4 g1_5 g1_6 g1_7 g1_8 g1_9 g1_10 g1_11 g1_12
            go_wp2_with fail
            refine use (LU.out _) ?_
            go_wp2_with fail
            have HV : Hid (purged xs c (es.take (k + 1)) = purged xs c (es.take k)) := purged_out HX.out (by simp [purgeB, opB, HLOW.out, HU.out])
            go_roundw
            case rel => exact ⟨k + 1, by omega, by go_num, HB2'.out, by rw [HV.out]; exact (by have := HO2'.out; have hq := HPLEN.out; rw [← hq] at this; simpa [hq] using this)⟩
            case measure => simp [intOf]; omega
          · have HU : Hid (underB (opI m2 m3 m4 m5 m6 m7 m8 m9) c = true) := hu
            have lu := spec_LabelUnder (opI m2 m3 m4 m5 m6 m7 m8 m9) c
            rw [hu] at lu
            have LU : Hid (∀ w, Calls Tryd.prog 16 #[.int .i64 (opI m2 m3 m4 m5 m6 m7 m8 m9), .int .i64 c] w fun e w' => e = .returned (.bool true) ∧ w' = w) := lu
            clear lu hu
            go_wp2_with fail
            refine (spec_OpLabel m2 m3 m4 m5 m6 m7 m8 m9 _).mono ?_
            rintro e v2 ⟨rfl, bz⟩
            have g2_0 : v2.cell? ⟨b1, o1 + k * 13, none⟩ = some (.int .i64 1) := (Below.celz bz _ _ _ zz1).trans g1_0
            have g2_1 : v2.cell? ⟨b1, o1 + k * 13 + 1, none⟩ = some (.int .i64 m1) := (Below.celz bz _ _ _ zz1).trans g1_1
            have g2_2 : v2.cell? ⟨b1, o1 + k * 13 + 2, none⟩ = some (.int .i64 m2) := (Below.celz bz _ _ _ zz1).trans g1_2
            have g2_3 : v2.cell? ⟨b1, o1 + k * 13 + 3, none⟩ = some (.int .i64 m3) := (Below.celz bz _ _ _ zz1).trans g1_3
            have g2_4 : v2.cell? ⟨b1, o1 + k * 13 + 4, none⟩ = some (.int .i64 m4) := (Below.celz bz _ _ _ zz1).trans g1_4
            have g2_5 : v2.cell? ⟨b1, o1 + k * 13 + 5, none⟩ = some (.int .i64 m5) := (Below.celz bz _ _ _ zz1).trans g1_5
            have g2_6 : v2.cell? ⟨b1, o1 + k * 13 + 6, none⟩ = some (.int .i64 m6) := (Below.celz bz _ _ _ zz1).trans g1_6
            have g2_7 : v2.cell? ⟨b1, o1 + k * 13 + 7, none⟩ = some (.int .i64 m7) := (Below.celz bz _ _ _ zz1).trans g1_7
            have g2_8 : v2.cell? ⟨b1, o1 + k * 13 + 8, none⟩ = some (.int .i64 m8) := (Below.celz bz _ _ _ zz1).trans g1_8
            have g2_9 : v2.cell? ⟨b1, o1 + k * 13 + 9, none⟩ = some (.int .i64 m9) := (Below.celz bz _ _ _ zz1).trans g1_9
            have g2_10 : v2.cell? ⟨b1, o1 + k * 13 + 10, none⟩ = some (.int .i64 m10) := (Below.celz bz _ _ _ zz1).trans g1_10
            have g2_11 : v2.cell? ⟨b1, o1 + k * 13 + 11, none⟩ = some (.int .i64 m11) := (Below.celz bz _ _ _ zz1).trans g1_11
            have g2_12 : v2.cell? ⟨b1, o1 + k * 13 + 12, none⟩ = some (.int .i64 m12) := (Below.celz bz _ _ _ zz1).trans g1_12
            have zz2 : b1 < v2.heap.size := Nat.lt_of_lt_of_le zz1 bz.size
            have HB2' : Hid (Below w.heap.size w v2) := HB1'.out.trans (bz.mono HB1'.out.size)
            have HO2' : Hid (v2.ownsRow w.heap.size 46 13 (.slice xa pl xc) pl ((purged xs c (es.take k)).flatMap encEv)) := own_keep HO1'.out bz
            clear bz zz1 HB1' HO1' g1_0 g1_1 g1_2 g1_3 g1_4 g1_5 g1_6 g1_7 g1_8 g1_9 g1_10 g1_11 g1_12
            go_wp2_with fail
            refine use (LU.out _) ?_
            have HV : Hid (purged xs c (es.take (k + 1)) = purged xs c (es.take k) ++ [(1, m1, m2, m3, m4, m5, m6, m7, m8, m9, m10, m11, m12)]) := purged_in HX.out (by simp [purgeB, opB, HLOW.out, HU.out])
            go_wp2_with (at_builtin; go_must (refine wpList_appRow encEv_len (by decide) encEv_one rfl _ _ 26 rfl Tryd.underlying26 hi hz0 hz1 hz2 rfl w.heap.size (.slice xa pl xc) pl _ (.slice (some ⟨v2.heap.size, 0, none⟩) 1 1) [(1, m1, m2, m3, m4, m5, m6, m7, m8, m9, m10, m11, m12)] rfl rfl (HO2'.out.alloc _) (new_rowE _ _ 46) (by unfold maxLen; simp; omega) (by simp; omega) (by have := HB2'.out.size; simp; omega) ?_))
            intro v' w3 hown' hgrow _
            have LT : Hid (∀ g, (Value.slice xa pl xc).ownBlock = some g → w.heap.size ≤ g) := fun g hg => (HO2'.out.lt g hg).1
            have R : Hid (Below w.heap.size w w3 ∧ w3.ownsRow w.heap.size 46 13 v' (purged xs c (es.take (k + 1))).length ((purged xs c (es.take (k + 1))).flatMap encEv)) := by
              refine ⟨(HB2'.out.alloc HB2'.out.size _).grown hgrow (by have := HB2'.out.size; simp; omega) LT.out, ?_⟩
              rw [HV.out, List.length_append, HPLEN.out, List.flatMap_append]
              simpa using hown'
            clear hown' hgrow
            go_wp2_with fail
            go_roundw
            case rel => exact ⟨k + 1, by omega, by go_num, R.out⟩
            case measure => simp [intOf]; omega
        · have HK : Hid (¬ m0 = 1) := hk1
          have d0 : (m0 == 1) = false := beq_eq_false_iff_ne.2 hk1
          go_wp2_with fail
          have HV : Hid (purged xs c (es.take (k + 1)) = purged xs c (es.take k)) := purged_out HX.out (by simp [purgeB, opB, HLOW.out, HK.out])
          go_roundw
          case rel => exact ⟨k + 1, by omega, by go_num, HB1'.out, by rw [HV.out]; exact (by have := HO1'.out; have hq := HPLEN.out; rw [← hq] at this; simpa [hq] using this)⟩
          case measure => simp [intOf]; omega
      · have HLOW : Hid (lowB xs m1 c = true) := hlow
        have hc := spec_l7Low _ xs m0 m1 m2 m3 m4 m5 m6 m7 m8 m9 m10 m11 m12 c _ (HP.out.keep HB.out) HPL.out
        rw [hlow] at hc
        clear hlow
        refine (hc).mono ?_
        rintro e v1 ⟨rfl, bz⟩
        have g1_0 : v1.cell? ⟨b1, o1 + k * 13, none⟩ = some (.int .i64 m0) := (Below.celz bz _ _ _ z2).trans e0
        have g1_1 : v1.cell? ⟨b1, o1 + k * 13 + 1, none⟩ = some (.int .i64 m1) := (Below.celz bz _ _ _ z2).trans e1
        have g1_2 : v1.cell? ⟨b1, o1 + k * 13 + 2, none⟩ = some (.int .i64 m2) := (Below.celz bz _ _ _ z2).trans e2
        have g1_3 : v1.cell? ⟨b1, o1 + k * 13 + 3, none⟩ = some (.int .i64 m3) := (Below.celz bz _ _ _ z2).trans e3
        have g1_4 : v1.cell? ⟨b1, o1 + k * 13 + 4, none⟩ = some (.int .i64 m4) := (Below.celz bz _ _ _ z2).trans e4
        have g1_5 : v1.cell? ⟨b1, o1 + k * 13 + 5, none⟩ = some (.int .i64 m5) := (Below.celz bz _ _ _ z2).trans e5
        have g1_6 : v1.cell? ⟨b1, o1 + k * 13 + 6, none⟩ = some (.int .i64 m6) := (Below.celz bz _ _ _ z2).trans e6
        have g1_7 : v1.cell? ⟨b1, o1 + k * 13 + 7, none⟩ = some (.int .i64 m7) := (Below.celz bz _ _ _ z2).trans e7
        have g1_8 : v1.cell? ⟨b1, o1 + k * 13 + 8, none⟩ = some (.int .i64 m8) := (Below.celz bz _ _ _ z2).trans e8
        have g1_9 : v1.cell? ⟨b1, o1 + k * 13 + 9, none⟩ = some (.int .i64 m9) := (Below.celz bz _ _ _ z2).trans e9
        have g1_10 : v1.cell? ⟨b1, o1 + k * 13 + 10, none⟩ = some (.int .i64 m10) := (Below.celz bz _ _ _ z2).trans e10
        have g1_11 : v1.cell? ⟨b1, o1 + k * 13 + 11, none⟩ = some (.int .i64 m11) := (Below.celz bz _ _ _ z2).trans e11
        have g1_12 : v1.cell? ⟨b1, o1 + k * 13 + 12, none⟩ = some (.int .i64 m12) := (Below.celz bz _ _ _ z2).trans e12
        have zz1 : b1 < v1.heap.size := Nat.lt_of_lt_of_le z2 bz.size
        have HB1' : Hid (Below w.heap.size w v1) := HB.out.trans (bz.mono HB.out.size)
        have HO1' : Hid (v1.ownsRow w.heap.size 46 13 (.slice xa pl xc) pl ((purged xs c (es.take k)).flatMap encEv)) := own_keep HO.out bz
        clear bz z2 HB HO e0 e1 e2 e3 e4 e5 e6 e7 e8 e9 e10 e11 e12
        have HV : Hid (purged xs c (es.take (k + 1)) = purged xs c (es.take k) ++ [(m0, m1, m2, m3, m4, m5, m6, m7, m8, m9, m10, m11, m12)]) := purged_in HX.out (by simp [purgeB, opB, HLOW.out])
        go_wp2_with (at_builtin; go_must (refine wpList_appRow encEv_len (by decide) encEv_one rfl _ _ 26 rfl Tryd.underlying26 hi hz0 hz1 hz2 rfl w.heap.size (.slice xa pl xc) pl _ (.slice (some ⟨v1.heap.size, 0, none⟩) 1 1) [(m0, m1, m2, m3, m4, m5, m6, m7, m8, m9, m10, m11, m12)] rfl rfl (HO1'.out.alloc _) (new_rowE _ _ 46) (by unfold maxLen; simp; omega) (by simp; omega) (by have := HB1'.out.size; simp; omega) ?_))
        intro v' w3 hown' hgrow _
        have LT : Hid (∀ g, (Value.slice xa pl xc).ownBlock = some g → w.heap.size ≤ g) := fun g hg => (HO1'.out.lt g hg).1
        have R : Hid (Below w.heap.size w w3 ∧ w3.ownsRow w.heap.size 46 13 v' (purged xs c (es.take (k + 1))).length ((purged xs c (es.take (k + 1))).flatMap encEv)) := by
          refine ⟨(HB1'.out.alloc HB1'.out.size _).grown hgrow (by have := HB1'.out.size; simp; omega) LT.out, ?_⟩
          rw [HV.out, List.length_append, HPLEN.out, List.flatMap_append]
          simpa using hown'
        clear hown' hgrow
        go_wp2_with fail
        go_roundw
        case rel => exact ⟨k + 1, by omega, by go_num, R.out⟩
        case measure => simp [intOf]; omega
    · have hkn : n = k := by omega
      subst hkn
      have HV : Hid (purged xs c (es.take n) = purged xs c es) := by show purged xs c (es.take n) = purged xs c es; rw [HN.out, List.take_length]
      have HO : Hid (wr.ownsRow w.heap.size 46 13 (.slice xa (purged xs c (es.take n)).length xc) (purged xs c (es.take n)).length ((purged xs c (es.take n)).flatMap encEv)) := hown
      clear hown
      go_wp2_with fail
      go_ret
      refine ⟨_, rfl, ?_, hbel⟩
      have := HO.out
      rw [HV.out] at this
      simpa [HV.out] using this
  --@end
  end Go.Proofs.YtchphdhjbjeplaaDoor.Lab

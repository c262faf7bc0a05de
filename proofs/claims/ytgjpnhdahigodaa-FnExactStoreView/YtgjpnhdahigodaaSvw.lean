/-
  What is seen of a store: impl.StoreView and spec.StoreView; the laws' markSegS, heldSegS.
-/
import Derived.Test.YtgjpnhdahigodaaSeg
import Derived.Test.YtgjpnhdahigodaaShf
import Derived.Test.YtgjpnhdahigodaaLabb
import Derived.Test.YtgjpnhdahigodaaPck
import Derived.Test.YtgjpnhdahigodaaApp
import Derived.Deep.AppendLies
import Derived.Deep.RegionHeld3
import Derived.Deep.RegionLaw
import Derived.Deep.DrawnRows
import Derived.Maps.AppendAt
import Derived.Lib.AppendZeros
import Derived.Laws.OwnMore
namespace Go.Proofs.Ytgjpnhdahigodaa.Lab
open Go.RowKit
set_option linter.unusedVariables false
attribute [local go_sem ↓] Go.wp_at_zero Go.wp_at_succ
/-- The parts of a store that one sees. -/
def viewS (c : Int) (xs : List (Int × List UInt8)) : List (Int × List UInt8) := xs.filter (fun x => underB x.1 c)
theorem viewS_le (c : Int) (xs : List (Int × List UInt8)) : (viewS c xs).length ≤ xs.length := List.length_filter_le _ _
theorem viewS_in {c : Int} {xs : List (Int × List UInt8)} {k : Nat} {x : Int × List UInt8} (h : xs[k]? = some x) (hu : underB x.1 c = true) : viewS c (xs.take (k + 1)) = viewS c (xs.take k) ++ [x] := by
  unfold viewS
  rw [List.take_add_one, h, List.filter_append]
  simp [hu]
theorem viewS_out {c : Int} {xs : List (Int × List UInt8)} {k : Nat} {x : Int × List UInt8} (h : xs[k]? = some x) (hu : underB x.1 c = false) : viewS c (xs.take (k + 1)) = viewS c (xs.take k) := by
  unfold viewS
  rw [List.take_add_one, h, List.filter_append]
  simp [hu]
theorem appSeg {c : Int} {xs : List (Int × List UInt8)} {k : Nat} {x : Int × List UInt8} {w1 : World} {base : Nat} {v' : Value} (h : xs[k]? = some x) (hu : underB x.1 c = true)
    (ho : w1.ownsRow base 48 2 v' ((viewS c (xs.take k)).length + 1) ((viewS c (xs.take k)).flatMap encSeg ++ encSeg x)) : w1.ownsRow base 48 2 v' (viewS c (xs.take (k + 1))).length ((viewS c (xs.take (k + 1))).flatMap encSeg) := by
  rw [viewS_in h hu]
  simpa [List.flatMap_append] using ho
theorem own_none {w : World} {base B e size : Nat} (h : w.heap[B]? = some (.cells #[] e (0, 0))) (hb : base ≤ B) : w.ownsRow base e size (.slice (some ⟨B, 0, none⟩) 0 0) 0 [] :=
  ⟨by simp, .inr ⟨B, 0, #[], rfl, hb, h, Nat.le_refl _, by simp [maxLen], by simp, by simp⟩⟩
theorem own_gr {w w' : World} {base e size n : Nat} {v : Value} {xs : List Value} {r : Option Nat} (h : w.ownsRow base e size v n xs) (hg : w.grownBy w' r) (hne : ∀ k, v.ownBlock = some k → r = some k → False) : w'.ownsRow base e size v n xs := by
  have hl := h.lt
  obtain ⟨h1, h | ⟨g, cap, cur, rfl, hbb, hb, hr⟩⟩ := h
  · exact ⟨h1, .inl h⟩
  · exact ⟨h1, .inr ⟨g, cap, cur, rfl, hbb, by rw [hg.block g (lt_of_block hb) (fun e => hne g (by simp [Value.ownBlock]) e.symm)]; exact hb, hr⟩⟩
set_option maxHeartbeats 4000000 in
theorem spec_StoreView (v : Value) (c : Int) (xs : List (Int × List UInt8)) (w : World) (h : RowAt 2 encSeg w v xs) (hl : xs.length ≤ 1048576) :
    Calls Try.prog 9 #[v, .int .i64 c] w fun e w' => ∃ u, e = .returned u ∧ w'.ownsRow w.heap.size 48 2 u (viewS c xs).length ((viewS c xs).flatMap encSeg) ∧ Below w.heap.size w w' := by
  obtain ⟨a, cap, rfl⟩ := h.len
  obtain ⟨i0, hi, hz0, hz1, hz2⟩ := info_parts Try.infoSeg
  have H : Hid (RowAt 2 encSeg w (.slice a xs.length cap) xs) := h
  clear h
  obtain ⟨n, hn⟩ : ∃ n, n = xs.length := ⟨_, rfl⟩
  have HN : Hid (n = xs.length) := hn
  rw [← hn] at H hl ⊢
  clear hn
  have b0 : Hid (Below w.heap.size w (w.alloc (.cells #[] 48))) := (Below.refl _ _).alloc (Nat.le_refl _) _
  go_enter Try.func9, Try.ntmps9
  go_wp2_with fail
  go_loopw [5, 6] (fun q i wr => ∃ k : Nat, k ≤ n ∧ i = .int .i64 k ∧ Below w.heap.size w wr ∧ wr.ownsRow w.heap.size 48 2 q (viewS c (xs.take k)).length ((viewS c (xs.take k)).flatMap encSeg)) (fun _ i _ => n - (intOf i).toNat)
  case atStart => exact ⟨0, by omega, rfl, b0.out, own_none (new_block _ _) (Nat.le_refl _)⟩
  case round =>
    obtain ⟨k, hk, rfl, hbel, hown⟩ := hrel
    have hsz := hbel.size
    obtain ⟨xa, xc, rfl⟩ := own_form hown
    by_cases hlt : k < n
    · rcases H.out with ⟨hz, _⟩ | ⟨_, b1, o1, q1, hv1, hb1, E1⟩
      · have := HN.out; rw [hz] at this; simp at this; omega
      obtain rfl : a = some ⟨b1, o1, none⟩ := by injection hv1
      obtain ⟨⟨m0, m1⟩, hx⟩ : ∃ x, xs[k]? = some x := ⟨_, List.getElem?_eq_getElem (by rw [← HN.out]; exact hlt)⟩
      have e0 : wr.cell? ⟨b1, o1 + k * 2, none⟩ = some (.int .i64 m0) := by rw [Below.celz hbel _ _ _ hb1]; exact E1 k _ hx 0 _ rfl
      have e1 : wr.cell? ⟨b1, o1 + k * 2 + 1, none⟩ = some (.string ⟨m1.toArray⟩) := by rw [Below.celz hbel _ _ _ hb1]; exact E1 k _ hx 1 _ rfl
      have hle : (viewS c (xs.take k)).length ≤ k := Nat.le_trans (viewS_le _ _) (by simp; omega)
      have z2 : b1 < wr.heap.size := by omega
      have k0 : (0 : Int) ≤ (k : Int) := by omega
      have k1 : (k : Int) < (n : Int) := by omega
      have HX : Hid (xs[k]? = some (m0, m1)) := hx
      have HB : Hid (Below w.heap.size w wr) := hbel
      have lu := spec_LabelUnder m0 c
      clear hx hbel E1 hv1
      cases hu : underB m0 c
      · rw [hu] at lu
        have LU : Hid (∀ w, Calls Try.prog 26 #[.int .i64 m0, .int .i64 c] w fun e w' => e = .returned (.bool false) ∧ w' = w) := lu
        have HV : Hid (viewS c (xs.take (k + 1)) = viewS c (xs.take k)) := viewS_out HX.out hu
        have HO : Hid (wr.ownsRow w.heap.size 48 2 (.slice xa (viewS c (xs.take k)).length xc) (viewS c (xs.take k)).length ((viewS c (xs.take k)).flatMap encSeg)) := hown
        clear hown lu
        go_wp2_with (go_at_call 26; refine use (LU.out _) ?_)
        go_roundw
        case rel => exact ⟨k + 1, by omega, by go_num, HB.out, by rw [HV.out]; exact HO.out⟩
        case measure => simp [intOf]; omega
      · rw [hu] at lu
        have LU : Hid (∀ w, Calls Try.prog 26 #[.int .i64 m0, .int .i64 c] w fun e w' => e = .returned (.bool true) ∧ w' = w) := lu
        have LT : Hid (∀ g, (Value.slice xa (viewS c (xs.take k)).length xc).ownBlock = some g → w.heap.size ≤ g) := fun g hg => (hown.lt g hg).1
        clear lu
        go_wp2_with (first
          | (go_at_call 26; refine use (LU.out _) ?_)
          | (at_builtin; refine wpList_append_own _ rfl _ _ 23 rfl w.heap.size 48 i0 _ 2 24 Try.underlying23 hi hz0 hz1 hz2 rfl (by decide) _ _ _ rfl (hown.alloc _) ⟨wr.heap.size, 0, none⟩ 1 1 [.int .i64 m0, .string ⟨m1.toArray⟩] rfl rfl ?c1 ?c2 ?c3 ?c4 ?c5 ?_))
        case c1 =>
          intro j u hj
          match j, hj with
          | 0, hj => simp at hj; subst hj; simp [Addr.add]
          | 1, hj => simp at hj; subst hj; simp [Addr.add]
        case c2 => intro u hu; simp at hu; rcases hu with rfl | rfl <;> rfl
        case c3 => unfold maxLen; omega
        case c4 => omega
        case c5 => simp; omega
        · intro v' w3 hown' hgrow _
          have R : Hid (Below w.heap.size w w3 ∧ w3.ownsRow w.heap.size 48 2 v' (viewS c (xs.take (k + 1))).length ((viewS c (xs.take (k + 1))).flatMap encSeg)) :=
            ⟨(HB.out.alloc (by omega) _).grown hgrow (by simp; omega) (fun g hg => LT.out g hg), appSeg HX.out hu hown'⟩
          clear hown' hgrow hown e0 e1
          go_wp2_with fail
          go_roundw
          case rel => exact ⟨k + 1, by omega, by go_num, R.out⟩
          case measure => simp [intOf]; omega
    · have hkn : n = k := by omega
      subst hkn
      have HV : Hid (viewS c (xs.take n) = viewS c xs) := by show viewS c (xs.take n) = viewS c xs; rw [HN.out, List.take_length]
      have HO : Hid (wr.ownsRow w.heap.size 48 2 (.slice xa (viewS c (xs.take n)).length xc) (viewS c (xs.take n)).length ((viewS c (xs.take n)).flatMap encSeg)) := hown
      clear hown
      go_wp2_with fail
      go_ret
      refine ⟨_, rfl, ?_, hbel⟩
      have := HO.out
      rw [HV.out] at this
      simpa [HV.out] using this
theorem clone (s : ByteArray) (w : World) (h : s.size ≤ 281474976710656) :
    Calls Try.prog 24 #[.string s] w fun e w' => e = .returned (.string s) ∧ Below w.heap.size w w' := by
  go_enter Try.func24, Try.ntmps24
  go_wp2_with fail
  refine (Try.stringslite_Clone s _ h).mono ?_
  rintro e w1 ⟨rfl, bel⟩
  go_wp2_with fail
  go_ret
  exact ⟨rfl, bel⟩
theorem sS_call {base B : Nat} {W1 cur wc : World} {x y : Value} (h : Below base W1 cur ∧ cur.cell? ⟨B, 0, none⟩ = some x ∧ cur.cell? ⟨B, 1, none⟩ = some y) (bc : Below cur.heap.size cur wc) (hb : base ≤ W1.heap.size) (hB : B < W1.heap.size) :
    Below base W1 wc ∧ wc.cell? ⟨B, 0, none⟩ = some x ∧ wc.cell? ⟨B, 1, none⟩ = some y := by
  have := h.1.size
  exact ⟨h.1.trans (bc.mono (by omega)), (Below.celz bc _ _ _ (by omega)).trans h.2.1, (Below.celz bc _ _ _ (by omega)).trans h.2.2⟩
theorem sS_alloc {base B : Nat} {W1 cur : World} {x y : Value} (h : Below base W1 cur ∧ cur.cell? ⟨B, 0, none⟩ = some x ∧ cur.cell? ⟨B, 1, none⟩ = some y) (hb : base ≤ W1.heap.size) (hB : B < W1.heap.size) (o : Obj) :
    Below base W1 (cur.alloc o) ∧ (cur.alloc o).cell? ⟨B, 0, none⟩ = some x ∧ (cur.alloc o).cell? ⟨B, 1, none⟩ = some y := sS_call h ((Below.refl _ _).alloc (Nat.le_refl _) o) hb hB
theorem sS_app {base B : Nat} {W1 cur w3 : World} {x y : Value} {r : Option Nat} (h : Below base W1 cur ∧ cur.cell? ⟨B, 0, none⟩ = some x ∧ cur.cell? ⟨B, 1, none⟩ = some y) (hg : cur.grownBy w3 r) (hb : base ≤ W1.heap.size) (hB : B < W1.heap.size) (hne : r ≠ some B) (hl : ∀ g, r = some g → base ≤ g) :
    Below base W1 w3 ∧ w3.cell? ⟨B, 0, none⟩ = some x ∧ w3.cell? ⟨B, 1, none⟩ = some y := by
  have h1 := h.1.size
  have h2 := hg.block B (by omega) (fun e => hne e.symm)
  exact ⟨h.1.grown hg (by omega) hl, (World.cell?_of_block (a := ⟨B, 0, none⟩) h2).trans h.2.1, (World.cell?_of_block (a := ⟨B, 1, none⟩) h2).trans h.2.2⟩
theorem encSeg_one (x : Int × List UInt8) : ∀ u ∈ encSeg x, u.oneCell' = true := fun u hu => by
  simp [encSeg] at hu
  rcases hu with rfl | rfl <;> rfl
theorem row_new (w : World) (m0 : Int) (m1 : List UInt8) : RowAt 2 encSeg (w.alloc (.cells #[.int .i64 m0, .string ⟨m1.toArray⟩] 48)) (.slice (some ⟨w.heap.size, 0, none⟩) 1 1) [(m0, m1)] := by
  refine .inr ⟨by simp, w.heap.size, 0, 1, rfl, by simp, fun j x hx i u hu => ?_⟩
  have hj : j = 0 := by
    have := (List.getElem?_eq_some_iff.1 hx).1
    simp at this; omega
  subst hj
  simp at hx
  subst hx
  rw [cell_block (new_block _ _)]
  match i, hu with
  | 0, hu => simpa [encSeg] using hu
  | 1, hu => simpa [encSeg] using hu
set_option maxRecDepth 8000 in
set_option maxHeartbeats 8000000 in
theorem impl_StoreView (v : Value) (c : Int) (xs : List (Int × List UInt8)) (w : World) (h : RowAt 2 encSeg w v xs) (hl : xs.length ≤ 1048576) (hlb : ∀ x ∈ xs, x.2.length ≤ 1048576) :
    Calls Try.prog 7 #[v, .int .i64 c] w fun e w' => ∃ u, e = .returned u ∧ w'.ownsRow w.heap.size 48 2 u (viewS c xs).length ((viewS c xs).flatMap encSeg) ∧ Below w.heap.size w w' := by
  obtain ⟨a, cap, rfl⟩ := h.len
  obtain ⟨i0, hi, hz0, hz1, hz2⟩ := info_parts Try.infoSeg
  have H : Hid (RowAt 2 encSeg w (.slice a xs.length cap) xs) := h
  have HLB : Hid (∀ x ∈ xs, x.2.length ≤ 1048576) := hlb
  clear h hlb
  obtain ⟨n, hn⟩ : ∃ n, n = xs.length := ⟨_, rfl⟩
  have HN : Hid (n = xs.length) := hn
  rw [← hn] at H hl ⊢
  clear hn
  go_enter Try.func7, Try.ntmps7
  go_wp2_with fail
  go_loopw [5, 10] (fun q i wr => ∃ k : Nat, k ≤ n ∧ i = .int .i64 k ∧ Below w.heap.size w wr ∧ wr.ownsRow w.heap.size 48 2 q (viewS c (xs.take k)).length ((viewS c (xs.take k)).flatMap encSeg)) (fun _ i _ => n - (intOf i).toNat)
  case atStart => exact ⟨0, by omega, rfl, Below.refl _ _, World.ownsRow_nil _ _ _ _⟩
  case round =>
    obtain ⟨k, hk, rfl, hbel, hown⟩ := hrel
    have hsz := hbel.size
    obtain ⟨xa, xc, rfl⟩ := own_form hown
    by_cases hlt : k < n
    · rcases H.out with ⟨hz, _⟩ | ⟨_, b1, o1, q1, hv1, hb1, E1⟩
      · have := HN.out; rw [hz] at this; simp at this; omega
      obtain rfl : a = some ⟨b1, o1, none⟩ := by injection hv1
      obtain ⟨⟨m0, m1⟩, hx⟩ : ∃ x, xs[k]? = some x := ⟨_, List.getElem?_eq_getElem (by rw [← HN.out]; exact hlt)⟩
      have hm1 : m1.length ≤ 1048576 := HLB.out _ (List.mem_of_getElem? hx)
      have e0 : wr.cell? ⟨b1, o1 + k * 2, none⟩ = some (.int .i64 m0) := by rw [Below.celz hbel _ _ _ hb1]; exact E1 k _ hx 0 _ rfl
      have e1 : wr.cell? ⟨b1, o1 + k * 2 + 1, none⟩ = some (.string ⟨m1.toArray⟩) := by rw [Below.celz hbel _ _ _ hb1]; exact E1 k _ hx 1 _ rfl
      have hle : (viewS c (xs.take k)).length ≤ k := Nat.le_trans (viewS_le _ _) (by simp; omega)
      have z2 : b1 < wr.heap.size := by omega
      have k0 : (0 : Int) ≤ (k : Int) := by omega
      have k1 : (k : Int) < (n : Int) := by omega
      have HX : Hid (xs[k]? = some (m0, m1)) := hx
      have HB : Hid (Below w.heap.size w wr) := hbel
      have lu := impl_LabelUnder m0 c
      clear hx hbel E1 hv1
      cases hu : underB m0 c
      · rw [hu] at lu
        have LU : Hid (∀ w, Calls Try.prog 23 #[.int .i64 m0, .int .i64 c] w fun e w' => e = .returned (.bool false) ∧ w' = w) := lu
        have HV : Hid (viewS c (xs.take (k + 1)) = viewS c (xs.take k)) := viewS_out HX.out hu
        have HO : Hid (wr.ownsRow w.heap.size 48 2 (.slice xa (viewS c (xs.take k)).length xc) (viewS c (xs.take k)).length ((viewS c (xs.take k)).flatMap encSeg)) := hown
        clear hown lu
        go_wp2_with (go_at_call 23; refine use (LU.out _) ?_)
        go_roundw
        case rel => exact ⟨k + 1, by omega, by go_num, HB.out.alloc (by omega) _, by rw [HV.out]; exact HO.out.alloc _⟩
        case measure => simp [intOf]; omega
      · rw [hu] at lu
        have LU : Hid (∀ w, Calls Try.prog 23 #[.int .i64 m0, .int .i64 c] w fun e w' => e = .returned (.bool true) ∧ w' = w) := lu
        have LT : Hid (∀ g, (Value.slice xa (viewS c (xs.take k)).length xc).ownBlock = some g → w.heap.size ≤ g ∧ g < wr.heap.size) := fun g hg => hown.lt g hg
        clear lu
        obtain ⟨W1, hW1⟩ : ∃ W1, W1 = wr.alloc (.cells #[.int .i64 m0, .string ⟨m1.toArray⟩] 48) := ⟨_, rfl⟩
        have y0 : W1.cell? ⟨wr.heap.size, 0, none⟩ = some (.int .i64 m0) := by rw [hW1]; simp [go_sem]
        have y1 : W1.cell? ⟨wr.heap.size, 1, none⟩ = some (.string ⟨m1.toArray⟩) := by rw [hW1]; simp [go_sem]
        have y2 : W1.heap.size = wr.heap.size + 1 := by rw [hW1]; simp
        have y3 : W1.ownsRow w.heap.size 48 2 (.slice xa (viewS c (xs.take k)).length xc) (viewS c (xs.take k)).length ((viewS c (xs.take k)).flatMap encSeg) := by rw [hW1]; exact hown.alloc _
        have HB1 : Hid (Below w.heap.size w W1) := by show Below _ _ _; rw [hW1]; exact HB.out.alloc (by omega) _
        have HW1 : Hid (W1 = wr.alloc (.cells #[.int .i64 m0, .string ⟨m1.toArray⟩] 48)) := hW1
        have y4 : w.heap.size ≤ W1.heap.size := by omega
        have y5 : wr.heap.size < W1.heap.size := by omega
        clear hW1 hown y2
        go_wp2_with (go_at_call 23; refine use (LU.out _) ?_)
        rw [← HW1.out]
        have hlim : (ByteArray.mk m1.toArray).size ≤ 281474976710656 := by simp [ByteArray.size]; omega
        clear HW1 e0 e1 z2
        go_region_held3 (fun w' => Below w.heap.size W1 w' ∧ w'.cell? ⟨wr.heap.size, 0, none⟩ = some (.int .i64 m0) ∧ w'.cell? ⟨wr.heap.size, 1, none⟩ = some (.string ⟨m1.toArray⟩))
          (first | exact ⟨(Below.refl _ _).drew, y0, y1⟩ | with_reducible exact sS_call (by assumption) bc y4 y5 | with_reducible exact sS_app (by assumption) hg3 y4 y5 (fun h => by have := LT.out _ h; omega) (fun g h => (LT.out g h).1) | with_reducible exact sS_alloc (by assumption) y4 y5 _)
          (first
            | (go_at_call 24; refine (clone _ _ hlim).mono ?_; rintro e wc ⟨rfl, bc⟩)
            | (refine step_appRow encSeg_len (by decide) encSeg_one (by rfl) _ _ _ (by rfl) Try.underlying23 hi hz0 hz1 hz2 rfl w.heap.size (.slice xa (viewS c (xs.take k)).length xc) _ _ (.slice (some ⟨wc.heap.size, 0, none⟩) 1 1) [(m0, m1)] (by rfl) (by rfl) ((own_keep (w := W1.drew) y3 bc).alloc _) (row_new wc m0 m1) (by unfold maxLen; simp; omega) (by simp; omega) (by have := bc.size; simp at this ⊢; omega) ?_; intro v3 w3 ho3 hg3 ha3; obtain ⟨x3, z3, rfl⟩ := own_form ho3))
        all_goals (
          have R : Hid (Below w.heap.size w w3 ∧ w3.ownsRow w.heap.size 48 2 (.slice x3 ((viewS c (xs.take k)).length + 1) z3) (viewS c (xs.take (k + 1))).length ((viewS c (xs.take (k + 1))).flatMap encSeg)) := by
            refine ⟨?_, appSeg HX.out hu (by simpa using ho3)⟩
            have hcur : Below w.heap.size W1 w3 := And.left (by assumption)
            exact HB1.out.trans hcur
          clear ho3 hg3 ha3 bc
          go_wp2_with fail
          go_roundw
          case rel => exact ⟨k + 1, by omega, by go_num, R.out⟩
          case measure => simp [intOf]; omega)
    · have hkn : n = k := by omega
      subst hkn
      have HV : Hid (viewS c (xs.take n) = viewS c xs) := by show viewS c (xs.take n) = viewS c xs; rw [HN.out, List.take_length]
      have HO : Hid (wr.ownsRow w.heap.size 48 2 (.slice xa (viewS c (xs.take n)).length xc) (viewS c (xs.take n)).length ((viewS c (xs.take n)).flatMap encSeg)) := hown
      clear hown
      go_wp2_with fail
      go_ret
      refine ⟨_, rfl, ?_, hbel⟩
      have := HO.out
      rw [HV.out] at this
      simpa [HV.out] using this
/-- The digits of a number, ahead of some bytes. -/
def mtD (k : Nat) (l : List UInt8) : List UInt8 := if h : 0 < k then mtD (k / 10) (UInt8.ofNat (48 + k % 10) :: l) else l
termination_by k
decreasing_by omega
theorem mtD_pos {k : Nat} (h : 0 < k) (l : List UInt8) : mtD k l = mtD (k / 10) (UInt8.ofNat (48 + k % 10) :: l) := by rw [mtD]; simp [h]
theorem mtD_zero (l : List UInt8) : mtD 0 l = l := by rw [mtD]; simp
/-- The text of a mark. -/
def mkT (k : Int) : List UInt8 := 109 :: mtD k.toNat []
theorem cons_bytes (c : UInt8) (l : List UInt8) : ((⟨#[c]⟩ : ByteArray) ++ ⟨l.toArray⟩) = ⟨(c :: l).toArray⟩ := by
  apply ByteArray.ext
  simp
set_option maxHeartbeats 2000000 in
theorem markText (k0 : Int) (w : World) (h0 : 0 < k0) (h1 : k0 ≤ 1000000000) :
    Calls Try.prog 33 #[.int .i64 k0] w fun e w' => e = .returned (.string ⟨(mkT k0).toArray⟩) ∧ Below w.heap.size w w' := by
  have HC : Hid (∀ (c : UInt8) (l : List UInt8), ((⟨#[c]⟩ : ByteArray) ++ ⟨l.toArray⟩) = ⟨(c :: l).toArray⟩) := cons_bytes
  go_enter Try.func33, Try.ntmps33
  go_wp2_with fail
  go_loopw [0, 3] (fun q o wr => ∃ (j : Nat) (l : List UInt8), q = .int .i64 j ∧ o = .string ⟨l.toArray⟩ ∧ l.length + j ≤ k0.toNat ∧ mtD j l = mtD k0.toNat [] ∧ Below w.heap.size w wr) (fun q _ _ => (intOf q).toNat)
  case atStart => exact ⟨k0.toNat, [], by congr 1; omega, rfl, by simp, rfl, Below.refl _ _⟩
  case round =>
    obtain ⟨j, l, rfl, rfl, hl, hm, hbel⟩ := hrel
    by_cases hj : 0 < j
    · have hz : (ByteArray.mk l.toArray).size = l.length := by simp [ByteArray.size]
      obtain ⟨c, hc⟩ : ∃ c, c = UInt8.ofNat (48 + j % 10) := ⟨_, rfl⟩
      have e1 : (c.toNat : Int) = 48 + (j : Int) % 10 := by rw [hc, byte_nat _ (by omega)]; omega
      have ks : ∀ (w : World) (b : Nat), w.cell? ⟨b, 0, none⟩ = some (.int .u8 (48 + (j : Int) % 10)) → (convert 22 9 (.slice (some ⟨b, 0, none⟩) 1 1)).run Try.prog w = .ok (.string ⟨#[c]⟩) w := fun w b h => str_one _ w b (by rw [e1]; exact h)
      have hcb := cons_bytes c l
      have HM : Hid (mtD (j / 10) (c :: l) = mtD k0.toNat []) := by
        show mtD _ _ = _
        rw [hc, ← mtD_pos hj]; exact hm
      have HB : Hid (Below w.heap.size w wr) := hbel
      have hs := hbel.size
      clear e1 hm hbel hc
      go_wp2_with fail
      go_roundw
      case rel => exact ⟨j / 10, _, by go_num, by first | rfl | (rw [hcb]), by simp; omega, HM.out, HB.out.alloc (by omega) _⟩
      case measure => simp [intOf]; omega
    · have : j = 0 := by omega
      subst this
      have hcb := cons_bytes 109 l
      have hz : (ByteArray.mk l.toArray).size = l.length := by simp [ByteArray.size]
      rw [mtD_zero] at hm
      have HM : Hid (l = mtD k0.toNat []) := hm
      clear hm
      go_wp2_with fail
      go_ret
      refine ⟨?_, hbel⟩
      show Ending.returned (.string ((⟨#[109]⟩ : ByteArray) ++ ⟨l.toArray⟩)) = _
      rw [hcb, HM.out]; rfl
/-- Rows that are numbered through from k on. -/
def marksSeg (k : Int) (n : Nat) : List (Int × List UInt8) := (List.range n).map (fun j : Nat => ((k + 2 * j), mkT (k + 2 * j + 1)))
theorem marksSeg_len (k : Int) (n : Nat) : (marksSeg k n).length = n := by simp [marksSeg]
theorem marksSeg_get (k : Int) {n j : Nat} (h : j < n) : (marksSeg k n)[j]? = some ((k + 2 * j), mkT (k + 2 * j + 1)) := by simp [marksSeg, List.getElem?_range h]
theorem laidSeg_take {xs : List (Int × List UInt8)} {cap : Nat} {cur : Array Value} (h : laidSeg xs xs.length cap cur) (hc : xs.length ≤ cap) : cur.toList.take (xs.length * 2) = xs.flatMap encSeg := by
  obtain ⟨h1, h2⟩ := h
  apply List.ext_getElem?
  intro m
  rw [List.getElem?_take]
  by_cases hm : m < xs.length * 2
  · have hj : m / 2 < xs.length := by omega
    have h3 := flat_get encSeg_len xs (m / 2) (m % 2) _ (List.getElem?_eq_getElem hj) (Nat.mod_lt _ (by omega))
    have hmm : m / 2 * 2 + m % 2 = m := by omega
    rw [hmm] at h3
    rw [h3, if_pos hm]
    have hlen : m % 2 < (encSeg xs[m / 2]).length := by rw [encSeg_len]; exact Nat.mod_lt _ (by omega)
    have h4 := h2 (m / 2) _ hj (List.getElem?_eq_getElem hj) (m % 2) _ (List.getElem?_eq_getElem hlen)
    rw [hmm] at h4
    rw [List.getElem?_eq_getElem hlen]
    simpa using h4
  · rw [if_neg hm, List.getElem?_eq_none (by rw [flat_len encSeg_len]; omega)]
theorem gr_refl (w : World) (r : Option Nat) : w.grownBy w r := ⟨rfl, rfl, rfl, Nat.le_refl _, fun _ _ _ => rfl⟩
theorem gr_set {w w1 : World} {g : Nat} (h : w.grownBy w1 (some g)) (i : Nat) (u : Value) : w.grownBy (w1.setCell ⟨g, i, none⟩ u) (some g) :=
  ⟨h.os, h.tape, h.output, by have := h.size; simpa using this, fun k hk hne => by rw [Below.heap_setCell _ _ _ _ (fun e => hne (by rw [e]))]; exact h.block k hk hne⟩
theorem gr_below {w w1 w2 : World} {r : Option Nat} (h : w.grownBy w1 r) (k : Below w1.heap.size w1 w2) : w.grownBy w2 r :=
  ⟨k.os.trans h.os, k.tape.trans h.tape, k.output.trans h.output, Nat.le_trans h.size k.size, fun j hj hne => (k.block j (Nat.lt_of_lt_of_le hj h.size)).trans (h.block j hj hne)⟩
set_option maxHeartbeats 4000000 in
theorem markSegS_some (g cap n : Nat) (k0 : Int) (cur0 : Array Value) (w : World) (hk0 : 0 ≤ k0) (hk1 : k0 ≤ 100000000) (hn : n ≤ 1048576) (hnc : n ≤ cap) (hblk0 : w.heap[g]? = some (.cells cur0 48 (0, 0))) (hsz0 : cur0.size = cap * 2) :
    Calls Try.prog 15 #[.slice (some ⟨g, 0, none⟩) n cap, .int .i64 k0] w fun e w' => e = .returned (.int .i64 (k0 + 2 * n)) ∧ (∃ cur, w'.heap[g]? = some (.cells cur 48 (0, 0)) ∧ laidSeg (marksSeg k0 n) n cap cur) ∧ w.grownBy w' (some g) := by
  go_enter Try.func15, Try.ntmps15
  go_wp2_with fail
  go_loopw [1, 5] (fun q i wr => ∃ k : Nat, k ≤ n ∧ i = .int .i64 k ∧ q = .int .i64 (k0 + 2 * k) ∧ w.grownBy wr (some g) ∧ ∃ cur, wr.heap[g]? = some (.cells cur 48 (0, 0)) ∧ laidSeg (marksSeg k0 n) k cap cur) (fun _ i _ => n - (intOf i).toNat)
  case atStart => exact ⟨0, by omega, rfl, by simp, gr_refl _ _, cur0, hblk0, hsz0, fun j x hj => by omega⟩
  case round =>
    clear hblk0 hsz0
    obtain ⟨k, hk, rfl, rfl, hgr, cur, hblk, hlaid⟩ := hrel
    have hsz := hlaid.1
    by_cases hlt : k < n
    · have hx : (marksSeg k0 n)[k]? = some ((k0 + 2 * k), mkT (k0 + 2 * k + 1)) := marksSeg_get k0 hlt
      have hgl := lt_of_block hblk
      obtain ⟨y0, r0⟩ : ∃ y, wr.cell? ⟨g, k * 2, none⟩ = some y := by rw [cell_block hblk]; exact ⟨_, Array.getElem?_eq_getElem (by omega)⟩
      have hf : ∀ i, wr.frozen? ⟨g, i, none⟩ = false := fun i => free_block hblk
      have HL : Hid (laidSeg (marksSeg k0 n) (k + 1) cap ((cur.setIfInBounds (k * 2) (.int .i64 (k0 + 2 * k))).setIfInBounds (k * 2 + 1) (.string ⟨(mkT (k0 + 2 * k + 1)).toArray⟩))) := laidSeg_step hlaid (by omega) hx
      have HG : Hid ((wr.setCell ⟨g, k * 2, none⟩ (.int .i64 (k0 + 2 * k))).heap[g]? = some (.cells (cur.setIfInBounds (k * 2) (.int .i64 (k0 + 2 * k))) 48 (0, 0)) ∧ w.grownBy (wr.setCell ⟨g, k * 2, none⟩ (.int .i64 (k0 + 2 * k))) (some g)) := ⟨set_block _ hblk, gr_set hgr _ _⟩
      clear hx hlaid hblk hgr
      go_wp2_with fail
      refine (markText (k0 + 2 * k + 1) _ (by omega) (by omega)).mono ?_
      rintro e w2 ⟨rfl, b2⟩
      have g2 : w2.heap[g]? = some (.cells (cur.setIfInBounds (k * 2) (.int .i64 (k0 + 2 * k))) 48 (0, 0)) := by rw [b2.block g (lt_of_block HG.out.1)]; exact HG.out.1
      obtain ⟨y1, r1⟩ : ∃ y, w2.cell? ⟨g, k * 2 + 1, none⟩ = some y := by rw [cell_block g2]; exact ⟨_, Array.getElem?_eq_getElem (by simp; omega)⟩
      have hf2 : ∀ i, w2.frozen? ⟨g, i, none⟩ = false := fun i => free_block g2
      have HG2 : Hid ((w2.setCell ⟨g, k * 2 + 1, none⟩ (.string ⟨(mkT (k0 + 2 * k + 1)).toArray⟩)).heap[g]? = some (.cells ((cur.setIfInBounds (k * 2) (.int .i64 (k0 + 2 * k))).setIfInBounds (k * 2 + 1) (.string ⟨(mkT (k0 + 2 * k + 1)).toArray⟩)) 48 (0, 0)) ∧ w.grownBy (w2.setCell ⟨g, k * 2 + 1, none⟩ (.string ⟨(mkT (k0 + 2 * k + 1)).toArray⟩)) (some g)) := ⟨set_block _ g2, gr_set (gr_below HG.out.2 b2) _ _⟩
      clear g2 b2 HG r0 hf
      generalize mkT (k0 + 2 * k + 1) = tx at *
      go_wp2_with fail
      go_roundw
      case rel => exact ⟨k + 1, by omega, by go_num, by go_num, HG2.out.2, _, HG2.out.1, HL.out⟩
      case measure => simp [intOf]; omega
    · have hkn : k = n := by omega
      subst hkn
      go_wp2_with fail
      go_ret
      exact ⟨rfl, ⟨cur, hblk, hlaid⟩, hgr⟩
set_option maxHeartbeats 400000 in
theorem markSegS_empty (a : Option Addr) (c : Nat) (k0 : Int) (w : World) :
    Calls Try.prog 15 #[.slice a 0 c, .int .i64 k0] w fun e w' => e = .returned (.int .i64 k0) ∧ w' = w := by
  go_enter Try.func15, Try.ntmps15
  go_wp2
  refine wp_loop_rounds 1 ?_
  rw [rounds_succ]
  go_wp2
  go_ret
  exact ⟨rfl, rfl⟩
theorem markSegS (base n : Nat) (v : Value) (k0 : Int) (xs : List Value) (w : World) (hk0 : 0 ≤ k0) (hk1 : k0 ≤ 100000000) (hn : n ≤ 1048576) (hown : w.ownsRow base 48 2 v n xs) :
    Calls Try.prog 15 #[v, .int .i64 k0] w fun e w' => e = .returned (.int .i64 (k0 + 2 * n)) ∧ w'.ownsRow base 48 2 v n ((marksSeg k0 n).flatMap encSeg) ∧ w.grownBy w' v.ownBlock := by
  obtain ⟨_, ⟨rfl, rfl⟩ | ⟨g, cap, cur, rfl, hb, hg, hnc, hm, hs, ht⟩⟩ := hown
  · refine (markSegS_empty none 0 k0 w).mono (fun e w' h => ?_)
    obtain ⟨rfl, rfl⟩ := h
    exact ⟨by simp, by simpa [marksSeg] using World.ownsRow_nil _ _ _ _, gr_refl _ _⟩
  · refine (markSegS_some g cap n k0 cur w hk0 hk1 hn hnc hg hs).mono (fun e w' h => ?_)
    obtain ⟨rfl, ⟨cur', h1, h2⟩, h3⟩ := h
    have h4 := marksSeg_len k0 n
    refine ⟨rfl, ⟨by rw [flat_len encSeg_len, h4], .inr ⟨g, cap, cur', rfl, hb, h1, hnc, hm, h2.1, ?_⟩⟩, h3⟩
    have h5 := laidSeg_take (xs := marksSeg k0 n) (cap := cap) (cur := cur') (by rw [h4]; exact h2) (by rw [h4]; exact hnc)
    rw [h4] at h5
    exact h5
set_option maxHeartbeats 4000000 in
theorem heldSegS_some (b off cap n : Nat) (k0 : Int) (w : World) (hk0 : 0 ≤ k0) (hk1 : k0 ≤ 100000000) (hn : n ≤ 1048576) (hb : b < w.heap.size)
    (hc : ∀ j x, (marksSeg k0 n)[j]? = some x → ∀ i u, (encSeg x)[i]? = some u → w.cell? ⟨b, off + j * 2 + i, none⟩ = some u) :
    Calls Try.prog 16 #[.slice (some ⟨b, off, none⟩) n cap, .int .i64 k0] w fun e w' => e = .returned (.int .i64 (k0 + 2 * n)) ∧ Below w.heap.size w w' := by
  have HC : Hid (∀ j x, (marksSeg k0 n)[j]? = some x → ∀ i u, (encSeg x)[i]? = some u → w.cell? ⟨b, off + j * 2 + i, none⟩ = some u) := hc
  clear hc
  go_enter Try.func16, Try.ntmps16
  go_wp2_with fail
  go_loopw [1, 5] (fun q i wr => ∃ k : Nat, k ≤ n ∧ i = .int .i64 k ∧ q = .int .i64 (k0 + 2 * k) ∧ Below w.heap.size w wr) (fun _ i _ => n - (intOf i).toNat)
  case atStart => exact ⟨0, by omega, rfl, by simp, Below.refl _ _⟩
  case round =>
    obtain ⟨k, hk, rfl, rfl, hbel⟩ := hrel
    by_cases hlt : k < n
    · have hx := marksSeg_get k0 hlt
      have e0 : wr.cell? ⟨b, off + k * 2, none⟩ = some (.int .i64 (k0 + 2 * k)) := by rw [Below.celz hbel _ _ _ hb]; exact HC.out k _ hx 0 _ rfl
      have e1 : wr.cell? ⟨b, off + k * 2 + 1, none⟩ = some (.string ⟨(mkT (k0 + 2 * k + 1)).toArray⟩) := by rw [Below.celz hbel _ _ _ hb]; exact HC.out k _ hx 1 _ rfl
      have hq1 : b < wr.heap.size := Nat.lt_of_lt_of_le hb hbel.size
      have HB : Hid (Below w.heap.size w wr) := hbel
      have HT : Hid (∀ w, Calls Try.prog 33 #[.int .i64 (k0 + 2 * k + 1)] w fun e w' => e = .returned (.string ⟨(mkT (k0 + 2 * k + 1)).toArray⟩) ∧ Below w.heap.size w w') := fun w => markText _ w (by omega) (by omega)
      clear hx hbel
      generalize mkT (k0 + 2 * k + 1) = tx at *
      go_wp2_with fail
      refine wp_region_after (by kernel_rfl) (by kernel_rfl) ?_
      intro hne hac
      repeat (go_big_quiet_step (first | (go_at_call 33; exact after_of (HT.out _))))
      refine wpQuiet_nil ?_
      rintro _ ⟨p, rfl⟩
      have HB2 : Hid (Below w.heap.size w p.w) := HB.out.trans (p.bel.mono HB.out.size)
      clear hac hne e0 e1 HT
      generalize p.w = wq at *
      go_wp2_with fail
      go_roundw
      case rel => exact ⟨k + 1, by omega, by go_num, by go_num, HB2.out⟩
      case measure => simp [intOf]; omega
    · have hkn : k = n := by omega
      subst hkn
      go_wp2_with fail
      go_ret
      exact ⟨rfl, hbel⟩
set_option maxHeartbeats 400000 in
theorem heldSegS_empty (a : Option Addr) (c : Nat) (k0 : Int) (w : World) :
    Calls Try.prog 16 #[.slice a 0 c, .int .i64 k0] w fun e w' => e = .returned (.int .i64 k0) ∧ w' = w := by
  go_enter Try.func16, Try.ntmps16
  go_wp2
  refine wp_loop_rounds 1 ?_
  rw [rounds_succ]
  go_wp2
  go_ret
  exact ⟨rfl, rfl⟩
theorem heldSegS (n : Nat) (v : Value) (k0 : Int) (w : World) (hk0 : 0 ≤ k0) (hk1 : k0 ≤ 100000000) (hn : n ≤ 1048576) (h : RowAt 2 encSeg w v (marksSeg k0 n)) :
    Calls Try.prog 16 #[v, .int .i64 k0] w fun e w' => e = .returned (.int .i64 (k0 + 2 * n)) ∧ Below w.heap.size w w' := by
  have h4 := marksSeg_len k0 n
  rcases h with ⟨hz, a, cap, rfl⟩ | ⟨h0, b, off, cap, rfl, hlt, hc⟩
  · have hn0 : n = 0 := by rw [hz] at h4; simpa using h4.symm
    subst hn0
    exact (heldSegS_empty a cap k0 w).mono (fun e w' h => ⟨by rw [h.1]; simp, by rw [h.2]; exact Below.refl _ _⟩)
  · rw [h4]
    exact heldSegS_some b off cap n k0 w hk0 hk1 hn hlt hc
end Go.Proofs.Ytgjpnhdahigodaa.Lab

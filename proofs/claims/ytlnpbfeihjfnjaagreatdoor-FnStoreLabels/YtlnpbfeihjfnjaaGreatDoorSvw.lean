/-
  What is seen of a store: impl.StoreView and spec.StoreView; the laws' markSegS, heldSegS.
-/
import Derived.Test.YtlnpbfeihjfnjaaGreatDoorSeg
import Derived.Test.YtlnpbfeihjfnjaaGreatDoorShf
import Derived.Test.YtlnpbfeihjfnjaaGreatDoorLabb
import Derived.Test.YtlnpbfeihjfnjaaGreatDoorPck
import Derived.Test.YtlnpbfeihjfnjaaGreatDoorApp
import Derived.Deep.AppendLies
import Derived.Deep.RegionHeld3
import Derived.Deep.RegionLaw
import Derived.Deep.DrawnRows
import Derived.Maps.AppendAt
import Derived.Lib.AppendZeros
import Derived.Laws.OwnMore
namespace Go.Proofs.YtlnpbfeihjfnjaaGreatDoor.Lab
open Go.RowKit
set_option linter.unusedVariables false
attribute [local go_sem ↓] Go.wp_at_zero Go.wp_at_succ
/-- The parts of a store that one sees. -/
def viewS (c : Int) (xs : List (Int × List UInt8)) : List (Int × List UInt8) := xs.filter (fun x => underB x.1 c)
theorem viewS_le (c : Int) (xs : List (Int × List UInt8)) : (viewS c xs).length ≤ xs.length := List.length_filter_le _ _
theorem viewS_in {c : Int} {xs : List (Int × List UInt8)} {k : Nat} {x : Int × List UInt8} (h : xs[k]? = some x) (hu : underB x.1 c = true) : viewS c (xs.take (k + 1)) = viewS c (xs.take k) ++ [x] := by
  unfold viewS
  rw [List.take_add_one, h, List.filter_append]
  simp [hu]
theorem viewS_out {c : Int} {xs : List (Int × List UInt8)} {k : Nat} {x : Int × List UInt8} (h : xs[k]? = some x) (hu : underB x.1 c = false) : viewS c (xs.take (k + 1)) = viewS c (xs.take k) := by
  unfold viewS
  rw [List.take_add_one, h, List.filter_append]
  simp [hu]
theorem appSeg {c : Int} {xs : List (Int × List UInt8)} {k : Nat} {x : Int × List UInt8} {w1 : World} {base : Nat} {v' : Value} (h : xs[k]? = some x) (hu : underB x.1 c = true)
    (ho : w1.ownsRow base 60 2 v' ((viewS c (xs.take k)).length + 1) ((viewS c (xs.take k)).flatMap encSeg ++ encSeg x)) : w1.ownsRow base 60 2 v' (viewS c (xs.take (k + 1))).length ((viewS c (xs.take (k + 1))).flatMap encSeg) := by
  rw [viewS_in h hu]
  simpa [List.flatMap_append] using ho
theorem own_none {w : World} {base B e size : Nat} (h : w.heap[B]? = some (.cells #[] e (0, 0))) (hb : base ≤ B) : w.ownsRow base e size (.slice (some ⟨B, 0, none⟩) 0 0) 0 [] :=
  ⟨by simp, .inr ⟨B, 0, #[], rfl, hb, h, Nat.le_refl _, by simp [maxLen], by simp, by simp⟩⟩
set_option maxHeartbeats 4000000 in
theorem spec_StoreView (v : Value) (c : Int) (xs : List (Int × List UInt8)) (w : World) (h : RowAt 2 encSeg w v xs) (hl : xs.length ≤ 1048576) :
    Calls Tryz.prog 24 #[v, .int .i64 c] w fun e w' => ∃ u, e = .returned u ∧ w'.ownsRow w.heap.size 60 2 u (viewS c xs).length ((viewS c xs).flatMap encSeg) ∧ Below w.heap.size w w' := by
  obtain ⟨a, cap, rfl⟩ := h.len
  obtain ⟨i0, hi, hz0, hz1, hz2⟩ := info_parts Tryz.infoSeg
  have H : Hid (RowAt 2 encSeg w (.slice a xs.length cap) xs) := h
  clear h
  obtain ⟨n, hn⟩ : ∃ n, n = xs.length := ⟨_, rfl⟩
  have HN : Hid (n = xs.length) := hn
  rw [← hn] at H hl ⊢
  clear hn
  have b0 : Hid (Below w.heap.size w (w.alloc (.cells #[] 60))) := (Below.refl _ _).alloc (Nat.le_refl _) _
  go_enter Tryz.func24, Tryz.ntmps24
  go_wp2_with fail
  go_loopw [5, 6] (fun q i wr => ∃ k : Nat, k ≤ n ∧ i = .int .i64 k ∧ Below w.heap.size w wr ∧ wr.ownsRow w.heap.size 60 2 q (viewS c (xs.take k)).length ((viewS c (xs.take k)).flatMap encSeg)) (fun _ i _ => n - (intOf i).toNat)
  case atStart => exact ⟨0, by omega, rfl, b0.out, own_none (new_block _ _) (Nat.le_refl _)⟩
  case round =>
    obtain ⟨k, hk, rfl, hbel, hown⟩ := hrel
    have hsz := hbel.size
    obtain ⟨xa, xc, rfl⟩ := own_form hown
    by_cases hlt : k < n
    · rcases H.out with ⟨hz, _⟩ | ⟨_, b1, o1, q1, hv1, hb1, E1⟩
      · have := HN.out; rw [hz] at this; simp at this; omega
      obtain rfl : a = some ⟨b1, o1, none⟩ := by injection hv1
      obtain ⟨⟨m0, m1⟩, hx⟩ : ∃ x, xs[k]? = some x := ⟨_, List.getElem?_eq_getElem (by rw [← HN.out]; exact hlt)⟩
      have e0 : wr.cell? ⟨b1, o1 + k * 2, none⟩ = some (.int .i64 m0) := by rw [Below.celz hbel _ _ _ hb1]; exact E1 k _ hx 0 _ rfl
      have e1 : wr.cell? ⟨b1, o1 + k * 2 + 1, none⟩ = some (.string ⟨m1.toArray⟩) := by rw [Below.celz hbel _ _ _ hb1]; exact E1 k _ hx 1 _ rfl
      have hle : (viewS c (xs.take k)).length ≤ k := Nat.le_trans (viewS_le _ _) (by simp; omega)
      have z2 : b1 < wr.heap.size := by omega
      have k0 : (0 : Int) ≤ (k : Int) := by omega
      have k1 : (k : Int) < (n : Int) := by omega
      have HX : Hid (xs[k]? = some (m0, m1)) := hx
      have HB : Hid (Below w.heap.size w wr) := hbel
      have lu := spec_LabelUnder m0 c
      clear hx hbel E1 hv1
      cases hu : underB m0 c
      · rw [hu] at lu
        have LU : Hid (∀ w, Calls Tryz.prog 65 #[.int .i64 m0, .int .i64 c] w fun e w' => e = .returned (.bool false) ∧ w' = w) := lu
        have HV : Hid (viewS c (xs.take (k + 1)) = viewS c (xs.take k)) := viewS_out HX.out hu
        have HO : Hid (wr.ownsRow w.heap.size 60 2 (.slice xa (viewS c (xs.take k)).length xc) (viewS c (xs.take k)).length ((viewS c (xs.take k)).flatMap encSeg)) := hown
        clear hown lu
        go_wp2_with (go_at_call 65; refine use (LU.out _) ?_)
        go_roundw
        case rel => exact ⟨k + 1, by omega, by go_num, HB.out, by rw [HV.out]; exact HO.out⟩
        case measure => simp [intOf]; omega
      · rw [hu] at lu
        have LU : Hid (∀ w, Calls Tryz.prog 65 #[.int .i64 m0, .int .i64 c] w fun e w' => e = .returned (.bool true) ∧ w' = w) := lu
        have LT : Hid (∀ g, (Value.slice xa (viewS c (xs.take k)).length xc).ownBlock = some g → w.heap.size ≤ g) := fun g hg => (hown.lt g hg).1
        clear lu
        go_wp2_with (first
          | (go_at_call 65; refine use (LU.out _) ?_)
          | (at_builtin; refine wpList_append_own _ rfl _ _ 28 rfl w.heap.size 60 i0 _ 2 24 Tryz.underlying28 hi hz0 hz1 hz2 rfl (by decide) _ _ _ rfl (hown.alloc _) ⟨wr.heap.size, 0, none⟩ 1 1 [.int .i64 m0, .string ⟨m1.toArray⟩] rfl rfl ?c1 ?c2 ?c3 ?c4 ?c5 ?_))
        case c1 =>
          intro j u hj
          match j, hj with
          | 0, hj => simp at hj; subst hj; simp [Addr.add]
          | 1, hj => simp at hj; subst hj; simp [Addr.add]
        case c2 => intro u hu; simp at hu; rcases hu with rfl | rfl <;> rfl
        case c3 => unfold maxLen; omega
        case c4 => omega
        case c5 => simp; omega
        · intro v' w3 hown' hgrow _
          have R : Hid (Below w.heap.size w w3 ∧ w3.ownsRow w.heap.size 60 2 v' (viewS c (xs.take (k + 1))).length ((viewS c (xs.take (k + 1))).flatMap encSeg)) :=
            ⟨(HB.out.alloc (by omega) _).grown hgrow (by simp; omega) (fun g hg => LT.out g hg), appSeg HX.out hu hown'⟩
          clear hown' hgrow hown e0 e1
          go_wp2_with fail
          go_roundw
          case rel => exact ⟨k + 1, by omega, by go_num, R.out⟩
          case measure => simp [intOf]; omega
    · have hkn : n = k := by omega
      subst hkn
      have HV : Hid (viewS c (xs.take n) = viewS c xs) := by show viewS c (xs.take n) = viewS c xs; rw [HN.out, List.take_length]
      have HO : Hid (wr.ownsRow w.heap.size 60 2 (.slice xa (viewS c (xs.take n)).length xc) (viewS c (xs.take n)).length ((viewS c (xs.take n)).flatMap encSeg)) := hown
      clear hown
      go_wp2_with fail
      go_ret
      refine ⟨_, rfl, ?_, hbel⟩
      have := HO.out
      rw [HV.out] at this
      simpa [HV.out] using this
theorem clone (s : ByteArray) (w : World) (h : s.size ≤ 281474976710656) :
    Calls Tryz.prog 64 #[.string s] w fun e w' => e = .returned (.string s) ∧ Below w.heap.size w w' := by
  go_enter Tryz.func64, Tryz.ntmps64
  go_wp2_with fail
  refine (Tryz.stringslite_Clone s _ h).mono ?_
  rintro e w1 ⟨rfl, bel⟩
  go_wp2_with fail
  go_ret
  exact ⟨rfl, bel⟩
theorem sS_call {base B : Nat} {W1 cur wc : World} {x y : Value} (h : Below base W1 cur ∧ cur.cell? ⟨B, 0, none⟩ = some x ∧ cur.cell? ⟨B, 1, none⟩ = some y) (bc : Below cur.heap.size cur wc) (hb : base ≤ W1.heap.size) (hB : B < W1.heap.size) :
    Below base W1 wc ∧ wc.cell? ⟨B, 0, none⟩ = some x ∧ wc.cell? ⟨B, 1, none⟩ = some y := by
  have := h.1.size
  exact ⟨h.1.trans (bc.mono (by omega)), (Below.celz bc _ _ _ (by omega)).trans h.2.1, (Below.celz bc _ _ _ (by omega)).trans h.2.2⟩
theorem sS_alloc {base B : Nat} {W1 cur : World} {x y : Value} (h : Below base W1 cur ∧ cur.cell? ⟨B, 0, none⟩ = some x ∧ cur.cell? ⟨B, 1, none⟩ = some y) (hb : base ≤ W1.heap.size) (hB : B < W1.heap.size) (o : Obj) :
    Below base W1 (cur.alloc o) ∧ (cur.alloc o).cell? ⟨B, 0, none⟩ = some x ∧ (cur.alloc o).cell? ⟨B, 1, none⟩ = some y := sS_call h ((Below.refl _ _).alloc (Nat.le_refl _) o) hb hB
theorem sS_app {base B : Nat} {W1 cur w3 : World} {x y : Value} {r : Option Nat} (h : Below base W1 cur ∧ cur.cell? ⟨B, 0, none⟩ = some x ∧ cur.cell? ⟨B, 1, none⟩ = some y) (hg : cur.grownBy w3 r) (hb : base ≤ W1.heap.size) (hB : B < W1.heap.size) (hne : r ≠ some B) (hl : ∀ g, r = some g → base ≤ g) :
    Below base W1 w3 ∧ w3.cell? ⟨B, 0, none⟩ = some x ∧ w3.cell? ⟨B, 1, none⟩ = some y := by
  have h1 := h.1.size
  have h2 := hg.block B (by omega) (fun e => hne e.symm)
  exact ⟨h.1.grown hg (by omega) hl, (World.cell?_of_block (a := ⟨B, 0, none⟩) h2).trans h.2.1, (World.cell?_of_block (a := ⟨B, 1, none⟩) h2).trans h.2.2⟩
theorem encSeg_one (x : Int × List UInt8) : ∀ u ∈ encSeg x, u.oneCell' = true := fun u hu => by
  simp [encSeg] at hu
  rcases hu with rfl | rfl <;> rfl
theorem row_new (w : World) (m0 : Int) (m1 : List UInt8) : RowAt 2 encSeg (w.alloc (.cells #[.int .i64 m0, .string ⟨m1.toArray⟩] 60)) (.slice (some ⟨w.heap.size, 0, none⟩) 1 1) [(m0, m1)] := by
  refine .inr ⟨by simp, w.heap.size, 0, 1, rfl, by simp, fun j x hx i u hu => ?_⟩
  have hj : j = 0 := by
    have := (List.getElem?_eq_some_iff.1 hx).1
    simp at this; omega
  subst hj
  simp at hx
  subst hx
  rw [cell_block (new_block _ _)]
  match i, hu with
  | 0, hu => simpa [encSeg] using hu
  | 1, hu => simpa [encSeg] using hu
set_option maxRecDepth 8000 in
set_option maxHeartbeats 8000000 in
theorem impl_StoreView (v : Value) (c : Int) (xs : List (Int × List UInt8)) (w : World) (h : RowAt 2 encSeg w v xs) (hl : xs.length ≤ 1048576) (hlb : ∀ x ∈ xs, x.2.length ≤ 1048576) :
    Calls Tryz.prog 23 #[v, .int .i64 c] w fun e w' => ∃ u, e = .returned u ∧ w'.ownsRow w.heap.size 60 2 u (viewS c xs).length ((viewS c xs).flatMap encSeg) ∧ Below w.heap.size w w' := by
  obtain ⟨a, cap, rfl⟩ := h.len
  obtain ⟨i0, hi, hz0, hz1, hz2⟩ := info_parts Tryz.infoSeg
  have H : Hid (RowAt 2 encSeg w (.slice a xs.length cap) xs) := h
  have HLB : Hid (∀ x ∈ xs, x.2.length ≤ 1048576) := hlb
  clear h hlb
  obtain ⟨n, hn⟩ : ∃ n, n = xs.length := ⟨_, rfl⟩
  have HN : Hid (n = xs.length) := hn
  rw [← hn] at H hl ⊢
  clear hn
  go_enter Tryz.func23, Tryz.ntmps23
  go_wp2_with fail
  go_loopw [5, 10] (fun q i wr => ∃ k : Nat, k ≤ n ∧ i = .int .i64 k ∧ Below w.heap.size w wr ∧ wr.ownsRow w.heap.size 60 2 q (viewS c (xs.take k)).length ((viewS c (xs.take k)).flatMap encSeg)) (fun _ i _ => n - (intOf i).toNat)
  case atStart => exact ⟨0, by omega, rfl, Below.refl _ _, World.ownsRow_nil _ _ _ _⟩
  case round =>
    obtain ⟨k, hk, rfl, hbel, hown⟩ := hrel
    have hsz := hbel.size
    obtain ⟨xa, xc, rfl⟩ := own_form hown
    by_cases hlt : k < n
    · rcases H.out with ⟨hz, _⟩ | ⟨_, b1, o1, q1, hv1, hb1, E1⟩
      · have := HN.out; rw [hz] at this; simp at this; omega
      obtain rfl : a = some ⟨b1, o1, none⟩ := by injection hv1
      obtain ⟨⟨m0, m1⟩, hx⟩ : ∃ x, xs[k]? = some x := ⟨_, List.getElem?_eq_getElem (by rw [← HN.out]; exact hlt)⟩
      have hm1 : m1.length ≤ 1048576 := HLB.out _ (List.mem_of_getElem? hx)
      have e0 : wr.cell? ⟨b1, o1 + k * 2, none⟩ = some (.int .i64 m0) := by rw [Below.celz hbel _ _ _ hb1]; exact E1 k _ hx 0 _ rfl
      have e1 : wr.cell? ⟨b1, o1 + k * 2 + 1, none⟩ = some (.string ⟨m1.toArray⟩) := by rw [Below.celz hbel _ _ _ hb1]; exact E1 k _ hx 1 _ rfl
      have hle : (viewS c (xs.take k)).length ≤ k := Nat.le_trans (viewS_le _ _) (by simp; omega)
      have z2 : b1 < wr.heap.size := by omega
      have k0 : (0 : Int) ≤ (k : Int) := by omega
      have k1 : (k : Int) < (n : Int) := by omega
      have HX : Hid (xs[k]? = some (m0, m1)) := hx
      have HB : Hid (Below w.heap.size w wr) := hbel
      have lu := impl_LabelUnder m0 c
      clear hx hbel E1 hv1
      cases hu : underB m0 c
      · rw [hu] at lu
        have LU : Hid (∀ w, Calls Tryz.prog 31 #[.int .i64 m0, .int .i64 c] w fun e w' => e = .returned (.bool false) ∧ w' = w) := lu
        have HV : Hid (viewS c (xs.take (k + 1)) = viewS c (xs.take k)) := viewS_out HX.out hu
        have HO : Hid (wr.ownsRow w.heap.size 60 2 (.slice xa (viewS c (xs.take k)).length xc) (viewS c (xs.take k)).length ((viewS c (xs.take k)).flatMap encSeg)) := hown
        clear hown lu
        go_wp2_with (go_at_call 31; refine use (LU.out _) ?_)
        go_roundw
        case rel => exact ⟨k + 1, by omega, by go_num, HB.out.alloc (by omega) _, by rw [HV.out]; exact HO.out.alloc _⟩
        case measure => simp [intOf]; omega
      · rw [hu] at lu
        have LU : Hid (∀ w, Calls Tryz.prog 31 #[.int .i64 m0, .int .i64 c] w fun e w' => e = .returned (.bool true) ∧ w' = w) := lu
        have LT : Hid (∀ g, (Value.slice xa (viewS c (xs.take k)).length xc).ownBlock = some g → w.heap.size ≤ g ∧ g < wr.heap.size) := fun g hg => hown.lt g hg
        clear lu
        obtain ⟨W1, hW1⟩ : ∃ W1, W1 = wr.alloc (.cells #[.int .i64 m0, .string ⟨m1.toArray⟩] 60) := ⟨_, rfl⟩
        have y0 : W1.cell? ⟨wr.heap.size, 0, none⟩ = some (.int .i64 m0) := by rw [hW1]; simp [go_sem]
        have y1 : W1.cell? ⟨wr.heap.size, 1, none⟩ = some (.string ⟨m1.toArray⟩) := by rw [hW1]; simp [go_sem]
        have y2 : W1.heap.size = wr.heap.size + 1 := by rw [hW1]; simp
        have y3 : W1.ownsRow w.heap.size 60 2 (.slice xa (viewS c (xs.take k)).length xc) (viewS c (xs.take k)).length ((viewS c (xs.take k)).flatMap encSeg) := by rw [hW1]; exact hown.alloc _
        have HB1 : Hid (Below w.heap.size w W1) := by show Below _ _ _; rw [hW1]; exact HB.out.alloc (by omega) _
        have HW1 : Hid (W1 = wr.alloc (.cells #[.int .i64 m0, .string ⟨m1.toArray⟩] 60)) := hW1
        have y4 : w.heap.size ≤ W1.heap.size := by omega
        have y5 : wr.heap.size < W1.heap.size := by omega
        clear hW1 hown y2
        go_wp2_with (go_at_call 31; refine use (LU.out _) ?_)
        rw [← HW1.out]
        have hlim : (ByteArray.mk m1.toArray).size ≤ 281474976710656 := by simp [ByteArray.size]; omega
        clear HW1 e0 e1 z2
        go_region_held3 (fun w' => Below w.heap.size W1 w' ∧ w'.cell? ⟨wr.heap.size, 0, none⟩ = some (.int .i64 m0) ∧ w'.cell? ⟨wr.heap.size, 1, none⟩ = some (.string ⟨m1.toArray⟩))
          (first | exact ⟨(Below.refl _ _).drew, y0, y1⟩ | with_reducible exact sS_call (by assumption) bc y4 y5 | with_reducible exact sS_app (by assumption) hg3 y4 y5 (fun h => by have := LT.out _ h; omega) (fun g h => (LT.out g h).1) | with_reducible exact sS_alloc (by assumption) y4 y5 _)
          (first
            | (go_at_call 64; refine (clone _ _ hlim).mono ?_; rintro e wc ⟨rfl, bc⟩)
            | (refine step_appRow encSeg_len (by decide) encSeg_one (by rfl) _ _ _ (by rfl) Tryz.underlying28 hi hz0 hz1 hz2 rfl w.heap.size (.slice xa (viewS c (xs.take k)).length xc) _ _ (.slice (some ⟨wc.heap.size, 0, none⟩) 1 1) [(m0, m1)] (by rfl) (by rfl) ((own_keep (w := W1.drew) y3 bc).alloc _) (row_new wc m0 m1) (by unfold maxLen; simp; omega) (by simp; omega) (by have := bc.size; simp at this ⊢; omega) ?_; intro v3 w3 ho3 hg3 ha3; obtain ⟨x3, z3, rfl⟩ := own_form ho3))
        all_goals (
          have R : Hid (Below w.heap.size w w3 ∧ w3.ownsRow w.heap.size 60 2 (.slice x3 ((viewS c (xs.take k)).length + 1) z3) (viewS c (xs.take (k + 1))).length ((viewS c (xs.take (k + 1))).flatMap encSeg)) := by
            refine ⟨?_, appSeg HX.out hu (by simpa using ho3)⟩
            have hcur : Below w.heap.size W1 w3 := And.left (by assumption)
            exact HB1.out.trans hcur
          clear ho3 hg3 ha3 bc
          go_wp2_with fail
          go_roundw
          case rel => exact ⟨k + 1, by omega, by go_num, R.out⟩
          case measure => simp [intOf]; omega)
    · have hkn : n = k := by omega
      subst hkn
      have HV : Hid (viewS c (xs.take n) = viewS c xs) := by show viewS c (xs.take n) = viewS c xs; rw [HN.out, List.take_length]
      have HO : Hid (wr.ownsRow w.heap.size 60 2 (.slice xa (viewS c (xs.take n)).length xc) (viewS c (xs.take n)).length ((viewS c (xs.take n)).flatMap encSeg)) := hown
      clear hown
      go_wp2_with fail
      go_ret
      refine ⟨_, rfl, ?_, hbel⟩
      have := HO.out
      rw [HV.out] at this
      simpa [HV.out] using this
end Go.Proofs.YtlnpbfeihjfnjaaGreatDoor.Lab

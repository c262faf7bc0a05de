/-
  Rows read from bytes: in plain words, and the contract of spec.RowAt.
-/
import Derived.Test.YtlnpbfeihjfnjabGreatDoorQNum
import Derived.Test.YtlnpbfeihjfnjabGreatDoorQIts
import Derived.Test.YtlnpbfeihjfnjabGreatDoorQNod
namespace Go.Proofs.YtlnpbfeihjfnjabGreatDoor.Lab
open Go.RowKit
set_option linter.unusedVariables false
theorem nmO_bd {s : ByteArray} {a n k : Int} (h : nmO s a = some (n, k)) : 0 ≤ n ∧ n ≤ 16383 ∧ a < k ∧ 0 ≤ a ∧ k ≤ s.size := by
  by_cases h1 : a < 0 ∨ (s.size : Int) ≤ a
  · rw [nmO_out h1] at h; cases h
  obtain ⟨j, rfl⟩ := Int.eq_ofNat_of_zero_le (show 0 ≤ a by omega)
  have hj : j < s.size := by omega
  have b1 := bt_bd s j
  have b2 := bt_bd s (j + 1)
  by_cases h2 : bt s j < 128
  · rw [nmO_one hj h2] at h
    simp only [Option.some.injEq, Prod.mk.injEq] at h
    omega
  · by_cases h3 : s.size ≤ j + 1 ∨ bt s j = 128 ∨ 127 < bt s (j + 1)
    · rw [nmO_bad hj (by omega) h3] at h; cases h
    · rw [nmO_two (by omega) (by omega) (by omega)] at h
      simp only [Option.some.injEq, Prod.mk.injEq] at h
      omega
/-- So many gaps more are read from a place on, behind what has been read. -/
def rwK (s : ByteArray) : Nat → Int → Int → List Int → Option (List Int × Int)
  | 0, k, last, acc => some (acc, k)
  | c + 1, k, last, acc => match nmO s k with
    | none => none
    | some (g, k') => if 16383 < last + 1 + g then none else rwK s c k' (last + 1 + g) (acc ++ [last + 1 + g])
/-- The row at a place, and the place behind it; none, if there is none. -/
def rwO (s : ByteArray) (a : Int) : Option (List Int × Int) := match nmO s a with
  | none => none
  | some (n, k) => if 127 < n then none else rwK s n.toNat k (-1) []
theorem rwK_succ {s : ByteArray} {c : Nat} {k last : Int} {acc : List Int} : rwK s (c + 1) k last acc = match nmO s k with
    | none => none
    | some (g, k') => if 16383 < last + 1 + g then none else rwK s c k' (last + 1 + g) (acc ++ [last + 1 + g]) := rfl
theorem rwK_len {s : ByteArray} : ∀ (c : Nat) (k last : Int) (acc : List Int) {l : List Int} {k' : Int}, rwK s c k last acc = some (l, k') → l.length = acc.length + c := by
  intro c
  induction c with
  | zero => intro k last acc l k' h; simp only [rwK, Option.some.injEq, Prod.mk.injEq] at h; rw [← h.1]; rfl
  | succ c ih =>
    intro k last acc l k' h
    rw [rwK_succ] at h
    cases hq : nmO s k with
    | none => rw [hq] at h; cases h
    | some y =>
      obtain ⟨g, k2⟩ := y
      rw [hq] at h
      simp only at h
      split at h
      · cases h
      · have := ih _ _ _ h
        simp at this; omega
theorem own_zero {w : World} {base B e size : Nat} (h : w.heap[B]? = some (.cells #[] e (0, 0))) (hb : base ≤ B) : w.ownsRow base e size (.slice (some ⟨B, 0, none⟩) 0 0) 0 [] :=
  ⟨by simp, .inr ⟨B, 0, #[], rfl, hb, h, Nat.le_refl _, by unfold maxLen; omega, by simp, by simp⟩⟩
/-- What RowAt hands back. -/
def RwRet (w : World) (base : Nat) (v : Value) : Option (List Int × Int) → Prop
  | none => ∃ u, v = .tuple #[u, .int .i64 0, .bool false] ∧ w.ownsRow base 3 1 u 0 []
  | some (l, k) => ∃ u, v = .tuple #[u, .int .i64 k, .bool true] ∧ w.ownsRow base 3 1 u l.length (l.flatMap encI)
set_option maxRecDepth 8000 in
set_option maxHeartbeats 4000000 in
theorem spec_RowAt (s : ByteArray) (at_ : Int) (w : World) (hs : s.size ≤ 1048576) :
    Calls Tryz.prog 61 #[.string s, .int .i64 at_] w fun e w' => ∃ v, e = .returned v ∧ RwRet w' w.heap.size v (rwO s at_) ∧ Below w.heap.size w w' := by
  obtain ⟨i0, hi, hz0, hz1, hz2⟩ := info_parts Tryz.infoI
  cases hq : nmO s at_ with
  | none =>
    have HR : Hid (rwO s at_ = none) := by show rwO s at_ = none; simp [rwO, hq]
    have HQ : Hid (nmO s at_ = none) := hq
    clear hq
    go_enter Tryz.func61, Tryz.ntmps61
    go_wp2_with fail
    refine (spec_NumAt s at_ _ (by omega)).mono ?_
    rintro e w1 ⟨rfl, b1⟩
    rw [HQ.out]
    simp only [nmV]
    have B1 : Hid (Below w.heap.size w w1) := b1
    clear b1
    go_wp2_with fail
    go_ret3
    exact ⟨_, rfl, by rw [HR.out]; exact ⟨_, rfl, own_zero (new_block _ _) B1.out.size⟩, B1.out.alloc B1.out.size _⟩
  | some y =>
    obtain ⟨n, k⟩ := y
    have bd := nmO_bd hq
    have HQ : Hid (nmO s at_ = some (n, k)) := hq
    by_cases h127 : 127 < n
    · have HR : Hid (rwO s at_ = none) := by show rwO s at_ = none; simp [rwO, hq, h127]
      clear hq
      go_enter Tryz.func61, Tryz.ntmps61
      go_wp2_with fail
      refine (spec_NumAt s at_ _ (by omega)).mono ?_
      rintro e w1 ⟨rfl, b1⟩
      rw [HQ.out]
      simp only [nmV]
      have B1 : Hid (Below w.heap.size w w1) := b1
      clear b1
      go_wp2_with fail
      go_ret3
      exact ⟨_, rfl, by rw [HR.out]; exact ⟨_, rfl, own_zero (new_block _ _) B1.out.size⟩, B1.out.alloc B1.out.size _⟩
    · have HR : Hid (rwO s at_ = rwK s n.toNat k (-1) []) := by show rwO s at_ = _; simp [rwO, hq, h127]
      obtain ⟨c, rfl⟩ := Int.eq_ofNat_of_zero_le bd.1
      clear hq
      go_enter Tryz.func61, Tryz.ntmps61
      go_wp2_with fail
      refine (spec_NumAt s at_ _ (by omega)).mono ?_
      rintro e w1 ⟨rfl, b1⟩
      rw [HQ.out]
      simp only [nmV]
      have B1 : Hid (Below w.heap.size w w1) := b1
      clear b1
      go_wp2_with fail
      go_loopw [8, 9, 10, 11, 12] (fun q8 q9 q10 q11 q12 wr => ∃ (j : Nat) (p last : Int) (acc : List Int), j ≤ c ∧ q8 = .int .i64 p ∧ q9 = .bool true ∧ q11 = .int .i64 last ∧ q12 = .int .i64 j ∧ acc.length = j ∧ -1 ≤ last ∧ last ≤ 16383 ∧ rwK s (c - j) p last acc = rwK s c k (-1) [] ∧ Below w.heap.size w wr ∧ wr.ownsRow w.heap.size 3 1 q10 acc.length (acc.flatMap encI)) (fun _ _ _ _ q12 _ => c - (intOf q12).toNat)
      case atStart => exact ⟨0, k, -1, [], by omega, rfl, rfl, rfl, rfl, rfl, by omega, by omega, rfl, B1.out.alloc B1.out.size _, own_zero (new_block _ _) B1.out.size⟩
      case round =>
        obtain ⟨j, p, last, acc, hj, rfl, rfl, rfl, rfl, hal, l0, l1, hk, hbel, hown⟩ := hrel
        obtain ⟨xa, xc, rfl⟩ := own_form hown
        have hsz := hbel.size
        have HAL : Hid (acc.length = j) := hal
        clear hal
        by_cases hlt : j < c
        · have hc : c - j = (c - (j + 1)) + 1 := by omega
          rw [hc, rwK_succ] at hk
          have HB : Hid (Below w.heap.size w wr) := hbel
          cases hq : nmO s p with
          | none =>
            rw [hq] at hk
            have HK : Hid (none = rwK s c k (-1) []) := hk
            have HQ2 : Hid (nmO s p = none) := hq
            clear hk hq hown hbel
            go_wp2_with fail
            refine (spec_NumAt s p _ (by omega)).mono ?_
            rintro e w2 ⟨rfl, b2⟩
            rw [HQ2.out]
            simp only [nmV]
            have B2 : Hid (Below w.heap.size w w2) := HB.out.trans (b2.mono HB.out.size)
            clear b2
            go_wp2_with fail
            go_ret3
            exact ⟨_, rfl, by rw [HR.out]; show RwRet _ _ _ (rwK s c k (-1) []); rw [← HK.out]; exact ⟨_, rfl, own_zero (new_block _ _) B2.out.size⟩, B2.out.alloc B2.out.size _⟩
          | some y =>
            obtain ⟨g, p'⟩ := y
            have bg := nmO_bd hq
            rw [hq] at hk
            simp only at hk
            have HQ2 : Hid (nmO s p = some (g, p')) := hq
            by_cases hbig : 16383 < last + 1 + g
            · rw [if_pos hbig] at hk
              have HK : Hid (none = rwK s c k (-1) []) := hk
              clear hk hq hown hbel
              go_wp2_with fail
              refine (spec_NumAt s p _ (by omega)).mono ?_
              rintro e w2 ⟨rfl, b2⟩
              rw [HQ2.out]
              simp only [nmV]
              have B2 : Hid (Below w.heap.size w w2) := HB.out.trans (b2.mono HB.out.size)
              clear b2
              go_wp2_with fail
              go_ret3
              exact ⟨_, rfl, by rw [HR.out]; show RwRet _ _ _ (rwK s c k (-1) []); rw [← HK.out]; exact ⟨_, rfl, own_zero (new_block _ _) B2.out.size⟩, B2.out.alloc B2.out.size _⟩
            · rw [if_neg hbig] at hk
              have HK : Hid (rwK s (c - (j + 1)) p' (last + 1 + g) (acc ++ [last + 1 + g]) = rwK s c k (-1) []) := hk
              have LT : Hid (∀ z, (Value.slice xa acc.length xc).ownBlock = some z → w.heap.size ≤ z) := fun z hz => (hown.lt z hz).1
              have HO : Hid (∀ w', Below wr.heap.size wr w' → w'.ownsRow w.heap.size 3 1 (.slice xa acc.length xc) acc.length (acc.flatMap encI)) := fun w' hb => own_keep hown hb
              clear hk hq hown hbel
              go_wp2_with fail
              refine (spec_NumAt s p _ (by omega)).mono ?_
              rintro e w2 ⟨rfl, b2⟩
              rw [HQ2.out]
              simp only [nmV]
              have B2 : Hid (Below w.heap.size w w2) := HB.out.trans (b2.mono HB.out.size)
              have hown := HO.out _ b2
              have s2 := B2.out.size
              clear b2 HO
              go_wp2_with (at_builtin; refine wpList_append_own _ rfl _ _ 81 rfl w.heap.size 3 i0 _ 1 8 Tryz.underlying81 hi hz0 hz1 hz2 rfl (by decide) _ _ _ rfl (hown.alloc _) ⟨w2.heap.size, 0, none⟩ 1 1 [.int .i64 (last + 1 + g)] rfl rfl ?c1 ?c2 ?c3 ?c4 ?c5 ?_)
              case c1 =>
                intro i u hu
                match i, hu with
                | 0, hu => simp at hu; subst hu; simp [Addr.add]
              case c2 => intro u hu; simp at hu; subst hu; rfl
              case c3 => have := HAL.out; unfold maxLen; omega
              case c4 => have := HAL.out; omega
              case c5 => simp; omega
              · intro v' w3 hown' hgrow _
                have R : Hid (Below w.heap.size w w3 ∧ w3.ownsRow w.heap.size 3 1 v' (acc ++ [last + 1 + g]).length ((acc ++ [last + 1 + g]).flatMap encI)) :=
                  ⟨(B2.out.alloc (by omega) _).grown hgrow (by simp; omega) (fun z hz => LT.out z hz), by simpa [List.flatMap_append, encI] using hown'⟩
                clear hown' hgrow hown
                go_wp2_with fail
                go_roundw
                case rel => exact ⟨j + 1, p', last + 1 + g, acc ++ [last + 1 + g], by omega, rfl, rfl, rfl, by go_num, by simp [HAL.out], by omega, by omega, HK.out, R.out⟩
                case measure => simp [intOf]; omega
        · have hjc : j = c := by omega
          subst hjc
          rw [Nat.sub_self] at hk
          have HK : Hid (some (acc, p) = rwK s j k (-1) []) := hk
          have HO : Hid (wr.ownsRow w.heap.size 3 1 (.slice xa acc.length xc) acc.length (acc.flatMap encI)) := hown
          clear hk hown
          go_wp2_with fail
          go_ret3
          exact ⟨_, rfl, by rw [HR.out]; show RwRet _ _ _ (rwK s j k (-1) []); rw [← HK.out]; exact ⟨_, rfl, HO.out⟩, hbel⟩
end Go.Proofs.YtlnpbfeihjfnjabGreatDoor.Lab

/-
  Rows as bytes by impl: gaps by a range over a function, a builder; the contract of impl.PackRow.
-/
import Derived.Test.YtlnpbfeihjfnjabGreatDoorQPrw
import Derived.Test.YtlnpbfeihjfnjabGreatDoorQBld
namespace Go.Proofs.YtlnpbfeihjfnjabGreatDoor.Lab
open Go.RowKit Go.Shelf
set_option linter.unusedVariables false
attribute [local go_sem] Oper.semAt_some
set_option maxHeartbeats 400000 in
theorem gapsOf (v : Value) (w : World) (hv : v.oneCell' = true) (ha : ∃ a n c, v = .slice a n c) :
    Calls Tryz.prog 78 #[v] w fun e w' => e = .returned (.func (.func 96) #[] #[.pointer (some ⟨w.heap.size, 0, none⟩)]) ∧ w' = w.alloc (.cells #[v] 81) := by
  obtain ⟨a, n, c, rfl⟩ := ha
  go_enter Tryz.func78, Tryz.ntmps78
  go_wp2
  go_ret
  exact ⟨rfl, rfl⟩
theorem bld_kept {T e B b : Nat} {bs : List Value} {W W' : World} {row : Option Nat} (h : Lib.IsBuilder T e B b bs W) (hg : W.grownBy W' row) (hr : ∀ r, row = some r → ∃ o : Obj, W.heap[r]? = some o ∧ o.isCells = false) : Lib.IsBuilder T e B b bs W' := by
  have one : ∀ p, Lib.BuilderAt T e B b p bs W → Lib.BuilderAt T e B b p bs W' := fun p h => by
    obtain ⟨h1, v, h2, h3, h4⟩ := h
    refine ⟨h1, v, ?_, own_gr h3 hg (fun k hk hrow => ?_), h4⟩
    · rw [hg.block b (lt_of_block h2) (fun e => ?_)]
      · exact h2
      · obtain ⟨o, ho, hn⟩ := hr b e.symm
        rw [h2] at ho; cases ho; cases hn
    · obtain ⟨o, ho, hn⟩ := hr k hrow
      obtain ⟨_, hx | ⟨g, cap, cur, rfl, _, hgk, _⟩⟩ := h3
      · rw [hx.1] at hk; simp [Value.ownBlock] at hk
      · simp [Value.ownBlock] at hk; subst hk
        rw [hgk] at ho; cases ho; cases hn
  exact h.elim (fun x => .inl (one _ x)) (fun x => .inr (one _ x))
theorem below_grown {w w' : World} (h : Below w.heap.size w w') : w.grownBy w' none := ⟨h.os, h.tape, h.output, h.size, fun k hk _ => h.block k hk⟩
theorem below_keeps {w w' : World} (h : Below w.heap.size w w') : KeepsOthers w w' := ⟨h.size, fun k o hk _ => (h.block k (Array.getElem?_eq_some_iff.1 hk).1).trans hk⟩
theorem bld_below {T e B b : Nat} {bs : List Value} {W W' : World} (h : Lib.IsBuilder T e B b bs W) (hb : Below W.heap.size W W') : Lib.IsBuilder T e B b bs W' := bld_kept h (below_grown hb) (fun r e => by cases e)
/-- Between two rounds: so many gaps have been written. -/
structure PI (w : World) (xs : List Int) (Bx : Nat) (v : Value) (k : Nat) (W : World) : Prop where
  bl : Lib.IsBuilder 88 5 w.heap.size w.heap.size (Lib.byteCells (rowK xs k)) W
  be : Below w.heap.size w W
  bx : k = 0 → Boxed W Bx 81 v
def piR (xs : List Int) (k : Nat) (x : Int) (k' : Nat) : Prop := k < xs.length ∧ x = gapAt xs k ∧ k' = k + 1
set_option maxRecDepth 100000 in
set_option maxHeartbeats 2000000 in
theorem gapsOf1 (w : World) (a : Option Addr) (cap n Bx : Nat) (xs : List Int) (hrow : RowAt 1 encI w (.slice a xs.length cap) xs) (hok : ∀ j, j < xs.length → okAt xs j = true) (hl : xs.length ≤ 127) (l : Nat) (J : Nat → World → Prop) (W : World)
    (hJI : ∀ k V, J k V → PI w xs Bx (.slice a xs.length cap) k V)
    (hY : ∀ k x k' V, J k V → piR xs k x k' → YieldAt Fence.wide n Tryz.prog l #[.int .i64 x] V fun e V' => e = .returned (.bool true) ∧ J k' V') (h0 : J 0 W) :
    CallsIn Fence.wide (n + 1) Tryz.prog 96 #[.func (.yield l) #[] #[], .pointer (some ⟨Bx, 0, none⟩)] W fun e V => (∃ v, e = .returned v) ∧ ∃ k, k = xs.length ∧ J k V := by
  have c0 := ((hJI _ _ h0).bx rfl).cell
  have HR : Hid (RowAt 1 encI w (.slice a xs.length cap) xs) := hrow
  have HO : Hid (∀ j, j < xs.length → okAt xs j = true) := hok
  clear hrow hok
  obtain ⟨m, hm⟩ : ∃ m, m = xs.length := ⟨_, rfl⟩
  have HM : Hid (m = xs.length) := hm
  rw [← hm] at c0 hl HR
  clear hm
  refine callsIn_of_wp Tryz.func96 rfl trivial ?_ rfl
  simp only [Tryz.ntmps96, List.size_toArray, List.length_cons, List.length_nil, Nat.reduceAdd, Nat.reduceSub, Array.replicate_succ, Array.replicate_zero, List.push_toArray, List.append_toArray, List.nil_append, List.cons_append]
  gi_wp2
  clear c0
  gi_loopw [3, 8] (fun q i wr => ∃ (k : Nat) (y : Int), k ≤ m ∧ i = .int .i64 k ∧ q = .int .i64 y ∧ y = lastAt xs k ∧ J k wr) (fun _ i _ => m - (intOf i).toNat)
  case atStart => exact ⟨0, -1, by omega, rfl, rfl, rfl, h0⟩
  case round =>
    obtain ⟨k, y, hk, rfl, rfl, hy, hJ⟩ := hrel
    by_cases hlt : k < m
    · rcases HR.out with ⟨hz, _⟩ | ⟨_, b1, o1, q1, hv1, hb1, E1⟩
      · have := HM.out; rw [hz] at this; simp at this; omega
      obtain rfl : a = some ⟨b1, o1, none⟩ := by injection hv1
      obtain ⟨x, hx⟩ : ∃ x, xs[k]? = some x := ⟨_, List.getElem?_eq_getElem (by rw [← HM.out]; exact hlt)⟩
      have pi := hJI _ _ hJ
      have e0 : wr.cell? ⟨b1, o1 + k, none⟩ = some (.int .i64 x) := by rw [Below.celz pi.be _ _ _ hb1]; exact cellI E1 hx
      obtain ⟨x0, x1, x2⟩ := (okAt_iff hx).1 (HO.out k (by rw [← HM.out]; exact hlt))
      have y0 : -1 ≤ y ∧ y ≤ 16383 := by rw [hy]; exact lastAt_bd (fun i hi => HO.out i (by rw [← HM.out]; omega))
      have HG : gapAt xs k = x - y - 1 := by unfold gapAt; rw [getD_of hx, hy]
      have HX : Hid (xs[k]? = some x) := hx
      rw [← hy] at x2
      obtain ⟨fn, tmps, assign, body, hyl, hR⟩ := hY k (x - y - 1) (k + 1) wr hJ ⟨by rw [← HM.out]; exact hlt, HG.symm, rfl⟩
      have k0 : (0 : Int) ≤ (k : Int) := by omega
      have k1 : (k : Int) < (m : Int) := by omega
      clear hx E1 hv1 hy pi HG
      gi_wp2
      refine hR.mono ?_
      rintro e W3 ⟨rfl, hJ3⟩
      clear hyl hR e0
      gi_wp2
      go_roundw
      case rel =>
        refine ⟨k + 1, x, by omega, by go_num, rfl, ?_, hJ3⟩
        simp only [lastAt, if_neg (Nat.succ_ne_zero k), Nat.add_sub_cancel]; exact (getD_of HX.out).symm
      case measure => simp [intOf]; omega
    · have hkm : k = m := by omega
      subst hkm
      gi_wp2
      first | go_end0 | refine bodyPost_ret (results_none rfl _ _ _) rfl ?_
      exact ⟨⟨_, rfl⟩, k, HM.out, hJ⟩
/-- How a call of PackRow ends. -/
def PackPost (w : World) (xs : List Int) (e : Ending) (w' : World) : Prop := e = .returned (.string ⟨(rowL xs).toArray⟩) ∧ Below w.heap.size w w'
set_option maxRecDepth 100000 in
set_option maxHeartbeats 4000000 in
theorem impl_PackRow (v : Value) (xs : List Int) (w : World) (h : RowAt 1 encI w v xs) (hl : xs.length ≤ 1048576) :
    Calls Tryz.prog 54 #[v] w (PackPost w xs) := by
  obtain ⟨a, cap, rfl⟩ := h.len
  have HR : Hid (RowAt 1 encI w (.slice a xs.length cap) xs) := h
  have HK : Hid (Calls Tryz.prog 77 #[.slice a xs.length cap] w fun e w' => e = .returned (.bool (upB xs)) ∧ w' = w) := rowOk _ xs w h hl
  clear h
  cases hu : upB xs
  · rw [hu] at HK
    have HL : Hid (rowL xs = []) := by show rowL xs = []; simp [rowL, hu]
    clear hu
    go_enter Tryz.func54, Tryz.ntmps54
    go_wp2_with fail
    refine HK.out.mono ?_
    rintro e w1 ⟨rfl, rfl⟩
    go_wp2_with fail
    go_ret
    exact ⟨by rw [HL.out]; rfl, Below.refl _ _⟩
  · rw [hu] at HK
    have HL : Hid (rowL xs = rowK xs xs.length) := by show rowL xs = _; simp [rowL, hu]
    obtain ⟨hall, hlen⟩ := upB_all hu
    have HA : Hid (∀ j, j < xs.length → okAt xs j = true) := hall
    clear hall hu hl
    refine (callsIn_wide (n := 6)).1 ?_
    refine callsIn_of_wp_marks Tryz.func54 rfl trivial ?_ rfl
    simp only [Tryz.ntmps54, List.size_toArray, List.length_cons, List.length_nil, Nat.reduceAdd, Nat.reduceSub, Array.replicate_succ, Array.replicate_zero, List.push_toArray, List.append_toArray, List.nil_append, List.cons_append]
    gi_wp2_with fail
    refine ⟨trivial, (callsIn_wide.2 HK.out).mono ?_⟩
    rintro e w1 ⟨rfl, rfl⟩
    gi_wp2_with fail
    refine ⟨trivial, (callsIn_wide.2 (impl_PackNum0 (xs.length : Int) _)).mono ?_⟩
    rintro e w2 ⟨rfl, b2⟩
    have B2 : Below w1.heap.size w1 w2 := ((Below.refl _ _).alloc (Nat.le_refl _) _).trans (b2.mono (by simp))
    have I2 : Lib.IsBuilder 88 5 w1.heap.size w1.heap.size (Lib.byteCells []) w2 := bld_below (Lib.fresh_isBuilder _ _ w1) b2
    have L0 := pkL_len (xs.length : Int)
    have HW : Hid (Calls Tryz.prog 53 #[.pointer (some ⟨w1.heap.size, 0, none⟩), .string (pkB (xs.length : Int))] w2 fun e w' => (∃ v, e = .returned v) ∧ Lib.IsBuilder 88 5 w1.heap.size w1.heap.size (Lib.byteCells ([] ++ pkL (xs.length : Int))) w' ∧ Below w1.heap.size w2 w' ∧ KeepsOthers w2 w') := bl_write w1.heap.size w1.heap.size [] (pkL (xs.length : Int)) w2 I2 (by simp; omega) B2.size
    have HB2 : Hid (Below w1.heap.size w1 w2) := B2
    clear b2 B2 I2 L0
    gi_wp2_with fail
    refine ⟨trivial, (callsIn_wide.2 HW.out).mono ?_⟩
    rintro e w3 ⟨⟨v3, rfl⟩, h3, b3, k3⟩
    have HB3 : Hid (Below w1.heap.size w1 w3) := HB2.out.trans b3
    have HI3 : Hid (Lib.IsBuilder 88 5 w1.heap.size w1.heap.size (Lib.byteCells (rowK xs 0)) w3) := by
      show Lib.IsBuilder _ _ _ _ _ _
      rw [rowK_zero]; simpa using h3
    have s3 : w1.heap.size ≤ w3.heap.size := HB3.out.size
    have hlt3 : w1.heap.size < w3.heap.size := by
      rcases HI3.out with h | h <;> exact h.lt
    clear h3 b3 k3 HW HB2
    gi_wp2_with fail
    refine ⟨trivial, (callsIn_wide.2 (gapsOf _ _ rfl ⟨_, _, _, rfl⟩)).mono ?_⟩
    rintro e w4 ⟨rfl, rfl⟩
    gi_wp2_with fail
    have PI0 : PI w1 xs w3.heap.size (.slice a xs.length cap) 0 (w3.alloc (.cells #[.slice a xs.length cap] 81)) :=
      ⟨bld_below HI3.out ((Below.refl _ _).alloc (Nat.le_refl _) _), HB3.out.alloc s3 _, fun _ => Boxed.new _ _ _⟩
    refine rangeS (σ := Nat) (α := Int) rfl (by omega) (gf := 96) (lb := #[.pointer (some ⟨w3.heap.size, 0, none⟩)]) rfl trivial (enters_of Tryz.func96 (by kernel_rfl) rfl) (encs := fun x => #[.int .i64 x]) (fun _ => rfl)
      (PI w1 xs w3.heap.size (.slice a xs.length cap)) (fun k V V' row hh hg hr => ⟨bld_kept hh.bl hg (fun r e => (hr r e).2), hh.be.grown hg hh.be.size (fun r e => by have := (hr r e).1; simp at this; omega), fun hk => (hh.bx hk).kept hg (fun e => by have := (hr _ e.symm).1; simp only [World.size_alloc] at this; omega)⟩) (piR xs) (fun k => k = xs.length) 0 PI0
      (fun l J W hJI hM hY h0 => gapsOf1 w1 a cap _ w3.heap.size xs HR.out HA.out hlen l J W hJI hY h0)
      (fun y => { tmps := #[.slice a xs.length cap, undef, .string ⟨#[]⟩, .pointer (some ⟨w1.heap.size, 0, none⟩), .int .i64 y, .slice a xs.length cap, .bool true, .bool false, .slice a xs.length cap, .int .i64 xs.length, .string (pkB (xs.length : Int)), v3, .slice a xs.length cap, .func (.func 96) #[] #[.pointer (some ⟨w3.heap.size, 0, none⟩)], .int .i64 y, undef, undef, undef, undef], defers := [] }) ?assign ?body ?done
    case assign =>
      intro l y W K hK
      gi_wp2
      exact hK
    case body =>
      rintro l k y k' W hR hh
      obtain ⟨hk, rfl, rfl⟩ := hR
      have HH : Hid (PI w1 xs w3.heap.size (.slice a xs.length cap) k W) := hh
      have hp : 1 ≤ (6 : Nat) - 1 - 1 := by omega
      clear hh
      gi_wp2_with fail
      refine ⟨trivial, (CallsIn.inRound l (callsIn_wide.2 (impl_PackNum0 (gapAt xs k) _))).mono ?_⟩
      rintro e V1 ⟨rfl, b1⟩
      have I1 := bld_below HH.out.bl b1
      have L1 := rowK_len xs k
      have L2 := pkL_len (gapAt xs k)
      have HW : Hid (Calls Tryz.prog 53 #[.pointer (some ⟨w1.heap.size, 0, none⟩), .string (pkB (gapAt xs k))] V1 fun e w' => (∃ v, e = .returned v) ∧ Lib.IsBuilder 88 5 w1.heap.size w1.heap.size (Lib.byteCells (rowK xs k ++ pkL (gapAt xs k))) w' ∧ Below w1.heap.size V1 w' ∧ KeepsOthers V1 w') := bl_write w1.heap.size w1.heap.size (rowK xs k) (pkL (gapAt xs k)) V1 I1 (by omega) (Nat.le_trans HH.out.be.size b1.size)
      have HB1 : Hid (Below w1.heap.size W V1 ∧ KeepsOthers W V1) := ⟨b1.mono HH.out.be.size, below_keeps b1⟩
      clear b1 I1 L1 L2
      gi_wp2_with fail
      refine ⟨trivial, (CallsIn.inRound l (callsIn_wide.2 HW.out)).mono ?_⟩
      rintro e V2 ⟨⟨v5, rfl⟩, h5, b5, k5⟩
      gi_wp2_with fail
      refine ⟨(HB1.out.2.trans k5).from _, ⟨by rw [rowK_succ]; exact h5, HH.out.be.trans (HB1.out.1.trans b5), fun e => by omega⟩⟩
    case done =>
      rintro D k W hD hk hh hK
      subst hk
      have HP : Hid (PI w1 xs w3.heap.size (.slice a xs.length cap) xs.length W) := hh
      have hD1 : w1.heap.size < D := by simp at hD; omega
      have HST : Hid (Calls Tryz.prog 58 #[.pointer (some ⟨w1.heap.size, 0, none⟩)] W fun e w' => e = .returned (.string ⟨(rowK xs xs.length).toArray⟩) ∧ (Lib.IsBuilderF 88 5 w1.heap.size w1.heap.size (Lib.byteCells (rowK xs xs.length)) w' ∧ Below w1.heap.size W w' ∧ Lib.OthersKept 5 (some w1.heap.size) W w')) := Tryz.Builder_String_any_k w1.heap.size w1.heap.size (rowK xs xs.length) W (Lib.IsBuilderF.of hh.bl) hh.be.size
      clear hh
      gi_wp2_with fail
      refine ⟨trivial, (callsIn_wide.2 HST.out).mono ?_⟩
      rintro e W2 ⟨rfl, _, b6, k6⟩
      have hK2 : W2.heap[D]? = some (.deferred (some [])) := k6 D _ hK (fun e => by cases e; omega) (fun c fz h => by cases h)
      have HB6 : Hid (Below w1.heap.size w1 W2) := HP.out.be.trans b6
      clear b6 k6 HST
      gi_wp2
      refine ⟨by simp, .inl ⟨_, _, rfl, run_takeDeferred hK2, ?_⟩⟩
      refine ⟨_, results_tmp rfl _ _ _, ?_, HB6.out.trans (belowK_b (w := w1) (Nat.le_refl _) W2 D _ _ (by omega) hK2 rfl rfl)⟩
      rw [HL.out]; rfl
end Go.Proofs.YtlnpbfeihjfnjabGreatDoor.Lab

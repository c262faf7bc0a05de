/-
  What is seen of a store: impl.StoreView and spec.StoreView; the laws' markSegS, heldSegS.
-/
import Derived.Test.YtlnpbfeihjfnjabGreatDoorQSeg
import Derived.Test.YtlnpbfeihjfnjabGreatDoorQShf
import Derived.Test.YtlnpbfeihjfnjabGreatDoorQLabb
import Derived.Test.YtlnpbfeihjfnjabGreatDoorQPck
import Derived.Test.YtlnpbfeihjfnjabGreatDoorQRgr
import Derived.Deep.AppendLies
import Derived.Deep.RegionHeld3
import Derived.Deep.RegionLaw
import Derived.Deep.DrawnRows
import Derived.Maps.AppendAt
import Derived.Lib.AppendZeros
import Derived.Laws.OwnMore
namespace Go.Proofs.YtlnpbfeihjfnjabGreatDoor.Lab
open Go.RowKit
set_option linter.unusedVariables false
attribute [local go_sem ↓] Go.wp_at_zero Go.wp_at_succ
/-- The parts of a store that one sees. -/
def viewS (c : Int) (xs : List (Int × List UInt8)) : List (Int × List UInt8) := xs.filter (fun x => underB x.1 c)
theorem viewS_le (c : Int) (xs : List (Int × List UInt8)) : (viewS c xs).length ≤ xs.length := List.length_filter_le _ _
theorem viewS_in {c : Int} {xs : List (Int × List UInt8)} {k : Nat} {x : Int × List UInt8} (h : xs[k]? = some x) (hu : underB x.1 c = true) : viewS c (xs.take (k + 1)) = viewS c (xs.take k) ++ [x] := by
  unfold viewS
  rw [List.take_add_one, h, List.filter_append]
  simp [hu]
theorem viewS_out {c : Int} {xs : List (Int × List UInt8)} {k : Nat} {x : Int × List UInt8} (h : xs[k]? = some x) (hu : underB x.1 c = false) : viewS c (xs.take (k + 1)) = viewS c (xs.take k) := by
  unfold viewS
  rw [List.take_add_one, h, List.filter_append]
  simp [hu]
theorem appSeg {c : Int} {xs : List (Int × List UInt8)} {k : Nat} {x : Int × List UInt8} {w1 : World} {base : Nat} {v' : Value} (h : xs[k]? = some x) (hu : underB x.1 c = true)
    (ho : w1.ownsRow base 52 2 v' ((viewS c (xs.take k)).length + 1) ((viewS c (xs.take k)).flatMap encSeg ++ encSeg x)) : w1.ownsRow base 52 2 v' (viewS c (xs.take (k + 1))).length ((viewS c (xs.take (k + 1))).flatMap encSeg) := by
  rw [viewS_in h hu]
  simpa [List.flatMap_append] using ho
theorem own_none {w : World} {base B e size : Nat} (h : w.heap[B]? = some (.cells #[] e (0, 0))) (hb : base ≤ B) : w.ownsRow base e size (.slice (some ⟨B, 0, none⟩) 0 0) 0 [] :=
  ⟨by simp, .inr ⟨B, 0, #[], rfl, hb, h, Nat.le_refl _, by simp [maxLen], by simp, by simp⟩⟩
/-- The digits of a number, ahead of some bytes. -/
def mtD (k : Nat) (l : List UInt8) : List UInt8 := if h : 0 < k then mtD (k / 10) (UInt8.ofNat (48 + k % 10) :: l) else l
termination_by k
decreasing_by omega
theorem mtD_pos {k : Nat} (h : 0 < k) (l : List UInt8) : mtD k l = mtD (k / 10) (UInt8.ofNat (48 + k % 10) :: l) := by rw [mtD]; simp [h]
theorem mtD_zero (l : List UInt8) : mtD 0 l = l := by rw [mtD]; simp
/-- The text of a mark. -/
def mkT (k : Int) : List UInt8 := 109 :: mtD k.toNat []
theorem cons_bytes (c : UInt8) (l : List UInt8) : ((⟨#[c]⟩ : ByteArray) ++ ⟨l.toArray⟩) = ⟨(c :: l).toArray⟩ := by
  apply ByteArray.ext
  simp
set_option maxHeartbeats 2000000 in
theorem markText (k0 : Int) (w : World) (h0 : 0 < k0) (h1 : k0 ≤ 1000000000) :
    Calls Tryz.prog 31 #[.int .i64 k0] w fun e w' => e = .returned (.string ⟨(mkT k0).toArray⟩) ∧ Below w.heap.size w w' := by
  have HC : Hid (∀ (c : UInt8) (l : List UInt8), ((⟨#[c]⟩ : ByteArray) ++ ⟨l.toArray⟩) = ⟨(c :: l).toArray⟩) := cons_bytes
  go_enter Tryz.func31, Tryz.ntmps31
  go_wp2_with fail
  go_loopw [0, 3] (fun q o wr => ∃ (j : Nat) (l : List UInt8), q = .int .i64 j ∧ o = .string ⟨l.toArray⟩ ∧ l.length + j ≤ k0.toNat ∧ mtD j l = mtD k0.toNat [] ∧ Below w.heap.size w wr) (fun q _ _ => (intOf q).toNat)
  case atStart => exact ⟨k0.toNat, [], by congr 1; omega, rfl, by simp, rfl, Below.refl _ _⟩
  case round =>
    obtain ⟨j, l, rfl, rfl, hl, hm, hbel⟩ := hrel
    by_cases hj : 0 < j
    · have hz : (ByteArray.mk l.toArray).size = l.length := by simp [ByteArray.size]
      obtain ⟨c, hc⟩ : ∃ c, c = UInt8.ofNat (48 + j % 10) := ⟨_, rfl⟩
      have e1 : (c.toNat : Int) = 48 + (j : Int) % 10 := by rw [hc, byte_nat _ (by omega)]; omega
      have ks : ∀ (w : World) (b : Nat), w.cell? ⟨b, 0, none⟩ = some (.int .u8 (48 + (j : Int) % 10)) → (convert 86 9 (.slice (some ⟨b, 0, none⟩) 1 1)).run Tryz.prog w = .ok (.string ⟨#[c]⟩) w := fun w b h => str_one _ w b (by rw [e1]; exact h)
      have hcb := cons_bytes c l
      have HM : Hid (mtD (j / 10) (c :: l) = mtD k0.toNat []) := by
        show mtD _ _ = _
        rw [hc, ← mtD_pos hj]; exact hm
      have HB : Hid (Below w.heap.size w wr) := hbel
      have hs := hbel.size
      clear e1 hm hbel hc
      go_wp2_with fail
      go_roundw
      case rel => exact ⟨j / 10, _, by go_num, by first | rfl | (rw [hcb]), by simp; omega, HM.out, HB.out.alloc (by omega) _⟩
      case measure => simp [intOf]; omega
    · have : j = 0 := by omega
      subst this
      have hcb := cons_bytes 109 l
      have hz : (ByteArray.mk l.toArray).size = l.length := by simp [ByteArray.size]
      rw [mtD_zero] at hm
      have HM : Hid (l = mtD k0.toNat []) := hm
      clear hm
      go_wp2_with fail
      go_ret
      refine ⟨?_, hbel⟩
      show Ending.returned (.string ((⟨#[109]⟩ : ByteArray) ++ ⟨l.toArray⟩)) = _
      rw [hcb, HM.out]; rfl
/-- Rows that are numbered through from k on. -/
def marksSeg (k : Int) (n : Nat) : List (Int × List UInt8) := (List.range n).map (fun j : Nat => ((k + 2 * j), mkT (k + 2 * j + 1)))
theorem marksSeg_len (k : Int) (n : Nat) : (marksSeg k n).length = n := by simp [marksSeg]
theorem marksSeg_get (k : Int) {n j : Nat} (h : j < n) : (marksSeg k n)[j]? = some ((k + 2 * j), mkT (k + 2 * j + 1)) := by simp [marksSeg, List.getElem?_range h]
theorem laidSeg_take {xs : List (Int × List UInt8)} {cap : Nat} {cur : Array Value} (h : laidSeg xs xs.length cap cur) (hc : xs.length ≤ cap) : cur.toList.take (xs.length * 2) = xs.flatMap encSeg := by
  obtain ⟨h1, h2⟩ := h
  apply List.ext_getElem?
  intro m
  rw [List.getElem?_take]
  by_cases hm : m < xs.length * 2
  · have hj : m / 2 < xs.length := by omega
    have h3 := flat_get encSeg_len xs (m / 2) (m % 2) _ (List.getElem?_eq_getElem hj) (Nat.mod_lt _ (by omega))
    have hmm : m / 2 * 2 + m % 2 = m := by omega
    rw [hmm] at h3
    rw [h3, if_pos hm]
    have hlen : m % 2 < (encSeg xs[m / 2]).length := by rw [encSeg_len]; exact Nat.mod_lt _ (by omega)
    have h4 := h2 (m / 2) _ hj (List.getElem?_eq_getElem hj) (m % 2) _ (List.getElem?_eq_getElem hlen)
    rw [hmm] at h4
    rw [List.getElem?_eq_getElem hlen]
    simpa using h4
  · rw [if_neg hm, List.getElem?_eq_none (by rw [flat_len encSeg_len]; omega)]
theorem gr_refl (w : World) (r : Option Nat) : w.grownBy w r := ⟨rfl, rfl, rfl, Nat.le_refl _, fun _ _ _ => rfl⟩
theorem gr_set {w w1 : World} {g : Nat} (h : w.grownBy w1 (some g)) (i : Nat) (u : Value) : w.grownBy (w1.setCell ⟨g, i, none⟩ u) (some g) :=
  ⟨h.os, h.tape, h.output, by have := h.size; simpa using this, fun k hk hne => by rw [Below.heap_setCell _ _ _ _ (fun e => hne (by rw [e]))]; exact h.block k hk hne⟩
theorem gr_below {w w1 w2 : World} {r : Option Nat} (h : w.grownBy w1 r) (k : Below w1.heap.size w1 w2) : w.grownBy w2 r :=
  ⟨k.os.trans h.os, k.tape.trans h.tape, k.output.trans h.output, Nat.le_trans h.size k.size, fun j hj hne => (k.block j (Nat.lt_of_lt_of_le hj h.size)).trans (h.block j hj hne)⟩
set_option maxHeartbeats 4000000 in
theorem markSegS_some (g cap n : Nat) (k0 : Int) (cur0 : Array Value) (w : World) (hk0 : 0 ≤ k0) (hk1 : k0 ≤ 100000000) (hn : n ≤ 1048576) (hnc : n ≤ cap) (hblk0 : w.heap[g]? = some (.cells cur0 52 (0, 0))) (hsz0 : cur0.size = cap * 2) :
    Calls Tryz.prog 12 #[.slice (some ⟨g, 0, none⟩) n cap, .int .i64 k0] w fun e w' => e = .returned (.int .i64 (k0 + 2 * n)) ∧ (∃ cur, w'.heap[g]? = some (.cells cur 52 (0, 0)) ∧ laidSeg (marksSeg k0 n) n cap cur) ∧ w.grownBy w' (some g) := by
  go_enter Tryz.func12, Tryz.ntmps12
  go_wp2_with fail
  go_loopw [1, 5] (fun q i wr => ∃ k : Nat, k ≤ n ∧ i = .int .i64 k ∧ q = .int .i64 (k0 + 2 * k) ∧ w.grownBy wr (some g) ∧ ∃ cur, wr.heap[g]? = some (.cells cur 52 (0, 0)) ∧ laidSeg (marksSeg k0 n) k cap cur) (fun _ i _ => n - (intOf i).toNat)
  case atStart => exact ⟨0, by omega, rfl, by simp, gr_refl _ _, cur0, hblk0, hsz0, fun j x hj => by omega⟩
  case round =>
    clear hblk0 hsz0
    obtain ⟨k, hk, rfl, rfl, hgr, cur, hblk, hlaid⟩ := hrel
    have hsz := hlaid.1
    by_cases hlt : k < n
    · have hx : (marksSeg k0 n)[k]? = some ((k0 + 2 * k), mkT (k0 + 2 * k + 1)) := marksSeg_get k0 hlt
      have hgl := lt_of_block hblk
      obtain ⟨y0, r0⟩ : ∃ y, wr.cell? ⟨g, k * 2, none⟩ = some y := by rw [cell_block hblk]; exact ⟨_, Array.getElem?_eq_getElem (by omega)⟩
      have hf : ∀ i, wr.frozen? ⟨g, i, none⟩ = false := fun i => free_block hblk
      have HL : Hid (laidSeg (marksSeg k0 n) (k + 1) cap ((cur.setIfInBounds (k * 2) (.int .i64 (k0 + 2 * k))).setIfInBounds (k * 2 + 1) (.string ⟨(mkT (k0 + 2 * k + 1)).toArray⟩))) := laidSeg_step hlaid (by omega) hx
      have HG : Hid ((wr.setCell ⟨g, k * 2, none⟩ (.int .i64 (k0 + 2 * k))).heap[g]? = some (.cells (cur.setIfInBounds (k * 2) (.int .i64 (k0 + 2 * k))) 52 (0, 0)) ∧ w.grownBy (wr.setCell ⟨g, k * 2, none⟩ (.int .i64 (k0 + 2 * k))) (some g)) := ⟨set_block _ hblk, gr_set hgr _ _⟩
      clear hx hlaid hblk hgr
      go_wp2_with fail
      refine (markText (k0 + 2 * k + 1) _ (by omega) (by omega)).mono ?_
      rintro e w2 ⟨rfl, b2⟩
      have g2 : w2.heap[g]? = some (.cells (cur.setIfInBounds (k * 2) (.int .i64 (k0 + 2 * k))) 52 (0, 0)) := by rw [b2.block g (lt_of_block HG.out.1)]; exact HG.out.1
      obtain ⟨y1, r1⟩ : ∃ y, w2.cell? ⟨g, k * 2 + 1, none⟩ = some y := by rw [cell_block g2]; exact ⟨_, Array.getElem?_eq_getElem (by simp; omega)⟩
      have hf2 : ∀ i, w2.frozen? ⟨g, i, none⟩ = false := fun i => free_block g2
      have HG2 : Hid ((w2.setCell ⟨g, k * 2 + 1, none⟩ (.string ⟨(mkT (k0 + 2 * k + 1)).toArray⟩)).heap[g]? = some (.cells ((cur.setIfInBounds (k * 2) (.int .i64 (k0 + 2 * k))).setIfInBounds (k * 2 + 1) (.string ⟨(mkT (k0 + 2 * k + 1)).toArray⟩)) 52 (0, 0)) ∧ w.grownBy (w2.setCell ⟨g, k * 2 + 1, none⟩ (.string ⟨(mkT (k0 + 2 * k + 1)).toArray⟩)) (some g)) := ⟨set_block _ g2, gr_set (gr_below HG.out.2 b2) _ _⟩
      clear g2 b2 HG r0 hf
      generalize mkT (k0 + 2 * k + 1) = tx at *
      go_wp2_with fail
      go_roundw
      case rel => exact ⟨k + 1, by omega, by go_num, by go_num, HG2.out.2, _, HG2.out.1, HL.out⟩
      case measure => simp [intOf]; omega
    · have hkn : k = n := by omega
      subst hkn
      go_wp2_with fail
      go_ret
      exact ⟨rfl, ⟨cur, hblk, hlaid⟩, hgr⟩
set_option maxHeartbeats 400000 in
theorem markSegS_empty (a : Option Addr) (c : Nat) (k0 : Int) (w : World) :
    Calls Tryz.prog 12 #[.slice a 0 c, .int .i64 k0] w fun e w' => e = .returned (.int .i64 k0) ∧ w' = w := by
  go_enter Tryz.func12, Tryz.ntmps12
  go_wp2
  refine wp_loop_rounds 1 ?_
  rw [rounds_succ]
  go_wp2
  go_ret
  exact ⟨rfl, rfl⟩
theorem markSegS (base n : Nat) (v : Value) (k0 : Int) (xs : List Value) (w : World) (hk0 : 0 ≤ k0) (hk1 : k0 ≤ 100000000) (hn : n ≤ 1048576) (hown : w.ownsRow base 52 2 v n xs) :
    Calls Tryz.prog 12 #[v, .int .i64 k0] w fun e w' => e = .returned (.int .i64 (k0 + 2 * n)) ∧ w'.ownsRow base 52 2 v n ((marksSeg k0 n).flatMap encSeg) ∧ w.grownBy w' v.ownBlock := by
  obtain ⟨_, ⟨rfl, rfl⟩ | ⟨g, cap, cur, rfl, hb, hg, hnc, hm, hs, ht⟩⟩ := hown
  · refine (markSegS_empty none 0 k0 w).mono (fun e w' h => ?_)
    obtain ⟨rfl, rfl⟩ := h
    exact ⟨by simp, by simpa [marksSeg] using World.ownsRow_nil _ _ _ _, gr_refl _ _⟩
  · refine (markSegS_some g cap n k0 cur w hk0 hk1 hn hnc hg hs).mono (fun e w' h => ?_)
    obtain ⟨rfl, ⟨cur', h1, h2⟩, h3⟩ := h
    have h4 := marksSeg_len k0 n
    refine ⟨rfl, ⟨by rw [flat_len encSeg_len, h4], .inr ⟨g, cap, cur', rfl, hb, h1, hnc, hm, h2.1, ?_⟩⟩, h3⟩
    have h5 := laidSeg_take (xs := marksSeg k0 n) (cap := cap) (cur := cur') (by rw [h4]; exact h2) (by rw [h4]; exact hnc)
    rw [h4] at h5
    exact h5
set_option maxHeartbeats 4000000 in
theorem heldSegS_some (b off cap n : Nat) (k0 : Int) (w : World) (hk0 : 0 ≤ k0) (hk1 : k0 ≤ 100000000) (hn : n ≤ 1048576) (hb : b < w.heap.size)
    (hc : ∀ j x, (marksSeg k0 n)[j]? = some x → ∀ i u, (encSeg x)[i]? = some u → w.cell? ⟨b, off + j * 2 + i, none⟩ = some u) :
    Calls Tryz.prog 13 #[.slice (some ⟨b, off, none⟩) n cap, .int .i64 k0] w fun e w' => e = .returned (.int .i64 (k0 + 2 * n)) ∧ Below w.heap.size w w' := by
  have HC : Hid (∀ j x, (marksSeg k0 n)[j]? = some x → ∀ i u, (encSeg x)[i]? = some u → w.cell? ⟨b, off + j * 2 + i, none⟩ = some u) := hc
  clear hc
  go_enter Tryz.func13, Tryz.ntmps13
  go_wp2_with fail
  go_loopw [1, 5] (fun q i wr => ∃ k : Nat, k ≤ n ∧ i = .int .i64 k ∧ q = .int .i64 (k0 + 2 * k) ∧ Below w.heap.size w wr) (fun _ i _ => n - (intOf i).toNat)
  case atStart => exact ⟨0, by omega, rfl, by simp, Below.refl _ _⟩
  case round =>
    obtain ⟨k, hk, rfl, rfl, hbel⟩ := hrel
    by_cases hlt : k < n
    · have hx := marksSeg_get k0 hlt
      have e0 : wr.cell? ⟨b, off + k * 2, none⟩ = some (.int .i64 (k0 + 2 * k)) := by rw [Below.celz hbel _ _ _ hb]; exact HC.out k _ hx 0 _ rfl
      have e1 : wr.cell? ⟨b, off + k * 2 + 1, none⟩ = some (.string ⟨(mkT (k0 + 2 * k + 1)).toArray⟩) := by rw [Below.celz hbel _ _ _ hb]; exact HC.out k _ hx 1 _ rfl
      have hq1 : b < wr.heap.size := Nat.lt_of_lt_of_le hb hbel.size
      have HB : Hid (Below w.heap.size w wr) := hbel
      have HT : Hid (∀ w, Calls Tryz.prog 31 #[.int .i64 (k0 + 2 * k + 1)] w fun e w' => e = .returned (.string ⟨(mkT (k0 + 2 * k + 1)).toArray⟩) ∧ Below w.heap.size w w') := fun w => markText _ w (by omega) (by omega)
      clear hx hbel
      generalize mkT (k0 + 2 * k + 1) = tx at *
      go_wp2_with fail
      refine wp_region_after (by kernel_rfl) (by kernel_rfl) ?_
      intro hne hac
      repeat (go_big_quiet_step (first | (go_at_call 31; exact after_of (HT.out _))))
      refine wpQuiet_nil ?_
      rintro _ ⟨p, rfl⟩
      have HB2 : Hid (Below w.heap.size w p.w) := HB.out.trans (p.bel.mono HB.out.size)
      clear hac hne e0 e1 HT
      generalize p.w = wq at *
      go_wp2_with fail
      go_roundw
      case rel => exact ⟨k + 1, by omega, by go_num, by go_num, HB2.out⟩
      case measure => simp [intOf]; omega
    · have hkn : k = n := by omega
      subst hkn
      go_wp2_with fail
      go_ret
      exact ⟨rfl, hbel⟩
set_option maxHeartbeats 400000 in
theorem heldSegS_empty (a : Option Addr) (c : Nat) (k0 : Int) (w : World) :
    Calls Tryz.prog 13 #[.slice a 0 c, .int .i64 k0] w fun e w' => e = .returned (.int .i64 k0) ∧ w' = w := by
  go_enter Tryz.func13, Tryz.ntmps13
  go_wp2
  refine wp_loop_rounds 1 ?_
  rw [rounds_succ]
  go_wp2
  go_ret
  exact ⟨rfl, rfl⟩
theorem heldSegS (n : Nat) (v : Value) (k0 : Int) (w : World) (hk0 : 0 ≤ k0) (hk1 : k0 ≤ 100000000) (hn : n ≤ 1048576) (h : RowAt 2 encSeg w v (marksSeg k0 n)) :
    Calls Tryz.prog 13 #[v, .int .i64 k0] w fun e w' => e = .returned (.int .i64 (k0 + 2 * n)) ∧ Below w.heap.size w w' := by
  have h4 := marksSeg_len k0 n
  rcases h with ⟨hz, a, cap, rfl⟩ | ⟨h0, b, off, cap, rfl, hlt, hc⟩
  · have hn0 : n = 0 := by rw [hz] at h4; simpa using h4.symm
    subst hn0
    exact (heldSegS_empty a cap k0 w).mono (fun e w' h => ⟨by rw [h.1]; simp, by rw [h.2]; exact Below.refl _ _⟩)
  · rw [h4]
    exact heldSegS_some b off cap n k0 w hk0 hk1 hn hlt hc
end Go.Proofs.YtlnpbfeihjfnjabGreatDoor.Lab

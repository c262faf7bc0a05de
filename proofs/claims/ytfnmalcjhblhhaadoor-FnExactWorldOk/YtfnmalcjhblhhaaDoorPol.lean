/-
  Pools by value: the laws' own functions on them, and PoolSame of both. (Written by tools/mkpag.py.)
-/
import Derived.Test.YtfnmalcjhblhhaaDoorPag
namespace Go.Proofs.YtfnmalcjhblhhaaDoor.Lab
open Go.RowKit
set_option linter.unusedVariables false
theorem gr_new {w w' : World} {o : Obj} {r : Option Nat} (h : (w.alloc o).grownBy w' r) : w.grownBy w' r :=
  ⟨h.os, h.tape, h.output, by have := h.size; simp at this; omega, fun k hk hne => (h.block k (by simp; omega) hne).trans (by show (w.heap.push o)[k]? = w.heap[k]?; rw [Array.getElem?_push]; simp; omega)⟩
set_option maxHeartbeats 1000000 in
theorem szPool (z : Int) (a : Option Addr) (n c : Nat) (left : Int) (w : World) (h0 : 0 ≤ left) (h1 : left ≤ 1048576) (hn : n ≤ 9223372036854775807) :
    Calls Tryd.prog 27 #[.agg #[.int .i64 z, .slice a n c], .int .i64 left] w fun e w' => e = .returned (.int .i64 (if (n : Int) ≤ left then left - n else -1)) ∧ Below w.heap.size w w' := by
  by_cases h : (n : Int) ≤ left
  · rw [if_pos h]
    go_enter Tryd.func27, Tryd.ntmps27
    go_wp2_with fail
    refine use (szPageS a n c left _ h0 h1 hn) ?_
    rw [if_pos h]
    go_wp2_with fail
    go_ret
    exact ⟨rfl, by go_grown⟩
  · rw [if_neg (by omega)]
    go_enter Tryd.func27, Tryd.ntmps27
    go_wp2_with fail
    refine use (szPageS a n c left _ h0 h1 hn) ?_
    rw [if_neg (by omega)]
    go_wp2_with fail
    go_ret
    exact ⟨rfl, by go_grown⟩
/-- A pool's pages that the call owns. -/
def OwnPool (w : World) (base : Nat) (v : Value) (ns : List (Int × Int)) : Prop := w.ownsRow base 88 2 v ns.length (ns.flatMap encPage)
theorem OwnPool.keep {w w' : World} {base : Nat} {v : Value} {ns : List (Int × Int)} (h : OwnPool w base v ns) (hb : Below w.heap.size w w') : OwnPool w' base v ns := own_keep h hb
theorem OwnPool.row {w : World} {base : Nat} {v : Value} {ns : List (Int × Int)} (h : OwnPool w base v ns) : RowAt 2 encPage w v ns := row_of_own encPage_len (by decide) h
theorem OwnPool.form {w : World} {base : Nat} {v : Value} {ns : List (Int × Int)} (h : OwnPool w base v ns) : ∃ a c, v = .slice a ns.length c := own_form h
set_option maxHeartbeats 2000000 in
theorem toPool (z : Int) (v : Value) (ns : List (Int × Int)) (w : World) (h1 : RowAt 2 encPage w v ns) (hl1 : ns.length ≤ 1048576) :
    Calls Tryd.prog 41 #[.agg #[.int .i64 z, v]] w fun e w' => ∃ u, e = .returned (.agg #[.int .i64 z, u]) ∧ OwnPool w' w.heap.size u ns ∧ Below w.heap.size w w' := by
  have b0 : ∀ o1 o2 o3, Below w.heap.size w (((w.alloc o1).alloc o2).alloc o3) := fun o1 o2 o3 => by go_grown
  have k1 : ∀ o1 o2 o3, RowAt 2 encPage (((w.alloc o1).alloc o2).alloc o3) v ns := fun o1 o2 o3 => h1.keep (b0 o1 o2 o3)
  obtain ⟨a1, c1, rfl⟩ := h1.len
  generalize hN : ns.length = N1 at *
  have HL : Hid (ns.length = N1) := hN
  clear h1 hN
  go_enter Tryd.func41, Tryd.ntmps41
  go_wp2_with fail
  refine (toPageS _ ns _ ?hk (by rw [HL.out]; omega)).mono ?_
  case hk => exact k1 _ _ _
  rintro e w1 ⟨u1, rfl, own1, bel1⟩
  obtain ⟨x1, y1, hu1⟩ := own_form own1
  have hs1 : w.heap.size + 3 ≤ w1.heap.size := by have := bel1.size; simp at this; omega
  have B1 : Hid (Below w.heap.size w w1) := (b0 _ _ _).trans (bel1.mono (by simp; omega))
  have hc1 := Below.celz (bel1.mono (B' := w.heap.size + 3) (by simp))
  have hf1 := Below.froz (bel1.mono (B' := w.heap.size + 3) (by simp))
  have HO : Hid (w1.ownsRow (w.heap.size + 3) 88 2 u1 ns.length (ns.flatMap encPage)) := own_mono (base' := w.heap.size + 3) own1 (by simp)
  clear own1 bel1 k1 b0
  subst hu1
  go_wp2_with fail
  refine bodyPost_ret (v := .agg #[.int .i64 z, .slice x1 ns.length y1]) (by simp [*, results, Tryd.results41, go_sem]) rfl ?_
  have q1 := HO.out
  unfold OwnPool
  have ob : ∀ v n xs e s, w1.ownsRow (w.heap.size + 3) e s v n xs → ∀ k, k < w.heap.size + 3 → v.ownBlock ≠ some k := fun v n xs e s h k hk hh => by have := (h.lt k hh).1; omega
  refine ⟨_, rfl, own_mono (own_set (own_set (own_set q1 (ob _ _ _ _ _ q1 _ (by simp)) _) (ob _ _ _ _ _ q1 _ (by simp)) _) (ob _ _ _ _ _ q1 _ (by simp)) _) (by omega), ?_⟩
  exact ((B1.out.setCell (by simp; omega) _).setCell (by simp) _).setCell (by simp) _
set_option maxHeartbeats 1000000 in
theorem eqPool (z1 z2 : Int) (v u : Value) (ns ms : List (Int × Int)) (w : World) (h1 : RowAt 2 encPage w v ns) (h3 : RowAt 2 encPage w u ms)
    (l1 : ns.length ≤ 1048576) (l3 : ms.length ≤ 1048576) :
    Calls Tryd.prog 48 #[.agg #[.int .i64 z1, v], .agg #[.int .i64 z2, u]] w fun e w' => e = .returned (.bool (decide (z1 = z2) && eqB ns ms)) ∧ Below w.heap.size w w' := by
  have b0 : ∀ o1 o2, Below w.heap.size w ((w.alloc o1).alloc o2) := fun o1 o2 => by go_grown
  have k1 : ∀ o1 o2, RowAt 2 encPage ((w.alloc o1).alloc o2) v ns := fun o1 o2 => h1.keep (b0 o1 o2)
  have k3 : ∀ o1 o2, RowAt 2 encPage ((w.alloc o1).alloc o2) u ms := fun o1 o2 => h3.keep (b0 o1 o2)
  clear h1 h3
  by_cases hz : z1 = z2
  · subst hz
    go_enter Tryd.func48, Tryd.ntmps48
    go_wp2_with fail
    refine (eqPageS _ _ _ _ _ (k1 _ _) (k3 _ _) l1 l3).mono ?_
    rintro e w1 ⟨rfl, bel1⟩
    have B1 : Hid (Below w.heap.size w w1) := (b0 _ _).trans (bel1.mono (by simp; omega))
    clear k1 k3 b0 bel1
    cases hq : eqB ns ms
    · go_wp2_with fail
      go_ret
      exact ⟨by simp [hq], B1.out⟩
    · go_wp2_with fail
      go_ret
      exact ⟨by simp [hq], B1.out⟩
  · have hd : (z1 != z2) = true := by simpa using hz
    have hd2 : (z1 == z2) = false := by simpa using hz
    have hd3 : decide (z1 = z2) = false := by simpa using hz
    clear hz k1 k3
    go_enter Tryd.func48, Tryd.ntmps48
    go_wp2_with fail
    go_ret
    exact ⟨by first | rfl | simp [hd3], b0 _ _⟩
theorem eqPool_same (z : Int) (v u : Value) (ns : List (Int × Int)) (w : World) (h1 : RowAt 2 encPage w v ns) (h3 : RowAt 2 encPage w u ns) (l1 : ns.length ≤ 1048576) :
    Calls Tryd.prog 48 #[.agg #[.int .i64 z, v], .agg #[.int .i64 z, u]] w fun e w' => e = .returned (.bool true) ∧ Below w.heap.size w w' :=
  (eqPool z z v u ns ns w h1 h3 l1 l1).mono fun e w' h => ⟨by rw [h.1, eqB_true.2 rfl]; simp, h.2⟩
end Go.Proofs.YtfnmalcjhblhhaaDoor.Lab

/-
  Rows of structs whose cells a call owns: numbered through (markXS), and held against those numbers (heldXS). (Written by tools/mkmrk.py.)
-/
import Derived.Test.YtlnpbfeihjfnjabGreatDoorQGro
import Derived.Test.YtlnpbfeihjfnjabGreatDoorQGra
import Derived.Test.YtlnpbfeihjfnjabGreatDoorQGrw
namespace Go.Proofs.YtlnpbfeihjfnjabGreatDoor.Lab
open Go.RowKit
set_option linter.unusedVariables false

/-- Rows that are numbered through from k on. -/
def marksNode (k : Int) (n : Nat) : List (Int × Int) := (List.range n).map (fun j : Nat => ((k + 2 * j), (k + 2 * j + 1)))
theorem marksNode_len (k : Int) (n : Nat) : (marksNode k n).length = n := by simp [marksNode]
theorem marksNode_get (k : Int) {n j : Nat} (h : j < n) : (marksNode k n)[j]? = some ((k + 2 * j), (k + 2 * j + 1)) := by simp [marksNode, List.getElem?_range h]
theorem laidNode_take {xs : List (Int × Int)} {cap : Nat} {cur : Array Value} (h : laidNode xs xs.length cap cur) (hc : xs.length ≤ cap) : cur.toList.take (xs.length * 2) = xs.flatMap encNode := by
  obtain ⟨h1, h2⟩ := h
  apply List.ext_getElem?
  intro m
  rw [List.getElem?_take]
  by_cases hm : m < xs.length * 2
  · have hj : m / 2 < xs.length := by omega
    have h3 := flat_get encNode_len xs (m / 2) (m % 2) _ (List.getElem?_eq_getElem hj) (Nat.mod_lt _ (by omega))
    have hmm : m / 2 * 2 + m % 2 = m := by omega
    rw [hmm] at h3
    rw [h3, if_pos hm]
    have hlen : m % 2 < (encNode xs[m / 2]).length := by rw [encNode_len]; exact Nat.mod_lt _ (by omega)
    have h4 := h2 (m / 2) _ hj (List.getElem?_eq_getElem hj) (m % 2) _ (List.getElem?_eq_getElem hlen)
    rw [hmm] at h4
    rw [List.getElem?_eq_getElem hlen]
    simpa using h4
  · rw [if_neg hm, List.getElem?_eq_none (by rw [flat_len encNode_len]; omega)]
set_option maxHeartbeats 4000000 in
theorem markNodeS_some (g cap n : Nat) (k0 : Int) (cur0 : Array Value) (w : World) (hk0 : 0 ≤ k0) (hk1 : k0 ≤ 100000000) (hn : n ≤ 1048576) (hnc : n ≤ cap) (hblk0 : w.heap[g]? = some (.cells cur0 69 (0, 0))) (hsz0 : cur0.size = cap * 2) :
    Calls Tryz.prog 29 #[.slice (some ⟨g, 0, none⟩) n cap, .int .i64 k0] w fun e w' => e = .returned (.int .i64 (k0 + 2 * n)) ∧ (∃ cur, w'.heap[g]? = some (.cells cur 69 (0, 0)) ∧ laidNode (marksNode k0 n) n cap cur) ∧ w.grownBy w' (some g) := by
  go_enter Tryz.func29, Tryz.ntmps29
  go_wp2_with fail
  go_loopw [1, 5] (fun q i wr => ∃ k : Nat, k ≤ n ∧ i = .int .i64 k ∧ q = .int .i64 (k0 + 2 * k) ∧ w.grownBy wr (some g) ∧ ∃ cur, wr.heap[g]? = some (.cells cur 69 (0, 0)) ∧ laidNode (marksNode k0 n) k cap cur) (fun _ i _ => n - (intOf i).toNat)
  case atStart => exact ⟨0, by omega, rfl, by simp, grown_refl _ _, cur0, hblk0, hsz0, fun j x hj => by omega⟩
  case round =>
    clear hblk0 hsz0
    obtain ⟨k, hk, rfl, rfl, hgr, cur, hblk, hlaid⟩ := hrel
    have hsz := hlaid.1
    by_cases hlt : k < n
    · have hx : (marksNode k0 n)[k]? = some ((k0 + 2 * k), (k0 + 2 * k + 1)) := (marksNode_get k0 hlt).trans (by
        first | rfl | (refine congrArg some ?_; simp only [Prod.mk.injEq]; and_intros <;> first | rfl | trivial | omega))
      obtain ⟨y0, r0⟩ : ∃ y, wr.cell? ⟨g, k * 2, none⟩ = some y := by rw [cell_block hblk]; exact ⟨_, Array.getElem?_eq_getElem (by omega)⟩
      obtain ⟨y1, r1⟩ : ∃ y, wr.cell? ⟨g, k * 2 + 1, none⟩ = some y := by rw [cell_block hblk]; exact ⟨_, Array.getElem?_eq_getElem (by omega)⟩
      have hf : ∀ i, wr.frozen? ⟨g, i, none⟩ = false := fun i => free_block hblk
      have HL : Hid (laidNode (marksNode k0 n) (k + 1) cap ((cur.setIfInBounds (k * 2) (.int .i64 (k0 + 2 * k))).setIfInBounds (k * 2 + 1) (.int .i64 (k0 + 2 * k + 1)))) := laidNode_step hlaid (by omega) hx
      have HG : Hid (((wr.setCell ⟨g, k * 2, none⟩ (.int .i64 (k0 + 2 * k))).setCell ⟨g, k * 2 + 1, none⟩ (.int .i64 (k0 + 2 * k + 1))).heap[g]? = some (.cells ((cur.setIfInBounds (k * 2) (.int .i64 (k0 + 2 * k))).setIfInBounds (k * 2 + 1) (.int .i64 (k0 + 2 * k + 1))) 69 (0, 0)) ∧ w.grownBy ((wr.setCell ⟨g, k * 2, none⟩ (.int .i64 (k0 + 2 * k))).setCell ⟨g, k * 2 + 1, none⟩ (.int .i64 (k0 + 2 * k + 1))) (some g)) := ⟨(set_block _ (set_block _ hblk)), (grown_set (grown_set hgr _ _) _ _)⟩
      clear hx hlaid hblk hgr
      go_wp2_with fail
      go_roundw
      case rel => exact ⟨k + 1, by omega, by go_num, by go_num, HG.out.2, _, HG.out.1, HL.out⟩
      case measure => simp [intOf]; omega
    · have hkn : k = n := by omega
      subst hkn
      go_wp2_with fail
      go_ret
      exact ⟨rfl, ⟨cur, hblk, hlaid⟩, hgr⟩
set_option maxHeartbeats 400000 in
theorem markNodeS_empty (a : Option Addr) (c : Nat) (k0 : Int) (w : World) :
    Calls Tryz.prog 29 #[.slice a 0 c, .int .i64 k0] w fun e w' => e = .returned (.int .i64 k0) ∧ w' = w := by
  go_enter Tryz.func29, Tryz.ntmps29
  go_wp2
  refine wp_loop_rounds 1 ?_
  rw [rounds_succ]
  go_wp2
  go_ret
  exact ⟨rfl, rfl⟩
theorem markNodeS (base n : Nat) (v : Value) (k0 : Int) (xs : List Value) (w : World) (hk0 : 0 ≤ k0) (hk1 : k0 ≤ 100000000) (hn : n ≤ 1048576) (hown : w.ownsRow base 69 2 v n xs) :
    Calls Tryz.prog 29 #[v, .int .i64 k0] w fun e w' => e = .returned (.int .i64 (k0 + 2 * n)) ∧ w'.ownsRow base 69 2 v n ((marksNode k0 n).flatMap encNode) ∧ w.grownBy w' v.ownBlock := by
  obtain ⟨_, ⟨rfl, rfl⟩ | ⟨g, cap, cur, rfl, hb, hg, hnc, hm, hs, ht⟩⟩ := hown
  · refine (markNodeS_empty none 0 k0 w).mono (fun e w' h => ?_)
    obtain ⟨rfl, rfl⟩ := h
    exact ⟨by simp, by simpa [marksNode] using World.ownsRow_nil _ _ _ _, grown_refl _ _⟩
  · refine (markNodeS_some g cap n k0 cur w hk0 hk1 hn hnc hg hs).mono (fun e w' h => ?_)
    obtain ⟨rfl, ⟨cur', h1, h2⟩, h3⟩ := h
    have h4 := marksNode_len k0 n
    refine ⟨rfl, ⟨by rw [flat_len encNode_len, h4], .inr ⟨g, cap, cur', rfl, hb, h1, hnc, hm, h2.1, ?_⟩⟩, h3⟩
    have h5 := laidNode_take (xs := marksNode k0 n) (cap := cap) (cur := cur') (by rw [h4]; exact h2) (by rw [h4]; exact hnc)
    rw [h4] at h5
    exact h5
set_option maxHeartbeats 4000000 in
theorem heldNodeS_some (b off cap n : Nat) (k0 : Int) (w : World) (hk0 : 0 ≤ k0) (hk1 : k0 ≤ 100000000) (hn : n ≤ 1048576)
    (hc : ∀ j x, (marksNode k0 n)[j]? = some x → ∀ i u, (encNode x)[i]? = some u → w.cell? ⟨b, off + j * 2 + i, none⟩ = some u) :
    Calls Tryz.prog 38 #[.slice (some ⟨b, off, none⟩) n cap, .int .i64 k0] w fun e w' => e = .returned (.int .i64 (k0 + 2 * n)) ∧ w' = w := by
  have HC : Hid (∀ j x, (marksNode k0 n)[j]? = some x → ∀ i u, (encNode x)[i]? = some u → w.cell? ⟨b, off + j * 2 + i, none⟩ = some u) := hc
  clear hc
  go_enter Tryz.func38, Tryz.ntmps38
  go_wp2_with fail
  go_loop [1, 5] (fun q i => ∃ k : Nat, k ≤ n ∧ i = .int .i64 k ∧ q = .int .i64 (k0 + 2 * k)) (fun _ i => n - (intOf i).toNat)
  case atStart => exact ⟨0, by omega, rfl, by simp⟩
  case round =>
    obtain ⟨k, hk, rfl, rfl⟩ := hrel
    by_cases hlt : k < n
    · have hx := marksNode_get k0 hlt
      have e0 : w.cell? ⟨b, off + k * 2, none⟩ = some (.int .i64 (k0 + 2 * k)) := HC.out k _ hx 0 _ rfl
      have e1 : w.cell? ⟨b, off + k * 2 + 1, none⟩ = some (.int .i64 (k0 + 2 * k + 1)) := HC.out k _ hx 1 _ rfl
      clear hx
      go_wp2_with fail
      go_round
      case rel => exact ⟨k + 1, by omega, by go_num, by go_num⟩
      case measure => simp [intOf]; omega
    · have : k = n := by omega
      subst this
      go_wp2_with fail
      go_ret
      exact ⟨rfl, rfl⟩
set_option maxHeartbeats 400000 in
theorem heldNodeS_empty (a : Option Addr) (c : Nat) (k0 : Int) (w : World) :
    Calls Tryz.prog 38 #[.slice a 0 c, .int .i64 k0] w fun e w' => e = .returned (.int .i64 k0) ∧ w' = w := by
  go_enter Tryz.func38, Tryz.ntmps38
  go_wp2
  refine wp_loop_rounds 1 ?_
  rw [rounds_succ]
  go_wp2
  go_ret
  exact ⟨rfl, rfl⟩
theorem heldNodeS (v : Value) (n : Nat) (k0 : Int) (w : World) (hk0 : 0 ≤ k0) (hk1 : k0 ≤ 100000000) (hn : n ≤ 1048576) (h : RowAt 2 encNode w v (marksNode k0 n)) :
    Calls Tryz.prog 38 #[v, .int .i64 k0] w fun e w' => e = .returned (.int .i64 (k0 + 2 * n)) ∧ w' = w := by
  rcases h with ⟨h0, a, c, rfl⟩ | ⟨h0, b, off, c, rfl, hlt, hc⟩
  · have : n = 0 := by have := marksNode_len k0 n; rw [h0] at this; simpa using this.symm
    subst this
    simpa using heldNodeS_empty a c k0 w
  · rw [marksNode_len] at *
    exact heldNodeS_some b off c n k0 w hk0 hk1 hn hc
/-- Rows that are numbered through from k on. -/
def marksEdge (k : Int) (n : Nat) : List (Int × Int × Int × Int × Int) := (List.range n).map (fun j : Nat => ((k + 5 * j), (k + 5 * j + 1), (k + 5 * j + 2), (k + 5 * j + 3), (k + 5 * j + 4)))
theorem marksEdge_len (k : Int) (n : Nat) : (marksEdge k n).length = n := by simp [marksEdge]
theorem marksEdge_get (k : Int) {n j : Nat} (h : j < n) : (marksEdge k n)[j]? = some ((k + 5 * j), (k + 5 * j + 1), (k + 5 * j + 2), (k + 5 * j + 3), (k + 5 * j + 4)) := by simp [marksEdge, List.getElem?_range h]
theorem laidEdge_take {xs : List (Int × Int × Int × Int × Int)} {cap : Nat} {cur : Array Value} (h : laidEdge xs xs.length cap cur) (hc : xs.length ≤ cap) : cur.toList.take (xs.length * 5) = xs.flatMap encEdge := by
  obtain ⟨h1, h2⟩ := h
  apply List.ext_getElem?
  intro m
  rw [List.getElem?_take]
  by_cases hm : m < xs.length * 5
  · have hj : m / 5 < xs.length := by omega
    have h3 := flat_get encEdge_len xs (m / 5) (m % 5) _ (List.getElem?_eq_getElem hj) (Nat.mod_lt _ (by omega))
    have hmm : m / 5 * 5 + m % 5 = m := by omega
    rw [hmm] at h3
    rw [h3, if_pos hm]
    have hlen : m % 5 < (encEdge xs[m / 5]).length := by rw [encEdge_len]; exact Nat.mod_lt _ (by omega)
    have h4 := h2 (m / 5) _ hj (List.getElem?_eq_getElem hj) (m % 5) _ (List.getElem?_eq_getElem hlen)
    rw [hmm] at h4
    rw [List.getElem?_eq_getElem hlen]
    simpa using h4
  · rw [if_neg hm, List.getElem?_eq_none (by rw [flat_len encEdge_len]; omega)]
set_option maxHeartbeats 4000000 in
theorem markEdgeS_some (g cap n : Nat) (k0 : Int) (cur0 : Array Value) (w : World) (hk0 : 0 ≤ k0) (hk1 : k0 ≤ 100000000) (hn : n ≤ 1048576) (hnc : n ≤ cap) (hblk0 : w.heap[g]? = some (.cells cur0 72 (0, 0))) (hsz0 : cur0.size = cap * 5) :
    Calls Tryz.prog 30 #[.slice (some ⟨g, 0, none⟩) n cap, .int .i64 k0] w fun e w' => e = .returned (.int .i64 (k0 + 5 * n)) ∧ (∃ cur, w'.heap[g]? = some (.cells cur 72 (0, 0)) ∧ laidEdge (marksEdge k0 n) n cap cur) ∧ w.grownBy w' (some g) := by
  go_enter Tryz.func30, Tryz.ntmps30
  go_wp2_with fail
  go_loopw [1, 5] (fun q i wr => ∃ k : Nat, k ≤ n ∧ i = .int .i64 k ∧ q = .int .i64 (k0 + 5 * k) ∧ w.grownBy wr (some g) ∧ ∃ cur, wr.heap[g]? = some (.cells cur 72 (0, 0)) ∧ laidEdge (marksEdge k0 n) k cap cur) (fun _ i _ => n - (intOf i).toNat)
  case atStart => exact ⟨0, by omega, rfl, by simp, grown_refl _ _, cur0, hblk0, hsz0, fun j x hj => by omega⟩
  case round =>
    clear hblk0 hsz0
    obtain ⟨k, hk, rfl, rfl, hgr, cur, hblk, hlaid⟩ := hrel
    have hsz := hlaid.1
    by_cases hlt : k < n
    · have hx : (marksEdge k0 n)[k]? = some ((k0 + 5 * k), (k0 + 5 * k + 1), (k0 + 5 * k + 1 + 1), (k0 + 5 * k + 1 + 1 + 1), (k0 + 5 * k + 1 + 1 + 1 + 1)) := (marksEdge_get k0 hlt).trans (by
        first | rfl | (refine congrArg some ?_; simp only [Prod.mk.injEq]; and_intros <;> first | rfl | trivial | omega))
      obtain ⟨y0, r0⟩ : ∃ y, wr.cell? ⟨g, k * 5, none⟩ = some y := by rw [cell_block hblk]; exact ⟨_, Array.getElem?_eq_getElem (by omega)⟩
      obtain ⟨y1, r1⟩ : ∃ y, wr.cell? ⟨g, k * 5 + 1, none⟩ = some y := by rw [cell_block hblk]; exact ⟨_, Array.getElem?_eq_getElem (by omega)⟩
      obtain ⟨y2, r2⟩ : ∃ y, wr.cell? ⟨g, k * 5 + 2, none⟩ = some y := by rw [cell_block hblk]; exact ⟨_, Array.getElem?_eq_getElem (by omega)⟩
      obtain ⟨y3, r3⟩ : ∃ y, wr.cell? ⟨g, k * 5 + 3, none⟩ = some y := by rw [cell_block hblk]; exact ⟨_, Array.getElem?_eq_getElem (by omega)⟩
      obtain ⟨y4, r4⟩ : ∃ y, wr.cell? ⟨g, k * 5 + 4, none⟩ = some y := by rw [cell_block hblk]; exact ⟨_, Array.getElem?_eq_getElem (by omega)⟩
      have hf : ∀ i, wr.frozen? ⟨g, i, none⟩ = false := fun i => free_block hblk
      have HL : Hid (laidEdge (marksEdge k0 n) (k + 1) cap (((((cur.setIfInBounds (k * 5) (.int .i64 (k0 + 5 * k))).setIfInBounds (k * 5 + 1) (.int .i64 (k0 + 5 * k + 1))).setIfInBounds (k * 5 + 1 + 1) (.int .i64 (k0 + 5 * k + 1 + 1))).setIfInBounds (k * 5 + 3) (.int .i64 (k0 + 5 * k + 1 + 1 + 1))).setIfInBounds (k * 5 + 3 + 1) (.int .i64 (k0 + 5 * k + 1 + 1 + 1 + 1)))) := laidEdge_step hlaid (by omega) hx
      have HG : Hid ((((((wr.setCell ⟨g, k * 5, none⟩ (.int .i64 (k0 + 5 * k))).setCell ⟨g, k * 5 + 1, none⟩ (.int .i64 (k0 + 5 * k + 1))).setCell ⟨g, k * 5 + 1 + 1, none⟩ (.int .i64 (k0 + 5 * k + 1 + 1))).setCell ⟨g, k * 5 + 3, none⟩ (.int .i64 (k0 + 5 * k + 1 + 1 + 1))).setCell ⟨g, k * 5 + 3 + 1, none⟩ (.int .i64 (k0 + 5 * k + 1 + 1 + 1 + 1))).heap[g]? = some (.cells (((((cur.setIfInBounds (k * 5) (.int .i64 (k0 + 5 * k))).setIfInBounds (k * 5 + 1) (.int .i64 (k0 + 5 * k + 1))).setIfInBounds (k * 5 + 1 + 1) (.int .i64 (k0 + 5 * k + 1 + 1))).setIfInBounds (k * 5 + 3) (.int .i64 (k0 + 5 * k + 1 + 1 + 1))).setIfInBounds (k * 5 + 3 + 1) (.int .i64 (k0 + 5 * k + 1 + 1 + 1 + 1))) 72 (0, 0)) ∧ w.grownBy (((((wr.setCell ⟨g, k * 5, none⟩ (.int .i64 (k0 + 5 * k))).setCell ⟨g, k * 5 + 1, none⟩ (.int .i64 (k0 + 5 * k + 1))).setCell ⟨g, k * 5 + 1 + 1, none⟩ (.int .i64 (k0 + 5 * k + 1 + 1))).setCell ⟨g, k * 5 + 3, none⟩ (.int .i64 (k0 + 5 * k + 1 + 1 + 1))).setCell ⟨g, k * 5 + 3 + 1, none⟩ (.int .i64 (k0 + 5 * k + 1 + 1 + 1 + 1))) (some g)) := ⟨(set_block _ (set_block _ (set_block _ (set_block _ (set_block _ hblk))))), (grown_set (grown_set (grown_set (grown_set (grown_set hgr _ _) _ _) _ _) _ _) _ _)⟩
      clear hx hlaid hblk hgr
      go_wp2_with fail
      go_roundw
      case rel => exact ⟨k + 1, by omega, by go_num, by go_num, HG.out.2, _, HG.out.1, HL.out⟩
      case measure => simp [intOf]; omega
    · have hkn : k = n := by omega
      subst hkn
      go_wp2_with fail
      go_ret
      exact ⟨rfl, ⟨cur, hblk, hlaid⟩, hgr⟩
set_option maxHeartbeats 400000 in
theorem markEdgeS_empty (a : Option Addr) (c : Nat) (k0 : Int) (w : World) :
    Calls Tryz.prog 30 #[.slice a 0 c, .int .i64 k0] w fun e w' => e = .returned (.int .i64 k0) ∧ w' = w := by
  go_enter Tryz.func30, Tryz.ntmps30
  go_wp2
  refine wp_loop_rounds 1 ?_
  rw [rounds_succ]
  go_wp2
  go_ret
  exact ⟨rfl, rfl⟩
theorem markEdgeS (base n : Nat) (v : Value) (k0 : Int) (xs : List Value) (w : World) (hk0 : 0 ≤ k0) (hk1 : k0 ≤ 100000000) (hn : n ≤ 1048576) (hown : w.ownsRow base 72 5 v n xs) :
    Calls Tryz.prog 30 #[v, .int .i64 k0] w fun e w' => e = .returned (.int .i64 (k0 + 5 * n)) ∧ w'.ownsRow base 72 5 v n ((marksEdge k0 n).flatMap encEdge) ∧ w.grownBy w' v.ownBlock := by
  obtain ⟨_, ⟨rfl, rfl⟩ | ⟨g, cap, cur, rfl, hb, hg, hnc, hm, hs, ht⟩⟩ := hown
  · refine (markEdgeS_empty none 0 k0 w).mono (fun e w' h => ?_)
    obtain ⟨rfl, rfl⟩ := h
    exact ⟨by simp, by simpa [marksEdge] using World.ownsRow_nil _ _ _ _, grown_refl _ _⟩
  · refine (markEdgeS_some g cap n k0 cur w hk0 hk1 hn hnc hg hs).mono (fun e w' h => ?_)
    obtain ⟨rfl, ⟨cur', h1, h2⟩, h3⟩ := h
    have h4 := marksEdge_len k0 n
    refine ⟨rfl, ⟨by rw [flat_len encEdge_len, h4], .inr ⟨g, cap, cur', rfl, hb, h1, hnc, hm, h2.1, ?_⟩⟩, h3⟩
    have h5 := laidEdge_take (xs := marksEdge k0 n) (cap := cap) (cur := cur') (by rw [h4]; exact h2) (by rw [h4]; exact hnc)
    rw [h4] at h5
    exact h5
set_option maxHeartbeats 4000000 in
theorem heldEdgeS_some (b off cap n : Nat) (k0 : Int) (w : World) (hk0 : 0 ≤ k0) (hk1 : k0 ≤ 100000000) (hn : n ≤ 1048576)
    (hc : ∀ j x, (marksEdge k0 n)[j]? = some x → ∀ i u, (encEdge x)[i]? = some u → w.cell? ⟨b, off + j * 5 + i, none⟩ = some u) :
    Calls Tryz.prog 39 #[.slice (some ⟨b, off, none⟩) n cap, .int .i64 k0] w fun e w' => e = .returned (.int .i64 (k0 + 5 * n)) ∧ w' = w := by
  have HC : Hid (∀ j x, (marksEdge k0 n)[j]? = some x → ∀ i u, (encEdge x)[i]? = some u → w.cell? ⟨b, off + j * 5 + i, none⟩ = some u) := hc
  clear hc
  go_enter Tryz.func39, Tryz.ntmps39
  go_wp2_with fail
  go_loop [1, 5] (fun q i => ∃ k : Nat, k ≤ n ∧ i = .int .i64 k ∧ q = .int .i64 (k0 + 5 * k)) (fun _ i => n - (intOf i).toNat)
  case atStart => exact ⟨0, by omega, rfl, by simp⟩
  case round =>
    obtain ⟨k, hk, rfl, rfl⟩ := hrel
    by_cases hlt : k < n
    · have hx := marksEdge_get k0 hlt
      have e0 : w.cell? ⟨b, off + k * 5, none⟩ = some (.int .i64 (k0 + 5 * k)) := HC.out k _ hx 0 _ rfl
      have e1 : w.cell? ⟨b, off + k * 5 + 1, none⟩ = some (.int .i64 (k0 + 5 * k + 1)) := HC.out k _ hx 1 _ rfl
      have e2 : w.cell? ⟨b, off + k * 5 + 2, none⟩ = some (.int .i64 (k0 + 5 * k + 2)) := HC.out k _ hx 2 _ rfl
      have e3 : w.cell? ⟨b, off + k * 5 + 3, none⟩ = some (.int .i64 (k0 + 5 * k + 3)) := HC.out k _ hx 3 _ rfl
      have e4 : w.cell? ⟨b, off + k * 5 + 4, none⟩ = some (.int .i64 (k0 + 5 * k + 4)) := HC.out k _ hx 4 _ rfl
      clear hx
      go_wp2_with fail
      go_round
      case rel => exact ⟨k + 1, by omega, by go_num, by go_num⟩
      case measure => simp [intOf]; omega
    · have : k = n := by omega
      subst this
      go_wp2_with fail
      go_ret
      exact ⟨rfl, rfl⟩
set_option maxHeartbeats 400000 in
theorem heldEdgeS_empty (a : Option Addr) (c : Nat) (k0 : Int) (w : World) :
    Calls Tryz.prog 39 #[.slice a 0 c, .int .i64 k0] w fun e w' => e = .returned (.int .i64 k0) ∧ w' = w := by
  go_enter Tryz.func39, Tryz.ntmps39
  go_wp2
  refine wp_loop_rounds 1 ?_
  rw [rounds_succ]
  go_wp2
  go_ret
  exact ⟨rfl, rfl⟩
theorem heldEdgeS (v : Value) (n : Nat) (k0 : Int) (w : World) (hk0 : 0 ≤ k0) (hk1 : k0 ≤ 100000000) (hn : n ≤ 1048576) (h : RowAt 5 encEdge w v (marksEdge k0 n)) :
    Calls Tryz.prog 39 #[v, .int .i64 k0] w fun e w' => e = .returned (.int .i64 (k0 + 5 * n)) ∧ w' = w := by
  rcases h with ⟨h0, a, c, rfl⟩ | ⟨h0, b, off, c, rfl, hlt, hc⟩
  · have : n = 0 := by have := marksEdge_len k0 n; rw [h0] at this; simpa using this.symm
    subst this
    simpa using heldEdgeS_empty a c k0 w
  · rw [marksEdge_len] at *
    exact heldEdgeS_some b off c n k0 w hk0 hk1 hn hc
theorem own_grown {w w' : World} {base e size : Nat} {v : Value} {n : Nat} {xs : List Value} {r : Option Nat} (h : w.ownsRow base e size v n xs) (hg : w.grownBy w' r) (hne : ∀ k, v.ownBlock = some k → r ≠ some k) : w'.ownsRow base e size v n xs := by
  refine h.kept hg ?_
  cases hv : v.ownBlock with
  | none => exact .inl rfl
  | some k => exact .inr (fun e => hne k hv e.symm)
/-- Of what was there only these blocks are turned. -/
structure But (p : Nat → Prop) (w w' : World) : Prop where
  os : w'.os = w.os
  tape : w'.tape = w.tape
  output : w'.output = w.output
  size : w.heap.size ≤ w'.heap.size
  blk : ∀ k, k < w.heap.size → ¬ p k → w'.heap[k]? = w.heap[k]?
theorem But.below {p : Nat → Prop} {w w' w0 : World} {B : Nat} (h : But p w w') (hb : Below B w0 w) (hB : B ≤ w.heap.size) (hp : ∀ k, p k → B ≤ k) : Below B w0 w' :=
  ⟨h.os.trans hb.os, h.tape.trans hb.tape, h.output.trans hb.output, Nat.le_trans hb.size h.size, fun k hk => (h.blk k (by omega) (fun e => by have := hp k e; omega)).trans (hb.block k hk)⟩
theorem But.of {w w1 w2 w3 : World} {r1 r2 : Option Nat} (h : Below w.heap.size w w1) (h1 : w1.grownBy w2 r1) (h2 : w2.grownBy w3 r2) : But (fun g => r1 = some g ∨ r2 = some g) w w3 :=
  ⟨h2.os.trans (h1.os.trans h.os), h2.tape.trans (h1.tape.trans h.tape), h2.output.trans (h1.output.trans h.output), Nat.le_trans h.size (Nat.le_trans h1.size h2.size), fun k hk hp => (h2.block k (by have := h.size; have := h1.size; omega) (fun e => hp (.inr e.symm))).trans ((h1.block k (by have := h.size; omega) (fun e => hp (.inl e.symm))).trans (h.block k hk))⟩
theorem But.own {p : Nat → Prop} {w w' : World} {base e size : Nat} {v : Value} {n : Nat} {xs : List Value} (hb : But p w w') (h : w.ownsRow base e size v n xs) (hne : ∀ k, v.ownBlock = some k → ¬ p k) : w'.ownsRow base e size v n xs := by
  obtain ⟨h1, h | ⟨g, cap, cur, rfl, hbb, hg, hr⟩⟩ := h
  · exact ⟨h1, .inl h⟩
  · exact ⟨h1, .inr ⟨g, cap, cur, rfl, hbb, by rw [hb.blk g (lt_of_block hg) (hne g rfl)]; exact hg, hr⟩⟩
theorem OwnGraph.but {p : Nat → Prop} {w w' : World} {base : Nat} {v1 v2 : Value} {ns : List (Int × Int)} {es : List (Int × Int × Int × Int × Int)} (hb : But p w w') (h : OwnGraph w base v1 v2 ns es) (hne : ∀ k, base ≤ k → ¬ p k) : OwnGraph w' base v1 v2 ns es :=
  ⟨hb.own h.1 (fun k hk => hne k (h.1.lt k hk).1), hb.own h.2.1 (fun k hk => hne k (h.2.1.lt k hk).1), h.2.2⟩
theorem RowAt.low {α : Type} {s : Nat} {enc : α → List Value} {w w' : World} {v : Value} {xs : List α} (h : RowAt s enc w v xs) (hb : Below w.heap.size w w') : RowAt s enc w' v xs := h.keep hb
set_option maxHeartbeats 2000000 in
theorem markGraph (base : Nat) (v1 v2 : Value) (ns : List (Int × Int)) (es : List (Int × Int × Int × Int × Int)) (k0 : Int) (w : World) (hk0 : 0 ≤ k0) (hk1 : k0 ≤ 1000000) (l1 : ns.length ≤ 1048576) (l2 : es.length ≤ 1048576) (hown : OwnGraph w base v1 v2 ns es) :
    Calls Tryz.prog 11 #[.agg #[v1, v2], .int .i64 k0] w fun e w' => e = .returned (.int .i64 (k0 + 2 * ns.length + 5 * es.length)) ∧ OwnGraph w' base v1 v2 (marksNode k0 ns.length) (marksEdge (k0 + 2 * ns.length) es.length) ∧ But (fun g => v1.ownBlock = some g ∨ v2.ownBlock = some g) w w' := by
  have b0 : ∀ o, Below w.heap.size w (w.alloc o) := fun o => (Below.refl _ _).alloc (Nat.le_refl _) _
  have o1 := fun o => own_keep hown.1 (b0 o)
  have H2 : Hid (w.ownsRow base 72 5 v2 es.length (es.flatMap encEdge) ∧ (∀ k, v1.ownBlock = some k → v2.ownBlock ≠ some k) ∧ (∀ k, v1.ownBlock = some k → k < w.heap.size)) := ⟨hown.2.1, hown.2.2, fun k hk => (hown.1.lt k hk).2⟩
  have B0 : Hid (∀ o, Below w.heap.size w (w.alloc o)) := b0
  obtain ⟨a1, c1, a2, c2, rfl, rfl⟩ := hown.form
  clear hown b0
  go_enter Tryz.func11, Tryz.ntmps11
  go_wp2_with fail
  refine (markNodeS base ns.length _ k0 _ _ hk0 (by omega) l1 (o1 _)).mono ?_
  rintro e w1 ⟨rfl, own1, gr1⟩
  have q1 : w1.cell? ⟨w.heap.size, 1, none⟩ = some (.slice a2 es.length c2) := gr1.cell (by simp [go_sem]) (fun h => by have := H2.out.2.2 _ h.symm; simp at this)
  have own2 := own_grown (own_keep H2.out.1 (B0.out (.cells #[.slice a1 ns.length c1, .slice a2 es.length c2] 32))) gr1 (fun k hk e => H2.out.2.1 k e hk)
  have HO : Hid (w1.ownsRow base 69 2 (.slice a1 ns.length c1) ns.length ((marksNode k0 ns.length).flatMap encNode) ∧ (w.alloc (.cells #[.slice a1 ns.length c1, .slice a2 es.length c2] 32)).grownBy w1 (Value.slice a1 ns.length c1).ownBlock) := ⟨own1, gr1⟩
  clear own1 gr1 o1
  go_wp2_with fail
  refine (markEdgeS base es.length _ _ _ _ (by omega) (by omega) l2 own2).mono ?_
  rintro e w2 ⟨rfl, own3, gr2⟩
  have HP : Hid (OwnGraph w2 base (.slice a1 ns.length c1) (.slice a2 es.length c2) (marksNode k0 ns.length) (marksEdge (k0 + 2 * ns.length) es.length) ∧ But (fun g => (Value.slice a1 ns.length c1).ownBlock = some g ∨ (Value.slice a2 es.length c2).ownBlock = some g) w w2) :=
    ⟨⟨by rw [marksNode_len]; exact own_grown HO.out.1 gr2 (fun k hk e => H2.out.2.1 k hk e), by rw [marksEdge_len]; exact own3, H2.out.2.1⟩, But.of (B0.out _) HO.out.2 gr2⟩
  clear own3 gr2 own2 q1
  go_wp2_with fail
  go_ret
  exact ⟨rfl, HP.out⟩
set_option maxHeartbeats 2000000 in
theorem heldGraph (v1 v2 : Value) (n m : Nat) (k0 : Int) (w : World) (hk0 : 0 ≤ k0) (hk1 : k0 ≤ 1000000) (l1 : n ≤ 1048576) (l2 : m ≤ 1048576) (h1 : RowAt 2 encNode w v1 (marksNode k0 n)) (h2 : RowAt 5 encEdge w v2 (marksEdge (k0 + 2 * n) m)) :
    Calls Tryz.prog 18 #[.agg #[v1, v2], .int .i64 k0] w fun e w' => e = .returned (.int .i64 (k0 + 2 * n + 5 * m)) ∧ Below w.heap.size w w' := by
  have b0 : ∀ o, Below w.heap.size w (w.alloc o) := fun o => (Below.refl _ _).alloc (Nat.le_refl _) _
  have k1 := fun o => h1.keep (b0 o)
  have k2 := fun o => h2.keep (b0 o)
  obtain ⟨a1, c1, rfl⟩ := h1.len
  obtain ⟨a2, c2, rfl⟩ := h2.len
  rw [marksNode_len, marksEdge_len] at *
  clear h1 h2
  go_enter Tryz.func18, Tryz.ntmps18
  go_wp2_with fail
  refine use (heldNodeS _ n k0 _ hk0 (by omega) l1 (k1 _)) ?_
  have HB := b0 (.cells #[.slice a1 n c1, .slice a2 m c2] 32)
  have K2 := k2 (.cells #[.slice a1 n c1, .slice a2 m c2] 32)
  clear k1 k2 b0
  go_wp2_with fail
  refine use (heldEdgeS _ m (k0 + 2 * n) _ (by omega) (by omega) l2 K2) ?_
  clear K2
  go_wp2_with fail
  go_ret
  exact ⟨rfl, HB⟩
end Go.Proofs.YtlnpbfeihjfnjabGreatDoor.Lab

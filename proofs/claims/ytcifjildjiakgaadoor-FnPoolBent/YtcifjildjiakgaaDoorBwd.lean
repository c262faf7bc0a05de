/-
  slices.Backward over pages: its iterator's contract.
-/
import Derived.Test.YtcifjildjiakgaaDoorPag
import Derived.RangeFuncNested
import Derived.RangeFuncBound
import Derived.RangeFuncCalls
import Derived.RangeFuncLeaves
import Derived.RangeFuncBox
import Derived.Shelf.Abstract
import Derived.Shelf.RegionOpen
import Derived.WalkKit
import Derived.OwnWalkIn
import Derived.TacticsInMore
import Derived.LoopNIn
import Derived.LoopIn
namespace Go.Proofs.YtcifjildjiakgaaDoor.Lab
open Go.RowKit Go.Shelf
set_option linter.unusedVariables false
attribute [local go_sem] Oper.semAt_some
/-- What has come when k rounds are over: the last page first. -/
def come (xs : List (Int × Int)) (k : Nat) : List (Int × Int × Int) := (List.range k).map (fun j : Nat => ((xs.length : Int) - 1 - j, xs.reverse[j]?.getD (0, 0)))
theorem come_len (xs : List (Int × Int)) (k : Nat) : (come xs k).length = k := by simp [come]
theorem come_succ (xs : List (Int × Int)) (k : Nat) : come xs (k + 1) = come xs k ++ [((xs.length : Int) - 1 - k, xs.reverse[k]?.getD (0, 0))] := by simp [come, List.range_succ]
theorem come_map (xs : List (Int × Int)) (k : Nat) (hk : k ≤ xs.length) : (come xs k).map Prod.snd = xs.reverse.take k := by
  apply List.ext_getElem
  · simp [come, hk]
  · intro i h1 h2
    have h3 : i < xs.length := by simp [come] at h1; omega
    simp [come, h3]
def encB (x : Int × Int × Int) : Array Value := #[.int .i64 x.1, .agg #[.int .i64 x.2.1, .int .i64 x.2.2]]
/-- What a round keeps: one block, and what is old. -/
def KpB (Bs n₀ : Nat) (W W' : World) : Prop := W'.heap[Bs]? = W.heap[Bs]? ∧ Below n₀ W W'
theorem KpB.refl (Bs n₀ : Nat) (W : World) : KpB Bs n₀ W W := ⟨rfl, Below.refl _ _⟩
theorem KpB.trans {Bs n₀ : Nat} {A B C : World} (h : KpB Bs n₀ A B) (k : KpB Bs n₀ B C) : KpB Bs n₀ A C := ⟨k.1.trans h.1, h.2.trans k.2⟩
theorem KpB.put {Bs n₀ : Nat} {w : World} (hB : Bs < w.heap.size) (hn : n₀ ≤ w.heap.size) (W : World) (l : Nat) (o o' : Obj) (hl : w.heap.size ≤ l) (h : W.heap[l]? = some o) (h1 : o.isCells = false) (h2 : o.isWalk = false) : KpB Bs n₀ W (W.putObj l o') :=
  ⟨World.putObj_heap_other (by omega), belowK_b hn W l o o' hl h h1 h2⟩
set_option maxRecDepth 100000 in
set_option maxHeartbeats 2000000 in
theorem bwd1_in (F : Fence) (n : Nat) (hF : F.fn 27) (hro : F.round = none) (hn : 1 ≤ n) (l Bs n₀ b off cap : Nat) (xs : List (Int × Int)) (hlen : xs.length ≤ 1048576) (hb : b < n₀) (J Jx : List (Int × Int × Int) → World → Prop)
    (hY : ∀ pre x W, J pre W → pre.length < xs.length → YieldAt F (n - 1) Tryd.prog l (encB x) W fun e W' =>
      (e = .returned (.bool true) ∧ J (pre ++ [x]) W' ∧ KpB Bs n₀ W W') ∨ (e = .returned (.bool false) ∧ Jx (pre ++ [x]) W'))
    (W : World) (hBs : W.heap[Bs]? = some (.cells #[.slice (some ⟨b, off, none⟩) xs.length cap] 23 (0, 0))) (hc : ∀ j x, xs[j]? = some x → ∀ i u, (encPage x)[i]? = some u → W.cell? ⟨b, off + j * 2 + i, none⟩ = some u) (h0 : J [] W) :
    CallsIn F n Tryd.prog 27 #[.func (.yield l) #[] #[], .pointer (some ⟨Bs, 0, none⟩)] W fun e W' => (∃ v, e = .returned v) ∧
      ((∃ ys, ys = come xs xs.length ∧ J ys W') ∨ (∃ pre, (∃ k, k ≤ xs.length ∧ pre = come xs k) ∧ Jx pre W')) := by
  have HC : Hid (∀ j x, xs[j]? = some x → ∀ i u, (encPage x)[i]? = some u → W.cell? ⟨b, off + j * 2 + i, none⟩ = some u) := hc
  have HS : Hid (W.heap[Bs]? = some (.cells #[.slice (some ⟨b, off, none⟩) xs.length cap] 23 (0, 0))) := hBs
  have c0 : W.cell? ⟨Bs, 0, none⟩ = some (.slice (some ⟨b, off, none⟩) xs.length cap) := by rw [cell_block hBs]; rfl
  obtain ⟨len, hl⟩ : ∃ len, len = xs.length := ⟨_, rfl⟩
  have HL : Hid (len = xs.length) := hl
  have HY : Hid (∀ pre x W, J pre W → pre.length < len → YieldAt F (n - 1) Tryd.prog l (encB x) W fun e W' =>
      (e = .returned (.bool true) ∧ J (pre ++ [x]) W' ∧ KpB Bs n₀ W W') ∨ (e = .returned (.bool false) ∧ Jx (pre ++ [x]) W')) := by show ∀ pre x W, _; rw [hl]; exact hY
  rw [← hl] at c0 hlen ⊢
  clear hc hBs hl hY
  refine callsIn_of_wp Tryd.func27 rfl hF ?_ hro
  simp only [Tryd.ntmps27, List.size_toArray, List.length_cons, List.length_nil, Nat.reduceAdd, Nat.reduceSub, Array.replicate_succ, Array.replicate_zero, List.push_toArray, List.append_toArray, List.nil_append, List.cons_append]
  gi_wp2
  gi_loopw [3] (fun i wr => ∃ (r : Nat) (i0 : Int), i0 = (r : Int) - 1 ∧ r ≤ len ∧ i = .int .i64 i0 ∧ J (come xs (len - r)) wr ∧ KpB Bs n₀ W wr)
    (fun i _ => (intOf i + 1).toNat)
  case atStart => exact ⟨len, _, rfl, Nat.le_refl _, rfl, by simpa [come] using h0, KpB.refl _ _ _⟩
  case round =>
    obtain ⟨r, i0, hi0, hr, rfl, hJs, hk⟩ := hrel
    have d0 : wr.cell? ⟨Bs, 0, none⟩ = some (.slice (some ⟨b, off, none⟩) len cap) := (World.cell?_of_block (a := ⟨Bs, 0, none⟩) hk.1).trans c0
    cases r with
    | succ m =>
      obtain rfl : i0 = (m : Int) := by omega
      obtain ⟨⟨x0, x1⟩, hx⟩ : ∃ x, xs[m]? = some x := ⟨_, List.getElem?_eq_getElem (by have := HL.out; omega)⟩
      have e0 : wr.cell? ⟨b, off + m * 2, none⟩ = some (.int .i64 x0) := (hk.2.cell (p := ⟨b, off + m * 2, none⟩) hb).trans (HC.out m _ hx 0 _ rfl)
      have e1 : wr.cell? ⟨b, off + m * 2 + 1, none⟩ = some (.int .i64 x1) := (hk.2.cell (p := ⟨b, off + m * 2 + 1, none⟩) hb).trans (HC.out m _ hx 1 _ rfl)
      have hcm : come xs (len - m) = come xs (len - (m + 1)) ++ [((m : Int), x0, x1)] := by
        have h1 : len - m = len - (m + 1) + 1 := by omega
        have h2 : xs.reverse[len - (m + 1)]? = some (x0, x1) := by
          rw [List.getElem?_reverse (by have := HL.out; omega)]
          have : xs.length - 1 - (len - (m + 1)) = m := by have := HL.out; omega
          rw [this]; exact hx
        rw [h1, come_succ, h2]
        simp only [Option.getD_some]
        congr 2
        have := HL.out
        congr 1
        omega
      obtain ⟨fn, tmps, assign, body, hy, hR⟩ := HY.out _ ((m : Int), x0, x1) wr hJs (by rw [come_len]; omega)
      rw [← hcm] at hR
      simp only [encB] at hy hR
      have hm0 : (0 : Int) ≤ (m : Int) := by omega
      have hml : (m : Int) < (len : Int) := by omega
      clear hcm hx hi0 hJs
      gi_wp2
      refine hR.mono ?_
      rintro e W3 (⟨rfl, hJ3, hk3⟩ | ⟨rfl, hJx3⟩)
      · gi_wp2
        go_roundw
        case rel => exact ⟨m, _, rfl, by omega, by go_num, hJ3, hk.trans hk3⟩
        case measure => simp [intOf]
      · gi_wp2
        refine bodyPost_ret (results_none rfl _ _ _) rfl ?_
        exact ⟨⟨_, rfl⟩, .inr ⟨_, ⟨len - m, by omega, rfl⟩, hJx3⟩⟩
    | zero =>
      obtain rfl : i0 = -1 := by omega
      clear hi0
      gi_wp2
      go_end0
      exact ⟨⟨_, rfl⟩, .inl ⟨_, by simp, hJs⟩⟩
set_option maxHeartbeats 1000000 in
theorem bwd1_none (F : Fence) (n : Nat) (hF : F.fn 27) (hro : F.round = none) (l Bs cap : Nat) (a : Option Addr) (J : List (Int × Int × Int) → World → Prop) (W : World) (hBs : W.cell? ⟨Bs, 0, none⟩ = some (.slice a 0 cap)) (h0 : J [] W) :
    CallsIn F n Tryd.prog 27 #[.func (.yield l) #[] #[], .pointer (some ⟨Bs, 0, none⟩)] W fun e W' => (∃ v, e = .returned v) ∧ J [] W' := by
  refine callsIn_of_wp Tryd.func27 rfl hF ?_ hro
  simp only [Tryd.ntmps27, List.size_toArray, List.length_cons, List.length_nil, Nat.reduceAdd, Nat.reduceSub, Array.replicate_succ, Array.replicate_zero, List.push_toArray, List.append_toArray, List.nil_append, List.cons_append]
  gi_wp2
  gi_loopw [3] (fun i wr => i = .int .i64 (-1) ∧ J [] wr) (fun _ _ => 0)
  case atStart => exact ⟨rfl, h0⟩
  case round =>
    obtain ⟨rfl, hJs⟩ := hrel
    gi_wp2
    go_end0
    exact ⟨⟨_, rfl⟩, hJs⟩
theorem bwd_stops (F : Fence) (n : Nat) (hF : F.fn 27) (hro : F.round = none) (hn : 1 ≤ n) (Bs n₀ : Nat) (v : Value) (xs : List (Int × Int)) (hlen : xs.length ≤ 1048576) (w : World) (hn₀ : n₀ ≤ w.heap.size)
    (hBs : w.heap[Bs]? = some (.cells #[v] 23 (0, 0))) (hI : RowAt 2 encPage w v xs) (hlow : ∀ b o c l, v = .slice (some ⟨b, o, none⟩) l c → xs.length ≠ 0 → b < n₀) :
    SeqStopsK F n Tryd.prog 27 #[.pointer (some ⟨Bs, 0, none⟩)] encB (KpB Bs n₀) (fun ys => ys.map Prod.snd = xs.reverse) (fun pre => ∃ k, k ≤ xs.length ∧ pre.map Prod.snd = xs.reverse.take k) xs.length w := fun l J Jx W hW _ _ hY h0 => by
  have hB' : W.heap[Bs]? = some (.cells #[v] 23 (0, 0)) := (hW.block Bs (lt_of_block hBs)).trans hBs
  rcases hI.keep hW with ⟨rfl, a, cap, rfl⟩ | ⟨h1, b, off, cap, rfl, hb, hcs⟩
  · exact (bwd1_none F n hF hro l Bs cap a J W (by rw [cell_block hB']; rfl) h0).mono fun e W' ⟨he, hj⟩ => ⟨he, .inl ⟨_, rfl, hj⟩⟩
  · refine (bwd1_in F n hF hro hn l Bs n₀ b off cap xs hlen (hlow _ _ _ _ rfl (by omega)) J Jx hY W hB' hcs h0).mono ?_
    rintro e W' ⟨he, ⟨ys, rfl, hj⟩ | ⟨pre, ⟨k, hk, rfl⟩, hj⟩⟩
    · exact ⟨he, .inl ⟨_, (come_map xs _ (Nat.le_refl _)).trans (by rw [← List.length_reverse, List.take_length]), hj⟩⟩
    · exact ⟨he, .inr ⟨_, ⟨k, hk, come_map xs k hk⟩, hj⟩⟩
set_option maxHeartbeats 400000 in
theorem backward (a : Option Addr) (len cap : Nat) (w : World) :
    Calls Tryd.prog 23 #[.slice a len cap] w fun e w' => e = .returned (.func (.func 27) #[] #[.pointer (some ⟨w.heap.size, 0, none⟩)]) ∧ w' = w.alloc (.cells #[.slice a len cap] 23) := by
  go_enter Tryd.func23, Tryd.ntmps23
  go_wp2
  go_ret
  exact ⟨rfl, rfl⟩
end Go.Proofs.YtcifjildjiakgaaDoor.Lab

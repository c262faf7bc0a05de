/-
  Rows of numbers: what the laws' own functions on them do (toIntS, eqIntS, markIntS, heldIntS, wpInts).
-/
import Derived.Test.YtnhacflknkgfgaaRow
import Derived.Handy
import Derived.BigQuiet
import Derived.Deep.QuietTactic
namespace Go.Proofs.Ytnhacflknkgfgaa.Lab
open Go.RowKit
set_option linter.unusedVariables false
def encI (x : Int) : List Value := [.int .i64 x]
theorem encI_len (x : Int) : (encI x).length = 1 := rfl
theorem Try.infoI : (Try.prog.info? 3).map (fun i => (i.zero, i.size, i.bytes)) = some (some (.int .i64 0), 1, 8) := by kernel_rfl
theorem flatI (xs : List Int) : xs.flatMap encI = xs.map (Value.int .i64) := by
  induction xs with
  | nil => rfl
  | cons x xs ih => rw [List.flatMap_cons, ih]; rfl
/-- The cells of a row of numbers. -/
theorem cellI {w : World} {b off : Nat} {xs : List Int} (h : ∀ j x, xs[j]? = some x → ∀ i u, (encI x)[i]? = some u → w.cell? ⟨b, off + j * 1 + i, none⟩ = some u) {k : Nat} {x : Int} (hx : xs[k]? = some x) : w.cell? ⟨b, off + k, none⟩ = some (.int .i64 x) := by
  have := h k x hx 0 _ rfl
  simpa using this
/-- A row of which the first k numbers have been laid. -/
def laidI (xs : List Int) (k n : Nat) (cur : Array Value) : Prop := cur.size = n ∧ ∀ j x, j < k → xs[j]? = some x → cur[j]? = some (.int .i64 x)
theorem laidI_step {xs : List Int} {k n : Nat} {cur : Array Value} {m : Int} (h : laidI xs k n cur) (hk : k < n) (hx : xs[k]? = some m) : laidI xs (k + 1) n (cur.setIfInBounds k (.int .i64 m)) := by
  obtain ⟨h1, h2⟩ := h
  refine ⟨by simp [h1], fun j x hj hxj => ?_⟩
  rcases Nat.lt_succ_iff_lt_or_eq.1 hj with hj | rfl
  · rw [Array.getElem?_setIfInBounds, if_neg (by omega)]
    exact h2 j x hj hxj
  · rw [hx] at hxj
    cases hxj
    rw [Array.getElem?_setIfInBounds, if_pos rfl, if_pos (by omega)]
theorem laidI_take {xs : List Int} {cap : Nat} {cur : Array Value} (h : laidI xs xs.length cap cur) (hc : xs.length ≤ cap) : cur.toList.take (xs.length * 1) = xs.flatMap encI := by
  obtain ⟨h1, h2⟩ := h
  rw [flatI]
  apply List.ext_getElem?
  intro m
  rw [List.getElem?_take]
  by_cases hm : m < xs.length
  · rw [if_pos (by omega)]
    have := h2 m _ hm (List.getElem?_eq_getElem hm)
    rw [List.getElem?_map, List.getElem?_eq_getElem hm]
    simpa using this
  · rw [if_neg (by omega), List.getElem?_eq_none (by simp; omega)]
theorem makeI (n : Nat) (h : n ≤ 1048576) (w : World) : (Instr.makeSlice 36 (.int .i64 n) (.int .i64 n)).run Try.prog w = .ok (.slice (some ⟨w.heap.size, 0, none⟩) n n) (w.alloc (.cells (madeCells #[.int .i64 0] n) 3)) := by
  obtain ⟨i0, hi, hz0, hz1, hz2⟩ := info_parts Try.infoI
  have := run_make (P := Try.prog) w 36 3 i0 _ Try.underlying36 hi hz0 .i64 .i64 n n (by omega) (by omega) (by rw [hz2]; omega) (by omega)
  rw [hz1] at this
  simpa [Value.cells] using this
set_option maxHeartbeats 2000000 in
theorem toIntS_some (b off cap : Nat) (xs : List Int) (w : World) (hl : xs.length ≤ 1048576) (hb : b < w.heap.size)
    (hc : ∀ j x, xs[j]? = some x → ∀ i u, (encI x)[i]? = some u → w.cell? ⟨b, off + j * 1 + i, none⟩ = some u) :
    Calls Try.prog 50 #[.slice (some ⟨b, off, none⟩) xs.length cap] w fun e w' => ∃ v', e = .returned v' ∧ w'.ownsRow w.heap.size 3 1 v' xs.length (xs.flatMap encI) ∧ Below w.heap.size w w' := by
  have HC : Hid (∀ j x, xs[j]? = some x → ∀ i u, (encI x)[i]? = some u → w.cell? ⟨b, off + j * 1 + i, none⟩ = some u) := hc
  clear hc
  obtain ⟨n, hn⟩ : ∃ n, n = xs.length := ⟨_, rfl⟩
  have HN : Hid (n = xs.length) := hn
  rw [← hn] at hl ⊢
  clear hn
  have hmk := makeI n hl
  go_enter Try.func50, Try.ntmps50
  go_wp2_with fail
  clear hmk
  go_loopw [4] (fun i wr => ∃ k : Nat, k ≤ n ∧ i = .int .i64 k ∧ Below w.heap.size w wr ∧ ∃ cur, wr.heap[w.heap.size]? = some (.cells cur 3 (0, 0)) ∧ laidI xs k n cur) (fun i _ => n - (intOf i).toNat)
  case atStart => exact ⟨0, by omega, rfl, (Below.refl _ _).alloc (Nat.le_refl _) _, _, new_block _ _, ⟨by simp [size_madeCells], fun j x hj => by omega⟩⟩
  case round =>
    obtain ⟨k, hk, rfl, hbel, cur, hblk, hlaid⟩ := hrel
    have hsz := hlaid.1
    by_cases hlt : k < n
    · obtain ⟨m0, hx⟩ : ∃ x, xs[k]? = some x := ⟨_, List.getElem?_eq_getElem (by rw [← HN.out]; exact hlt)⟩
      have e0 : wr.cell? ⟨b, off + k, none⟩ = some (.int .i64 m0) := by rw [hbel.cell (p := ⟨b, off + k, none⟩) hb]; exact cellI HC.out hx
      have HL : Hid (laidI xs (k + 1) n (cur.setIfInBounds k (.int .i64 m0))) := laidI_step hlaid hlt hx
      obtain ⟨y0, r0⟩ : ∃ y, wr.cell? ⟨w.heap.size, k, none⟩ = some y := by rw [cell_block hblk]; exact ⟨_, Array.getElem?_eq_getElem (by omega)⟩
      have hf : ∀ i, wr.frozen? ⟨w.heap.size, i, none⟩ = false := fun i => free_block hblk
      have HG : Hid ((wr.setCell ⟨w.heap.size, k, none⟩ (.int .i64 m0)).heap[w.heap.size]? = some (.cells (cur.setIfInBounds k (.int .i64 m0)) 3 (0, 0)) ∧ Below w.heap.size w (wr.setCell ⟨w.heap.size, k, none⟩ (.int .i64 m0))) := ⟨set_block _ hblk, hbel.setCell (by simp) _⟩
      clear hlaid hx hblk hbel
      go_wp2_with fail
      go_roundw
      case rel => exact ⟨k + 1, by omega, by go_num, HG.out.2, _, HG.out.1, HL.out⟩
      case measure => simp [intOf]; omega
    · have hkn : k = n := by omega
      subst hkn
      go_wp2_with fail
      go_ret
      refine ⟨_, rfl, ⟨by rw [flat_len encI_len, HN.out], .inr ⟨w.heap.size, k, cur, rfl, Nat.le_refl _, hblk, Nat.le_refl _, by unfold maxLen; omega, by omega, ?_⟩⟩, hbel⟩
      have ht := HN.out
      subst ht
      exact laidI_take hlaid (Nat.le_refl _)
set_option maxHeartbeats 400000 in
theorem toIntS_empty (a1 : Option Addr) (c1 : Nat) (w : World) :
    Calls Try.prog 50 #[.slice a1 0 c1] w fun e w' => ∃ v', e = .returned v' ∧ w'.ownsRow w.heap.size 3 1 v' 0 [] ∧ Below w.heap.size w w' := by
  have hmk : ∀ w, (Instr.makeSlice 36 (.int .i64 0) (.int .i64 0)).run Try.prog w = .ok (.slice (some ⟨w.heap.size, 0, none⟩) 0 0) (w.alloc (.cells (madeCells #[.int .i64 0] 0) 3)) := makeI 0 (by omega)
  go_enter Try.func50, Try.ntmps50
  go_wp2
  refine wp_loop_rounds 1 ?_
  rw [rounds_succ]
  go_wp2
  go_ret
  exact ⟨_, rfl, ⟨rfl, .inr ⟨w.heap.size, 0, _, rfl, Nat.le_refl _, new_block _ _, Nat.le_refl _, by unfold maxLen; omega, by simp [size_madeCells], by simp⟩⟩, (Below.refl _ _).alloc (Nat.le_refl _) _⟩
theorem toIntS (v : Value) (xs : List Int) (w : World) (h : RowAt 1 encI w v xs) (hl : xs.length ≤ 1048576) :
    Calls Try.prog 50 #[v] w fun e w' => ∃ v', e = .returned v' ∧ w'.ownsRow w.heap.size 3 1 v' xs.length (xs.flatMap encI) ∧ Below w.heap.size w w' := by
  rcases h with ⟨rfl, a1, c1, rfl⟩ | ⟨p1, b1, o1, c1, rfl, l1, e1⟩
  · exact toIntS_empty a1 c1 w
  · exact toIntS_some b1 o1 c1 xs w hl l1 e1
theorem belN {B : Nat} {a w : World} (h : Below B a w) (n : Nat) : Below B a (w.drewN n) := ⟨h.os, h.tape, h.output, h.size, h.block⟩
set_option maxHeartbeats 4000000 in
theorem eqIntS_some (b1 o1 c1 b2 o2 c2 : Nat) (xs ys : List Int) (w : World) (hlen : xs.length = ys.length) (hl : xs.length ≤ 1048576) (hb1 : b1 < w.heap.size) (hb2 : b2 < w.heap.size)
    (h1 : ∀ j x, xs[j]? = some x → ∀ i u, (encI x)[i]? = some u → w.cell? ⟨b1, o1 + j * 1 + i, none⟩ = some u) (h2 : ∀ j x, ys[j]? = some x → ∀ i u, (encI x)[i]? = some u → w.cell? ⟨b2, o2 + j * 1 + i, none⟩ = some u) :
    Calls Try.prog 34 #[.slice (some ⟨b1, o1, none⟩) xs.length c1, .slice (some ⟨b2, o2, none⟩) xs.length c2] w fun e w' => e = .returned (.bool (eqB xs ys)) ∧ Below w.heap.size w w' := by
  have H1 : Hid (∀ j x, xs[j]? = some x → ∀ i u, (encI x)[i]? = some u → w.cell? ⟨b1, o1 + j * 1 + i, none⟩ = some u) := h1
  have H2 : Hid (∀ j x, ys[j]? = some x → ∀ i u, (encI x)[i]? = some u → w.cell? ⟨b2, o2 + j * 1 + i, none⟩ = some u) := h2
  clear h1 h2
  obtain ⟨n, hn⟩ : ∃ n, n = xs.length := ⟨_, rfl⟩
  have HN : Hid (n = xs.length ∧ n = ys.length) := ⟨hn, by omega⟩
  rw [← hn] at hl ⊢
  clear hn hlen
  go_enter Try.func34, Try.ntmps34
  go_wp2_with fail
  go_loopw [5] (fun i wr => ∃ k : Nat, k ≤ n ∧ i = .int .i64 k ∧ Below w.heap.size w wr ∧ ∀ j, j < k → xs[j]? = ys[j]?) (fun i _ => n - (intOf i).toNat)
  case atStart => exact ⟨0, by omega, rfl, Below.refl _ _, fun j hj => by omega⟩
  case round =>
    obtain ⟨k, hk, rfl, hbel, hq⟩ := hrel
    have HQ : Hid (∀ j, j < k → xs[j]? = ys[j]?) := hq
    clear hq
    by_cases hlt : k < n
    · obtain ⟨m0, hx⟩ : ∃ x, xs[k]? = some x := ⟨_, List.getElem?_eq_getElem (by rw [← HN.out.1]; exact hlt)⟩
      obtain ⟨p0, hy⟩ : ∃ x, ys[k]? = some x := ⟨_, List.getElem?_eq_getElem (by rw [← HN.out.2]; exact hlt)⟩
      have e0 : wr.cell? ⟨b1, o1 + k, none⟩ = some (.int .i64 m0) := by rw [hbel.cell (p := ⟨b1, _, none⟩) hb1]; exact cellI H1.out hx
      have f0 : wr.cell? ⟨b2, o2 + k, none⟩ = some (.int .i64 p0) := by rw [hbel.cell (p := ⟨b2, _, none⟩) hb2]; exact cellI H2.out hy
      have HX : Hid (xs[k]? = some m0 ∧ ys[k]? = some p0) := ⟨hx, hy⟩
      have k0 : (0 : Int) ≤ (k : Int) := by omega
      have k1 : (k : Int) < (n : Int) := by omega
      have HB : Hid (Below w.heap.size w wr) := hbel
      clear hx hy hbel
      by_cases h0 : m0 = p0
      · subst h0
        go_wp2_with fail
        go_quiet (fail)
        go_wp2_with fail
        go_roundw
        case rel =>
          refine ⟨k + 1, by omega, by go_num, belN HB.out _, fun j hj => ?_⟩
          rcases Nat.lt_succ_iff_lt_or_eq.1 hj with h | rfl
          · exact HQ.out j h
          · rw [HX.out.1, HX.out.2]
        case measure => simp [intOf]; omega
      · have HD : Hid (¬ m0 = p0) := h0
        have t0 : (m0 != p0) = true := by simpa using h0
        clear h0
        go_wp2_with fail
        go_quiet (fail)
        go_wp2_with fail
        go_ret
        refine ⟨?_, belN HB.out _⟩
        have : eqB xs ys = false := by
          rw [eqB_false]
          intro h
          have h3 := HX.out.1
          rw [h, HX.out.2] at h3
          exact HD.out (Option.some.inj h3).symm
        rw [this]; rfl
    · have hkn : k = n := by omega
      subst hkn
      go_wp2_with fail
      go_ret
      refine ⟨?_, hbel⟩
      have : xs = ys := by
        apply List.ext_getElem?
        intro j
        by_cases hj : j < k
        · exact HQ.out j hj
        · rw [List.getElem?_eq_none (by have := HN.out; omega), List.getElem?_eq_none (by have := HN.out; omega)]
      rw [eqB_true.2 this]; rfl
set_option maxHeartbeats 400000 in
theorem eqIntS_len (a1 a2 : Option Addr) (n1 c1 n2 c2 : Nat) (w : World) (h1 : n1 ≤ 1048576) (h2 : n2 ≤ 1048576) (hne : n1 ≠ n2) :
    Calls Try.prog 34 #[.slice a1 n1 c1, .slice a2 n2 c2] w fun e w' => e = .returned (.bool false) ∧ w' = w := by
  have hd : ((n1 : Int) != (n2 : Int)) = true := by rw [bne_iff_ne]; omega
  clear hne
  go_enter Try.func34, Try.ntmps34
  go_wp2
  go_ret
  exact ⟨rfl, rfl⟩
set_option maxHeartbeats 400000 in
theorem eqIntS_empty (a1 a2 : Option Addr) (c1 c2 : Nat) (w : World) :
    Calls Try.prog 34 #[.slice a1 0 c1, .slice a2 0 c2] w fun e w' => e = .returned (.bool true) ∧ w' = w := by
  go_enter Try.func34, Try.ntmps34
  go_wp2
  refine wp_loop_rounds 1 ?_
  rw [rounds_succ]
  go_wp2
  go_ret
  exact ⟨rfl, rfl⟩
theorem eqIntS (v1 v2 : Value) (xs ys : List Int) (w : World) (h1 : RowAt 1 encI w v1 xs) (h2 : RowAt 1 encI w v2 ys) (hb1 : xs.length ≤ 1048576) (hb2 : ys.length ≤ 1048576) :
    Calls Try.prog 34 #[v1, v2] w fun e w' => e = .returned (.bool (eqB xs ys)) ∧ Below w.heap.size w w' := by
  by_cases hl : xs.length = ys.length
  · rcases h1 with ⟨rfl, a1, c1, rfl⟩ | ⟨p1, b1, o1, c1, rfl, l1, e1⟩
    · have hm : ys = [] := List.length_eq_zero_iff.1 (by simpa using hl.symm)
      subst hm
      obtain ⟨a2, c2, rfl⟩ := h2.len
      exact (eqIntS_empty a1 a2 c1 c2 w).mono (fun e w' h => ⟨by rw [h.1, eqB_true.2 rfl], by rw [h.2]; exact Below.refl _ _⟩)
    · rcases h2 with ⟨rfl, a2, c2, rfl⟩ | ⟨p2, b2, o2, c2, rfl, l2, e2⟩
      · simp at hl; subst hl; simp at p1
      · rw [← hl]
        exact eqIntS_some b1 o1 c1 b2 o2 c2 xs ys w hl hb1 l1 l2 e1 e2
  · have hf : eqB xs ys = false := by rw [eqB_false]; intro h; exact hl (by rw [h])
    rw [hf]
    obtain ⟨a1, c1, rfl⟩ := h1.len
    obtain ⟨a2, c2, rfl⟩ := h2.len
    exact (eqIntS_len a1 a2 _ c1 _ c2 w hb1 hb2 hl).mono (fun e w' h => ⟨h.1, by rw [h.2]; exact Below.refl _ _⟩)
def marksI (k : Int) (n : Nat) : List Int := (List.range n).map (fun j : Nat => k + j)
theorem marksI_len (k : Int) (n : Nat) : (marksI k n).length = n := by simp [marksI]
theorem marksI_get (k : Int) {n j : Nat} (h : j < n) : (marksI k n)[j]? = some (k + j) := by simp [marksI, List.getElem?_range h]
theorem gri_refl (w : World) (r : Option Nat) : w.grownBy w r := ⟨rfl, rfl, rfl, Nat.le_refl _, fun _ _ _ => rfl⟩
theorem gri_set {w w1 : World} {g : Nat} (h : w.grownBy w1 (some g)) (i : Nat) (u : Value) : w.grownBy (w1.setCell ⟨g, i, none⟩ u) (some g) :=
  ⟨h.os, h.tape, h.output, by have := h.size; simpa using this, fun k hk hne => by rw [Below.heap_setCell _ _ _ _ (fun e => hne (by rw [e]))]; exact h.block k hk hne⟩
set_option maxHeartbeats 4000000 in
theorem markIntS_some (g cap n : Nat) (k0 : Int) (cur0 : Array Value) (w : World) (hk0 : 0 ≤ k0) (hk1 : k0 ≤ 100000000) (hn : n ≤ 1048576) (hnc : n ≤ cap) (hblk0 : w.heap[g]? = some (.cells cur0 3 (0, 0))) (hsz0 : cur0.size = cap) :
    Calls Try.prog 38 #[.slice (some ⟨g, 0, none⟩) n cap, .int .i64 k0] w fun e w' => e = .returned (.int .i64 (k0 + n)) ∧ (∃ cur, w'.heap[g]? = some (.cells cur 3 (0, 0)) ∧ laidI (marksI k0 n) n cap cur) ∧ w.grownBy w' (some g) := by
  go_enter Try.func38, Try.ntmps38
  go_wp2_with fail
  go_loopw [1, 5] (fun q i wr => ∃ k : Nat, k ≤ n ∧ i = .int .i64 k ∧ q = .int .i64 (k0 + k) ∧ w.grownBy wr (some g) ∧ ∃ cur, wr.heap[g]? = some (.cells cur 3 (0, 0)) ∧ laidI (marksI k0 n) k cap cur) (fun _ i _ => n - (intOf i).toNat)
  case atStart => exact ⟨0, by omega, rfl, by simp, gri_refl _ _, cur0, hblk0, hsz0, fun j x hj => by omega⟩
  case round =>
    clear hblk0 hsz0
    obtain ⟨k, hk, rfl, rfl, hgr, cur, hblk, hlaid⟩ := hrel
    have hsz := hlaid.1
    by_cases hlt : k < n
    · have hx : (marksI k0 n)[k]? = some (k0 + k) := marksI_get k0 hlt
      obtain ⟨y0, r0⟩ : ∃ y, wr.cell? ⟨g, k, none⟩ = some y := by rw [cell_block hblk]; exact ⟨_, Array.getElem?_eq_getElem (by omega)⟩
      have hf : ∀ i, wr.frozen? ⟨g, i, none⟩ = false := fun i => free_block hblk
      have HL : Hid (laidI (marksI k0 n) (k + 1) cap (cur.setIfInBounds k (.int .i64 (k0 + k)))) := laidI_step hlaid (by omega) hx
      have HG : Hid ((wr.setCell ⟨g, k, none⟩ (.int .i64 (k0 + k))).heap[g]? = some (.cells (cur.setIfInBounds k (.int .i64 (k0 + k))) 3 (0, 0)) ∧ w.grownBy (wr.setCell ⟨g, k, none⟩ (.int .i64 (k0 + k))) (some g)) := ⟨set_block _ hblk, gri_set hgr _ _⟩
      clear hx hlaid hblk hgr
      go_wp2_with fail
      go_roundw
      case rel => exact ⟨k + 1, by omega, by go_num, by go_num, HG.out.2, _, HG.out.1, HL.out⟩
      case measure => simp [intOf]; omega
    · have hkn : k = n := by omega
      subst hkn
      go_wp2_with fail
      go_ret
      exact ⟨rfl, ⟨cur, hblk, hlaid⟩, hgr⟩
set_option maxHeartbeats 400000 in
theorem markIntS_empty (a : Option Addr) (c : Nat) (k0 : Int) (w : World) :
    Calls Try.prog 38 #[.slice a 0 c, .int .i64 k0] w fun e w' => e = .returned (.int .i64 k0) ∧ w' = w := by
  go_enter Try.func38, Try.ntmps38
  go_wp2
  refine wp_loop_rounds 1 ?_
  rw [rounds_succ]
  go_wp2
  go_ret
  exact ⟨rfl, rfl⟩
theorem markIntS (base n : Nat) (v : Value) (k0 : Int) (xs : List Value) (w : World) (hk0 : 0 ≤ k0) (hk1 : k0 ≤ 100000000) (hn : n ≤ 1048576) (hown : w.ownsRow base 3 1 v n xs) :
    Calls Try.prog 38 #[v, .int .i64 k0] w fun e w' => e = .returned (.int .i64 (k0 + n)) ∧ w'.ownsRow base 3 1 v n ((marksI k0 n).flatMap encI) ∧ w.grownBy w' v.ownBlock := by
  obtain ⟨_, ⟨rfl, rfl⟩ | ⟨g, cap, cur, rfl, hb, hg, hnc, hm, hs, ht⟩⟩ := hown
  · refine (markIntS_empty none 0 k0 w).mono (fun e w' h => ?_)
    obtain ⟨rfl, rfl⟩ := h
    exact ⟨by simp, by simpa [marksI] using World.ownsRow_nil _ _ _ _, gri_refl _ _⟩
  · refine (markIntS_some g cap n k0 cur w hk0 hk1 hn hnc hg (by omega)).mono (fun e w' h => ?_)
    obtain ⟨rfl, ⟨cur', h1, h2⟩, h3⟩ := h
    have h4 := marksI_len k0 n
    refine ⟨rfl, ⟨by rw [flat_len encI_len, h4], .inr ⟨g, cap, cur', rfl, hb, h1, hnc, hm, by have := h2.1; omega, ?_⟩⟩, h3⟩
    have h5 := laidI_take (xs := marksI k0 n) (cap := cap) (cur := cur') (by rw [h4]; exact h2) (by rw [h4]; exact hnc)
    rw [h4] at h5
    exact h5
set_option maxHeartbeats 4000000 in
theorem heldIntS_some (b off cap n : Nat) (k0 : Int) (w : World) (hk0 : 0 ≤ k0) (hk1 : k0 ≤ 100000000) (hn : n ≤ 1048576)
    (hc : ∀ j x, (marksI k0 n)[j]? = some x → ∀ i u, (encI x)[i]? = some u → w.cell? ⟨b, off + j * 1 + i, none⟩ = some u) :
    Calls Try.prog 42 #[.slice (some ⟨b, off, none⟩) n cap, .int .i64 k0] w fun e w' => e = .returned (.int .i64 (k0 + n)) ∧ w' = w := by
  have HC : Hid (∀ j x, (marksI k0 n)[j]? = some x → ∀ i u, (encI x)[i]? = some u → w.cell? ⟨b, off + j * 1 + i, none⟩ = some u) := hc
  clear hc
  go_enter Try.func42, Try.ntmps42
  go_wp2_with fail
  go_loop [1, 5] (fun q i => ∃ k : Nat, k ≤ n ∧ i = .int .i64 k ∧ q = .int .i64 (k0 + k)) (fun _ i => n - (intOf i).toNat)
  case atStart => exact ⟨0, by omega, rfl, by simp⟩
  case round =>
    obtain ⟨k, hk, rfl, rfl⟩ := hrel
    by_cases hlt : k < n
    · have hx := marksI_get k0 hlt
      have e0 : w.cell? ⟨b, off + k, none⟩ = some (.int .i64 (k0 + k)) := cellI HC.out hx
      clear hx
      go_wp2_with fail
      go_round
      case rel => exact ⟨k + 1, by omega, by go_num, by go_num⟩
      case measure => simp [intOf]; omega
    · have : k = n := by omega
      subst this
      go_wp2_with fail
      go_ret
      exact ⟨rfl, rfl⟩
set_option maxHeartbeats 400000 in
theorem heldIntS_empty (a : Option Addr) (c : Nat) (k0 : Int) (w : World) :
    Calls Try.prog 42 #[.slice a 0 c, .int .i64 k0] w fun e w' => e = .returned (.int .i64 k0) ∧ w' = w := by
  go_enter Try.func42, Try.ntmps42
  go_wp2
  refine wp_loop_rounds 1 ?_
  rw [rounds_succ]
  go_wp2
  go_ret
  exact ⟨rfl, rfl⟩
theorem heldIntS (n : Nat) (v : Value) (k0 : Int) (w : World) (hk0 : 0 ≤ k0) (hk1 : k0 ≤ 100000000) (hn : n ≤ 1048576) (h : RowAt 1 encI w v (marksI k0 n)) :
    Calls Try.prog 42 #[v, .int .i64 k0] w fun e w' => e = .returned (.int .i64 (k0 + n)) ∧ w' = w := by
  have h4 := marksI_len k0 n
  rcases h with ⟨hz, a, cap, rfl⟩ | ⟨h0, b, off, cap, rfl, hlt, hc⟩
  · have hn0 : n = 0 := by rw [hz] at h4; simpa using h4.symm
    subst hn0
    exact (heldIntS_empty a cap k0 w).mono (fun e w' h => ⟨by rw [h.1]; simp, h.2⟩)
  · rw [h4]
    exact heldIntS_some b off cap n k0 w hk0 hk1 hn hc
theorem heldIntB (n : Nat) (v : Value) (k0 : Int) (w : World) (hk0 : 0 ≤ k0) (hk1 : k0 ≤ 100000000) (hn : n ≤ 1048576) (h : RowAt 1 encI w v (marksI k0 n)) :
    Calls Try.prog 42 #[v, .int .i64 k0] w fun e w' => e = .returned (.int .i64 (k0 + n)) ∧ Below w.heap.size w w' :=
  (heldIntS n v k0 w hk0 hk1 hn h).mono (fun e w' h => ⟨h.1, by rw [h.2]; exact Below.refl _ _⟩)
end Go.Proofs.Ytnhacflknkgfgaa.Lab

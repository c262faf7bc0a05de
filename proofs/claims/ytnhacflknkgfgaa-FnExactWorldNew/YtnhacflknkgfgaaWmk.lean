/-
  Rows of pools of nothing, and new worlds: numbered through, and held against those numbers.
-/
import Derived.Test.YtnhacflknkgfgaaWns
import Derived.Test.YtnhacflknkgfgaaMrk
namespace Go.Proofs.Ytnhacflknkgfgaa.Lab
open Go.RowKit
set_option linter.unusedVariables false
def encY (z : Int) : List Value := [.int .i64 z, .slice none 0 0]
theorem encY_len (z : Int) : (encY z).length = 2 := rfl
/-- A row of pools of nothing of which the first k have been numbered. -/
def laidY (k0 : Int) (k n cap : Nat) (cur : Array Value) : Prop := cur.size = cap * 2 ∧ (∀ j, j < k → cur[j * 2]? = some (.int .i64 (k0 + j))) ∧ ∀ j, j < n → cur[j * 2 + 1]? = some (.slice none 0 0)
theorem laidY_step {k0 : Int} {k n cap : Nat} {cur : Array Value} (h : laidY k0 k n cap cur) (hk : k < n) (hc : n ≤ cap) : laidY k0 (k + 1) n cap (cur.setIfInBounds (k * 2) (.int .i64 (k0 + k))) := by
  obtain ⟨h1, h2, h3⟩ := h
  refine ⟨by simp [h1], fun j hj => ?_, fun j hj => ?_⟩
  · rcases Nat.lt_succ_iff_lt_or_eq.1 hj with hj | rfl
    · rw [Array.getElem?_setIfInBounds, if_neg (by omega)]; exact h2 j hj
    · rw [Array.getElem?_setIfInBounds, if_pos rfl, if_pos (by omega)]
  · rw [Array.getElem?_setIfInBounds, if_neg (by omega)]; exact h3 j hj
theorem laidY_take {k0 : Int} {n cap : Nat} {cur : Array Value} (h : laidY k0 n n cap cur) (hc : n ≤ cap) : cur.toList.take (n * 2) = (marksI k0 n).flatMap encY := by
  obtain ⟨h1, h2, h3⟩ := h
  have hl := marksI_len k0 n
  apply List.ext_getElem?
  intro m
  rw [List.getElem?_take]
  by_cases hm : m < n * 2
  · have hj : m / 2 < n := by omega
    have hg := marksI_get k0 hj
    have h4 := flat_get encY_len (marksI k0 n) (m / 2) (m % 2) _ hg (Nat.mod_lt _ (by omega))
    have hmm : m / 2 * 2 + m % 2 = m := by omega
    rw [hmm] at h4
    rw [h4, if_pos hm]
    rcases Nat.mod_two_eq_zero_or_one m with e | e
    · rw [e]
      have := h2 (m / 2) hj
      have h6 : m / 2 * 2 = m := by omega
      rw [h6] at this
      simpa [encY] using this
    · rw [e]
      have := h3 (m / 2) hj
      have h6 : m / 2 * 2 + 1 = m := by omega
      rw [h6] at this
      simpa [encY] using this
  · rw [if_neg hm, List.getElem?_eq_none (by rw [flat_len encY_len]; omega)]
set_option maxHeartbeats 4000000 in
theorem markPoolS_some (g cap n : Nat) (k0 : Int) (cur0 : Array Value) (w : World) (hk0 : 0 ≤ k0) (hk1 : k0 ≤ 100000000) (hn : n ≤ 1048576) (hnc : n ≤ cap) (hblk0 : w.heap[g]? = some (.cells cur0 66 (0, 0))) (hl0 : laidY k0 0 n cap cur0) :
    Calls Try.prog 37 #[.slice (some ⟨g, 0, none⟩) n cap, .int .i64 k0] w fun e w' => e = .returned (.int .i64 (k0 + n)) ∧ (∃ cur, w'.heap[g]? = some (.cells cur 66 (0, 0)) ∧ laidY k0 n n cap cur) ∧ w.grownBy w' (some g) := by
  go_enter Try.func37, Try.ntmps37
  go_wp2_with fail
  go_loopw [1, 5] (fun q i wr => ∃ k : Nat, k ≤ n ∧ i = .int .i64 k ∧ q = .int .i64 (k0 + k) ∧ w.grownBy wr (some g) ∧ ∃ cur, wr.heap[g]? = some (.cells cur 66 (0, 0)) ∧ laidY k0 k n cap cur) (fun _ i _ => n - (intOf i).toNat)
  case atStart => exact ⟨0, by omega, rfl, by simp, grown_refl _ _, cur0, hblk0, hl0⟩
  case round =>
    clear hblk0 hl0
    obtain ⟨k, hk, rfl, rfl, hgr, cur, hblk, hlaid⟩ := hrel
    have hsz := hlaid.1
    by_cases hlt : k < n
    · obtain ⟨y0, r0⟩ : ∃ y, wr.cell? ⟨g, k * 2, none⟩ = some y := by rw [cell_block hblk]; exact ⟨_, Array.getElem?_eq_getElem (by omega)⟩
      have r1 : wr.cell? ⟨g, k * 2 + 1, none⟩ = some (.slice none 0 0) := by rw [cell_block hblk]; exact hlaid.2.2 k hlt
      have hf : ∀ i, wr.frozen? ⟨g, i, none⟩ = false := fun i => free_block hblk
      have HL : Hid (laidY k0 (k + 1) n cap (cur.setIfInBounds (k * 2) (.int .i64 (k0 + k)))) := laidY_step hlaid hlt hnc
      have HG : Hid ((wr.setCell ⟨g, k * 2, none⟩ (.int .i64 (k0 + k))).heap[g]? = some (.cells (cur.setIfInBounds (k * 2) (.int .i64 (k0 + k))) 66 (0, 0)) ∧ w.grownBy (wr.setCell ⟨g, k * 2, none⟩ (.int .i64 (k0 + k))) (some g)) := ⟨set_block _ hblk, grown_set hgr _ _⟩
      clear hlaid hblk hgr
      go_wp2_with fail
      refine use (markPageS_empty none 0 _ _) ?_
      go_wp2_with fail
      go_roundw
      case rel => exact ⟨k + 1, by omega, by go_num, by go_num, HG.out.2, _, HG.out.1, HL.out⟩
      case measure => simp [intOf]; omega
    · have hkn : k = n := by omega
      subst hkn
      go_wp2_with fail
      go_ret
      exact ⟨rfl, ⟨cur, hblk, hlaid⟩, hgr⟩
set_option maxHeartbeats 400000 in
theorem markPoolS_empty (a : Option Addr) (c : Nat) (k0 : Int) (w : World) :
    Calls Try.prog 37 #[.slice a 0 c, .int .i64 k0] w fun e w' => e = .returned (.int .i64 k0) ∧ w' = w := by
  go_enter Try.func37, Try.ntmps37
  go_wp2
  refine wp_loop_rounds 1 ?_
  rw [rounds_succ]
  go_wp2
  go_ret
  exact ⟨rfl, rfl⟩
theorem markPoolS (base n : Nat) (v : Value) (k0 : Int) (zs : List Int) (w : World) (hk0 : 0 ≤ k0) (hk1 : k0 ≤ 100000000) (hn : n ≤ 1048576) (hz : zs.length = n) (hown : w.ownsRow base 66 2 v n (zs.flatMap encY)) :
    Calls Try.prog 37 #[v, .int .i64 k0] w fun e w' => e = .returned (.int .i64 (k0 + n)) ∧ w'.ownsRow base 66 2 v n ((marksI k0 n).flatMap encY) ∧ w.grownBy w' v.ownBlock := by
  obtain ⟨_, ⟨rfl, rfl⟩ | ⟨g, cap, cur, rfl, hb, hg, hnc, hm, hs, ht⟩⟩ := hown
  · refine (markPoolS_empty none 0 k0 w).mono (fun e w' h => ?_)
    obtain ⟨rfl, rfl⟩ := h
    exact ⟨by simp, by simpa [marksI] using World.ownsRow_nil _ _ _ _, grown_refl _ _⟩
  · have hl0 : laidY k0 0 n cap cur := by
      refine ⟨hs, fun j hj => by omega, fun j hj => ?_⟩
      obtain ⟨z, hzj⟩ : ∃ z, zs[j]? = some z := ⟨_, List.getElem?_eq_getElem (by omega)⟩
      have h4 := flat_get encY_len zs j 1 z hzj (by omega)
      rw [← ht, List.getElem?_take, if_pos (by omega)] at h4
      simpa [encY] using h4
    refine (markPoolS_some g cap n k0 cur w hk0 hk1 hn hnc hg hl0).mono (fun e w' h => ?_)
    obtain ⟨rfl, ⟨cur', h1, h2⟩, h3⟩ := h
    have h4 := marksI_len k0 n
    exact ⟨rfl, ⟨by rw [flat_len encY_len, h4], .inr ⟨g, cap, cur', rfl, hb, h1, hnc, hm, h2.1, laidY_take h2 hnc⟩⟩, h3⟩
set_option maxHeartbeats 4000000 in
theorem heldPoolS_some (b off cap n : Nat) (k0 : Int) (w : World) (hk0 : 0 ≤ k0) (hk1 : k0 ≤ 100000000) (hn : n ≤ 1048576)
    (hc : ∀ j x, (marksI k0 n)[j]? = some x → ∀ i u, (encY x)[i]? = some u → w.cell? ⟨b, off + j * 2 + i, none⟩ = some u) :
    Calls Try.prog 41 #[.slice (some ⟨b, off, none⟩) n cap, .int .i64 k0] w fun e w' => e = .returned (.int .i64 (k0 + n)) ∧ w' = w := by
  have HC : Hid (∀ j x, (marksI k0 n)[j]? = some x → ∀ i u, (encY x)[i]? = some u → w.cell? ⟨b, off + j * 2 + i, none⟩ = some u) := hc
  clear hc
  go_enter Try.func41, Try.ntmps41
  go_wp2_with fail
  go_loop [1, 5] (fun q i => ∃ k : Nat, k ≤ n ∧ i = .int .i64 k ∧ q = .int .i64 (k0 + k)) (fun _ i => n - (intOf i).toNat)
  case atStart => exact ⟨0, by omega, rfl, by simp⟩
  case round =>
    obtain ⟨k, hk, rfl, rfl⟩ := hrel
    by_cases hlt : k < n
    · have e0 : w.cell? ⟨b, off + k * 2, none⟩ = some (.int .i64 (k0 + k)) := HC.out k _ (marksI_get k0 hlt) 0 _ rfl
      have e1 : w.cell? ⟨b, off + k * 2 + 1, none⟩ = some (.slice none 0 0) := HC.out k _ (marksI_get k0 hlt) 1 _ rfl
      go_wp2_with fail
      refine use (heldPageS_empty none 0 _ _) ?_
      go_wp2_with fail
      go_round
      case rel => exact ⟨k + 1, by omega, by go_num, by go_num⟩
      case measure => simp [intOf]; omega
    · have hkn : k = n := by omega
      subst hkn
      go_wp2_with fail
      go_ret
      exact ⟨rfl, rfl⟩
set_option maxHeartbeats 400000 in
theorem heldPoolS_empty (a : Option Addr) (c : Nat) (k0 : Int) (w : World) :
    Calls Try.prog 41 #[.slice a 0 c, .int .i64 k0] w fun e w' => e = .returned (.int .i64 k0) ∧ w' = w := by
  go_enter Try.func41, Try.ntmps41
  go_wp2
  refine wp_loop_rounds 1 ?_
  rw [rounds_succ]
  go_wp2
  go_ret
  exact ⟨rfl, rfl⟩
theorem heldPoolS (v : Value) (n : Nat) (k0 : Int) (w : World) (hk0 : 0 ≤ k0) (hk1 : k0 ≤ 100000000) (hn : n ≤ 1048576) (h : RowAt 2 encY w v (marksI k0 n)) :
    Calls Try.prog 41 #[v, .int .i64 k0] w fun e w' => e = .returned (.int .i64 (k0 + n)) ∧ w' = w := by
  have h4 := marksI_len k0 n
  rcases h with ⟨h0, a, c, rfl⟩ | ⟨h0, b, off, c, rfl, hlt, hc⟩
  · have : n = 0 := by rw [h0] at h4; simpa using h4.symm
    subst this
    exact (heldPoolS_empty a c k0 w).mono fun e w' h => ⟨by rw [h.1]; simp, h.2⟩
  · rw [h4]
    exact heldPoolS_some b off c n k0 w hk0 hk1 hn hc
/-- A new world that has been numbered through. -/
structure MarkW (w : World) (base : Nat) (u1 u4 u5 : Value) (n : Nat) : Prop where
  o1 : w.ownsRow base 25 3 u1 n ((marksPerson 1 n).flatMap encPerson)
  o4 : w.ownsRow base 66 2 u4 n ((marksI (1 + 3 * n) n).flatMap encY)
  o5 : w.ownsRow base 3 1 u5 n ((marksI (1 + 3 * n + n) n).flatMap encI)
theorem MarkW.keep {w w' : World} {base : Nat} {u1 u4 u5 : Value} {n : Nat} (h : MarkW w base u1 u4 u5 n) (hb : Below w.heap.size w w') : MarkW w' base u1 u4 u5 n := ⟨own_keep h.o1 hb, own_keep h.o4 hb, own_keep h.o5 hb⟩
theorem encZ_Y (ys : List (Int × Int × Int)) : ys.flatMap encZ = (ys.map (fun x => x.2.1)).flatMap encY := by
  induction ys with
  | nil => rfl
  | cons x xs ih => rw [List.flatMap_cons, ih, List.map_cons, List.flatMap_cons]; rfl
theorem encQ_I (ys : List (Int × Int × Int)) : ys.flatMap encQ = (ys.map (fun x => x.2.2)).flatMap encI := by
  induction ys with
  | nil => rfl
  | cons x xs ih => rw [List.flatMap_cons, ih, List.map_cons, List.flatMap_cons]; rfl
def GW (u1 u4 u5 : Value) (g : Nat) : Prop := u1.ownBlock = some g ∨ u4.ownBlock = some g ∨ u5.ownBlock = some g
theorem blk_gr {w w' : World} {S : Nat} {r : Option Nat} {c : Obj} (h : w.heap[S]? = some c) (hne : r ≠ some S) (hg : w.grownBy w' r) : w'.heap[S]? = some c := (hg.block S (lt_of_block h) (fun e => hne e.symm)).trans h
set_option maxHeartbeats 4000000 in
theorem markWorld (base n : Nat) (u1 u4 u5 : Value) (ys : List (Int × Int × Int)) (w : World) (hn : n ≤ 4) (hy : ys.length = n) (h : NewW w base u1 u4 u5 ys) :
    Calls Try.prog 17 #[.agg #[u1, .slice none 0 0, .slice none 0 0, u4, u5], .int .i64 1] w fun e w' => e = .returned (.int .i64 (1 + 3 * n + n + n)) ∧ MarkW w' base u1 u4 u5 n ∧ But (GW u1 u4 u5) w w' := by
  obtain ⟨o1, o4, o5, a14, a15, a45⟩ := h
  rw [hy] at o1 o4 o5
  rw [encZ_Y] at o4
  rw [encQ_I] at o5
  have lt1 := fun k hk => (o1.lt k hk).2
  have lt4 := fun k hk => (o4.lt k hk).2
  have lt5 := fun k hk => (o5.lt k hk).2
  obtain ⟨r1, s1, rfl⟩ := own_form o1
  obtain ⟨r4, s4, rfl⟩ := own_form o4
  obtain ⟨r5, s5, rfl⟩ := own_form o5
  obtain ⟨S, hS⟩ : ∃ t, t = w.heap.size := ⟨_, rfl⟩
  have bx0 := new_block w (.cells #[.slice r1 n s1, .slice none 0 0, .slice none 0 0, .slice r4 n s4, .slice r5 n s5] 38)
  have HS : Hid (w.heap.size = S) := hS.symm
  have N1 : Hid ((Value.slice r1 n s1).ownBlock ≠ some S ∧ (Value.slice r4 n s4).ownBlock ≠ some S ∧ (Value.slice r5 n s5).ownBlock ≠ some S) := ⟨fun e => by have := lt1 _ e; omega, fun e => by have := lt4 _ e; omega, fun e => by have := lt5 _ e; omega⟩
  have AP : Hid (Apt (.slice r1 n s1) (.slice r4 n s4) ∧ Apt (.slice r1 n s1) (.slice r5 n s5) ∧ Apt (.slice r4 n s4) (.slice r5 n s5)) := ⟨a14, a15, a45⟩
  have bal : Below w.heap.size w (w.alloc (.cells #[.slice r1 n s1, .slice none 0 0, .slice none 0 0, .slice r4 n s4, .slice r5 n s5] 38)) := (Below.refl _ _).alloc (Nat.le_refl _) _
  have p1 := own_keep o1 bal
  have p4 := own_keep o4 bal
  have p5 := own_keep o5 bal
  go_enter Try.func17, Try.ntmps17
  go_wp2_with fail
  generalize hW : w.alloc (.cells #[.slice r1 n s1, .slice none 0 0, .slice none 0 0, .slice r4 n s4, .slice r5 n s5] 38) = w0 at *
  rw [HS.out] at bx0
  rw [← hS]
  have HB0 : Hid (Below w.heap.size w w0) := bal
  have P0 : Hid (w0.ownsRow base 66 2 (.slice r4 n s4) n ((ys.map (fun x => x.2.1)).flatMap encY) ∧ w0.ownsRow base 3 1 (.slice r5 n s5) n ((ys.map (fun x => x.2.2)).flatMap encI)) := ⟨p4, p5⟩
  have BX0 : Hid (w0.heap[S]? = some (.cells #[.slice r1 n s1, .slice none 0 0, .slice none 0 0, .slice r4 n s4, .slice r5 n s5] 38 (0, 0))) := bx0
  clear hW o1 o4 o5 a14 a15 a45 lt1 lt4 lt5 hS bal p4 p5 bx0
  refine (markPersonS base n _ 1 _ _ (by omega) (by omega) (by omega) p1).mono ?_
  rintro e w1 ⟨rfl, q1, g1⟩
  have BX1 : Hid (w1.heap[S]? = some (.cells #[.slice r1 n s1, .slice none 0 0, .slice none 0 0, .slice r4 n s4, .slice r5 n s5] 38 (0, 0))) := blk_gr BX0.out N1.out.1 g1
  have Q1 : Hid (w1.ownsRow base 25 3 (.slice r1 n s1) n ((marksPerson 1 n).flatMap encPerson) ∧ w1.ownsRow base 66 2 (.slice r4 n s4) n ((ys.map (fun x => x.2.1)).flatMap encY) ∧ w1.ownsRow base 3 1 (.slice r5 n s5) n ((ys.map (fun x => x.2.2)).flatMap encI)) := ⟨q1, own_gr P0.out.1 g1 (fun k h1 h2 => AP.out.1 k h2 h1), own_gr P0.out.2 g1 (fun k h1 h2 => AP.out.2.1 k h2 h1)⟩
  have G1 : Hid (w0.grownBy w1 (Value.slice r1 n s1).ownBlock) := g1
  have c1 : w1.cell? ⟨S, 1, none⟩ = some (.slice none 0 0) := by rw [cell_block BX1.out]; rfl
  have c2 : w1.cell? ⟨S, 2, none⟩ = some (.slice none 0 0) := by rw [cell_block BX1.out]; rfl
  clear q1 g1 p1
  go_wp2_with fail
  refine (markGraph base _ _ [] [] (1 + 3 * n) _ (by omega) (by omega) (by simp) (by simp) ⟨World.ownsRow_nil _ _ _ _, World.ownsRow_nil _ _ _ _, fun k hk => by simp [Value.ownBlock] at hk⟩).mono ?_
  rintro e w2 ⟨rfl, _, g2⟩
  have hw2 : ∀ k, k < w1.heap.size → w2.heap[k]? = w1.heap[k]? := fun k hk => g2.blk k hk (fun h => by simp [Value.ownBlock] at h)
  have B2 : Below w1.heap.size w1 w2 := ⟨g2.os, g2.tape, g2.output, g2.size, hw2⟩
  have HB2 : Hid (Below w1.heap.size w1 w2) := B2
  have BX2 : Hid (w2.heap[S]? = some (.cells #[.slice r1 n s1, .slice none 0 0, .slice none 0 0, .slice r4 n s4, .slice r5 n s5] 38 (0, 0))) := (B2.block _ (lt_of_block BX1.out)).trans BX1.out
  have Q2 : Hid (w2.ownsRow base 25 3 (.slice r1 n s1) n ((marksPerson 1 n).flatMap encPerson) ∧ w2.ownsRow base 66 2 (.slice r4 n s4) n ((ys.map (fun x => x.2.1)).flatMap encY) ∧ w2.ownsRow base 3 1 (.slice r5 n s5) n ((ys.map (fun x => x.2.2)).flatMap encI)) := ⟨own_keep Q1.out.1 B2, own_keep Q1.out.2.1 B2, own_keep Q1.out.2.2 B2⟩
  have c3 : w2.cell? ⟨S, 3, none⟩ = some (.slice r4 n s4) := by rw [cell_block BX2.out]; rfl
  clear g2 hw2 B2 c1 c2 Q1 BX1
  simp only [List.length_nil]
  go_wp2_with fail
  refine (markPoolS base n _ _ (ys.map (fun x => x.2.1)) _ (by omega) (by omega) (by omega) (by simpa using hy) Q2.out.2.1).mono ?_
  rintro e w3 ⟨rfl, q3, g3⟩
  have BX3 : Hid (w3.heap[S]? = some (.cells #[.slice r1 n s1, .slice none 0 0, .slice none 0 0, .slice r4 n s4, .slice r5 n s5] 38 (0, 0))) := blk_gr BX2.out N1.out.2.1 g3
  have Q3 : Hid (w3.ownsRow base 25 3 (.slice r1 n s1) n ((marksPerson 1 n).flatMap encPerson) ∧ w3.ownsRow base 66 2 (.slice r4 n s4) n ((marksI (1 + 3 * n) n).flatMap encY) ∧ w3.ownsRow base 3 1 (.slice r5 n s5) n ((ys.map (fun x => x.2.2)).flatMap encI)) := ⟨own_gr Q2.out.1 g3 (fun k h1 h2 => AP.out.1 k h1 h2), q3, own_gr Q2.out.2.2 g3 (fun k h1 h2 => AP.out.2.2 k h2 h1)⟩
  have G3 : Hid (w2.grownBy w3 (Value.slice r4 n s4).ownBlock) := g3
  have c4 : w3.cell? ⟨S, 4, none⟩ = some (.slice r5 n s5) := by rw [cell_block BX3.out]; rfl
  clear q3 g3 c3 Q2 BX2
  go_wp2_with fail
  refine (markIntS base n _ _ _ _ (by omega) (by omega) (by omega) Q3.out.2.2).mono ?_
  rintro e w4 ⟨rfl, q4, g4⟩
  have Q4 : Hid (MarkW w4 base (.slice r1 n s1) (.slice r4 n s4) (.slice r5 n s5) n) := ⟨own_gr Q3.out.1 g4 (fun k h1 h2 => AP.out.2.1 k h1 h2), own_gr Q3.out.2.1 g4 (fun k h1 h2 => AP.out.2.2 k h1 h2), q4⟩
  have BT : Hid (But (GW (.slice r1 n s1) (.slice r4 n s4) (.slice r5 n s5)) w w4) := by
    have h0 := HB0.out
    have h1 := G1.out
    have h2 := HB2.out
    have h3 := G3.out
    have z0 := h0.size
    have z1 := h1.size
    have z2 := h2.size
    have z3 := h3.size
    exact ⟨g4.os.trans (h3.os.trans (h2.os.trans (h1.os.trans h0.os))), g4.tape.trans (h3.tape.trans (h2.tape.trans (h1.tape.trans h0.tape))), g4.output.trans (h3.output.trans (h2.output.trans (h1.output.trans h0.output))), by have := g4.size; omega,
      fun k hk hp => (g4.block k (by omega) (fun e => hp (.inr (.inr e.symm)))).trans ((h3.block k (by omega) (fun e => hp (.inr (.inl e.symm)))).trans ((h2.block k (by omega)).trans ((h1.block k (by omega) (fun e => hp (.inl e.symm))).trans (h0.block k hk))))⟩
  clear q4 g4 c4 Q3 BX3
  go_wp2_with fail
  go_ret
  exact ⟨rfl, Q4.out, BT.out⟩
set_option maxHeartbeats 4000000 in
theorem heldWorld (base n : Nat) (u1 u4 u5 : Value) (w : World) (hn : n ≤ 4) (h : MarkW w base u1 u4 u5 n) :
    Calls Try.prog 18 #[.agg #[u1, .slice none 0 0, .slice none 0 0, u4, u5], .int .i64 1] w fun e w' => e = .returned (.int .i64 (1 + 3 * n + n + n)) ∧ Below w.heap.size w w' := by
  obtain ⟨r1, s1, rfl⟩ := own_form h.o1
  obtain ⟨r4, s4, rfl⟩ := own_form h.o4
  obtain ⟨r5, s5, rfl⟩ := own_form h.o5
  have l1 := marksPerson_len 1 n
  have l4 := marksI_len (1 + 3 * n) n
  have l5 := marksI_len (1 + 3 * n + n) n
  have k1 : RowAt 3 encPerson w (.slice r1 n s1) (marksPerson 1 n) := row_of_own encPerson_len (by decide) (by rw [l1]; exact h.o1)
  have k4 : RowAt 2 encY w (.slice r4 n s4) (marksI (1 + 3 * n) n) := row_of_own encY_len (by decide) (by rw [l4]; exact h.o4)
  have k5 : RowAt 1 encI w (.slice r5 n s5) (marksI (1 + 3 * n + n) n) := row_of_own encI_len (by decide) (by rw [l5]; exact h.o5)
  obtain ⟨S, hS⟩ : ∃ t, t = w.heap.size := ⟨_, rfl⟩
  have bal : Below w.heap.size w (w.alloc (.cells #[.slice r1 n s1, .slice none 0 0, .slice none 0 0, .slice r4 n s4, .slice r5 n s5] 38)) := (Below.refl _ _).alloc (Nat.le_refl _) _
  have bx0 := new_block w (.cells #[.slice r1 n s1, .slice none 0 0, .slice none 0 0, .slice r4 n s4, .slice r5 n s5] 38)
  go_enter Try.func18, Try.ntmps18
  go_wp2_with fail
  generalize hW : w.alloc (.cells #[.slice r1 n s1, .slice none 0 0, .slice none 0 0, .slice r4 n s4, .slice r5 n s5] 38) = w0 at *
  rw [← hS] at bx0 ⊢
  have K : Hid (RowAt 3 encPerson w0 (.slice r1 n s1) (marksPerson 1 n) ∧ RowAt 2 encY w0 (.slice r4 n s4) (marksI (1 + 3 * n) n) ∧ RowAt 1 encI w0 (.slice r5 n s5) (marksI (1 + 3 * n + n) n)) := ⟨k1.keep bal, k4.keep bal, k5.keep bal⟩
  have HB0 : Hid (Below w.heap.size w w0) := bal
  have d1 : w0.cell? ⟨S, 1, none⟩ = some (.slice none 0 0) := by rw [cell_block bx0]; rfl
  have d2 : w0.cell? ⟨S, 2, none⟩ = some (.slice none 0 0) := by rw [cell_block bx0]; rfl
  have BX0 : Hid (w0.heap[S]? = some (.cells #[.slice r1 n s1, .slice none 0 0, .slice none 0 0, .slice r4 n s4, .slice r5 n s5] 38 (0, 0))) := bx0
  clear hW bal bx0 k1 k4 k5 h l1 l4 l5 hS
  refine use (heldPersonS _ n 1 _ (by omega) (by omega) (by omega) K.out.1) ?_
  have t1 : ¬ (1 + 3 * (n : Int) < 0) := by omega
  go_wp2_with fail
  refine (heldGraph _ _ 0 0 (1 + 3 * n) _ (by omega) (by omega) (by omega) (by omega) (.inl ⟨by simp [marksNode], _, _, rfl⟩) (.inl ⟨by simp [marksEdge], _, _, rfl⟩)).mono ?_
  rintro e w1 ⟨rfl, b1⟩
  have c3 : w1.cell? ⟨S, 3, none⟩ = some (.slice r4 n s4) := by rw [Below.celz b1 _ _ _ (lt_of_block BX0.out), cell_block BX0.out]; rfl
  have c4 : w1.cell? ⟨S, 4, none⟩ = some (.slice r5 n s5) := by rw [Below.celz b1 _ _ _ (lt_of_block BX0.out), cell_block BX0.out]; rfl
  have K1 : Hid (RowAt 2 encY w1 (.slice r4 n s4) (marksI (1 + 3 * n) n) ∧ RowAt 1 encI w1 (.slice r5 n s5) (marksI (1 + 3 * n + n) n)) := ⟨K.out.2.1.keep b1, K.out.2.2.keep b1⟩
  have HB1 : Hid (Below w.heap.size w w1) := HB0.out.trans (b1.mono HB0.out.size)
  have e0 : (1 + 3 * (n : Int) + 2 * ((0 : Nat) : Int) + 5 * ((0 : Nat) : Int)) = 1 + 3 * n := by omega
  rw [e0]
  clear b1 K BX0 HB0 d1 d2 e0
  go_wp2_with fail
  refine use (heldPoolS _ n _ _ (by omega) (by omega) (by omega) K1.out.1) ?_
  have t2 : ¬ (1 + 3 * (n : Int) + n < 0) := by omega
  go_wp2_with fail
  refine use (heldIntS n _ _ _ (by omega) (by omega) (by omega) K1.out.2) ?_
  have t3 : ¬ (1 + 3 * (n : Int) + n + n < 0) := by omega
  go_wp2_with fail
  go_ret
  exact ⟨rfl, HB1.out⟩
end Go.Proofs.Ytnhacflknkgfgaa.Lab

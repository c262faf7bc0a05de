/-
  Contracts of the laws' own functions on slices of structs, and of functions that hold two such slices against one another. (Written by tools/mkrows.py.)
-/
import Derived.Test.YtlnpbfeihjfnjabGreatDoorQIts
import Derived.Test.YtlnpbfeihjfnjabGreatDoorQNod
import Derived.Test.YtlnpbfeihjfnjabGreatDoorQGrw
namespace Go.Proofs.YtlnpbfeihjfnjabGreatDoor.Lab
open Go.RowKit
set_option linter.unusedVariables false
theorem Tryz.infoInts : (Tryz.prog.info? 3).map (fun i => (i.zero, i.size, i.bytes)) = some (some (.int .i64 0), 1, 8) := by kernel_rfl
set_option maxHeartbeats 400000 in
theorem eqNode (l n l2 n2 : Int) (w : World) :
    Calls Tryz.prog 59 #[.agg #[.int .i64 l, .int .i64 n], .agg #[.int .i64 l2, .int .i64 n2]] w fun e w' => e = .returned (.bool (eqB (l, n) (l2, n2))) ∧ Below w.heap.size w w' := by
  rw [dec_two]
  by_cases h1 : l = l2
  · subst h1
    by_cases h2 : n = n2
    · subst h2
      go_enter Tryz.func59, Tryz.ntmps59
      go_wp2
      go_ret
      exact ⟨by simp, by go_grown⟩
    · have h3 : (n != n2) = true := by simpa using h2
      have HH : Hid (¬ n = n2) := h2
      clear h2
      go_enter Tryz.func59, Tryz.ntmps59
      go_wp2
      go_ret
      exact ⟨by simp [HH.out], by go_grown⟩
  · have h3 : (l != l2) = true := by simpa using h1
    have HH : Hid (¬ l = l2) := h1
    clear h1
    go_enter Tryz.func59, Tryz.ntmps59
    go_wp2
    go_ret
    exact ⟨by simp [HH.out], by go_grown⟩
theorem dec_edge (l al an bl bn l2 al2 an2 bl2 bn2 : Int) : eqB (l, al, an, bl, bn) (l2, al2, an2, bl2, bn2) = (decide (l = l2) && (eqB (al, an) (al2, an2) && eqB (bl, bn) (bl2, bn2))) := by
  rw [Bool.eq_iff_iff]; simp [eqB, and_assoc]
set_option maxHeartbeats 1000000 in
theorem eqEdge (l al an bl bn l2 al2 an2 bl2 bn2 : Int) (w : World) :
    Calls Tryz.prog 60 #[.agg #[.int .i64 l, .int .i64 al, .int .i64 an, .int .i64 bl, .int .i64 bn], .agg #[.int .i64 l2, .int .i64 al2, .int .i64 an2, .int .i64 bl2, .int .i64 bn2]] w fun e w' => e = .returned (.bool (eqB (l, al, an, bl, bn) (l2, al2, an2, bl2, bn2))) ∧ Below w.heap.size w w' := by
  rw [dec_edge]
  by_cases h1 : l = l2
  · subst h1
    cases ha : eqB (al, an) (al2, an2)
    · go_enter Tryz.func60, Tryz.ntmps60
      go_wp2_with fail
      refine (eqNode _ _ _ _ _).mono ?_
      rintro e w1 ⟨rfl, b1⟩
      have HB : Hid (Below w.heap.size w w1) := Below.trans (by go_grown) (b1.mono (by simp; omega))
      clear b1
      go_wp2_with fail
      go_ret
      exact ⟨by simp, HB.out⟩
    · go_enter Tryz.func60, Tryz.ntmps60
      go_wp2_with fail
      refine (eqNode _ _ _ _ _).mono ?_
      rintro e w1 ⟨rfl, b1⟩
      have HB : Hid (Below w.heap.size w w1) := Below.trans (by go_grown) (b1.mono (by simp; omega))
      have hs : w.heap.size + 2 ≤ w1.heap.size := by have := b1.size; simp at this; omega
      have hc := Below.celz (b1.mono (B' := w.heap.size + 2) (by simp))
      clear b1
      go_wp2_with fail
      refine (eqNode _ _ _ _ _).mono ?_
      rintro e w2 ⟨rfl, b2⟩
      have HB2 : Hid (Below w.heap.size w w2) := HB.out.trans (b2.mono (by omega))
      clear b2 hc
      cases hb : eqB (bl, bn) (bl2, bn2)
      · go_wp2_with fail
        go_ret
        exact ⟨by simp [hb], HB2.out⟩
      · go_wp2_with fail
        go_ret
        exact ⟨by simp [hb], HB2.out⟩
  · have h3 : (l != l2) = true := by simpa using h1
    have HH : Hid (¬ l = l2) := h1
    clear h1
    go_enter Tryz.func60, Tryz.ntmps60
    go_wp2
    go_ret
    exact ⟨by simp [HH.out], by go_grown⟩
def encNode (x : Int × Int) : List Value := [.int .i64 x.1, .int .i64 x.2]
theorem encNode_len (x : Int × Int) : (encNode x).length = 2 := rfl
theorem Tryz.infoNode : (Tryz.prog.info? 69).map (fun i => (i.zero, i.size, i.bytes)) = some (some (.agg #[.int .i64 0, .int .i64 0]), 2, 16) := by kernel_rfl
theorem makeNodeS (n : Nat) (h : n ≤ 1048576) (w : World) : (Instr.makeSlice 29 (.int .i64 n) (.int .i64 n)).run Tryz.prog w = .ok (.slice (some ⟨w.heap.size, 0, none⟩) n n) (w.alloc (.cells (madeCells #[.int .i64 0, .int .i64 0] (n * 2)) 69)) := by
  obtain ⟨i0, hi, hz0, hz1, hz2⟩ := info_parts Tryz.infoNode
  have := run_make (P := Tryz.prog) w 29 69 i0 _ Tryz.underlying29 hi hz0 .i64 .i64 n n (by omega) (by omega) (by rw [hz2]; omega) (by omega)
  rw [hz1] at this
  simpa [Value.cells] using this
/-- A row of which the first k elements have been laid. -/
def laidNode (xs : List (Int × Int)) (k n : Nat) (cur : Array Value) : Prop := cur.size = n * 2 ∧ ∀ j x, j < k → xs[j]? = some x → ∀ i u, (encNode x)[i]? = some u → cur[j * 2 + i]? = some u
theorem laidNode_step {xs : List (Int × Int)} {k n : Nat} {cur : Array Value} {m0 m1 : Int} (h : laidNode xs k n cur) (hk : k < n) (hx : xs[k]? = some (m0, m1)) : laidNode xs (k + 1) n ((cur.setIfInBounds (k * 2) (.int .i64 m0)).setIfInBounds (k * 2 + 1) (.int .i64 m1)) := by
  obtain ⟨h1, h2⟩ := h
  refine ⟨by simp [h1], fun j x hj hxj i u hu => ?_⟩
  have hi : i < 2 := by
    obtain ⟨h3, _⟩ := List.getElem?_eq_some_iff.1 hu
    rw [encNode_len] at h3; exact h3
  rcases Nat.lt_succ_iff_lt_or_eq.1 hj with hj | rfl
  · simp only [Array.getElem?_setIfInBounds]
    repeat rw [if_neg (by omega)]
    exact h2 j x hj hxj i u hu
  · rw [hx] at hxj
    cases hxj
    have : i = 0 ∨ i = 1 := by omega
    rcases this with rfl | rfl <;> (simp [encNode] at hu; subst hu; simp [Array.getElem?_setIfInBounds]; omega)
theorem laidNode_all {xs : List (Int × Int)} {cur : Array Value} (h : laidNode xs xs.length xs.length cur) : cur.toList = xs.flatMap encNode := by
  obtain ⟨h1, h2⟩ := h
  apply List.ext_getElem?
  intro m
  by_cases hm : m < xs.length * 2
  · have hj : m / 2 < xs.length := by omega
    have h3 := flat_get encNode_len xs (m / 2) (m % 2) _ (List.getElem?_eq_getElem hj) (Nat.mod_lt _ (by omega))
    have hmm : m / 2 * 2 + m % 2 = m := by omega
    rw [hmm] at h3
    rw [h3]
    have hlen : m % 2 < (encNode xs[m / 2]).length := by rw [encNode_len]; exact Nat.mod_lt _ (by omega)
    have h4 := h2 (m / 2) _ hj (List.getElem?_eq_getElem hj) (m % 2) _ (List.getElem?_eq_getElem hlen)
    rw [hmm] at h4
    rw [List.getElem?_eq_getElem hlen]
    simpa using h4
  · rw [List.getElem?_eq_none (by simp; omega), List.getElem?_eq_none (by rw [flat_len encNode_len]; omega)]
set_option maxHeartbeats 2000000 in
theorem toNodeS_some (b off cap : Nat) (xs : List (Int × Int)) (w : World) (hl : xs.length ≤ 1048576) (hb : b < w.heap.size)
    (hc : ∀ j x, xs[j]? = some x → ∀ i u, (encNode x)[i]? = some u → w.cell? ⟨b, off + j * 2 + i, none⟩ = some u) :
    Calls Tryz.prog 23 #[.slice (some ⟨b, off, none⟩) xs.length cap] w fun e w' => ∃ v', e = .returned v' ∧ w'.ownsRow w.heap.size 69 2 v' xs.length (xs.flatMap encNode) ∧ Below w.heap.size w w' := by
  have HC : Hid (∀ j x, xs[j]? = some x → ∀ i u, (encNode x)[i]? = some u → w.cell? ⟨b, off + j * 2 + i, none⟩ = some u) := hc
  clear hc
  obtain ⟨n, hn⟩ : ∃ n, n = xs.length := ⟨_, rfl⟩
  have HN : Hid (n = xs.length) := hn
  rw [← hn] at hl ⊢
  clear hn
  have hmk := makeNodeS n hl
  go_enter Tryz.func23, Tryz.ntmps23
  go_wp2_with fail
  clear hmk
  go_loopw [4] (fun i wr => ∃ k : Nat, k ≤ n ∧ i = .int .i64 k ∧ Below w.heap.size w wr ∧ ∃ cur, wr.heap[w.heap.size]? = some (.cells cur 69 (0, 0)) ∧ laidNode xs k n cur) (fun i _ => n - (intOf i).toNat)
  case atStart => exact ⟨0, by omega, rfl, (Below.refl _ _).alloc (Nat.le_refl _) _, _, new_block _ _, ⟨by simp [size_madeCells], fun j x hj => by omega⟩⟩
  case round =>
    obtain ⟨k, hk, rfl, hbel, cur, hblk, hlaid⟩ := hrel
    have hsz := hlaid.1
    by_cases hlt : k < n
    · obtain ⟨⟨m0, m1⟩, hx⟩ : ∃ x, xs[k]? = some x := ⟨_, List.getElem?_eq_getElem (by rw [← HN.out]; exact hlt)⟩
      have e0 : wr.cell? ⟨b, off + k * 2, none⟩ = some (.int .i64 m0) := by rw [hbel.cell (p := ⟨b, off + k * 2, none⟩) hb]; exact HC.out k _ hx 0 _ rfl
      have e1 : wr.cell? ⟨b, off + k * 2 + 1, none⟩ = some (.int .i64 m1) := by rw [hbel.cell (p := ⟨b, off + k * 2 + 1, none⟩) hb]; exact HC.out k _ hx 1 _ rfl
      have HL : Hid (laidNode xs (k + 1) n ((cur.setIfInBounds (k * 2) (.int .i64 m0)).setIfInBounds (k * 2 + 1) (.int .i64 m1))) := laidNode_step hlaid hlt hx
      have HX : Hid (wr.heap[w.heap.size]? = some (.cells cur 69 (0, 0)) ∧ Below w.heap.size w wr) := ⟨hblk, hbel⟩
      have hgl := lt_of_block hblk
      clear hlaid hx hblk hbel
      go_wp2_with fail
      refine (toNode _ _ _).mono ?_
      rintro e w1 ⟨rfl, b1⟩
      have g1 : w1.heap[w.heap.size]? = some (.cells cur 69 (0, 0)) := by rw [b1.block _ hgl]; exact HX.out.1
      have b2 : Below w.heap.size w w1 := HX.out.2.trans (b1.mono (by omega))
      obtain ⟨y0, r0⟩ : ∃ y, w1.cell? ⟨w.heap.size, k * 2, none⟩ = some y := by rw [cell_block g1]; exact ⟨_, Array.getElem?_eq_getElem (by omega)⟩
      obtain ⟨y1, r1⟩ : ∃ y, w1.cell? ⟨w.heap.size, k * 2 + 1, none⟩ = some y := by rw [cell_block g1]; exact ⟨_, Array.getElem?_eq_getElem (by omega)⟩
      have hf : ∀ i, w1.frozen? ⟨w.heap.size, i, none⟩ = false := fun i => free_block g1
      have HG : Hid (((w1.setCell ⟨w.heap.size, k * 2, none⟩ (.int .i64 m0)).setCell ⟨w.heap.size, k * 2 + 1, none⟩ (.int .i64 m1)).heap[w.heap.size]? = some (.cells ((cur.setIfInBounds (k * 2) (.int .i64 m0)).setIfInBounds (k * 2 + 1) (.int .i64 m1)) 69 (0, 0)) ∧ Below w.heap.size w ((w1.setCell ⟨w.heap.size, k * 2, none⟩ (.int .i64 m0)).setCell ⟨w.heap.size, k * 2 + 1, none⟩ (.int .i64 m1))) := ⟨(set_block _ (set_block _ g1)), ((b2.setCell (by simp) _).setCell (by simp) _)⟩
      clear g1 b1 b2
      go_wp2_with fail
      go_roundw
      case rel => exact ⟨k + 1, by omega, by go_num, HG.out.2, _, HG.out.1, HL.out⟩
      case measure => simp [intOf]; omega
    · have hkn : k = n := by omega
      subst hkn
      go_wp2_with fail
      go_ret
      refine ⟨_, rfl, ⟨by rw [flat_len encNode_len, HN.out], .inr ⟨w.heap.size, k, cur, rfl, Nat.le_refl _, hblk, Nat.le_refl _, by unfold maxLen; omega, hsz, ?_⟩⟩, hbel⟩
      have ht := HN.out
      subst ht
      rw [← laidNode_all hlaid]
      exact List.take_of_length_le (by simp [hsz])
set_option maxHeartbeats 2000000 in
theorem eqNodeS_some (b1 o1 c1 b2 o2 c2 : Nat) (xs ys : List (Int × Int)) (w : World) (hlen : xs.length = ys.length) (hl : xs.length ≤ 1048576) (hb1 : b1 < w.heap.size) (hb2 : b2 < w.heap.size)
    (h1 : ∀ j x, xs[j]? = some x → ∀ i u, (encNode x)[i]? = some u → w.cell? ⟨b1, o1 + j * 2 + i, none⟩ = some u) (h2 : ∀ j x, ys[j]? = some x → ∀ i u, (encNode x)[i]? = some u → w.cell? ⟨b2, o2 + j * 2 + i, none⟩ = some u) :
    Calls Tryz.prog 27 #[.slice (some ⟨b1, o1, none⟩) xs.length c1, .slice (some ⟨b2, o2, none⟩) xs.length c2] w fun e w' => e = .returned (.bool (eqB xs ys)) ∧ Below w.heap.size w w' := by
  have H1 : Hid (∀ j x, xs[j]? = some x → ∀ i u, (encNode x)[i]? = some u → w.cell? ⟨b1, o1 + j * 2 + i, none⟩ = some u) := h1
  have H2 : Hid (∀ j x, ys[j]? = some x → ∀ i u, (encNode x)[i]? = some u → w.cell? ⟨b2, o2 + j * 2 + i, none⟩ = some u) := h2
  clear h1 h2
  obtain ⟨n, hn⟩ : ∃ n, n = xs.length := ⟨_, rfl⟩
  have HN : Hid (n = xs.length ∧ n = ys.length) := ⟨hn, by omega⟩
  rw [← hn] at hl ⊢
  clear hn hlen
  go_enter Tryz.func27, Tryz.ntmps27
  go_wp2_with fail
  go_loopw [5] (fun i wr => ∃ k : Nat, k ≤ n ∧ i = .int .i64 k ∧ Below w.heap.size w wr ∧ ∀ j, j < k → xs[j]? = ys[j]?) (fun i _ => n - (intOf i).toNat)
  case atStart => exact ⟨0, by omega, rfl, Below.refl _ _, fun j hj => by omega⟩
  case round =>
    obtain ⟨k, hk, rfl, hbel, hq⟩ := hrel
    have HQ : Hid (∀ j, j < k → xs[j]? = ys[j]?) := hq
    clear hq
    by_cases hlt : k < n
    · obtain ⟨⟨m0, m1⟩, hx⟩ : ∃ x, xs[k]? = some x := ⟨_, List.getElem?_eq_getElem (by rw [← HN.out.1]; exact hlt)⟩
      obtain ⟨⟨p0, p1⟩, hy⟩ : ∃ x, ys[k]? = some x := ⟨_, List.getElem?_eq_getElem (by rw [← HN.out.2]; exact hlt)⟩
      have e0 : wr.cell? ⟨b1, o1 + k * 2, none⟩ = some (.int .i64 m0) := by rw [hbel.cell (p := ⟨b1, _, none⟩) hb1]; exact H1.out k _ hx 0 _ rfl
      have e1 : wr.cell? ⟨b1, o1 + k * 2 + 1, none⟩ = some (.int .i64 m1) := by rw [hbel.cell (p := ⟨b1, _, none⟩) hb1]; exact H1.out k _ hx 1 _ rfl
      have f0 : wr.cell? ⟨b2, o2 + k * 2, none⟩ = some (.int .i64 p0) := by rw [hbel.cell (p := ⟨b2, _, none⟩) hb2]; exact H2.out k _ hy 0 _ rfl
      have f1 : wr.cell? ⟨b2, o2 + k * 2 + 1, none⟩ = some (.int .i64 p1) := by rw [hbel.cell (p := ⟨b2, _, none⟩) hb2]; exact H2.out k _ hy 1 _ rfl
      have HX : Hid (xs[k]? = some (m0, m1) ∧ ys[k]? = some (p0, p1)) := ⟨hx, hy⟩
      have hq1 : b1 < wr.heap.size := Nat.lt_of_lt_of_le hb1 hbel.size
      have hq2 : b2 < wr.heap.size := Nat.lt_of_lt_of_le hb2 hbel.size
      have k0 : (0 : Int) ≤ (k : Int) := by omega
      have k1 : (k : Int) < (n : Int) := by omega
      have HB : Hid (Below w.heap.size w wr) := hbel
      clear hx hy hbel
      cases hd : eqB (m0, m1) (p0, p1)
      · go_wp2_with fail
        refine wp_region_after (by kernel_rfl) (by kernel_rfl) ?_
        intro hne hac
        repeat (go_big_quiet_step (first | (go_at_call 59; exact after_at (x := eqB (m0, m1) (p0, p1)) (y := false) hd (eqNode m0 m1 p0 p1 _))))
        refine wpQuiet_nil ?_
        rintro _ ⟨p, rfl⟩
        have hbq := HB.out.trans (p.bel.mono HB.out.size)
        generalize p.w = wq at *
        clear hac hne
        go_wp2_with fail
        go_ret
        refine ⟨?_, hbq⟩
        have : eqB xs ys = false := by
          rw [eqB_false] at hd ⊢
          intro h
          apply hd
          have h3 := HX.out.1
          rw [h, HX.out.2] at h3
          simpa using h3.symm
        rw [this]; rfl
      · go_wp2_with fail
        refine wp_region_after (by kernel_rfl) (by kernel_rfl) ?_
        intro hne hac
        repeat (go_big_quiet_step (first | (go_at_call 59; exact after_at (x := eqB (m0, m1) (p0, p1)) (y := true) hd (eqNode m0 m1 p0 p1 _))))
        refine wpQuiet_nil ?_
        rintro _ ⟨p, rfl⟩
        have hbq := HB.out.trans (p.bel.mono HB.out.size)
        have HB2 : Hid (Below w.heap.size w p.w) := hbq
        clear hac hne hbq
        generalize p.w = wq at *
        go_wp2_with fail
        go_roundw
        case rel =>
          refine ⟨k + 1, by omega, by go_num, HB2.out, fun j hj => ?_⟩
          rcases Nat.lt_succ_iff_lt_or_eq.1 hj with h | rfl
          · exact HQ.out j h
          · rw [HX.out.1, HX.out.2, eqB_true.1 hd]
        case measure => simp [intOf]; omega
    · have hkn : k = n := by omega
      subst hkn
      go_wp2_with fail
      go_ret
      refine ⟨?_, hbel⟩
      have : xs = ys := by
        apply List.ext_getElem?
        intro j
        by_cases hj : j < k
        · exact HQ.out j hj
        · rw [List.getElem?_eq_none (by have := HN.out; omega), List.getElem?_eq_none (by have := HN.out; omega)]
      rw [eqB_true.2 this]; rfl
set_option maxHeartbeats 400000 in
theorem eqNodeS_len (a1 a2 : Option Addr) (n1 c1 n2 c2 : Nat) (w : World) (h1 : n1 ≤ 1048576) (h2 : n2 ≤ 1048576) (hne : n1 ≠ n2) :
    Calls Tryz.prog 27 #[.slice a1 n1 c1, .slice a2 n2 c2] w fun e w' => e = .returned (.bool false) ∧ w' = w := by
  have hd : ((n1 : Int) != (n2 : Int)) = true := by rw [bne_iff_ne]; omega
  clear hne
  go_enter Tryz.func27, Tryz.ntmps27
  go_wp2
  go_ret
  exact ⟨rfl, rfl⟩
set_option maxHeartbeats 400000 in
theorem eqNodeS_empty (a1 a2 : Option Addr) (c1 c2 : Nat) (w : World) :
    Calls Tryz.prog 27 #[.slice a1 0 c1, .slice a2 0 c2] w fun e w' => e = .returned (.bool true) ∧ w' = w := by
  go_enter Tryz.func27, Tryz.ntmps27
  go_wp2
  refine wp_loop_rounds 1 ?_
  rw [rounds_succ]
  go_wp2
  go_ret
  exact ⟨rfl, rfl⟩
theorem eqNodeS (v1 v2 : Value) (xs ys : List (Int × Int)) (w : World) (h1 : RowAt 2 encNode w v1 xs) (h2 : RowAt 2 encNode w v2 ys) (hb1 : xs.length ≤ 1048576) (hb2 : ys.length ≤ 1048576) :
    Calls Tryz.prog 27 #[v1, v2] w fun e w' => e = .returned (.bool (eqB xs ys)) ∧ Below w.heap.size w w' := by
  by_cases hl : xs.length = ys.length
  · rcases h1 with ⟨rfl, a1, c1, rfl⟩ | ⟨p1, b1, o1, c1, rfl, l1, e1⟩
    · have hm : ys = [] := List.length_eq_zero_iff.1 (by simpa using hl.symm)
      subst hm
      obtain ⟨a2, c2, rfl⟩ := h2.len
      exact (eqNodeS_empty a1 a2 c1 c2 w).mono (fun e w' h => ⟨by rw [h.1, eqB_true.2 rfl], by rw [h.2]; exact Below.refl _ _⟩)
    · rcases h2 with ⟨rfl, a2, c2, rfl⟩ | ⟨p2, b2, o2, c2, rfl, l2, e2⟩
      · simp at hl; subst hl; simp at p1
      · rw [← hl]
        exact eqNodeS_some b1 o1 c1 b2 o2 c2 xs ys w hl hb1 l1 l2 e1 e2
  · have hf : eqB xs ys = false := by rw [eqB_false]; intro h; exact hl (by rw [h])
    rw [hf]
    obtain ⟨a1, c1, rfl⟩ := h1.len
    obtain ⟨a2, c2, rfl⟩ := h2.len
    exact (eqNodeS_len a1 a2 _ c1 _ c2 w hb1 hb2 hl).mono (fun e w' h => ⟨h.1, by rw [h.2]; exact Below.refl _ _⟩)
set_option maxHeartbeats 400000 in
theorem toNodeS_empty (a1 : Option Addr) (c1 : Nat) (w : World) :
    Calls Tryz.prog 23 #[.slice a1 0 c1] w fun e w' => ∃ v', e = .returned v' ∧ w'.ownsRow w.heap.size 69 2 v' 0 [] ∧ Below w.heap.size w w' := by
  have hmk : ∀ w, (Instr.makeSlice 29 (.int .i64 0) (.int .i64 0)).run Tryz.prog w = .ok (.slice (some ⟨w.heap.size, 0, none⟩) 0 0) (w.alloc (.cells (madeCells #[.int .i64 0, .int .i64 0] (0 * 2)) 69)) := makeNodeS 0 (by omega)
  go_enter Tryz.func23, Tryz.ntmps23
  go_wp2
  refine wp_loop_rounds 1 ?_
  rw [rounds_succ]
  go_wp2
  go_ret
  exact ⟨_, rfl, ⟨rfl, .inr ⟨w.heap.size, 0, _, rfl, Nat.le_refl _, new_block _ _, Nat.le_refl _, by unfold maxLen; omega, by simp [size_madeCells], by simp⟩⟩, (Below.refl _ _).alloc (Nat.le_refl _) _⟩
theorem toNodeS (v : Value) (xs : List (Int × Int)) (w : World) (h : RowAt 2 encNode w v xs) (hl : xs.length ≤ 1048576) :
    Calls Tryz.prog 23 #[v] w fun e w' => ∃ v', e = .returned v' ∧ w'.ownsRow w.heap.size 69 2 v' xs.length (xs.flatMap encNode) ∧ Below w.heap.size w w' := by
  rcases h with ⟨rfl, a1, c1, rfl⟩ | ⟨p1, b1, o1, c1, rfl, l1, e1⟩
  · exact toNodeS_empty a1 c1 w
  · exact toNodeS_some b1 o1 c1 xs w hl l1 e1
set_option maxHeartbeats 400000 in
theorem szNodeS (a : Option Addr) (n cap : Nat) (left : Int) (w : World) (h0 : 0 ≤ left) (h1 : left ≤ 1048576) (hn : n ≤ 9223372036854775807) :
    Calls Tryz.prog 19 #[.slice a n cap, .int .i64 left] w fun e w' => e = .returned (.int .i64 (if (n : Int) ≤ left then left - n else -1)) ∧ w' = w := by
  by_cases h : (n : Int) ≤ left
  · rw [if_pos h]
    go_enter Tryz.func19, Tryz.ntmps19
    go_wp2
    go_ret
    exact ⟨rfl, rfl⟩
  · rw [if_neg h]
    go_enter Tryz.func19, Tryz.ntmps19
    go_wp2
    go_ret
    exact ⟨rfl, rfl⟩
def encEdge (x : Int × Int × Int × Int × Int) : List Value := [.int .i64 x.1, .int .i64 x.2.1, .int .i64 x.2.2.1, .int .i64 x.2.2.2.1, .int .i64 x.2.2.2.2]
theorem encEdge_len (x : Int × Int × Int × Int × Int) : (encEdge x).length = 5 := rfl
theorem Tryz.infoEdge : (Tryz.prog.info? 72).map (fun i => (i.zero, i.size, i.bytes)) = some (some (.agg #[.int .i64 0, .int .i64 0, .int .i64 0, .int .i64 0, .int .i64 0]), 5, 40) := by kernel_rfl
theorem makeEdgeS (n : Nat) (h : n ≤ 1048576) (w : World) : (Instr.makeSlice 30 (.int .i64 n) (.int .i64 n)).run Tryz.prog w = .ok (.slice (some ⟨w.heap.size, 0, none⟩) n n) (w.alloc (.cells (madeCells #[.int .i64 0, .int .i64 0, .int .i64 0, .int .i64 0, .int .i64 0] (n * 5)) 72)) := by
  obtain ⟨i0, hi, hz0, hz1, hz2⟩ := info_parts Tryz.infoEdge
  have := run_make (P := Tryz.prog) w 30 72 i0 _ Tryz.underlying30 hi hz0 .i64 .i64 n n (by omega) (by omega) (by rw [hz2]; omega) (by omega)
  rw [hz1] at this
  simpa [Value.cells] using this
/-- A row of which the first k elements have been laid. -/
def laidEdge (xs : List (Int × Int × Int × Int × Int)) (k n : Nat) (cur : Array Value) : Prop := cur.size = n * 5 ∧ ∀ j x, j < k → xs[j]? = some x → ∀ i u, (encEdge x)[i]? = some u → cur[j * 5 + i]? = some u
theorem laidEdge_step {xs : List (Int × Int × Int × Int × Int)} {k n : Nat} {cur : Array Value} {m0 m1 m2 m3 m4 : Int} (h : laidEdge xs k n cur) (hk : k < n) (hx : xs[k]? = some (m0, m1, m2, m3, m4)) : laidEdge xs (k + 1) n (((((cur.setIfInBounds (k * 5) (.int .i64 m0)).setIfInBounds (k * 5 + 1) (.int .i64 m1)).setIfInBounds (k * 5 + 2) (.int .i64 m2)).setIfInBounds (k * 5 + 3) (.int .i64 m3)).setIfInBounds (k * 5 + 4) (.int .i64 m4)) := by
  obtain ⟨h1, h2⟩ := h
  refine ⟨by simp [h1], fun j x hj hxj i u hu => ?_⟩
  have hi : i < 5 := by
    obtain ⟨h3, _⟩ := List.getElem?_eq_some_iff.1 hu
    rw [encEdge_len] at h3; exact h3
  rcases Nat.lt_succ_iff_lt_or_eq.1 hj with hj | rfl
  · simp only [Array.getElem?_setIfInBounds]
    repeat rw [if_neg (by omega)]
    exact h2 j x hj hxj i u hu
  · rw [hx] at hxj
    cases hxj
    have : i = 0 ∨ i = 1 ∨ i = 2 ∨ i = 3 ∨ i = 4 := by omega
    rcases this with rfl | rfl | rfl | rfl | rfl <;> (simp [encEdge] at hu; subst hu; simp [Array.getElem?_setIfInBounds]; omega)
theorem laidEdge_all {xs : List (Int × Int × Int × Int × Int)} {cur : Array Value} (h : laidEdge xs xs.length xs.length cur) : cur.toList = xs.flatMap encEdge := by
  obtain ⟨h1, h2⟩ := h
  apply List.ext_getElem?
  intro m
  by_cases hm : m < xs.length * 5
  · have hj : m / 5 < xs.length := by omega
    have h3 := flat_get encEdge_len xs (m / 5) (m % 5) _ (List.getElem?_eq_getElem hj) (Nat.mod_lt _ (by omega))
    have hmm : m / 5 * 5 + m % 5 = m := by omega
    rw [hmm] at h3
    rw [h3]
    have hlen : m % 5 < (encEdge xs[m / 5]).length := by rw [encEdge_len]; exact Nat.mod_lt _ (by omega)
    have h4 := h2 (m / 5) _ hj (List.getElem?_eq_getElem hj) (m % 5) _ (List.getElem?_eq_getElem hlen)
    rw [hmm] at h4
    rw [List.getElem?_eq_getElem hlen]
    simpa using h4
  · rw [List.getElem?_eq_none (by simp; omega), List.getElem?_eq_none (by rw [flat_len encEdge_len]; omega)]
set_option maxHeartbeats 2000000 in
theorem toEdgeS_some (b off cap : Nat) (xs : List (Int × Int × Int × Int × Int)) (w : World) (hl : xs.length ≤ 1048576) (hb : b < w.heap.size)
    (hc : ∀ j x, xs[j]? = some x → ∀ i u, (encEdge x)[i]? = some u → w.cell? ⟨b, off + j * 5 + i, none⟩ = some u) :
    Calls Tryz.prog 24 #[.slice (some ⟨b, off, none⟩) xs.length cap] w fun e w' => ∃ v', e = .returned v' ∧ w'.ownsRow w.heap.size 72 5 v' xs.length (xs.flatMap encEdge) ∧ Below w.heap.size w w' := by
  have HC : Hid (∀ j x, xs[j]? = some x → ∀ i u, (encEdge x)[i]? = some u → w.cell? ⟨b, off + j * 5 + i, none⟩ = some u) := hc
  clear hc
  obtain ⟨n, hn⟩ : ∃ n, n = xs.length := ⟨_, rfl⟩
  have HN : Hid (n = xs.length) := hn
  rw [← hn] at hl ⊢
  clear hn
  have hmk := makeEdgeS n hl
  go_enter Tryz.func24, Tryz.ntmps24
  go_wp2_with fail
  clear hmk
  go_loopw [4] (fun i wr => ∃ k : Nat, k ≤ n ∧ i = .int .i64 k ∧ Below w.heap.size w wr ∧ ∃ cur, wr.heap[w.heap.size]? = some (.cells cur 72 (0, 0)) ∧ laidEdge xs k n cur) (fun i _ => n - (intOf i).toNat)
  case atStart => exact ⟨0, by omega, rfl, (Below.refl _ _).alloc (Nat.le_refl _) _, _, new_block _ _, ⟨by simp [size_madeCells], fun j x hj => by omega⟩⟩
  case round =>
    obtain ⟨k, hk, rfl, hbel, cur, hblk, hlaid⟩ := hrel
    have hsz := hlaid.1
    by_cases hlt : k < n
    · obtain ⟨⟨m0, m1, m2, m3, m4⟩, hx⟩ : ∃ x, xs[k]? = some x := ⟨_, List.getElem?_eq_getElem (by rw [← HN.out]; exact hlt)⟩
      have e0 : wr.cell? ⟨b, off + k * 5, none⟩ = some (.int .i64 m0) := by rw [hbel.cell (p := ⟨b, off + k * 5, none⟩) hb]; exact HC.out k _ hx 0 _ rfl
      have e1 : wr.cell? ⟨b, off + k * 5 + 1, none⟩ = some (.int .i64 m1) := by rw [hbel.cell (p := ⟨b, off + k * 5 + 1, none⟩) hb]; exact HC.out k _ hx 1 _ rfl
      have e2 : wr.cell? ⟨b, off + k * 5 + 2, none⟩ = some (.int .i64 m2) := by rw [hbel.cell (p := ⟨b, off + k * 5 + 2, none⟩) hb]; exact HC.out k _ hx 2 _ rfl
      have e3 : wr.cell? ⟨b, off + k * 5 + 3, none⟩ = some (.int .i64 m3) := by rw [hbel.cell (p := ⟨b, off + k * 5 + 3, none⟩) hb]; exact HC.out k _ hx 3 _ rfl
      have e4 : wr.cell? ⟨b, off + k * 5 + 4, none⟩ = some (.int .i64 m4) := by rw [hbel.cell (p := ⟨b, off + k * 5 + 4, none⟩) hb]; exact HC.out k _ hx 4 _ rfl
      have HL : Hid (laidEdge xs (k + 1) n (((((cur.setIfInBounds (k * 5) (.int .i64 m0)).setIfInBounds (k * 5 + 1) (.int .i64 m1)).setIfInBounds (k * 5 + 2) (.int .i64 m2)).setIfInBounds (k * 5 + 3) (.int .i64 m3)).setIfInBounds (k * 5 + 4) (.int .i64 m4))) := laidEdge_step hlaid hlt hx
      have HX : Hid (wr.heap[w.heap.size]? = some (.cells cur 72 (0, 0)) ∧ Below w.heap.size w wr) := ⟨hblk, hbel⟩
      have hgl := lt_of_block hblk
      clear hlaid hx hblk hbel
      go_wp2_with fail
      refine (toEdge _ _ _ _ _ _).mono ?_
      rintro e w1 ⟨rfl, b1⟩
      have g1 : w1.heap[w.heap.size]? = some (.cells cur 72 (0, 0)) := by rw [b1.block _ hgl]; exact HX.out.1
      have b2 : Below w.heap.size w w1 := HX.out.2.trans (b1.mono (by omega))
      obtain ⟨y0, r0⟩ : ∃ y, w1.cell? ⟨w.heap.size, k * 5, none⟩ = some y := by rw [cell_block g1]; exact ⟨_, Array.getElem?_eq_getElem (by omega)⟩
      obtain ⟨y1, r1⟩ : ∃ y, w1.cell? ⟨w.heap.size, k * 5 + 1, none⟩ = some y := by rw [cell_block g1]; exact ⟨_, Array.getElem?_eq_getElem (by omega)⟩
      obtain ⟨y2, r2⟩ : ∃ y, w1.cell? ⟨w.heap.size, k * 5 + 2, none⟩ = some y := by rw [cell_block g1]; exact ⟨_, Array.getElem?_eq_getElem (by omega)⟩
      obtain ⟨y3, r3⟩ : ∃ y, w1.cell? ⟨w.heap.size, k * 5 + 3, none⟩ = some y := by rw [cell_block g1]; exact ⟨_, Array.getElem?_eq_getElem (by omega)⟩
      obtain ⟨y4, r4⟩ : ∃ y, w1.cell? ⟨w.heap.size, k * 5 + 4, none⟩ = some y := by rw [cell_block g1]; exact ⟨_, Array.getElem?_eq_getElem (by omega)⟩
      have hf : ∀ i, w1.frozen? ⟨w.heap.size, i, none⟩ = false := fun i => free_block g1
      have HG : Hid ((((((w1.setCell ⟨w.heap.size, k * 5, none⟩ (.int .i64 m0)).setCell ⟨w.heap.size, k * 5 + 1, none⟩ (.int .i64 m1)).setCell ⟨w.heap.size, k * 5 + 2, none⟩ (.int .i64 m2)).setCell ⟨w.heap.size, k * 5 + 3, none⟩ (.int .i64 m3)).setCell ⟨w.heap.size, k * 5 + 4, none⟩ (.int .i64 m4)).heap[w.heap.size]? = some (.cells (((((cur.setIfInBounds (k * 5) (.int .i64 m0)).setIfInBounds (k * 5 + 1) (.int .i64 m1)).setIfInBounds (k * 5 + 2) (.int .i64 m2)).setIfInBounds (k * 5 + 3) (.int .i64 m3)).setIfInBounds (k * 5 + 4) (.int .i64 m4)) 72 (0, 0)) ∧ Below w.heap.size w (((((w1.setCell ⟨w.heap.size, k * 5, none⟩ (.int .i64 m0)).setCell ⟨w.heap.size, k * 5 + 1, none⟩ (.int .i64 m1)).setCell ⟨w.heap.size, k * 5 + 2, none⟩ (.int .i64 m2)).setCell ⟨w.heap.size, k * 5 + 3, none⟩ (.int .i64 m3)).setCell ⟨w.heap.size, k * 5 + 4, none⟩ (.int .i64 m4))) := ⟨(set_block _ (set_block _ (set_block _ (set_block _ (set_block _ g1))))), (((((b2.setCell (by simp) _).setCell (by simp) _).setCell (by simp) _).setCell (by simp) _).setCell (by simp) _)⟩
      clear g1 b1 b2
      go_wp2_with fail
      go_roundw
      case rel => exact ⟨k + 1, by omega, by go_num, HG.out.2, _, HG.out.1, HL.out⟩
      case measure => simp [intOf]; omega
    · have hkn : k = n := by omega
      subst hkn
      go_wp2_with fail
      go_ret
      refine ⟨_, rfl, ⟨by rw [flat_len encEdge_len, HN.out], .inr ⟨w.heap.size, k, cur, rfl, Nat.le_refl _, hblk, Nat.le_refl _, by unfold maxLen; omega, hsz, ?_⟩⟩, hbel⟩
      have ht := HN.out
      subst ht
      rw [← laidEdge_all hlaid]
      exact List.take_of_length_le (by simp [hsz])
set_option maxHeartbeats 2000000 in
theorem eqEdgeS_some (b1 o1 c1 b2 o2 c2 : Nat) (xs ys : List (Int × Int × Int × Int × Int)) (w : World) (hlen : xs.length = ys.length) (hl : xs.length ≤ 1048576) (hb1 : b1 < w.heap.size) (hb2 : b2 < w.heap.size)
    (h1 : ∀ j x, xs[j]? = some x → ∀ i u, (encEdge x)[i]? = some u → w.cell? ⟨b1, o1 + j * 5 + i, none⟩ = some u) (h2 : ∀ j x, ys[j]? = some x → ∀ i u, (encEdge x)[i]? = some u → w.cell? ⟨b2, o2 + j * 5 + i, none⟩ = some u) :
    Calls Tryz.prog 28 #[.slice (some ⟨b1, o1, none⟩) xs.length c1, .slice (some ⟨b2, o2, none⟩) xs.length c2] w fun e w' => e = .returned (.bool (eqB xs ys)) ∧ Below w.heap.size w w' := by
  have H1 : Hid (∀ j x, xs[j]? = some x → ∀ i u, (encEdge x)[i]? = some u → w.cell? ⟨b1, o1 + j * 5 + i, none⟩ = some u) := h1
  have H2 : Hid (∀ j x, ys[j]? = some x → ∀ i u, (encEdge x)[i]? = some u → w.cell? ⟨b2, o2 + j * 5 + i, none⟩ = some u) := h2
  clear h1 h2
  obtain ⟨n, hn⟩ : ∃ n, n = xs.length := ⟨_, rfl⟩
  have HN : Hid (n = xs.length ∧ n = ys.length) := ⟨hn, by omega⟩
  rw [← hn] at hl ⊢
  clear hn hlen
  go_enter Tryz.func28, Tryz.ntmps28
  go_wp2_with fail
  go_loopw [5] (fun i wr => ∃ k : Nat, k ≤ n ∧ i = .int .i64 k ∧ Below w.heap.size w wr ∧ ∀ j, j < k → xs[j]? = ys[j]?) (fun i _ => n - (intOf i).toNat)
  case atStart => exact ⟨0, by omega, rfl, Below.refl _ _, fun j hj => by omega⟩
  case round =>
    obtain ⟨k, hk, rfl, hbel, hq⟩ := hrel
    have HQ : Hid (∀ j, j < k → xs[j]? = ys[j]?) := hq
    clear hq
    by_cases hlt : k < n
    · obtain ⟨⟨m0, m1, m2, m3, m4⟩, hx⟩ : ∃ x, xs[k]? = some x := ⟨_, List.getElem?_eq_getElem (by rw [← HN.out.1]; exact hlt)⟩
      obtain ⟨⟨p0, p1, p2, p3, p4⟩, hy⟩ : ∃ x, ys[k]? = some x := ⟨_, List.getElem?_eq_getElem (by rw [← HN.out.2]; exact hlt)⟩
      have e0 : wr.cell? ⟨b1, o1 + k * 5, none⟩ = some (.int .i64 m0) := by rw [hbel.cell (p := ⟨b1, _, none⟩) hb1]; exact H1.out k _ hx 0 _ rfl
      have e1 : wr.cell? ⟨b1, o1 + k * 5 + 1, none⟩ = some (.int .i64 m1) := by rw [hbel.cell (p := ⟨b1, _, none⟩) hb1]; exact H1.out k _ hx 1 _ rfl
      have e2 : wr.cell? ⟨b1, o1 + k * 5 + 2, none⟩ = some (.int .i64 m2) := by rw [hbel.cell (p := ⟨b1, _, none⟩) hb1]; exact H1.out k _ hx 2 _ rfl
      have e3 : wr.cell? ⟨b1, o1 + k * 5 + 3, none⟩ = some (.int .i64 m3) := by rw [hbel.cell (p := ⟨b1, _, none⟩) hb1]; exact H1.out k _ hx 3 _ rfl
      have e4 : wr.cell? ⟨b1, o1 + k * 5 + 4, none⟩ = some (.int .i64 m4) := by rw [hbel.cell (p := ⟨b1, _, none⟩) hb1]; exact H1.out k _ hx 4 _ rfl
      have f0 : wr.cell? ⟨b2, o2 + k * 5, none⟩ = some (.int .i64 p0) := by rw [hbel.cell (p := ⟨b2, _, none⟩) hb2]; exact H2.out k _ hy 0 _ rfl
      have f1 : wr.cell? ⟨b2, o2 + k * 5 + 1, none⟩ = some (.int .i64 p1) := by rw [hbel.cell (p := ⟨b2, _, none⟩) hb2]; exact H2.out k _ hy 1 _ rfl
      have f2 : wr.cell? ⟨b2, o2 + k * 5 + 2, none⟩ = some (.int .i64 p2) := by rw [hbel.cell (p := ⟨b2, _, none⟩) hb2]; exact H2.out k _ hy 2 _ rfl
      have f3 : wr.cell? ⟨b2, o2 + k * 5 + 3, none⟩ = some (.int .i64 p3) := by rw [hbel.cell (p := ⟨b2, _, none⟩) hb2]; exact H2.out k _ hy 3 _ rfl
      have f4 : wr.cell? ⟨b2, o2 + k * 5 + 4, none⟩ = some (.int .i64 p4) := by rw [hbel.cell (p := ⟨b2, _, none⟩) hb2]; exact H2.out k _ hy 4 _ rfl
      have HX : Hid (xs[k]? = some (m0, m1, m2, m3, m4) ∧ ys[k]? = some (p0, p1, p2, p3, p4)) := ⟨hx, hy⟩
      have hq1 : b1 < wr.heap.size := Nat.lt_of_lt_of_le hb1 hbel.size
      have hq2 : b2 < wr.heap.size := Nat.lt_of_lt_of_le hb2 hbel.size
      have k0 : (0 : Int) ≤ (k : Int) := by omega
      have k1 : (k : Int) < (n : Int) := by omega
      have HB : Hid (Below w.heap.size w wr) := hbel
      clear hx hy hbel
      cases hd : eqB (m0, m1, m2, m3, m4) (p0, p1, p2, p3, p4)
      · go_wp2_with fail
        refine wp_region_after (by kernel_rfl) (by kernel_rfl) ?_
        intro hne hac
        repeat (go_big_quiet_step (first | (go_at_call 60; exact after_at (x := eqB (m0, m1, m2, m3, m4) (p0, p1, p2, p3, p4)) (y := false) hd (eqEdge m0 m1 m2 m3 m4 p0 p1 p2 p3 p4 _))))
        refine wpQuiet_nil ?_
        rintro _ ⟨p, rfl⟩
        have hbq := HB.out.trans (p.bel.mono HB.out.size)
        generalize p.w = wq at *
        clear hac hne
        go_wp2_with fail
        go_ret
        refine ⟨?_, hbq⟩
        have : eqB xs ys = false := by
          rw [eqB_false] at hd ⊢
          intro h
          apply hd
          have h3 := HX.out.1
          rw [h, HX.out.2] at h3
          simpa using h3.symm
        rw [this]; rfl
      · go_wp2_with fail
        refine wp_region_after (by kernel_rfl) (by kernel_rfl) ?_
        intro hne hac
        repeat (go_big_quiet_step (first | (go_at_call 60; exact after_at (x := eqB (m0, m1, m2, m3, m4) (p0, p1, p2, p3, p4)) (y := true) hd (eqEdge m0 m1 m2 m3 m4 p0 p1 p2 p3 p4 _))))
        refine wpQuiet_nil ?_
        rintro _ ⟨p, rfl⟩
        have hbq := HB.out.trans (p.bel.mono HB.out.size)
        have HB2 : Hid (Below w.heap.size w p.w) := hbq
        clear hac hne hbq
        generalize p.w = wq at *
        go_wp2_with fail
        go_roundw
        case rel =>
          refine ⟨k + 1, by omega, by go_num, HB2.out, fun j hj => ?_⟩
          rcases Nat.lt_succ_iff_lt_or_eq.1 hj with h | rfl
          · exact HQ.out j h
          · rw [HX.out.1, HX.out.2, eqB_true.1 hd]
        case measure => simp [intOf]; omega
    · have hkn : k = n := by omega
      subst hkn
      go_wp2_with fail
      go_ret
      refine ⟨?_, hbel⟩
      have : xs = ys := by
        apply List.ext_getElem?
        intro j
        by_cases hj : j < k
        · exact HQ.out j hj
        · rw [List.getElem?_eq_none (by have := HN.out; omega), List.getElem?_eq_none (by have := HN.out; omega)]
      rw [eqB_true.2 this]; rfl
set_option maxHeartbeats 400000 in
theorem eqEdgeS_len (a1 a2 : Option Addr) (n1 c1 n2 c2 : Nat) (w : World) (h1 : n1 ≤ 1048576) (h2 : n2 ≤ 1048576) (hne : n1 ≠ n2) :
    Calls Tryz.prog 28 #[.slice a1 n1 c1, .slice a2 n2 c2] w fun e w' => e = .returned (.bool false) ∧ w' = w := by
  have hd : ((n1 : Int) != (n2 : Int)) = true := by rw [bne_iff_ne]; omega
  clear hne
  go_enter Tryz.func28, Tryz.ntmps28
  go_wp2
  go_ret
  exact ⟨rfl, rfl⟩
set_option maxHeartbeats 400000 in
theorem eqEdgeS_empty (a1 a2 : Option Addr) (c1 c2 : Nat) (w : World) :
    Calls Tryz.prog 28 #[.slice a1 0 c1, .slice a2 0 c2] w fun e w' => e = .returned (.bool true) ∧ w' = w := by
  go_enter Tryz.func28, Tryz.ntmps28
  go_wp2
  refine wp_loop_rounds 1 ?_
  rw [rounds_succ]
  go_wp2
  go_ret
  exact ⟨rfl, rfl⟩
theorem eqEdgeS (v1 v2 : Value) (xs ys : List (Int × Int × Int × Int × Int)) (w : World) (h1 : RowAt 5 encEdge w v1 xs) (h2 : RowAt 5 encEdge w v2 ys) (hb1 : xs.length ≤ 1048576) (hb2 : ys.length ≤ 1048576) :
    Calls Tryz.prog 28 #[v1, v2] w fun e w' => e = .returned (.bool (eqB xs ys)) ∧ Below w.heap.size w w' := by
  by_cases hl : xs.length = ys.length
  · rcases h1 with ⟨rfl, a1, c1, rfl⟩ | ⟨p1, b1, o1, c1, rfl, l1, e1⟩
    · have hm : ys = [] := List.length_eq_zero_iff.1 (by simpa using hl.symm)
      subst hm
      obtain ⟨a2, c2, rfl⟩ := h2.len
      exact (eqEdgeS_empty a1 a2 c1 c2 w).mono (fun e w' h => ⟨by rw [h.1, eqB_true.2 rfl], by rw [h.2]; exact Below.refl _ _⟩)
    · rcases h2 with ⟨rfl, a2, c2, rfl⟩ | ⟨p2, b2, o2, c2, rfl, l2, e2⟩
      · simp at hl; subst hl; simp at p1
      · rw [← hl]
        exact eqEdgeS_some b1 o1 c1 b2 o2 c2 xs ys w hl hb1 l1 l2 e1 e2
  · have hf : eqB xs ys = false := by rw [eqB_false]; intro h; exact hl (by rw [h])
    rw [hf]
    obtain ⟨a1, c1, rfl⟩ := h1.len
    obtain ⟨a2, c2, rfl⟩ := h2.len
    exact (eqEdgeS_len a1 a2 _ c1 _ c2 w hb1 hb2 hl).mono (fun e w' h => ⟨h.1, by rw [h.2]; exact Below.refl _ _⟩)
set_option maxHeartbeats 400000 in
theorem toEdgeS_empty (a1 : Option Addr) (c1 : Nat) (w : World) :
    Calls Tryz.prog 24 #[.slice a1 0 c1] w fun e w' => ∃ v', e = .returned v' ∧ w'.ownsRow w.heap.size 72 5 v' 0 [] ∧ Below w.heap.size w w' := by
  have hmk : ∀ w, (Instr.makeSlice 30 (.int .i64 0) (.int .i64 0)).run Tryz.prog w = .ok (.slice (some ⟨w.heap.size, 0, none⟩) 0 0) (w.alloc (.cells (madeCells #[.int .i64 0, .int .i64 0, .int .i64 0, .int .i64 0, .int .i64 0] (0 * 5)) 72)) := makeEdgeS 0 (by omega)
  go_enter Tryz.func24, Tryz.ntmps24
  go_wp2
  refine wp_loop_rounds 1 ?_
  rw [rounds_succ]
  go_wp2
  go_ret
  exact ⟨_, rfl, ⟨rfl, .inr ⟨w.heap.size, 0, _, rfl, Nat.le_refl _, new_block _ _, Nat.le_refl _, by unfold maxLen; omega, by simp [size_madeCells], by simp⟩⟩, (Below.refl _ _).alloc (Nat.le_refl _) _⟩
theorem toEdgeS (v : Value) (xs : List (Int × Int × Int × Int × Int)) (w : World) (h : RowAt 5 encEdge w v xs) (hl : xs.length ≤ 1048576) :
    Calls Tryz.prog 24 #[v] w fun e w' => ∃ v', e = .returned v' ∧ w'.ownsRow w.heap.size 72 5 v' xs.length (xs.flatMap encEdge) ∧ Below w.heap.size w w' := by
  rcases h with ⟨rfl, a1, c1, rfl⟩ | ⟨p1, b1, o1, c1, rfl, l1, e1⟩
  · exact toEdgeS_empty a1 c1 w
  · exact toEdgeS_some b1 o1 c1 xs w hl l1 e1
set_option maxHeartbeats 400000 in
theorem szEdgeS (a : Option Addr) (n cap : Nat) (left : Int) (w : World) (h0 : 0 ≤ left) (h1 : left ≤ 1048576) (hn : n ≤ 9223372036854775807) :
    Calls Tryz.prog 20 #[.slice a n cap, .int .i64 left] w fun e w' => e = .returned (.int .i64 (if (n : Int) ≤ left then left - n else -1)) ∧ w' = w := by
  by_cases h : (n : Int) ≤ left
  · rw [if_pos h]
    go_enter Tryz.func20, Tryz.ntmps20
    go_wp2
    go_ret
    exact ⟨rfl, rfl⟩
  · rw [if_neg h]
    go_enter Tryz.func20, Tryz.ntmps20
    go_wp2
    go_ret
    exact ⟨rfl, rfl⟩
end Go.Proofs.YtlnpbfeihjfnjabGreatDoor.Lab

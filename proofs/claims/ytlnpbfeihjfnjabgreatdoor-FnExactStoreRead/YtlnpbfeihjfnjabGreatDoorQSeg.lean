/-
  Contracts of the laws' own functions on slices of Seg. (Written by tools/mkseg.py.)
-/
import Derived.Test.YtlnpbfeihjfnjabGreatDoorQIts
import Derived.Test.YtlnpbfeihjfnjabGreatDoorQNod
namespace Go.Proofs.YtlnpbfeihjfnjabGreatDoor.Lab
open Go.RowKit
set_option linter.unusedVariables false
theorem dec_seg (a : Int) (b : List UInt8) (c : Int) (d : List UInt8) : eqB (a, b) (c, d) = (decide (a = c) && decide (b = d)) := by
  rw [Bool.eq_iff_iff]; simp [eqB]
set_option maxHeartbeats 400000 in
theorem eqSeg (l : Int) (n : List UInt8) (l2 : Int) (n2 : List UInt8) (w : World) :
    Calls Tryz.prog 26 #[.agg #[.int .i64 l, .string ⟨n.toArray⟩], .agg #[.int .i64 l2, .string ⟨n2.toArray⟩]] w fun e w' => e = .returned (.bool (eqB (l, n) (l2, n2))) ∧ Below w.heap.size w w' := by
  rw [dec_seg]
  by_cases h1 : l = l2
  · subst h1
    by_cases h2 : n = n2
    · subst h2
      go_enter Tryz.func26, Tryz.ntmps26
      go_wp2
      go_ret
      exact ⟨by simp, by go_grown⟩
    · have h3 : (n == n2) = false := by simpa using h2
      have HH : Hid (¬ n = n2) := h2
      clear h2
      go_enter Tryz.func26, Tryz.ntmps26
      go_wp2
      go_ret
      exact ⟨by simp [HH.out], by go_grown⟩
  · have h3 : (l != l2) = true := by simpa using h1
    have HH : Hid (¬ l = l2) := h1
    clear h1
    go_enter Tryz.func26, Tryz.ntmps26
    go_wp2
    go_ret
    exact ⟨by simp [HH.out], by go_grown⟩
set_option maxHeartbeats 400000 in
theorem toSeg (l : Int) (n : List UInt8) (w : World) :
    Calls Tryz.prog 35 #[.agg #[.int .i64 l, .string ⟨n.toArray⟩]] w fun e w' => e = .returned (.agg #[.int .i64 l, .string ⟨n.toArray⟩]) ∧ Below w.heap.size w w' := by
  go_enter Tryz.func35, Tryz.ntmps35
  go_wp2
  refine bodyPost_ret (v := .agg #[.int .i64 l, .string ⟨n.toArray⟩]) (by simp [*, results, Tryz.results35, go_sem]) rfl ?_
  exact ⟨rfl, by go_grown⟩
def encSeg (x : Int × List UInt8) : List Value := [.int .i64 x.1, .string ⟨x.2.toArray⟩]
theorem encSeg_len (x : Int × List UInt8) : (encSeg x).length = 2 := rfl
theorem Tryz.infoSeg : (Tryz.prog.info? 52).map (fun i => (i.zero, i.size, i.bytes)) = some (some (.agg #[.int .i64 0, .string ⟨#[]⟩]), 2, 24) := by kernel_rfl
theorem makeSegS (n : Nat) (h : n ≤ 1048576) (w : World) : (Instr.makeSlice 27 (.int .i64 n) (.int .i64 n)).run Tryz.prog w = .ok (.slice (some ⟨w.heap.size, 0, none⟩) n n) (w.alloc (.cells (madeCells #[.int .i64 0, .string ⟨#[]⟩] (n * 2)) 52)) := by
  obtain ⟨i0, hi, hz0, hz1, hz2⟩ := info_parts Tryz.infoSeg
  have := run_make (P := Tryz.prog) w 27 52 i0 _ Tryz.underlying27 hi hz0 .i64 .i64 n n (by omega) (by omega) (by rw [hz2]; omega) (by omega)
  rw [hz1] at this
  simpa [Value.cells] using this
/-- A row of which the first k elements have been laid. -/
def laidSeg (xs : List (Int × List UInt8)) (k n : Nat) (cur : Array Value) : Prop := cur.size = n * 2 ∧ ∀ j x, j < k → xs[j]? = some x → ∀ i u, (encSeg x)[i]? = some u → cur[j * 2 + i]? = some u
theorem laidSeg_step {xs : List (Int × List UInt8)} {k n : Nat} {cur : Array Value} {m0 : Int} {m1 : List UInt8} (h : laidSeg xs k n cur) (hk : k < n) (hx : xs[k]? = some (m0, m1)) : laidSeg xs (k + 1) n ((cur.setIfInBounds (k * 2) (.int .i64 m0)).setIfInBounds (k * 2 + 1) (.string ⟨m1.toArray⟩)) := by
  obtain ⟨h1, h2⟩ := h
  refine ⟨by simp [h1], fun j x hj hxj i u hu => ?_⟩
  have hi : i < 2 := by
    obtain ⟨h3, _⟩ := List.getElem?_eq_some_iff.1 hu
    rw [encSeg_len] at h3; exact h3
  rcases Nat.lt_succ_iff_lt_or_eq.1 hj with hj | rfl
  · simp only [Array.getElem?_setIfInBounds]
    repeat rw [if_neg (by omega)]
    exact h2 j x hj hxj i u hu
  · rw [hx] at hxj
    cases hxj
    have : i = 0 ∨ i = 1 := by omega
    rcases this with rfl | rfl <;> (simp [encSeg] at hu; subst hu; simp [Array.getElem?_setIfInBounds]; omega)
theorem laidSeg_all {xs : List (Int × List UInt8)} {cur : Array Value} (h : laidSeg xs xs.length xs.length cur) : cur.toList = xs.flatMap encSeg := by
  obtain ⟨h1, h2⟩ := h
  apply List.ext_getElem?
  intro m
  by_cases hm : m < xs.length * 2
  · have hj : m / 2 < xs.length := by omega
    have h3 := flat_get encSeg_len xs (m / 2) (m % 2) _ (List.getElem?_eq_getElem hj) (Nat.mod_lt _ (by omega))
    have hmm : m / 2 * 2 + m % 2 = m := by omega
    rw [hmm] at h3
    rw [h3]
    have hlen : m % 2 < (encSeg xs[m / 2]).length := by rw [encSeg_len]; exact Nat.mod_lt _ (by omega)
    have h4 := h2 (m / 2) _ hj (List.getElem?_eq_getElem hj) (m % 2) _ (List.getElem?_eq_getElem hlen)
    rw [hmm] at h4
    rw [List.getElem?_eq_getElem hlen]
    simpa using h4
  · rw [List.getElem?_eq_none (by simp; omega), List.getElem?_eq_none (by rw [flat_len encSeg_len]; omega)]
set_option maxHeartbeats 2000000 in
theorem toSegS_some (b off cap : Nat) (xs : List (Int × List UInt8)) (w : World) (hl : xs.length ≤ 1048576) (hb : b < w.heap.size)
    (hc : ∀ j x, xs[j]? = some x → ∀ i u, (encSeg x)[i]? = some u → w.cell? ⟨b, off + j * 2 + i, none⟩ = some u) :
    Calls Tryz.prog 16 #[.slice (some ⟨b, off, none⟩) xs.length cap] w fun e w' => ∃ v', e = .returned v' ∧ w'.ownsRow w.heap.size 52 2 v' xs.length (xs.flatMap encSeg) ∧ Below w.heap.size w w' := by
  have HC : Hid (∀ j x, xs[j]? = some x → ∀ i u, (encSeg x)[i]? = some u → w.cell? ⟨b, off + j * 2 + i, none⟩ = some u) := hc
  clear hc
  obtain ⟨n, hn⟩ : ∃ n, n = xs.length := ⟨_, rfl⟩
  have HN : Hid (n = xs.length) := hn
  rw [← hn] at hl ⊢
  clear hn
  have hmk := makeSegS n hl
  go_enter Tryz.func16, Tryz.ntmps16
  go_wp2_with fail
  clear hmk
  go_loopw [4] (fun i wr => ∃ k : Nat, k ≤ n ∧ i = .int .i64 k ∧ Below w.heap.size w wr ∧ ∃ cur, wr.heap[w.heap.size]? = some (.cells cur 52 (0, 0)) ∧ laidSeg xs k n cur) (fun i _ => n - (intOf i).toNat)
  case atStart => exact ⟨0, by omega, rfl, (Below.refl _ _).alloc (Nat.le_refl _) _, _, new_block _ _, ⟨by simp [size_madeCells], fun j x hj => by omega⟩⟩
  case round =>
    obtain ⟨k, hk, rfl, hbel, cur, hblk, hlaid⟩ := hrel
    have hsz := hlaid.1
    by_cases hlt : k < n
    · obtain ⟨⟨m0, m1⟩, hx⟩ : ∃ x, xs[k]? = some x := ⟨_, List.getElem?_eq_getElem (by rw [← HN.out]; exact hlt)⟩
      have e0 : wr.cell? ⟨b, off + k * 2, none⟩ = some (.int .i64 m0) := by rw [hbel.cell (p := ⟨b, off + k * 2, none⟩) hb]; exact HC.out k _ hx 0 _ rfl
      have e1 : wr.cell? ⟨b, off + k * 2 + 1, none⟩ = some (.string ⟨m1.toArray⟩) := by rw [hbel.cell (p := ⟨b, off + k * 2 + 1, none⟩) hb]; exact HC.out k _ hx 1 _ rfl
      have HL : Hid (laidSeg xs (k + 1) n ((cur.setIfInBounds (k * 2) (.int .i64 m0)).setIfInBounds (k * 2 + 1) (.string ⟨m1.toArray⟩))) := laidSeg_step hlaid hlt hx
      have HX : Hid (wr.heap[w.heap.size]? = some (.cells cur 52 (0, 0)) ∧ Below w.heap.size w wr) := ⟨hblk, hbel⟩
      have hgl := lt_of_block hblk
      clear hlaid hx hblk hbel
      go_wp2_with fail
      refine (toSeg _ _ _).mono ?_
      rintro e w1 ⟨rfl, b1⟩
      have g1 : w1.heap[w.heap.size]? = some (.cells cur 52 (0, 0)) := by rw [b1.block _ hgl]; exact HX.out.1
      have b2 : Below w.heap.size w w1 := HX.out.2.trans (b1.mono (by omega))
      obtain ⟨y0, r0⟩ : ∃ y, w1.cell? ⟨w.heap.size, k * 2, none⟩ = some y := by rw [cell_block g1]; exact ⟨_, Array.getElem?_eq_getElem (by omega)⟩
      obtain ⟨y1, r1⟩ : ∃ y, w1.cell? ⟨w.heap.size, k * 2 + 1, none⟩ = some y := by rw [cell_block g1]; exact ⟨_, Array.getElem?_eq_getElem (by omega)⟩
      have hf : ∀ i, w1.frozen? ⟨w.heap.size, i, none⟩ = false := fun i => free_block g1
      have HG : Hid (((w1.setCell ⟨w.heap.size, k * 2, none⟩ (.int .i64 m0)).setCell ⟨w.heap.size, k * 2 + 1, none⟩ (.string ⟨m1.toArray⟩)).heap[w.heap.size]? = some (.cells ((cur.setIfInBounds (k * 2) (.int .i64 m0)).setIfInBounds (k * 2 + 1) (.string ⟨m1.toArray⟩)) 52 (0, 0)) ∧ Below w.heap.size w ((w1.setCell ⟨w.heap.size, k * 2, none⟩ (.int .i64 m0)).setCell ⟨w.heap.size, k * 2 + 1, none⟩ (.string ⟨m1.toArray⟩))) := ⟨(set_block _ (set_block _ g1)), ((b2.setCell (by simp) _).setCell (by simp) _)⟩
      clear g1 b1 b2
      go_wp2_with fail
      go_roundw
      case rel => exact ⟨k + 1, by omega, by go_num, HG.out.2, _, HG.out.1, HL.out⟩
      case measure => simp [intOf]; omega
    · have hkn : k = n := by omega
      subst hkn
      go_wp2_with fail
      go_ret
      refine ⟨_, rfl, ⟨by rw [flat_len encSeg_len, HN.out], .inr ⟨w.heap.size, k, cur, rfl, Nat.le_refl _, hblk, Nat.le_refl _, by unfold maxLen; omega, hsz, ?_⟩⟩, hbel⟩
      have ht := HN.out
      subst ht
      rw [← laidSeg_all hlaid]
      exact List.take_of_length_le (by simp [hsz])
set_option maxHeartbeats 2000000 in
theorem eqSegS_some (b1 o1 c1 b2 o2 c2 : Nat) (xs ys : List (Int × List UInt8)) (w : World) (hlen : xs.length = ys.length) (hl : xs.length ≤ 1048576) (hb1 : b1 < w.heap.size) (hb2 : b2 < w.heap.size)
    (h1 : ∀ j x, xs[j]? = some x → ∀ i u, (encSeg x)[i]? = some u → w.cell? ⟨b1, o1 + j * 2 + i, none⟩ = some u) (h2 : ∀ j x, ys[j]? = some x → ∀ i u, (encSeg x)[i]? = some u → w.cell? ⟨b2, o2 + j * 2 + i, none⟩ = some u) :
    Calls Tryz.prog 9 #[.slice (some ⟨b1, o1, none⟩) xs.length c1, .slice (some ⟨b2, o2, none⟩) xs.length c2] w fun e w' => e = .returned (.bool (eqB xs ys)) ∧ Below w.heap.size w w' := by
  have H1 : Hid (∀ j x, xs[j]? = some x → ∀ i u, (encSeg x)[i]? = some u → w.cell? ⟨b1, o1 + j * 2 + i, none⟩ = some u) := h1
  have H2 : Hid (∀ j x, ys[j]? = some x → ∀ i u, (encSeg x)[i]? = some u → w.cell? ⟨b2, o2 + j * 2 + i, none⟩ = some u) := h2
  clear h1 h2
  obtain ⟨n, hn⟩ : ∃ n, n = xs.length := ⟨_, rfl⟩
  have HN : Hid (n = xs.length ∧ n = ys.length) := ⟨hn, by omega⟩
  rw [← hn] at hl ⊢
  clear hn hlen
  go_enter Tryz.func9, Tryz.ntmps9
  go_wp2_with fail
  go_loopw [5] (fun i wr => ∃ k : Nat, k ≤ n ∧ i = .int .i64 k ∧ Below w.heap.size w wr ∧ ∀ j, j < k → xs[j]? = ys[j]?) (fun i _ => n - (intOf i).toNat)
  case atStart => exact ⟨0, by omega, rfl, Below.refl _ _, fun j hj => by omega⟩
  case round =>
    obtain ⟨k, hk, rfl, hbel, hq⟩ := hrel
    have HQ : Hid (∀ j, j < k → xs[j]? = ys[j]?) := hq
    clear hq
    by_cases hlt : k < n
    · obtain ⟨⟨m0, m1⟩, hx⟩ : ∃ x, xs[k]? = some x := ⟨_, List.getElem?_eq_getElem (by rw [← HN.out.1]; exact hlt)⟩
      obtain ⟨⟨p0, p1⟩, hy⟩ : ∃ x, ys[k]? = some x := ⟨_, List.getElem?_eq_getElem (by rw [← HN.out.2]; exact hlt)⟩
      have e0 : wr.cell? ⟨b1, o1 + k * 2, none⟩ = some (.int .i64 m0) := by rw [hbel.cell (p := ⟨b1, _, none⟩) hb1]; exact H1.out k _ hx 0 _ rfl
      have e1 : wr.cell? ⟨b1, o1 + k * 2 + 1, none⟩ = some (.string ⟨m1.toArray⟩) := by rw [hbel.cell (p := ⟨b1, _, none⟩) hb1]; exact H1.out k _ hx 1 _ rfl
      have f0 : wr.cell? ⟨b2, o2 + k * 2, none⟩ = some (.int .i64 p0) := by rw [hbel.cell (p := ⟨b2, _, none⟩) hb2]; exact H2.out k _ hy 0 _ rfl
      have f1 : wr.cell? ⟨b2, o2 + k * 2 + 1, none⟩ = some (.string ⟨p1.toArray⟩) := by rw [hbel.cell (p := ⟨b2, _, none⟩) hb2]; exact H2.out k _ hy 1 _ rfl
      have HX : Hid (xs[k]? = some (m0, m1) ∧ ys[k]? = some (p0, p1)) := ⟨hx, hy⟩
      have hq1 : b1 < wr.heap.size := Nat.lt_of_lt_of_le hb1 hbel.size
      have hq2 : b2 < wr.heap.size := Nat.lt_of_lt_of_le hb2 hbel.size
      have k0 : (0 : Int) ≤ (k : Int) := by omega
      have k1 : (k : Int) < (n : Int) := by omega
      have HB : Hid (Below w.heap.size w wr) := hbel
      clear hx hy hbel
      cases hd : eqB (m0, m1) (p0, p1)
      · go_wp2_with fail
        refine wp_region_after (by kernel_rfl) (by kernel_rfl) ?_
        intro hne hac
        repeat (go_big_quiet_step (first | (go_at_call 26; exact after_at (x := eqB (m0, m1) (p0, p1)) (y := false) hd (eqSeg m0 m1 p0 p1 _))))
        refine wpQuiet_nil ?_
        rintro _ ⟨p, rfl⟩
        have hbq := HB.out.trans (p.bel.mono HB.out.size)
        generalize p.w = wq at *
        clear hac hne
        go_wp2_with fail
        go_ret
        refine ⟨?_, hbq⟩
        have : eqB xs ys = false := by
          rw [eqB_false] at hd ⊢
          intro h
          apply hd
          have h3 := HX.out.1
          rw [h, HX.out.2] at h3
          simpa using h3.symm
        rw [this]; rfl
      · go_wp2_with fail
        refine wp_region_after (by kernel_rfl) (by kernel_rfl) ?_
        intro hne hac
        repeat (go_big_quiet_step (first | (go_at_call 26; exact after_at (x := eqB (m0, m1) (p0, p1)) (y := true) hd (eqSeg m0 m1 p0 p1 _))))
        refine wpQuiet_nil ?_
        rintro _ ⟨p, rfl⟩
        have hbq := HB.out.trans (p.bel.mono HB.out.size)
        have HB2 : Hid (Below w.heap.size w p.w) := hbq
        clear hac hne hbq
        generalize p.w = wq at *
        go_wp2_with fail
        go_roundw
        case rel =>
          refine ⟨k + 1, by omega, by go_num, HB2.out, fun j hj => ?_⟩
          rcases Nat.lt_succ_iff_lt_or_eq.1 hj with h | rfl
          · exact HQ.out j h
          · rw [HX.out.1, HX.out.2, eqB_true.1 hd]
        case measure => simp [intOf]; omega
    · have hkn : k = n := by omega
      subst hkn
      go_wp2_with fail
      go_ret
      refine ⟨?_, hbel⟩
      have : xs = ys := by
        apply List.ext_getElem?
        intro j
        by_cases hj : j < k
        · exact HQ.out j hj
        · rw [List.getElem?_eq_none (by have := HN.out; omega), List.getElem?_eq_none (by have := HN.out; omega)]
      rw [eqB_true.2 this]; rfl
set_option maxHeartbeats 400000 in
theorem eqSegS_len (a1 a2 : Option Addr) (n1 c1 n2 c2 : Nat) (w : World) (h1 : n1 ≤ 1048576) (h2 : n2 ≤ 1048576) (hne : n1 ≠ n2) :
    Calls Tryz.prog 9 #[.slice a1 n1 c1, .slice a2 n2 c2] w fun e w' => e = .returned (.bool false) ∧ w' = w := by
  have hd : ((n1 : Int) != (n2 : Int)) = true := by rw [bne_iff_ne]; omega
  clear hne
  go_enter Tryz.func9, Tryz.ntmps9
  go_wp2
  go_ret
  exact ⟨rfl, rfl⟩
set_option maxHeartbeats 400000 in
theorem eqSegS_empty (a1 a2 : Option Addr) (c1 c2 : Nat) (w : World) :
    Calls Tryz.prog 9 #[.slice a1 0 c1, .slice a2 0 c2] w fun e w' => e = .returned (.bool true) ∧ w' = w := by
  go_enter Tryz.func9, Tryz.ntmps9
  go_wp2
  refine wp_loop_rounds 1 ?_
  rw [rounds_succ]
  go_wp2
  go_ret
  exact ⟨rfl, rfl⟩
theorem eqSegS (v1 v2 : Value) (xs ys : List (Int × List UInt8)) (w : World) (h1 : RowAt 2 encSeg w v1 xs) (h2 : RowAt 2 encSeg w v2 ys) (hb1 : xs.length ≤ 1048576) (hb2 : ys.length ≤ 1048576) :
    Calls Tryz.prog 9 #[v1, v2] w fun e w' => e = .returned (.bool (eqB xs ys)) ∧ Below w.heap.size w w' := by
  by_cases hl : xs.length = ys.length
  · rcases h1 with ⟨rfl, a1, c1, rfl⟩ | ⟨p1, b1, o1, c1, rfl, l1, e1⟩
    · have hm : ys = [] := List.length_eq_zero_iff.1 (by simpa using hl.symm)
      subst hm
      obtain ⟨a2, c2, rfl⟩ := h2.len
      exact (eqSegS_empty a1 a2 c1 c2 w).mono (fun e w' h => ⟨by rw [h.1, eqB_true.2 rfl], by rw [h.2]; exact Below.refl _ _⟩)
    · rcases h2 with ⟨rfl, a2, c2, rfl⟩ | ⟨p2, b2, o2, c2, rfl, l2, e2⟩
      · simp at hl; subst hl; simp at p1
      · rw [← hl]
        exact eqSegS_some b1 o1 c1 b2 o2 c2 xs ys w hl hb1 l1 l2 e1 e2
  · have hf : eqB xs ys = false := by rw [eqB_false]; intro h; exact hl (by rw [h])
    rw [hf]
    obtain ⟨a1, c1, rfl⟩ := h1.len
    obtain ⟨a2, c2, rfl⟩ := h2.len
    exact (eqSegS_len a1 a2 _ c1 _ c2 w hb1 hb2 hl).mono (fun e w' h => ⟨h.1, by rw [h.2]; exact Below.refl _ _⟩)
set_option maxHeartbeats 400000 in
theorem toSegS_empty (a1 : Option Addr) (c1 : Nat) (w : World) :
    Calls Tryz.prog 16 #[.slice a1 0 c1] w fun e w' => ∃ v', e = .returned v' ∧ w'.ownsRow w.heap.size 52 2 v' 0 [] ∧ Below w.heap.size w w' := by
  have hmk : ∀ w, (Instr.makeSlice 27 (.int .i64 0) (.int .i64 0)).run Tryz.prog w = .ok (.slice (some ⟨w.heap.size, 0, none⟩) 0 0) (w.alloc (.cells (madeCells #[.int .i64 0, .string ⟨#[]⟩] (0 * 2)) 52)) := makeSegS 0 (by omega)
  go_enter Tryz.func16, Tryz.ntmps16
  go_wp2
  refine wp_loop_rounds 1 ?_
  rw [rounds_succ]
  go_wp2
  go_ret
  exact ⟨_, rfl, ⟨rfl, .inr ⟨w.heap.size, 0, _, rfl, Nat.le_refl _, new_block _ _, Nat.le_refl _, by unfold maxLen; omega, by simp [size_madeCells], by simp⟩⟩, (Below.refl _ _).alloc (Nat.le_refl _) _⟩
theorem toSegS (v : Value) (xs : List (Int × List UInt8)) (w : World) (h : RowAt 2 encSeg w v xs) (hl : xs.length ≤ 1048576) :
    Calls Tryz.prog 16 #[v] w fun e w' => ∃ v', e = .returned v' ∧ w'.ownsRow w.heap.size 52 2 v' xs.length (xs.flatMap encSeg) ∧ Below w.heap.size w w' := by
  rcases h with ⟨rfl, a1, c1, rfl⟩ | ⟨p1, b1, o1, c1, rfl, l1, e1⟩
  · exact toSegS_empty a1 c1 w
  · exact toSegS_some b1 o1 c1 xs w hl l1 e1
set_option maxHeartbeats 400000 in
theorem szSeg (l : Int) (n : List UInt8) (left : Int) (w : World) (h0 : 0 ≤ left) (h1 : left ≤ 1048576) (hn : n.length ≤ 9223372036854775807) :
    Calls Tryz.prog 32 #[.agg #[.int .i64 l, .string ⟨n.toArray⟩], .int .i64 left] w fun e w' => e = .returned (.int .i64 (if (n.length : Int) ≤ left then left - n.length else -1)) ∧ Below w.heap.size w w' := by
  have hz : (ByteArray.mk n.toArray).size = n.length := by simp [ByteArray.size]
  by_cases h : (n.length : Int) ≤ left
  · rw [if_pos h]
    go_enter Tryz.func32, Tryz.ntmps32
    go_wp2
    go_ret
    exact ⟨rfl, by go_grown⟩
  · rw [if_neg h]
    go_enter Tryz.func32, Tryz.ntmps32
    go_wp2
    go_ret
    exact ⟨rfl, by go_grown⟩
theorem szSegS_none (a : Option Addr) (n cap : Nat) (left : Int) (w : World) (h0 : 0 ≤ left) (h1 : left ≤ 1048576) (hn : n ≤ 9223372036854775807) (hx : left < n) :
    Calls Tryz.prog 14 #[.slice a n cap, .int .i64 left] w fun e w' => e = .returned (.int .i64 (-1)) ∧ w' = w := by
  go_enter Tryz.func14, Tryz.ntmps14
  go_wp2
  go_ret
  exact ⟨rfl, rfl⟩
set_option maxHeartbeats 400000 in
theorem szSegS_zero (a : Option Addr) (cap : Nat) (left : Int) (w : World) (h0 : 0 ≤ left) (h1 : left ≤ 1048576) :
    Calls Tryz.prog 14 #[.slice a 0 cap, .int .i64 left] w fun e w' => e = .returned (.int .i64 left) ∧ w' = w := by
  go_enter Tryz.func14, Tryz.ntmps14
  go_wp2
  refine wp_loop_rounds 1 ?_
  rw [rounds_succ]
  go_wp2
  go_ret
  exact ⟨rfl, rfl⟩
set_option maxHeartbeats 2000000 in
theorem szSegS_some (b off cap : Nat) (xs : List (Int × List UInt8)) (left : Int) (w : World) (h0 : 0 ≤ left) (h1 : left ≤ 1048576) (hl : (xs.length : Int) ≤ left) (hb : b < w.heap.size) (hsm : ∀ x ∈ xs, x.2.length ≤ 9223372036854775807)
    (hc : ∀ j x, xs[j]? = some x → ∀ i u, (encSeg x)[i]? = some u → w.cell? ⟨b, off + j * 2 + i, none⟩ = some u) :
    Calls Tryz.prog 14 #[.slice (some ⟨b, off, none⟩) xs.length cap, .int .i64 left] w fun e w' => (∃ r : Int, e = .returned (.int .i64 r) ∧ -1 ≤ r ∧ r ≤ left - xs.length ∧ (0 ≤ r → ∀ x ∈ xs, x.2.length ≤ 1048576)) ∧ Below w.heap.size w w' := by
  have HC : Hid (∀ j x, xs[j]? = some x → ∀ i u, (encSeg x)[i]? = some u → w.cell? ⟨b, off + j * 2 + i, none⟩ = some u) := hc
  have HM : Hid (∀ x ∈ xs, x.2.length ≤ 9223372036854775807) := hsm
  clear hc hsm
  obtain ⟨n, hn⟩ : ∃ n, n = xs.length := ⟨_, rfl⟩
  have HN : Hid (n = xs.length) := hn
  rw [← hn] at hl ⊢
  clear hn
  go_enter Tryz.func14, Tryz.ntmps14
  go_wp2_with fail
  go_loopw [1, 5] (fun l i wr => ∃ k : Nat, ∃ r : Int, k ≤ n ∧ i = .int .i64 k ∧ l = .int .i64 r ∧ 0 ≤ r ∧ r ≤ left - n ∧ Below w.heap.size w wr ∧ ∀ j x, j < k → xs[j]? = some x → x.2.length ≤ 1048576) (fun _ i _ => n - (intOf i).toNat)
  case atStart => exact ⟨0, left - n, by omega, rfl, rfl, by omega, by omega, Below.refl _ _, fun j x hj => by omega⟩
  case round =>
    obtain ⟨k, r, hk, rfl, rfl, hr0, hr1, hbel, hq⟩ := hrel
    have HQ : Hid (∀ j x, j < k → xs[j]? = some x → x.2.length ≤ 1048576) := hq
    clear hq
    by_cases hlt : k < n
    · obtain ⟨⟨m0, m1⟩, hx⟩ : ∃ x, xs[k]? = some x := ⟨_, List.getElem?_eq_getElem (by rw [← HN.out]; exact hlt)⟩
      have e0 : wr.cell? ⟨b, off + k * 2, none⟩ = some (.int .i64 m0) := by rw [hbel.cell (p := ⟨b, off + k * 2, none⟩) hb]; exact HC.out k _ hx 0 _ rfl
      have e1 : wr.cell? ⟨b, off + k * 2 + 1, none⟩ = some (.string ⟨m1.toArray⟩) := by rw [hbel.cell (p := ⟨b, off + k * 2 + 1, none⟩) hb]; exact HC.out k _ hx 1 _ rfl
      have HX : Hid (xs[k]? = some (m0, m1)) := hx
      have HL : Hid (m1.length ≤ 9223372036854775807) := HM.out _ (List.mem_of_getElem? hx)
      have HB : Hid (Below w.heap.size w wr) := hbel
      have k0 : (0 : Int) ≤ (k : Int) := by omega
      have k1 : (k : Int) < (n : Int) := by omega
      clear hx hbel
      by_cases hs : (m1.length : Int) ≤ r
      · go_wp2_with fail
        refine (szSeg m0 m1 r _ hr0 (by omega) HL.out).mono ?_
        rintro e w1 ⟨rfl, b1⟩
        rw [if_pos hs]
        have HB1 : Hid (Below w.heap.size w w1) := HB.out.trans (b1.mono HB.out.size)
        have r2 : 0 ≤ r - m1.length := by omega
        clear b1 HB
        go_wp2_with fail
        go_roundw
        case rel =>
          refine ⟨k + 1, r - m1.length, by omega, by go_num, rfl, by omega, by omega, HB1.out, fun j x hj hxj => ?_⟩
          rcases Nat.lt_succ_iff_lt_or_eq.1 hj with h | rfl
          · exact HQ.out j x h hxj
          · rw [HX.out] at hxj; cases hxj; simp only; omega
        case measure => simp [intOf]; omega
      · go_wp2_with fail
        refine (szSeg m0 m1 r _ hr0 (by omega) HL.out).mono ?_
        rintro e w1 ⟨rfl, b1⟩
        rw [if_neg (by omega)]
        have HB1 : Hid (Below w.heap.size w w1) := HB.out.trans (b1.mono HB.out.size)
        clear b1 HB
        go_wp2_with fail
        go_ret
        exact ⟨⟨-1, rfl, by omega, by omega, fun h => by omega⟩, HB1.out⟩
    · have hkn : k = n := by omega
      subst hkn
      go_wp2_with fail
      go_ret
      refine ⟨⟨r, rfl, by omega, hr1, fun _ x hx => ?_⟩, hbel⟩
      obtain ⟨j, hj⟩ := List.getElem?_of_mem hx
      exact HQ.out j x (by rw [HN.out]; exact (List.getElem?_eq_some_iff.1 hj).1) hj
theorem szSegS (v : Value) (xs : List (Int × List UInt8)) (left : Int) (w : World) (h : RowAt 2 encSeg w v xs) (h0 : 0 ≤ left) (h1 : left ≤ 1048576) (hn : xs.length ≤ 9223372036854775807) (hsm : ∀ x ∈ xs, x.2.length ≤ 9223372036854775807) :
    Calls Tryz.prog 14 #[v, .int .i64 left] w fun e w' => (∃ r : Int, e = .returned (.int .i64 r) ∧ -1 ≤ r ∧ r ≤ left ∧ (0 ≤ r → (xs.length : Int) + r ≤ left ∧ ∀ x ∈ xs, x.2.length ≤ 1048576)) ∧ Below w.heap.size w w' := by
  obtain ⟨a, cap, hv⟩ := h.len
  by_cases hl : left < (xs.length : Int)
  · subst hv
    exact (szSegS_none a _ cap left w h0 h1 hn hl).mono (fun e w' h => ⟨⟨-1, h.1, by omega, by omega, fun h => by omega⟩, by rw [h.2]; exact Below.refl _ _⟩)
  · rcases h with ⟨rfl, a1, c1, rfl⟩ | ⟨p1, b1, o1, c1, rfl, l1, e1⟩
    · exact (szSegS_zero a1 c1 left w h0 h1).mono (fun e w' h => ⟨⟨left, h.1, by omega, by omega, fun _ => ⟨by simp, by simp⟩⟩, by rw [h.2]; exact Below.refl _ _⟩)
    · exact (szSegS_some b1 o1 c1 xs left w h0 h1 (by omega) l1 hsm e1).mono (fun e w' ⟨⟨r, h1, h2, h3, h4⟩, hb⟩ => ⟨⟨r, h1, h2, by omega, fun hr => ⟨by omega, h4 hr⟩⟩, hb⟩)
set_option maxHeartbeats 4000000 in
theorem equalSegS_some (b1 o1 c1 b2 o2 c2 : Nat) (xs ys : List (Int × List UInt8)) (w : World) (hlen : xs.length = ys.length) (hl : xs.length ≤ 1048576) (hb1 : b1 < w.heap.size) (hb2 : b2 < w.heap.size)
    (h1 : ∀ j x, xs[j]? = some x → ∀ i u, (encSeg x)[i]? = some u → w.cell? ⟨b1, o1 + j * 2 + i, none⟩ = some u) (h2 : ∀ j x, ys[j]? = some x → ∀ i u, (encSeg x)[i]? = some u → w.cell? ⟨b2, o2 + j * 2 + i, none⟩ = some u) :
    Calls Tryz.prog 66 #[.slice (some ⟨b1, o1, none⟩) xs.length c1, .slice (some ⟨b2, o2, none⟩) xs.length c2] w fun e w' => e = .returned (.bool (eqB xs ys)) ∧ Below w.heap.size w w' := by
  have H1 : Hid (∀ j x, xs[j]? = some x → ∀ i u, (encSeg x)[i]? = some u → w.cell? ⟨b1, o1 + j * 2 + i, none⟩ = some u) := h1
  have H2 : Hid (∀ j x, ys[j]? = some x → ∀ i u, (encSeg x)[i]? = some u → w.cell? ⟨b2, o2 + j * 2 + i, none⟩ = some u) := h2
  clear h1 h2
  obtain ⟨n, hn⟩ : ∃ n, n = xs.length := ⟨_, rfl⟩
  have HN : Hid (n = xs.length ∧ n = ys.length) := ⟨hn, by omega⟩
  rw [← hn] at hl ⊢
  clear hn hlen
  go_enter Tryz.func66, Tryz.ntmps66
  go_wp2_with fail
  go_loopw [13] (fun i wr => ∃ k : Nat, k ≤ n ∧ i = .int .i64 k ∧ Below w.heap.size w wr ∧ ∀ j, j < k → xs[j]? = ys[j]?) (fun i _ => n - (intOf i).toNat)
  case atStart => exact ⟨0, by omega, rfl, Below.refl _ _, fun j hj => by omega⟩
  case round =>
    obtain ⟨k, hk, rfl, hbel, hq⟩ := hrel
    have HQ : Hid (∀ j, j < k → xs[j]? = ys[j]?) := hq
    clear hq
    by_cases hlt : k < n
    · obtain ⟨⟨m0, m1⟩, hx⟩ : ∃ x, xs[k]? = some x := ⟨_, List.getElem?_eq_getElem (by rw [← HN.out.1]; exact hlt)⟩
      obtain ⟨⟨p0, p1⟩, hy⟩ : ∃ x, ys[k]? = some x := ⟨_, List.getElem?_eq_getElem (by rw [← HN.out.2]; exact hlt)⟩
      have e0 : wr.cell? ⟨b1, o1 + k * 2, none⟩ = some (.int .i64 m0) := by rw [hbel.cell (p := ⟨b1, _, none⟩) hb1]; exact H1.out k _ hx 0 _ rfl
      have e1 : wr.cell? ⟨b1, o1 + k * 2 + 1, none⟩ = some (.string ⟨m1.toArray⟩) := by rw [hbel.cell (p := ⟨b1, _, none⟩) hb1]; exact H1.out k _ hx 1 _ rfl
      have f0 : wr.cell? ⟨b2, o2 + k * 2, none⟩ = some (.int .i64 p0) := by rw [hbel.cell (p := ⟨b2, _, none⟩) hb2]; exact H2.out k _ hy 0 _ rfl
      have f1 : wr.cell? ⟨b2, o2 + k * 2 + 1, none⟩ = some (.string ⟨p1.toArray⟩) := by rw [hbel.cell (p := ⟨b2, _, none⟩) hb2]; exact H2.out k _ hy 1 _ rfl
      have HX : Hid (xs[k]? = some (m0, m1) ∧ ys[k]? = some (p0, p1)) := ⟨hx, hy⟩
      have hq1 : b1 < wr.heap.size := Nat.lt_of_lt_of_le hb1 hbel.size
      have hq2 : b2 < wr.heap.size := Nat.lt_of_lt_of_le hb2 hbel.size
      have k0 : (0 : Int) ≤ (k : Int) := by omega
      have k1 : (k : Int) < (n : Int) := by omega
      have HB : Hid (Below w.heap.size w wr) := hbel
      clear hx hy hbel
      by_cases h0 : m0 = p0
      · subst h0
        by_cases h1 : m1 = p1
        · subst h1
          go_wp2_with fail
          refine wp_region_after (by kernel_rfl) (by kernel_rfl) ?_
          intro hne hac
          repeat (go_big_quiet_step (fail))
          refine wpQuiet_nil ?_
          rintro _ ⟨p, rfl⟩
          have hbq : Hid (Below w.heap.size w p.w) := HB.out.trans (p.bel.mono HB.out.size)
          clear hac hne
          generalize p.w = wq at *
          go_wp2_with fail
          go_roundw
          case rel =>
            refine ⟨k + 1, by omega, by go_num, hbq.out, fun j hj => ?_⟩
            rcases Nat.lt_succ_iff_lt_or_eq.1 hj with h | rfl
            · exact HQ.out j h
            · rw [HX.out.1, HX.out.2]
          case measure => simp [intOf]; omega
        · have HD : Hid (¬ m1 = p1) := h1
          have d1 : (m1 == p1) = false := beq_eq_false_iff_ne.2 h1
          have t1 : (m1 != p1) = true := by simpa using h1
          have u1 : decide (m1 = p1) = false := by simpa using h1
          clear h1
          go_wp2_with fail
          refine wp_region_after (by kernel_rfl) (by kernel_rfl) ?_
          intro hne hac
          repeat (go_big_quiet_step (fail))
          refine wpQuiet_nil ?_
          rintro _ ⟨p, rfl⟩
          have hbq : Hid (Below w.heap.size w p.w) := HB.out.trans (p.bel.mono HB.out.size)
          clear hac hne
          generalize p.w = wq at *
          go_wp2_with fail
          go_ret
          refine ⟨?_, hbq.out⟩
          have : eqB xs ys = false := by
            rw [eqB_false]
            intro h
            have h3 := HX.out.1
            rw [h, HX.out.2] at h3
            simp at h3
            exact HD.out (by simp [h3])
          rw [this]; rfl
      · have HD : Hid (¬ m0 = p0) := h0
        have d0 : (m0 == p0) = false := beq_eq_false_iff_ne.2 h0
        have t0 : (m0 != p0) = true := by simpa using h0
        have u0 : decide (m0 = p0) = false := by simpa using h0
        clear h0
        go_wp2_with fail
        refine wp_region_after (by kernel_rfl) (by kernel_rfl) ?_
        intro hne hac
        repeat (go_big_quiet_step (fail))
        refine wpQuiet_nil ?_
        rintro _ ⟨p, rfl⟩
        have hbq : Hid (Below w.heap.size w p.w) := HB.out.trans (p.bel.mono HB.out.size)
        clear hac hne
        generalize p.w = wq at *
        go_wp2_with fail
        go_ret
        refine ⟨?_, hbq.out⟩
        have : eqB xs ys = false := by
          rw [eqB_false]
          intro h
          have h3 := HX.out.1
          rw [h, HX.out.2] at h3
          simp at h3
          exact HD.out (by simp [h3])
        rw [this]; rfl
    · have hkn : k = n := by omega
      subst hkn
      go_wp2_with fail
      go_ret
      refine ⟨?_, hbel⟩
      have : xs = ys := by
        apply List.ext_getElem?
        intro j
        by_cases hj : j < k
        · exact HQ.out j hj
        · rw [List.getElem?_eq_none (by have := HN.out; omega), List.getElem?_eq_none (by have := HN.out; omega)]
      rw [eqB_true.2 this]; rfl
set_option maxHeartbeats 400000 in
theorem equalSegS_len (a1 a2 : Option Addr) (n1 c1 n2 c2 : Nat) (w : World) (h1 : n1 ≤ 1048576) (h2 : n2 ≤ 1048576) (hne : n1 ≠ n2) :
    Calls Tryz.prog 66 #[.slice a1 n1 c1, .slice a2 n2 c2] w fun e w' => e = .returned (.bool false) ∧ w' = w := by
  have hd : ((n1 : Int) != (n2 : Int)) = true := by rw [bne_iff_ne]; omega
  clear hne
  go_enter Tryz.func66, Tryz.ntmps66
  go_wp2
  go_ret
  exact ⟨rfl, rfl⟩
set_option maxHeartbeats 400000 in
theorem equalSegS_empty (a1 a2 : Option Addr) (c1 c2 : Nat) (w : World) :
    Calls Tryz.prog 66 #[.slice a1 0 c1, .slice a2 0 c2] w fun e w' => e = .returned (.bool true) ∧ w' = w := by
  go_enter Tryz.func66, Tryz.ntmps66
  go_wp2
  refine wp_loop_rounds 1 ?_
  rw [rounds_succ]
  go_wp2
  go_ret
  exact ⟨rfl, rfl⟩
theorem equalSegS (v1 v2 : Value) (xs ys : List (Int × List UInt8)) (w : World) (h1 : RowAt 2 encSeg w v1 xs) (h2 : RowAt 2 encSeg w v2 ys) (hb1 : xs.length ≤ 1048576) (hb2 : ys.length ≤ 1048576) :
    Calls Tryz.prog 66 #[v1, v2] w fun e w' => e = .returned (.bool (eqB xs ys)) ∧ Below w.heap.size w w' := by
  by_cases hl : xs.length = ys.length
  · rcases h1 with ⟨rfl, a1, c1, rfl⟩ | ⟨p1, b1, o1, c1, rfl, l1, e1⟩
    · have hm : ys = [] := List.length_eq_zero_iff.1 (by simpa using hl.symm)
      subst hm
      obtain ⟨a2, c2, rfl⟩ := h2.len
      exact (equalSegS_empty a1 a2 c1 c2 w).mono (fun e w' h => ⟨by rw [h.1, eqB_true.2 rfl], by rw [h.2]; exact Below.refl _ _⟩)
    · rcases h2 with ⟨rfl, a2, c2, rfl⟩ | ⟨p2, b2, o2, c2, rfl, l2, e2⟩
      · simp at hl; subst hl; simp at p1
      · rw [← hl]
        exact equalSegS_some b1 o1 c1 b2 o2 c2 xs ys w hl hb1 l1 l2 e1 e2
  · have hf : eqB xs ys = false := by rw [eqB_false]; intro h; exact hl (by rw [h])
    rw [hf]
    obtain ⟨a1, c1, rfl⟩ := h1.len
    obtain ⟨a2, c2, rfl⟩ := h2.len
    exact (equalSegS_len a1 a2 _ c1 _ c2 w hb1 hb2 hl).mono (fun e w' h => ⟨h.1, by rw [h.2]; exact Below.refl _ _⟩)
set_option maxHeartbeats 4000000 in
theorem specStoreSame_some (b1 o1 c1 b2 o2 c2 : Nat) (xs ys : List (Int × List UInt8)) (w : World) (hlen : xs.length = ys.length) (hl : xs.length ≤ 1048576) (hb1 : b1 < w.heap.size) (hb2 : b2 < w.heap.size)
    (h1 : ∀ j x, xs[j]? = some x → ∀ i u, (encSeg x)[i]? = some u → w.cell? ⟨b1, o1 + j * 2 + i, none⟩ = some u) (h2 : ∀ j x, ys[j]? = some x → ∀ i u, (encSeg x)[i]? = some u → w.cell? ⟨b2, o2 + j * 2 + i, none⟩ = some u) :
    Calls Tryz.prog 34 #[.slice (some ⟨b1, o1, none⟩) xs.length c1, .slice (some ⟨b2, o2, none⟩) xs.length c2] w fun e w' => e = .returned (.bool (eqB xs ys)) ∧ Below w.heap.size w w' := by
  have H1 : Hid (∀ j x, xs[j]? = some x → ∀ i u, (encSeg x)[i]? = some u → w.cell? ⟨b1, o1 + j * 2 + i, none⟩ = some u) := h1
  have H2 : Hid (∀ j x, ys[j]? = some x → ∀ i u, (encSeg x)[i]? = some u → w.cell? ⟨b2, o2 + j * 2 + i, none⟩ = some u) := h2
  clear h1 h2
  obtain ⟨n, hn⟩ : ∃ n, n = xs.length := ⟨_, rfl⟩
  have HN : Hid (n = xs.length ∧ n = ys.length) := ⟨hn, by omega⟩
  rw [← hn] at hl ⊢
  clear hn hlen
  go_enter Tryz.func34, Tryz.ntmps34
  go_wp2_with fail
  go_loopw [5] (fun i wr => ∃ k : Nat, k ≤ n ∧ i = .int .i64 k ∧ Below w.heap.size w wr ∧ ∀ j, j < k → xs[j]? = ys[j]?) (fun i _ => n - (intOf i).toNat)
  case atStart => exact ⟨0, by omega, rfl, Below.refl _ _, fun j hj => by omega⟩
  case round =>
    obtain ⟨k, hk, rfl, hbel, hq⟩ := hrel
    have HQ : Hid (∀ j, j < k → xs[j]? = ys[j]?) := hq
    clear hq
    by_cases hlt : k < n
    · obtain ⟨⟨m0, m1⟩, hx⟩ : ∃ x, xs[k]? = some x := ⟨_, List.getElem?_eq_getElem (by rw [← HN.out.1]; exact hlt)⟩
      obtain ⟨⟨p0, p1⟩, hy⟩ : ∃ x, ys[k]? = some x := ⟨_, List.getElem?_eq_getElem (by rw [← HN.out.2]; exact hlt)⟩
      have e0 : wr.cell? ⟨b1, o1 + k * 2, none⟩ = some (.int .i64 m0) := by rw [hbel.cell (p := ⟨b1, _, none⟩) hb1]; exact H1.out k _ hx 0 _ rfl
      have e1 : wr.cell? ⟨b1, o1 + k * 2 + 1, none⟩ = some (.string ⟨m1.toArray⟩) := by rw [hbel.cell (p := ⟨b1, _, none⟩) hb1]; exact H1.out k _ hx 1 _ rfl
      have f0 : wr.cell? ⟨b2, o2 + k * 2, none⟩ = some (.int .i64 p0) := by rw [hbel.cell (p := ⟨b2, _, none⟩) hb2]; exact H2.out k _ hy 0 _ rfl
      have f1 : wr.cell? ⟨b2, o2 + k * 2 + 1, none⟩ = some (.string ⟨p1.toArray⟩) := by rw [hbel.cell (p := ⟨b2, _, none⟩) hb2]; exact H2.out k _ hy 1 _ rfl
      have HX : Hid (xs[k]? = some (m0, m1) ∧ ys[k]? = some (p0, p1)) := ⟨hx, hy⟩
      have hq1 : b1 < wr.heap.size := Nat.lt_of_lt_of_le hb1 hbel.size
      have hq2 : b2 < wr.heap.size := Nat.lt_of_lt_of_le hb2 hbel.size
      have k0 : (0 : Int) ≤ (k : Int) := by omega
      have k1 : (k : Int) < (n : Int) := by omega
      have HB : Hid (Below w.heap.size w wr) := hbel
      clear hx hy hbel
      by_cases h0 : m0 = p0
      · subst h0
        by_cases h1 : m1 = p1
        · subst h1
          go_wp2_with fail
          refine wp_region_after (by kernel_rfl) (by kernel_rfl) ?_
          intro hne hac
          repeat (go_big_quiet_step (fail))
          refine wpQuiet_nil ?_
          rintro _ ⟨p, rfl⟩
          have hbq : Hid (Below w.heap.size w p.w) := HB.out.trans (p.bel.mono HB.out.size)
          clear hac hne
          generalize p.w = wq at *
          go_wp2_with fail
          go_roundw
          case rel =>
            refine ⟨k + 1, by omega, by go_num, hbq.out, fun j hj => ?_⟩
            rcases Nat.lt_succ_iff_lt_or_eq.1 hj with h | rfl
            · exact HQ.out j h
            · rw [HX.out.1, HX.out.2]
          case measure => simp [intOf]; omega
        · have HD : Hid (¬ m1 = p1) := h1
          have d1 : (m1 == p1) = false := beq_eq_false_iff_ne.2 h1
          have t1 : (m1 != p1) = true := by simpa using h1
          have u1 : decide (m1 = p1) = false := by simpa using h1
          clear h1
          go_wp2_with fail
          refine wp_region_after (by kernel_rfl) (by kernel_rfl) ?_
          intro hne hac
          repeat (go_big_quiet_step (fail))
          refine wpQuiet_nil ?_
          rintro _ ⟨p, rfl⟩
          have hbq : Hid (Below w.heap.size w p.w) := HB.out.trans (p.bel.mono HB.out.size)
          clear hac hne
          generalize p.w = wq at *
          go_wp2_with fail
          go_ret
          refine ⟨?_, hbq.out⟩
          have : eqB xs ys = false := by
            rw [eqB_false]
            intro h
            have h3 := HX.out.1
            rw [h, HX.out.2] at h3
            simp at h3
            exact HD.out (by simp [h3])
          rw [this]; rfl
      · have HD : Hid (¬ m0 = p0) := h0
        have d0 : (m0 == p0) = false := beq_eq_false_iff_ne.2 h0
        have t0 : (m0 != p0) = true := by simpa using h0
        have u0 : decide (m0 = p0) = false := by simpa using h0
        clear h0
        go_wp2_with fail
        refine wp_region_after (by kernel_rfl) (by kernel_rfl) ?_
        intro hne hac
        repeat (go_big_quiet_step (fail))
        refine wpQuiet_nil ?_
        rintro _ ⟨p, rfl⟩
        have hbq : Hid (Below w.heap.size w p.w) := HB.out.trans (p.bel.mono HB.out.size)
        clear hac hne
        generalize p.w = wq at *
        go_wp2_with fail
        go_ret
        refine ⟨?_, hbq.out⟩
        have : eqB xs ys = false := by
          rw [eqB_false]
          intro h
          have h3 := HX.out.1
          rw [h, HX.out.2] at h3
          simp at h3
          exact HD.out (by simp [h3])
        rw [this]; rfl
    · have hkn : k = n := by omega
      subst hkn
      go_wp2_with fail
      go_ret
      refine ⟨?_, hbel⟩
      have : xs = ys := by
        apply List.ext_getElem?
        intro j
        by_cases hj : j < k
        · exact HQ.out j hj
        · rw [List.getElem?_eq_none (by have := HN.out; omega), List.getElem?_eq_none (by have := HN.out; omega)]
      rw [eqB_true.2 this]; rfl
set_option maxHeartbeats 400000 in
theorem specStoreSame_len (a1 a2 : Option Addr) (n1 c1 n2 c2 : Nat) (w : World) (h1 : n1 ≤ 1048576) (h2 : n2 ≤ 1048576) (hne : n1 ≠ n2) :
    Calls Tryz.prog 34 #[.slice a1 n1 c1, .slice a2 n2 c2] w fun e w' => e = .returned (.bool false) ∧ w' = w := by
  have hd : ((n1 : Int) != (n2 : Int)) = true := by rw [bne_iff_ne]; omega
  clear hne
  go_enter Tryz.func34, Tryz.ntmps34
  go_wp2
  go_ret
  exact ⟨rfl, rfl⟩
set_option maxHeartbeats 400000 in
theorem specStoreSame_empty (a1 a2 : Option Addr) (c1 c2 : Nat) (w : World) :
    Calls Tryz.prog 34 #[.slice a1 0 c1, .slice a2 0 c2] w fun e w' => e = .returned (.bool true) ∧ w' = w := by
  go_enter Tryz.func34, Tryz.ntmps34
  go_wp2
  refine wp_loop_rounds 1 ?_
  rw [rounds_succ]
  go_wp2
  go_ret
  exact ⟨rfl, rfl⟩
theorem specStoreSame (v1 v2 : Value) (xs ys : List (Int × List UInt8)) (w : World) (h1 : RowAt 2 encSeg w v1 xs) (h2 : RowAt 2 encSeg w v2 ys) (hb1 : xs.length ≤ 1048576) (hb2 : ys.length ≤ 1048576) :
    Calls Tryz.prog 34 #[v1, v2] w fun e w' => e = .returned (.bool (eqB xs ys)) ∧ Below w.heap.size w w' := by
  by_cases hl : xs.length = ys.length
  · rcases h1 with ⟨rfl, a1, c1, rfl⟩ | ⟨p1, b1, o1, c1, rfl, l1, e1⟩
    · have hm : ys = [] := List.length_eq_zero_iff.1 (by simpa using hl.symm)
      subst hm
      obtain ⟨a2, c2, rfl⟩ := h2.len
      exact (specStoreSame_empty a1 a2 c1 c2 w).mono (fun e w' h => ⟨by rw [h.1, eqB_true.2 rfl], by rw [h.2]; exact Below.refl _ _⟩)
    · rcases h2 with ⟨rfl, a2, c2, rfl⟩ | ⟨p2, b2, o2, c2, rfl, l2, e2⟩
      · simp at hl; subst hl; simp at p1
      · rw [← hl]
        exact specStoreSame_some b1 o1 c1 b2 o2 c2 xs ys w hl hb1 l1 l2 e1 e2
  · have hf : eqB xs ys = false := by rw [eqB_false]; intro h; exact hl (by rw [h])
    rw [hf]
    obtain ⟨a1, c1, rfl⟩ := h1.len
    obtain ⟨a2, c2, rfl⟩ := h2.len
    exact (specStoreSame_len a1 a2 _ c1 _ c2 w hb1 hb2 hl).mono (fun e w' h => ⟨h.1, by rw [h.2]; exact Below.refl _ _⟩)
theorem implStoreSame (v1 v2 : Value) (xs ys : List (Int × List UInt8)) (w : World) (h1 : RowAt 2 encSeg w v1 xs) (h2 : RowAt 2 encSeg w v2 ys) (hb1 : xs.length ≤ 1048576) (hb2 : ys.length ≤ 1048576) :
    Calls Tryz.prog 37 #[v1, v2] w fun e w' => e = .returned (.bool (eqB xs ys)) ∧ Below w.heap.size w w' := by
  go_enter Tryz.func37, Tryz.ntmps37
  go_wp2_with fail
  refine (equalSegS _ _ xs ys _ h1 h2 hb1 hb2).mono ?_
  rintro e w1 ⟨rfl, bel⟩
  go_wp2_with fail
  go_ret
  exact ⟨rfl, bel⟩
end Go.Proofs.YtlnpbfeihjfnjabGreatDoor.Lab

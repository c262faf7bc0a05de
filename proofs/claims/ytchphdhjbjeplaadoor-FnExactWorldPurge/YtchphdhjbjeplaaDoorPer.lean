/-
  People, and rows of people: PersonOk of both; the laws' own functions on them. (Written by tools/mkper.py.)
-/
import Derived.Test.YtchphdhjbjeplaaDoorRow
import Derived.Test.YtchphdhjbjeplaaDoorNod
import Derived.Test.YtchphdhjbjeplaaDoorGrw
namespace Go.Proofs.YtchphdhjbjeplaaDoor.Lab
open Go.RowKit
set_option linter.unusedVariables false
/-- Someone is right. -/
def personB (c s q : Int) : Bool := okB c && (decide (0 ≤ s) && (decide (s ≤ 12) && (decide (0 ≤ q) && decide (q ≤ 100))))
theorem personB_true {c s q : Int} (h : personB c s q = true) : okB c = true ∧ 0 ≤ s ∧ s ≤ 12 ∧ 0 ≤ q ∧ q ≤ 100 := by
  simp only [personB, Bool.and_eq_true, decide_eq_true_eq] at h; exact ⟨h.1, h.2.1, h.2.2.1, h.2.2.2.1, h.2.2.2.2⟩
set_option maxHeartbeats 400000 in
theorem toPerson (c s q : Int) (w : World) :
    Calls Tryd.prog 18 #[.agg #[.int .i64 c, .int .i64 s, .int .i64 q]] w fun e w' => e = .returned (.agg #[.int .i64 c, .int .i64 s, .int .i64 q]) ∧ Below w.heap.size w w' := by
  go_enter Tryd.func18, Tryd.ntmps18
  go_wp2
  refine bodyPost_ret (v := .agg #[.int .i64 c, .int .i64 s, .int .i64 q]) (by simp [*, results, Tryd.results18, go_sem]) rfl ?_
  exact ⟨rfl, by go_grown⟩
theorem dec_person (a b c a2 b2 c2 : Int) : eqB (a, b, c) (a2, b2, c2) = (decide (a = a2) && (decide (b = b2) && decide (c = c2))) := by
  rw [Bool.eq_iff_iff]; simp [eqB]
set_option maxHeartbeats 1000000 in
theorem eqPerson (a b c a2 b2 c2 : Int) (w : World) :
    Calls Tryd.prog 24 #[.agg #[.int .i64 a, .int .i64 b, .int .i64 c], .agg #[.int .i64 a2, .int .i64 b2, .int .i64 c2]] w fun e w' => e = .returned (.bool (eqB (a, b, c) (a2, b2, c2))) ∧ Below w.heap.size w w' := by
  rw [dec_person]
  by_cases h1 : a = a2
  · subst h1
    by_cases h2 : b = b2
    · subst h2
      by_cases h3 : c = c2
      · subst h3
        go_enter Tryd.func24, Tryd.ntmps24
        go_wp2
        go_ret
        exact ⟨by simp, by go_grown⟩
      · have h4 : (c != c2) = true := by simpa using h3
        have HH : Hid (¬ c = c2) := h3
        clear h3
        go_enter Tryd.func24, Tryd.ntmps24
        go_wp2
        go_ret
        exact ⟨by simp [HH.out], by go_grown⟩
    · have h4 : (b != b2) = true := by simpa using h2
      have HH : Hid (¬ b = b2) := h2
      clear h2
      go_enter Tryd.func24, Tryd.ntmps24
      go_wp2
      go_ret
      exact ⟨by simp [HH.out], by go_grown⟩
  · have h4 : (a != a2) = true := by simpa using h1
    have HH : Hid (¬ a = a2) := h1
    clear h1
    go_enter Tryd.func24, Tryd.ntmps24
    go_wp2
    go_ret
    exact ⟨by simp [HH.out], by go_grown⟩
def encPerson (x : Int × Int × Int) : List Value := [.int .i64 x.1, .int .i64 x.2.1, .int .i64 x.2.2]
theorem encPerson_len (x : Int × Int × Int) : (encPerson x).length = 3 := rfl
theorem Tryd.infoPerson : (Tryd.prog.info? 50).map (fun i => (i.zero, i.size, i.bytes)) = some (some (.agg #[.int .i64 0, .int .i64 0, .int .i64 0]), 3, 24) := by kernel_rfl
theorem makePersonS (n : Nat) (h : n ≤ 1048576) (w : World) : (Instr.makeSlice 28 (.int .i64 n) (.int .i64 n)).run Tryd.prog w = .ok (.slice (some ⟨w.heap.size, 0, none⟩) n n) (w.alloc (.cells (madeCells #[.int .i64 0, .int .i64 0, .int .i64 0] (n * 3)) 50)) := by
  obtain ⟨i0, hi, hz0, hz1, hz2⟩ := info_parts Tryd.infoPerson
  have := run_make (P := Tryd.prog) w 28 50 i0 _ Tryd.underlying28 hi hz0 .i64 .i64 n n (by omega) (by omega) (by rw [hz2]; omega) (by omega)
  rw [hz1] at this
  simpa [Value.cells] using this
/-- A row of which the first k elements have been laid. -/
def laidPerson (xs : List (Int × Int × Int)) (k n : Nat) (cur : Array Value) : Prop := cur.size = n * 3 ∧ ∀ j x, j < k → xs[j]? = some x → ∀ i u, (encPerson x)[i]? = some u → cur[j * 3 + i]? = some u
theorem laidPerson_step {xs : List (Int × Int × Int)} {k n : Nat} {cur : Array Value} {m0 m1 m2 : Int} (h : laidPerson xs k n cur) (hk : k < n) (hx : xs[k]? = some (m0, m1, m2)) : laidPerson xs (k + 1) n (((cur.setIfInBounds (k * 3) (.int .i64 m0)).setIfInBounds (k * 3 + 1) (.int .i64 m1)).setIfInBounds (k * 3 + 2) (.int .i64 m2)) := by
  obtain ⟨h1, h2⟩ := h
  refine ⟨by simp [h1], fun j x hj hxj i u hu => ?_⟩
  have hi : i < 3 := by
    obtain ⟨h3, _⟩ := List.getElem?_eq_some_iff.1 hu
    rw [encPerson_len] at h3; exact h3
  rcases Nat.lt_succ_iff_lt_or_eq.1 hj with hj | rfl
  · simp only [Array.getElem?_setIfInBounds]
    repeat rw [if_neg (by omega)]
    exact h2 j x hj hxj i u hu
  · rw [hx] at hxj
    cases hxj
    have : i = 0 ∨ i = 1 ∨ i = 2 := by omega
    rcases this with rfl | rfl | rfl <;> (simp [encPerson] at hu; subst hu; simp [Array.getElem?_setIfInBounds]; omega)
theorem laidPerson_all {xs : List (Int × Int × Int)} {cur : Array Value} (h : laidPerson xs xs.length xs.length cur) : cur.toList = xs.flatMap encPerson := by
  obtain ⟨h1, h2⟩ := h
  apply List.ext_getElem?
  intro m
  by_cases hm : m < xs.length * 3
  · have hj : m / 3 < xs.length := by omega
    have h3 := flat_get encPerson_len xs (m / 3) (m % 3) _ (List.getElem?_eq_getElem hj) (Nat.mod_lt _ (by omega))
    have hmm : m / 3 * 3 + m % 3 = m := by omega
    rw [hmm] at h3
    rw [h3]
    have hlen : m % 3 < (encPerson xs[m / 3]).length := by rw [encPerson_len]; exact Nat.mod_lt _ (by omega)
    have h4 := h2 (m / 3) _ hj (List.getElem?_eq_getElem hj) (m % 3) _ (List.getElem?_eq_getElem hlen)
    rw [hmm] at h4
    rw [List.getElem?_eq_getElem hlen]
    simpa using h4
  · rw [List.getElem?_eq_none (by simp; omega), List.getElem?_eq_none (by rw [flat_len encPerson_len]; omega)]
set_option maxHeartbeats 2000000 in
theorem toPersonS_some (b off cap : Nat) (xs : List (Int × Int × Int)) (w : World) (hl : xs.length ≤ 1048576) (hb : b < w.heap.size)
    (hc : ∀ j x, xs[j]? = some x → ∀ i u, (encPerson x)[i]? = some u → w.cell? ⟨b, off + j * 3 + i, none⟩ = some u) :
    Calls Tryd.prog 7 #[.slice (some ⟨b, off, none⟩) xs.length cap] w fun e w' => ∃ v', e = .returned v' ∧ w'.ownsRow w.heap.size 50 3 v' xs.length (xs.flatMap encPerson) ∧ Below w.heap.size w w' := by
  have HC : Hid (∀ j x, xs[j]? = some x → ∀ i u, (encPerson x)[i]? = some u → w.cell? ⟨b, off + j * 3 + i, none⟩ = some u) := hc
  clear hc
  obtain ⟨n, hn⟩ : ∃ n, n = xs.length := ⟨_, rfl⟩
  have HN : Hid (n = xs.length) := hn
  rw [← hn] at hl ⊢
  clear hn
  have hmk := makePersonS n hl
  go_enter Tryd.func7, Tryd.ntmps7
  go_wp2_with fail
  clear hmk
  go_loopw [4] (fun i wr => ∃ k : Nat, k ≤ n ∧ i = .int .i64 k ∧ Below w.heap.size w wr ∧ ∃ cur, wr.heap[w.heap.size]? = some (.cells cur 50 (0, 0)) ∧ laidPerson xs k n cur) (fun i _ => n - (intOf i).toNat)
  case atStart => exact ⟨0, by omega, rfl, (Below.refl _ _).alloc (Nat.le_refl _) _, _, new_block _ _, ⟨by simp [size_madeCells], fun j x hj => by omega⟩⟩
  case round =>
    obtain ⟨k, hk, rfl, hbel, cur, hblk, hlaid⟩ := hrel
    have hsz := hlaid.1
    by_cases hlt : k < n
    · obtain ⟨⟨m0, m1, m2⟩, hx⟩ : ∃ x, xs[k]? = some x := ⟨_, List.getElem?_eq_getElem (by rw [← HN.out]; exact hlt)⟩
      have e0 : wr.cell? ⟨b, off + k * 3, none⟩ = some (.int .i64 m0) := by rw [hbel.cell (p := ⟨b, off + k * 3, none⟩) hb]; exact HC.out k _ hx 0 _ rfl
      have e1 : wr.cell? ⟨b, off + k * 3 + 1, none⟩ = some (.int .i64 m1) := by rw [hbel.cell (p := ⟨b, off + k * 3 + 1, none⟩) hb]; exact HC.out k _ hx 1 _ rfl
      have e2 : wr.cell? ⟨b, off + k * 3 + 2, none⟩ = some (.int .i64 m2) := by rw [hbel.cell (p := ⟨b, off + k * 3 + 2, none⟩) hb]; exact HC.out k _ hx 2 _ rfl
      have HL : Hid (laidPerson xs (k + 1) n (((cur.setIfInBounds (k * 3) (.int .i64 m0)).setIfInBounds (k * 3 + 1) (.int .i64 m1)).setIfInBounds (k * 3 + 2) (.int .i64 m2))) := laidPerson_step hlaid hlt hx
      have HX : Hid (wr.heap[w.heap.size]? = some (.cells cur 50 (0, 0)) ∧ Below w.heap.size w wr) := ⟨hblk, hbel⟩
      have hgl := lt_of_block hblk
      clear hlaid hx hblk hbel
      go_wp2_with fail
      refine (toPerson _ _ _ _).mono ?_
      rintro e w1 ⟨rfl, b1⟩
      have g1 : w1.heap[w.heap.size]? = some (.cells cur 50 (0, 0)) := by rw [b1.block _ hgl]; exact HX.out.1
      have b2 : Below w.heap.size w w1 := HX.out.2.trans (b1.mono (by omega))
      obtain ⟨y0, r0⟩ : ∃ y, w1.cell? ⟨w.heap.size, k * 3, none⟩ = some y := by rw [cell_block g1]; exact ⟨_, Array.getElem?_eq_getElem (by omega)⟩
      obtain ⟨y1, r1⟩ : ∃ y, w1.cell? ⟨w.heap.size, k * 3 + 1, none⟩ = some y := by rw [cell_block g1]; exact ⟨_, Array.getElem?_eq_getElem (by omega)⟩
      obtain ⟨y2, r2⟩ : ∃ y, w1.cell? ⟨w.heap.size, k * 3 + 2, none⟩ = some y := by rw [cell_block g1]; exact ⟨_, Array.getElem?_eq_getElem (by omega)⟩
      have hf : ∀ i, w1.frozen? ⟨w.heap.size, i, none⟩ = false := fun i => free_block g1
      have HG : Hid ((((w1.setCell ⟨w.heap.size, k * 3, none⟩ (.int .i64 m0)).setCell ⟨w.heap.size, k * 3 + 1, none⟩ (.int .i64 m1)).setCell ⟨w.heap.size, k * 3 + 2, none⟩ (.int .i64 m2)).heap[w.heap.size]? = some (.cells (((cur.setIfInBounds (k * 3) (.int .i64 m0)).setIfInBounds (k * 3 + 1) (.int .i64 m1)).setIfInBounds (k * 3 + 2) (.int .i64 m2)) 50 (0, 0)) ∧ Below w.heap.size w (((w1.setCell ⟨w.heap.size, k * 3, none⟩ (.int .i64 m0)).setCell ⟨w.heap.size, k * 3 + 1, none⟩ (.int .i64 m1)).setCell ⟨w.heap.size, k * 3 + 2, none⟩ (.int .i64 m2))) := ⟨(set_block _ (set_block _ (set_block _ g1))), (((b2.setCell (by simp) _).setCell (by simp) _).setCell (by simp) _)⟩
      clear g1 b1 b2
      go_wp2_with fail
      go_roundw
      case rel => exact ⟨k + 1, by omega, by go_num, HG.out.2, _, HG.out.1, HL.out⟩
      case measure => simp [intOf]; omega
    · have hkn : k = n := by omega
      subst hkn
      go_wp2_with fail
      go_ret
      refine ⟨_, rfl, ⟨by rw [flat_len encPerson_len, HN.out], .inr ⟨w.heap.size, k, cur, rfl, Nat.le_refl _, hblk, Nat.le_refl _, by unfold maxLen; omega, hsz, ?_⟩⟩, hbel⟩
      have ht := HN.out
      subst ht
      rw [← laidPerson_all hlaid]
      exact List.take_of_length_le (by simp [hsz])
set_option maxHeartbeats 2000000 in
theorem eqPersonS_some (b1 o1 c1 b2 o2 c2 : Nat) (xs ys : List (Int × Int × Int)) (w : World) (hlen : xs.length = ys.length) (hl : xs.length ≤ 1048576) (hb1 : b1 < w.heap.size) (hb2 : b2 < w.heap.size)
    (h1 : ∀ j x, xs[j]? = some x → ∀ i u, (encPerson x)[i]? = some u → w.cell? ⟨b1, o1 + j * 3 + i, none⟩ = some u) (h2 : ∀ j x, ys[j]? = some x → ∀ i u, (encPerson x)[i]? = some u → w.cell? ⟨b2, o2 + j * 3 + i, none⟩ = some u) :
    Calls Tryd.prog 11 #[.slice (some ⟨b1, o1, none⟩) xs.length c1, .slice (some ⟨b2, o2, none⟩) xs.length c2] w fun e w' => e = .returned (.bool (eqB xs ys)) ∧ Below w.heap.size w w' := by
  have H1 : Hid (∀ j x, xs[j]? = some x → ∀ i u, (encPerson x)[i]? = some u → w.cell? ⟨b1, o1 + j * 3 + i, none⟩ = some u) := h1
  have H2 : Hid (∀ j x, ys[j]? = some x → ∀ i u, (encPerson x)[i]? = some u → w.cell? ⟨b2, o2 + j * 3 + i, none⟩ = some u) := h2
  clear h1 h2
  obtain ⟨n, hn⟩ : ∃ n, n = xs.length := ⟨_, rfl⟩
  have HN : Hid (n = xs.length ∧ n = ys.length) := ⟨hn, by omega⟩
  rw [← hn] at hl ⊢
  clear hn hlen
  go_enter Tryd.func11, Tryd.ntmps11
  go_wp2_with fail
  go_loopw [5] (fun i wr => ∃ k : Nat, k ≤ n ∧ i = .int .i64 k ∧ Below w.heap.size w wr ∧ ∀ j, j < k → xs[j]? = ys[j]?) (fun i _ => n - (intOf i).toNat)
  case atStart => exact ⟨0, by omega, rfl, Below.refl _ _, fun j hj => by omega⟩
  case round =>
    obtain ⟨k, hk, rfl, hbel, hq⟩ := hrel
    have HQ : Hid (∀ j, j < k → xs[j]? = ys[j]?) := hq
    clear hq
    by_cases hlt : k < n
    · obtain ⟨⟨m0, m1, m2⟩, hx⟩ : ∃ x, xs[k]? = some x := ⟨_, List.getElem?_eq_getElem (by rw [← HN.out.1]; exact hlt)⟩
      obtain ⟨⟨p0, p1, p2⟩, hy⟩ : ∃ x, ys[k]? = some x := ⟨_, List.getElem?_eq_getElem (by rw [← HN.out.2]; exact hlt)⟩
      have e0 : wr.cell? ⟨b1, o1 + k * 3, none⟩ = some (.int .i64 m0) := by rw [hbel.cell (p := ⟨b1, _, none⟩) hb1]; exact H1.out k _ hx 0 _ rfl
      have e1 : wr.cell? ⟨b1, o1 + k * 3 + 1, none⟩ = some (.int .i64 m1) := by rw [hbel.cell (p := ⟨b1, _, none⟩) hb1]; exact H1.out k _ hx 1 _ rfl
      have e2 : wr.cell? ⟨b1, o1 + k * 3 + 2, none⟩ = some (.int .i64 m2) := by rw [hbel.cell (p := ⟨b1, _, none⟩) hb1]; exact H1.out k _ hx 2 _ rfl
      have f0 : wr.cell? ⟨b2, o2 + k * 3, none⟩ = some (.int .i64 p0) := by rw [hbel.cell (p := ⟨b2, _, none⟩) hb2]; exact H2.out k _ hy 0 _ rfl
      have f1 : wr.cell? ⟨b2, o2 + k * 3 + 1, none⟩ = some (.int .i64 p1) := by rw [hbel.cell (p := ⟨b2, _, none⟩) hb2]; exact H2.out k _ hy 1 _ rfl
      have f2 : wr.cell? ⟨b2, o2 + k * 3 + 2, none⟩ = some (.int .i64 p2) := by rw [hbel.cell (p := ⟨b2, _, none⟩) hb2]; exact H2.out k _ hy 2 _ rfl
      have HX : Hid (xs[k]? = some (m0, m1, m2) ∧ ys[k]? = some (p0, p1, p2)) := ⟨hx, hy⟩
      have hq1 : b1 < wr.heap.size := Nat.lt_of_lt_of_le hb1 hbel.size
      have hq2 : b2 < wr.heap.size := Nat.lt_of_lt_of_le hb2 hbel.size
      have k0 : (0 : Int) ≤ (k : Int) := by omega
      have k1 : (k : Int) < (n : Int) := by omega
      have HB : Hid (Below w.heap.size w wr) := hbel
      clear hx hy hbel
      cases hd : eqB (m0, m1, m2) (p0, p1, p2)
      · go_wp2_with fail
        refine wp_region_after (by kernel_rfl) (by kernel_rfl) ?_
        intro hne hac
        repeat (go_big_quiet_step (first | (go_at_call 24; exact after_at (x := eqB (m0, m1, m2) (p0, p1, p2)) (y := false) hd (eqPerson m0 m1 m2 p0 p1 p2 _))))
        refine wpQuiet_nil ?_
        rintro _ ⟨p, rfl⟩
        have hbq := HB.out.trans (p.bel.mono HB.out.size)
        generalize p.w = wq at *
        clear hac hne
        go_wp2_with fail
        go_ret
        refine ⟨?_, hbq⟩
        have : eqB xs ys = false := by
          rw [eqB_false] at hd ⊢
          intro h
          apply hd
          have h3 := HX.out.1
          rw [h, HX.out.2] at h3
          simpa using h3.symm
        rw [this]; rfl
      · go_wp2_with fail
        refine wp_region_after (by kernel_rfl) (by kernel_rfl) ?_
        intro hne hac
        repeat (go_big_quiet_step (first | (go_at_call 24; exact after_at (x := eqB (m0, m1, m2) (p0, p1, p2)) (y := true) hd (eqPerson m0 m1 m2 p0 p1 p2 _))))
        refine wpQuiet_nil ?_
        rintro _ ⟨p, rfl⟩
        have hbq := HB.out.trans (p.bel.mono HB.out.size)
        have HB2 : Hid (Below w.heap.size w p.w) := hbq
        clear hac hne hbq
        generalize p.w = wq at *
        go_wp2_with fail
        go_roundw
        case rel =>
          refine ⟨k + 1, by omega, by go_num, HB2.out, fun j hj => ?_⟩
          rcases Nat.lt_succ_iff_lt_or_eq.1 hj with h | rfl
          · exact HQ.out j h
          · rw [HX.out.1, HX.out.2, eqB_true.1 hd]
        case measure => simp [intOf]; omega
    · have hkn : k = n := by omega
      subst hkn
      go_wp2_with fail
      go_ret
      refine ⟨?_, hbel⟩
      have : xs = ys := by
        apply List.ext_getElem?
        intro j
        by_cases hj : j < k
        · exact HQ.out j hj
        · rw [List.getElem?_eq_none (by have := HN.out; omega), List.getElem?_eq_none (by have := HN.out; omega)]
      rw [eqB_true.2 this]; rfl
set_option maxHeartbeats 400000 in
theorem eqPersonS_len (a1 a2 : Option Addr) (n1 c1 n2 c2 : Nat) (w : World) (h1 : n1 ≤ 1048576) (h2 : n2 ≤ 1048576) (hne : n1 ≠ n2) :
    Calls Tryd.prog 11 #[.slice a1 n1 c1, .slice a2 n2 c2] w fun e w' => e = .returned (.bool false) ∧ w' = w := by
  have hd : ((n1 : Int) != (n2 : Int)) = true := by rw [bne_iff_ne]; omega
  clear hne
  go_enter Tryd.func11, Tryd.ntmps11
  go_wp2
  go_ret
  exact ⟨rfl, rfl⟩
set_option maxHeartbeats 400000 in
theorem eqPersonS_empty (a1 a2 : Option Addr) (c1 c2 : Nat) (w : World) :
    Calls Tryd.prog 11 #[.slice a1 0 c1, .slice a2 0 c2] w fun e w' => e = .returned (.bool true) ∧ w' = w := by
  go_enter Tryd.func11, Tryd.ntmps11
  go_wp2
  refine wp_loop_rounds 1 ?_
  rw [rounds_succ]
  go_wp2
  go_ret
  exact ⟨rfl, rfl⟩
theorem eqPersonS (v1 v2 : Value) (xs ys : List (Int × Int × Int)) (w : World) (h1 : RowAt 3 encPerson w v1 xs) (h2 : RowAt 3 encPerson w v2 ys) (hb1 : xs.length ≤ 1048576) (hb2 : ys.length ≤ 1048576) :
    Calls Tryd.prog 11 #[v1, v2] w fun e w' => e = .returned (.bool (eqB xs ys)) ∧ Below w.heap.size w w' := by
  by_cases hl : xs.length = ys.length
  · rcases h1 with ⟨rfl, a1, c1, rfl⟩ | ⟨p1, b1, o1, c1, rfl, l1, e1⟩
    · have hm : ys = [] := List.length_eq_zero_iff.1 (by simpa using hl.symm)
      subst hm
      obtain ⟨a2, c2, rfl⟩ := h2.len
      exact (eqPersonS_empty a1 a2 c1 c2 w).mono (fun e w' h => ⟨by rw [h.1, eqB_true.2 rfl], by rw [h.2]; exact Below.refl _ _⟩)
    · rcases h2 with ⟨rfl, a2, c2, rfl⟩ | ⟨p2, b2, o2, c2, rfl, l2, e2⟩
      · simp at hl; subst hl; simp at p1
      · rw [← hl]
        exact eqPersonS_some b1 o1 c1 b2 o2 c2 xs ys w hl hb1 l1 l2 e1 e2
  · have hf : eqB xs ys = false := by rw [eqB_false]; intro h; exact hl (by rw [h])
    rw [hf]
    obtain ⟨a1, c1, rfl⟩ := h1.len
    obtain ⟨a2, c2, rfl⟩ := h2.len
    exact (eqPersonS_len a1 a2 _ c1 _ c2 w hb1 hb2 hl).mono (fun e w' h => ⟨h.1, by rw [h.2]; exact Below.refl _ _⟩)
set_option maxHeartbeats 400000 in
theorem toPersonS_empty (a1 : Option Addr) (c1 : Nat) (w : World) :
    Calls Tryd.prog 7 #[.slice a1 0 c1] w fun e w' => ∃ v', e = .returned v' ∧ w'.ownsRow w.heap.size 50 3 v' 0 [] ∧ Below w.heap.size w w' := by
  have hmk : ∀ w, (Instr.makeSlice 28 (.int .i64 0) (.int .i64 0)).run Tryd.prog w = .ok (.slice (some ⟨w.heap.size, 0, none⟩) 0 0) (w.alloc (.cells (madeCells #[.int .i64 0, .int .i64 0, .int .i64 0] (0 * 3)) 50)) := makePersonS 0 (by omega)
  go_enter Tryd.func7, Tryd.ntmps7
  go_wp2
  refine wp_loop_rounds 1 ?_
  rw [rounds_succ]
  go_wp2
  go_ret
  exact ⟨_, rfl, ⟨rfl, .inr ⟨w.heap.size, 0, _, rfl, Nat.le_refl _, new_block _ _, Nat.le_refl _, by unfold maxLen; omega, by simp [size_madeCells], by simp⟩⟩, (Below.refl _ _).alloc (Nat.le_refl _) _⟩
theorem toPersonS (v : Value) (xs : List (Int × Int × Int)) (w : World) (h : RowAt 3 encPerson w v xs) (hl : xs.length ≤ 1048576) :
    Calls Tryd.prog 7 #[v] w fun e w' => ∃ v', e = .returned v' ∧ w'.ownsRow w.heap.size 50 3 v' xs.length (xs.flatMap encPerson) ∧ Below w.heap.size w w' := by
  rcases h with ⟨rfl, a1, c1, rfl⟩ | ⟨p1, b1, o1, c1, rfl, l1, e1⟩
  · exact toPersonS_empty a1 c1 w
  · exact toPersonS_some b1 o1 c1 xs w hl l1 e1
set_option maxHeartbeats 400000 in
theorem szPersonS (a : Option Addr) (n cap : Nat) (left : Int) (w : World) (h0 : 0 ≤ left) (h1 : left ≤ 1048576) (hn : n ≤ 9223372036854775807) :
    Calls Tryd.prog 4 #[.slice a n cap, .int .i64 left] w fun e w' => e = .returned (.int .i64 (if (n : Int) ≤ left then left - n else -1)) ∧ w' = w := by
  by_cases h : (n : Int) ≤ left
  · rw [if_pos h]
    go_enter Tryd.func4, Tryd.ntmps4
    go_wp2
    go_ret
    exact ⟨rfl, rfl⟩
  · rw [if_neg h]
    go_enter Tryd.func4, Tryd.ntmps4
    go_wp2
    go_ret
    exact ⟨rfl, rfl⟩
/-- Rows that are numbered through from k on. -/
def marksPerson (k : Int) (n : Nat) : List (Int × Int × Int) := (List.range n).map (fun j : Nat => ((k + 3 * j), (k + 3 * j + 1), (k + 3 * j + 2)))
theorem marksPerson_len (k : Int) (n : Nat) : (marksPerson k n).length = n := by simp [marksPerson]
theorem marksPerson_get (k : Int) {n j : Nat} (h : j < n) : (marksPerson k n)[j]? = some ((k + 3 * j), (k + 3 * j + 1), (k + 3 * j + 2)) := by simp [marksPerson, List.getElem?_range h]
theorem laidPerson_take {xs : List (Int × Int × Int)} {cap : Nat} {cur : Array Value} (h : laidPerson xs xs.length cap cur) (hc : xs.length ≤ cap) : cur.toList.take (xs.length * 3) = xs.flatMap encPerson := by
  obtain ⟨h1, h2⟩ := h
  apply List.ext_getElem?
  intro m
  rw [List.getElem?_take]
  by_cases hm : m < xs.length * 3
  · have hj : m / 3 < xs.length := by omega
    have h3 := flat_get encPerson_len xs (m / 3) (m % 3) _ (List.getElem?_eq_getElem hj) (Nat.mod_lt _ (by omega))
    have hmm : m / 3 * 3 + m % 3 = m := by omega
    rw [hmm] at h3
    rw [h3, if_pos hm]
    have hlen : m % 3 < (encPerson xs[m / 3]).length := by rw [encPerson_len]; exact Nat.mod_lt _ (by omega)
    have h4 := h2 (m / 3) _ hj (List.getElem?_eq_getElem hj) (m % 3) _ (List.getElem?_eq_getElem hlen)
    rw [hmm] at h4
    rw [List.getElem?_eq_getElem hlen]
    simpa using h4
  · rw [if_neg hm, List.getElem?_eq_none (by rw [flat_len encPerson_len]; omega)]
set_option maxHeartbeats 4000000 in
theorem markPersonS_some (g cap n : Nat) (k0 : Int) (cur0 : Array Value) (w : World) (hk0 : 0 ≤ k0) (hk1 : k0 ≤ 100000000) (hn : n ≤ 1048576) (hnc : n ≤ cap) (hblk0 : w.heap[g]? = some (.cells cur0 50 (0, 0))) (hsz0 : cur0.size = cap * 3) :
    Calls Tryd.prog 12 #[.slice (some ⟨g, 0, none⟩) n cap, .int .i64 k0] w fun e w' => e = .returned (.int .i64 (k0 + 3 * n)) ∧ (∃ cur, w'.heap[g]? = some (.cells cur 50 (0, 0)) ∧ laidPerson (marksPerson k0 n) n cap cur) ∧ w.grownBy w' (some g) := by
  go_enter Tryd.func12, Tryd.ntmps12
  go_wp2_with fail
  go_loopw [1, 5] (fun q i wr => ∃ k : Nat, k ≤ n ∧ i = .int .i64 k ∧ q = .int .i64 (k0 + 3 * k) ∧ w.grownBy wr (some g) ∧ ∃ cur, wr.heap[g]? = some (.cells cur 50 (0, 0)) ∧ laidPerson (marksPerson k0 n) k cap cur) (fun _ i _ => n - (intOf i).toNat)
  case atStart => exact ⟨0, by omega, rfl, by simp, grown_refl _ _, cur0, hblk0, hsz0, fun j x hj => by omega⟩
  case round =>
    clear hblk0 hsz0
    obtain ⟨k, hk, rfl, rfl, hgr, cur, hblk, hlaid⟩ := hrel
    have hsz := hlaid.1
    by_cases hlt : k < n
    · have hx : (marksPerson k0 n)[k]? = some ((k0 + 3 * k), (k0 + 3 * k + 1), (k0 + 3 * k + 1 + 1)) := (marksPerson_get k0 hlt).trans (by
        first | rfl | (refine congrArg some ?_; simp only [Prod.mk.injEq]; and_intros <;> first | rfl | trivial | omega))
      obtain ⟨y0, r0⟩ : ∃ y, wr.cell? ⟨g, k * 3, none⟩ = some y := by rw [cell_block hblk]; exact ⟨_, Array.getElem?_eq_getElem (by omega)⟩
      obtain ⟨y1, r1⟩ : ∃ y, wr.cell? ⟨g, k * 3 + 1, none⟩ = some y := by rw [cell_block hblk]; exact ⟨_, Array.getElem?_eq_getElem (by omega)⟩
      obtain ⟨y2, r2⟩ : ∃ y, wr.cell? ⟨g, k * 3 + 2, none⟩ = some y := by rw [cell_block hblk]; exact ⟨_, Array.getElem?_eq_getElem (by omega)⟩
      have hf : ∀ i, wr.frozen? ⟨g, i, none⟩ = false := fun i => free_block hblk
      have HL : Hid (laidPerson (marksPerson k0 n) (k + 1) cap (((cur.setIfInBounds (k * 3) (.int .i64 (k0 + 3 * k))).setIfInBounds (k * 3 + 1) (.int .i64 (k0 + 3 * k + 1))).setIfInBounds (k * 3 + 1 + 1) (.int .i64 (k0 + 3 * k + 1 + 1)))) := laidPerson_step hlaid (by omega) hx
      have HG : Hid ((((wr.setCell ⟨g, k * 3, none⟩ (.int .i64 (k0 + 3 * k))).setCell ⟨g, k * 3 + 1, none⟩ (.int .i64 (k0 + 3 * k + 1))).setCell ⟨g, k * 3 + 1 + 1, none⟩ (.int .i64 (k0 + 3 * k + 1 + 1))).heap[g]? = some (.cells (((cur.setIfInBounds (k * 3) (.int .i64 (k0 + 3 * k))).setIfInBounds (k * 3 + 1) (.int .i64 (k0 + 3 * k + 1))).setIfInBounds (k * 3 + 1 + 1) (.int .i64 (k0 + 3 * k + 1 + 1))) 50 (0, 0)) ∧ w.grownBy (((wr.setCell ⟨g, k * 3, none⟩ (.int .i64 (k0 + 3 * k))).setCell ⟨g, k * 3 + 1, none⟩ (.int .i64 (k0 + 3 * k + 1))).setCell ⟨g, k * 3 + 1 + 1, none⟩ (.int .i64 (k0 + 3 * k + 1 + 1))) (some g)) := ⟨(set_block _ (set_block _ (set_block _ hblk))), (grown_set (grown_set (grown_set hgr _ _) _ _) _ _)⟩
      clear hx hlaid hblk hgr
      go_wp2_with fail
      go_roundw
      case rel => exact ⟨k + 1, by omega, by go_num, by go_num, HG.out.2, _, HG.out.1, HL.out⟩
      case measure => simp [intOf]; omega
    · have hkn : k = n := by omega
      subst hkn
      go_wp2_with fail
      go_ret
      exact ⟨rfl, ⟨cur, hblk, hlaid⟩, hgr⟩
set_option maxHeartbeats 400000 in
theorem markPersonS_empty (a : Option Addr) (c : Nat) (k0 : Int) (w : World) :
    Calls Tryd.prog 12 #[.slice a 0 c, .int .i64 k0] w fun e w' => e = .returned (.int .i64 k0) ∧ w' = w := by
  go_enter Tryd.func12, Tryd.ntmps12
  go_wp2
  refine wp_loop_rounds 1 ?_
  rw [rounds_succ]
  go_wp2
  go_ret
  exact ⟨rfl, rfl⟩
theorem markPersonS (base n : Nat) (v : Value) (k0 : Int) (xs : List Value) (w : World) (hk0 : 0 ≤ k0) (hk1 : k0 ≤ 100000000) (hn : n ≤ 1048576) (hown : w.ownsRow base 50 3 v n xs) :
    Calls Tryd.prog 12 #[v, .int .i64 k0] w fun e w' => e = .returned (.int .i64 (k0 + 3 * n)) ∧ w'.ownsRow base 50 3 v n ((marksPerson k0 n).flatMap encPerson) ∧ w.grownBy w' v.ownBlock := by
  obtain ⟨_, ⟨rfl, rfl⟩ | ⟨g, cap, cur, rfl, hb, hg, hnc, hm, hs, ht⟩⟩ := hown
  · refine (markPersonS_empty none 0 k0 w).mono (fun e w' h => ?_)
    obtain ⟨rfl, rfl⟩ := h
    exact ⟨by simp, by simpa [marksPerson] using World.ownsRow_nil _ _ _ _, grown_refl _ _⟩
  · refine (markPersonS_some g cap n k0 cur w hk0 hk1 hn hnc hg hs).mono (fun e w' h => ?_)
    obtain ⟨rfl, ⟨cur', h1, h2⟩, h3⟩ := h
    have h4 := marksPerson_len k0 n
    refine ⟨rfl, ⟨by rw [flat_len encPerson_len, h4], .inr ⟨g, cap, cur', rfl, hb, h1, hnc, hm, h2.1, ?_⟩⟩, h3⟩
    have h5 := laidPerson_take (xs := marksPerson k0 n) (cap := cap) (cur := cur') (by rw [h4]; exact h2) (by rw [h4]; exact hnc)
    rw [h4] at h5
    exact h5
end Go.Proofs.YtchphdhjbjeplaaDoor.Lab

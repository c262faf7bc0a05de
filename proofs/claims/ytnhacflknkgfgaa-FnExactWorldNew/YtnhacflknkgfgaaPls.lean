/-
  Rows of Pool, each of which holds a row of its own: the laws' own functions on them. (Written by tools/mknest.py.)
-/
import Derived.Test.YtnhacflknkgfgaaRow
import Derived.Test.YtnhacflknkgfgaaNod
import Derived.Test.YtnhacflknkgfgaaGrw
import Derived.Test.YtnhacflknkgfgaaPol
namespace Go.Proofs.Ytnhacflknkgfgaa.Lab
open Go.RowKit
set_option linter.unusedVariables false
def encPool (x : Int × (Value × List (Int × Int))) : List Value := [.int .i64 x.1, x.2.1]
theorem encPool_len (x : Int × (Value × List (Int × Int))) : (encPool x).length = 2 := rfl
/-- In plain words: without where the inner row lies. -/
def plPool (x : Int × (Value × List (Int × Int))) : Int × List (Int × Int) := (x.1, x.2.2)
/-- A row of these, and each inner row. -/
def AtPool (w : World) (v : Value) (xs : List (Int × (Value × List (Int × Int)))) : Prop := RowAt 2 encPool w v xs ∧ ∀ x ∈ xs, RowAt 2 encPage w x.2.1 x.2.2
theorem AtPool.keep {w w' : World} {v : Value} {xs : List (Int × (Value × List (Int × Int)))} (h : AtPool w v xs) (hb : Below w.heap.size w w') : AtPool w' v xs := ⟨h.1.keep hb, fun x hx => (h.2 x hx).keep hb⟩
/-- The same, owned by the call. -/
def RowsPool (w : World) (base : Nat) (v : Value) (xs : List (Int × (Value × List (Int × Int)))) : Prop := w.ownsRow base 66 2 v xs.length (xs.flatMap encPool) ∧ ∀ x ∈ xs, w.ownsRow base 107 2 x.2.1 x.2.2.length (x.2.2.flatMap encPage)
theorem RowsPool.keep {w w' : World} {base : Nat} {v : Value} {xs : List (Int × (Value × List (Int × Int)))} (h : RowsPool w base v xs) (hb : Below w.heap.size w w') : RowsPool w' base v xs := ⟨own_keep h.1 hb, fun x hx => own_keep (h.2 x hx) hb⟩
theorem RowsPool.at {w : World} {base : Nat} {v : Value} {xs : List (Int × (Value × List (Int × Int)))} (h : RowsPool w base v xs) : AtPool w v xs := ⟨row_of_own encPool_len (by decide) h.1, fun x hx => row_of_own encPage_len (by decide) (h.2 x hx)⟩
theorem RowsPool.form {w : World} {base : Nat} {v : Value} {xs : List (Int × (Value × List (Int × Int)))} (h : RowsPool w base v xs) : ∃ a c, v = .slice a xs.length c := own_form h.1
/-- Few enough, and each inner row short enough. -/
def FewPool (xs : List (Int × (Value × List (Int × Int)))) : Prop := xs.length ≤ 1048576 ∧ ∀ x ∈ xs, x.2.2.length ≤ 1048576
theorem FewPool.same {xs ys : List (Int × (Value × List (Int × Int)))} (h : FewPool xs) (he : ys.map plPool = xs.map plPool) : FewPool ys := by
  have hl : ys.length = xs.length := by simpa using congrArg List.length he
  refine ⟨by rw [hl]; exact h.1, fun x hx => ?_⟩
  obtain ⟨j, hj⟩ := List.getElem?_of_mem hx
  have h1 : (xs.map plPool)[j]? = some (plPool x) := by rw [← he, List.getElem?_map, hj]; rfl
  rw [List.getElem?_map] at h1
  obtain ⟨y, hy, hxy⟩ := Option.map_eq_some_iff.1 h1
  have h2 := h.2 y (List.mem_of_getElem? hy)
  have h3 : y.2.2 = x.2.2 := by simp only [plPool, Prod.mk.injEq] at hxy; exact hxy.2
  rw [← h3]; exact h2
theorem szPoolS_none (a : Option Addr) (n cap : Nat) (left : Int) (w : World) (h0 : 0 ≤ left) (h1 : left ≤ 1048576) (hn : n ≤ 9223372036854775807) (hx : left < n) :
    Calls Try.prog 44 #[.slice a n cap, .int .i64 left] w fun e w' => e = .returned (.int .i64 (-1)) ∧ w' = w := by
  go_enter Try.func44, Try.ntmps44
  go_wp2
  go_ret
  exact ⟨rfl, rfl⟩
set_option maxHeartbeats 400000 in
theorem szPoolS_zero (a : Option Addr) (cap : Nat) (left : Int) (w : World) (h0 : 0 ≤ left) (h1 : left ≤ 1048576) :
    Calls Try.prog 44 #[.slice a 0 cap, .int .i64 left] w fun e w' => e = .returned (.int .i64 left) ∧ w' = w := by
  go_enter Try.func44, Try.ntmps44
  go_wp2
  refine wp_loop_rounds 1 ?_
  rw [rounds_succ]
  go_wp2
  go_ret
  exact ⟨rfl, rfl⟩
set_option maxHeartbeats 2000000 in
theorem szPoolS_some (b off cap : Nat) (xs : List (Int × (Value × List (Int × Int)))) (left : Int) (w : World) (h0 : 0 ≤ left) (h1 : left ≤ 1048576) (hl : (xs.length : Int) ≤ left) (hb : b < w.heap.size) (hsm : ∀ x ∈ xs, x.2.2.length ≤ 9223372036854775807) (hfm : ∀ x ∈ xs, ∃ a c, x.2.1 = .slice a x.2.2.length c)
    (hc : ∀ j x, xs[j]? = some x → ∀ i u, (encPool x)[i]? = some u → w.cell? ⟨b, off + j * 2 + i, none⟩ = some u) :
    Calls Try.prog 44 #[.slice (some ⟨b, off, none⟩) xs.length cap, .int .i64 left] w fun e w' => (∃ r : Int, e = .returned (.int .i64 r) ∧ -1 ≤ r ∧ r ≤ left - xs.length ∧ (0 ≤ r → ∀ x ∈ xs, x.2.2.length ≤ 1048576)) ∧ Below w.heap.size w w' := by
  have HC : Hid (∀ j x, xs[j]? = some x → ∀ i u, (encPool x)[i]? = some u → w.cell? ⟨b, off + j * 2 + i, none⟩ = some u) := hc
  have HM : Hid (∀ x ∈ xs, x.2.2.length ≤ 9223372036854775807) := hsm
  have HFM : Hid (∀ x ∈ xs, ∃ a c, x.2.1 = .slice a x.2.2.length c) := hfm
  clear hc hsm hfm
  obtain ⟨n, hn⟩ : ∃ n, n = xs.length := ⟨_, rfl⟩
  have HN : Hid (n = xs.length) := hn
  rw [← hn] at hl ⊢
  clear hn
  go_enter Try.func44, Try.ntmps44
  go_wp2_with fail
  go_loopw [1, 5] (fun l i wr => ∃ k : Nat, ∃ r : Int, k ≤ n ∧ i = .int .i64 k ∧ l = .int .i64 r ∧ 0 ≤ r ∧ r ≤ left - n ∧ Below w.heap.size w wr ∧ ∀ j x, j < k → xs[j]? = some x → x.2.2.length ≤ 1048576) (fun _ i _ => n - (intOf i).toNat)
  case atStart => exact ⟨0, left - n, by omega, rfl, rfl, by omega, by omega, Below.refl _ _, fun j x hj => by omega⟩
  case round =>
    obtain ⟨k, r, hk, rfl, rfl, hr0, hr1, hbel, hq⟩ := hrel
    have HQ : Hid (∀ j x, j < k → xs[j]? = some x → x.2.2.length ≤ 1048576) := hq
    clear hq
    by_cases hlt : k < n
    · obtain ⟨⟨m0, ⟨mv, ml⟩⟩, hx⟩ : ∃ x, xs[k]? = some x := ⟨_, List.getElem?_eq_getElem (by rw [← HN.out]; exact hlt)⟩
      obtain ⟨ma, mc, hmv⟩ := HFM.out _ (List.mem_of_getElem? hx)
      have hml := HM.out _ (List.mem_of_getElem? hx)
      simp only at hmv hml
      obtain ⟨mn, hmn⟩ : ∃ t, t = ml.length := ⟨_, rfl⟩
      rw [← hmn] at hmv hml
      subst hmv
      have e0 : wr.cell? ⟨b, off + k * 2, none⟩ = some (.int .i64 m0) := by rw [hbel.cell (p := ⟨b, off + k * 2, none⟩) hb]; exact HC.out k _ hx 0 _ rfl
      have e1 : wr.cell? ⟨b, off + k * 2 + 1, none⟩ = some (.slice ma mn mc) := by rw [hbel.cell (p := ⟨b, off + k * 2 + 1, none⟩) hb]; exact HC.out k _ hx 1 _ rfl
      have HX : Hid (xs[k]? = some (m0, (.slice ma mn mc, ml))) := hx
      have HL : Hid (mn ≤ 9223372036854775807) := hml
      have HLN : Hid (mn = ml.length) := hmn
      have HB : Hid (Below w.heap.size w wr) := hbel
      have k0 : (0 : Int) ≤ (k : Int) := by omega
      have k1 : (k : Int) < (n : Int) := by omega
      clear hx hbel hml hmn
      by_cases hs : (mn : Int) ≤ r
      · go_wp2_with fail
        refine (szPool m0 ma mn mc r _ hr0 (by omega) HL.out).mono ?_
        rintro e w1 ⟨rfl, b1⟩
        rw [if_pos hs]
        have HB1 : Hid (Below w.heap.size w w1) := HB.out.trans (b1.mono HB.out.size)
        have r2 : 0 ≤ r - mn := by omega
        clear b1 HB
        go_wp2_with fail
        go_roundw
        case rel =>
          refine ⟨k + 1, r - mn, by omega, by go_num, rfl, by omega, by omega, HB1.out, fun j x hj hxj => ?_⟩
          rcases Nat.lt_succ_iff_lt_or_eq.1 hj with h | rfl
          · exact HQ.out j x h hxj
          · rw [HX.out] at hxj; cases hxj; simp only; rw [← HLN.out]; omega
        case measure => simp [intOf]; omega
      · go_wp2_with fail
        refine (szPool m0 ma mn mc r _ hr0 (by omega) HL.out).mono ?_
        rintro e w1 ⟨rfl, b1⟩
        rw [if_neg (by omega)]
        have HB1 : Hid (Below w.heap.size w w1) := HB.out.trans (b1.mono HB.out.size)
        clear b1 HB
        go_wp2_with fail
        go_ret
        exact ⟨⟨-1, rfl, by omega, by omega, fun h => by omega⟩, HB1.out⟩
    · have hkn : k = n := by omega
      subst hkn
      go_wp2_with fail
      go_ret
      refine ⟨⟨r, rfl, by omega, hr1, fun _ x hx => ?_⟩, hbel⟩
      obtain ⟨j, hj⟩ := List.getElem?_of_mem hx
      exact HQ.out j x (by rw [HN.out]; exact (List.getElem?_eq_some_iff.1 hj).1) hj
theorem szPoolS (v : Value) (xs : List (Int × (Value × List (Int × Int)))) (left : Int) (w : World) (h : AtPool w v xs) (h0 : 0 ≤ left) (h1 : left ≤ 1048576) (hn : xs.length ≤ 9223372036854775807) (hsm : ∀ x ∈ xs, x.2.2.length ≤ 9223372036854775807) :
    Calls Try.prog 44 #[v, .int .i64 left] w fun e w' => (∃ r : Int, e = .returned (.int .i64 r) ∧ -1 ≤ r ∧ r ≤ left ∧ (0 ≤ r → FewPool xs)) ∧ Below w.heap.size w w' := by
  obtain ⟨h, hin⟩ := h
  obtain ⟨a, cap, hv⟩ := h.len
  by_cases hl : left < (xs.length : Int)
  · subst hv
    exact (szPoolS_none a _ cap left w h0 h1 hn hl).mono (fun e w' h => ⟨⟨-1, h.1, by omega, by omega, fun h => by omega⟩, by rw [h.2]; exact Below.refl _ _⟩)
  · rcases h with ⟨rfl, a1, c1, rfl⟩ | ⟨p1, b1, o1, c1, rfl, l1, e1⟩
    · exact (szPoolS_zero a1 c1 left w h0 h1).mono (fun e w' h => ⟨⟨left, h.1, by omega, by omega, fun _ => ⟨by simp, by simp⟩⟩, by rw [h.2]; exact Below.refl _ _⟩)
    · exact (szPoolS_some b1 o1 c1 xs left w h0 h1 (by omega) l1 hsm (fun x hx => (hin x hx).len) e1).mono (fun e w' ⟨⟨r, h1, h2, h3, h4⟩, hb⟩ => ⟨⟨r, h1, h2, by omega, fun hr => ⟨by omega, h4 hr⟩⟩, hb⟩)
theorem dec_pool (c1 c2 : Int) (l1 l2 : List (Int × Int)) : eqB (c1, l1) (c2, l2) = (decide (c1 = c2) && eqB l1 l2) := by
  rw [Bool.eq_iff_iff]; simp [eqB]
theorem eqPoolN (z1 z2 : Int) (v u : Value) (ns ms : List (Int × Int)) (w : World) (h1 : RowAt 2 encPage w v ns) (h3 : RowAt 2 encPage w u ms) (l1 : ns.length ≤ 1048576) (l3 : ms.length ≤ 1048576) :
    Calls Try.prog 65 #[.agg #[.int .i64 z1, v], .agg #[.int .i64 z2, u]] w fun e w' => e = .returned (.bool (eqB (z1, ns) (z2, ms))) ∧ Below w.heap.size w w' :=
  (eqPool z1 z2 v u ns ms w h1 h3 l1 l3).mono fun e w' h => ⟨by rw [h.1, dec_pool], h.2⟩
theorem impl_PoolSameN (z1 z2 : Int) (v u : Value) (ns ms : List (Int × Int)) (w : World) (h1 : RowAt 2 encPage w v ns) (h3 : RowAt 2 encPage w u ms) (l1 : ns.length ≤ 1048576) (l3 : ms.length ≤ 1048576) :
    Calls Try.prog 54 #[.agg #[.int .i64 z1, v], .agg #[.int .i64 z2, u]] w fun e w' => e = .returned (.bool (eqB (z1, ns) (z2, ms))) ∧ Below w.heap.size w w' :=
  (impl_PoolSame z1 z2 v u ns ms w h1 h3 l1 l3).mono fun e w' h => ⟨by rw [h.1, dec_pool], h.2⟩
theorem spec_PoolSameN (z1 z2 : Int) (v u : Value) (ns ms : List (Int × Int)) (w : World) (h1 : RowAt 2 encPage w v ns) (h3 : RowAt 2 encPage w u ms) (l1 : ns.length ≤ 1048576) (l3 : ms.length ≤ 1048576) :
    Calls Try.prog 47 #[.agg #[.int .i64 z1, v], .agg #[.int .i64 z2, u]] w fun e w' => e = .returned (.bool (eqB (z1, ns) (z2, ms))) ∧ Below w.heap.size w w' :=
  (spec_PoolSame z1 z2 v u ns ms w h1 h3 l1 l3).mono fun e w' h => ⟨by rw [h.1, dec_pool], h.2⟩
theorem Try.infoPool : (Try.prog.info? 66).map (fun i => (i.zero, i.size, i.bytes)) = some (some (.agg #[.int .i64 0, .slice none 0 0]), 2, 32) := by kernel_rfl
theorem makePoolS (n : Nat) (h : n ≤ 1048576) (w : World) : (Instr.makeSlice 35 (.int .i64 n) (.int .i64 n)).run Try.prog w = .ok (.slice (some ⟨w.heap.size, 0, none⟩) n n) (w.alloc (.cells (madeCells #[.int .i64 0, .slice none 0 0] (n * 2)) 66)) := by
  obtain ⟨i0, hi, hz0, hz1, hz2⟩ := info_parts Try.infoPool
  have := run_make (P := Try.prog) w 35 66 i0 _ Try.underlying35 hi hz0 .i64 .i64 n n (by omega) (by omega) (by rw [hz2]; omega) (by omega)
  rw [hz1] at this
  simpa [Value.cells] using this
/-- A row of which the first elements have been laid. -/
def laidPool (ys : List (Int × (Value × List (Int × Int)))) (n : Nat) (cur : Array Value) : Prop := cur.size = n * 2 ∧ ∀ j x, ys[j]? = some x → ∀ i u, (encPool x)[i]? = some u → cur[j * 2 + i]? = some u
theorem laidPool_step {ys : List (Int × (Value × List (Int × Int)))} {k n : Nat} {cur : Array Value} (x : Int × (Value × List (Int × Int))) (h : laidPool ys n cur) (hl : ys.length = k) (hk : k < n) : laidPool (ys ++ [x]) n ((cur.setIfInBounds (k * 2) (.int .i64 x.1)).setIfInBounds (k * 2 + 1) (x.2.1)) := by
  obtain ⟨h1, h2⟩ := h
  refine ⟨by simp [h1], fun j y hj i u hu => ?_⟩
  have hi : i < 2 := by
    obtain ⟨h3, _⟩ := List.getElem?_eq_some_iff.1 hu
    rw [encPool_len] at h3; exact h3
  by_cases hjk : j < k
  · rw [List.getElem?_append_left (by omega)] at hj
    simp only [Array.getElem?_setIfInBounds]
    repeat rw [if_neg (by omega)]
    exact h2 j y hj i u hu
  · have hjl := (List.getElem?_eq_some_iff.1 hj).1
    simp at hjl
    obtain rfl : j = k := by omega
    rw [List.getElem?_append_right (by omega), hl] at hj
    simp at hj
    subst hj
    have : i = 0 ∨ i = 1 := by omega
    rcases this with rfl | rfl <;> (simp [encPool] at hu; subst hu; simp [Array.getElem?_setIfInBounds]; omega)
theorem laidPool_all {ys : List (Int × (Value × List (Int × Int)))} {n : Nat} {cur : Array Value} (h : laidPool ys n cur) (hn : ys.length = n) : cur.toList = ys.flatMap encPool := by
  obtain ⟨h1, h2⟩ := h
  apply List.ext_getElem?
  intro m
  by_cases hm : m < ys.length * 2
  · have hj : m / 2 < ys.length := by omega
    have h3 := flat_get encPool_len ys (m / 2) (m % 2) _ (List.getElem?_eq_getElem hj) (Nat.mod_lt _ (by omega))
    have hmm : m / 2 * 2 + m % 2 = m := by omega
    rw [hmm] at h3
    rw [h3]
    have hlen : m % 2 < (encPool ys[m / 2]).length := by rw [encPool_len]; exact Nat.mod_lt _ (by omega)
    have h4 := h2 (m / 2) _ (List.getElem?_eq_getElem hj) (m % 2) _ (List.getElem?_eq_getElem hlen)
    rw [hmm] at h4
    rw [List.getElem?_eq_getElem hlen]
    simpa using h4
  · rw [List.getElem?_eq_none (by simp; omega), List.getElem?_eq_none (by rw [flat_len encPool_len]; omega)]
set_option maxHeartbeats 4000000 in
theorem toPoolS_some (b off cap : Nat) (xs : List (Int × (Value × List (Int × Int)))) (w : World) (hf : FewPool xs) (hb : b < w.heap.size) (hin : ∀ x ∈ xs, RowAt 2 encPage w x.2.1 x.2.2)
    (hc : ∀ j x, xs[j]? = some x → ∀ i u, (encPool x)[i]? = some u → w.cell? ⟨b, off + j * 2 + i, none⟩ = some u) :
    Calls Try.prog 49 #[.slice (some ⟨b, off, none⟩) xs.length cap] w fun e w' => ∃ v' ys, e = .returned v' ∧ ys.map plPool = xs.map plPool ∧ RowsPool w' w.heap.size v' ys ∧ Below w.heap.size w w' := by
  have HC : Hid (∀ j x, xs[j]? = some x → ∀ i u, (encPool x)[i]? = some u → w.cell? ⟨b, off + j * 2 + i, none⟩ = some u) := hc
  have HI : Hid (∀ x ∈ xs, RowAt 2 encPage w x.2.1 x.2.2 ∧ x.2.2.length ≤ 1048576) := fun x hx => ⟨hin x hx, hf.2 x hx⟩
  have hl := hf.1
  clear hc hin hf
  obtain ⟨n, hn⟩ : ∃ n, n = xs.length := ⟨_, rfl⟩
  have HN : Hid (n = xs.length) := hn
  rw [← hn] at hl ⊢
  clear hn
  have hmk := makePoolS n hl
  go_enter Try.func49, Try.ntmps49
  go_wp2_with fail
  clear hmk
  go_loopw [4] (fun i wr => ∃ k : Nat, k ≤ n ∧ i = .int .i64 k ∧ Below w.heap.size w wr ∧ ∃ cur ys, wr.heap[w.heap.size]? = some (.cells cur 66 (0, 0)) ∧ laidPool ys n cur ∧ ys.length = k ∧ ys.map plPool = (xs.take k).map plPool ∧ ∀ y ∈ ys, wr.ownsRow (w.heap.size + 1) 107 2 y.2.1 y.2.2.length (y.2.2.flatMap encPage)) (fun i _ => n - (intOf i).toNat)
  case atStart => exact ⟨0, by omega, rfl, (Below.refl _ _).alloc (Nat.le_refl _) _, _, [], new_block _ _, ⟨by simp [size_madeCells], fun j x hj => by simp at hj⟩, rfl, by simp, by simp⟩
  case round =>
    obtain ⟨k, hk, rfl, hbel, cur, ys, hblk, hlaid, hyl, hym, hyo⟩ := hrel
    have hsz := hlaid.1
    by_cases hlt : k < n
    · obtain ⟨⟨m0, ⟨mv, ml⟩⟩, hx⟩ : ∃ x, xs[k]? = some x := ⟨_, List.getElem?_eq_getElem (by rw [← HN.out]; exact hlt)⟩
      obtain ⟨hrow, hml⟩ := HI.out _ (List.mem_of_getElem? hx)
      simp only at hrow hml
      obtain ⟨ma, mc, rfl⟩ := hrow.len
      obtain ⟨mn, hmn⟩ : ∃ t, t = ml.length := ⟨_, rfl⟩
      have HMN : Hid (mn = ml.length) := hmn
      rw [← hmn] at hrow hml hx
      have e0 : wr.cell? ⟨b, off + k * 2, none⟩ = some (.int .i64 m0) := by rw [hbel.cell (p := ⟨b, off + k * 2, none⟩) hb]; exact HC.out k _ hx 0 _ rfl
      have e1 : wr.cell? ⟨b, off + k * 2 + 1, none⟩ = some (.slice ma mn mc) := by rw [hbel.cell (p := ⟨b, off + k * 2 + 1, none⟩) hb]; exact HC.out k _ hx 1 _ rfl
      have HX : Hid (xs[k]? = some (m0, (.slice ma mn mc, ml))) := hx
      have HR : Hid (RowAt 2 encPage wr (.slice ma mn mc) ml) := hrow.keep hbel
      have HY : Hid (laidPool ys n cur ∧ ys.length = k ∧ ys.map plPool = (xs.take k).map plPool ∧ ∀ y ∈ ys, wr.ownsRow (w.heap.size + 1) 107 2 y.2.1 y.2.2.length (y.2.2.flatMap encPage)) := ⟨hlaid, hyl, hym, hyo⟩
      have HBK : Hid (wr.heap[w.heap.size]? = some (.cells cur 66 (0, 0)) ∧ Below w.heap.size w wr) := ⟨hblk, hbel⟩
      have hgl := lt_of_block hblk
      clear hlaid hyl hym hyo hx hrow hblk hbel hmn
      go_wp2_with fail
      refine (toPool m0 (.slice ma mn mc) ml _ (HR.out.keep (by first | exact Below.refl _ _ | go_grown)) (by rw [← HMN.out]; exact hml)).mono ?_
      rintro e w1 ⟨u, rfl, ou, b1⟩
      have hou := (show World.ownsRow _ _ _ _ _ _ _ from ou)
      obtain ⟨ua, uc, rfl⟩ := own_form hou
      have b1' : Below wr.heap.size wr w1 := by first | exact b1 | exact Below.trans (by go_grown) (b1.mono (by simp))
      have g1 : w1.heap[w.heap.size]? = some (.cells cur 66 (0, 0)) := by rw [b1'.block _ hgl]; exact HBK.out.1
      have b2 : Below w.heap.size w w1 := HBK.out.2.trans (b1'.mono (by omega))
      have HOU : Hid (w1.ownsRow (w.heap.size + 1) 107 2 (.slice ua ml.length uc) ml.length (ml.flatMap encPage)) := own_mono hou (by first | omega | (simp; omega))
      have HYO : Hid (∀ y ∈ ys, w1.ownsRow (w.heap.size + 1) 107 2 y.2.1 y.2.2.length (y.2.2.flatMap encPage)) := fun y hy => own_keep (HY.out.2.2.2 y hy) b1'
      rw [← HMN.out] at HOU ⊢
      obtain ⟨y0, r0⟩ : ∃ y, w1.cell? ⟨w.heap.size, k * 2, none⟩ = some y := by rw [cell_block g1]; exact ⟨_, Array.getElem?_eq_getElem (by omega)⟩
      obtain ⟨y1, r1⟩ : ∃ y, w1.cell? ⟨w.heap.size, k * 2 + 1, none⟩ = some y := by rw [cell_block g1]; exact ⟨_, Array.getElem?_eq_getElem (by omega)⟩
      have hf : ∀ i, w1.frozen? ⟨w.heap.size, i, none⟩ = false := fun i => free_block g1
      have HG : Hid (((w1.setCell ⟨w.heap.size, k * 2, none⟩ (.int .i64 m0)).setCell ⟨w.heap.size, k * 2 + 1, none⟩ (.slice ua mn uc)).heap[w.heap.size]? = some (.cells ((cur.setIfInBounds (k * 2) (.int .i64 m0)).setIfInBounds (k * 2 + 1) (.slice ua mn uc)) 66 (0, 0)) ∧ Below w.heap.size w ((w1.setCell ⟨w.heap.size, k * 2, none⟩ (.int .i64 m0)).setCell ⟨w.heap.size, k * 2 + 1, none⟩ (.slice ua mn uc))) := ⟨(set_block _ (set_block _ g1)), ((b2.setCell (by simp) _).setCell (by simp) _)⟩
      have HO2 : Hid (∀ y ∈ ys ++ [(m0, (.slice ua mn uc, ml))], ((w1.setCell ⟨w.heap.size, k * 2, none⟩ (.int .i64 m0)).setCell ⟨w.heap.size, k * 2 + 1, none⟩ (.slice ua mn uc)).ownsRow (w.heap.size + 1) 107 2 y.2.1 y.2.2.length (y.2.2.flatMap encPage)) := by
        intro y hy
        have q0 : w1.ownsRow (w.heap.size + 1) 107 2 y.2.1 y.2.2.length (y.2.2.flatMap encPage) := by
          rcases List.mem_append.1 hy with h | h
          · exact HYO.out y h
          · simp only [List.mem_singleton] at h
            subst h
            have := HOU.out
            rw [HMN.out] at this ⊢
            exact this
        have ob : (y.2.1).ownBlock ≠ some w.heap.size := fun hh => by have := (q0.lt _ hh).1; omega
        exact own_set (own_set q0 ob _) ob _
      clear g1 b1 b1' b2 ou hou HOU HYO HR
      go_wp2_with fail
      go_roundw
      case rel =>
        obtain ⟨y1, y2, y3, y4⟩ := HY.out
        refine ⟨k + 1, by omega, by go_num, HG.out.2, _, ys ++ [(m0, (.slice ua mn uc, ml))], HG.out.1, laidPool_step (m0, (.slice ua mn uc, ml)) y1 y2 hlt, by simp [y2], ?_, HO2.out⟩
        rw [List.take_add_one, HX.out, List.map_append, List.map_append, y3]
        rfl
      case measure => simp [intOf]; omega
    · have hkn : k = n := by omega
      subst hkn
      go_wp2_with fail
      go_ret
      have ht := HN.out
      refine ⟨_, ys, rfl, by rw [hym, ht, List.take_length], ⟨⟨by rw [flat_len encPool_len], .inr ⟨w.heap.size, k, cur, by rw [hyl]; rfl, Nat.le_refl _, hblk, by omega, by unfold maxLen; omega, hsz, ?_⟩⟩, fun y hy => own_mono (hyo y hy) (by omega)⟩, hbel⟩
      rw [← laidPool_all hlaid hyl]
      exact List.take_of_length_le (by simp [hsz, hyl])
set_option maxHeartbeats 400000 in
theorem toPoolS_empty (a1 : Option Addr) (c1 : Nat) (w : World) :
    Calls Try.prog 49 #[.slice a1 0 c1] w fun e w' => ∃ v', e = .returned v' ∧ w'.ownsRow w.heap.size 66 2 v' 0 [] ∧ Below w.heap.size w w' := by
  have hmk : ∀ w, (Instr.makeSlice 35 (.int .i64 0) (.int .i64 0)).run Try.prog w = .ok (.slice (some ⟨w.heap.size, 0, none⟩) 0 0) (w.alloc (.cells (madeCells #[.int .i64 0, .slice none 0 0] (0 * 2)) 66)) := makePoolS 0 (by omega)
  go_enter Try.func49, Try.ntmps49
  go_wp2
  refine wp_loop_rounds 1 ?_
  rw [rounds_succ]
  go_wp2
  go_ret
  exact ⟨_, rfl, ⟨rfl, .inr ⟨w.heap.size, 0, _, rfl, Nat.le_refl _, new_block _ _, Nat.le_refl _, by unfold maxLen; omega, by simp [size_madeCells], by simp⟩⟩, (Below.refl _ _).alloc (Nat.le_refl _) _⟩
theorem toPoolS (v : Value) (xs : List (Int × (Value × List (Int × Int)))) (w : World) (h : AtPool w v xs) (hf : FewPool xs) :
    Calls Try.prog 49 #[v] w fun e w' => ∃ v' ys, e = .returned v' ∧ ys.map plPool = xs.map plPool ∧ RowsPool w' w.heap.size v' ys ∧ Below w.heap.size w w' := by
  obtain ⟨h, hin⟩ := h
  rcases h with ⟨rfl, a1, c1, rfl⟩ | ⟨p1, b1, o1, c1, rfl, l1, e1⟩
  · exact (toPoolS_empty a1 c1 w).mono fun e w' ⟨v', h1, h2, h3⟩ => ⟨v', [], h1, rfl, ⟨h2, by simp⟩, h3⟩
  · exact toPoolS_some b1 o1 c1 xs w hf l1 hin e1
set_option maxHeartbeats 4000000 in
theorem eqPoolS_some (b1 o1 c1 b2 o2 c2 : Nat) (xs ys : List (Int × (Value × List (Int × Int)))) (w : World) (hlen : xs.length = ys.length) (hf1 : FewPool xs) (hf2 : FewPool ys) (hb1 : b1 < w.heap.size) (hb2 : b2 < w.heap.size) (hi1 : ∀ x ∈ xs, RowAt 2 encPage w x.2.1 x.2.2) (hi2 : ∀ x ∈ ys, RowAt 2 encPage w x.2.1 x.2.2)
    (h1 : ∀ j x, xs[j]? = some x → ∀ i u, (encPool x)[i]? = some u → w.cell? ⟨b1, o1 + j * 2 + i, none⟩ = some u) (h2 : ∀ j x, ys[j]? = some x → ∀ i u, (encPool x)[i]? = some u → w.cell? ⟨b2, o2 + j * 2 + i, none⟩ = some u) :
    Calls Try.prog 33 #[.slice (some ⟨b1, o1, none⟩) xs.length c1, .slice (some ⟨b2, o2, none⟩) xs.length c2] w fun e w' => e = .returned (.bool (eqB (xs.map plPool) (ys.map plPool))) ∧ Below w.heap.size w w' := by
  have H1 : Hid (∀ j x, xs[j]? = some x → ∀ i u, (encPool x)[i]? = some u → w.cell? ⟨b1, o1 + j * 2 + i, none⟩ = some u) := h1
  have H2 : Hid (∀ j x, ys[j]? = some x → ∀ i u, (encPool x)[i]? = some u → w.cell? ⟨b2, o2 + j * 2 + i, none⟩ = some u) := h2
  have HI1 : Hid (∀ x ∈ xs, RowAt 2 encPage w x.2.1 x.2.2 ∧ x.2.2.length ≤ 1048576) := fun x hx => ⟨hi1 x hx, hf1.2 x hx⟩
  have HI2 : Hid (∀ x ∈ ys, RowAt 2 encPage w x.2.1 x.2.2 ∧ x.2.2.length ≤ 1048576) := fun x hx => ⟨hi2 x hx, hf2.2 x hx⟩
  have hl := hf1.1
  clear h1 h2 hi1 hi2 hf1 hf2
  obtain ⟨n, hn⟩ : ∃ n, n = xs.length := ⟨_, rfl⟩
  have HN : Hid (n = xs.length ∧ n = ys.length) := ⟨hn, by omega⟩
  rw [← hn] at hl ⊢
  clear hn hlen
  go_enter Try.func33, Try.ntmps33
  go_wp2_with fail
  go_loopw [5] (fun i wr => ∃ k : Nat, k ≤ n ∧ i = .int .i64 k ∧ Below w.heap.size w wr ∧ ∀ j, j < k → (xs.map plPool)[j]? = (ys.map plPool)[j]?) (fun i _ => n - (intOf i).toNat)
  case atStart => exact ⟨0, by omega, rfl, Below.refl _ _, fun j hj => by omega⟩
  case round =>
    obtain ⟨k, hk, rfl, hbel, hq⟩ := hrel
    have HQ : Hid (∀ j, j < k → (xs.map plPool)[j]? = (ys.map plPool)[j]?) := hq
    clear hq
    by_cases hlt : k < n
    · obtain ⟨⟨m0, ⟨mv, ml⟩⟩, hx⟩ : ∃ x, xs[k]? = some x := ⟨_, List.getElem?_eq_getElem (by rw [← HN.out.1]; exact hlt)⟩
      obtain ⟨⟨p0, ⟨pv, pl⟩⟩, hy⟩ : ∃ x, ys[k]? = some x := ⟨_, List.getElem?_eq_getElem (by rw [← HN.out.2]; exact hlt)⟩
      obtain ⟨hr1, hml⟩ := HI1.out _ (List.mem_of_getElem? hx)
      obtain ⟨hr2, hpl⟩ := HI2.out _ (List.mem_of_getElem? hy)
      simp only at hr1 hml hr2 hpl
      obtain ⟨ma, mc, rfl⟩ := hr1.len
      obtain ⟨pa, pc, rfl⟩ := hr2.len
      obtain ⟨mn, hmn⟩ : ∃ t, t = ml.length := ⟨_, rfl⟩
      obtain ⟨pn, hpn⟩ : ∃ t, t = pl.length := ⟨_, rfl⟩
      rw [← hmn] at hr1 hx
      rw [← hpn] at hr2 hy
      have HRA : Hid (∀ w', Below wr.heap.size wr w' → RowAt 2 encPage w' (.slice ma mn mc) ml) := fun w' h => (hr1.keep hbel).keep h
      have HRB : Hid (∀ w', Below wr.heap.size wr w' → RowAt 2 encPage w' (.slice pa pn pc) pl) := fun w' h => (hr2.keep hbel).keep h
      have e0 : wr.cell? ⟨b1, o1 + k * 2, none⟩ = some (.int .i64 m0) := by rw [hbel.cell (p := ⟨b1, _, none⟩) hb1]; exact H1.out k _ hx 0 _ rfl
      have e1 : wr.cell? ⟨b1, o1 + k * 2 + 1, none⟩ = some (.slice ma mn mc) := by rw [hbel.cell (p := ⟨b1, _, none⟩) hb1]; exact H1.out k _ hx 1 _ rfl
      have f0 : wr.cell? ⟨b2, o2 + k * 2, none⟩ = some (.int .i64 p0) := by rw [hbel.cell (p := ⟨b2, _, none⟩) hb2]; exact H2.out k _ hy 0 _ rfl
      have f1 : wr.cell? ⟨b2, o2 + k * 2 + 1, none⟩ = some (.slice pa pn pc) := by rw [hbel.cell (p := ⟨b2, _, none⟩) hb2]; exact H2.out k _ hy 1 _ rfl
      have HX : Hid ((xs.map plPool)[k]? = some (m0, ml) ∧ (ys.map plPool)[k]? = some (p0, pl)) := ⟨by rw [List.getElem?_map, hx]; rfl, by rw [List.getElem?_map, hy]; rfl⟩
      have hq1 : b1 < wr.heap.size := Nat.lt_of_lt_of_le hb1 hbel.size
      have hq2 : b2 < wr.heap.size := Nat.lt_of_lt_of_le hb2 hbel.size
      have k0 : (0 : Int) ≤ (k : Int) := by omega
      have k1 : (k : Int) < (n : Int) := by omega
      have HB : Hid (Below w.heap.size w wr) := hbel
      have HML : Hid (ml.length ≤ 1048576 ∧ pl.length ≤ 1048576) := ⟨hml, hpl⟩
      clear hx hy hbel hr1 hr2 hmn hpn hml hpl
      cases hd : eqB (m0, ml) (p0, pl)
      · go_wp2_with fail
        refine wp_region_after (by kernel_rfl) (by kernel_rfl) ?_
        intro hne hac
        repeat (go_big_quiet_step (first | (go_at_call 65; exact after_at (x := eqB (m0, ml) (p0, pl)) (y := false) hd (eqPoolN m0 p0 _ _ ml pl _ (HRA.out _ (After.bel _)) (HRB.out _ (After.bel _)) HML.out.1 HML.out.2))))
        refine wpQuiet_nil ?_
        rintro _ ⟨p, rfl⟩
        have hbq := HB.out.trans (p.bel.mono HB.out.size)
        generalize p.w = wq at *
        clear hac hne
        go_wp2_with fail
        go_ret
        refine ⟨?_, hbq⟩
        have : eqB (xs.map plPool) (ys.map plPool) = false := by
          rw [eqB_false] at hd ⊢
          intro h
          apply hd
          have h3 := HX.out.1
          rw [h, HX.out.2] at h3
          exact (Option.some.inj h3).symm
        rw [this]; rfl
      · go_wp2_with fail
        refine wp_region_after (by kernel_rfl) (by kernel_rfl) ?_
        intro hne hac
        repeat (go_big_quiet_step (first | (go_at_call 65; exact after_at (x := eqB (m0, ml) (p0, pl)) (y := true) hd (eqPoolN m0 p0 _ _ ml pl _ (HRA.out _ (After.bel _)) (HRB.out _ (After.bel _)) HML.out.1 HML.out.2))))
        refine wpQuiet_nil ?_
        rintro _ ⟨p, rfl⟩
        have HB2 : Hid (Below w.heap.size w p.w) := HB.out.trans (p.bel.mono HB.out.size)
        clear hac hne
        generalize p.w = wq at *
        go_wp2_with fail
        go_roundw
        case rel =>
          refine ⟨k + 1, by omega, by go_num, HB2.out, fun j hj => ?_⟩
          rcases Nat.lt_succ_iff_lt_or_eq.1 hj with h | rfl
          · exact HQ.out j h
          · rw [HX.out.1, HX.out.2, eqB_true.1 hd]
        case measure => simp [intOf]; omega
    · have hkn : k = n := by omega
      subst hkn
      go_wp2_with fail
      go_ret
      refine ⟨?_, hbel⟩
      have : xs.map plPool = ys.map plPool := by
        apply List.ext_getElem?
        intro j
        by_cases hj : j < k
        · exact HQ.out j hj
        · rw [List.getElem?_eq_none (by have := HN.out; simp; omega), List.getElem?_eq_none (by have := HN.out; simp; omega)]
      rw [eqB_true.2 this]; rfl
set_option maxHeartbeats 400000 in
theorem eqPoolS_len (a1 a2 : Option Addr) (n1 c1 n2 c2 : Nat) (w : World) (h1 : n1 ≤ 1048576) (h2 : n2 ≤ 1048576) (hne : n1 ≠ n2) :
    Calls Try.prog 33 #[.slice a1 n1 c1, .slice a2 n2 c2] w fun e w' => e = .returned (.bool false) ∧ w' = w := by
  have hd : ((n1 : Int) != (n2 : Int)) = true := by rw [bne_iff_ne]; omega
  clear hne
  go_enter Try.func33, Try.ntmps33
  go_wp2
  go_ret
  exact ⟨rfl, rfl⟩
set_option maxHeartbeats 400000 in
theorem eqPoolS_empty (a1 a2 : Option Addr) (c1 c2 : Nat) (w : World) :
    Calls Try.prog 33 #[.slice a1 0 c1, .slice a2 0 c2] w fun e w' => e = .returned (.bool true) ∧ w' = w := by
  go_enter Try.func33, Try.ntmps33
  go_wp2
  refine wp_loop_rounds 1 ?_
  rw [rounds_succ]
  go_wp2
  go_ret
  exact ⟨rfl, rfl⟩
theorem eqPoolS (v1 v2 : Value) (xs ys : List (Int × (Value × List (Int × Int)))) (w : World) (h1 : AtPool w v1 xs) (h2 : AtPool w v2 ys) (hb1 : FewPool xs) (hb2 : FewPool ys) :
    Calls Try.prog 33 #[v1, v2] w fun e w' => e = .returned (.bool (eqB (xs.map plPool) (ys.map plPool))) ∧ Below w.heap.size w w' := by
  obtain ⟨h1, i1⟩ := h1
  obtain ⟨h2, i2⟩ := h2
  by_cases hl : xs.length = ys.length
  · rcases h1 with ⟨rfl, a1, c1, rfl⟩ | ⟨p1, b1, o1, c1, rfl, l1, e1⟩
    · have hm : ys = [] := List.length_eq_zero_iff.1 (by simpa using hl.symm)
      subst hm
      obtain ⟨a2, c2, rfl⟩ := h2.len
      exact (eqPoolS_empty a1 a2 c1 c2 w).mono (fun e w' h => ⟨by rw [h.1, eqB_true.2 rfl], by rw [h.2]; exact Below.refl _ _⟩)
    · rcases h2 with ⟨rfl, a2, c2, rfl⟩ | ⟨p2, b2, o2, c2, rfl, l2, e2⟩
      · simp at hl; subst hl; simp at p1
      · rw [← hl]
        exact eqPoolS_some b1 o1 c1 b2 o2 c2 xs ys w hl hb1 hb2 l1 l2 i1 i2 e1 e2
  · have hf : eqB (xs.map plPool) (ys.map plPool) = false := by rw [eqB_false]; intro h; exact hl (by simpa using congrArg List.length h)
    rw [hf]
    obtain ⟨a1, c1, rfl⟩ := h1.len
    obtain ⟨a2, c2, rfl⟩ := h2.len
    exact (eqPoolS_len a1 a2 _ c1 _ c2 w hb1.1 hb2.1 hl).mono (fun e w' h => ⟨h.1, by rw [h.2]; exact Below.refl _ _⟩)
set_option maxHeartbeats 4000000 in
theorem equalFuncPoolS_some (b1 o1 c1 b2 o2 c2 : Nat) (xs ys : List (Int × (Value × List (Int × Int)))) (w : World) (hlen : xs.length = ys.length) (hf1 : FewPool xs) (hf2 : FewPool ys) (hb1 : b1 < w.heap.size) (hb2 : b2 < w.heap.size) (hi1 : ∀ x ∈ xs, RowAt 2 encPage w x.2.1 x.2.2) (hi2 : ∀ x ∈ ys, RowAt 2 encPage w x.2.1 x.2.2)
    (h1 : ∀ j x, xs[j]? = some x → ∀ i u, (encPool x)[i]? = some u → w.cell? ⟨b1, o1 + j * 2 + i, none⟩ = some u) (h2 : ∀ j x, ys[j]? = some x → ∀ i u, (encPool x)[i]? = some u → w.cell? ⟨b2, o2 + j * 2 + i, none⟩ = some u) :
    Calls Try.prog 53 #[.slice (some ⟨b1, o1, none⟩) xs.length c1, .slice (some ⟨b2, o2, none⟩) xs.length c2, .func (.func 54) #[] #[]] w fun e w' => e = .returned (.bool (eqB (xs.map plPool) (ys.map plPool))) ∧ Below w.heap.size w w' := by
  have H1 : Hid (∀ j x, xs[j]? = some x → ∀ i u, (encPool x)[i]? = some u → w.cell? ⟨b1, o1 + j * 2 + i, none⟩ = some u) := h1
  have H2 : Hid (∀ j x, ys[j]? = some x → ∀ i u, (encPool x)[i]? = some u → w.cell? ⟨b2, o2 + j * 2 + i, none⟩ = some u) := h2
  have HI1 : Hid (∀ x ∈ xs, RowAt 2 encPage w x.2.1 x.2.2 ∧ x.2.2.length ≤ 1048576) := fun x hx => ⟨hi1 x hx, hf1.2 x hx⟩
  have HI2 : Hid (∀ x ∈ ys, RowAt 2 encPage w x.2.1 x.2.2 ∧ x.2.2.length ≤ 1048576) := fun x hx => ⟨hi2 x hx, hf2.2 x hx⟩
  have hl := hf1.1
  clear h1 h2 hi1 hi2 hf1 hf2
  obtain ⟨n, hn⟩ : ∃ n, n = xs.length := ⟨_, rfl⟩
  have HN : Hid (n = xs.length ∧ n = ys.length) := ⟨hn, by omega⟩
  rw [← hn] at hl ⊢
  clear hn hlen
  go_enter Try.func53, Try.ntmps53
  go_wp2_with fail
  go_loopw [17] (fun i wr => ∃ k : Nat, k ≤ n ∧ i = .int .i64 k ∧ Below w.heap.size w wr ∧ ∀ j, j < k → (xs.map plPool)[j]? = (ys.map plPool)[j]?) (fun i _ => n - (intOf i).toNat)
  case atStart => exact ⟨0, by omega, rfl, Below.refl _ _, fun j hj => by omega⟩
  case round =>
    obtain ⟨k, hk, rfl, hbel, hq⟩ := hrel
    have HQ : Hid (∀ j, j < k → (xs.map plPool)[j]? = (ys.map plPool)[j]?) := hq
    clear hq
    by_cases hlt : k < n
    · obtain ⟨⟨m0, ⟨mv, ml⟩⟩, hx⟩ : ∃ x, xs[k]? = some x := ⟨_, List.getElem?_eq_getElem (by rw [← HN.out.1]; exact hlt)⟩
      obtain ⟨⟨p0, ⟨pv, pl⟩⟩, hy⟩ : ∃ x, ys[k]? = some x := ⟨_, List.getElem?_eq_getElem (by rw [← HN.out.2]; exact hlt)⟩
      obtain ⟨hr1, hml⟩ := HI1.out _ (List.mem_of_getElem? hx)
      obtain ⟨hr2, hpl⟩ := HI2.out _ (List.mem_of_getElem? hy)
      simp only at hr1 hml hr2 hpl
      obtain ⟨ma, mc, rfl⟩ := hr1.len
      obtain ⟨pa, pc, rfl⟩ := hr2.len
      obtain ⟨mn, hmn⟩ : ∃ t, t = ml.length := ⟨_, rfl⟩
      obtain ⟨pn, hpn⟩ : ∃ t, t = pl.length := ⟨_, rfl⟩
      rw [← hmn] at hr1 hx
      rw [← hpn] at hr2 hy
      have HRA : Hid (∀ w', Below wr.heap.size wr w' → RowAt 2 encPage w' (.slice ma mn mc) ml) := fun w' h => (hr1.keep hbel).keep h
      have HRB : Hid (∀ w', Below wr.heap.size wr w' → RowAt 2 encPage w' (.slice pa pn pc) pl) := fun w' h => (hr2.keep hbel).keep h
      have e0 : wr.cell? ⟨b1, o1 + k * 2, none⟩ = some (.int .i64 m0) := by rw [hbel.cell (p := ⟨b1, _, none⟩) hb1]; exact H1.out k _ hx 0 _ rfl
      have e1 : wr.cell? ⟨b1, o1 + k * 2 + 1, none⟩ = some (.slice ma mn mc) := by rw [hbel.cell (p := ⟨b1, _, none⟩) hb1]; exact H1.out k _ hx 1 _ rfl
      have f0 : wr.cell? ⟨b2, o2 + k * 2, none⟩ = some (.int .i64 p0) := by rw [hbel.cell (p := ⟨b2, _, none⟩) hb2]; exact H2.out k _ hy 0 _ rfl
      have f1 : wr.cell? ⟨b2, o2 + k * 2 + 1, none⟩ = some (.slice pa pn pc) := by rw [hbel.cell (p := ⟨b2, _, none⟩) hb2]; exact H2.out k _ hy 1 _ rfl
      have HX : Hid ((xs.map plPool)[k]? = some (m0, ml) ∧ (ys.map plPool)[k]? = some (p0, pl)) := ⟨by rw [List.getElem?_map, hx]; rfl, by rw [List.getElem?_map, hy]; rfl⟩
      have hq1 : b1 < wr.heap.size := Nat.lt_of_lt_of_le hb1 hbel.size
      have hq2 : b2 < wr.heap.size := Nat.lt_of_lt_of_le hb2 hbel.size
      have k0 : (0 : Int) ≤ (k : Int) := by omega
      have k1 : (k : Int) < (n : Int) := by omega
      have HB : Hid (Below w.heap.size w wr) := hbel
      have HML : Hid (ml.length ≤ 1048576 ∧ pl.length ≤ 1048576) := ⟨hml, hpl⟩
      clear hx hy hbel hr1 hr2 hmn hpn hml hpl
      go_wp2_with fail
      refine (impl_PoolSameN m0 p0 _ _ ml pl _ (HRA.out _ (by go_grown)) (HRB.out _ (by go_grown)) HML.out.1 HML.out.2).mono ?_
      rintro e w1 ⟨rfl, b1⟩
      have HB1 : Hid (Below w.heap.size w w1) := HB.out.trans ((Below.trans (by go_grown) (b1.mono (by simp; omega))).mono HB.out.size)
      clear b1
      cases hd : eqB (m0, ml) (p0, pl)
      · go_wp2_with fail
        go_ret
        refine ⟨?_, HB1.out⟩
        have : eqB (xs.map plPool) (ys.map plPool) = false := by
          rw [eqB_false] at hd ⊢
          intro h
          apply hd
          have h3 := HX.out.1
          rw [h, HX.out.2] at h3
          exact (Option.some.inj h3).symm
        rw [this]; rfl
      · go_wp2_with fail
        go_roundw
        case rel =>
          refine ⟨k + 1, by omega, by go_num, HB1.out, fun j hj => ?_⟩
          rcases Nat.lt_succ_iff_lt_or_eq.1 hj with h | rfl
          · exact HQ.out j h
          · rw [HX.out.1, HX.out.2, eqB_true.1 hd]
        case measure => simp [intOf]; omega
    · have hkn : k = n := by omega
      subst hkn
      go_wp2_with fail
      go_ret
      refine ⟨?_, hbel⟩
      have : xs.map plPool = ys.map plPool := by
        apply List.ext_getElem?
        intro j
        by_cases hj : j < k
        · exact HQ.out j hj
        · rw [List.getElem?_eq_none (by have := HN.out; simp; omega), List.getElem?_eq_none (by have := HN.out; simp; omega)]
      rw [eqB_true.2 this]; rfl
set_option maxHeartbeats 400000 in
theorem equalFuncPoolS_len (a1 a2 : Option Addr) (n1 c1 n2 c2 : Nat) (w : World) (h1 : n1 ≤ 1048576) (h2 : n2 ≤ 1048576) (hne : n1 ≠ n2) :
    Calls Try.prog 53 #[.slice a1 n1 c1, .slice a2 n2 c2, .func (.func 54) #[] #[]] w fun e w' => e = .returned (.bool false) ∧ w' = w := by
  have hd : ((n1 : Int) != (n2 : Int)) = true := by rw [bne_iff_ne]; omega
  clear hne
  go_enter Try.func53, Try.ntmps53
  go_wp2
  go_ret
  exact ⟨rfl, rfl⟩
set_option maxHeartbeats 400000 in
theorem equalFuncPoolS_empty (a1 a2 : Option Addr) (c1 c2 : Nat) (w : World) :
    Calls Try.prog 53 #[.slice a1 0 c1, .slice a2 0 c2, .func (.func 54) #[] #[]] w fun e w' => e = .returned (.bool true) ∧ w' = w := by
  go_enter Try.func53, Try.ntmps53
  go_wp2
  refine wp_loop_rounds 1 ?_
  rw [rounds_succ]
  go_wp2
  go_ret
  exact ⟨rfl, rfl⟩
theorem equalFuncPoolS (v1 v2 : Value) (xs ys : List (Int × (Value × List (Int × Int)))) (w : World) (h1 : AtPool w v1 xs) (h2 : AtPool w v2 ys) (hb1 : FewPool xs) (hb2 : FewPool ys) :
    Calls Try.prog 53 #[v1, v2, .func (.func 54) #[] #[]] w fun e w' => e = .returned (.bool (eqB (xs.map plPool) (ys.map plPool))) ∧ Below w.heap.size w w' := by
  obtain ⟨h1, i1⟩ := h1
  obtain ⟨h2, i2⟩ := h2
  by_cases hl : xs.length = ys.length
  · rcases h1 with ⟨rfl, a1, c1, rfl⟩ | ⟨p1, b1, o1, c1, rfl, l1, e1⟩
    · have hm : ys = [] := List.length_eq_zero_iff.1 (by simpa using hl.symm)
      subst hm
      obtain ⟨a2, c2, rfl⟩ := h2.len
      exact (equalFuncPoolS_empty a1 a2 c1 c2 w).mono (fun e w' h => ⟨by rw [h.1, eqB_true.2 rfl], by rw [h.2]; exact Below.refl _ _⟩)
    · rcases h2 with ⟨rfl, a2, c2, rfl⟩ | ⟨p2, b2, o2, c2, rfl, l2, e2⟩
      · simp at hl; subst hl; simp at p1
      · rw [← hl]
        exact equalFuncPoolS_some b1 o1 c1 b2 o2 c2 xs ys w hl hb1 hb2 l1 l2 i1 i2 e1 e2
  · have hf : eqB (xs.map plPool) (ys.map plPool) = false := by rw [eqB_false]; intro h; exact hl (by simpa using congrArg List.length h)
    rw [hf]
    obtain ⟨a1, c1, rfl⟩ := h1.len
    obtain ⟨a2, c2, rfl⟩ := h2.len
    exact (equalFuncPoolS_len a1 a2 _ c1 _ c2 w hb1.1 hb2.1 hl).mono (fun e w' h => ⟨h.1, by rw [h.2]; exact Below.refl _ _⟩)
end Go.Proofs.Ytnhacflknkgfgaa.Lab

/-
  Pools, the specification's side: l5At, PoolOk, l5Use, PoolUse, l5All, PoolAll.
-/
import Derived.Test.YtcifjildjiakgaaDoorPag
import Derived.Test.YtcifjildjiakgaaDoorPol
import Derived.Test.YtcifjildjiakgaaDoorUpl
import Derived.Laws.OwnMore
import Derived.Deep.RegionHeld3
import Derived.Deep.RegionLaw
import Derived.Deep.DrawnRows
import Derived.Deep.AppendLies
namespace Go.Proofs.YtcifjildjiakgaaDoor.Lab
open Go.RowKit
set_option linter.unusedVariables false
/-- Where a page is, or -1. -/
def atI (xs : List (Int × Int)) (x : Int × Int) : Int := match xs.findIdx? (fun y => eqB y x) with | some i => (i : Int) | none => -1
theorem atI_mem {xs : List (Int × Int)} {x : Int × Int} : (0 ≤ atI xs x) ↔ x ∈ xs := by
  unfold atI
  cases h : xs.findIdx? (fun y => eqB y x) with
  | none =>
    rw [List.findIdx?_eq_none_iff] at h
    constructor
    · intro h0; simp at h0
    · intro hx
      have := h x hx
      rw [eqB_true.2 rfl] at this; cases this
  | some i =>
    rw [List.findIdx?_eq_some_iff_getElem] at h
    obtain ⟨h1, h2, _⟩ := h
    constructor
    · intro _
      have := eqB_true.1 h2
      rw [← this]; exact List.getElem_mem h1
    · intro _; simp
set_option maxHeartbeats 2000000 in
theorem l5At_some (b off cap : Nat) (xs : List (Int × Int)) (x0 x1 : Int) (w : World) (hl : xs.length ≤ 1048576) (hb : b < w.heap.size)
    (hc : ∀ j x, xs[j]? = some x → ∀ i u, (encPage x)[i]? = some u → w.cell? ⟨b, off + j * 2 + i, none⟩ = some u) :
    Calls Tryd.prog 19 #[.slice (some ⟨b, off, none⟩) xs.length cap, .agg #[.int .i64 x0, .int .i64 x1]] w fun e w' => e = .returned (.int .i64 (atI xs (x0, x1))) ∧ Below w.heap.size w w' := by
  have HC : Hid (∀ j x, xs[j]? = some x → ∀ i u, (encPage x)[i]? = some u → w.cell? ⟨b, off + j * 2 + i, none⟩ = some u) := hc
  clear hc
  obtain ⟨n, hn⟩ : ∃ n, n = xs.length := ⟨_, rfl⟩
  have HN : Hid (n = xs.length) := hn
  rw [← hn] at hl ⊢
  clear hn
  obtain ⟨W0, hW0⟩ : ∃ W0, W0 = w.alloc (.cells #[.int .i64 x0, .int .i64 x1] 41) := ⟨_, rfl⟩
  have b0 : Below w.heap.size w W0 := by rw [hW0]; exact (Below.refl _ _).alloc (Nat.le_refl _) _
  have s0 : w.heap.size < W0.heap.size := by rw [hW0]; simp
  have p0 : W0.cell? ⟨w.heap.size, 0, none⟩ = some (.int .i64 x0) := by rw [hW0]; simp [go_sem]
  have p1 : W0.cell? ⟨w.heap.size, 1, none⟩ = some (.int .i64 x1) := by rw [hW0]; simp [go_sem]
  go_enter Tryd.func19, Tryd.ntmps19
  go_wp2_with fail
  simp only [← hW0]
  clear hW0
  go_loopw [5] (fun i wr => ∃ k : Nat, k ≤ n ∧ i = .int .i64 k ∧ Below W0.heap.size W0 wr ∧ ∀ j y, j < k → xs[j]? = some y → eqB y (x0, x1) = false) (fun i _ => n - (intOf i).toNat)
  case atStart => exact ⟨0, by omega, rfl, Below.refl _ _, fun j y hj => by omega⟩
  case round =>
    obtain ⟨k, hk, rfl, hbel, hq⟩ := hrel
    have HQ : Hid (∀ j y, j < k → xs[j]? = some y → eqB y (x0, x1) = false) := hq
    clear hq
    have hsz := hbel.size
    by_cases hlt : k < n
    · obtain ⟨⟨m0, m1⟩, hx⟩ : ∃ x, xs[k]? = some x := ⟨_, List.getElem?_eq_getElem (by rw [← HN.out]; exact hlt)⟩
      have e0 : wr.cell? ⟨b, off + k * 2, none⟩ = some (.int .i64 m0) := by rw [Below.celz hbel _ _ _ (by omega), Below.celz b0 _ _ _ hb]; exact HC.out k _ hx 0 _ rfl
      have e1 : wr.cell? ⟨b, off + k * 2 + 1, none⟩ = some (.int .i64 m1) := by rw [Below.celz hbel _ _ _ (by omega), Below.celz b0 _ _ _ hb]; exact HC.out k _ hx 1 _ rfl
      have q0 : wr.cell? ⟨w.heap.size, 0, none⟩ = some (.int .i64 x0) := (Below.celz hbel _ _ _ s0).trans p0
      have q1 : wr.cell? ⟨w.heap.size, 1, none⟩ = some (.int .i64 x1) := (Below.celz hbel _ _ _ s0).trans p1
      have z1 : b < wr.heap.size := by omega
      have z2 : w.heap.size < wr.heap.size := by omega
      have k0 : (0 : Int) ≤ (k : Int) := by omega
      have k1 : (k : Int) < (n : Int) := by omega
      have HX : Hid (xs[k]? = some (m0, m1)) := hx
      have HB : Hid (Below W0.heap.size W0 wr) := hbel
      have HB0 : Hid (Below w.heap.size w W0) := b0
      clear hx hbel
      by_cases h0 : m0 = x0
      · subst h0
        by_cases h1 : m1 = x1
        · subst h1
          go_wp2_with fail
          refine wp_region_after (by kernel_rfl) (by kernel_rfl) ?_
          intro hne hac
          repeat (go_big_quiet_step (fail))
          refine wpQuiet_nil ?_
          rintro _ ⟨p, rfl⟩
          have HB2 : Hid (Below w.heap.size w p.w) := HB0.out.trans ((HB.out.trans (p.bel.mono HB.out.size)).mono (by omega))
          clear hac hne
          generalize p.w = wq at *
          go_wp2_with fail
          go_ret
          refine ⟨?_, HB2.out⟩
          have : xs.findIdx? (fun y => eqB y (m0, m1)) = some k := by
            rw [List.findIdx?_eq_some_iff_getElem]
            obtain ⟨g1, g2⟩ := List.getElem?_eq_some_iff.1 HX.out
            refine ⟨g1, by rw [g2]; exact eqB_true.2 rfl, fun j hj => ?_⟩
            have := HQ.out j _ hj (List.getElem?_eq_getElem (by omega))
            rw [this]; simp
          simp only [atI, this]
          rfl
        · have HD : Hid (eqB (m0, m1) (m0, x1) = false) := by show _ = _; rw [eqB_false]; simp [h1]
          have d0 : (m1 == x1) = false := beq_eq_false_iff_ne.2 h1
          have d1 : decide (m1 = x1) = false := by simpa using h1
          clear h1
          go_wp2_with fail
          refine wp_region_after (by kernel_rfl) (by kernel_rfl) ?_
          intro hne hac
          repeat (go_big_quiet_step (fail))
          refine wpQuiet_nil ?_
          rintro _ ⟨p, rfl⟩
          have HB2 : Hid (Below W0.heap.size W0 p.w) := HB.out.trans (p.bel.mono HB.out.size)
          clear hac hne
          generalize p.w = wq at *
          go_wp2_with fail
          go_roundw
          case rel =>
            refine ⟨k + 1, by omega, by go_num, HB2.out, fun j y hj hy => ?_⟩
            rcases Nat.lt_succ_iff_lt_or_eq.1 hj with h | rfl
            · exact HQ.out j y h hy
            · rw [HX.out] at hy; cases hy; exact HD.out
          case measure => simp [intOf]; omega
      · have HD : Hid (eqB (m0, m1) (x0, x1) = false) := by show _ = _; rw [eqB_false]; simp [h0]
        have d0 : (m0 == x0) = false := beq_eq_false_iff_ne.2 h0
        have d1 : decide (m0 = x0) = false := by simpa using h0
        clear h0
        go_wp2_with fail
        refine wp_region_after (by kernel_rfl) (by kernel_rfl) ?_
        intro hne hac
        repeat (go_big_quiet_step (fail))
        refine wpQuiet_nil ?_
        rintro _ ⟨p, rfl⟩
        have HB2 : Hid (Below W0.heap.size W0 p.w) := HB.out.trans (p.bel.mono HB.out.size)
        clear hac hne
        generalize p.w = wq at *
        go_wp2_with fail
        go_roundw
        case rel =>
          refine ⟨k + 1, by omega, by go_num, HB2.out, fun j y hj hy => ?_⟩
          rcases Nat.lt_succ_iff_lt_or_eq.1 hj with h | rfl
          · exact HQ.out j y h hy
          · rw [HX.out] at hy; cases hy; exact HD.out
        case measure => simp [intOf]; omega
    · have hkn : n = k := by omega
      subst hkn
      go_wp2_with fail
      go_ret
      refine ⟨?_, b0.trans (hbel.mono (by omega))⟩
      have : xs.findIdx? (fun y => eqB y (x0, x1)) = none := by
        rw [List.findIdx?_eq_none_iff]
        intro y hy
        obtain ⟨j, hj⟩ := List.getElem?_of_mem hy
        have hjl := (List.getElem?_eq_some_iff.1 hj).1
        exact HQ.out j y (by have := HN.out; omega) hj
      simp only [atI, this]
      rfl
set_option maxHeartbeats 400000 in
theorem l5At_none (a : Option Addr) (cap : Nat) (x0 x1 : Int) (w : World) :
    Calls Tryd.prog 19 #[.slice a 0 cap, .agg #[.int .i64 x0, .int .i64 x1]] w fun e w' => e = .returned (.int .i64 (-1)) ∧ Below w.heap.size w w' := by
  go_enter Tryd.func19, Tryd.ntmps19
  go_wp2
  refine wp_loop_rounds 1 ?_
  rw [rounds_succ]
  go_wp2
  go_ret
  exact ⟨rfl, (Below.refl _ _).alloc (Nat.le_refl _) _⟩
theorem l5At (v : Value) (xs : List (Int × Int)) (x0 x1 : Int) (w : World) (h : RowAt 2 encPage w v xs) (hl : xs.length ≤ 1048576) :
    Calls Tryd.prog 19 #[v, .agg #[.int .i64 x0, .int .i64 x1]] w fun e w' => e = .returned (.int .i64 (atI xs (x0, x1))) ∧ Below w.heap.size w w' := by
  rcases h with ⟨rfl, a, cap, rfl⟩ | ⟨h0, b, off, cap, rfl, hb, hc⟩
  · exact l5At_none a cap x0 x1 w
  · exact l5At_some b off cap xs x0 x1 w hl hb hc
/-- A row with its capacity. -/
def RowC (w : World) (v : Value) (xs : List (Int × Int)) : Prop := RowAt 2 encPage w v xs ∧ ∃ a cap, v = .slice a xs.length cap ∧ xs.length ≤ cap
theorem RowC.keep {w w' : World} {v : Value} {xs : List (Int × Int)} (h : RowC w v xs) (hb : Below w.heap.size w w') : RowC w' v xs := ⟨h.1.keep hb, h.2⟩
theorem RowC.of_own {w : World} {base : Nat} {v : Value} {xs : List (Int × Int)} (h : OwnPool w base v xs) : RowC w v xs := by
  refine ⟨h.row, ?_⟩
  obtain ⟨_, ⟨hv, h0⟩ | ⟨g, cap, cur, hv, _, _, hc, _⟩⟩ := h
  · exact ⟨none, 0, by rw [hv, h0], by omega⟩
  · exact ⟨_, cap, hv, hc⟩
theorem row_take {α : Type} {s : Nat} {enc : α → List Value} {w : World} {a : Option Addr} {n c : Nat} {xs : List α} (h : RowAt s enc w (.slice a n c) xs) (k : Nat) (hk : k ≤ n) : RowAt s enc w (.slice a k c) (xs.take k) := by
  rcases h with ⟨rfl, a1, c1, hv⟩ | ⟨h0, b, off, cap, hv, hlt, hc⟩
  · simp only [Value.slice.injEq] at hv
    have : k = 0 := by omega
    subst this
    exact .inl ⟨by simp, a, c, rfl⟩
  · simp only [Value.slice.injEq] at hv
    obtain ⟨rfl, rfl, rfl⟩ := hv
    by_cases hk0 : k = 0
    · subst hk0; exact .inl ⟨by simp, _, _, rfl⟩
    · refine .inr ⟨by simp; omega, b, off, _, by simp [Nat.min_eq_left hk]; rfl, hlt, fun j x hx i u hu => ?_⟩
      rw [List.getElem?_take] at hx
      split at hx
      · exact hc j x hx i u hu
      · cases hx
theorem take_nodup {xs : List (Int × Int)} {k : Nat} {x : Int × Int} (h : xs[k]? = some x) : (xs.take (k + 1)).Nodup ↔ (xs.take k).Nodup ∧ x ∉ xs.take k := by
  rw [List.take_add_one, h, List.nodup_append]
  simp only [Option.toList_some, List.mem_singleton, forall_eq]
  constructor
  · rintro ⟨h1, _, h3⟩
    exact ⟨h1, fun hx => h3 x hx rfl⟩
  · rintro ⟨h1, h2⟩
    exact ⟨h1, by simp, fun a ha e => h2 (e ▸ ha)⟩
set_option maxHeartbeats 4000000 in
theorem spec_PoolOk_walk (z : Int) (a : Option Addr) (n cap : Nat) (xs : List (Int × Int)) (w : World) (HR : Hid (RowAt 2 encPage w (.slice a n cap) xs)) (HN : Hid (n = xs.length)) (hn : n ≤ 1048576) (hcap : n ≤ cap) :
    Calls Tryd.prog 9 #[.agg #[.int .i64 z, .slice a n cap]] w fun e w' => e = .returned (.bool (poolB z xs)) ∧ Below w.heap.size w w' := by
  by_cases hok : 0 ≤ z ∧ z ≤ 12 ∧ (n : Int) ≤ z
  rotate_left
  · have hb : poolB z xs = false := poolB_false.2 (fun h => hok ⟨h.1, h.2.1, by rw [HN.out]; exact h.2.2.1⟩)
    rw [hb]
    clear hb
    by_cases hz : 0 ≤ z
    · by_cases hz2 : z ≤ 12
      · have hz3 : ¬ (n : Int) ≤ z := fun h => hok ⟨hz, hz2, h⟩
        clear hok
        go_enter Tryd.func9, Tryd.ntmps9
        go_wp2_with fail
        go_ret
        exact ⟨rfl, (Below.refl _ _).alloc (Nat.le_refl _) _⟩
      · clear hok
        go_enter Tryd.func9, Tryd.ntmps9
        go_wp2_with fail
        go_ret
        exact ⟨rfl, (Below.refl _ _).alloc (Nat.le_refl _) _⟩
    · clear hok
      go_enter Tryd.func9, Tryd.ntmps9
      go_wp2_with fail
      go_ret
      exact ⟨rfl, (Below.refl _ _).alloc (Nat.le_refl _) _⟩
  obtain ⟨hz, hz2, hz3⟩ := hok
  obtain ⟨W0, hW0⟩ : ∃ W0, W0 = w.alloc (.cells #[.int .i64 z, .slice a n cap] 25) := ⟨_, rfl⟩
  have b0 : Below w.heap.size w W0 := by rw [hW0]; exact (Below.refl _ _).alloc (Nat.le_refl _) _
  have s0 : w.heap.size < W0.heap.size := by rw [hW0]; simp
  have p1 : W0.cell? ⟨w.heap.size, 1, none⟩ = some (.slice a n cap) := by rw [hW0]; simp [go_sem]
  have p0 : W0.cell? ⟨w.heap.size, 0, none⟩ = some (.int .i64 z) := by rw [hW0]; simp [go_sem]
  have HZ : Hid (0 ≤ z ∧ z ≤ 12 ∧ (n : Int) ≤ z) := ⟨hz, hz2, hz3⟩
  go_enter Tryd.func9, Tryd.ntmps9
  go_wp2_with fail
  simp only [← hW0]
  clear hW0
  go_loopw [3] (fun i wr => ∃ k : Nat, k ≤ n ∧ i = .int .i64 k ∧ Below W0.heap.size W0 wr ∧ (∀ x ∈ xs.take k, pageB x.1 x.2 = true) ∧ (xs.take k).Nodup) (fun i _ => n - (intOf i).toNat)
  case atStart => exact ⟨0, by omega, rfl, Below.refl _ _, by simp, by simp⟩
  case round =>
    obtain ⟨k, hk, rfl, hbel, hq1, hq2⟩ := hrel
    have HQ : Hid ((∀ x ∈ xs.take k, pageB x.1 x.2 = true) ∧ (xs.take k).Nodup) := ⟨hq1, hq2⟩
    clear hq1 hq2
    have hsz := hbel.size
    have g1 : wr.cell? ⟨w.heap.size, 1, none⟩ = some (.slice a n cap) := (Below.celz hbel _ _ _ s0).trans p1
    by_cases hlt : k < n
    · rcases HR.out with ⟨hz0, _⟩ | ⟨_, b, off, cap', hv, hb, hc⟩
      · have := HN.out; rw [hz0] at this; simp at this; omega
      simp only [Value.slice.injEq] at hv
      obtain ⟨rfl, -, hcc⟩ := hv
      subst hcc
      obtain ⟨⟨m0, m1⟩, hx⟩ : ∃ x, xs[k]? = some x := ⟨_, List.getElem?_eq_getElem (by rw [← HN.out]; exact hlt)⟩
      have e0 : wr.cell? ⟨b, off + k * 2, none⟩ = some (.int .i64 m0) := by rw [Below.celz hbel _ _ _ (by omega), Below.celz b0 _ _ _ hb]; exact hc k _ hx 0 _ rfl
      have e1 : wr.cell? ⟨b, off + k * 2 + 1, none⟩ = some (.int .i64 m1) := by rw [Below.celz hbel _ _ _ (by omega), Below.celz b0 _ _ _ hb]; exact hc k _ hx 1 _ rfl
      have z1 : b < wr.heap.size := by omega
      have z2 : w.heap.size < wr.heap.size := by omega
      have k0 : (0 : Int) ≤ (k : Int) := by omega
      have k1 : (k : Int) < (n : Int) := by omega
      have k2 : (k : Int) ≤ (cap : Int) := by omega
      have RW : Hid (∀ p : After wr, RowAt 2 encPage p.w (.slice (some ⟨b, off, none⟩) k cap) (xs.take k)) := fun p => by
        have hB : Below w.heap.size w p.w := (b0.trans (hbel.mono (by omega))).trans (p.bel.mono (by omega))
        have h := HR.out.keep hB
        exact row_take h k (by omega)
      have hle : (xs.take k).length ≤ 1048576 := by simp; omega
      have HX : Hid (xs[k]? = some (m0, m1)) := hx
      have HB : Hid (Below W0.heap.size W0 wr) := hbel
      have HB0 : Hid (Below w.heap.size w W0) := b0
      clear hx hbel hc
      cases hp : pageB m0 m1
      · have hb : poolB z xs = false := poolB_false.2 (fun h => by have := h.2.2.2.1 _ (List.mem_of_getElem? HX.out); rw [hp] at this; cases this)
        go_wp2_with fail
        refine wp_region_after (by kernel_rfl) (by kernel_rfl) ?_
        intro hne hac
        repeat (go_big_quiet_step (first | (go_at_call 18; exact after_at (x := pageB m0 m1) (y := false) hp (spec_PageOk m0 m1 _))))
        refine wpQuiet_nil ?_
        rintro _ ⟨p, rfl⟩
        have HB2 : Hid (Below W0.heap.size W0 p.w) := HB.out.trans (p.bel.mono HB.out.size)
        clear hac hne
        generalize p.w = wq at *
        go_wp2_with fail
        go_ret
        exact ⟨by rw [hb]; rfl, HB0.out.trans (HB2.out.mono (by omega))⟩
      · by_cases hx0 : 0 ≤ atI (xs.take k) (m0, m1)
        · have hb : poolB z xs = false := poolB_false.2 (fun h => by
            have hm := atI_mem.1 hx0
            have h2 := h.2.2.2.2.sublist (List.take_sublist (k + 1) xs)
            exact ((take_nodup HX.out).1 h2).2 hm)
          go_wp2_with fail
          refine wp_region_after (by kernel_rfl) (by kernel_rfl) ?_
          intro hne hac
          repeat (go_big_quiet_step (first | (go_at_call 18; exact after_at (x := pageB m0 m1) (y := true) hp (spec_PageOk m0 m1 _)) | (go_at_call 19; exact after_of (l5At _ (xs.take k) m0 m1 _ (RW.out _) hle))))
          refine wpQuiet_nil ?_
          rintro _ ⟨p, rfl⟩
          have HB2 : Hid (Below W0.heap.size W0 p.w) := HB.out.trans (p.bel.mono HB.out.size)
          clear hac hne
          generalize p.w = wq at *
          go_wp2_with fail
          go_ret
          exact ⟨by rw [hb]; rfl, HB0.out.trans (HB2.out.mono (by omega))⟩
        · have hneg : atI (xs.take k) (m0, m1) < 0 := by omega
          go_wp2_with fail
          refine wp_region_after (by kernel_rfl) (by kernel_rfl) ?_
          intro hne hac
          repeat (go_big_quiet_step (first | (go_at_call 18; exact after_at (x := pageB m0 m1) (y := true) hp (spec_PageOk m0 m1 _)) | (go_at_call 19; exact after_of (l5At _ (xs.take k) m0 m1 _ (RW.out _) hle))))
          refine wpQuiet_nil ?_
          rintro _ ⟨p, rfl⟩
          have HB2 : Hid (Below W0.heap.size W0 p.w) := HB.out.trans (p.bel.mono HB.out.size)
          clear hac hne
          generalize p.w = wq at *
          go_wp2_with fail
          go_roundw
          case rel =>
            refine ⟨k + 1, by omega, by go_num, HB2.out, fun x hx => ?_, (take_nodup HX.out).2 ⟨HQ.out.2, fun h => by have := atI_mem.2 h; omega⟩⟩
            rw [List.take_add_one, HX.out] at hx
            rcases List.mem_append.1 hx with h | h
            · exact HQ.out.1 x h
            · simp at h; subst h; exact hp
          case measure => simp [intOf]; omega
    · have hkn : n = k := by omega
      subst hkn
      have hb : poolB z xs = true := poolB_true.2 ⟨HZ.out.1, HZ.out.2.1, by rw [← HN.out]; exact HZ.out.2.2, by
        have h := HQ.out
        rw [HN.out, List.take_length] at h
        exact h⟩
      have HB : Hid (Below w.heap.size w wr) := b0.trans (hbel.mono (by omega))
      clear hbel
      go_wp2_with fail
      go_ret
      exact ⟨by rw [hb]; rfl, HB.out⟩
theorem spec_PoolOk (z : Int) (v : Value) (xs : List (Int × Int)) (w : World) (h : RowC w v xs) (hl : xs.length ≤ 1048576) :
    Calls Tryd.prog 9 #[.agg #[.int .i64 z, v]] w fun e w' => e = .returned (.bool (poolB z xs)) ∧ Below w.heap.size w w' := by
  obtain ⟨h1, a, cap, rfl, hc⟩ := h
  exact spec_PoolOk_walk z a xs.length cap xs w h1 rfl hl hc
end Go.Proofs.YtcifjildjiakgaaDoor.Lab

/-
  The specification's functions on graphs: which edge comes first, where a node stands, how many of a label there are. (Written by tools/mkspg.py.)
-/
import Derived.Test.YtlnpbfeihjfnjaaGreatDoorGro
namespace Go.Proofs.YtlnpbfeihjfnjaaGreatDoor.Lab
open Go.RowKit
set_option linter.unusedVariables false
/-- An edge comes ahead of another one, reckoned whatever they are. -/
def lessB (l al an bl bn l2 al2 an2 bl2 bn2 : Int) : Bool :=
  if l ≠ l2 then decide (l < l2) else if ¬ (al = al2 ∧ an = an2) then decide (codeW al an < codeW al2 an2) else decide (codeW bl bn < codeW bl2 bn2)
set_option maxHeartbeats 2000000 in
theorem l2Less (l al an bl bn l2 al2 an2 bl2 bn2 : Int) (w : World) :
    Calls Tryz.prog 41 #[.agg #[.int .i64 l, .int .i64 al, .int .i64 an, .int .i64 bl, .int .i64 bn], .agg #[.int .i64 l2, .int .i64 al2, .int .i64 an2, .int .i64 bl2, .int .i64 bn2]] w fun e w' => e = .returned (.bool (lessB l al an bl bn l2 al2 an2 bl2 bn2)) ∧ Below w.heap.size w w' := by
  have b0 : ∀ o1 o2, Below w.heap.size w ((w.alloc o1).alloc o2) := fun o1 o2 => by go_grown
  by_cases h : l = l2
  · subst h
    by_cases ha : al = al2 ∧ an = an2
    · obtain ⟨rfl, rfl⟩ := ha
      have HL : Hid (lessB l al an bl bn l al an bl2 bn2 = decide (codeW bl bn < codeW bl2 bn2)) := by show lessB l al an bl bn l al an bl2 bn2 = _; simp [lessB]
      go_enter Tryz.func41, Tryz.ntmps41
      go_wp2_with fail
      refine wp_region_after (by kernel_rfl) (by kernel_rfl) ?_
      intro hne hac
      repeat (go_big_quiet_step (first | (go_at_call_of 39 (Value.agg #[.int .i64 bl, .int .i64 bn]); exact after_of (l2Code bl bn _)) | (go_at_call_of 39 (Value.agg #[.int .i64 bl2, .int .i64 bn2]); exact after_of (l2Code bl2 bn2 _))))
      refine wpQuiet_nil ?_
      rintro _ ⟨p, rfl⟩
      have hb : Hid (Below w.heap.size w p.w) := (b0 _ _).trans (p.bel.mono (by simp; omega))
      clear hne hac
      generalize p.w = wq at *
      go_wp2_with fail
      go_ret
      exact ⟨by rw [HL.out]; rfl, hb.out⟩
    · have HL : Hid (lessB l al an bl bn l al2 an2 bl2 bn2 = decide (codeW al an < codeW al2 an2)) := by show lessB l al an bl bn l al2 an2 bl2 bn2 = _; simp only [lessB, ne_eq, not_true_eq_false, if_false, if_pos ha]
      by_cases h1 : al = al2
      · subst h1
        have h2 : (an == an2) = false := beq_eq_false_iff_ne.2 (fun h => ha ⟨rfl, h⟩)
        clear ha
        go_enter Tryz.func41, Tryz.ntmps41
        go_wp2_with fail
        refine wp_region_after (by kernel_rfl) (by kernel_rfl) ?_
        intro hne hac
        repeat (go_big_quiet_step (first | (go_at_call_of 39 (Value.agg #[.int .i64 al, .int .i64 an]); exact after_of (l2Code al an _)) | (go_at_call_of 39 (Value.agg #[.int .i64 al, .int .i64 an2]); exact after_of (l2Code al an2 _))))
        refine wpQuiet_nil ?_
        rintro _ ⟨p, rfl⟩
        have hb : Hid (Below w.heap.size w p.w) := (b0 _ _).trans (p.bel.mono (by simp; omega))
        clear hne hac
        generalize p.w = wq at *
        go_wp2_with fail
        go_ret
        exact ⟨by rw [HL.out]; rfl, hb.out⟩
      · have h2 : (al == al2) = false := beq_eq_false_iff_ne.2 h1
        clear ha h1
        go_enter Tryz.func41, Tryz.ntmps41
        go_wp2_with fail
        refine wp_region_after (by kernel_rfl) (by kernel_rfl) ?_
        intro hne hac
        repeat (go_big_quiet_step (first | (go_at_call_of 39 (Value.agg #[.int .i64 al, .int .i64 an]); exact after_of (l2Code al an _)) | (go_at_call_of 39 (Value.agg #[.int .i64 al2, .int .i64 an2]); exact after_of (l2Code al2 an2 _))))
        refine wpQuiet_nil ?_
        rintro _ ⟨p, rfl⟩
        have hb : Hid (Below w.heap.size w p.w) := (b0 _ _).trans (p.bel.mono (by simp; omega))
        clear hne hac
        generalize p.w = wq at *
        go_wp2_with fail
        go_ret
        exact ⟨by rw [HL.out]; rfl, hb.out⟩
  · have HL : Hid (lessB l al an bl bn l2 al2 an2 bl2 bn2 = decide (l < l2)) := by show lessB l al an bl bn l2 al2 an2 bl2 bn2 = _; simp only [lessB, ne_eq, if_pos h]
    have h2 : (l != l2) = true := by simpa using h
    clear h
    go_enter Tryz.func41, Tryz.ntmps41
    go_wp2_with fail
    go_ret
    exact ⟨by rw [HL.out]; rfl, b0 _ _⟩
/-- Where a node stands in a list, reckoned on from i; -1, if it is not there. -/
def atN : List (Int × Int) → Int × Int → Nat → Int
  | [], _, _ => -1
  | y :: ys, x, i => if y = x then i else atN ys x (i + 1)
theorem atN_first {x : Int × Int} : ∀ (ns : List (Int × Int)) (i k : Nat), (∀ j, j < k → ns[j]? ≠ some x) → ns[k]? = some x → atN ns x i = ((i + k : Nat) : Int)
  | [], i, k, _, h => by simp at h
  | y :: ys, i, 0, _, h => by simp at h; simp [atN, h]
  | y :: ys, i, k + 1, hn, h => by
    have h0 : ¬ y = x := fun h => hn 0 (by omega) (by simp [h])
    rw [atN, if_neg h0, atN_first ys (i + 1) k (fun j hj => by simpa using hn (j + 1) (by omega)) (by simpa using h)]
    have : i + 1 + k = i + (k + 1) := by omega
    rw [this]
theorem atN_none {x : Int × Int} : ∀ (ns : List (Int × Int)) (i : Nat), (∀ j, j < ns.length → ns[j]? ≠ some x) → atN ns x i = -1
  | [], i, _ => rfl
  | y :: ys, i, hn => by
    have h0 : ¬ y = x := fun h => hn 0 (by simp) (by simp [h])
    rw [atN, if_neg h0]
    exact atN_none ys (i + 1) (fun j hj => by simpa using hn (j + 1) (by simpa using hj))
theorem atN_sign {x : Int × Int} : ∀ (ns : List (Int × Int)) (i : Nat), decide (atN ns x i < 0) = !decide (x ∈ ns)
  | [], i => by simp [atN]
  | y :: ys, i => by
    by_cases h : y = x
    · subst h; simp [atN]
    · have h' : ¬ x = y := fun e => h e.symm
      rw [atN, if_neg h, atN_sign ys (i + 1)]
      simp [h']
set_option maxHeartbeats 4000000 in
theorem l2At (a1 a2 : Option Addr) (n m c1 c2 : Nat) (ns : List (Int × Int)) (l nn : Int) (w : World) (h1 : RowAt 2 encNode w (.slice a1 n c1) ns) (hN : n = ns.length) (hn : n ≤ 1048576) :
    Calls Tryz.prog 42 #[.agg #[.slice a1 n c1, .slice a2 m c2], .agg #[.int .i64 l, .int .i64 nn]] w fun e w' => e = .returned (.int .i64 (atN ns (l, nn) 0)) ∧ Below w.heap.size w w' := by
  have H1 : Hid (RowAt 2 encNode w (.slice a1 n c1) ns) := h1
  have HN0 : Hid (n = ns.length) := hN
  clear h1 hN
  obtain ⟨W0, hW0⟩ : ∃ W0, W0 = (w.alloc (.cells #[.slice a1 n c1, .slice a2 m c2] 26)).alloc (.cells #[.int .i64 l, .int .i64 nn] 46) := ⟨_, rfl⟩
  have b0 : Below w.heap.size w W0 := by rw [hW0]; go_grown
  have hW : W0.heap.size = w.heap.size + 2 := by rw [hW0]; simp
  have G0 : W0.cell? ⟨w.heap.size, 0, none⟩ = some (.slice a1 n c1) := by rw [hW0]; simp [go_sem]
  have F0 : W0.cell? ⟨w.heap.size + 1, 0, none⟩ = some (.int .i64 l) := by rw [hW0]; simp [go_sem]
  have F1 : W0.cell? ⟨w.heap.size + 1, 1, none⟩ = some (.int .i64 nn) := by rw [hW0]; simp [go_sem]
  go_enter Tryz.func42, Tryz.ntmps42
  go_wp2_with fail
  simp only [← hW0]
  clear hW0
  go_loopw [5] (fun i wr => ∃ k : Nat, k ≤ n ∧ i = .int .i64 k ∧ Below W0.heap.size W0 wr ∧ ∀ j, j < k → ns[j]? ≠ some (l, nn)) (fun i _ => n - (intOf i).toNat)
  case atStart => exact ⟨0, by omega, rfl, Below.refl _ _, fun j hj => by omega⟩
  case round =>
    obtain ⟨k, hk, rfl, hbel, hq⟩ := hrel
    have HQ : Hid (∀ j, j < k → ns[j]? ≠ some (l, nn)) := hq
    clear hq
    have g0 : wr.cell? ⟨w.heap.size, 0, none⟩ = some (.slice a1 n c1) := by rw [Below.celz hbel _ _ _ (by omega)]; exact G0
    have f0 : wr.cell? ⟨w.heap.size + 1, 0, none⟩ = some (.int .i64 l) := by rw [Below.celz hbel _ _ _ (by omega)]; exact F0
    have f1 : wr.cell? ⟨w.heap.size + 1, 1, none⟩ = some (.int .i64 nn) := by rw [Below.celz hbel _ _ _ (by omega)]; exact F1
    have z0 : w.heap.size < wr.heap.size := by have := hbel.size; omega
    have z1 : w.heap.size + 1 < wr.heap.size := by have := hbel.size; omega
    by_cases hlt : k < n
    · rcases H1.out with ⟨hz, _⟩ | ⟨_, b1, o1, q1, hv1, hb1, E1⟩
      · rw [hz] at HN0; have := HN0.out; simp at this; omega
      obtain rfl : a1 = some ⟨b1, o1, none⟩ := by injection hv1
      obtain ⟨⟨m0, m1⟩, hx⟩ : ∃ x, ns[k]? = some x := ⟨_, List.getElem?_eq_getElem (by rw [← HN0.out]; exact hlt)⟩
      have e0 : wr.cell? ⟨b1, o1 + k * 2, none⟩ = some (.int .i64 m0) := by rw [Below.celz hbel _ _ _ (by omega), Below.celz b0 _ _ _ (by omega)]; exact E1 k _ hx 0 _ rfl
      have e1 : wr.cell? ⟨b1, o1 + k * 2 + 1, none⟩ = some (.int .i64 m1) := by rw [Below.celz hbel _ _ _ (by omega), Below.celz b0 _ _ _ (by omega)]; exact E1 k _ hx 1 _ rfl
      have HX : Hid (ns[k]? = some (m0, m1)) := hx
      have z2 : b1 < wr.heap.size := by omega
      have k0 : (0 : Int) ≤ (k : Int) := by omega
      have k1 : (k : Int) < (n : Int) := by omega
      have HB : Hid (Below W0.heap.size W0 wr) := hbel
      clear hx hbel E1 hv1
      by_cases h0 : m0 = l
      · subst h0
        by_cases h2 : m1 = nn
        · subst h2
          go_wp2_with fail
          refine wp_region_after (by kernel_rfl) (by kernel_rfl) ?_
          intro hne hac
          repeat (go_big_quiet_step (fail))
          refine wpQuiet_nil ?_
          rintro _ ⟨p, rfl⟩
          have hbq : Hid (Below W0.heap.size W0 p.w) := HB.out.trans (p.bel.mono (by have := HB.out.size; omega))
          clear hac hne
          generalize p.w = wq at *
          go_wp2_with fail
          go_ret
          have HA : atN ns (m0, m1) 0 = ((0 + k : Nat) : Int) := atN_first ns 0 k HQ.out HX.out
          exact ⟨by rw [HA]; simp, b0.trans (hbq.out.mono (by omega))⟩
        · have HD : Hid (¬ m1 = nn) := h2
          have d0 : (m1 == nn) = false := beq_eq_false_iff_ne.2 h2
          clear h2
          go_wp2_with fail
          refine wp_region_after (by kernel_rfl) (by kernel_rfl) ?_
          intro hne hac
          repeat (go_big_quiet_step (fail))
          refine wpQuiet_nil ?_
          rintro _ ⟨p, rfl⟩
          have hbq : Hid (Below W0.heap.size W0 p.w) := HB.out.trans (p.bel.mono (by have := HB.out.size; omega))
          clear hac hne
          generalize p.w = wq at *
          go_wp2_with fail
          go_roundw
          case rel =>
            refine ⟨k + 1, by omega, by go_num, hbq.out, fun j hj => ?_⟩
            rcases Nat.lt_succ_iff_lt_or_eq.1 hj with h | rfl
            · exact HQ.out j h
            · rw [HX.out]; intro h; simp at h; exact HD.out h
          case measure => simp [intOf]; omega
      · have HD : Hid (¬ m0 = l) := h0
        have d0 : (m0 == l) = false := beq_eq_false_iff_ne.2 h0
        clear h0
        go_wp2_with fail
        refine wp_region_after (by kernel_rfl) (by kernel_rfl) ?_
        intro hne hac
        repeat (go_big_quiet_step (fail))
        refine wpQuiet_nil ?_
        rintro _ ⟨p, rfl⟩
        have hbq : Hid (Below W0.heap.size W0 p.w) := HB.out.trans (p.bel.mono (by have := HB.out.size; omega))
        clear hac hne
        generalize p.w = wq at *
        go_wp2_with fail
        go_roundw
        case rel =>
          refine ⟨k + 1, by omega, by go_num, hbq.out, fun j hj => ?_⟩
          rcases Nat.lt_succ_iff_lt_or_eq.1 hj with h | rfl
          · exact HQ.out j h
          · rw [HX.out]; intro h; simp at h; exact HD.out h.1
        case measure => simp [intOf]; omega
    · have hkn : n = k := by omega
      subst hkn
      have HA : Hid (atN ns (l, nn) 0 = -1) := atN_none ns 0 (fun j hj => HQ.out j (by have := HN0.out; omega))
      go_wp2_with fail
      go_ret
      exact ⟨by rw [HA.out]; rfl, b0.trans (hbel.mono (by omega))⟩
/-- How many of a list have a label. -/
def cntNode (a : Int) (xs : List (Int × Int)) : Nat := xs.countP (fun x => x.1 == a)
theorem cntNode_le (a : Int) (xs : List (Int × Int)) (k : Nat) : cntNode a (xs.take k) ≤ k := Nat.le_trans List.countP_le_length (by simp; omega)
theorem cntNode_step {a : Int} {xs : List (Int × Int)} {k : Nat} {x : Int × Int} (h : xs[k]? = some x) : cntNode a (xs.take (k + 1)) = cntNode a (xs.take k) + (if x.1 == a then 1 else 0) := by
  unfold cntNode
  rw [List.take_add_one, h, List.countP_append]
  simp [List.countP_cons]
set_option maxHeartbeats 4000000 in
theorem l2Nodes (a1 a2 : Option Addr) (n m c1 c2 : Nat) (xs : List (Int × Int)) (a : Int) (w : World) (h1 : RowAt 2 encNode w (.slice a1 n c1) xs) (hN : n = xs.length) (hn : n ≤ 1048576) :
    Calls Tryz.prog 43 #[.agg #[.slice a1 n c1, .slice a2 m c2], .int .i64 a] w fun e w' => e = .returned (.int .i64 (cntNode a xs)) ∧ Below w.heap.size w w' := by
  have H1 : Hid (RowAt 2 encNode w (.slice a1 n c1) xs) := h1
  have HN0 : Hid (n = xs.length) := hN
  clear h1 hN
  obtain ⟨W0, hW0⟩ : ∃ W0, W0 = w.alloc (.cells #[.slice a1 n c1, .slice a2 m c2] 26) := ⟨_, rfl⟩
  have b0 : Below w.heap.size w W0 := by rw [hW0]; go_grown
  have hW : W0.heap.size = w.heap.size + 1 := by rw [hW0]; simp
  have G0 : W0.cell? ⟨w.heap.size, 0, none⟩ = some (.slice a1 n c1) := by rw [hW0]; simp [go_sem]
  go_enter Tryz.func43, Tryz.ntmps43
  go_wp2_with fail
  simp only [← hW0]
  clear hW0
  go_loop [5, 6] (fun q i => ∃ k : Nat, k ≤ n ∧ i = .int .i64 k ∧ q = .int .i64 (cntNode a (xs.take k))) (fun _ i => n - (intOf i).toNat)
  case atStart => exact ⟨0, by omega, rfl, by simp [cntNode]⟩
  case round =>
    obtain ⟨k, hk, rfl, rfl⟩ := hrel
    have hle := cntNode_le a xs k
    by_cases hlt : k < n
    · rcases H1.out with ⟨hz, _⟩ | ⟨_, b1, o1, q1, hv1, hb1, E1⟩
      · rw [hz] at HN0; have := HN0.out; simp at this; omega
      obtain rfl : a1 = some ⟨b1, o1, none⟩ := by injection hv1
      obtain ⟨⟨m0, m1⟩, hx⟩ : ∃ x, xs[k]? = some x := ⟨_, List.getElem?_eq_getElem (by rw [← HN0.out]; exact hlt)⟩
      have e0 : W0.cell? ⟨b1, o1 + k * 2, none⟩ = some (.int .i64 m0) := by rw [Below.celz b0 _ _ _ (by omega)]; exact E1 k _ hx 0 _ rfl
      have HS := cntNode_step (a := a) hx
      have z2 : b1 < W0.heap.size := by omega
      have k0 : (0 : Int) ≤ (k : Int) := by omega
      have k1 : (k : Int) < (n : Int) := by omega
      clear hx E1 hv1
      generalize hq : cntNode a (xs.take k) = q at *
      clear hq
      by_cases h0 : m0 = a
      · subst h0
        have HS2 : Hid (cntNode m0 (xs.take (k + 1)) = q + 1) := by show cntNode m0 (xs.take (k + 1)) = q + 1; rw [HS]; simp
        clear HS
        go_wp2_with fail
        go_round
        case rel => exact ⟨k + 1, by omega, by go_num, by rw [HS2.out]; go_num⟩
        case measure => simp [intOf]; omega
      · have d0 : (m0 == a) = false := beq_eq_false_iff_ne.2 h0
        have HS2 : Hid (cntNode a (xs.take (k + 1)) = q) := by show cntNode a (xs.take (k + 1)) = q; rw [HS, d0]; simp
        clear HS h0
        go_wp2_with fail
        go_round
        case rel => exact ⟨k + 1, by omega, by go_num, by rw [HS2.out]⟩
        case measure => simp [intOf]; omega
    · have hkn : n = k := by omega
      subst hkn
      have HA : Hid (cntNode a (xs.take n) = cntNode a xs) := by show cntNode a (xs.take n) = cntNode a xs; rw [HN0.out, List.take_length]
      go_wp2_with fail
      go_ret
      exact ⟨by rw [← HA.out]; rfl, b0⟩
/-- How many of a list have a label. -/
def cntEdge (a : Int) (xs : List (Int × Int × Int × Int × Int)) : Nat := xs.countP (fun x => x.1 == a)
theorem cntEdge_le (a : Int) (xs : List (Int × Int × Int × Int × Int)) (k : Nat) : cntEdge a (xs.take k) ≤ k := Nat.le_trans List.countP_le_length (by simp; omega)
theorem cntEdge_step {a : Int} {xs : List (Int × Int × Int × Int × Int)} {k : Nat} {x : Int × Int × Int × Int × Int} (h : xs[k]? = some x) : cntEdge a (xs.take (k + 1)) = cntEdge a (xs.take k) + (if x.1 == a then 1 else 0) := by
  unfold cntEdge
  rw [List.take_add_one, h, List.countP_append]
  simp [List.countP_cons]
set_option maxHeartbeats 4000000 in
theorem l2Edges (a1 a2 : Option Addr) (n m c1 c2 : Nat) (xs : List (Int × Int × Int × Int × Int)) (a : Int) (w : World) (h1 : RowAt 5 encEdge w (.slice a2 m c2) xs) (hN : m = xs.length) (hn : m ≤ 1048576) :
    Calls Tryz.prog 44 #[.agg #[.slice a1 n c1, .slice a2 m c2], .int .i64 a] w fun e w' => e = .returned (.int .i64 (cntEdge a xs)) ∧ Below w.heap.size w w' := by
  have H1 : Hid (RowAt 5 encEdge w (.slice a2 m c2) xs) := h1
  have HN0 : Hid (m = xs.length) := hN
  clear h1 hN
  obtain ⟨W0, hW0⟩ : ∃ W0, W0 = w.alloc (.cells #[.slice a1 n c1, .slice a2 m c2] 26) := ⟨_, rfl⟩
  have b0 : Below w.heap.size w W0 := by rw [hW0]; go_grown
  have hW : W0.heap.size = w.heap.size + 1 := by rw [hW0]; simp
  have G0 : W0.cell? ⟨w.heap.size, 1, none⟩ = some (.slice a2 m c2) := by rw [hW0]; simp [go_sem]
  go_enter Tryz.func44, Tryz.ntmps44
  go_wp2_with fail
  simp only [← hW0]
  clear hW0
  go_loop [5, 6] (fun q i => ∃ k : Nat, k ≤ m ∧ i = .int .i64 k ∧ q = .int .i64 (cntEdge a (xs.take k))) (fun _ i => m - (intOf i).toNat)
  case atStart => exact ⟨0, by omega, rfl, by simp [cntEdge]⟩
  case round =>
    obtain ⟨k, hk, rfl, rfl⟩ := hrel
    have hle := cntEdge_le a xs k
    by_cases hlt : k < m
    · rcases H1.out with ⟨hz, _⟩ | ⟨_, b1, o1, q1, hv1, hb1, E1⟩
      · rw [hz] at HN0; have := HN0.out; simp at this; omega
      obtain rfl : a2 = some ⟨b1, o1, none⟩ := by injection hv1
      obtain ⟨⟨m0, m1, m2, m3, m4⟩, hx⟩ : ∃ x, xs[k]? = some x := ⟨_, List.getElem?_eq_getElem (by rw [← HN0.out]; exact hlt)⟩
      have e0 : W0.cell? ⟨b1, o1 + k * 5, none⟩ = some (.int .i64 m0) := by rw [Below.celz b0 _ _ _ (by omega)]; exact E1 k _ hx 0 _ rfl
      have HS := cntEdge_step (a := a) hx
      have z2 : b1 < W0.heap.size := by omega
      have k0 : (0 : Int) ≤ (k : Int) := by omega
      have k1 : (k : Int) < (m : Int) := by omega
      clear hx E1 hv1
      generalize hq : cntEdge a (xs.take k) = q at *
      clear hq
      by_cases h0 : m0 = a
      · subst h0
        have HS2 : Hid (cntEdge m0 (xs.take (k + 1)) = q + 1) := by show cntEdge m0 (xs.take (k + 1)) = q + 1; rw [HS]; simp
        clear HS
        go_wp2_with fail
        go_round
        case rel => exact ⟨k + 1, by omega, by go_num, by rw [HS2.out]; go_num⟩
        case measure => simp [intOf]; omega
      · have d0 : (m0 == a) = false := beq_eq_false_iff_ne.2 h0
        have HS2 : Hid (cntEdge a (xs.take (k + 1)) = q) := by show cntEdge a (xs.take (k + 1)) = q; rw [HS, d0]; simp
        clear HS h0
        go_wp2_with fail
        go_round
        case rel => exact ⟨k + 1, by omega, by go_num, by rw [HS2.out]⟩
        case measure => simp [intOf]; omega
    · have hkn : m = k := by omega
      subst hkn
      have HA : Hid (cntEdge a (xs.take m) = cntEdge a xs) := by show cntEdge a (xs.take m) = cntEdge a xs; rw [HN0.out, List.take_length]
      go_wp2_with fail
      go_ret
      exact ⟨by rw [← HA.out]; rfl, b0⟩
end Go.Proofs.YtlnpbfeihjfnjaaGreatDoor.Lab

/-
  A graph without a node, and its edges: spec.l2Off. (Written by tools/mkoff.py.)
-/
import Derived.Test.YtlnpbfeihjfnjaaGreatDoorVie
namespace Go.Proofs.YtlnpbfeihjfnjaaGreatDoor.Lab
open Go.RowKit Go.ChangeMaps
set_option linter.unusedVariables false
attribute [local go_sem ↓] Go.wp_at_zero Go.wp_at_succ
/-- All nodes but one; all edges but those that have it. -/
def offN (x : Nd) (ns : List Nd) : List Nd := ns.filter (fun y => !eqB y x)
def hasG (x : Nd) (e : Ed) : Bool := eqB (e.2.1, e.2.2.1) x || eqB (e.2.2.2.1, e.2.2.2.2) x
def offG (x : Nd) (es : List Ed) : List Ed := es.filter (fun e => !hasG x e)
theorem offN_le (x : Nd) (xs : List Nd) : (offN x xs).length ≤ xs.length := List.length_filter_le _ _
theorem offG_le (x : Nd) (xs : List Ed) : (offG x xs).length ≤ xs.length := List.length_filter_le _ _
theorem offN_out {c y : Nd} {xs : List Nd} {k : Nat} (h : xs[k]? = some y) (hu : y = c) : offN c (xs.take (k + 1)) = offN c (xs.take k) := by
  unfold offN; rw [List.take_add_one, h, List.filter_append]; simp [eqB, hu]
theorem offN_in {c y : Nd} {xs : List Nd} {k : Nat} (h : xs[k]? = some y) (hu : ¬ y = c) : offN c (xs.take (k + 1)) = offN c (xs.take k) ++ [y] := by
  unfold offN; rw [List.take_add_one, h, List.filter_append]; simp [eqB, hu]
theorem offG_out {c : Nd} {y : Ed} {xs : List Ed} {k : Nat} (h : xs[k]? = some y) (hu : hasG c y = true) : offG c (xs.take (k + 1)) = offG c (xs.take k) := by
  unfold offG; rw [List.take_add_one, h, List.filter_append]; simp [hu]
theorem offG_in {c : Nd} {y : Ed} {xs : List Ed} {k : Nat} (h : xs[k]? = some y) (hu : hasG c y = false) : offG c (xs.take (k + 1)) = offG c (xs.take k) ++ [y] := by
  unfold offG; rw [List.take_add_one, h, List.filter_append]; simp [hu]
theorem appOffN {c x : Nd} {xs : List Nd} {k : Nat} {w1 : World} {base : Nat} {v' : Value} (h : xs[k]? = some x) (hu : ¬ x = c)
    (ho : w1.ownsRow base 46 2 v' ((offN c (xs.take k)).length + 1) ((offN c (xs.take k)).flatMap encNode ++ encNode x)) : w1.ownsRow base 46 2 v' (offN c (xs.take (k + 1))).length ((offN c (xs.take (k + 1))).flatMap encNode) := by
  rw [offN_in h hu]; simpa [List.flatMap_append] using ho
theorem appOffE {c : Nd} {x : Ed} {xs : List Ed} {k : Nat} {w1 : World} {base : Nat} {v' : Value} (h : xs[k]? = some x) (hu : hasG c x = false)
    (ho : w1.ownsRow base 48 5 v' ((offG c (xs.take k)).length + 1) ((offG c (xs.take k)).flatMap encEdge ++ encEdge x)) : w1.ownsRow base 48 5 v' (offG c (xs.take (k + 1))).length ((offG c (xs.take (k + 1))).flatMap encEdge) := by
  rw [offG_in h hu]; simpa [List.flatMap_append] using ho
set_option maxRecDepth 8000 in
set_option maxHeartbeats 8000000 in
theorem l2Off_walk (a1 a2 : Option Addr) (n m c1 c2 : Nat) (l nn : Int) (ns : List Nd) (es : List Ed) (w : World) (h1 : RowAt 2 encNode w (.slice a1 n c1) ns) (h2 : RowAt 5 encEdge w (.slice a2 m c2) es) (hN : n = ns.length) (hM : m = es.length) (hn : n ≤ 1048576) (hm : m ≤ 1048576) :
    Calls Tryz.prog 113 #[.agg #[.slice a1 n c1, .slice a2 m c2], .agg #[.int .i64 l, .int .i64 nn]] w fun e w' => ∃ u1 u2, e = .returned (.agg #[u1, u2]) ∧ OwnGraph w' w.heap.size u1 u2 (offN (l, nn) ns) (offG (l, nn) es) ∧ Below w.heap.size w w' := by
  have H1 : Hid (RowAt 2 encNode w (.slice a1 n c1) ns) := h1
  have H2 : Hid (RowAt 5 encEdge w (.slice a2 m c2) es) := h2
  have HN0 : Hid (n = ns.length) := hN
  have HN1 : Hid (m = es.length) := hM
  clear h1 h2 hN hM
  obtain ⟨iN, jN, zN0, zN1, zN2⟩ := info_parts Tryz.infoNode
  obtain ⟨iE, jE, zE0, zE1, zE2⟩ := info_parts Tryz.infoEdge
  obtain ⟨W0, hW0⟩ : ∃ W0, W0 = (((((w.alloc (.cells #[.slice a1 n c1, .slice a2 m c2] 26)).alloc (.cells #[.int .i64 l, .int .i64 nn] 46)).alloc (.cells #[.slice none 0 0, .slice none 0 0] 26)).alloc (.cells #[] 46)).alloc (.cells #[] 48)).alloc (.cells #[.slice (some ⟨w.heap.size + 1 + 1 + 1, 0, none⟩) 0 0, .slice (some ⟨w.heap.size + 1 + 1 + 1 + 1, 0, none⟩) 0 0] 26) := ⟨_, rfl⟩
  obtain ⟨S, hS⟩ : ∃ S, S = w.heap.size + 1 + 1 + 1 + 1 + 1 := ⟨_, rfl⟩
  obtain ⟨P, hP⟩ : ∃ P, P = w.heap.size + 1 + 1 + 1 := ⟨_, rfl⟩
  obtain ⟨Q, hQ⟩ : ∃ Q, Q = w.heap.size + 1 + 1 + 1 + 1 := ⟨_, rfl⟩
  have BW : Hid (Below w.heap.size w W0) := by show Below w.heap.size w W0; rw [hW0]; go_grown
  have z0 : W0.heap.size = S + 1 := by rw [hW0, hS]; simp
  have t0 : W0.heap[S]? = some (.cells #[.slice (some ⟨P, 0, none⟩) 0 0, .slice (some ⟨Q, 0, none⟩) 0 0] 26 (0, 0)) := by rw [hW0, hP, hQ]; exact new_at (by rw [hS]; simp)
  have tP : W0.heap[P]? = some (.cells #[] 46 (0, 0)) := by rw [hW0, Below.heap_alloc _ _ _ (by simp; omega), Below.heap_alloc _ _ _ (by simp; omega)]; exact new_at (by rw [hP]; simp)
  have tQ : W0.heap[Q]? = some (.cells #[] 48 (0, 0)) := by rw [hW0, Below.heap_alloc _ _ _ (by simp; omega)]; exact new_at (by rw [hQ]; simp)
  have F0 : W0.cell? ⟨w.heap.size + 1, 0, none⟩ = some (.int .i64 l) := by rw [hW0]; simp [go_sem]
  have F1 : W0.cell? ⟨w.heap.size + 1, 1, none⟩ = some (.int .i64 nn) := by rw [hW0]; simp [go_sem]
  have G0 : W0.cell? ⟨w.heap.size, 0, none⟩ = some (.slice a1 n c1) := by rw [hW0]; simp [go_sem]
  have G1 : W0.cell? ⟨w.heap.size, 1, none⟩ = some (.slice a2 m c2) := by rw [hW0]; simp [go_sem]
  have Q0 : W0.cell? ⟨w.heap.size + 1 + 1, 0, none⟩ = some (.slice none 0 0) := by rw [hW0]; simp [go_sem]
  have Q1 : W0.cell? ⟨w.heap.size + 1 + 1, 1, none⟩ = some (.slice none 0 0) := by rw [hW0]; simp [go_sem]
  have QF : ∀ o, W0.frozen? ⟨w.heap.size + 1 + 1, o, none⟩ = false := fun o => by rw [hW0]; simp [go_sem]
  have HS : Hid (S = w.heap.size + 1 + 1 + 1 + 1 + 1) := hS
  have HW0 : Hid (W0 = (((((w.alloc (.cells #[.slice a1 n c1, .slice a2 m c2] 26)).alloc (.cells #[.int .i64 l, .int .i64 nn] 46)).alloc (.cells #[.slice none 0 0, .slice none 0 0] 26)).alloc (.cells #[] 46)).alloc (.cells #[] 48)).alloc (.cells #[.slice (some ⟨w.heap.size + 1 + 1 + 1, 0, none⟩) 0 0, .slice (some ⟨w.heap.size + 1 + 1 + 1 + 1, 0, none⟩) 0 0] 26)) := hW0
  have HPQ : Hid (P = w.heap.size + 3 ∧ Q = w.heap.size + 4 ∧ S = w.heap.size + 5) := ⟨hP, hQ, hS⟩
  clear hS hW0 hP hQ
  go_enter Tryz.func113, Tryz.ntmps113
  go_wp2_with fail
  rw [← HW0.out, ← HS.out]
  clear HW0 HS
  have s1 : w.heap.size + 1 + 1 < P := by have := HPQ.out; omega
  have s2 : P < Q := by have := HPQ.out; omega
  have s3 : Q < S := by have := HPQ.out; omega
  go_loopw [6] (fun i wr => ∃ (k : Nat) (v : Value), k ≤ n ∧ i = .int .i64 k ∧ Below P W0 wr ∧ wr.heap[S]? = some (.cells #[v, .slice (some ⟨Q, 0, none⟩) 0 0] 26 (0, 0)) ∧ wr.heap[Q]? = some (.cells #[] 48 (0, 0)) ∧ wr.ownsRow P 46 2 v (offN (l, nn) (ns.take k)).length ((offN (l, nn) (ns.take k)).flatMap encNode) ∧ ∀ g, v.ownBlock = some g → g ≠ S ∧ g ≠ Q) (fun i _ => n - (intOf i).toNat)
  case atStart => exact ⟨0, _, by omega, rfl, Below.refl _ _, t0, tQ, ⟨rfl, .inr ⟨P, 0, #[], rfl, Nat.le_refl _, tP, Nat.le_refl _, by simp, rfl, rfl⟩⟩, fun g hg => by simp [Value.ownBlock] at hg; omega⟩
  case round =>
    obtain ⟨k, v, hk, rfl, hbel, hblk, hblQ, hown, hap⟩ := hrel
    have hsz := hbel.size
    have g0 : wr.cell? ⟨w.heap.size, 0, none⟩ = some (.slice a1 n c1) := by rw [Below.celz hbel _ _ _ (by omega)]; exact G0
    have z1 : w.heap.size < wr.heap.size := by omega
    have f0 : wr.cell? ⟨w.heap.size + 1, 0, none⟩ = some (.int .i64 l) := by rw [Below.celz hbel _ _ _ (by omega)]; exact F0
    have f1 : wr.cell? ⟨w.heap.size + 1, 1, none⟩ = some (.int .i64 nn) := by rw [Below.celz hbel _ _ _ (by omega)]; exact F1
    have zf : w.heap.size + 1 < wr.heap.size := by omega
    by_cases hlt : k < n
    · rcases H1.out with ⟨hz, _⟩ | ⟨_, b1, o1, q1, hv1, hb1, E1⟩
      · rw [hz] at HN0; have := HN0.out; simp at this; omega
      obtain rfl : a1 = some ⟨b1, o1, none⟩ := by injection hv1
      obtain ⟨⟨m0, m1⟩, hx⟩ : ∃ x, ns[k]? = some x := ⟨_, List.getElem?_eq_getElem (by rw [← HN0.out]; exact hlt)⟩
      have e0 : wr.cell? ⟨b1, o1 + k * 2, none⟩ = some (.int .i64 m0) := by rw [Below.celz hbel _ _ _ (by omega), Below.celz BW.out _ _ _ hb1]; exact E1 k _ hx 0 _ rfl
      have e1 : wr.cell? ⟨b1, o1 + k * 2 + 1, none⟩ = some (.int .i64 m1) := by rw [Below.celz hbel _ _ _ (by omega), Below.celz BW.out _ _ _ hb1]; exact E1 k _ hx 1 _ rfl
      have hle : (offN (l, nn) (ns.take k)).length ≤ k := Nat.le_trans (offN_le _ _) (by simp; omega)
      have z2 : b1 < wr.heap.size := by omega
      have z3 : S < wr.heap.size := by omega
      have k0 : (0 : Int) ≤ (k : Int) := by omega
      have k1 : (k : Int) < (n : Int) := by omega
      have HX : Hid (ns[k]? = some (m0, m1)) := hx
      have HB : Hid (Below P W0 wr) := hbel
      have HAP : Hid (∀ g, v.ownBlock = some g → g ≠ S ∧ g ≠ Q) := hap
      clear hx hbel E1 hv1 hap
      by_cases h0 : l = m0
      · subst h0
        by_cases h1 : nn = m1
        · subst h1
          go_wp2_with fail
          refine wp_region_after (by kernel_rfl) (by kernel_rfl) ?_
          intro hne hac
          repeat (go_big_quiet_step (fail))
          refine wpQuiet_nil ?_
          rintro _ ⟨p, rfl⟩
          have bq : Below wr.heap.size wr p.w := p.bel
          clear hac hne
          generalize p.w = wq at *
          have sq := bq.size
          have HBQ : Hid (Below P W0 wq) := HB.out.trans (bq.mono (by omega))
          have g0' : wq.cell? ⟨w.heap.size, 0, none⟩ = some (.slice (some ⟨b1, o1, none⟩) n c1) := (Below.celz bq _ _ _ z1).trans g0
          have hblk' : wq.heap[S]? = some (.cells #[v, .slice (some ⟨Q, 0, none⟩) 0 0] 26 (0, 0)) := (bq.block S z3).trans hblk
          have hblQ' : wq.heap[Q]? = some (.cells #[] 48 (0, 0)) := (bq.block Q (by omega)).trans hblQ
          have hown' : wq.ownsRow P 46 2 v (offN (l, nn) (ns.take k)).length ((offN (l, nn) (ns.take k)).flatMap encNode) := own_keep hown bq
          have e0' : wq.cell? ⟨b1, o1 + k * 2, none⟩ = some (.int .i64 l) := (Below.celz bq _ _ _ z2).trans e0
          have e1' : wq.cell? ⟨b1, o1 + k * 2 + 1, none⟩ = some (.int .i64 nn) := (Below.celz bq _ _ _ z2).trans e1
          have z1' : w.heap.size < wq.heap.size := by omega
          have z2' : b1 < wq.heap.size := by omega
          have z3' : S < wq.heap.size := by omega
          clear g0 hblk hblQ hown e0 e1 z1 z2 z3 HB
          have g0 := g0'
          have hblk := hblk'
          have hblQ := hblQ'
          have hown := hown'
          have e0 := e0'
          have e1 := e1'
          have z1 := z1'
          have z2 := z2'
          have z3 := z3'
          have HB : Hid (Below P W0 wq) := HBQ.out
          clear g0' hblk' hblQ' hown' e0' e1' z1' z2' z3' bq
          have HV : Hid (offN (l, nn) (ns.take (k + 1)) = offN (l, nn) (ns.take k)) := offN_out HX.out rfl
          have HO : Hid (wq.heap[S]? = some (.cells #[v, .slice (some ⟨Q, 0, none⟩) 0 0] 26 (0, 0)) ∧ wq.heap[Q]? = some (.cells #[] 48 (0, 0)) ∧ wq.ownsRow P 46 2 v (offN (l, nn) (ns.take k)).length ((offN (l, nn) (ns.take k)).flatMap encNode)) := ⟨hblk, hblQ, hown⟩
          clear hblk hblQ hown
          go_wp2_with fail
          go_roundw
          case rel => exact ⟨k + 1, v, by omega, by go_num, HB.out, HO.out.1, HO.out.2.1, by rw [HV.out]; exact HO.out.2.2, HAP.out⟩
          case measure => simp [intOf]; omega
        · have HU : Hid (¬ (l, m1) = (l, nn)) := fun e => h1 (by simp at e; exact e.symm)
          have d0 : (m1 == nn) = false := beq_eq_false_iff_ne.2 (fun e => h1 e.symm)
          clear h1
          go_wp2_with fail
          refine wp_region_after (by kernel_rfl) (by kernel_rfl) ?_
          intro hne hac
          repeat (go_big_quiet_step (fail))
          refine wpQuiet_nil ?_
          rintro _ ⟨p, rfl⟩
          have bq : Below wr.heap.size wr p.w := p.bel
          clear hac hne
          generalize p.w = wq at *
          have sq := bq.size
          have HBQ : Hid (Below P W0 wq) := HB.out.trans (bq.mono (by omega))
          have g0' : wq.cell? ⟨w.heap.size, 0, none⟩ = some (.slice (some ⟨b1, o1, none⟩) n c1) := (Below.celz bq _ _ _ z1).trans g0
          have hblk' : wq.heap[S]? = some (.cells #[v, .slice (some ⟨Q, 0, none⟩) 0 0] 26 (0, 0)) := (bq.block S z3).trans hblk
          have hblQ' : wq.heap[Q]? = some (.cells #[] 48 (0, 0)) := (bq.block Q (by omega)).trans hblQ
          have hown' : wq.ownsRow P 46 2 v (offN (l, nn) (ns.take k)).length ((offN (l, nn) (ns.take k)).flatMap encNode) := own_keep hown bq
          have e0' : wq.cell? ⟨b1, o1 + k * 2, none⟩ = some (.int .i64 l) := (Below.celz bq _ _ _ z2).trans e0
          have e1' : wq.cell? ⟨b1, o1 + k * 2 + 1, none⟩ = some (.int .i64 m1) := (Below.celz bq _ _ _ z2).trans e1
          have z1' : w.heap.size < wq.heap.size := by omega
          have z2' : b1 < wq.heap.size := by omega
          have z3' : S < wq.heap.size := by omega
          clear g0 hblk hblQ hown e0 e1 z1 z2 z3 HB
          have g0 := g0'
          have hblk := hblk'
          have hblQ := hblQ'
          have hown := hown'
          have e0 := e0'
          have e1 := e1'
          have z1 := z1'
          have z2 := z2'
          have z3 := z3'
          have HB : Hid (Below P W0 wq) := HBQ.out
          clear g0' hblk' hblQ' hown' e0' e1' z1' z2' z3' bq
          have g2 : wq.cell? ⟨S, 0, none⟩ = some v := by rw [cell_block hblk]; rfl
          have hf : wq.frozen? ⟨S, 0, none⟩ = false := free_block hblk
          obtain ⟨xa, xc, rfl⟩ := own_form hown
          have HK : Hid (wq.heap[S]? = some (.cells #[.slice xa (offN (l, nn) (ns.take k)).length xc, .slice (some ⟨Q, 0, none⟩) 0 0] 26 (0, 0)) ∧ wq.heap[Q]? = some (.cells #[] 48 (0, 0))) := ⟨hblk, hblQ⟩
          have lt0 := fun g hg => (hown.lt g hg).1
          have LT : Hid (∀ g, (Value.slice xa (offN (l, nn) (ns.take k)).length xc).ownBlock = some g → P ≤ g) := lt0
          have ap1 : some S ≠ (Value.slice xa (offN (l, nn) (ns.take k)).length xc).ownBlock := fun h => (HAP.out _ h.symm).1 rfl
          have ap2 : some w.heap.size ≠ (Value.slice xa (offN (l, nn) (ns.take k)).length xc).ownBlock := fun h => by have := LT.out _ h.symm; omega
          have ap3 : some b1 ≠ (Value.slice xa (offN (l, nn) (ns.take k)).length xc).ownBlock := fun h => by have := LT.out _ h.symm; omega
          have hS : Hid (∀ w', Below wq.heap.size wq w' → w'.cell? ⟨S, 0, none⟩ = some (.slice xa (offN (l, nn) (ns.take k)).length xc) ∧ w'.frozen? ⟨S, 0, none⟩ = false) :=
            fun w' hn => ⟨(Below.celz hn _ _ _ z3).trans g2, (Below.froz hn _ _ _ z3).trans hf⟩
          clear hblk lt0 hblQ
          go_wp2_with fail
          go_region_law
            ((refine step_append_lies _ (by rfl) _ _ _ (by rfl) P 46 iN _ 2 16 Tryz.underlying23 jN zN0 zN1 zN2 rfl (by omega) (.slice xa (offN (l, nn) (ns.take k)).length xc) _ _ (by rfl) ((hown.alloc _).drew) ⟨wq.heap.size, 0, none⟩ 1 1 [.int .i64 l, .int .i64 m1] (by rfl) (by rfl) (World.news_of_block (cs := #[.int .i64 l, .int .i64 m1]) (t := 46) (fr := (0, 0)) (heap_alloc_new wq _)) (by simp [Value.oneCell']) (by omega) (by unfold maxLen; omega) (by omega) (by simp; omega) (wq.heap.size + 1) (by simp) ?_; intro gg cap w3 hown1 hgrow hat hlt3; have g3 := hgrow.cell (hS.out _ ((Below.alloc (Below.refl wq.heap.size wq) (Nat.le_refl _) (.cells #[.int .i64 l, .int .i64 m1] 46)).drew)).1 ap1; have f3 : w3.frozen? ⟨S, 0, none⟩ = false := by rw [hgrow.frozen_far _ (by simp; omega) ap1]; exact (hS.out _ ((Below.alloc (Below.refl wq.heap.size wq) (Nat.le_refl _) (.cells #[.int .i64 l, .int .i64 m1] 46)).drew)).2))
          all_goals (
            have ap4 : (Value.slice (some ⟨gg, 0, none⟩) ((offN (l, nn) (ns.take k)).length + 1) cap).ownBlock ≠ some S := fun h => by
              simp only [Value.ownBlock, Option.some.injEq] at h
              rcases hat with h5 | h5
              · exact (HAP.out _ h5).1 h
              · omega
            have ap5 : ∀ g, (Value.slice (some ⟨gg, 0, none⟩) ((offN (l, nn) (ns.take k)).length + 1) cap).ownBlock = some g → g ≠ S ∧ g ≠ Q := fun g hg => by
              simp only [Value.ownBlock, Option.some.injEq] at hg
              subst hg
              rcases hat with h5 | h5
              · exact HAP.out _ h5
              · omega
            obtain ⟨r1, r2, r3, r4⟩ := app_step (j := 0) HB.out ((Below.alloc (Below.refl wq.heap.size wq) (Nat.le_refl _) (.cells #[.int .i64 l, .int .i64 m1] 46)).drew) (by omega) HK.out.1 LT.out (by omega) (fun h => ap1 h.symm) hgrow (appOffN HX.out HU.out hown1) ap4
            have R : Hid (Below P W0 (w3.setCell ⟨S, 0, none⟩ (.slice (some ⟨gg, 0, none⟩) ((offN (l, nn) (ns.take k)).length + 1) cap)) ∧ (w3.setCell ⟨S, 0, none⟩ (.slice (some ⟨gg, 0, none⟩) ((offN (l, nn) (ns.take k)).length + 1) cap)).heap[S]? = some (.cells #[.slice (some ⟨gg, 0, none⟩) ((offN (l, nn) (ns.take k)).length + 1) cap, .slice (some ⟨Q, 0, none⟩) 0 0] 26 (0, 0)) ∧ (w3.setCell ⟨S, 0, none⟩ (.slice (some ⟨gg, 0, none⟩) ((offN (l, nn) (ns.take k)).length + 1) cap)).heap[Q]? = some (.cells #[] 48 (0, 0)) ∧ (w3.setCell ⟨S, 0, none⟩ (.slice (some ⟨gg, 0, none⟩) ((offN (l, nn) (ns.take k)).length + 1) cap)).ownsRow P 46 2 (.slice (some ⟨gg, 0, none⟩) ((offN (l, nn) (ns.take k)).length + 1) cap) (offN (l, nn) (ns.take (k + 1))).length ((offN (l, nn) (ns.take (k + 1))).flatMap encNode) ∧ ∀ g, (Value.slice (some ⟨gg, 0, none⟩) ((offN (l, nn) (ns.take k)).length + 1) cap).ownBlock = some g → g ≠ S ∧ g ≠ Q) :=
              ⟨r1, r2, (r4 Q (by omega) (fun h => (HAP.out _ h).2 rfl) (by omega)).trans HK.out.2, r3, ap5⟩
            clear r1 r2 r3 r4 ap4 ap5 hown1 hgrow hat hown g2 hf e0 e1 g3 f3
            go_wp2_with fail
            go_roundw
            case rel => exact ⟨k + 1, _, by omega, by go_num, R.out⟩
            case measure => simp [intOf]; omega)
      · have HU : Hid (¬ (m0, m1) = (l, nn)) := fun e => h0 (by simp at e; exact e.1.symm)
        have d0 : (m0 == l) = false := beq_eq_false_iff_ne.2 (fun e => h0 e.symm)
        clear h0
        go_wp2_with fail
        refine wp_region_after (by kernel_rfl) (by kernel_rfl) ?_
        intro hne hac
        repeat (go_big_quiet_step (fail))
        refine wpQuiet_nil ?_
        rintro _ ⟨p, rfl⟩
        have bq : Below wr.heap.size wr p.w := p.bel
        clear hac hne
        generalize p.w = wq at *
        have sq := bq.size
        have HBQ : Hid (Below P W0 wq) := HB.out.trans (bq.mono (by omega))
        have g0' : wq.cell? ⟨w.heap.size, 0, none⟩ = some (.slice (some ⟨b1, o1, none⟩) n c1) := (Below.celz bq _ _ _ z1).trans g0
        have hblk' : wq.heap[S]? = some (.cells #[v, .slice (some ⟨Q, 0, none⟩) 0 0] 26 (0, 0)) := (bq.block S z3).trans hblk
        have hblQ' : wq.heap[Q]? = some (.cells #[] 48 (0, 0)) := (bq.block Q (by omega)).trans hblQ
        have hown' : wq.ownsRow P 46 2 v (offN (l, nn) (ns.take k)).length ((offN (l, nn) (ns.take k)).flatMap encNode) := own_keep hown bq
        have e0' : wq.cell? ⟨b1, o1 + k * 2, none⟩ = some (.int .i64 m0) := (Below.celz bq _ _ _ z2).trans e0
        have e1' : wq.cell? ⟨b1, o1 + k * 2 + 1, none⟩ = some (.int .i64 m1) := (Below.celz bq _ _ _ z2).trans e1
        have z1' : w.heap.size < wq.heap.size := by omega
        have z2' : b1 < wq.heap.size := by omega
        have z3' : S < wq.heap.size := by omega
        clear g0 hblk hblQ hown e0 e1 z1 z2 z3 HB
        have g0 := g0'
        have hblk := hblk'
        have hblQ := hblQ'
        have hown := hown'
        have e0 := e0'
        have e1 := e1'
        have z1 := z1'
        have z2 := z2'
        have z3 := z3'
        have HB : Hid (Below P W0 wq) := HBQ.out
        clear g0' hblk' hblQ' hown' e0' e1' z1' z2' z3' bq
        have g2 : wq.cell? ⟨S, 0, none⟩ = some v := by rw [cell_block hblk]; rfl
        have hf : wq.frozen? ⟨S, 0, none⟩ = false := free_block hblk
        obtain ⟨xa, xc, rfl⟩ := own_form hown
        have HK : Hid (wq.heap[S]? = some (.cells #[.slice xa (offN (l, nn) (ns.take k)).length xc, .slice (some ⟨Q, 0, none⟩) 0 0] 26 (0, 0)) ∧ wq.heap[Q]? = some (.cells #[] 48 (0, 0))) := ⟨hblk, hblQ⟩
        have lt0 := fun g hg => (hown.lt g hg).1
        have LT : Hid (∀ g, (Value.slice xa (offN (l, nn) (ns.take k)).length xc).ownBlock = some g → P ≤ g) := lt0
        have ap1 : some S ≠ (Value.slice xa (offN (l, nn) (ns.take k)).length xc).ownBlock := fun h => (HAP.out _ h.symm).1 rfl
        have ap2 : some w.heap.size ≠ (Value.slice xa (offN (l, nn) (ns.take k)).length xc).ownBlock := fun h => by have := LT.out _ h.symm; omega
        have ap3 : some b1 ≠ (Value.slice xa (offN (l, nn) (ns.take k)).length xc).ownBlock := fun h => by have := LT.out _ h.symm; omega
        have hS : Hid (∀ w', Below wq.heap.size wq w' → w'.cell? ⟨S, 0, none⟩ = some (.slice xa (offN (l, nn) (ns.take k)).length xc) ∧ w'.frozen? ⟨S, 0, none⟩ = false) :=
          fun w' hn => ⟨(Below.celz hn _ _ _ z3).trans g2, (Below.froz hn _ _ _ z3).trans hf⟩
        clear hblk lt0 hblQ
        go_wp2_with fail
        go_region_law
          ((refine step_append_lies _ (by rfl) _ _ _ (by rfl) P 46 iN _ 2 16 Tryz.underlying23 jN zN0 zN1 zN2 rfl (by omega) (.slice xa (offN (l, nn) (ns.take k)).length xc) _ _ (by rfl) ((hown.alloc _).drew) ⟨wq.heap.size, 0, none⟩ 1 1 [.int .i64 m0, .int .i64 m1] (by rfl) (by rfl) (World.news_of_block (cs := #[.int .i64 m0, .int .i64 m1]) (t := 46) (fr := (0, 0)) (heap_alloc_new wq _)) (by simp [Value.oneCell']) (by omega) (by unfold maxLen; omega) (by omega) (by simp; omega) (wq.heap.size + 1) (by simp) ?_; intro gg cap w3 hown1 hgrow hat hlt3; have g3 := hgrow.cell (hS.out _ ((Below.alloc (Below.refl wq.heap.size wq) (Nat.le_refl _) (.cells #[.int .i64 m0, .int .i64 m1] 46)).drew)).1 ap1; have f3 : w3.frozen? ⟨S, 0, none⟩ = false := by rw [hgrow.frozen_far _ (by simp; omega) ap1]; exact (hS.out _ ((Below.alloc (Below.refl wq.heap.size wq) (Nat.le_refl _) (.cells #[.int .i64 m0, .int .i64 m1] 46)).drew)).2))
        all_goals (
          have ap4 : (Value.slice (some ⟨gg, 0, none⟩) ((offN (l, nn) (ns.take k)).length + 1) cap).ownBlock ≠ some S := fun h => by
            simp only [Value.ownBlock, Option.some.injEq] at h
            rcases hat with h5 | h5
            · exact (HAP.out _ h5).1 h
            · omega
          have ap5 : ∀ g, (Value.slice (some ⟨gg, 0, none⟩) ((offN (l, nn) (ns.take k)).length + 1) cap).ownBlock = some g → g ≠ S ∧ g ≠ Q := fun g hg => by
            simp only [Value.ownBlock, Option.some.injEq] at hg
            subst hg
            rcases hat with h5 | h5
            · exact HAP.out _ h5
            · omega
          obtain ⟨r1, r2, r3, r4⟩ := app_step (j := 0) HB.out ((Below.alloc (Below.refl wq.heap.size wq) (Nat.le_refl _) (.cells #[.int .i64 m0, .int .i64 m1] 46)).drew) (by omega) HK.out.1 LT.out (by omega) (fun h => ap1 h.symm) hgrow (appOffN HX.out HU.out hown1) ap4
          have R : Hid (Below P W0 (w3.setCell ⟨S, 0, none⟩ (.slice (some ⟨gg, 0, none⟩) ((offN (l, nn) (ns.take k)).length + 1) cap)) ∧ (w3.setCell ⟨S, 0, none⟩ (.slice (some ⟨gg, 0, none⟩) ((offN (l, nn) (ns.take k)).length + 1) cap)).heap[S]? = some (.cells #[.slice (some ⟨gg, 0, none⟩) ((offN (l, nn) (ns.take k)).length + 1) cap, .slice (some ⟨Q, 0, none⟩) 0 0] 26 (0, 0)) ∧ (w3.setCell ⟨S, 0, none⟩ (.slice (some ⟨gg, 0, none⟩) ((offN (l, nn) (ns.take k)).length + 1) cap)).heap[Q]? = some (.cells #[] 48 (0, 0)) ∧ (w3.setCell ⟨S, 0, none⟩ (.slice (some ⟨gg, 0, none⟩) ((offN (l, nn) (ns.take k)).length + 1) cap)).ownsRow P 46 2 (.slice (some ⟨gg, 0, none⟩) ((offN (l, nn) (ns.take k)).length + 1) cap) (offN (l, nn) (ns.take (k + 1))).length ((offN (l, nn) (ns.take (k + 1))).flatMap encNode) ∧ ∀ g, (Value.slice (some ⟨gg, 0, none⟩) ((offN (l, nn) (ns.take k)).length + 1) cap).ownBlock = some g → g ≠ S ∧ g ≠ Q) :=
            ⟨r1, r2, (r4 Q (by omega) (fun h => (HAP.out _ h).2 rfl) (by omega)).trans HK.out.2, r3, ap5⟩
          clear r1 r2 r3 r4 ap4 ap5 hown1 hgrow hat hown g2 hf e0 e1 g3 f3
          go_wp2_with fail
          go_roundw
          case rel => exact ⟨k + 1, _, by omega, by go_num, R.out⟩
          case measure => simp [intOf]; omega)
    · have hkn : n = k := by omega
      subst hkn
      obtain ⟨xa, xc, rfl⟩ := own_form hown
      have HV1 : Hid (offN (l, nn) (ns.take n) = offN (l, nn) ns) := by show offN (l, nn) (ns.take n) = offN (l, nn) ns; rw [HN0.out, List.take_length]
      generalize hp : (offN (l, nn) (ns.take n)).length = p1 at *
      have HP1 : Hid ((offN (l, nn) (ns.take n)).length = p1) := hp
      clear hp
      have HA : Hid (Below P W0 wr ∧ wr.heap[S]? = some (.cells #[.slice xa p1 xc, .slice (some ⟨Q, 0, none⟩) 0 0] 26 (0, 0)) ∧ wr.heap[Q]? = some (.cells #[] 48 (0, 0)) ∧ wr.ownsRow P 46 2 (.slice xa p1 xc) p1 ((offN (l, nn) (ns.take n)).flatMap encNode) ∧ ∀ g, (Value.slice xa p1 xc).ownBlock = some g → g ≠ S ∧ g ≠ Q) := ⟨hbel, hblk, hblQ, hown, hap⟩
      clear hbel hblk hblQ hown hap t0 tP tQ
      go_wp2_with fail
      clear g0 z1
      go_loopw [7] (fun i wr => ∃ (k : Nat) (u : Value), k ≤ m ∧ i = .int .i64 k ∧ Below P W0 wr ∧ wr.heap[S]? = some (.cells #[.slice xa p1 xc, u] 26 (0, 0)) ∧ wr.ownsRow P 46 2 (.slice xa p1 xc) p1 ((offN (l, nn) (ns.take n)).flatMap encNode) ∧ wr.ownsRow P 48 5 u (offG (l, nn) (es.take k)).length ((offG (l, nn) (es.take k)).flatMap encEdge) ∧ (∀ g, u.ownBlock = some g → g ≠ S) ∧ ∀ g, (Value.slice xa p1 xc).ownBlock = some g → u.ownBlock ≠ some g) (fun i _ => m - (intOf i).toNat)
      case atStart => exact ⟨0, _, by omega, rfl, HA.out.1, HA.out.2.1, HA.out.2.2.2.1, ⟨rfl, .inr ⟨Q, 0, #[], rfl, by omega, HA.out.2.2.1, Nat.le_refl _, by simp, rfl, rfl⟩⟩, fun g hg => by simp [Value.ownBlock] at hg; omega, fun g hg h => by simp [Value.ownBlock] at h; exact (HA.out.2.2.2.2 g hg).2 h.symm⟩
      case round =>
        have HAS : Hid (∀ g, (Value.slice xa p1 xc).ownBlock = some g → g ≠ S) := fun g hg => (HA.out.2.2.2.2 g hg).1
        clear HA
        obtain ⟨k, u, hk, rfl, hbel, hblk, howN, hown, hap, hap2⟩ := hrel
        have hsz := hbel.size
        have g0 : wr.cell? ⟨w.heap.size, 1, none⟩ = some (.slice a2 m c2) := by rw [Below.celz hbel _ _ _ (by omega)]; exact G1
        have z1 : w.heap.size < wr.heap.size := by omega
        have f0 : wr.cell? ⟨w.heap.size + 1, 0, none⟩ = some (.int .i64 l) := by rw [Below.celz hbel _ _ _ (by omega)]; exact F0
        have f1 : wr.cell? ⟨w.heap.size + 1, 1, none⟩ = some (.int .i64 nn) := by rw [Below.celz hbel _ _ _ (by omega)]; exact F1
        have zf : w.heap.size + 1 < wr.heap.size := by omega
        by_cases hlt : k < m
        · rcases H2.out with ⟨hz, _⟩ | ⟨_, b2, o2, q2, hv2, hb2, E2⟩
          · rw [hz] at HN1; have := HN1.out; simp at this; omega
          obtain rfl : a2 = some ⟨b2, o2, none⟩ := by injection hv2
          obtain ⟨⟨m0, m1, m2, m3, m4⟩, hx⟩ : ∃ x, es[k]? = some x := ⟨_, List.getElem?_eq_getElem (by rw [← HN1.out]; exact hlt)⟩
          have e0 : wr.cell? ⟨b2, o2 + k * 5, none⟩ = some (.int .i64 m0) := by rw [Below.celz hbel _ _ _ (by omega), Below.celz BW.out _ _ _ hb2]; exact E2 k _ hx 0 _ rfl
          have e1 : wr.cell? ⟨b2, o2 + k * 5 + 1, none⟩ = some (.int .i64 m1) := by rw [Below.celz hbel _ _ _ (by omega), Below.celz BW.out _ _ _ hb2]; exact E2 k _ hx 1 _ rfl
          have e2 : wr.cell? ⟨b2, o2 + k * 5 + 2, none⟩ = some (.int .i64 m2) := by rw [Below.celz hbel _ _ _ (by omega), Below.celz BW.out _ _ _ hb2]; exact E2 k _ hx 2 _ rfl
          have e3 : wr.cell? ⟨b2, o2 + k * 5 + 3, none⟩ = some (.int .i64 m3) := by rw [Below.celz hbel _ _ _ (by omega), Below.celz BW.out _ _ _ hb2]; exact E2 k _ hx 3 _ rfl
          have e4 : wr.cell? ⟨b2, o2 + k * 5 + 4, none⟩ = some (.int .i64 m4) := by rw [Below.celz hbel _ _ _ (by omega), Below.celz BW.out _ _ _ hb2]; exact E2 k _ hx 4 _ rfl
          have hle : (offG (l, nn) (es.take k)).length ≤ k := Nat.le_trans (offG_le _ _) (by simp; omega)
          have z2 : b2 < wr.heap.size := by omega
          have z3 : S < wr.heap.size := by omega
          have k0 : (0 : Int) ≤ (k : Int) := by omega
          have k1 : (k : Int) < (m : Int) := by omega
          have HX : Hid (es[k]? = some (m0, m1, m2, m3, m4)) := hx
          have HB : Hid (Below P W0 wr) := hbel
          have HAP : Hid (∀ g, u.ownBlock = some g → g ≠ S) := hap
          have HAP2 : Hid (∀ g, (Value.slice xa p1 xc).ownBlock = some g → u.ownBlock ≠ some g) := hap2
          clear hx hbel E2 hv2 hap hap2
          have e2' : wr.cell? ⟨b2, o2 + k * 5 + 1 + 1, none⟩ = some (.int .i64 m2) := e2
          have e4' : wr.cell? ⟨b2, o2 + k * 5 + 3 + 1, none⟩ = some (.int .i64 m4) := e4
          by_cases h1 : l = m1
          · subst h1
            by_cases h2 : nn = m2
            · subst h2
              go_wp2_with fail
              refine wp_region_after (by kernel_rfl) (by kernel_rfl) ?_
              intro hne hac
              repeat (go_big_quiet_step (fail))
              refine wpQuiet_nil ?_
              rintro _ ⟨p, rfl⟩
              have bq : Below wr.heap.size wr p.w := p.bel
              clear hac hne
              generalize p.w = wq at *
              have sq := bq.size
              have HBQ : Hid (Below P W0 wq) := HB.out.trans (bq.mono (by omega))
              have g0' : wq.cell? ⟨w.heap.size, 1, none⟩ = some (.slice (some ⟨b2, o2, none⟩) m c2) := (Below.celz bq _ _ _ z1).trans g0
              have hblk' : wq.heap[S]? = some (.cells #[.slice xa p1 xc, u] 26 (0, 0)) := (bq.block S z3).trans hblk
              have howN' : wq.ownsRow P 46 2 (.slice xa p1 xc) p1 ((offN (l, nn) (ns.take n)).flatMap encNode) := own_keep howN bq
              have hown' : wq.ownsRow P 48 5 u (offG (l, nn) (es.take k)).length ((offG (l, nn) (es.take k)).flatMap encEdge) := own_keep hown bq
              have e0' : wq.cell? ⟨b2, o2 + k * 5, none⟩ = some (.int .i64 m0) := (Below.celz bq _ _ _ z2).trans e0
              have e1' : wq.cell? ⟨b2, o2 + k * 5 + 1, none⟩ = some (.int .i64 l) := (Below.celz bq _ _ _ z2).trans e1
              have e2' : wq.cell? ⟨b2, o2 + k * 5 + 2, none⟩ = some (.int .i64 nn) := (Below.celz bq _ _ _ z2).trans e2
              have e3' : wq.cell? ⟨b2, o2 + k * 5 + 3, none⟩ = some (.int .i64 m3) := (Below.celz bq _ _ _ z2).trans e3
              have e4' : wq.cell? ⟨b2, o2 + k * 5 + 4, none⟩ = some (.int .i64 m4) := (Below.celz bq _ _ _ z2).trans e4
              have z1' : w.heap.size < wq.heap.size := by omega
              have z2' : b2 < wq.heap.size := by omega
              have z3' : S < wq.heap.size := by omega
              clear g0 hblk howN hown e0 e1 e2 e3 e4 z1 z2 z3 HB
              have g0 := g0'
              have hblk := hblk'
              have howN := howN'
              have hown := hown'
              have e0 := e0'
              have e1 := e1'
              have e2 := e2'
              have e3 := e3'
              have e4 := e4'
              have z1 := z1'
              have z2 := z2'
              have z3 := z3'
              have HB : Hid (Below P W0 wq) := HBQ.out
              clear g0' hblk' howN' hown' e0' e1' e2' e3' e4' z1' z2' z3' bq
              have HV : Hid (offG (l, nn) (es.take (k + 1)) = offG (l, nn) (es.take k)) := offG_out HX.out (by simp [hasG, eqB])
              have HO : Hid (wq.heap[S]? = some (.cells #[.slice xa p1 xc, u] 26 (0, 0)) ∧ wq.ownsRow P 46 2 (.slice xa p1 xc) p1 ((offN (l, nn) (ns.take n)).flatMap encNode) ∧ wq.ownsRow P 48 5 u (offG (l, nn) (es.take k)).length ((offG (l, nn) (es.take k)).flatMap encEdge)) := ⟨hblk, howN, hown⟩
              clear hblk howN hown
              go_wp2_with fail
              go_roundw
              case rel => exact ⟨k + 1, u, by omega, by go_num, HB.out, HO.out.1, HO.out.2.1, by rw [HV.out]; exact HO.out.2.2, HAP.out, HAP2.out⟩
              case measure => simp [intOf]; omega
            · have HD1 : Hid (¬ (m2 = nn)) := fun e => h2 e.symm
              have d0 : (m2 == nn) = false := beq_eq_false_iff_ne.2 (fun e => h2 e.symm)
              clear h2
              by_cases h3 : l = m3
              · subst h3
                by_cases h4 : nn = m4
                · subst h4
                  go_wp2_with fail
                  refine wp_region_after (by kernel_rfl) (by kernel_rfl) ?_
                  intro hne hac
                  repeat (go_big_quiet_step (fail))
                  refine wpQuiet_nil ?_
                  rintro _ ⟨p, rfl⟩
                  have bq : Below wr.heap.size wr p.w := p.bel
                  clear hac hne
                  generalize p.w = wq at *
                  have sq := bq.size
                  have HBQ : Hid (Below P W0 wq) := HB.out.trans (bq.mono (by omega))
                  have g0' : wq.cell? ⟨w.heap.size, 1, none⟩ = some (.slice (some ⟨b2, o2, none⟩) m c2) := (Below.celz bq _ _ _ z1).trans g0
                  have hblk' : wq.heap[S]? = some (.cells #[.slice xa p1 xc, u] 26 (0, 0)) := (bq.block S z3).trans hblk
                  have howN' : wq.ownsRow P 46 2 (.slice xa p1 xc) p1 ((offN (l, nn) (ns.take n)).flatMap encNode) := own_keep howN bq
                  have hown' : wq.ownsRow P 48 5 u (offG (l, nn) (es.take k)).length ((offG (l, nn) (es.take k)).flatMap encEdge) := own_keep hown bq
                  have e0' : wq.cell? ⟨b2, o2 + k * 5, none⟩ = some (.int .i64 m0) := (Below.celz bq _ _ _ z2).trans e0
                  have e1' : wq.cell? ⟨b2, o2 + k * 5 + 1, none⟩ = some (.int .i64 l) := (Below.celz bq _ _ _ z2).trans e1
                  have e2' : wq.cell? ⟨b2, o2 + k * 5 + 2, none⟩ = some (.int .i64 m2) := (Below.celz bq _ _ _ z2).trans e2
                  have e3' : wq.cell? ⟨b2, o2 + k * 5 + 3, none⟩ = some (.int .i64 l) := (Below.celz bq _ _ _ z2).trans e3
                  have e4' : wq.cell? ⟨b2, o2 + k * 5 + 4, none⟩ = some (.int .i64 nn) := (Below.celz bq _ _ _ z2).trans e4
                  have z1' : w.heap.size < wq.heap.size := by omega
                  have z2' : b2 < wq.heap.size := by omega
                  have z3' : S < wq.heap.size := by omega
                  clear g0 hblk howN hown e0 e1 e2 e3 e4 z1 z2 z3 HB
                  have g0 := g0'
                  have hblk := hblk'
                  have howN := howN'
                  have hown := hown'
                  have e0 := e0'
                  have e1 := e1'
                  have e2 := e2'
                  have e3 := e3'
                  have e4 := e4'
                  have z1 := z1'
                  have z2 := z2'
                  have z3 := z3'
                  have HB : Hid (Below P W0 wq) := HBQ.out
                  clear g0' hblk' howN' hown' e0' e1' e2' e3' e4' z1' z2' z3' bq
                  have HV : Hid (offG (l, nn) (es.take (k + 1)) = offG (l, nn) (es.take k)) := offG_out HX.out (by simp [hasG, eqB])
                  have HO : Hid (wq.heap[S]? = some (.cells #[.slice xa p1 xc, u] 26 (0, 0)) ∧ wq.ownsRow P 46 2 (.slice xa p1 xc) p1 ((offN (l, nn) (ns.take n)).flatMap encNode) ∧ wq.ownsRow P 48 5 u (offG (l, nn) (es.take k)).length ((offG (l, nn) (es.take k)).flatMap encEdge)) := ⟨hblk, howN, hown⟩
                  clear hblk howN hown
                  go_wp2_with fail
                  go_roundw
                  case rel => exact ⟨k + 1, u, by omega, by go_num, HB.out, HO.out.1, HO.out.2.1, by rw [HV.out]; exact HO.out.2.2, HAP.out, HAP2.out⟩
                  case measure => simp [intOf]; omega
                · have HU : Hid (hasG (l, nn) (m0, l, m2, l, m4) = false) := by show hasG (l, nn) (m0, l, m2, l, m4) = false; simp [hasG, eqB, HD1.out]; exact fun e => h4 e.symm
                  have d1 : (m4 == nn) = false := beq_eq_false_iff_ne.2 (fun e => h4 e.symm)
                  clear h4
                  go_wp2_with fail
                  refine wp_region_after (by kernel_rfl) (by kernel_rfl) ?_
                  intro hne hac
                  repeat (go_big_quiet_step (fail))
                  refine wpQuiet_nil ?_
                  rintro _ ⟨p, rfl⟩
                  have bq : Below wr.heap.size wr p.w := p.bel
                  clear hac hne
                  generalize p.w = wq at *
                  have sq := bq.size
                  have HBQ : Hid (Below P W0 wq) := HB.out.trans (bq.mono (by omega))
                  have g0' : wq.cell? ⟨w.heap.size, 1, none⟩ = some (.slice (some ⟨b2, o2, none⟩) m c2) := (Below.celz bq _ _ _ z1).trans g0
                  have hblk' : wq.heap[S]? = some (.cells #[.slice xa p1 xc, u] 26 (0, 0)) := (bq.block S z3).trans hblk
                  have howN' : wq.ownsRow P 46 2 (.slice xa p1 xc) p1 ((offN (l, nn) (ns.take n)).flatMap encNode) := own_keep howN bq
                  have hown' : wq.ownsRow P 48 5 u (offG (l, nn) (es.take k)).length ((offG (l, nn) (es.take k)).flatMap encEdge) := own_keep hown bq
                  have e0' : wq.cell? ⟨b2, o2 + k * 5, none⟩ = some (.int .i64 m0) := (Below.celz bq _ _ _ z2).trans e0
                  have e1' : wq.cell? ⟨b2, o2 + k * 5 + 1, none⟩ = some (.int .i64 l) := (Below.celz bq _ _ _ z2).trans e1
                  have e2' : wq.cell? ⟨b2, o2 + k * 5 + 2, none⟩ = some (.int .i64 m2) := (Below.celz bq _ _ _ z2).trans e2
                  have e3' : wq.cell? ⟨b2, o2 + k * 5 + 3, none⟩ = some (.int .i64 l) := (Below.celz bq _ _ _ z2).trans e3
                  have e4' : wq.cell? ⟨b2, o2 + k * 5 + 4, none⟩ = some (.int .i64 m4) := (Below.celz bq _ _ _ z2).trans e4
                  have z1' : w.heap.size < wq.heap.size := by omega
                  have z2' : b2 < wq.heap.size := by omega
                  have z3' : S < wq.heap.size := by omega
                  clear g0 hblk howN hown e0 e1 e2 e3 e4 z1 z2 z3 HB
                  have g0 := g0'
                  have hblk := hblk'
                  have howN := howN'
                  have hown := hown'
                  have e0 := e0'
                  have e1 := e1'
                  have e2 := e2'
                  have e3 := e3'
                  have e4 := e4'
                  have z1 := z1'
                  have z2 := z2'
                  have z3 := z3'
                  have HB : Hid (Below P W0 wq) := HBQ.out
                  clear g0' hblk' howN' hown' e0' e1' e2' e3' e4' z1' z2' z3' bq
                  have g2 : wq.cell? ⟨S, 1, none⟩ = some u := by rw [cell_block hblk]; rfl
                  have hf : wq.frozen? ⟨S, 1, none⟩ = false := free_block hblk
                  obtain ⟨ua, uc, rfl⟩ := own_form hown
                  have HK : Hid (wq.heap[S]? = some (.cells #[.slice xa p1 xc, (Value.slice ua (offG (l, nn) (es.take k)).length uc)] 26 (0, 0)) ∧ wq.ownsRow P 46 2 (.slice xa p1 xc) p1 ((offN (l, nn) (ns.take n)).flatMap encNode)) := ⟨hblk, howN⟩
                  have lt0 := fun g hg => (hown.lt g hg).1
                  have LT : Hid (∀ g, (Value.slice ua (offG (l, nn) (es.take k)).length uc).ownBlock = some g → P ≤ g) := lt0
                  have ap1 : some S ≠ (Value.slice ua (offG (l, nn) (es.take k)).length uc).ownBlock := fun h => HAP.out _ h.symm rfl
                  have hS : Hid (∀ w', Below wq.heap.size wq w' → w'.cell? ⟨S, 1, none⟩ = some (Value.slice ua (offG (l, nn) (es.take k)).length uc) ∧ w'.frozen? ⟨S, 1, none⟩ = false) :=
                    fun w' hn => ⟨(Below.celz hn _ _ _ z3).trans g2, (Below.froz hn _ _ _ z3).trans hf⟩
                  clear hblk lt0 howN
                  go_wp2_with fail
                  go_region_law
                    ((refine step_append_lies _ (by rfl) _ _ _ (by rfl) P 48 iE _ 5 40 Tryz.underlying24 jE zE0 zE1 zE2 rfl (by omega) (Value.slice ua (offG (l, nn) (es.take k)).length uc) _ _ (by rfl) ((hown.alloc _).drew) ⟨wq.heap.size, 0, none⟩ 1 1 [.int .i64 m0, .int .i64 l, .int .i64 m2, .int .i64 l, .int .i64 m4] (by rfl) (by rfl) (World.news_of_block (cs := #[.int .i64 m0, .int .i64 l, .int .i64 m2, .int .i64 l, .int .i64 m4]) (t := 48) (fr := (0, 0)) (heap_alloc_new wq _)) (by simp [Value.oneCell']) (by omega) (by unfold maxLen; omega) (by omega) (by simp; omega) (wq.heap.size + 1) (by simp) ?_; intro gg cap w3 hown1 hgrow hat hlt3; have g3 := hgrow.cell (hS.out _ ((Below.alloc (Below.refl wq.heap.size wq) (Nat.le_refl _) (.cells #[.int .i64 m0, .int .i64 l, .int .i64 m2, .int .i64 l, .int .i64 m4] 48)).drew)).1 ap1; have f3 : w3.frozen? ⟨S, 1, none⟩ = false := by rw [hgrow.frozen_far _ (by simp; omega) ap1]; exact (hS.out _ ((Below.alloc (Below.refl wq.heap.size wq) (Nat.le_refl _) (.cells #[.int .i64 m0, .int .i64 l, .int .i64 m2, .int .i64 l, .int .i64 m4] 48)).drew)).2))
                  all_goals (
                    have ap4 : (Value.slice (some ⟨gg, 0, none⟩) ((offG (l, nn) (es.take k)).length + 1) cap).ownBlock ≠ some S := fun h => by
                      simp only [Value.ownBlock, Option.some.injEq] at h
                      rcases hat with h5 | h5
                      · exact HAP.out _ h5 h
                      · omega
                    have ap5 : ∀ g, (Value.slice (some ⟨gg, 0, none⟩) ((offG (l, nn) (es.take k)).length + 1) cap).ownBlock = some g → g ≠ S := fun g hg e => ap4 (by rw [hg, e])
                    have ltN : ∀ g, (Value.slice xa p1 xc).ownBlock = some g → g < wq.heap.size := fun g hg => (HK.out.2.lt g hg).2
                    have ap6 : ∀ g, (Value.slice xa p1 xc).ownBlock = some g → (Value.slice (some ⟨gg, 0, none⟩) ((offG (l, nn) (es.take k)).length + 1) cap).ownBlock ≠ some g := fun g hg h => by
                      simp only [Value.ownBlock, Option.some.injEq] at h
                      rcases hat with h5 | h5
                      · exact HAP2.out g hg (by rw [h5, h])
                      · have := ltN g hg; omega
                    obtain ⟨r1, r2, r3, r4⟩ := app_step (j := 1) HB.out ((Below.alloc (Below.refl wq.heap.size wq) (Nat.le_refl _) (.cells #[.int .i64 m0, .int .i64 l, .int .i64 m2, .int .i64 l, .int .i64 m4] 48)).drew) (by omega) HK.out.1 LT.out (by omega) (fun h => ap1 h.symm) hgrow (appOffE HX.out HU.out hown1) ap4
                    have r5 : (w3.setCell ⟨S, 1, none⟩ (Value.slice (some ⟨gg, 0, none⟩) ((offG (l, nn) (es.take k)).length + 1) cap)).ownsRow P 46 2 (.slice xa p1 xc) p1 ((offN (l, nn) (ns.take n)).flatMap encNode) := by
                      obtain ⟨q1, q2 | ⟨g, cp, cur, qv, qb, qg, qr⟩⟩ := HK.out.2
                      · exact ⟨q1, .inl q2⟩
                      · have hg : (Value.slice xa p1 xc).ownBlock = some g := by rw [qv]; rfl
                        exact ⟨q1, .inr ⟨g, cp, cur, qv, qb, (r4 g (ltN g hg) (fun h => HAP2.out g hg h) (HAS.out g hg)).trans qg, qr⟩⟩
                    have R : Hid (Below P W0 (w3.setCell ⟨S, 1, none⟩ (Value.slice (some ⟨gg, 0, none⟩) ((offG (l, nn) (es.take k)).length + 1) cap)) ∧ (w3.setCell ⟨S, 1, none⟩ (Value.slice (some ⟨gg, 0, none⟩) ((offG (l, nn) (es.take k)).length + 1) cap)).heap[S]? = some (.cells #[.slice xa p1 xc, (Value.slice (some ⟨gg, 0, none⟩) ((offG (l, nn) (es.take k)).length + 1) cap)] 26 (0, 0)) ∧ (w3.setCell ⟨S, 1, none⟩ (Value.slice (some ⟨gg, 0, none⟩) ((offG (l, nn) (es.take k)).length + 1) cap)).ownsRow P 46 2 (.slice xa p1 xc) p1 ((offN (l, nn) (ns.take n)).flatMap encNode) ∧ (w3.setCell ⟨S, 1, none⟩ (Value.slice (some ⟨gg, 0, none⟩) ((offG (l, nn) (es.take k)).length + 1) cap)).ownsRow P 48 5 (Value.slice (some ⟨gg, 0, none⟩) ((offG (l, nn) (es.take k)).length + 1) cap) (offG (l, nn) (es.take (k + 1))).length ((offG (l, nn) (es.take (k + 1))).flatMap encEdge) ∧ (∀ g, (Value.slice (some ⟨gg, 0, none⟩) ((offG (l, nn) (es.take k)).length + 1) cap).ownBlock = some g → g ≠ S) ∧ ∀ g, (Value.slice xa p1 xc).ownBlock = some g → (Value.slice (some ⟨gg, 0, none⟩) ((offG (l, nn) (es.take k)).length + 1) cap).ownBlock ≠ some g) := ⟨r1, r2, r5, r3, ap5, ap6⟩
                    clear r1 r2 r3 r4 r5 ap4 ap5 ap6 ltN hown1 hgrow hat hown g2 hf e0 e1 e2 e3 e4 g3 f3
                    go_wp2_with fail
                    go_roundw
                    case rel => exact ⟨k + 1, _, by omega, by go_num, R.out⟩
                    case measure => simp [intOf]; omega)
              · have HU : Hid (hasG (l, nn) (m0, l, m2, m3, m4) = false) := by show hasG (l, nn) (m0, l, m2, m3, m4) = false; simp [hasG, eqB, HD1.out]; exact fun e => absurd e.symm h3
                have d1 : (m3 == l) = false := beq_eq_false_iff_ne.2 (fun e => h3 e.symm)
                clear h3
                go_wp2_with fail
                refine wp_region_after (by kernel_rfl) (by kernel_rfl) ?_
                intro hne hac
                repeat (go_big_quiet_step (fail))
                refine wpQuiet_nil ?_
                rintro _ ⟨p, rfl⟩
                have bq : Below wr.heap.size wr p.w := p.bel
                clear hac hne
                generalize p.w = wq at *
                have sq := bq.size
                have HBQ : Hid (Below P W0 wq) := HB.out.trans (bq.mono (by omega))
                have g0' : wq.cell? ⟨w.heap.size, 1, none⟩ = some (.slice (some ⟨b2, o2, none⟩) m c2) := (Below.celz bq _ _ _ z1).trans g0
                have hblk' : wq.heap[S]? = some (.cells #[.slice xa p1 xc, u] 26 (0, 0)) := (bq.block S z3).trans hblk
                have howN' : wq.ownsRow P 46 2 (.slice xa p1 xc) p1 ((offN (l, nn) (ns.take n)).flatMap encNode) := own_keep howN bq
                have hown' : wq.ownsRow P 48 5 u (offG (l, nn) (es.take k)).length ((offG (l, nn) (es.take k)).flatMap encEdge) := own_keep hown bq
                have e0' : wq.cell? ⟨b2, o2 + k * 5, none⟩ = some (.int .i64 m0) := (Below.celz bq _ _ _ z2).trans e0
                have e1' : wq.cell? ⟨b2, o2 + k * 5 + 1, none⟩ = some (.int .i64 l) := (Below.celz bq _ _ _ z2).trans e1
                have e2' : wq.cell? ⟨b2, o2 + k * 5 + 2, none⟩ = some (.int .i64 m2) := (Below.celz bq _ _ _ z2).trans e2
                have e3' : wq.cell? ⟨b2, o2 + k * 5 + 3, none⟩ = some (.int .i64 m3) := (Below.celz bq _ _ _ z2).trans e3
                have e4' : wq.cell? ⟨b2, o2 + k * 5 + 4, none⟩ = some (.int .i64 m4) := (Below.celz bq _ _ _ z2).trans e4
                have z1' : w.heap.size < wq.heap.size := by omega
                have z2' : b2 < wq.heap.size := by omega
                have z3' : S < wq.heap.size := by omega
                clear g0 hblk howN hown e0 e1 e2 e3 e4 z1 z2 z3 HB
                have g0 := g0'
                have hblk := hblk'
                have howN := howN'
                have hown := hown'
                have e0 := e0'
                have e1 := e1'
                have e2 := e2'
                have e3 := e3'
                have e4 := e4'
                have z1 := z1'
                have z2 := z2'
                have z3 := z3'
                have HB : Hid (Below P W0 wq) := HBQ.out
                clear g0' hblk' howN' hown' e0' e1' e2' e3' e4' z1' z2' z3' bq
                have g2 : wq.cell? ⟨S, 1, none⟩ = some u := by rw [cell_block hblk]; rfl
                have hf : wq.frozen? ⟨S, 1, none⟩ = false := free_block hblk
                obtain ⟨ua, uc, rfl⟩ := own_form hown
                have HK : Hid (wq.heap[S]? = some (.cells #[.slice xa p1 xc, (Value.slice ua (offG (l, nn) (es.take k)).length uc)] 26 (0, 0)) ∧ wq.ownsRow P 46 2 (.slice xa p1 xc) p1 ((offN (l, nn) (ns.take n)).flatMap encNode)) := ⟨hblk, howN⟩
                have lt0 := fun g hg => (hown.lt g hg).1
                have LT : Hid (∀ g, (Value.slice ua (offG (l, nn) (es.take k)).length uc).ownBlock = some g → P ≤ g) := lt0
                have ap1 : some S ≠ (Value.slice ua (offG (l, nn) (es.take k)).length uc).ownBlock := fun h => HAP.out _ h.symm rfl
                have hS : Hid (∀ w', Below wq.heap.size wq w' → w'.cell? ⟨S, 1, none⟩ = some (Value.slice ua (offG (l, nn) (es.take k)).length uc) ∧ w'.frozen? ⟨S, 1, none⟩ = false) :=
                  fun w' hn => ⟨(Below.celz hn _ _ _ z3).trans g2, (Below.froz hn _ _ _ z3).trans hf⟩
                clear hblk lt0 howN
                go_wp2_with fail
                go_region_law
                  ((refine step_append_lies _ (by rfl) _ _ _ (by rfl) P 48 iE _ 5 40 Tryz.underlying24 jE zE0 zE1 zE2 rfl (by omega) (Value.slice ua (offG (l, nn) (es.take k)).length uc) _ _ (by rfl) ((hown.alloc _).drew) ⟨wq.heap.size, 0, none⟩ 1 1 [.int .i64 m0, .int .i64 l, .int .i64 m2, .int .i64 m3, .int .i64 m4] (by rfl) (by rfl) (World.news_of_block (cs := #[.int .i64 m0, .int .i64 l, .int .i64 m2, .int .i64 m3, .int .i64 m4]) (t := 48) (fr := (0, 0)) (heap_alloc_new wq _)) (by simp [Value.oneCell']) (by omega) (by unfold maxLen; omega) (by omega) (by simp; omega) (wq.heap.size + 1) (by simp) ?_; intro gg cap w3 hown1 hgrow hat hlt3; have g3 := hgrow.cell (hS.out _ ((Below.alloc (Below.refl wq.heap.size wq) (Nat.le_refl _) (.cells #[.int .i64 m0, .int .i64 l, .int .i64 m2, .int .i64 m3, .int .i64 m4] 48)).drew)).1 ap1; have f3 : w3.frozen? ⟨S, 1, none⟩ = false := by rw [hgrow.frozen_far _ (by simp; omega) ap1]; exact (hS.out _ ((Below.alloc (Below.refl wq.heap.size wq) (Nat.le_refl _) (.cells #[.int .i64 m0, .int .i64 l, .int .i64 m2, .int .i64 m3, .int .i64 m4] 48)).drew)).2))
                all_goals (
                  have ap4 : (Value.slice (some ⟨gg, 0, none⟩) ((offG (l, nn) (es.take k)).length + 1) cap).ownBlock ≠ some S := fun h => by
                    simp only [Value.ownBlock, Option.some.injEq] at h
                    rcases hat with h5 | h5
                    · exact HAP.out _ h5 h
                    · omega
                  have ap5 : ∀ g, (Value.slice (some ⟨gg, 0, none⟩) ((offG (l, nn) (es.take k)).length + 1) cap).ownBlock = some g → g ≠ S := fun g hg e => ap4 (by rw [hg, e])
                  have ltN : ∀ g, (Value.slice xa p1 xc).ownBlock = some g → g < wq.heap.size := fun g hg => (HK.out.2.lt g hg).2
                  have ap6 : ∀ g, (Value.slice xa p1 xc).ownBlock = some g → (Value.slice (some ⟨gg, 0, none⟩) ((offG (l, nn) (es.take k)).length + 1) cap).ownBlock ≠ some g := fun g hg h => by
                    simp only [Value.ownBlock, Option.some.injEq] at h
                    rcases hat with h5 | h5
                    · exact HAP2.out g hg (by rw [h5, h])
                    · have := ltN g hg; omega
                  obtain ⟨r1, r2, r3, r4⟩ := app_step (j := 1) HB.out ((Below.alloc (Below.refl wq.heap.size wq) (Nat.le_refl _) (.cells #[.int .i64 m0, .int .i64 l, .int .i64 m2, .int .i64 m3, .int .i64 m4] 48)).drew) (by omega) HK.out.1 LT.out (by omega) (fun h => ap1 h.symm) hgrow (appOffE HX.out HU.out hown1) ap4
                  have r5 : (w3.setCell ⟨S, 1, none⟩ (Value.slice (some ⟨gg, 0, none⟩) ((offG (l, nn) (es.take k)).length + 1) cap)).ownsRow P 46 2 (.slice xa p1 xc) p1 ((offN (l, nn) (ns.take n)).flatMap encNode) := by
                    obtain ⟨q1, q2 | ⟨g, cp, cur, qv, qb, qg, qr⟩⟩ := HK.out.2
                    · exact ⟨q1, .inl q2⟩
                    · have hg : (Value.slice xa p1 xc).ownBlock = some g := by rw [qv]; rfl
                      exact ⟨q1, .inr ⟨g, cp, cur, qv, qb, (r4 g (ltN g hg) (fun h => HAP2.out g hg h) (HAS.out g hg)).trans qg, qr⟩⟩
                  have R : Hid (Below P W0 (w3.setCell ⟨S, 1, none⟩ (Value.slice (some ⟨gg, 0, none⟩) ((offG (l, nn) (es.take k)).length + 1) cap)) ∧ (w3.setCell ⟨S, 1, none⟩ (Value.slice (some ⟨gg, 0, none⟩) ((offG (l, nn) (es.take k)).length + 1) cap)).heap[S]? = some (.cells #[.slice xa p1 xc, (Value.slice (some ⟨gg, 0, none⟩) ((offG (l, nn) (es.take k)).length + 1) cap)] 26 (0, 0)) ∧ (w3.setCell ⟨S, 1, none⟩ (Value.slice (some ⟨gg, 0, none⟩) ((offG (l, nn) (es.take k)).length + 1) cap)).ownsRow P 46 2 (.slice xa p1 xc) p1 ((offN (l, nn) (ns.take n)).flatMap encNode) ∧ (w3.setCell ⟨S, 1, none⟩ (Value.slice (some ⟨gg, 0, none⟩) ((offG (l, nn) (es.take k)).length + 1) cap)).ownsRow P 48 5 (Value.slice (some ⟨gg, 0, none⟩) ((offG (l, nn) (es.take k)).length + 1) cap) (offG (l, nn) (es.take (k + 1))).length ((offG (l, nn) (es.take (k + 1))).flatMap encEdge) ∧ (∀ g, (Value.slice (some ⟨gg, 0, none⟩) ((offG (l, nn) (es.take k)).length + 1) cap).ownBlock = some g → g ≠ S) ∧ ∀ g, (Value.slice xa p1 xc).ownBlock = some g → (Value.slice (some ⟨gg, 0, none⟩) ((offG (l, nn) (es.take k)).length + 1) cap).ownBlock ≠ some g) := ⟨r1, r2, r5, r3, ap5, ap6⟩
                  clear r1 r2 r3 r4 r5 ap4 ap5 ap6 ltN hown1 hgrow hat hown g2 hf e0 e1 e2 e3 e4 g3 f3
                  go_wp2_with fail
                  go_roundw
                  case rel => exact ⟨k + 1, _, by omega, by go_num, R.out⟩
                  case measure => simp [intOf]; omega)
          · have HD1 : Hid (¬ (m1 = l)) := fun e => h1 e.symm
            have d0 : (m1 == l) = false := beq_eq_false_iff_ne.2 (fun e => h1 e.symm)
            clear h1
            by_cases h3 : l = m3
            · subst h3
              by_cases h4 : nn = m4
              · subst h4
                go_wp2_with fail
                refine wp_region_after (by kernel_rfl) (by kernel_rfl) ?_
                intro hne hac
                repeat (go_big_quiet_step (fail))
                refine wpQuiet_nil ?_
                rintro _ ⟨p, rfl⟩
                have bq : Below wr.heap.size wr p.w := p.bel
                clear hac hne
                generalize p.w = wq at *
                have sq := bq.size
                have HBQ : Hid (Below P W0 wq) := HB.out.trans (bq.mono (by omega))
                have g0' : wq.cell? ⟨w.heap.size, 1, none⟩ = some (.slice (some ⟨b2, o2, none⟩) m c2) := (Below.celz bq _ _ _ z1).trans g0
                have hblk' : wq.heap[S]? = some (.cells #[.slice xa p1 xc, u] 26 (0, 0)) := (bq.block S z3).trans hblk
                have howN' : wq.ownsRow P 46 2 (.slice xa p1 xc) p1 ((offN (l, nn) (ns.take n)).flatMap encNode) := own_keep howN bq
                have hown' : wq.ownsRow P 48 5 u (offG (l, nn) (es.take k)).length ((offG (l, nn) (es.take k)).flatMap encEdge) := own_keep hown bq
                have e0' : wq.cell? ⟨b2, o2 + k * 5, none⟩ = some (.int .i64 m0) := (Below.celz bq _ _ _ z2).trans e0
                have e1' : wq.cell? ⟨b2, o2 + k * 5 + 1, none⟩ = some (.int .i64 m1) := (Below.celz bq _ _ _ z2).trans e1
                have e2' : wq.cell? ⟨b2, o2 + k * 5 + 2, none⟩ = some (.int .i64 m2) := (Below.celz bq _ _ _ z2).trans e2
                have e3' : wq.cell? ⟨b2, o2 + k * 5 + 3, none⟩ = some (.int .i64 l) := (Below.celz bq _ _ _ z2).trans e3
                have e4' : wq.cell? ⟨b2, o2 + k * 5 + 4, none⟩ = some (.int .i64 nn) := (Below.celz bq _ _ _ z2).trans e4
                have z1' : w.heap.size < wq.heap.size := by omega
                have z2' : b2 < wq.heap.size := by omega
                have z3' : S < wq.heap.size := by omega
                clear g0 hblk howN hown e0 e1 e2 e3 e4 z1 z2 z3 HB
                have g0 := g0'
                have hblk := hblk'
                have howN := howN'
                have hown := hown'
                have e0 := e0'
                have e1 := e1'
                have e2 := e2'
                have e3 := e3'
                have e4 := e4'
                have z1 := z1'
                have z2 := z2'
                have z3 := z3'
                have HB : Hid (Below P W0 wq) := HBQ.out
                clear g0' hblk' howN' hown' e0' e1' e2' e3' e4' z1' z2' z3' bq
                have HV : Hid (offG (l, nn) (es.take (k + 1)) = offG (l, nn) (es.take k)) := offG_out HX.out (by simp [hasG, eqB])
                have HO : Hid (wq.heap[S]? = some (.cells #[.slice xa p1 xc, u] 26 (0, 0)) ∧ wq.ownsRow P 46 2 (.slice xa p1 xc) p1 ((offN (l, nn) (ns.take n)).flatMap encNode) ∧ wq.ownsRow P 48 5 u (offG (l, nn) (es.take k)).length ((offG (l, nn) (es.take k)).flatMap encEdge)) := ⟨hblk, howN, hown⟩
                clear hblk howN hown
                go_wp2_with fail
                go_roundw
                case rel => exact ⟨k + 1, u, by omega, by go_num, HB.out, HO.out.1, HO.out.2.1, by rw [HV.out]; exact HO.out.2.2, HAP.out, HAP2.out⟩
                case measure => simp [intOf]; omega
              · have HU : Hid (hasG (l, nn) (m0, m1, m2, l, m4) = false) := by show hasG (l, nn) (m0, m1, m2, l, m4) = false; simp [hasG, eqB, HD1.out]; exact fun e => h4 e.symm
                have d1 : (m4 == nn) = false := beq_eq_false_iff_ne.2 (fun e => h4 e.symm)
                clear h4
                go_wp2_with fail
                refine wp_region_after (by kernel_rfl) (by kernel_rfl) ?_
                intro hne hac
                repeat (go_big_quiet_step (fail))
                refine wpQuiet_nil ?_
                rintro _ ⟨p, rfl⟩
                have bq : Below wr.heap.size wr p.w := p.bel
                clear hac hne
                generalize p.w = wq at *
                have sq := bq.size
                have HBQ : Hid (Below P W0 wq) := HB.out.trans (bq.mono (by omega))
                have g0' : wq.cell? ⟨w.heap.size, 1, none⟩ = some (.slice (some ⟨b2, o2, none⟩) m c2) := (Below.celz bq _ _ _ z1).trans g0
                have hblk' : wq.heap[S]? = some (.cells #[.slice xa p1 xc, u] 26 (0, 0)) := (bq.block S z3).trans hblk
                have howN' : wq.ownsRow P 46 2 (.slice xa p1 xc) p1 ((offN (l, nn) (ns.take n)).flatMap encNode) := own_keep howN bq
                have hown' : wq.ownsRow P 48 5 u (offG (l, nn) (es.take k)).length ((offG (l, nn) (es.take k)).flatMap encEdge) := own_keep hown bq
                have e0' : wq.cell? ⟨b2, o2 + k * 5, none⟩ = some (.int .i64 m0) := (Below.celz bq _ _ _ z2).trans e0
                have e1' : wq.cell? ⟨b2, o2 + k * 5 + 1, none⟩ = some (.int .i64 m1) := (Below.celz bq _ _ _ z2).trans e1
                have e2' : wq.cell? ⟨b2, o2 + k * 5 + 2, none⟩ = some (.int .i64 m2) := (Below.celz bq _ _ _ z2).trans e2
                have e3' : wq.cell? ⟨b2, o2 + k * 5 + 3, none⟩ = some (.int .i64 l) := (Below.celz bq _ _ _ z2).trans e3
                have e4' : wq.cell? ⟨b2, o2 + k * 5 + 4, none⟩ = some (.int .i64 m4) := (Below.celz bq _ _ _ z2).trans e4
                have z1' : w.heap.size < wq.heap.size := by omega
                have z2' : b2 < wq.heap.size := by omega
                have z3' : S < wq.heap.size := by omega
                clear g0 hblk howN hown e0 e1 e2 e3 e4 z1 z2 z3 HB
                have g0 := g0'
                have hblk := hblk'
                have howN := howN'
                have hown := hown'
                have e0 := e0'
                have e1 := e1'
                have e2 := e2'
                have e3 := e3'
                have e4 := e4'
                have z1 := z1'
                have z2 := z2'
                have z3 := z3'
                have HB : Hid (Below P W0 wq) := HBQ.out
                clear g0' hblk' howN' hown' e0' e1' e2' e3' e4' z1' z2' z3' bq
                have g2 : wq.cell? ⟨S, 1, none⟩ = some u := by rw [cell_block hblk]; rfl
                have hf : wq.frozen? ⟨S, 1, none⟩ = false := free_block hblk
                obtain ⟨ua, uc, rfl⟩ := own_form hown
                have HK : Hid (wq.heap[S]? = some (.cells #[.slice xa p1 xc, (Value.slice ua (offG (l, nn) (es.take k)).length uc)] 26 (0, 0)) ∧ wq.ownsRow P 46 2 (.slice xa p1 xc) p1 ((offN (l, nn) (ns.take n)).flatMap encNode)) := ⟨hblk, howN⟩
                have lt0 := fun g hg => (hown.lt g hg).1
                have LT : Hid (∀ g, (Value.slice ua (offG (l, nn) (es.take k)).length uc).ownBlock = some g → P ≤ g) := lt0
                have ap1 : some S ≠ (Value.slice ua (offG (l, nn) (es.take k)).length uc).ownBlock := fun h => HAP.out _ h.symm rfl
                have hS : Hid (∀ w', Below wq.heap.size wq w' → w'.cell? ⟨S, 1, none⟩ = some (Value.slice ua (offG (l, nn) (es.take k)).length uc) ∧ w'.frozen? ⟨S, 1, none⟩ = false) :=
                  fun w' hn => ⟨(Below.celz hn _ _ _ z3).trans g2, (Below.froz hn _ _ _ z3).trans hf⟩
                clear hblk lt0 howN
                go_wp2_with fail
                go_region_law
                  ((refine step_append_lies _ (by rfl) _ _ _ (by rfl) P 48 iE _ 5 40 Tryz.underlying24 jE zE0 zE1 zE2 rfl (by omega) (Value.slice ua (offG (l, nn) (es.take k)).length uc) _ _ (by rfl) ((hown.alloc _).drew) ⟨wq.heap.size, 0, none⟩ 1 1 [.int .i64 m0, .int .i64 m1, .int .i64 m2, .int .i64 l, .int .i64 m4] (by rfl) (by rfl) (World.news_of_block (cs := #[.int .i64 m0, .int .i64 m1, .int .i64 m2, .int .i64 l, .int .i64 m4]) (t := 48) (fr := (0, 0)) (heap_alloc_new wq _)) (by simp [Value.oneCell']) (by omega) (by unfold maxLen; omega) (by omega) (by simp; omega) (wq.heap.size + 1) (by simp) ?_; intro gg cap w3 hown1 hgrow hat hlt3; have g3 := hgrow.cell (hS.out _ ((Below.alloc (Below.refl wq.heap.size wq) (Nat.le_refl _) (.cells #[.int .i64 m0, .int .i64 m1, .int .i64 m2, .int .i64 l, .int .i64 m4] 48)).drew)).1 ap1; have f3 : w3.frozen? ⟨S, 1, none⟩ = false := by rw [hgrow.frozen_far _ (by simp; omega) ap1]; exact (hS.out _ ((Below.alloc (Below.refl wq.heap.size wq) (Nat.le_refl _) (.cells #[.int .i64 m0, .int .i64 m1, .int .i64 m2, .int .i64 l, .int .i64 m4] 48)).drew)).2))
                all_goals (
                  have ap4 : (Value.slice (some ⟨gg, 0, none⟩) ((offG (l, nn) (es.take k)).length + 1) cap).ownBlock ≠ some S := fun h => by
                    simp only [Value.ownBlock, Option.some.injEq] at h
                    rcases hat with h5 | h5
                    · exact HAP.out _ h5 h
                    · omega
                  have ap5 : ∀ g, (Value.slice (some ⟨gg, 0, none⟩) ((offG (l, nn) (es.take k)).length + 1) cap).ownBlock = some g → g ≠ S := fun g hg e => ap4 (by rw [hg, e])
                  have ltN : ∀ g, (Value.slice xa p1 xc).ownBlock = some g → g < wq.heap.size := fun g hg => (HK.out.2.lt g hg).2
                  have ap6 : ∀ g, (Value.slice xa p1 xc).ownBlock = some g → (Value.slice (some ⟨gg, 0, none⟩) ((offG (l, nn) (es.take k)).length + 1) cap).ownBlock ≠ some g := fun g hg h => by
                    simp only [Value.ownBlock, Option.some.injEq] at h
                    rcases hat with h5 | h5
                    · exact HAP2.out g hg (by rw [h5, h])
                    · have := ltN g hg; omega
                  obtain ⟨r1, r2, r3, r4⟩ := app_step (j := 1) HB.out ((Below.alloc (Below.refl wq.heap.size wq) (Nat.le_refl _) (.cells #[.int .i64 m0, .int .i64 m1, .int .i64 m2, .int .i64 l, .int .i64 m4] 48)).drew) (by omega) HK.out.1 LT.out (by omega) (fun h => ap1 h.symm) hgrow (appOffE HX.out HU.out hown1) ap4
                  have r5 : (w3.setCell ⟨S, 1, none⟩ (Value.slice (some ⟨gg, 0, none⟩) ((offG (l, nn) (es.take k)).length + 1) cap)).ownsRow P 46 2 (.slice xa p1 xc) p1 ((offN (l, nn) (ns.take n)).flatMap encNode) := by
                    obtain ⟨q1, q2 | ⟨g, cp, cur, qv, qb, qg, qr⟩⟩ := HK.out.2
                    · exact ⟨q1, .inl q2⟩
                    · have hg : (Value.slice xa p1 xc).ownBlock = some g := by rw [qv]; rfl
                      exact ⟨q1, .inr ⟨g, cp, cur, qv, qb, (r4 g (ltN g hg) (fun h => HAP2.out g hg h) (HAS.out g hg)).trans qg, qr⟩⟩
                  have R : Hid (Below P W0 (w3.setCell ⟨S, 1, none⟩ (Value.slice (some ⟨gg, 0, none⟩) ((offG (l, nn) (es.take k)).length + 1) cap)) ∧ (w3.setCell ⟨S, 1, none⟩ (Value.slice (some ⟨gg, 0, none⟩) ((offG (l, nn) (es.take k)).length + 1) cap)).heap[S]? = some (.cells #[.slice xa p1 xc, (Value.slice (some ⟨gg, 0, none⟩) ((offG (l, nn) (es.take k)).length + 1) cap)] 26 (0, 0)) ∧ (w3.setCell ⟨S, 1, none⟩ (Value.slice (some ⟨gg, 0, none⟩) ((offG (l, nn) (es.take k)).length + 1) cap)).ownsRow P 46 2 (.slice xa p1 xc) p1 ((offN (l, nn) (ns.take n)).flatMap encNode) ∧ (w3.setCell ⟨S, 1, none⟩ (Value.slice (some ⟨gg, 0, none⟩) ((offG (l, nn) (es.take k)).length + 1) cap)).ownsRow P 48 5 (Value.slice (some ⟨gg, 0, none⟩) ((offG (l, nn) (es.take k)).length + 1) cap) (offG (l, nn) (es.take (k + 1))).length ((offG (l, nn) (es.take (k + 1))).flatMap encEdge) ∧ (∀ g, (Value.slice (some ⟨gg, 0, none⟩) ((offG (l, nn) (es.take k)).length + 1) cap).ownBlock = some g → g ≠ S) ∧ ∀ g, (Value.slice xa p1 xc).ownBlock = some g → (Value.slice (some ⟨gg, 0, none⟩) ((offG (l, nn) (es.take k)).length + 1) cap).ownBlock ≠ some g) := ⟨r1, r2, r5, r3, ap5, ap6⟩
                  clear r1 r2 r3 r4 r5 ap4 ap5 ap6 ltN hown1 hgrow hat hown g2 hf e0 e1 e2 e3 e4 g3 f3
                  go_wp2_with fail
                  go_roundw
                  case rel => exact ⟨k + 1, _, by omega, by go_num, R.out⟩
                  case measure => simp [intOf]; omega)
            · have HU : Hid (hasG (l, nn) (m0, m1, m2, m3, m4) = false) := by show hasG (l, nn) (m0, m1, m2, m3, m4) = false; simp [hasG, eqB, HD1.out]; exact fun e => absurd e.symm h3
              have d1 : (m3 == l) = false := beq_eq_false_iff_ne.2 (fun e => h3 e.symm)
              clear h3
              go_wp2_with fail
              refine wp_region_after (by kernel_rfl) (by kernel_rfl) ?_
              intro hne hac
              repeat (go_big_quiet_step (fail))
              refine wpQuiet_nil ?_
              rintro _ ⟨p, rfl⟩
              have bq : Below wr.heap.size wr p.w := p.bel
              clear hac hne
              generalize p.w = wq at *
              have sq := bq.size
              have HBQ : Hid (Below P W0 wq) := HB.out.trans (bq.mono (by omega))
              have g0' : wq.cell? ⟨w.heap.size, 1, none⟩ = some (.slice (some ⟨b2, o2, none⟩) m c2) := (Below.celz bq _ _ _ z1).trans g0
              have hblk' : wq.heap[S]? = some (.cells #[.slice xa p1 xc, u] 26 (0, 0)) := (bq.block S z3).trans hblk
              have howN' : wq.ownsRow P 46 2 (.slice xa p1 xc) p1 ((offN (l, nn) (ns.take n)).flatMap encNode) := own_keep howN bq
              have hown' : wq.ownsRow P 48 5 u (offG (l, nn) (es.take k)).length ((offG (l, nn) (es.take k)).flatMap encEdge) := own_keep hown bq
              have e0' : wq.cell? ⟨b2, o2 + k * 5, none⟩ = some (.int .i64 m0) := (Below.celz bq _ _ _ z2).trans e0
              have e1' : wq.cell? ⟨b2, o2 + k * 5 + 1, none⟩ = some (.int .i64 m1) := (Below.celz bq _ _ _ z2).trans e1
              have e2' : wq.cell? ⟨b2, o2 + k * 5 + 2, none⟩ = some (.int .i64 m2) := (Below.celz bq _ _ _ z2).trans e2
              have e3' : wq.cell? ⟨b2, o2 + k * 5 + 3, none⟩ = some (.int .i64 m3) := (Below.celz bq _ _ _ z2).trans e3
              have e4' : wq.cell? ⟨b2, o2 + k * 5 + 4, none⟩ = some (.int .i64 m4) := (Below.celz bq _ _ _ z2).trans e4
              have z1' : w.heap.size < wq.heap.size := by omega
              have z2' : b2 < wq.heap.size := by omega
              have z3' : S < wq.heap.size := by omega
              clear g0 hblk howN hown e0 e1 e2 e3 e4 z1 z2 z3 HB
              have g0 := g0'
              have hblk := hblk'
              have howN := howN'
              have hown := hown'
              have e0 := e0'
              have e1 := e1'
              have e2 := e2'
              have e3 := e3'
              have e4 := e4'
              have z1 := z1'
              have z2 := z2'
              have z3 := z3'
              have HB : Hid (Below P W0 wq) := HBQ.out
              clear g0' hblk' howN' hown' e0' e1' e2' e3' e4' z1' z2' z3' bq
              have g2 : wq.cell? ⟨S, 1, none⟩ = some u := by rw [cell_block hblk]; rfl
              have hf : wq.frozen? ⟨S, 1, none⟩ = false := free_block hblk
              obtain ⟨ua, uc, rfl⟩ := own_form hown
              have HK : Hid (wq.heap[S]? = some (.cells #[.slice xa p1 xc, (Value.slice ua (offG (l, nn) (es.take k)).length uc)] 26 (0, 0)) ∧ wq.ownsRow P 46 2 (.slice xa p1 xc) p1 ((offN (l, nn) (ns.take n)).flatMap encNode)) := ⟨hblk, howN⟩
              have lt0 := fun g hg => (hown.lt g hg).1
              have LT : Hid (∀ g, (Value.slice ua (offG (l, nn) (es.take k)).length uc).ownBlock = some g → P ≤ g) := lt0
              have ap1 : some S ≠ (Value.slice ua (offG (l, nn) (es.take k)).length uc).ownBlock := fun h => HAP.out _ h.symm rfl
              have hS : Hid (∀ w', Below wq.heap.size wq w' → w'.cell? ⟨S, 1, none⟩ = some (Value.slice ua (offG (l, nn) (es.take k)).length uc) ∧ w'.frozen? ⟨S, 1, none⟩ = false) :=
                fun w' hn => ⟨(Below.celz hn _ _ _ z3).trans g2, (Below.froz hn _ _ _ z3).trans hf⟩
              clear hblk lt0 howN
              go_wp2_with fail
              go_region_law
                ((refine step_append_lies _ (by rfl) _ _ _ (by rfl) P 48 iE _ 5 40 Tryz.underlying24 jE zE0 zE1 zE2 rfl (by omega) (Value.slice ua (offG (l, nn) (es.take k)).length uc) _ _ (by rfl) ((hown.alloc _).drew) ⟨wq.heap.size, 0, none⟩ 1 1 [.int .i64 m0, .int .i64 m1, .int .i64 m2, .int .i64 m3, .int .i64 m4] (by rfl) (by rfl) (World.news_of_block (cs := #[.int .i64 m0, .int .i64 m1, .int .i64 m2, .int .i64 m3, .int .i64 m4]) (t := 48) (fr := (0, 0)) (heap_alloc_new wq _)) (by simp [Value.oneCell']) (by omega) (by unfold maxLen; omega) (by omega) (by simp; omega) (wq.heap.size + 1) (by simp) ?_; intro gg cap w3 hown1 hgrow hat hlt3; have g3 := hgrow.cell (hS.out _ ((Below.alloc (Below.refl wq.heap.size wq) (Nat.le_refl _) (.cells #[.int .i64 m0, .int .i64 m1, .int .i64 m2, .int .i64 m3, .int .i64 m4] 48)).drew)).1 ap1; have f3 : w3.frozen? ⟨S, 1, none⟩ = false := by rw [hgrow.frozen_far _ (by simp; omega) ap1]; exact (hS.out _ ((Below.alloc (Below.refl wq.heap.size wq) (Nat.le_refl _) (.cells #[.int .i64 m0, .int .i64 m1, .int .i64 m2, .int .i64 m3, .int .i64 m4] 48)).drew)).2))
              all_goals (
                have ap4 : (Value.slice (some ⟨gg, 0, none⟩) ((offG (l, nn) (es.take k)).length + 1) cap).ownBlock ≠ some S := fun h => by
                  simp only [Value.ownBlock, Option.some.injEq] at h
                  rcases hat with h5 | h5
                  · exact HAP.out _ h5 h
                  · omega
                have ap5 : ∀ g, (Value.slice (some ⟨gg, 0, none⟩) ((offG (l, nn) (es.take k)).length + 1) cap).ownBlock = some g → g ≠ S := fun g hg e => ap4 (by rw [hg, e])
                have ltN : ∀ g, (Value.slice xa p1 xc).ownBlock = some g → g < wq.heap.size := fun g hg => (HK.out.2.lt g hg).2
                have ap6 : ∀ g, (Value.slice xa p1 xc).ownBlock = some g → (Value.slice (some ⟨gg, 0, none⟩) ((offG (l, nn) (es.take k)).length + 1) cap).ownBlock ≠ some g := fun g hg h => by
                  simp only [Value.ownBlock, Option.some.injEq] at h
                  rcases hat with h5 | h5
                  · exact HAP2.out g hg (by rw [h5, h])
                  · have := ltN g hg; omega
                obtain ⟨r1, r2, r3, r4⟩ := app_step (j := 1) HB.out ((Below.alloc (Below.refl wq.heap.size wq) (Nat.le_refl _) (.cells #[.int .i64 m0, .int .i64 m1, .int .i64 m2, .int .i64 m3, .int .i64 m4] 48)).drew) (by omega) HK.out.1 LT.out (by omega) (fun h => ap1 h.symm) hgrow (appOffE HX.out HU.out hown1) ap4
                have r5 : (w3.setCell ⟨S, 1, none⟩ (Value.slice (some ⟨gg, 0, none⟩) ((offG (l, nn) (es.take k)).length + 1) cap)).ownsRow P 46 2 (.slice xa p1 xc) p1 ((offN (l, nn) (ns.take n)).flatMap encNode) := by
                  obtain ⟨q1, q2 | ⟨g, cp, cur, qv, qb, qg, qr⟩⟩ := HK.out.2
                  · exact ⟨q1, .inl q2⟩
                  · have hg : (Value.slice xa p1 xc).ownBlock = some g := by rw [qv]; rfl
                    exact ⟨q1, .inr ⟨g, cp, cur, qv, qb, (r4 g (ltN g hg) (fun h => HAP2.out g hg h) (HAS.out g hg)).trans qg, qr⟩⟩
                have R : Hid (Below P W0 (w3.setCell ⟨S, 1, none⟩ (Value.slice (some ⟨gg, 0, none⟩) ((offG (l, nn) (es.take k)).length + 1) cap)) ∧ (w3.setCell ⟨S, 1, none⟩ (Value.slice (some ⟨gg, 0, none⟩) ((offG (l, nn) (es.take k)).length + 1) cap)).heap[S]? = some (.cells #[.slice xa p1 xc, (Value.slice (some ⟨gg, 0, none⟩) ((offG (l, nn) (es.take k)).length + 1) cap)] 26 (0, 0)) ∧ (w3.setCell ⟨S, 1, none⟩ (Value.slice (some ⟨gg, 0, none⟩) ((offG (l, nn) (es.take k)).length + 1) cap)).ownsRow P 46 2 (.slice xa p1 xc) p1 ((offN (l, nn) (ns.take n)).flatMap encNode) ∧ (w3.setCell ⟨S, 1, none⟩ (Value.slice (some ⟨gg, 0, none⟩) ((offG (l, nn) (es.take k)).length + 1) cap)).ownsRow P 48 5 (Value.slice (some ⟨gg, 0, none⟩) ((offG (l, nn) (es.take k)).length + 1) cap) (offG (l, nn) (es.take (k + 1))).length ((offG (l, nn) (es.take (k + 1))).flatMap encEdge) ∧ (∀ g, (Value.slice (some ⟨gg, 0, none⟩) ((offG (l, nn) (es.take k)).length + 1) cap).ownBlock = some g → g ≠ S) ∧ ∀ g, (Value.slice xa p1 xc).ownBlock = some g → (Value.slice (some ⟨gg, 0, none⟩) ((offG (l, nn) (es.take k)).length + 1) cap).ownBlock ≠ some g) := ⟨r1, r2, r5, r3, ap5, ap6⟩
                clear r1 r2 r3 r4 r5 ap4 ap5 ap6 ltN hown1 hgrow hat hown g2 hf e0 e1 e2 e3 e4 g3 f3
                go_wp2_with fail
                go_roundw
                case rel => exact ⟨k + 1, _, by omega, by go_num, R.out⟩
                case measure => simp [intOf]; omega)
        · have hkm : m = k := by omega
          subst hkm
          obtain ⟨ua, uc, rfl⟩ := own_form hown
          have HV2 : Hid (offG (l, nn) (es.take m) = offG (l, nn) es) := by show offG (l, nn) (es.take m) = offG (l, nn) es; rw [HN1.out, List.take_length]
          have g2 : wr.cell? ⟨S, 0, none⟩ = some (.slice xa p1 xc) := by rw [cell_block hblk]; rfl
          have g3 : wr.cell? ⟨S, 1, none⟩ = some (.slice ua (offG (l, nn) (es.take m)).length uc) := by rw [cell_block hblk]; rfl
          have y0 : wr.cell? ⟨w.heap.size + 1 + 1, 0, none⟩ = some (.slice none 0 0) := by rw [Below.celz hbel _ _ _ (by omega)]; exact Q0
          have y1 : wr.cell? ⟨w.heap.size + 1 + 1, 1, none⟩ = some (.slice none 0 0) := by rw [Below.celz hbel _ _ _ (by omega)]; exact Q1
          have yf : ∀ o, wr.frozen? ⟨w.heap.size + 1 + 1, o, none⟩ = false := fun o => by rw [Below.froz hbel _ _ _ (by omega)]; exact QF o
          have HF : Hid (Below w.heap.size w wr ∧ wr.ownsRow P 46 2 (.slice xa p1 xc) p1 ((offN (l, nn) (ns.take n)).flatMap encNode) ∧ wr.ownsRow P 48 5 (.slice ua (offG (l, nn) (es.take m)).length uc) (offG (l, nn) (es.take m)).length ((offG (l, nn) (es.take m)).flatMap encEdge) ∧ ∀ g, (Value.slice xa p1 xc).ownBlock = some g → (Value.slice ua (offG (l, nn) (es.take m)).length uc).ownBlock ≠ some g) := ⟨BW.out.trans (hbel.mono (by omega)), howN, hown, hap2⟩
          have z3 : S < wr.heap.size := by omega
          clear hbel hblk howN hown hap hap2
          go_wp2_with fail
          try simp only [Exit.inBlock, Exit.then]
          refine bodyPost_ret (v := .agg #[.slice xa p1 xc, .slice ua (offG (l, nn) (es.take m)).length uc]) (by simp [*, results, Tryz.results113, go_sem]) rfl ?_
          obtain ⟨f1, f2, f3, f4⟩ := HF.out
          refine ⟨_, _, rfl, ⟨?_, ?_, f4⟩, (f1.setCell (by simp; omega) _).setCell (by simp; omega) _⟩
          · have := own_mono (base' := w.heap.size) (ownsRow_setCell_below (ownsRow_setCell_below f2 (a := ⟨w.heap.size + 1 + 1, 0, none⟩) (by simp; omega) (.slice xa p1 xc)) (a := ⟨w.heap.size + 1 + 1, 1, none⟩) (by simp; omega) (.slice ua (offG (l, nn) (es.take m)).length uc)) (by omega)
            rw [← HV1.out, HP1.out]; exact this
          · have := own_mono (base' := w.heap.size) (ownsRow_setCell_below (ownsRow_setCell_below f3 (a := ⟨w.heap.size + 1 + 1, 0, none⟩) (by simp; omega) (.slice xa p1 xc)) (a := ⟨w.heap.size + 1 + 1, 1, none⟩) (by simp; omega) (.slice ua (offG (l, nn) (es.take m)).length uc)) (by omega)
            rw [← HV2.out]; exact this
theorem l2Off (v1 v2 : Value) (l nn : Int) (ns : List Nd) (es : List Ed) (w : World) (h1 : RowAt 2 encNode w v1 ns) (h2 : RowAt 5 encEdge w v2 es) (l1 : ns.length ≤ 1048576) (l2 : es.length ≤ 1048576) :
    Calls Tryz.prog 113 #[.agg #[v1, v2], .agg #[.int .i64 l, .int .i64 nn]] w fun e w' => ∃ u1 u2, e = .returned (.agg #[u1, u2]) ∧ OwnGraph w' w.heap.size u1 u2 (offN (l, nn) ns) (offG (l, nn) es) ∧ Below w.heap.size w w' := by
  obtain ⟨a1, c1, rfl⟩ := h1.len
  obtain ⟨a2, c2, rfl⟩ := h2.len
  exact l2Off_walk a1 a2 _ _ c1 c2 l nn ns es w h1 h2 rfl rfl l1 l2
end Go.Proofs.YtlnpbfeihjfnjaaGreatDoor.Lab

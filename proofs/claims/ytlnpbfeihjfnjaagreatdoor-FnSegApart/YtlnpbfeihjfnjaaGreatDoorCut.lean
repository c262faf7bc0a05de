/-
  A graph without an edge: spec.l2Cut. (Written by tools/mkcut.py.)
-/
import Derived.Test.YtlnpbfeihjfnjaaGreatDoorGok
import Derived.Test.YtlnpbfeihjfnjaaGreatDoorApp
namespace Go.Proofs.YtlnpbfeihjfnjaaGreatDoor.Lab
open Go.RowKit
set_option linter.unusedVariables false
/-- All edges but one. -/
def offE (x : Ed) (es : List Ed) : List Ed := es.filter (fun y => !eqB y x)
theorem offE_le (x : Ed) (es : List Ed) : (offE x es).length ≤ es.length := List.length_filter_le _ _
theorem offE_out {x : Ed} {es : List Ed} {k : Nat} (h : es[k]? = some x) : offE x (es.take (k + 1)) = offE x (es.take k) := by
  unfold offE
  rw [List.take_add_one, h, List.filter_append]
  simp [eqB]
theorem offE_in {x y : Ed} {es : List Ed} {k : Nat} (h : es[k]? = some y) (hn : ¬ y = x) : offE x (es.take (k + 1)) = offE x (es.take k) ++ [y] := by
  unfold offE
  rw [List.take_add_one, h, List.filter_append]
  simp [eqB, hn]
set_option maxRecDepth 8000 in
set_option maxHeartbeats 8000000 in
theorem l2Cut_walk (a1 a2 : Option Addr) (n m c1 c2 : Nat) (es : List Ed) (l al an bl bn : Int) (w : World) (h2 : RowAt 5 encEdge w (.slice a2 m c2) es) (hM : m = es.length) (hm : m ≤ 1048576) :
    Calls Tryz.prog 112 #[.agg #[.slice a1 n c1, .slice a2 m c2], .agg #[.int .i64 l, .int .i64 al, .int .i64 an, .int .i64 bl, .int .i64 bn]] w fun e w' => ∃ u, e = .returned (.agg #[.slice a1 n c1, u]) ∧ w'.ownsRow w.heap.size 48 5 u (offE (l, al, an, bl, bn) es).length ((offE (l, al, an, bl, bn) es).flatMap encEdge) ∧ Below w.heap.size w w' := by
  obtain ⟨iE, jE, zE0, zE1, zE2⟩ := info_parts Tryz.infoEdge
  have H2 : Hid (RowAt 5 encEdge w (.slice a2 m c2) es) := h2
  have HN1 : Hid (m = es.length) := hM
  clear h2 hM
  obtain ⟨W0, hW0⟩ : ∃ W0, W0 = (((w.alloc (.cells #[.slice a1 n c1, .slice a2 m c2] 26)).alloc (.cells #[.int .i64 l, .int .i64 al, .int .i64 an, .int .i64 bl, .int .i64 bn] 48)).alloc (.cells #[.slice none 0 0, .slice none 0 0] 26)).alloc (.cells #[] 48) := ⟨_, rfl⟩
  obtain ⟨B, hB⟩ : ∃ B, B = w.heap.size + 1 + 1 + 1 := ⟨_, rfl⟩
  have b0 : Below w.heap.size w W0 := by rw [hW0]; go_grown
  have z0 : W0.heap.size = B + 1 := by rw [hW0, hB]; simp
  have G0 : W0.cell? ⟨w.heap.size, 0, none⟩ = some (.slice a1 n c1) := by rw [hW0]; simp [go_sem]
  have G1 : W0.cell? ⟨w.heap.size, 1, none⟩ = some (.slice a2 m c2) := by rw [hW0]; simp [go_sem]
  have GF : W0.frozen? ⟨w.heap.size, 1, none⟩ = false := by rw [hW0]; simp [go_sem]
  have F0 : W0.cell? ⟨w.heap.size + 1, 0, none⟩ = some (.int .i64 l) := by rw [hW0]; simp [go_sem]
  have F1 : W0.cell? ⟨w.heap.size + 1, 1, none⟩ = some (.int .i64 al) := by rw [hW0]; simp [go_sem]
  have F2 : W0.cell? ⟨w.heap.size + 1, 2, none⟩ = some (.int .i64 an) := by rw [hW0]; simp [go_sem]
  have F3 : W0.cell? ⟨w.heap.size + 1, 3, none⟩ = some (.int .i64 bl) := by rw [hW0]; simp [go_sem]
  have F4 : W0.cell? ⟨w.heap.size + 1, 4, none⟩ = some (.int .i64 bn) := by rw [hW0]; simp [go_sem]
  have Q0 : W0.cell? ⟨w.heap.size + 1 + 1, 0, none⟩ = some (.slice none 0 0) := by rw [hW0]; simp [go_sem]
  have Q1 : W0.cell? ⟨w.heap.size + 1 + 1, 1, none⟩ = some (.slice none 0 0) := by rw [hW0]; simp [go_sem]
  have QF : ∀ o, W0.frozen? ⟨w.heap.size + 1 + 1, o, none⟩ = false := fun o => by rw [hW0]; simp [go_sem]
  have t0 : W0.ownsRow B 48 5 (.slice (some ⟨B, 0, none⟩) 0 0) 0 [] := by
    have hb : W0.heap[B]? = some (.cells #[] 48 (0, 0)) := by rw [hW0]; exact (by rw [hB]; exact (show ∀ (w : World) (o : Obj) (S : Nat), S = w.heap.size → (w.alloc o).heap[S]? = some o from fun w o S h => by subst h; exact new_block w o) _ _ _ (by simp))
    exact ⟨by simp, .inr ⟨B, 0, #[], rfl, Nat.le_refl _, hb, Nat.le_refl _, by unfold maxLen; omega, by simp, by simp⟩⟩
  have HB0 : Hid (Below w.heap.size w W0) := b0
  have HW0 : Hid (W0 = (((w.alloc (.cells #[.slice a1 n c1, .slice a2 m c2] 26)).alloc (.cells #[.int .i64 l, .int .i64 al, .int .i64 an, .int .i64 bl, .int .i64 bn] 48)).alloc (.cells #[.slice none 0 0, .slice none 0 0] 26)).alloc (.cells #[] 48)) := hW0
  have HB : Hid (B = w.heap.size + 1 + 1 + 1) := hB
  have o1 : w.heap.size + 1 + 1 < B := by omega
  clear b0 hW0 hB
  go_enter Tryz.func112, Tryz.ntmps112
  go_wp2_with fail
  rw [← HW0.out, ← HB.out]
  clear HW0 HB
  go_loopw [5, 6] (fun v i wr => ∃ k : Nat, k ≤ m ∧ i = .int .i64 k ∧ Below B W0 wr ∧ wr.ownsRow B 48 5 v (offE (l, al, an, bl, bn) (es.take k)).length ((offE (l, al, an, bl, bn) (es.take k)).flatMap encEdge)) (fun _ i _ => m - (intOf i).toNat)
  case atStart => exact ⟨0, by omega, rfl, Below.refl _ _, t0⟩
  case round =>
    clear t0
    obtain ⟨k, hk, rfl, hbel, hown⟩ := hrel
    have hsz := hbel.size
    have g1 : wr.cell? ⟨w.heap.size, 1, none⟩ = some (.slice a2 m c2) := (Below.celz hbel _ _ _ (by omega)).trans G1
    have z1 : w.heap.size < wr.heap.size := by omega
    have z2 : w.heap.size + 1 < wr.heap.size := by omega
    have f0 : wr.cell? ⟨w.heap.size + 1, 0, none⟩ = some (.int .i64 l) := (Below.celz hbel _ _ _ (by omega)).trans F0
    have f1 : wr.cell? ⟨w.heap.size + 1, 1, none⟩ = some (.int .i64 al) := (Below.celz hbel _ _ _ (by omega)).trans F1
    have f2 : wr.cell? ⟨w.heap.size + 1, 2, none⟩ = some (.int .i64 an) := (Below.celz hbel _ _ _ (by omega)).trans F2
    have f3 : wr.cell? ⟨w.heap.size + 1, 3, none⟩ = some (.int .i64 bl) := (Below.celz hbel _ _ _ (by omega)).trans F3
    have f4 : wr.cell? ⟨w.heap.size + 1, 4, none⟩ = some (.int .i64 bn) := (Below.celz hbel _ _ _ (by omega)).trans F4
    have HBL : Hid (Below B W0 wr) := hbel
    by_cases hlt : k < m
    · rcases H2.out with ⟨hz, _⟩ | ⟨_, b2, o2, q2, hv2, hb2, E2⟩
      · rw [hz] at HN1; have := HN1.out; simp at this; omega
      obtain rfl : a2 = some ⟨b2, o2, none⟩ := by injection hv2
      obtain ⟨⟨m0, m1, m2, m3, m4⟩, hx⟩ : ∃ x, es[k]? = some x := ⟨_, List.getElem?_eq_getElem (by rw [← HN1.out]; exact hlt)⟩
      have e0 : wr.cell? ⟨b2, o2 + k * 5, none⟩ = some (.int .i64 m0) := by rw [Below.celz hbel _ _ _ (by omega), Below.celz HB0.out _ _ _ hb2]; exact E2 k _ hx 0 _ rfl
      have e1 : wr.cell? ⟨b2, o2 + k * 5 + 1, none⟩ = some (.int .i64 m1) := by rw [Below.celz hbel _ _ _ (by omega), Below.celz HB0.out _ _ _ hb2]; exact E2 k _ hx 1 _ rfl
      have e2 : wr.cell? ⟨b2, o2 + k * 5 + 2, none⟩ = some (.int .i64 m2) := by rw [Below.celz hbel _ _ _ (by omega), Below.celz HB0.out _ _ _ hb2]; exact E2 k _ hx 2 _ rfl
      have e3 : wr.cell? ⟨b2, o2 + k * 5 + 3, none⟩ = some (.int .i64 m3) := by rw [Below.celz hbel _ _ _ (by omega), Below.celz HB0.out _ _ _ hb2]; exact E2 k _ hx 3 _ rfl
      have e4 : wr.cell? ⟨b2, o2 + k * 5 + 4, none⟩ = some (.int .i64 m4) := by rw [Below.celz hbel _ _ _ (by omega), Below.celz HB0.out _ _ _ hb2]; exact E2 k _ hx 4 _ rfl
      have z3 : b2 < wr.heap.size := by omega
      have k0 : (0 : Int) ≤ (k : Int) := by omega
      have k1 : (k : Int) < (m : Int) := by omega
      have HX : Hid (es[k]? = some (m0, m1, m2, m3, m4)) := hx
      obtain ⟨va, vc, rfl⟩ := own_form hown
      have HOW : Hid (wr.ownsRow B 48 5 (.slice va (offE (l, al, an, bl, bn) (es.take k)).length vc) (offE (l, al, an, bl, bn) (es.take k)).length ((offE (l, al, an, bl, bn) (es.take k)).flatMap encEdge)) := hown
      have hle : (offE (l, al, an, bl, bn) (es.take k)).length ≤ 1048576 := Nat.le_trans (offE_le _ _) (by simp; omega)
      clear hx hbel E2 hv2 hown
      by_cases h0 : m0 = l
      · subst h0
        by_cases h1 : m1 = al
        · subst h1
          by_cases h2 : m2 = an
          · subst h2
            by_cases h3 : m3 = bl
            · subst h3
              by_cases h4 : m4 = bn
              · subst h4
                go_wp2_with fail
                refine wp_region_after (by kernel_rfl) (by kernel_rfl) ?_
                intro hne hac
                repeat (go_big_quiet_step (fail))
                refine wpQuiet_nil ?_
                rintro _ ⟨p, rfl⟩
                have bq : Below wr.heap.size wr p.w := p.bel
                clear hac hne
                generalize p.w = wq at *
                have HBQ : Hid (Below wr.heap.size wr wq) := bq
                have HE : Hid (offE (m0, m1, m2, m3, m4) (es.take (k + 1)) = (offE (m0, m1, m2, m3, m4) (es.take k))) := offE_out HX.out
                clear bq
                go_wp2_with fail
                go_roundw
                case rel => exact ⟨k + 1, by omega, by go_num, HBL.out.trans (HBQ.out.mono (by omega)), by rw [HE.out]; exact own_keep HOW.out HBQ.out⟩
                case measure => simp [intOf]; omega
              · have HD : Hid (¬ (m0, m1, m2, m3, m4) = (m0, m1, m2, m3, bn)) := fun e => h4 (by simp at e; exact e)
                have d0 : (m4 == bn) = false := beq_eq_false_iff_ne.2 h4
                clear h4
                go_wp2_with fail
                refine wp_region_after (by kernel_rfl) (by kernel_rfl) ?_
                intro hne hac
                repeat (go_big_quiet_step (fail))
                refine wpQuiet_nil ?_
                rintro _ ⟨p, rfl⟩
                have bq : Below wr.heap.size wr p.w := p.bel
                clear hac hne
                generalize p.w = wq at *
                have HBQ : Hid (Below wr.heap.size wr wq) := bq
                have HE : Hid (offE (m0, m1, m2, m3, bn) (es.take (k + 1)) = (offE (m0, m1, m2, m3, bn) (es.take k)) ++ [(m0, m1, m2, m3, m4)]) := offE_in HX.out HD.out
                have q1 : wq.cell? ⟨w.heap.size, 1, none⟩ = some (.slice (some ⟨b2, o2, none⟩) m c2) := (Below.celz bq _ _ _ z1).trans g1
                have r0 : wq.cell? ⟨b2, o2 + k * 5, none⟩ = some (.int .i64 m0) := (Below.celz bq _ _ _ z3).trans e0
                have r1 : wq.cell? ⟨b2, o2 + k * 5 + 1, none⟩ = some (.int .i64 m1) := (Below.celz bq _ _ _ z3).trans e1
                have r2 : wq.cell? ⟨b2, o2 + k * 5 + 2, none⟩ = some (.int .i64 m2) := (Below.celz bq _ _ _ z3).trans e2
                have r3 : wq.cell? ⟨b2, o2 + k * 5 + 3, none⟩ = some (.int .i64 m3) := (Below.celz bq _ _ _ z3).trans e3
                have r4 : wq.cell? ⟨b2, o2 + k * 5 + 4, none⟩ = some (.int .i64 m4) := (Below.celz bq _ _ _ z3).trans e4
                have sq := bq.size
                have zq1 : w.heap.size < wq.heap.size := by omega
                have zq3 : b2 < wq.heap.size := by omega
                have HOQ : Hid (wq.ownsRow B 48 5 (.slice va (offE (m0, m1, m2, m3, bn) (es.take k)).length vc) (offE (m0, m1, m2, m3, bn) (es.take k)).length ((offE (m0, m1, m2, m3, bn) (es.take k)).flatMap encEdge)) := own_keep HOW.out bq
                clear bq e0 e1 e2 e3 e4 g1
                go_wp2_with (at_builtin; refine wpList_append_own _ rfl _ _ 24 rfl B 48 iE _ 5 40 Tryz.underlying24 jE zE0 zE1 zE2 rfl (by decide) _ _ _ rfl (HOQ.out.alloc _) ⟨wq.heap.size, 0, none⟩ 1 1 [.int .i64 m0, .int .i64 m1, .int .i64 m2, .int .i64 m3, .int .i64 m4] rfl rfl ?c1 ?c2 ?c3 ?c4 ?c5 ?_)
                case c1 =>
                  intro j u hj
                  match j, hj with
                  | 0, hj => simp at hj; subst hj; simp [Addr.add]
                  | 1, hj => simp at hj; subst hj; simp [Addr.add]
                  | 2, hj => simp at hj; subst hj; simp [Addr.add]
                  | 3, hj => simp at hj; subst hj; simp [Addr.add]
                  | 4, hj => simp at hj; subst hj; simp [Addr.add]
                case c2 => intro u hu; simp at hu; rcases hu with rfl | rfl | rfl | rfl | rfl <;> rfl
                case c3 => unfold maxLen; omega
                case c4 => omega
                case c5 => simp; omega
                · intro v' w3 hown' hgrow _
                  have R : Hid (Below B W0 w3 ∧ w3.ownsRow B 48 5 v' (offE (m0, m1, m2, m3, bn) (es.take (k + 1))).length ((offE (m0, m1, m2, m3, bn) (es.take (k + 1))).flatMap encEdge)) :=
                    ⟨((HBL.out.trans (HBQ.out.mono (by omega))).alloc (by omega) _).grown hgrow (by simp; omega) (fun g hg => (HOQ.out.lt g hg).1), by rw [HE.out]; simpa [List.flatMap_append, encEdge] using hown'⟩
                  clear hown' hgrow q1 r0 r1 r2 r3 r4
                  go_wp2_with fail
                  go_roundw
                  case rel => exact ⟨k + 1, by omega, by go_num, R.out⟩
                  case measure => simp [intOf]; omega
            · have HD : Hid (¬ (m0, m1, m2, m3, m4) = (m0, m1, m2, bl, bn)) := fun e => h3 (by simp at e; exact e.1)
              have d0 : (m3 == bl) = false := beq_eq_false_iff_ne.2 h3
              clear h3
              go_wp2_with fail
              refine wp_region_after (by kernel_rfl) (by kernel_rfl) ?_
              intro hne hac
              repeat (go_big_quiet_step (fail))
              refine wpQuiet_nil ?_
              rintro _ ⟨p, rfl⟩
              have bq : Below wr.heap.size wr p.w := p.bel
              clear hac hne
              generalize p.w = wq at *
              have HBQ : Hid (Below wr.heap.size wr wq) := bq
              have HE : Hid (offE (m0, m1, m2, bl, bn) (es.take (k + 1)) = (offE (m0, m1, m2, bl, bn) (es.take k)) ++ [(m0, m1, m2, m3, m4)]) := offE_in HX.out HD.out
              have q1 : wq.cell? ⟨w.heap.size, 1, none⟩ = some (.slice (some ⟨b2, o2, none⟩) m c2) := (Below.celz bq _ _ _ z1).trans g1
              have r0 : wq.cell? ⟨b2, o2 + k * 5, none⟩ = some (.int .i64 m0) := (Below.celz bq _ _ _ z3).trans e0
              have r1 : wq.cell? ⟨b2, o2 + k * 5 + 1, none⟩ = some (.int .i64 m1) := (Below.celz bq _ _ _ z3).trans e1
              have r2 : wq.cell? ⟨b2, o2 + k * 5 + 2, none⟩ = some (.int .i64 m2) := (Below.celz bq _ _ _ z3).trans e2
              have r3 : wq.cell? ⟨b2, o2 + k * 5 + 3, none⟩ = some (.int .i64 m3) := (Below.celz bq _ _ _ z3).trans e3
              have r4 : wq.cell? ⟨b2, o2 + k * 5 + 4, none⟩ = some (.int .i64 m4) := (Below.celz bq _ _ _ z3).trans e4
              have sq := bq.size
              have zq1 : w.heap.size < wq.heap.size := by omega
              have zq3 : b2 < wq.heap.size := by omega
              have HOQ : Hid (wq.ownsRow B 48 5 (.slice va (offE (m0, m1, m2, bl, bn) (es.take k)).length vc) (offE (m0, m1, m2, bl, bn) (es.take k)).length ((offE (m0, m1, m2, bl, bn) (es.take k)).flatMap encEdge)) := own_keep HOW.out bq
              clear bq e0 e1 e2 e3 e4 g1
              go_wp2_with (at_builtin; refine wpList_append_own _ rfl _ _ 24 rfl B 48 iE _ 5 40 Tryz.underlying24 jE zE0 zE1 zE2 rfl (by decide) _ _ _ rfl (HOQ.out.alloc _) ⟨wq.heap.size, 0, none⟩ 1 1 [.int .i64 m0, .int .i64 m1, .int .i64 m2, .int .i64 m3, .int .i64 m4] rfl rfl ?c1 ?c2 ?c3 ?c4 ?c5 ?_)
              case c1 =>
                intro j u hj
                match j, hj with
                | 0, hj => simp at hj; subst hj; simp [Addr.add]
                | 1, hj => simp at hj; subst hj; simp [Addr.add]
                | 2, hj => simp at hj; subst hj; simp [Addr.add]
                | 3, hj => simp at hj; subst hj; simp [Addr.add]
                | 4, hj => simp at hj; subst hj; simp [Addr.add]
              case c2 => intro u hu; simp at hu; rcases hu with rfl | rfl | rfl | rfl | rfl <;> rfl
              case c3 => unfold maxLen; omega
              case c4 => omega
              case c5 => simp; omega
              · intro v' w3 hown' hgrow _
                have R : Hid (Below B W0 w3 ∧ w3.ownsRow B 48 5 v' (offE (m0, m1, m2, bl, bn) (es.take (k + 1))).length ((offE (m0, m1, m2, bl, bn) (es.take (k + 1))).flatMap encEdge)) :=
                  ⟨((HBL.out.trans (HBQ.out.mono (by omega))).alloc (by omega) _).grown hgrow (by simp; omega) (fun g hg => (HOQ.out.lt g hg).1), by rw [HE.out]; simpa [List.flatMap_append, encEdge] using hown'⟩
                clear hown' hgrow q1 r0 r1 r2 r3 r4
                go_wp2_with fail
                go_roundw
                case rel => exact ⟨k + 1, by omega, by go_num, R.out⟩
                case measure => simp [intOf]; omega
          · have HD : Hid (¬ (m0, m1, m2, m3, m4) = (m0, m1, an, bl, bn)) := fun e => h2 (by simp at e; exact e.1)
            have d0 : (m2 == an) = false := beq_eq_false_iff_ne.2 h2
            clear h2
            go_wp2_with fail
            refine wp_region_after (by kernel_rfl) (by kernel_rfl) ?_
            intro hne hac
            repeat (go_big_quiet_step (fail))
            refine wpQuiet_nil ?_
            rintro _ ⟨p, rfl⟩
            have bq : Below wr.heap.size wr p.w := p.bel
            clear hac hne
            generalize p.w = wq at *
            have HBQ : Hid (Below wr.heap.size wr wq) := bq
            have HE : Hid (offE (m0, m1, an, bl, bn) (es.take (k + 1)) = (offE (m0, m1, an, bl, bn) (es.take k)) ++ [(m0, m1, m2, m3, m4)]) := offE_in HX.out HD.out
            have q1 : wq.cell? ⟨w.heap.size, 1, none⟩ = some (.slice (some ⟨b2, o2, none⟩) m c2) := (Below.celz bq _ _ _ z1).trans g1
            have r0 : wq.cell? ⟨b2, o2 + k * 5, none⟩ = some (.int .i64 m0) := (Below.celz bq _ _ _ z3).trans e0
            have r1 : wq.cell? ⟨b2, o2 + k * 5 + 1, none⟩ = some (.int .i64 m1) := (Below.celz bq _ _ _ z3).trans e1
            have r2 : wq.cell? ⟨b2, o2 + k * 5 + 2, none⟩ = some (.int .i64 m2) := (Below.celz bq _ _ _ z3).trans e2
            have r3 : wq.cell? ⟨b2, o2 + k * 5 + 3, none⟩ = some (.int .i64 m3) := (Below.celz bq _ _ _ z3).trans e3
            have r4 : wq.cell? ⟨b2, o2 + k * 5 + 4, none⟩ = some (.int .i64 m4) := (Below.celz bq _ _ _ z3).trans e4
            have sq := bq.size
            have zq1 : w.heap.size < wq.heap.size := by omega
            have zq3 : b2 < wq.heap.size := by omega
            have HOQ : Hid (wq.ownsRow B 48 5 (.slice va (offE (m0, m1, an, bl, bn) (es.take k)).length vc) (offE (m0, m1, an, bl, bn) (es.take k)).length ((offE (m0, m1, an, bl, bn) (es.take k)).flatMap encEdge)) := own_keep HOW.out bq
            clear bq e0 e1 e2 e3 e4 g1
            go_wp2_with (at_builtin; refine wpList_append_own _ rfl _ _ 24 rfl B 48 iE _ 5 40 Tryz.underlying24 jE zE0 zE1 zE2 rfl (by decide) _ _ _ rfl (HOQ.out.alloc _) ⟨wq.heap.size, 0, none⟩ 1 1 [.int .i64 m0, .int .i64 m1, .int .i64 m2, .int .i64 m3, .int .i64 m4] rfl rfl ?c1 ?c2 ?c3 ?c4 ?c5 ?_)
            case c1 =>
              intro j u hj
              match j, hj with
              | 0, hj => simp at hj; subst hj; simp [Addr.add]
              | 1, hj => simp at hj; subst hj; simp [Addr.add]
              | 2, hj => simp at hj; subst hj; simp [Addr.add]
              | 3, hj => simp at hj; subst hj; simp [Addr.add]
              | 4, hj => simp at hj; subst hj; simp [Addr.add]
            case c2 => intro u hu; simp at hu; rcases hu with rfl | rfl | rfl | rfl | rfl <;> rfl
            case c3 => unfold maxLen; omega
            case c4 => omega
            case c5 => simp; omega
            · intro v' w3 hown' hgrow _
              have R : Hid (Below B W0 w3 ∧ w3.ownsRow B 48 5 v' (offE (m0, m1, an, bl, bn) (es.take (k + 1))).length ((offE (m0, m1, an, bl, bn) (es.take (k + 1))).flatMap encEdge)) :=
                ⟨((HBL.out.trans (HBQ.out.mono (by omega))).alloc (by omega) _).grown hgrow (by simp; omega) (fun g hg => (HOQ.out.lt g hg).1), by rw [HE.out]; simpa [List.flatMap_append, encEdge] using hown'⟩
              clear hown' hgrow q1 r0 r1 r2 r3 r4
              go_wp2_with fail
              go_roundw
              case rel => exact ⟨k + 1, by omega, by go_num, R.out⟩
              case measure => simp [intOf]; omega
        · have HD : Hid (¬ (m0, m1, m2, m3, m4) = (m0, al, an, bl, bn)) := fun e => h1 (by simp at e; exact e.1)
          have d0 : (m1 == al) = false := beq_eq_false_iff_ne.2 h1
          clear h1
          go_wp2_with fail
          refine wp_region_after (by kernel_rfl) (by kernel_rfl) ?_
          intro hne hac
          repeat (go_big_quiet_step (fail))
          refine wpQuiet_nil ?_
          rintro _ ⟨p, rfl⟩
          have bq : Below wr.heap.size wr p.w := p.bel
          clear hac hne
          generalize p.w = wq at *
          have HBQ : Hid (Below wr.heap.size wr wq) := bq
          have HE : Hid (offE (m0, al, an, bl, bn) (es.take (k + 1)) = (offE (m0, al, an, bl, bn) (es.take k)) ++ [(m0, m1, m2, m3, m4)]) := offE_in HX.out HD.out
          have q1 : wq.cell? ⟨w.heap.size, 1, none⟩ = some (.slice (some ⟨b2, o2, none⟩) m c2) := (Below.celz bq _ _ _ z1).trans g1
          have r0 : wq.cell? ⟨b2, o2 + k * 5, none⟩ = some (.int .i64 m0) := (Below.celz bq _ _ _ z3).trans e0
          have r1 : wq.cell? ⟨b2, o2 + k * 5 + 1, none⟩ = some (.int .i64 m1) := (Below.celz bq _ _ _ z3).trans e1
          have r2 : wq.cell? ⟨b2, o2 + k * 5 + 2, none⟩ = some (.int .i64 m2) := (Below.celz bq _ _ _ z3).trans e2
          have r3 : wq.cell? ⟨b2, o2 + k * 5 + 3, none⟩ = some (.int .i64 m3) := (Below.celz bq _ _ _ z3).trans e3
          have r4 : wq.cell? ⟨b2, o2 + k * 5 + 4, none⟩ = some (.int .i64 m4) := (Below.celz bq _ _ _ z3).trans e4
          have sq := bq.size
          have zq1 : w.heap.size < wq.heap.size := by omega
          have zq3 : b2 < wq.heap.size := by omega
          have HOQ : Hid (wq.ownsRow B 48 5 (.slice va (offE (m0, al, an, bl, bn) (es.take k)).length vc) (offE (m0, al, an, bl, bn) (es.take k)).length ((offE (m0, al, an, bl, bn) (es.take k)).flatMap encEdge)) := own_keep HOW.out bq
          clear bq e0 e1 e2 e3 e4 g1
          go_wp2_with (at_builtin; refine wpList_append_own _ rfl _ _ 24 rfl B 48 iE _ 5 40 Tryz.underlying24 jE zE0 zE1 zE2 rfl (by decide) _ _ _ rfl (HOQ.out.alloc _) ⟨wq.heap.size, 0, none⟩ 1 1 [.int .i64 m0, .int .i64 m1, .int .i64 m2, .int .i64 m3, .int .i64 m4] rfl rfl ?c1 ?c2 ?c3 ?c4 ?c5 ?_)
          case c1 =>
            intro j u hj
            match j, hj with
            | 0, hj => simp at hj; subst hj; simp [Addr.add]
            | 1, hj => simp at hj; subst hj; simp [Addr.add]
            | 2, hj => simp at hj; subst hj; simp [Addr.add]
            | 3, hj => simp at hj; subst hj; simp [Addr.add]
            | 4, hj => simp at hj; subst hj; simp [Addr.add]
          case c2 => intro u hu; simp at hu; rcases hu with rfl | rfl | rfl | rfl | rfl <;> rfl
          case c3 => unfold maxLen; omega
          case c4 => omega
          case c5 => simp; omega
          · intro v' w3 hown' hgrow _
            have R : Hid (Below B W0 w3 ∧ w3.ownsRow B 48 5 v' (offE (m0, al, an, bl, bn) (es.take (k + 1))).length ((offE (m0, al, an, bl, bn) (es.take (k + 1))).flatMap encEdge)) :=
              ⟨((HBL.out.trans (HBQ.out.mono (by omega))).alloc (by omega) _).grown hgrow (by simp; omega) (fun g hg => (HOQ.out.lt g hg).1), by rw [HE.out]; simpa [List.flatMap_append, encEdge] using hown'⟩
            clear hown' hgrow q1 r0 r1 r2 r3 r4
            go_wp2_with fail
            go_roundw
            case rel => exact ⟨k + 1, by omega, by go_num, R.out⟩
            case measure => simp [intOf]; omega
      · have HD : Hid (¬ (m0, m1, m2, m3, m4) = (l, al, an, bl, bn)) := fun e => h0 (by simp at e; exact e.1)
        have d0 : (m0 == l) = false := beq_eq_false_iff_ne.2 h0
        clear h0
        go_wp2_with fail
        refine wp_region_after (by kernel_rfl) (by kernel_rfl) ?_
        intro hne hac
        repeat (go_big_quiet_step (fail))
        refine wpQuiet_nil ?_
        rintro _ ⟨p, rfl⟩
        have bq : Below wr.heap.size wr p.w := p.bel
        clear hac hne
        generalize p.w = wq at *
        have HBQ : Hid (Below wr.heap.size wr wq) := bq
        have HE : Hid (offE (l, al, an, bl, bn) (es.take (k + 1)) = (offE (l, al, an, bl, bn) (es.take k)) ++ [(m0, m1, m2, m3, m4)]) := offE_in HX.out HD.out
        have q1 : wq.cell? ⟨w.heap.size, 1, none⟩ = some (.slice (some ⟨b2, o2, none⟩) m c2) := (Below.celz bq _ _ _ z1).trans g1
        have r0 : wq.cell? ⟨b2, o2 + k * 5, none⟩ = some (.int .i64 m0) := (Below.celz bq _ _ _ z3).trans e0
        have r1 : wq.cell? ⟨b2, o2 + k * 5 + 1, none⟩ = some (.int .i64 m1) := (Below.celz bq _ _ _ z3).trans e1
        have r2 : wq.cell? ⟨b2, o2 + k * 5 + 2, none⟩ = some (.int .i64 m2) := (Below.celz bq _ _ _ z3).trans e2
        have r3 : wq.cell? ⟨b2, o2 + k * 5 + 3, none⟩ = some (.int .i64 m3) := (Below.celz bq _ _ _ z3).trans e3
        have r4 : wq.cell? ⟨b2, o2 + k * 5 + 4, none⟩ = some (.int .i64 m4) := (Below.celz bq _ _ _ z3).trans e4
        have sq := bq.size
        have zq1 : w.heap.size < wq.heap.size := by omega
        have zq3 : b2 < wq.heap.size := by omega
        have HOQ : Hid (wq.ownsRow B 48 5 (.slice va (offE (l, al, an, bl, bn) (es.take k)).length vc) (offE (l, al, an, bl, bn) (es.take k)).length ((offE (l, al, an, bl, bn) (es.take k)).flatMap encEdge)) := own_keep HOW.out bq
        clear bq e0 e1 e2 e3 e4 g1
        go_wp2_with (at_builtin; refine wpList_append_own _ rfl _ _ 24 rfl B 48 iE _ 5 40 Tryz.underlying24 jE zE0 zE1 zE2 rfl (by decide) _ _ _ rfl (HOQ.out.alloc _) ⟨wq.heap.size, 0, none⟩ 1 1 [.int .i64 m0, .int .i64 m1, .int .i64 m2, .int .i64 m3, .int .i64 m4] rfl rfl ?c1 ?c2 ?c3 ?c4 ?c5 ?_)
        case c1 =>
          intro j u hj
          match j, hj with
          | 0, hj => simp at hj; subst hj; simp [Addr.add]
          | 1, hj => simp at hj; subst hj; simp [Addr.add]
          | 2, hj => simp at hj; subst hj; simp [Addr.add]
          | 3, hj => simp at hj; subst hj; simp [Addr.add]
          | 4, hj => simp at hj; subst hj; simp [Addr.add]
        case c2 => intro u hu; simp at hu; rcases hu with rfl | rfl | rfl | rfl | rfl <;> rfl
        case c3 => unfold maxLen; omega
        case c4 => omega
        case c5 => simp; omega
        · intro v' w3 hown' hgrow _
          have R : Hid (Below B W0 w3 ∧ w3.ownsRow B 48 5 v' (offE (l, al, an, bl, bn) (es.take (k + 1))).length ((offE (l, al, an, bl, bn) (es.take (k + 1))).flatMap encEdge)) :=
            ⟨((HBL.out.trans (HBQ.out.mono (by omega))).alloc (by omega) _).grown hgrow (by simp; omega) (fun g hg => (HOQ.out.lt g hg).1), by rw [HE.out]; simpa [List.flatMap_append, encEdge] using hown'⟩
          clear hown' hgrow q1 r0 r1 r2 r3 r4
          go_wp2_with fail
          go_roundw
          case rel => exact ⟨k + 1, by omega, by go_num, R.out⟩
          case measure => simp [intOf]; omega
    · have hkm : k = m := by omega
      have tk : es.take k = es := by rw [hkm, HN1.out]; exact List.take_length
      rw [tk] at hown
      obtain ⟨va, vc, rfl⟩ := own_form hown
      have g0 : wr.cell? ⟨w.heap.size, 0, none⟩ = some (.slice a1 n c1) := (Below.celz hbel _ _ _ (by omega)).trans G0
      have gf : wr.frozen? ⟨w.heap.size, 1, none⟩ = false := (Below.froz hbel _ _ _ (by omega)).trans GF
      have y0 : wr.cell? ⟨w.heap.size + 1 + 1, 0, none⟩ = some (.slice none 0 0) := (Below.celz hbel _ _ _ (by omega)).trans Q0
      have y1 : wr.cell? ⟨w.heap.size + 1 + 1, 1, none⟩ = some (.slice none 0 0) := (Below.celz hbel _ _ _ (by omega)).trans Q1
      have yf : ∀ o, wr.frozen? ⟨w.heap.size + 1 + 1, o, none⟩ = false := fun o => (Below.froz hbel _ _ _ (by omega)).trans (QF o)
      have z3 : w.heap.size + 1 + 1 < wr.heap.size := by omega
      have HW : Hid (Below w.heap.size w wr) := HB0.out.trans (hbel.mono (by omega))
      have HF : Hid (wr.ownsRow B 48 5 (.slice va (offE (l, al, an, bl, bn) es).length vc) (offE (l, al, an, bl, bn) es).length ((offE (l, al, an, bl, bn) es).flatMap encEdge)) := hown
      clear hbel hown tk HBL
      subst hkm
      go_wp2_with fail
      refine bodyPost_ret (v := .agg #[.slice a1 n c1, .slice va (offE (l, al, an, bl, bn) es).length vc]) (by simp [*, results, Tryz.results112, go_sem]) rfl ?_
      exact ⟨_, rfl, own_mono (ownsRow_setCell_below (ownsRow_setCell_below (ownsRow_setCell_below HF.out (by simp; omega) _) (by simp; omega) _) (by simp; omega) _) (by omega), ((HW.out.setCell (by simp) _).setCell (by simp; omega) _).setCell (by simp; omega) _⟩
theorem l2Cut (v1 v2 : Value) (n : Nat) (es : List Ed) (l al an bl bn : Int) (w : World) (h1 : ∃ a c, v1 = .slice a n c) (h2 : RowAt 5 encEdge w v2 es) (hm : es.length ≤ 1048576) :
    Calls Tryz.prog 112 #[.agg #[v1, v2], .agg #[.int .i64 l, .int .i64 al, .int .i64 an, .int .i64 bl, .int .i64 bn]] w fun e w' => ∃ u, e = .returned (.agg #[v1, u]) ∧ w'.ownsRow w.heap.size 48 5 u (offE (l, al, an, bl, bn) es).length ((offE (l, al, an, bl, bn) es).flatMap encEdge) ∧ Below w.heap.size w w' := by
  obtain ⟨a1, c1, rfl⟩ := h1
  obtain ⟨a2, c2, rfl⟩ := h2.len
  exact l2Cut_walk a1 a2 n _ c1 c2 es l al an bl bn w h2 rfl hm
end Go.Proofs.YtlnpbfeihjfnjaaGreatDoor.Lab

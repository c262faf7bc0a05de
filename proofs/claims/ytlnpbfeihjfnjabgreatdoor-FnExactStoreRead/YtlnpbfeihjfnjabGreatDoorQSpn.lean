/-
  Who is near a node: the specification's functions. (Written by tools/mkspn.py.)
-/
import Derived.Test.YtlnpbfeihjfnjabGreatDoorQPut
import Derived.Test.YtlnpbfeihjfnjabGreatDoorQNea
namespace Go.Proofs.YtlnpbfeihjfnjabGreatDoor.Lab
open Go.RowKit
set_option linter.unusedVariables false
theorem insW_eq {x : Nd} (hx : nodeB x.1 x.2 = true) : ∀ {ys : List Nd}, (∀ y ∈ ys, nodeB y.1 y.2 = true) → insW x ys = insN x ys
  | [], _ => rfl
  | y :: ys, h => by
    have e1 : codW y = cod y := codeW_ok (h y (List.mem_cons_self ..))
    have e2 : codW x = cod x := codeW_ok hx
    rw [insW, insN, e1, e2, insW_eq hx (fun z hz => h z (List.mem_cons_of_mem _ hz))]
theorem near_none {n : Nd} {es : List Ed} {k : Nat} {x : Ed} (h : es[k]? = some x) (ho : otherI x n = none) : nearF n (es.take (k + 1)) = nearF n (es.take k) := by
  rw [nearF_step h, nearStep, ho]
theorem near_in {n o : Nd} {es : List Ed} {k : Nat} {x : Ed} (h : es[k]? = some x) (ho : otherI x n = some o) (hm : o ∈ nearF n (es.take k)) : nearF n (es.take (k + 1)) = nearF n (es.take k) := by
  rw [nearF_step h, nearStep, ho]
  simp only [if_pos hm]
theorem near_new {n o : Nd} {es : List Ed} {k : Nat} {x : Ed} (he : ∀ x ∈ es, edB x = true) (h : es[k]? = some x) (ho : otherI x n = some o) (hm : ¬ o ∈ nearF n (es.take k)) : nearF n (es.take (k + 1)) = insW o (nearF n (es.take k)) := by
  rw [nearF_step h, nearStep, ho]
  simp only [if_neg hm]
  exact (insW_eq (otherI_ok (he x (List.mem_of_getElem? h)) ho) (nearF_ok (fun y hy => he y (List.mem_of_mem_take hy)))).symm
set_option maxRecDepth 8000 in
set_option maxHeartbeats 20000000 in
theorem l2Near_walk (a1 a2 : Option Addr) (n m c1 c2 : Nat) (l nn : Int) (es : List Ed) (w : World) (h2 : RowAt 5 encEdge w (.slice a2 m c2) es) (hM : m = es.length) (hm : m ≤ 56) (he : ∀ x ∈ es, edB x = true) :
    Calls Tryz.prog 73 #[.agg #[.slice a1 n c1, .slice a2 m c2], .agg #[.int .i64 l, .int .i64 nn]] w fun e w' => ∃ v, e = .returned v ∧ w'.ownsRow w.heap.size 69 2 v (nearF (l, nn) es).length ((nearF (l, nn) es).flatMap encNode) ∧ Below w.heap.size w w' := by
  obtain ⟨iN, jN, zN0, zN1, zN2⟩ := info_parts Tryz.infoNode
  have H2 : Hid (RowAt 5 encEdge w (.slice a2 m c2) es) := h2
  have HN1 : Hid (m = es.length) := hM
  have HEB : Hid (∀ x ∈ es, edB x = true) := he
  clear h2 hM he
  obtain ⟨W0, hW0⟩ : ∃ W0, W0 = ((w.alloc (.cells #[.slice a1 n c1, .slice a2 m c2] 32)).alloc (.cells #[.int .i64 l, .int .i64 nn] 69)).alloc (.cells #[.slice none 0 0, .slice none 0 0] 32) := ⟨_, rfl⟩
  obtain ⟨O, hO⟩ : ∃ O, O = w.heap.size + 1 + 1 := ⟨_, rfl⟩
  have b0 : Below w.heap.size w W0 := by rw [hW0]; go_grown
  have z0 : W0.heap.size = O + 1 := by rw [hW0, hO]; simp
  have G1 : W0.cell? ⟨w.heap.size, 1, none⟩ = some (.slice a2 m c2) := by rw [hW0]; simp [go_sem]
  have F0 : W0.cell? ⟨w.heap.size + 1, 0, none⟩ = some (.int .i64 l) := by rw [hW0]; simp [go_sem]
  have F1 : W0.cell? ⟨w.heap.size + 1, 1, none⟩ = some (.int .i64 nn) := by rw [hW0]; simp [go_sem]
  have t0 : W0.heap[O]? = some (.cells #[.slice none 0 0, .slice none 0 0] 32 (0, 0)) := by rw [hW0]; exact new_at' (by rw [hO]; simp)
  have HB0 : Hid (Below w.heap.size w W0) := b0
  have HW0 : Hid (W0 = ((w.alloc (.cells #[.slice a1 n c1, .slice a2 m c2] 32)).alloc (.cells #[.int .i64 l, .int .i64 nn] 69)).alloc (.cells #[.slice none 0 0, .slice none 0 0] 32)) := hW0
  have HO : Hid (O = w.heap.size + 1 + 1) := hO
  have o1 : w.heap.size + 1 < O := by omega
  clear b0 hW0 hO
  go_enter Tryz.func73, Tryz.ntmps73
  go_wp2_with fail
  rw [← HW0.out, ← HO.out]
  clear HW0 HO
  go_loopw [6] (fun i wr => ∃ (k : Nat) (v : Value), k ≤ m ∧ i = .int .i64 k ∧ Below O W0 wr ∧ wr.heap[O]? = some (.cells #[v, .slice none 0 0] 32 (0, 0)) ∧ wr.ownsRow (O + 1) 69 2 v (nearF (l, nn) (es.take k)).length ((nearF (l, nn) (es.take k)).flatMap encNode)) (fun i _ => m - (intOf i).toNat)
  case atStart => exact ⟨0, _, by omega, rfl, Below.refl _ _, t0, by simpa [nearF] using World.ownsRow_nil _ _ _ _⟩
  case round =>
    clear t0
    obtain ⟨k, v, hk, rfl, hbel, hblk, hown⟩ := hrel
    have hsz := hbel.size
    have hzO : O < wr.heap.size := lt_of_block hblk
    have g1 : wr.cell? ⟨w.heap.size, 1, none⟩ = some (.slice a2 m c2) := (Below.celz hbel _ _ _ (by omega)).trans G1
    have z1 : w.heap.size < wr.heap.size := by omega
    by_cases hlt : k < m
    · rcases H2.out with ⟨hz, _⟩ | ⟨_, b2, o2, q2, hv2, hb2, E2⟩
      · rw [hz] at HN1; have := HN1.out; simp at this; omega
      obtain rfl : a2 = some ⟨b2, o2, none⟩ := by injection hv2
      obtain ⟨⟨m0, m1, m2, m3, m4⟩, hx⟩ : ∃ x, es[k]? = some x := ⟨_, List.getElem?_eq_getElem (by rw [← HN1.out]; exact hlt)⟩
      have e0 : wr.cell? ⟨b2, o2 + k * 5, none⟩ = some (.int .i64 m0) := by rw [Below.celz hbel _ _ _ (by omega), Below.celz HB0.out _ _ _ hb2]; exact E2 k _ hx 0 _ rfl
      have e1 : wr.cell? ⟨b2, o2 + k * 5 + 1, none⟩ = some (.int .i64 m1) := by rw [Below.celz hbel _ _ _ (by omega), Below.celz HB0.out _ _ _ hb2]; exact E2 k _ hx 1 _ rfl
      have e2 : wr.cell? ⟨b2, o2 + k * 5 + 2, none⟩ = some (.int .i64 m2) := by rw [Below.celz hbel _ _ _ (by omega), Below.celz HB0.out _ _ _ hb2]; exact E2 k _ hx 2 _ rfl
      have e2' : wr.cell? ⟨b2, o2 + k * 5 + 1 + 1, none⟩ = some (.int .i64 m2) := e2
      have e3 : wr.cell? ⟨b2, o2 + k * 5 + 3, none⟩ = some (.int .i64 m3) := by rw [Below.celz hbel _ _ _ (by omega), Below.celz HB0.out _ _ _ hb2]; exact E2 k _ hx 3 _ rfl
      have e4 : wr.cell? ⟨b2, o2 + k * 5 + 4, none⟩ = some (.int .i64 m4) := by rw [Below.celz hbel _ _ _ (by omega), Below.celz HB0.out _ _ _ hb2]; exact E2 k _ hx 4 _ rfl
      have e4' : wr.cell? ⟨b2, o2 + k * 5 + 3 + 1, none⟩ = some (.int .i64 m4) := e4
      have f0 : wr.cell? ⟨w.heap.size + 1, 0, none⟩ = some (.int .i64 l) := (Below.celz hbel _ _ _ (by omega)).trans F0
      have f1 : wr.cell? ⟨w.heap.size + 1, 1, none⟩ = some (.int .i64 nn) := (Below.celz hbel _ _ _ (by omega)).trans F1
      have z2 : w.heap.size + 1 < wr.heap.size := by omega
      have z3 : b2 < wr.heap.size := by omega
      have k0 : (0 : Int) ≤ (k : Int) := by omega
      have k1 : (k : Int) < (m : Int) := by omega
      have HX : Hid (es[k]? = some (m0, m1, m2, m3, m4)) := hx
      have HB : Hid (Below O W0 wr) := hbel
      have hle : (nearF (l, nn) (es.take k)).length ≤ 56 := by have := nearF_le (l, nn) (es.take k); simp at this; omega
      have HOL : Hid (wr.heap[O]? = some (.cells #[v, .slice none 0 0] 32 (0, 0)) ∧ wr.ownsRow (O + 1) 69 2 v (nearF (l, nn) (es.take k)).length ((nearF (l, nn) (es.take k)).flatMap encNode)) := ⟨hblk, hown⟩
      obtain ⟨va, vc, rfl⟩ := own_form hown
      have y0 : wr.cell? ⟨O, 0, none⟩ = some (.slice va (nearF (l, nn) (es.take k)).length vc) := by rw [cell_block hblk]; rfl
      have y1 : wr.cell? ⟨O, 1, none⟩ = some (.slice none 0 0) := by rw [cell_block hblk]; rfl
      clear hx hbel E2 hv2 hblk hown
      by_cases hA : l = m1 ∧ nn = m2
      · obtain ⟨rfl, rfl⟩ := hA
        have HOT : Hid (otherI (m0, l, nn, m3, m4) (l, nn) = some (m3, m4)) := by show otherI (m0, l, nn, m3, m4) (l, nn) = some (m3, m4); simp [otherI]
        go_wp2_with fail
        generalize hWM : wr.alloc (.cells #[.int .i64 m3, .int .i64 m4] 69) = wm
        have bm : Below wr.heap.size wr wm := by rw [← hWM]; exact (Below.refl _ _).alloc (Nat.le_refl _) _
        have sm : wr.heap.size + 1 ≤ wm.heap.size := by rw [← hWM]; simp
        have x0 : wm.cell? ⟨wr.heap.size, 0, none⟩ = some (.int .i64 m3) := by rw [← hWM]; simp [go_sem]
        have x1 : wm.cell? ⟨wr.heap.size, 1, none⟩ = some (.int .i64 m4) := by rw [← hWM]; simp [go_sem]
        clear hWM
        have HBM : Hid (Below wr.heap.size wr wm) := bm
        have y0m : wm.cell? ⟨O, 0, none⟩ = some (.slice va (nearF (l, nn) (es.take k)).length vc) := by rw [Below.celz bm _ _ _ hzO]; exact y0
        have y1m : wm.cell? ⟨O, 1, none⟩ = some (.slice none 0 0) := by rw [Below.celz bm _ _ _ hzO]; exact y1
        have HOM : Hid (wm.ownsRow (O + 1) 69 2 (.slice va (nearF (l, nn) (es.take k)).length vc) (nearF (l, nn) (es.take k)).length ((nearF (l, nn) (es.take k)).flatMap encNode)) := own_keep HOL.out.2 bm
        obtain ⟨M, hMM⟩ : ∃ M, M = wr.heap.size := ⟨_, rfl⟩
        have HMM : Hid (M = wr.heap.size) := hMM
        rw [← hMM] at x0 x1 ⊢
        have mO : O < M := by omega
        have zO : O < wm.heap.size := by omega
        have zM : M < wm.heap.size := by omega
        clear bm e0 e1 e2 e2' e3 e4 e4' f0 f1 g1 z1 z2 z3 hMM y0 y1
        refine (l2At va none _ 0 vc 0 (nearF (l, nn) (es.take k)) m3 m4 _ (row_of_own encNode_len (by decide) HOM.out) rfl (by omega)).mono ?_
        rintro e w3 ⟨rfl, b3⟩
        have hsg := atN_sign (x := (m3, m4)) (nearF (l, nn) (es.take k)) 0
        have s3 := b3.size
        have y0' : w3.cell? ⟨O, 0, none⟩ = some (.slice va (nearF (l, nn) (es.take k)).length vc) := by rw [Below.celz b3 _ _ _ zO]; exact y0m
        have y1' : w3.cell? ⟨O, 1, none⟩ = some (.slice none 0 0) := by rw [Below.celz b3 _ _ _ zO]; exact y1m
        have x0' : w3.cell? ⟨M, 0, none⟩ = some (.int .i64 m3) := by rw [Below.celz b3 _ _ _ zM]; exact x0
        have x1' : w3.cell? ⟨M, 1, none⟩ = some (.int .i64 m4) := by rw [Below.celz b3 _ _ _ zM]; exact x1
        have HB3 : Hid (Below wr.heap.size wr w3) := HBM.out.trans (b3.mono (by have := HBM.out.size; omega))
        clear b3 y0m y1m x0 x1
        by_cases hin : (m3, m4) ∈ nearF (l, nn) (es.take k)
        · have hd : decide (atN (nearF (l, nn) (es.take k)) (m3, m4) 0 < 0) = false := by rw [hsg]; simp [hin]
          have HNE : Hid (nearF (l, nn) (es.take (k + 1)) = nearF (l, nn) (es.take k)) := near_in HX.out HOT.out hin
          have BX : ∀ u : Unit, Below wr.heap.size wr w3 := fun _ => HB3.out
          generalize atN (nearF (l, nn) (es.take k)) (m3, m4) 0 = av at *
          clear hsg hin
          go_wp2_with fail
          go_roundw
          case rel => exact ⟨k + 1, _, by omega, by go_num, HB.out.trans ((BX ()).mono (by omega)), by rw [(BX ()).block O hzO]; exact HOL.out.1, by rw [HNE.out]; exact own_keep HOL.out.2 (BX ())⟩
          case measure => simp [intOf]; omega
        · have hd : decide (atN (nearF (l, nn) (es.take k)) (m3, m4) 0 < 0) = true := by rw [hsg]; simp [hin]
          have HNE : Hid (nearF (l, nn) (es.take (k + 1)) = insW (m3, m4) (nearF (l, nn) (es.take k))) := near_new HEB.out HX.out HOT.out hin
          have HO3 : Hid (w3.heap[O]? = some (.cells #[.slice va (nearF (l, nn) (es.take k)).length vc, .slice none 0 0] 32 (0, 0)) ∧ w3.ownsRow (O + 1) 69 2 (.slice va (nearF (l, nn) (es.take k)).length vc) (nearF (l, nn) (es.take k)).length ((nearF (l, nn) (es.take k)).flatMap encNode)) := ⟨by rw [HB3.out.block O hzO]; exact HOL.out.1, own_keep HOL.out.2 HB3.out⟩
          generalize atN (nearF (l, nn) (es.take k)) (m3, m4) 0 = av at *
          clear hsg hin
          go_wp2_with fail
          refine (l2PutNode (O + 1) 0 0 none _ (nearF (l, nn) (es.take k)) m3 m4 _ HO3.out.2 (by omega) (by omega)).mono ?_
          rintro e w4 ⟨u, rfl, hown4, hbut, hat⟩
          obtain ⟨ua, uc, rfl⟩ := own_form hown4
          have hO4 : w4.heap[O]? = some (.cells #[.slice va (nearF (l, nn) (es.take k)).length vc, .slice none 0 0] 32 (0, 0)) := by rw [hbut.blk O (by omega) (fun e => by have := (HO3.out.2.lt O e).1; omega)]; exact HO3.out.1
          have q0 : w4.cell? ⟨O, 0, none⟩ = some (.slice va (nearF (l, nn) (es.take k)).length vc) := by rw [cell_block hO4]; rfl
          have q1 : w4.cell? ⟨O, 1, none⟩ = some (.slice none 0 0) := by rw [cell_block hO4]; rfl
          have qf : ∀ o, w4.frozen? ⟨O, o, none⟩ = false := fun o => free_block hO4
          have hne : (Value.slice ua (insW (m3, m4) (nearF (l, nn) (es.take k))).length uc).ownBlock ≠ some O := fun e => by have := (hown4.lt O e).1; omega
          have HF : Hid (Below O W0 ((w4.setCell ⟨O, 0, none⟩ (.slice ua (insW (m3, m4) (nearF (l, nn) (es.take k))).length uc)).setCell ⟨O, 1, none⟩ (.slice none 0 0)) ∧ ((w4.setCell ⟨O, 0, none⟩ (.slice ua (insW (m3, m4) (nearF (l, nn) (es.take k))).length uc)).setCell ⟨O, 1, none⟩ (.slice none 0 0)).heap[O]? = some (.cells #[.slice ua (insW (m3, m4) (nearF (l, nn) (es.take k))).length uc, .slice none 0 0] 32 (0, 0)) ∧ ((w4.setCell ⟨O, 0, none⟩ (.slice ua (insW (m3, m4) (nearF (l, nn) (es.take k))).length uc)).setCell ⟨O, 1, none⟩ (.slice none 0 0)).ownsRow (O + 1) 69 2 (.slice ua (insW (m3, m4) (nearF (l, nn) (es.take k))).length uc) (nearF (l, nn) (es.take (k + 1))).length ((nearF (l, nn) (es.take (k + 1))).flatMap encNode)) :=
            ⟨((hbut.below (HB.out.trans (HB3.out.mono (by omega))) (by omega) (fun j hj => by have := (HO3.out.2.lt j hj).1; omega)).setCell (by simp) _).setCell (by simp) _, set_block _ (set_block _ hO4), by rw [HNE.out]; exact own_set (own_set hown4 hne _) hne _⟩
          have zO4 : O < w4.heap.size := lt_of_block hO4
          clear hown4 hbut hat hO4 hne y0' y1' x0' x1'
          generalize (insW (m3, m4) (nearF (l, nn) (es.take k))).length = q at *
          go_wp2_with fail
          go_roundw
          case rel => exact ⟨k + 1, _, by omega, by go_num, HF.out⟩
          case measure => simp [intOf]; omega
      · by_cases hB : l = m3 ∧ nn = m4
        · obtain ⟨rfl, rfl⟩ := hB
          have HOT : Hid (otherI (m0, m1, m2, l, nn) (l, nn) = some (m1, m2)) := by show otherI (m0, m1, m2, l, nn) (l, nn) = some (m1, m2); simp [otherI, Prod.mk.injEq, hA]
          by_cases h1 : l = m1
          · subst h1
            have d1 : (m2 == nn) = false := beq_eq_false_iff_ne.2 (fun e => hA ⟨rfl, e.symm⟩)
            have d1' : (nn == m2) = false := beq_eq_false_iff_ne.2 (fun e => hA ⟨rfl, e⟩)
            clear hA
            go_wp2_with fail
            refine wp_region_after (by kernel_rfl) (by kernel_rfl) ?_
            intro hne hac
            repeat (go_big_quiet_step (fail))
            refine wpQuiet_nil ?_
            rintro _ ⟨p, rfl⟩
            have pb := p.bel
            clear hac hne
            generalize p.w = wm at *
            have bm : Below wr.heap.size wr wm := ((Below.refl _ _).alloc (Nat.le_refl _) _).trans (pb.mono (by simp))
            have sm : wr.heap.size + 1 ≤ wm.heap.size := by have := pb.size; simp at this; omega
            have x0 : wm.cell? ⟨wr.heap.size, 0, none⟩ = some (.int .i64 l) := by rw [Below.celz pb _ _ _ (by simp)]; simp [go_sem]
            have x1 : wm.cell? ⟨wr.heap.size, 1, none⟩ = some (.int .i64 m2) := by rw [Below.celz pb _ _ _ (by simp)]; simp [go_sem]
            have yo0 : wm.cell? ⟨O, 0, none⟩ = some (.slice va (nearF (l, nn) (es.take k)).length vc) := by rw [Below.celz bm _ _ _ hzO]; exact y0
            have yo1 : wm.cell? ⟨O, 1, none⟩ = some (.slice none 0 0) := by rw [Below.celz bm _ _ _ hzO]; exact y1
            clear pb
            go_wp2_with fail
            clear yo0 yo1
            have HBM : Hid (Below wr.heap.size wr wm) := bm
            have y0m : wm.cell? ⟨O, 0, none⟩ = some (.slice va (nearF (l, nn) (es.take k)).length vc) := by rw [Below.celz bm _ _ _ hzO]; exact y0
            have y1m : wm.cell? ⟨O, 1, none⟩ = some (.slice none 0 0) := by rw [Below.celz bm _ _ _ hzO]; exact y1
            have HOM : Hid (wm.ownsRow (O + 1) 69 2 (.slice va (nearF (l, nn) (es.take k)).length vc) (nearF (l, nn) (es.take k)).length ((nearF (l, nn) (es.take k)).flatMap encNode)) := own_keep HOL.out.2 bm
            obtain ⟨M, hMM⟩ : ∃ M, M = wr.heap.size := ⟨_, rfl⟩
            have HMM : Hid (M = wr.heap.size) := hMM
            rw [← hMM] at x0 x1 ⊢
            have mO : O < M := by omega
            have zO : O < wm.heap.size := by omega
            have zM : M < wm.heap.size := by omega
            clear bm e0 e1 e2 e2' e3 e4 e4' f0 f1 g1 z1 z2 z3 hMM y0 y1
            refine (l2At va none _ 0 vc 0 (nearF (l, nn) (es.take k)) l m2 _ (row_of_own encNode_len (by decide) HOM.out) rfl (by omega)).mono ?_
            rintro e w3 ⟨rfl, b3⟩
            have hsg := atN_sign (x := (l, m2)) (nearF (l, nn) (es.take k)) 0
            have s3 := b3.size
            have y0' : w3.cell? ⟨O, 0, none⟩ = some (.slice va (nearF (l, nn) (es.take k)).length vc) := by rw [Below.celz b3 _ _ _ zO]; exact y0m
            have y1' : w3.cell? ⟨O, 1, none⟩ = some (.slice none 0 0) := by rw [Below.celz b3 _ _ _ zO]; exact y1m
            have x0' : w3.cell? ⟨M, 0, none⟩ = some (.int .i64 l) := by rw [Below.celz b3 _ _ _ zM]; exact x0
            have x1' : w3.cell? ⟨M, 1, none⟩ = some (.int .i64 m2) := by rw [Below.celz b3 _ _ _ zM]; exact x1
            have HB3 : Hid (Below wr.heap.size wr w3) := HBM.out.trans (b3.mono (by have := HBM.out.size; omega))
            clear b3 y0m y1m x0 x1
            by_cases hin : (l, m2) ∈ nearF (l, nn) (es.take k)
            · have hd : decide (atN (nearF (l, nn) (es.take k)) (l, m2) 0 < 0) = false := by rw [hsg]; simp [hin]
              have HNE : Hid (nearF (l, nn) (es.take (k + 1)) = nearF (l, nn) (es.take k)) := near_in HX.out HOT.out hin
              have BX : ∀ u : Unit, Below wr.heap.size wr w3 := fun _ => HB3.out
              generalize atN (nearF (l, nn) (es.take k)) (l, m2) 0 = av at *
              clear hsg hin
              go_wp2_with fail
              go_roundw
              case rel => exact ⟨k + 1, _, by omega, by go_num, HB.out.trans ((BX ()).mono (by omega)), by rw [(BX ()).block O hzO]; exact HOL.out.1, by rw [HNE.out]; exact own_keep HOL.out.2 (BX ())⟩
              case measure => simp [intOf]; omega
            · have hd : decide (atN (nearF (l, nn) (es.take k)) (l, m2) 0 < 0) = true := by rw [hsg]; simp [hin]
              have HNE : Hid (nearF (l, nn) (es.take (k + 1)) = insW (l, m2) (nearF (l, nn) (es.take k))) := near_new HEB.out HX.out HOT.out hin
              have HO3 : Hid (w3.heap[O]? = some (.cells #[.slice va (nearF (l, nn) (es.take k)).length vc, .slice none 0 0] 32 (0, 0)) ∧ w3.ownsRow (O + 1) 69 2 (.slice va (nearF (l, nn) (es.take k)).length vc) (nearF (l, nn) (es.take k)).length ((nearF (l, nn) (es.take k)).flatMap encNode)) := ⟨by rw [HB3.out.block O hzO]; exact HOL.out.1, own_keep HOL.out.2 HB3.out⟩
              generalize atN (nearF (l, nn) (es.take k)) (l, m2) 0 = av at *
              clear hsg hin
              go_wp2_with fail
              refine (l2PutNode (O + 1) 0 0 none _ (nearF (l, nn) (es.take k)) l m2 _ HO3.out.2 (by omega) (by omega)).mono ?_
              rintro e w4 ⟨u, rfl, hown4, hbut, hat⟩
              obtain ⟨ua, uc, rfl⟩ := own_form hown4
              have hO4 : w4.heap[O]? = some (.cells #[.slice va (nearF (l, nn) (es.take k)).length vc, .slice none 0 0] 32 (0, 0)) := by rw [hbut.blk O (by omega) (fun e => by have := (HO3.out.2.lt O e).1; omega)]; exact HO3.out.1
              have q0 : w4.cell? ⟨O, 0, none⟩ = some (.slice va (nearF (l, nn) (es.take k)).length vc) := by rw [cell_block hO4]; rfl
              have q1 : w4.cell? ⟨O, 1, none⟩ = some (.slice none 0 0) := by rw [cell_block hO4]; rfl
              have qf : ∀ o, w4.frozen? ⟨O, o, none⟩ = false := fun o => free_block hO4
              have hne : (Value.slice ua (insW (l, m2) (nearF (l, nn) (es.take k))).length uc).ownBlock ≠ some O := fun e => by have := (hown4.lt O e).1; omega
              have HF : Hid (Below O W0 ((w4.setCell ⟨O, 0, none⟩ (.slice ua (insW (l, m2) (nearF (l, nn) (es.take k))).length uc)).setCell ⟨O, 1, none⟩ (.slice none 0 0)) ∧ ((w4.setCell ⟨O, 0, none⟩ (.slice ua (insW (l, m2) (nearF (l, nn) (es.take k))).length uc)).setCell ⟨O, 1, none⟩ (.slice none 0 0)).heap[O]? = some (.cells #[.slice ua (insW (l, m2) (nearF (l, nn) (es.take k))).length uc, .slice none 0 0] 32 (0, 0)) ∧ ((w4.setCell ⟨O, 0, none⟩ (.slice ua (insW (l, m2) (nearF (l, nn) (es.take k))).length uc)).setCell ⟨O, 1, none⟩ (.slice none 0 0)).ownsRow (O + 1) 69 2 (.slice ua (insW (l, m2) (nearF (l, nn) (es.take k))).length uc) (nearF (l, nn) (es.take (k + 1))).length ((nearF (l, nn) (es.take (k + 1))).flatMap encNode)) :=
                ⟨((hbut.below (HB.out.trans (HB3.out.mono (by omega))) (by omega) (fun j hj => by have := (HO3.out.2.lt j hj).1; omega)).setCell (by simp) _).setCell (by simp) _, set_block _ (set_block _ hO4), by rw [HNE.out]; exact own_set (own_set hown4 hne _) hne _⟩
              have zO4 : O < w4.heap.size := lt_of_block hO4
              clear hown4 hbut hat hO4 hne y0' y1' x0' x1'
              generalize (insW (l, m2) (nearF (l, nn) (es.take k))).length = q at *
              go_wp2_with fail
              go_roundw
              case rel => exact ⟨k + 1, _, by omega, by go_num, HF.out⟩
              case measure => simp [intOf]; omega
          · have d1 : (m1 == l) = false := beq_eq_false_iff_ne.2 (fun e => h1 e.symm)
            have d1' : (l == m1) = false := beq_eq_false_iff_ne.2 h1
            clear hA h1
            go_wp2_with fail
            refine wp_region_after (by kernel_rfl) (by kernel_rfl) ?_
            intro hne hac
            repeat (go_big_quiet_step (fail))
            refine wpQuiet_nil ?_
            rintro _ ⟨p, rfl⟩
            have pb := p.bel
            clear hac hne
            generalize p.w = wm at *
            have bm : Below wr.heap.size wr wm := ((Below.refl _ _).alloc (Nat.le_refl _) _).trans (pb.mono (by simp))
            have sm : wr.heap.size + 1 ≤ wm.heap.size := by have := pb.size; simp at this; omega
            have x0 : wm.cell? ⟨wr.heap.size, 0, none⟩ = some (.int .i64 m1) := by rw [Below.celz pb _ _ _ (by simp)]; simp [go_sem]
            have x1 : wm.cell? ⟨wr.heap.size, 1, none⟩ = some (.int .i64 m2) := by rw [Below.celz pb _ _ _ (by simp)]; simp [go_sem]
            have yo0 : wm.cell? ⟨O, 0, none⟩ = some (.slice va (nearF (l, nn) (es.take k)).length vc) := by rw [Below.celz bm _ _ _ hzO]; exact y0
            have yo1 : wm.cell? ⟨O, 1, none⟩ = some (.slice none 0 0) := by rw [Below.celz bm _ _ _ hzO]; exact y1
            clear pb
            go_wp2_with fail
            clear yo0 yo1
            have HBM : Hid (Below wr.heap.size wr wm) := bm
            have y0m : wm.cell? ⟨O, 0, none⟩ = some (.slice va (nearF (l, nn) (es.take k)).length vc) := by rw [Below.celz bm _ _ _ hzO]; exact y0
            have y1m : wm.cell? ⟨O, 1, none⟩ = some (.slice none 0 0) := by rw [Below.celz bm _ _ _ hzO]; exact y1
            have HOM : Hid (wm.ownsRow (O + 1) 69 2 (.slice va (nearF (l, nn) (es.take k)).length vc) (nearF (l, nn) (es.take k)).length ((nearF (l, nn) (es.take k)).flatMap encNode)) := own_keep HOL.out.2 bm
            obtain ⟨M, hMM⟩ : ∃ M, M = wr.heap.size := ⟨_, rfl⟩
            have HMM : Hid (M = wr.heap.size) := hMM
            rw [← hMM] at x0 x1 ⊢
            have mO : O < M := by omega
            have zO : O < wm.heap.size := by omega
            have zM : M < wm.heap.size := by omega
            clear bm e0 e1 e2 e2' e3 e4 e4' f0 f1 g1 z1 z2 z3 hMM y0 y1
            refine (l2At va none _ 0 vc 0 (nearF (l, nn) (es.take k)) m1 m2 _ (row_of_own encNode_len (by decide) HOM.out) rfl (by omega)).mono ?_
            rintro e w3 ⟨rfl, b3⟩
            have hsg := atN_sign (x := (m1, m2)) (nearF (l, nn) (es.take k)) 0
            have s3 := b3.size
            have y0' : w3.cell? ⟨O, 0, none⟩ = some (.slice va (nearF (l, nn) (es.take k)).length vc) := by rw [Below.celz b3 _ _ _ zO]; exact y0m
            have y1' : w3.cell? ⟨O, 1, none⟩ = some (.slice none 0 0) := by rw [Below.celz b3 _ _ _ zO]; exact y1m
            have x0' : w3.cell? ⟨M, 0, none⟩ = some (.int .i64 m1) := by rw [Below.celz b3 _ _ _ zM]; exact x0
            have x1' : w3.cell? ⟨M, 1, none⟩ = some (.int .i64 m2) := by rw [Below.celz b3 _ _ _ zM]; exact x1
            have HB3 : Hid (Below wr.heap.size wr w3) := HBM.out.trans (b3.mono (by have := HBM.out.size; omega))
            clear b3 y0m y1m x0 x1
            by_cases hin : (m1, m2) ∈ nearF (l, nn) (es.take k)
            · have hd : decide (atN (nearF (l, nn) (es.take k)) (m1, m2) 0 < 0) = false := by rw [hsg]; simp [hin]
              have HNE : Hid (nearF (l, nn) (es.take (k + 1)) = nearF (l, nn) (es.take k)) := near_in HX.out HOT.out hin
              have BX : ∀ u : Unit, Below wr.heap.size wr w3 := fun _ => HB3.out
              generalize atN (nearF (l, nn) (es.take k)) (m1, m2) 0 = av at *
              clear hsg hin
              go_wp2_with fail
              go_roundw
              case rel => exact ⟨k + 1, _, by omega, by go_num, HB.out.trans ((BX ()).mono (by omega)), by rw [(BX ()).block O hzO]; exact HOL.out.1, by rw [HNE.out]; exact own_keep HOL.out.2 (BX ())⟩
              case measure => simp [intOf]; omega
            · have hd : decide (atN (nearF (l, nn) (es.take k)) (m1, m2) 0 < 0) = true := by rw [hsg]; simp [hin]
              have HNE : Hid (nearF (l, nn) (es.take (k + 1)) = insW (m1, m2) (nearF (l, nn) (es.take k))) := near_new HEB.out HX.out HOT.out hin
              have HO3 : Hid (w3.heap[O]? = some (.cells #[.slice va (nearF (l, nn) (es.take k)).length vc, .slice none 0 0] 32 (0, 0)) ∧ w3.ownsRow (O + 1) 69 2 (.slice va (nearF (l, nn) (es.take k)).length vc) (nearF (l, nn) (es.take k)).length ((nearF (l, nn) (es.take k)).flatMap encNode)) := ⟨by rw [HB3.out.block O hzO]; exact HOL.out.1, own_keep HOL.out.2 HB3.out⟩
              generalize atN (nearF (l, nn) (es.take k)) (m1, m2) 0 = av at *
              clear hsg hin
              go_wp2_with fail
              refine (l2PutNode (O + 1) 0 0 none _ (nearF (l, nn) (es.take k)) m1 m2 _ HO3.out.2 (by omega) (by omega)).mono ?_
              rintro e w4 ⟨u, rfl, hown4, hbut, hat⟩
              obtain ⟨ua, uc, rfl⟩ := own_form hown4
              have hO4 : w4.heap[O]? = some (.cells #[.slice va (nearF (l, nn) (es.take k)).length vc, .slice none 0 0] 32 (0, 0)) := by rw [hbut.blk O (by omega) (fun e => by have := (HO3.out.2.lt O e).1; omega)]; exact HO3.out.1
              have q0 : w4.cell? ⟨O, 0, none⟩ = some (.slice va (nearF (l, nn) (es.take k)).length vc) := by rw [cell_block hO4]; rfl
              have q1 : w4.cell? ⟨O, 1, none⟩ = some (.slice none 0 0) := by rw [cell_block hO4]; rfl
              have qf : ∀ o, w4.frozen? ⟨O, o, none⟩ = false := fun o => free_block hO4
              have hne : (Value.slice ua (insW (m1, m2) (nearF (l, nn) (es.take k))).length uc).ownBlock ≠ some O := fun e => by have := (hown4.lt O e).1; omega
              have HF : Hid (Below O W0 ((w4.setCell ⟨O, 0, none⟩ (.slice ua (insW (m1, m2) (nearF (l, nn) (es.take k))).length uc)).setCell ⟨O, 1, none⟩ (.slice none 0 0)) ∧ ((w4.setCell ⟨O, 0, none⟩ (.slice ua (insW (m1, m2) (nearF (l, nn) (es.take k))).length uc)).setCell ⟨O, 1, none⟩ (.slice none 0 0)).heap[O]? = some (.cells #[.slice ua (insW (m1, m2) (nearF (l, nn) (es.take k))).length uc, .slice none 0 0] 32 (0, 0)) ∧ ((w4.setCell ⟨O, 0, none⟩ (.slice ua (insW (m1, m2) (nearF (l, nn) (es.take k))).length uc)).setCell ⟨O, 1, none⟩ (.slice none 0 0)).ownsRow (O + 1) 69 2 (.slice ua (insW (m1, m2) (nearF (l, nn) (es.take k))).length uc) (nearF (l, nn) (es.take (k + 1))).length ((nearF (l, nn) (es.take (k + 1))).flatMap encNode)) :=
                ⟨((hbut.below (HB.out.trans (HB3.out.mono (by omega))) (by omega) (fun j hj => by have := (HO3.out.2.lt j hj).1; omega)).setCell (by simp) _).setCell (by simp) _, set_block _ (set_block _ hO4), by rw [HNE.out]; exact own_set (own_set hown4 hne _) hne _⟩
              have zO4 : O < w4.heap.size := lt_of_block hO4
              clear hown4 hbut hat hO4 hne y0' y1' x0' x1'
              generalize (insW (m1, m2) (nearF (l, nn) (es.take k))).length = q at *
              go_wp2_with fail
              go_roundw
              case rel => exact ⟨k + 1, _, by omega, by go_num, HF.out⟩
              case measure => simp [intOf]; omega
        · have HNE : Hid (nearF (l, nn) (es.take (k + 1)) = nearF (l, nn) (es.take k)) := near_none HX.out (by simp [otherI, Prod.mk.injEq, hA, hB])
          by_cases h1 : l = m1
          · subst h1
            have d1 : (m2 == nn) = false := beq_eq_false_iff_ne.2 (fun e => hA ⟨rfl, e.symm⟩)
            have d1' : (nn == m2) = false := beq_eq_false_iff_ne.2 (fun e => hA ⟨rfl, e⟩)
            clear hA
            by_cases h2 : l = m3
            · subst h2
              have d2 : (m4 == nn) = false := beq_eq_false_iff_ne.2 (fun e => hB ⟨rfl, e.symm⟩)
              have d2' : (nn == m4) = false := beq_eq_false_iff_ne.2 (fun e => hB ⟨rfl, e⟩)
              clear hB
              go_wp2_with fail
              refine wp_region_after (by kernel_rfl) (by kernel_rfl) ?_
              intro hne hac
              repeat (go_big_quiet_step (fail))
              refine wpQuiet_nil ?_
              rintro _ ⟨p, rfl⟩
              have pb := p.bel
              clear hac hne
              generalize p.w = wm at *
              have bm : Below wr.heap.size wr wm := ((Below.refl _ _).alloc (Nat.le_refl _) _).trans (pb.mono (by simp))
              have sm : wr.heap.size + 1 ≤ wm.heap.size := by have := pb.size; simp at this; omega
              have x0 : wm.cell? ⟨wr.heap.size, 0, none⟩ = some (.int .i64 l) := by rw [Below.celz pb _ _ _ (by simp)]; simp [go_sem]
              have x1 : wm.cell? ⟨wr.heap.size, 1, none⟩ = some (.int .i64 m2) := by rw [Below.celz pb _ _ _ (by simp)]; simp [go_sem]
              have yo0 : wm.cell? ⟨O, 0, none⟩ = some (.slice va (nearF (l, nn) (es.take k)).length vc) := by rw [Below.celz bm _ _ _ hzO]; exact y0
              have yo1 : wm.cell? ⟨O, 1, none⟩ = some (.slice none 0 0) := by rw [Below.celz bm _ _ _ hzO]; exact y1
              clear pb
              have HB3 : Hid (Below wr.heap.size wr wm) := bm
              clear bm x0 x1 yo0 yo1
              go_wp2_with fail
              go_roundw
              case rel => exact ⟨k + 1, _, by omega, by go_num, HB.out.trans (HB3.out.mono (by omega)), by rw [HB3.out.block O hzO]; exact HOL.out.1, by rw [HNE.out]; exact own_keep HOL.out.2 HB3.out⟩
              case measure => simp [intOf]; omega
            · skip
              have d2 : (m3 == l) = false := beq_eq_false_iff_ne.2 (fun e => h2 e.symm)
              have d2' : (l == m3) = false := beq_eq_false_iff_ne.2 h2
              clear hB h2
              go_wp2_with fail
              refine wp_region_after (by kernel_rfl) (by kernel_rfl) ?_
              intro hne hac
              repeat (go_big_quiet_step (fail))
              refine wpQuiet_nil ?_
              rintro _ ⟨p, rfl⟩
              have pb := p.bel
              clear hac hne
              generalize p.w = wm at *
              have bm : Below wr.heap.size wr wm := ((Below.refl _ _).alloc (Nat.le_refl _) _).trans (pb.mono (by simp))
              have sm : wr.heap.size + 1 ≤ wm.heap.size := by have := pb.size; simp at this; omega
              have x0 : wm.cell? ⟨wr.heap.size, 0, none⟩ = some (.int .i64 l) := by rw [Below.celz pb _ _ _ (by simp)]; simp [go_sem]
              have x1 : wm.cell? ⟨wr.heap.size, 1, none⟩ = some (.int .i64 m2) := by rw [Below.celz pb _ _ _ (by simp)]; simp [go_sem]
              have yo0 : wm.cell? ⟨O, 0, none⟩ = some (.slice va (nearF (l, nn) (es.take k)).length vc) := by rw [Below.celz bm _ _ _ hzO]; exact y0
              have yo1 : wm.cell? ⟨O, 1, none⟩ = some (.slice none 0 0) := by rw [Below.celz bm _ _ _ hzO]; exact y1
              clear pb
              have HB3 : Hid (Below wr.heap.size wr wm) := bm
              clear bm x0 x1 yo0 yo1
              go_wp2_with fail
              go_roundw
              case rel => exact ⟨k + 1, _, by omega, by go_num, HB.out.trans (HB3.out.mono (by omega)), by rw [HB3.out.block O hzO]; exact HOL.out.1, by rw [HNE.out]; exact own_keep HOL.out.2 HB3.out⟩
              case measure => simp [intOf]; omega
          · skip
            have d1 : (m1 == l) = false := beq_eq_false_iff_ne.2 (fun e => h1 e.symm)
            have d1' : (l == m1) = false := beq_eq_false_iff_ne.2 h1
            clear hA h1
            by_cases h2 : l = m3
            · subst h2
              have d2 : (m4 == nn) = false := beq_eq_false_iff_ne.2 (fun e => hB ⟨rfl, e.symm⟩)
              have d2' : (nn == m4) = false := beq_eq_false_iff_ne.2 (fun e => hB ⟨rfl, e⟩)
              clear hB
              go_wp2_with fail
              refine wp_region_after (by kernel_rfl) (by kernel_rfl) ?_
              intro hne hac
              repeat (go_big_quiet_step (fail))
              refine wpQuiet_nil ?_
              rintro _ ⟨p, rfl⟩
              have pb := p.bel
              clear hac hne
              generalize p.w = wm at *
              have bm : Below wr.heap.size wr wm := ((Below.refl _ _).alloc (Nat.le_refl _) _).trans (pb.mono (by simp))
              have sm : wr.heap.size + 1 ≤ wm.heap.size := by have := pb.size; simp at this; omega
              have x0 : wm.cell? ⟨wr.heap.size, 0, none⟩ = some (.int .i64 m1) := by rw [Below.celz pb _ _ _ (by simp)]; simp [go_sem]
              have x1 : wm.cell? ⟨wr.heap.size, 1, none⟩ = some (.int .i64 m2) := by rw [Below.celz pb _ _ _ (by simp)]; simp [go_sem]
              have yo0 : wm.cell? ⟨O, 0, none⟩ = some (.slice va (nearF (l, nn) (es.take k)).length vc) := by rw [Below.celz bm _ _ _ hzO]; exact y0
              have yo1 : wm.cell? ⟨O, 1, none⟩ = some (.slice none 0 0) := by rw [Below.celz bm _ _ _ hzO]; exact y1
              clear pb
              have HB3 : Hid (Below wr.heap.size wr wm) := bm
              clear bm x0 x1 yo0 yo1
              go_wp2_with fail
              go_roundw
              case rel => exact ⟨k + 1, _, by omega, by go_num, HB.out.trans (HB3.out.mono (by omega)), by rw [HB3.out.block O hzO]; exact HOL.out.1, by rw [HNE.out]; exact own_keep HOL.out.2 HB3.out⟩
              case measure => simp [intOf]; omega
            · skip
              have d2 : (m3 == l) = false := beq_eq_false_iff_ne.2 (fun e => h2 e.symm)
              have d2' : (l == m3) = false := beq_eq_false_iff_ne.2 h2
              clear hB h2
              go_wp2_with fail
              refine wp_region_after (by kernel_rfl) (by kernel_rfl) ?_
              intro hne hac
              repeat (go_big_quiet_step (fail))
              refine wpQuiet_nil ?_
              rintro _ ⟨p, rfl⟩
              have pb := p.bel
              clear hac hne
              generalize p.w = wm at *
              have bm : Below wr.heap.size wr wm := ((Below.refl _ _).alloc (Nat.le_refl _) _).trans (pb.mono (by simp))
              have sm : wr.heap.size + 1 ≤ wm.heap.size := by have := pb.size; simp at this; omega
              have x0 : wm.cell? ⟨wr.heap.size, 0, none⟩ = some (.int .i64 m1) := by rw [Below.celz pb _ _ _ (by simp)]; simp [go_sem]
              have x1 : wm.cell? ⟨wr.heap.size, 1, none⟩ = some (.int .i64 m2) := by rw [Below.celz pb _ _ _ (by simp)]; simp [go_sem]
              have yo0 : wm.cell? ⟨O, 0, none⟩ = some (.slice va (nearF (l, nn) (es.take k)).length vc) := by rw [Below.celz bm _ _ _ hzO]; exact y0
              have yo1 : wm.cell? ⟨O, 1, none⟩ = some (.slice none 0 0) := by rw [Below.celz bm _ _ _ hzO]; exact y1
              clear pb
              have HB3 : Hid (Below wr.heap.size wr wm) := bm
              clear bm x0 x1 yo0 yo1
              go_wp2_with fail
              go_roundw
              case rel => exact ⟨k + 1, _, by omega, by go_num, HB.out.trans (HB3.out.mono (by omega)), by rw [HB3.out.block O hzO]; exact HOL.out.1, by rw [HNE.out]; exact own_keep HOL.out.2 HB3.out⟩
              case measure => simp [intOf]; omega
    · have hkm : k = m := by omega
      have tk : es.take k = es := by rw [hkm, HN1.out]; exact List.take_length
      rw [tk] at hown
      obtain ⟨va, vc, rfl⟩ := own_form hown
      have hle : (nearF (l, nn) es).length ≤ 56 := by have := nearF_le (l, nn) es; have := HN1.out; omega
      have y0 : wr.cell? ⟨O, 0, none⟩ = some (.slice va (nearF (l, nn) es).length vc) := by rw [cell_block hblk]; rfl
      have HR : Hid (RowAt 2 encNode (wr.alloc (.cells #[] 69)) (.slice va (nearF (l, nn) es).length vc) (nearF (l, nn) es)) := (row_of_own encNode_len (by decide) hown).keep ((Below.refl _ _).alloc (Nat.le_refl _) _)
      have HW : Hid (Below w.heap.size w wr) := HB0.out.trans (hbel.mono (by omega))
      clear hbel hblk hown tk
      subst hkm
      go_wp2_with (at_builtin; refine wpList_appRow encNode_len (by decide) encNode_one rfl _ _ 29 rfl Tryz.underlying29 jN zN0 zN1 zN2 rfl wr.heap.size (.slice (some ⟨wr.heap.size, 0, none⟩) 0 0) 0 [] _ (nearF (l, nn) es) rfl rfl (World.ownsRow_lit wr #[] 0 (Nat.le_refl _) (by unfold maxLen; omega) rfl) HR.out (by unfold maxLen; omega) (by omega) (by simp) ?_)
      intro v' w5 hown5 hg5 _
      have HF : Hid (w5.ownsRow w.heap.size 69 2 v' (nearF (l, nn) es).length ((nearF (l, nn) es).flatMap encNode) ∧ Below w.heap.size w w5) := ⟨own_mono (by simpa using hown5) (by omega), HW.out.trans ((((Below.refl _ _).alloc (Nat.le_refl _) _).grown hg5 (by simp) (fun j hj => by simp [Value.ownBlock] at hj; omega)).mono (by omega))⟩
      clear hown5 hg5
      go_wp2_with fail
      go_ret
      exact ⟨_, rfl, HF.out⟩
theorem l2Near (v1 v2 : Value) (n : Nat) (l nn : Int) (es : List Ed) (w : World) (h1 : ∃ a c, v1 = .slice a n c) (h2 : RowAt 5 encEdge w v2 es) (hm : es.length ≤ 56) (he : ∀ x ∈ es, edB x = true) :
    Calls Tryz.prog 73 #[.agg #[v1, v2], .agg #[.int .i64 l, .int .i64 nn]] w fun e w' => ∃ v, e = .returned v ∧ w'.ownsRow w.heap.size 69 2 v (nearF (l, nn) es).length ((nearF (l, nn) es).flatMap encNode) ∧ Below w.heap.size w w' := by
  obtain ⟨a1, c1, rfl⟩ := h1
  obtain ⟨a2, c2, rfl⟩ := h2.len
  exact l2Near_walk a1 a2 n _ c1 c2 l nn es w h2 rfl hm he
end Go.Proofs.YtlnpbfeihjfnjabGreatDoor.Lab

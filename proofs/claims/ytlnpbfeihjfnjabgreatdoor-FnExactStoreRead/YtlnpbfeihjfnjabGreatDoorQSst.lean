/-
  The bytes of one label, and of a graph, by the specification: l4Seg, SegOf, l4Store, StoreOf.
-/
import Derived.Test.YtlnpbfeihjfnjabGreatDoorQSsg
namespace Go.Proofs.YtlnpbfeihjfnjabGreatDoor.Lab
open Go.RowKit
set_option linter.unusedVariables false
set_option maxRecDepth 8000 in
set_option maxHeartbeats 20000000 in
theorem l4Seg (v1 v2 : Value) (l : Int) (ns : List Nd) (es : List Ed) (w : World) (h1 : RowAt 2 encNode w v1 ns) (h2 : RowAt 5 encEdge w v2 es) (hg : GOk ns es) :
    Calls Tryz.prog 47 #[.agg #[v1, v2], .int .i64 l] w fun e w' => e = .returned (.string ⟨(segL l ns es).toArray⟩) ∧ Below w.heap.size w w' := by
  obtain ⟨a, c, rfl⟩ := h1.len
  obtain ⟨a2, c2, rfl⟩ := h2.len
  obtain ⟨i0, hi, hz0, hz1, hz2⟩ := info_parts Tryz.infoI
  have lns : ns.length ≤ 40 := nodes_len hg.1
  have les : es.length ≤ 56 := edges_len hg.2
  have H1 : Hid (RowAt 2 encNode w (.slice a ns.length c) ns) := h1
  have H2 : Hid (RowAt 5 encEdge w (.slice a2 es.length c2) es) := h2
  have HG : Hid (GOk ns es) := hg
  clear h1 h2 hg
  obtain ⟨n, hn⟩ : ∃ n, n = ns.length := ⟨_, rfl⟩
  obtain ⟨m, hm⟩ : ∃ m, m = es.length := ⟨_, rfl⟩
  have HN : Hid (n = ns.length ∧ m = es.length) := ⟨hn, hm⟩
  rw [← hn] at H1 lns ⊢
  rw [← hm] at H2 les ⊢
  clear hn hm
  obtain ⟨W0, hW0⟩ : ∃ W0, W0 = (w.alloc (.cells #[.slice a n c, .slice a2 m c2] 32)).alloc (.cells #[] 3) := ⟨_, rfl⟩
  have b0 : Below w.heap.size w W0 := by rw [hW0]; go_grown
  have z0 : W0.heap.size = w.heap.size + 2 := by rw [hW0]; simp
  have G0 : W0.cell? ⟨w.heap.size, 0, none⟩ = some (.slice a n c) := by rw [hW0]; simp [go_sem]
  have G1 : W0.cell? ⟨w.heap.size, 1, none⟩ = some (.slice a2 m c2) := by rw [hW0]; simp [go_sem]
  have t0 : W0.ownsRow (w.heap.size + 1) 3 1 (.slice (some ⟨w.heap.size + 1, 0, none⟩) 0 0) 0 [] := own_new0 (by rw [hW0]; exact new_at' (by simp)) (Nat.le_refl _)
  have HB0 : Hid (Below w.heap.size w W0) := b0
  have HW0 : Hid (W0 = (w.alloc (.cells #[.slice a n c, .slice a2 m c2] 32)).alloc (.cells #[] 3)) := hW0
  clear b0 hW0
  go_enter Tryz.func47, Tryz.ntmps47
  go_wp2_with fail
  rw [← HW0.out]
  clear HW0
  go_loopw [5, 6] (fun q i wr => ∃ k : Nat, k ≤ n ∧ i = .int .i64 k ∧ Below (w.heap.size + 1) W0 wr ∧ wr.ownsRow (w.heap.size + 1) 3 1 q (numsL l (ns.take k)).length ((numsL l (ns.take k)).flatMap encI)) (fun _ i _ => n - (intOf i).toNat)
  case atStart => exact ⟨0, by omega, rfl, Below.refl _ _, t0⟩
  case round =>
    clear t0
    obtain ⟨k, hk, rfl, hbel, hown⟩ := hrel
    have hsz := hbel.size
    have g0 : wr.cell? ⟨w.heap.size, 0, none⟩ = some (.slice a n c) := (Below.celz hbel _ _ _ (by omega)).trans G0
    have z1 : w.heap.size < wr.heap.size := by omega
    obtain ⟨xa, xc, rfl⟩ := own_form hown
    by_cases hlt : k < n
    · rcases H1.out with ⟨hz, _⟩ | ⟨_, b1, o1, q1, hv1, hb1, E1⟩
      · have := HN.out.1; rw [hz] at this; simp at this; omega
      obtain rfl : a = some ⟨b1, o1, none⟩ := by injection hv1
      obtain ⟨⟨m0, m1⟩, hx⟩ : ∃ x, ns[k]? = some x := ⟨_, List.getElem?_eq_getElem (by rw [← HN.out.1]; exact hlt)⟩
      have e0 : wr.cell? ⟨b1, o1 + k * 2, none⟩ = some (.int .i64 m0) := by rw [Below.celz hbel _ _ _ (by omega), Below.celz HB0.out _ _ _ hb1]; exact E1 k _ hx 0 _ rfl
      have e1 : wr.cell? ⟨b1, o1 + k * 2 + 1, none⟩ = some (.int .i64 m1) := by rw [Below.celz hbel _ _ _ (by omega), Below.celz HB0.out _ _ _ hb1]; exact E1 k _ hx 1 _ rfl
      have hle := numsL_take_le l ns k
      have z2 : b1 < wr.heap.size := by omega
      have k0 : (0 : Int) ≤ (k : Int) := by omega
      have k1 : (k : Int) < (n : Int) := by omega
      have HX : Hid (ns[k]? = some (m0, m1)) := hx
      have HB : Hid (Below (w.heap.size + 1) W0 wr) := hbel
      have HO : Hid (wr.ownsRow (w.heap.size + 1) 3 1 (.slice xa (numsL l (ns.take k)).length xc) (numsL l (ns.take k)).length ((numsL l (ns.take k)).flatMap encI)) := hown
      have HST : Hid (numsL l (ns.take (k + 1)) = if m0 = l then numsL l (ns.take k) ++ [m1] else numsL l (ns.take k)) := ofN_step hx
      clear hx hbel E1 hv1 hown
      obtain ⟨pl, hpl⟩ : ∃ t, t = (numsL l (ns.take k)).length := ⟨_, rfl⟩
      have HPL : Hid ((numsL l (ns.take k)).length = pl) := hpl.symm
      rw [← hpl] at HO hle ⊢
      clear hpl
      by_cases hm : m0 = l
      · subst hm
        have HV : Hid (numsL m0 (ns.take (k + 1)) = numsL m0 (ns.take k) ++ [m1]) := by have := HST.out; rwa [if_pos rfl] at this
        clear HST
        go_wp2_with (at_builtin; refine wpList_appRow encI_len (by decide) encI_one rfl _ _ 81 rfl Tryz.underlying81 hi hz0 hz1 hz2 rfl (w.heap.size + 1) (.slice xa pl xc) pl _ (.slice (some ⟨wr.heap.size, 0, none⟩) 1 1) [m1] rfl rfl (HO.out.alloc _) (new_rowI _ _ 3) (by unfold maxLen; simp; omega) (by simp; omega) (by simp; omega) ?_)
        intro v' w3 hown' hgrow hat
        have R : Hid (Below (w.heap.size + 1) W0 w3 ∧ w3.ownsRow (w.heap.size + 1) 3 1 v' (numsL m0 (ns.take (k + 1))).length ((numsL m0 (ns.take (k + 1))).flatMap encI)) := by
          refine ⟨(HB.out.alloc (by omega) _).grown hgrow (by simp; omega) (fun g hg => (HO.out.lt g hg).1), ?_⟩
          rw [HV.out, List.length_append, HPL.out, List.flatMap_append]
          simpa using hown'
        clear hown' hgrow hat
        go_wp2_with fail
        go_roundw
        case rel => exact ⟨k + 1, by omega, by go_num, R.out⟩
        case measure => simp [intOf]; omega
      · have HV : Hid (numsL l (ns.take (k + 1)) = numsL l (ns.take k)) := by have := HST.out; rwa [if_neg hm] at this
        have d0 : (m0 == l) = false := beq_eq_false_iff_ne.2 hm
        clear HST hm
        go_wp2_with fail
        go_roundw
        case rel => exact ⟨k + 1, by omega, by go_num, HB.out, by rw [HV.out, HPL.out]; exact HO.out⟩
        case measure => simp [intOf]; omega
    · have hkn : n = k := by omega
      subst hkn
      have HV : Hid (ns.take n = ns) := by show ns.take n = ns; rw [HN.out.1, List.take_length]
      rw [HV.out] at hown
      have hNL := numsL_facts HG.out l
      have hE1 := ofE_one HG.out l
      have g1 : wr.cell? ⟨w.heap.size, 1, none⟩ = some (.slice a2 m c2) := (Below.celz hbel _ _ _ (by omega)).trans G1
      obtain ⟨xs, hxs⟩ : ∃ t, t = numsL l ns := ⟨_, rfl⟩
      obtain ⟨E, hE⟩ : ∃ t, t = ofE l es := ⟨_, rfl⟩
      rw [← hxs] at hown hNL
      rw [← hE] at hE1
      have HXE : Hid (xs = numsL l ns ∧ E = ofE l es) := ⟨hxs, hE⟩
      have HBw : Hid (Below w.heap.size w wr) := HB0.out.trans (hbel.mono (by omega))
      have hq : (numsL l (ns.take n)).length = xs.length := by rw [HV.out, hxs]
      rw [hq]
      have HO : Hid (wr.ownsRow (w.heap.size + 1) 3 1 (.slice xa xs.length xc) xs.length (xs.flatMap encI)) := hown
      clear hown hbel hxs hE hq
      have H2w := H2.out.keep HBw.out
      go_wp2_with fail
      refine (l4Only _ _ n l es _ ⟨_, _, rfl⟩ H2w (by rw [← HN.out.2]; omega) (fun x hx => ((edgesOk_iff.1 HG.out.2).1 x hx).1)).mono ?_
      rintro e w1 ⟨p1, p2, rfl, og, b1⟩
      rw [← HXE.out.2] at og
      obtain ⟨N, hN⟩ : ∃ t, t = onlyF E := ⟨_, rfl⟩
      have HNO : Hid (N = onlyF E) := hN
      rw [← hN] at og
      have lN : N.length ≤ 14 := by have := onlyF_len hE1.1.1; rw [← hN] at this; omega
      obtain ⟨pa, pc, rfl⟩ := own_form og.1
      obtain ⟨ua, uc, rfl⟩ := own_form og.2.1
      have HBw1 : Hid (Below w.heap.size w w1) := HBw.out.trans (b1.mono HBw.out.size)
      have HO1 : Hid (w1.ownsRow (w.heap.size + 1) 3 1 (.slice xa xs.length xc) xs.length (xs.flatMap encI)) := own_keep HO.out b1
      have HOG : Hid (OwnGraph w1 wr.heap.size (.slice pa N.length pc) (.slice ua E.length uc) N E) := og
      have HE1 : Hid (One1 E ∧ E.length ≤ 7) := hE1
      have HNL : Hid (xs.Pairwise (· < ·) ∧ (∀ x ∈ xs, 0 ≤ x ∧ x ≤ 40)) := ⟨hNL.1, hNL.2.1⟩
      have lx : xs.length ≤ 5 := hNL.2.2
      have s1 := HBw1.out.size
      clear og b1 hE1 hNL hN g0 g1 H2w hsz z1
      -- the box of what is of this label alone
      obtain ⟨O, hO⟩ : ∃ O, O = w1.heap.size := ⟨_, rfl⟩
      obtain ⟨W2, hW2⟩ : ∃ W2, W2 = w1.alloc (.cells #[.slice pa N.length pc, .slice ua E.length uc] 32) := ⟨_, rfl⟩
      have q0 : W2.cell? ⟨O, 0, none⟩ = some (.slice pa N.length pc) := by rw [hW2, hO]; simp [go_sem]
      have q1 : W2.cell? ⟨O, 1, none⟩ = some (.slice ua E.length uc) := by rw [hW2, hO]; simp [go_sem]
      have zO : O < W2.heap.size := by rw [hW2, hO]; simp
      have bw2 : Below w1.heap.size w1 W2 := by rw [hW2]; exact (Below.refl _ _).alloc (Nat.le_refl _) _
      have HB2 : Hid (Below w.heap.size w W2) := HBw1.out.trans (bw2.mono HBw1.out.size)
      have HO2 : Hid (W2.ownsRow (w.heap.size + 1) 3 1 (.slice xa xs.length xc) xs.length (xs.flatMap encI)) := own_keep HO1.out bw2
      have HOG2 : Hid (RowAt 2 encNode W2 (.slice pa N.length pc) N ∧ RowAt 5 encEdge W2 (.slice ua E.length uc) E) := ⟨(row_of_own encNode_len (by decide) HOG.out.1).keep bw2, (row_of_own encEdge_len (by decide) HOG.out.2.1).keep bw2⟩
      have HW2 : Hid (W2 = w1.alloc (.cells #[.slice pa N.length pc, .slice ua E.length uc] 32) ∧ O = w1.heap.size) := ⟨hW2, hO⟩
      clear hW2 hO bw2 HO1 HO HOG HBw1 HBw
      obtain ⟨xl, hxl⟩ : ∃ t, t = xs.length := ⟨_, rfl⟩
      obtain ⟨nl, hnl⟩ : ∃ t, t = N.length := ⟨_, rfl⟩
      have HL : Hid (xl = xs.length ∧ nl = N.length) := ⟨hxl, hnl⟩
      have HSEG : Hid ((xl = 0 ∧ nl = 0 → segL l ns es = []) ∧ (¬ (xl = 0 ∧ nl = 0) → segL l ns es = segK l ns es nl)) := by
        refine ⟨fun h => ?_, fun h => ?_⟩
        · have h1 : xs = [] := List.length_eq_zero_iff.1 (by omega)
          have h2 : N = [] := List.length_eq_zero_iff.1 (by omega)
          unfold segL
          rw [← HXE.out.1, ← HXE.out.2, ← HNO.out, if_pos ⟨h1, h2⟩]
        · unfold segL
          rw [← HXE.out.1, ← HXE.out.2, ← HNO.out, if_neg (fun e => h ⟨by rw [hxl, e.1]; rfl, by rw [hnl, e.2]; rfl⟩), hnl]
      rw [← hxl] at HO2 lx ⊢
      rw [← hnl] at HW2 HOG2 q0 lN ⊢
      clear hxl hnl
      by_cases hz : xl = 0 ∧ nl = 0
      · have HS0 : Hid (segL l ns es = []) := HSEG.out.1 hz
        obtain ⟨rfl, rfl⟩ := hz
        go_wp2_with fail
        go_ret
        refine ⟨by rw [HS0.out]; rfl, ?_⟩
        have := HB2.out; rw [HW2.out.1] at this; exact this
      · have HSG : Hid (segL l ns es = segK l ns es nl) := HSEG.out.2 hz
        have hz1 : ((xl : Int) + (nl : Int) == 0) = false := beq_eq_false_iff_ne.2 (by omega)
        have hz2 : ¬ ((xl : Int) + (nl : Int)) = 0 := by omega
        clear HSEG hz
        go_wp2_with fail
        rw [← HW2.out.1, ← HW2.out.2]
        have HP1 : Hid (∀ p : After W2, Calls Tryz.prog 70 #[.slice xa xl xc] p.w fun e w' => e = .returned (.string ⟨(rowL xs).toArray⟩) ∧ Below p.w.heap.size p.w w') := fun p => spec_PackRow _ xs _ (row_of_own encI_len (by decide) (by rw [← HL.out.1]; exact own_keep HO2.out p.bel)) (by rw [← HL.out.1]; omega)
        have HP2 : Hid (∀ p : After W2, Calls Tryz.prog 71 #[.int .i64 (nl : Int)] p.w fun e w' => e = .returned (.string ⟨(pkL (nl : Int)).toArray⟩) ∧ Below p.w.heap.size p.w w') := fun p => spec_PackNum0 _ _
        have hapb := app_bytes (rowL xs) (pkL (nl : Int))
        have hy1 : (ByteArray.mk (rowL xs).toArray).size = (rowL xs).length := by simp [ByteArray.size]
        have hy2 : (ByteArray.mk (pkL (nl : Int)).toArray).size = (pkL (nl : Int)).length := by simp [ByteArray.size]
        have hy3 := rowL_le xs
        have hy4 := pkL_len (nl : Int)
        have HK0 : Hid (rowL xs ++ pkL (nl : Int) = segK l ns es 0) := by show _ = _; rw [segK_zero, ← HXE.out.1, ← HXE.out.2, ← HNO.out, ← HL.out.2]
        generalize rowL xs = t1 at *
        generalize pkL (nl : Int) = t2 at *
        refine wp_region_after (by kernel_rfl) (by kernel_rfl) ?_
        intro hne hac
        repeat (go_big_quiet_step (first | (go_at_call 70; exact after_of (HP1.out _)) | (go_at_call 71; exact after_of (HP2.out _))))
        refine wpQuiet_nil ?_
        rintro _ ⟨p, rfl⟩
        have nb : Below W2.heap.size W2 p.w := p.bel
        clear hac hne
        generalize p.w = wq at *
        have HBq : Hid (Below w.heap.size w wq) := HB2.out.trans (nb.mono HB2.out.size)
        have HGq : Hid (RowAt 2 encNode wq (.slice pa nl pc) N ∧ RowAt 5 encEdge wq (.slice ua E.length uc) E) := ⟨HOG2.out.1.keep nb, HOG2.out.2.keep nb⟩
        have r0 : wq.cell? ⟨O, 0, none⟩ = some (.slice pa nl pc) := (Below.celz nb _ _ _ zO).trans q0
        have r1 : wq.cell? ⟨O, 1, none⟩ = some (.slice ua E.length uc) := (Below.celz nb _ _ _ zO).trans q1
        have zq : O < wq.heap.size := Nat.lt_of_lt_of_le zO nb.size
        have HNK : Hid (∀ x ∈ N, nodeB x.1 x.2 = true) := fun x hx => onlyF_ok HE1.out.1.1 x (by rw [← HNO.out]; exact hx)
        obtain ⟨t0, ht0⟩ : ∃ t, t = t1 ++ t2 := ⟨_, rfl⟩
        have HT0 : Hid (t0 = segK l ns es 0) := by show t0 = _; rw [ht0]; exact HK0.out
        rw [← ht0]
        clear nb HB2 HOG2 HO2 q0 q1 zO HP1 HP2 hapb hy1 hy2 hy3 hy4 HK0 HW2 ht0 hz1 hz2
        go_wp2_with fail
        go_loopw [8, 9] (fun o i wr => ∃ (k : Nat) (t : List UInt8), k ≤ nl ∧ i = .int .i64 k ∧ o = .string ⟨t.toArray⟩ ∧ t = segK l ns es k ∧ Below wq.heap.size wq wr) (fun _ i _ => nl - (intOf i).toNat)
        case atStart => exact ⟨0, t0, by omega, rfl, rfl, HT0.out, Below.refl _ _⟩
        case round =>
          obtain ⟨k, t, hk, rfl, rfl, ht, hbel⟩ := hrel
          have HTK : Hid (t = segK l ns es k) := ht
          have tl : t.length ≤ 258 + 258 * k := by rw [ht]; exact segK_le _ _ _ _
          clear ht
          have y0 : wr.cell? ⟨O, 0, none⟩ = some (.slice pa nl pc) := (Below.celz hbel _ _ _ zq).trans r0
          have y1 : wr.cell? ⟨O, 1, none⟩ = some (.slice ua E.length uc) := (Below.celz hbel _ _ _ zq).trans r1
          have zy : O < wr.heap.size := Nat.lt_of_lt_of_le zq hbel.size
          by_cases hlt : k < nl
          · rcases HGq.out.1 with ⟨hz, _⟩ | ⟨_, b1, o1, q1, hv1, hb1, E1⟩
            · have := HL.out.2; rw [hz] at this; simp at this; omega
            simp only [Value.slice.injEq] at hv1
            obtain ⟨rfl, -, rfl⟩ := hv1
            obtain ⟨⟨m0, m1⟩, hx⟩ : ∃ x, N[k]? = some x := ⟨_, List.getElem?_eq_getElem (by rw [← HL.out.2]; exact hlt)⟩
            have e0 : wr.cell? ⟨b1, o1 + k * 2, none⟩ = some (.int .i64 m0) := by rw [Below.celz hbel _ _ _ hb1]; exact E1 k _ hx 0 _ rfl
            have e1 : wr.cell? ⟨b1, o1 + k * 2 + 1, none⟩ = some (.int .i64 m1) := by rw [Below.celz hbel _ _ _ hb1]; exact E1 k _ hx 1 _ rfl
            have z2 : b1 < wr.heap.size := Nat.lt_of_lt_of_le hb1 hbel.size
            have k0 : (0 : Int) ≤ (k : Int) := by omega
            have k1 : (k : Int) < (nl : Int) := by omega
            have HX : Hid (N[k]? = some (m0, m1)) := hx
            have hnk := HNK.out _ (List.mem_of_getElem? hx)
            have HC : Hid (codeW m0 m1 = cod (m0, m1)) := codeW_ok hnk
            have HB : Hid (Below wq.heap.size wq wr) := hbel
            have HSU : Hid (segK l ns es (k + 1) = segK l ns es k ++ (pkL (cod (m0, m1)) ++ rowL ((nearF (m0, m1) E).map cod))) := by
              have := segK_succ (a := l) (ns := ns) (es := es) (k := k) (n := (m0, m1)) (by rw [← HXE.out.2, ← HNO.out]; exact hx)
              rw [← HXE.out.2] at this; exact this
            have HEW : Hid (∀ W, Below wr.heap.size wr W → RowAt 5 encEdge W (.slice ua E.length uc) E) := fun W h => (HGq.out.2.keep hbel).keep h
            have hnn := nearF_ok (n := (m0, m1)) HE1.out.1.1
            have hnl := nearF_le (m0, m1) E
            have HNN : Hid ((∀ y ∈ nearF (m0, m1) E, nodeB y.1 y.2 = true) ∧ (nearF (m0, m1) E).length ≤ 7) := ⟨hnn, Nat.le_trans hnl HE1.out.2⟩
            clear hx hbel E1 hb1 hnk hnn hnl
            obtain ⟨W1, hW1⟩ : ∃ W1, W1 = wr.alloc (.cells #[.int .i64 m0, .int .i64 m1] 69) := ⟨_, rfl⟩
            obtain ⟨Y, hY⟩ : ∃ Y, Y = wr.heap.size := ⟨_, rfl⟩
            have bW : Below wr.heap.size wr W1 := by rw [hW1]; exact (Below.refl _ _).alloc (Nat.le_refl _) _
            have x0 : W1.cell? ⟨Y, 0, none⟩ = some (.int .i64 m0) := by rw [hW1, hY]; simp [go_sem]
            have x1 : W1.cell? ⟨Y, 1, none⟩ = some (.int .i64 m1) := by rw [hW1, hY]; simp [go_sem]
            have zY : Y < W1.heap.size := by rw [hW1, hY]; simp
            have zO1 : O < W1.heap.size := Nat.lt_of_lt_of_le zy bW.size
            have x2 : W1.cell? ⟨O, 0, none⟩ = some (.slice (some ⟨b1, o1, none⟩) nl pc) := (Below.celz bW _ _ _ zy).trans y0
            have x3 : W1.cell? ⟨O, 1, none⟩ = some (.slice ua E.length uc) := (Below.celz bW _ _ _ zy).trans y1
            have H4 : Hid (∀ W, Below W1.heap.size W1 W → W.cell? ⟨Y, 0, none⟩ = some (.int .i64 m0) ∧ W.cell? ⟨Y, 1, none⟩ = some (.int .i64 m1) ∧ W.cell? ⟨O, 0, none⟩ = some (.slice (some ⟨b1, o1, none⟩) nl pc) ∧ W.cell? ⟨O, 1, none⟩ = some (.slice ua E.length uc) ∧ RowAt 5 encEdge W (.slice ua E.length uc) E) := fun W h =>
              ⟨(Below.celz h _ _ _ zY).trans x0, (Below.celz h _ _ _ zY).trans x1, (Below.celz h _ _ _ zO1).trans x2, (Below.celz h _ _ _ zO1).trans x3, (HEW.out _ bW).keep h⟩
            have HBW : Hid (∀ W, Below W1.heap.size W1 W → Below wq.heap.size wq W) := fun W h => (HB.out.trans (bW.mono HB.out.size)).trans (h.mono (Nat.le_trans HB.out.size bW.size))
            have HW1 : Hid (W1 = wr.alloc (.cells #[.int .i64 m0, .int .i64 m1] 69) ∧ Y = wr.heap.size) := ⟨hW1, hY⟩
            obtain ⟨cc, hcc⟩ : ∃ t, t = cod (m0, m1) := ⟨_, rfl⟩
            obtain ⟨L, hLL⟩ : ∃ t, t = nearF (m0, m1) E := ⟨_, rfl⟩
            have HCL : Hid (cc = cod (m0, m1) ∧ L = nearF (m0, m1) E) := ⟨hcc, hLL⟩
            have hz1 : (ByteArray.mk t.toArray).size = t.length := by simp [ByteArray.size]
            have hz2 : (ByteArray.mk (pkL cc).toArray).size = (pkL cc).length := by simp [ByteArray.size]
            have hz3 : (ByteArray.mk (rowL (L.map cod)).toArray).size = (rowL (L.map cod)).length := by simp [ByteArray.size]
            have hz4 : (ByteArray.mk (t ++ pkL cc).toArray).size = t.length + (pkL cc).length := by simp [ByteArray.size]
            have hz5 := pkL_len cc
            have hz6 := rowL_le (L.map cod)
            have ha1 := app_bytes t (pkL cc)
            have ha2 := app_bytes (t ++ pkL cc) (rowL (L.map cod))
            have HSU2 : Hid (t ++ pkL cc ++ rowL (L.map cod) = segK l ns es (k + 1)) := by show _ = _; rw [HSU.out, ← HTK.out, ← hcc, ← hLL, List.append_assoc]
            have HQ1 : Hid (∀ W, Calls Tryz.prog 41 #[.agg #[.int .i64 m0, .int .i64 m1]] W fun e w' => e = .returned (.int .i64 cc) ∧ Below W.heap.size W w') := fun W => by rw [hcc, ← HC.out]; exact l2Code m0 m1 W
            have HQ2 : Hid (∀ W, Calls Tryz.prog 71 #[.int .i64 cc] W fun e w' => e = .returned (.string ⟨(pkL cc).toArray⟩) ∧ Below W.heap.size W w') := fun W => spec_PackNum0 cc W
            have HQ3 : Hid (∀ W, Below W1.heap.size W1 W → Calls Tryz.prog 73 #[.agg #[.slice (some ⟨b1, o1, none⟩) nl pc, .slice ua E.length uc], .agg #[.int .i64 m0, .int .i64 m1]] W fun e w' => ∃ v, e = .returned v ∧ w'.ownsRow W.heap.size 69 2 v L.length (L.flatMap encNode) ∧ Below W.heap.size W w') := fun W h => by
              rw [hLL]; exact l2Near _ _ nl m0 m1 E W ⟨_, _, rfl⟩ (H4.out W h).2.2.2.2 (by have := HE1.out.2; omega) HE1.out.1.1
            have HQ4 : Hid (∀ W v, (∃ B, W.ownsRow B 69 2 v L.length (L.flatMap encNode)) → Calls Tryz.prog 72 #[v] W fun e w' => ∃ u, e = .returned u ∧ w'.ownsRow W.heap.size 3 1 u (L.map cod).length ((L.map cod).flatMap encI) ∧ Below W.heap.size W w') := fun W v h => by
              obtain ⟨B, h⟩ := h
              exact l4Codes v L W (row_of_own encNode_len (by decide) h) (by rw [hLL]; have := HNN.out.2; omega) (by rw [hLL]; exact HNN.out.1)
            have HQ5 : Hid (∀ W v, (∃ B, W.ownsRow B 3 1 v (L.map cod).length ((L.map cod).flatMap encI)) → Calls Tryz.prog 70 #[v] W fun e w' => e = .returned (.string ⟨(rowL (L.map cod)).toArray⟩) ∧ Below W.heap.size W w') := fun W v h => by
              obtain ⟨B, h⟩ := h
              exact spec_PackRow v _ W (row_of_own encI_len (by decide) h) (by rw [List.length_map, hLL]; have := HNN.out.2; omega)
            clear hW1 hY bW hcc hLL HEW HSU zO1
            generalize pkL cc = u1 at *
            generalize rowL (L.map cod) = u2 at *
            go_wp2_with fail
            rw [← HW1.out.1, ← HW1.out.2]
            clear HW1 e0 e1 z2 y0 y1 zy
            have tl2 : t.length ≤ 4000 := by omega
            have tl3 : ¬ (9223372036854775807 : Nat) < t.length + u1.length := by omega
            have tl4 : ¬ (9223372036854775807 : Nat) < t.length + u1.length + u2.length := by omega
            clear tl
            have hS : Hid (∀ w', Below W1.heap.size W1 w' → Below W1.heap.size W1 w' ∧ w'.cell? ⟨Y, 0, none⟩ = some (.int .i64 m0) ∧ w'.cell? ⟨Y, 1, none⟩ = some (.int .i64 m1) ∧ w'.cell? ⟨O, 0, none⟩ = some (.slice (some ⟨b1, o1, none⟩) nl pc) ∧ w'.cell? ⟨O, 1, none⟩ = some (.slice ua E.length uc)) := fun w' h => ⟨h, (H4.out w' h).1, (H4.out w' h).2.1, (H4.out w' h).2.2.1, (H4.out w' h).2.2.2.1⟩
            clear x0 x1 x2 x3 r0 r1 zq
            go_region_held3 (fun w' => Below W1.heap.size W1 w' ∧ w'.cell? ⟨Y, 0, none⟩ = some (.int .i64 m0) ∧ w'.cell? ⟨Y, 1, none⟩ = some (.int .i64 m1) ∧ w'.cell? ⟨O, 0, none⟩ = some (.slice (some ⟨b1, o1, none⟩) nl pc) ∧ w'.cell? ⟨O, 1, none⟩ = some (.slice ua E.length uc))
              (first | with_reducible exact hS.out _ (Below.refl _ _).drew | (with_reducible exact hS.out _ (keep_below (And.left (by assumption)) j5)) | (with_reducible exact hS.out _ (keep_below (And.left (by assumption)) j4)) | (with_reducible exact hS.out _ (keep_below (And.left (by assumption)) j3)) | (with_reducible exact hS.out _ (keep_below (And.left (by assumption)) j2)) | (with_reducible exact hS.out _ (keep_below (And.left (by assumption)) j1)))
              (first
                | (go_at_call 70; refine (HQ5.out _ y4 ⟨_, oy4⟩).mono ?_; rintro e v5 ⟨rfl, j5⟩)
                | (go_at_call 72; refine (HQ4.out _ y3 ⟨_, oy3⟩).mono ?_; rintro e v4 ⟨y4, rfl, oy4, j4⟩)
                | (go_at_call 73; refine (HQ3.out _ (And.left (by assumption))).mono ?_; rintro e v3 ⟨y3, rfl, oy3, j3⟩)
                | (go_at_call 71; refine (HQ2.out _).mono ?_; rintro e v2 ⟨rfl, j2⟩)
                | (go_at_call 41; refine (HQ1.out _).mono ?_; rintro e v1 ⟨rfl, j1⟩))
            all_goals (
              have jb5 : Below W1.heap.size W1 v5 := And.left (show Below W1.heap.size W1 v5 ∧ v5.cell? ⟨Y, 0, none⟩ = some (.int .i64 m0) ∧ v5.cell? ⟨Y, 1, none⟩ = some (.int .i64 m1) ∧ v5.cell? ⟨O, 0, none⟩ = some (.slice (some ⟨b1, o1, none⟩) nl pc) ∧ v5.cell? ⟨O, 1, none⟩ = some (.slice ua E.length uc) by assumption)
              have HF : Hid (Below wq.heap.size wq v5) := HBW.out _ jb5
              clear hS jb5 j1 j2 j3 j4 j5 oy3 oy4
              go_wp2_with fail
              go_roundw
              case rel => exact ⟨k + 1, t ++ u1 ++ u2, by omega, by go_num, by rw [List.append_assoc], HSU2.out, HF.out⟩
              case measure => simp [intOf]; omega)
          · have hkn : nl = k := by omega
            subst hkn
            have HF : Hid (Below w.heap.size w wr) := HBq.out.trans (hbel.mono HBq.out.size)
            clear hbel
            go_wp2_with fail
            go_ret
            exact ⟨by rw [HSG.out, ← HTK.out]; rfl, HF.out⟩
end Go.Proofs.YtlnpbfeihjfnjabGreatDoor.Lab

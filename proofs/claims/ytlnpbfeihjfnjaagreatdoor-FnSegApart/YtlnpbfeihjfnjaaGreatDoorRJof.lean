/-
  The nodes of a label by the program: numsOf.
  What an edge of a label joins, by the program: joinsOf.
-/
import Derived.Test.YtlnpbfeihjfnjaaGreatDoorRSgp
import Derived.Test.YtlnpbfeihjfnjaaGreatDoorRErr
import Derived.Test.YtlnpbfeihjfnjaaGreatDoorApp
import Derived.Test.YtlnpbfeihjfnjaaGreatDoorRJmp
import Derived.Deep.DeepCutAuto
namespace Go.Proofs.YtlnpbfeihjfnjaaGreatDoor.Lab
open Go.RowKit
set_option linter.unusedVariables false
theorem encI_one' (x : Int) : ∀ u ∈ encI x, u.oneCell' = true := fun u hu => by simp [encI] at hu; subst hu; rfl
theorem new_rowI' (w : World) (x : Int) (t : TypeId) : RowAt 1 encI (w.alloc (.cells #[.int .i64 x] t)) (.slice (some ⟨w.heap.size, 0, none⟩) 1 1) [x] := by
  refine .inr ⟨by simp, w.heap.size, 0, 1, rfl, by simp, fun j y hy i u hu => ?_⟩
  match j, hy with
  | 0, hy =>
    simp at hy
    subst hy
    rw [cell_block (new_block w _)]
    match i, hu with
    | 0, hu => simpa [encI] using hu
theorem new_rowI_at (w : World) (x : Int) (t : TypeId) {S : Nat} (h : w.heap.size = S) : RowAt 1 encI (w.alloc (.cells #[.int .i64 x] t)) (.slice (some ⟨S, 0, none⟩) 1 1) [x] := by
  subst h; exact new_rowI' w x t
set_option maxRecDepth 8000 in
set_option maxHeartbeats 8000000 in
theorem numsOf (v1 v2 : Value) (ns : List Nd) (l : Int) (w : World) (h : RowAt 2 encNode w v1 ns) (hv2 : ∃ a n c, v2 = .slice a n c) (hl : ns.length ≤ 1048576) :
    Calls Tryz.prog 53 #[.agg #[v1, v2], .int .i64 l] w fun e w' => ∃ u, e = .returned u ∧ w'.ownsRow w.heap.size 3 1 u (numsL l ns).length ((numsL l ns).flatMap encI) ∧ Below w.heap.size w w' := by
  obtain ⟨a2, n2, c2, rfl⟩ := hv2
  obtain ⟨a, cap, rfl⟩ := h.len
  obtain ⟨i0, hi, hz0, hz1, hz2⟩ := info_parts Tryz.infoI
  have H : Hid (RowAt 2 encNode w (.slice a ns.length cap) ns) := h
  clear h
  obtain ⟨n, hn⟩ : ∃ n, n = ns.length := ⟨_, rfl⟩
  have HN : Hid (n = ns.length) := hn
  rw [← hn] at H hl ⊢
  clear hn
  obtain ⟨W0, hW0⟩ : ∃ W0, W0 = w.alloc (.cells #[.slice a n cap, .slice a2 n2 c2] 26) := ⟨_, rfl⟩
  have b0 : Below w.heap.size w W0 := by rw [hW0]; go_grown
  have z0 : W0.heap.size = w.heap.size + 1 := by rw [hW0]; simp
  have HB0 : Hid (Below w.heap.size w W0) := b0
  have HW0 : Hid (W0 = w.alloc (.cells #[.slice a n cap, .slice a2 n2 c2] 26)) := hW0
  clear b0 hW0
  go_enter Tryz.func53, Tryz.ntmps53
  go_wp2_with fail
  rw [← HW0.out]
  clear HW0
  go_loopw [5, 11] (fun q i wr => ∃ k : Nat, k ≤ n ∧ i = .int .i64 k ∧ Below W0.heap.size W0 wr ∧ wr.ownsRow w.heap.size 3 1 q (numsL l (ns.take k)).length ((numsL l (ns.take k)).flatMap encI) ∧ ∀ g, q.ownBlock = some g → W0.heap.size ≤ g) (fun _ i _ => n - (intOf i).toNat)
  case atStart => exact ⟨0, by omega, rfl, Below.refl _ _, World.ownsRow_nil _ _ _ _, fun g hg => by cases hg⟩
  case round =>
    obtain ⟨k, hk, rfl, hbel, hown, hlow⟩ := hrel
    have hsz := hbel.size
    obtain ⟨xa, xc, rfl⟩ := own_form hown
    by_cases hlt : k < n
    · rcases H.out with ⟨hz, _⟩ | ⟨_, b1, o1, q1, hv1, hb1, E1⟩
      · have := HN.out; rw [hz] at this; simp at this; omega
      obtain rfl : a = some ⟨b1, o1, none⟩ := by injection hv1
      obtain ⟨⟨m0, m1⟩, hx⟩ : ∃ x, ns[k]? = some x := ⟨_, List.getElem?_eq_getElem (by rw [← HN.out]; exact hlt)⟩
      have e0 : wr.cell? ⟨b1, o1 + k * 2, none⟩ = some (.int .i64 m0) := by rw [Below.celz hbel _ _ _ (by omega), Below.celz HB0.out _ _ _ hb1]; exact E1 k _ hx 0 _ rfl
      have e1 : wr.cell? ⟨b1, o1 + k * 2 + 1, none⟩ = some (.int .i64 m1) := by rw [Below.celz hbel _ _ _ (by omega), Below.celz HB0.out _ _ _ hb1]; exact E1 k _ hx 1 _ rfl
      have hle := numsL_take_le l ns k
      have z2 : b1 < wr.heap.size := by omega
      have k0 : (0 : Int) ≤ (k : Int) := by omega
      have k1 : (k : Int) < (n : Int) := by omega
      have HX : Hid (ns[k]? = some (m0, m1)) := hx
      have HB : Hid (Below W0.heap.size W0 wr) := hbel
      have HO : Hid (wr.ownsRow w.heap.size 3 1 (.slice xa (numsL l (ns.take k)).length xc) (numsL l (ns.take k)).length ((numsL l (ns.take k)).flatMap encI) ∧ ∀ g, (Value.slice xa (numsL l (ns.take k)).length xc).ownBlock = some g → W0.heap.size ≤ g) := ⟨hown, hlow⟩
      have HST : Hid (numsL l (ns.take (k + 1)) = if m0 = l then numsL l (ns.take k) ++ [m1] else numsL l (ns.take k)) := ofN_step hx
      clear hx hbel E1 hv1 hown hlow
      obtain ⟨pl, hpl⟩ : ∃ t, t = (numsL l (ns.take k)).length := ⟨_, rfl⟩
      have HPL : Hid ((numsL l (ns.take k)).length = pl) := hpl.symm
      rw [← hpl] at HO hle ⊢
      clear hpl
      by_cases hm : m0 = l
      · subst hm
        have HV : Hid (numsL m0 (ns.take (k + 1)) = numsL m0 (ns.take k) ++ [m1]) := by have := HST.out; rwa [if_pos rfl] at this
        clear HST
        go_wp2_with (at_builtin; go_must (refine wpList_appRow encI_len (by decide) encI_one' rfl _ _ 81 rfl Tryz.underlying81 hi hz0 hz1 hz2 rfl w.heap.size (.slice xa pl xc) pl _ (.slice (some ⟨wr.heap.size + 1, 0, none⟩) 1 1) [m1] rfl rfl ((HO.out.1.alloc _).alloc _) (new_rowI_at _ _ 3 (by simp)) (by unfold maxLen; simp; omega) (by simp; omega) (by simp; omega) ?_))
        intro v' w3 hown' hgrow hat
        have R : Hid (Below W0.heap.size W0 w3 ∧ w3.ownsRow w.heap.size 3 1 v' (numsL m0 (ns.take (k + 1))).length ((numsL m0 (ns.take (k + 1))).flatMap encI) ∧ ∀ g, v'.ownBlock = some g → W0.heap.size ≤ g) := by
          refine ⟨((HB.out.alloc (by omega) _).alloc (by simp; omega) _).grown hgrow (by simp; omega) HO.out.2, ?_, fun g hg => ?_⟩
          · rw [HV.out, List.length_append, HPL.out, List.flatMap_append]
            simpa using hown'
          · rcases hat with h | h
            · rw [h] at hg; exact HO.out.2 g hg
            · rw [h] at hg; simp at hg; omega
        clear hown' hgrow hat
        go_wp2_with fail
        go_roundw
        case rel => exact ⟨k + 1, by omega, by go_num, R.out⟩
        case measure => simp [intOf]; omega
      · have HV : Hid (numsL l (ns.take (k + 1)) = numsL l (ns.take k)) := by have := HST.out; rwa [if_neg hm] at this
        have d0 : (m0 == l) = false := beq_eq_false_iff_ne.2 hm
        clear HST hm
        go_wp2_with fail
        go_roundw
        case rel => exact ⟨k + 1, by omega, by go_num, HB.out.alloc (by omega) _, by rw [HV.out, HPL.out]; exact HO.out.1.alloc _, HO.out.2⟩
        case measure => simp [intOf]; omega
    · have hkn : n = k := by omega
      subst hkn
      have HV : Hid (ns.take n = ns) := by show ns.take n = ns; rw [HN.out, List.take_length]
      have HO : Hid (wr.ownsRow w.heap.size 3 1 (.slice xa (numsL l (ns.take n)).length xc) (numsL l (ns.take n)).length ((numsL l (ns.take n)).flatMap encI)) := hown
      clear hown
      go_wp2_with fail
      go_ret
      refine ⟨_, rfl, ?_, HB0.out.trans (hbel.mono (by omega))⟩
      have := HO.out
      rw [HV.out] at this ⊢
      exact this
end Go.Proofs.YtlnpbfeihjfnjaaGreatDoor.Lab
namespace Go.Proofs.YtlnpbfeihjfnjaaGreatDoor.Lab
open Go.RowKit Go.ChangeMaps
set_option linter.unusedVariables false
theorem new_at'' {w : World} {o : Obj} {S : Nat} (h : S = w.heap.size) : (w.alloc o).heap[S]? = some o := by subst h; exact new_block w o
theorem joinL_le (es : List Ed) (c : Int) : (joinL es c).length ≤ es.length := List.length_filterMap_le _ _
theorem addF_le (f : Int → List Int) (c x d : Int) : (addF f c x d).length ≤ (f d).length + (f c).length + 1 := by
  unfold addF
  split
  · rw [List.length_append]; simp only [List.length_cons, List.length_nil]; omega
  · omega
theorem addF_join (E : List Ed) (x : Ed) {a b : Int} (ha : a = cod (eA x)) (hb : b = cod (eB x)) (hab : a < b) : addF (addF (joinL E) a b) b a = joinL (E ++ [x]) := by
  funext d
  rw [joinL_snoc]
  unfold addF othC
  by_cases h1 : d = b
  · subst h1
    rw [if_pos rfl, if_neg (by omega), ← ha, ← hb, if_neg (by omega), if_pos rfl]
    rfl
  · rw [if_neg h1]
    by_cases h2 : d = a
    · subst h2
      rw [if_pos rfl, ← ha, if_pos rfl, ← hb]
      rfl
    · rw [if_neg h2, ← ha, ← hb, if_neg (fun e => h2 e.symm), if_neg (fun e => h1 e.symm)]
      simp
theorem und_mj : Tryz.prog.underlying 83 = some (.map 3 81) := by kernel_rfl
theorem und_int' : Tryz.prog.underlying 3 = some (.int .i64) := by kernel_rfl
theorem zero_sl (w : World) : (zeroValue 81).run Tryz.prog w = .ok (.slice none 0 0) w := by
  obtain ⟨i, hi, hz⟩ := Option.map_eq_some_iff.1 (show (Tryz.prog.info? 81).map (·.zero) = some (some (.slice none 0 0)) by kernel_rfl)
  simp [zeroValue, typeInfo, hi, hz]
set_option maxRecDepth 8000 in
set_option maxHeartbeats 8000000 in
theorem joinsOf (v1 v2 : Value) (es : List Ed) (l : Int) (w : World) (h : RowAt 5 encEdge w v2 es) (hv1 : ∃ a n c, v1 = .slice a n c) (hl : es.length ≤ 100) (he : ∀ x ∈ es, edB x = true) :
    Calls Tryz.prog 54 #[.agg #[v1, v2], .int .i64 l] w fun e w' => ∃ J kv, e = .returned (.map (some J)) ∧ w.heap.size ≤ J ∧ JAt w' J (joinL (ofE l es)) kv ∧ Below w.heap.size w w' := by
  obtain ⟨a1, n1, c1, rfl⟩ := hv1
  obtain ⟨a, cap, rfl⟩ := h.len
  obtain ⟨i0, hi, hz0, hz1, hz2⟩ := info_parts Tryz.infoI
  have H : Hid (RowAt 5 encEdge w (.slice a es.length cap) es) := h
  have HEB : Hid (∀ x ∈ es, edB x = true) := he
  clear h he
  obtain ⟨m, hm⟩ : ∃ m, m = es.length := ⟨_, rfl⟩
  have HN : Hid (m = es.length) := hm
  rw [← hm] at H hl ⊢
  clear hm
  have mk : ∀ (t : TypeId) (w' : World), (Instr.makeMap t none).run Tryz.prog w' = .ok (.map (some w'.heap.size)) (w'.alloc (.map #[] 0)) := run_makeMap
  obtain ⟨W0, hW0⟩ : ∃ W0, W0 = (w.alloc (.cells #[.slice a1 n1 c1, .slice a m cap] 26)).alloc (.map #[] 0) := ⟨_, rfl⟩
  obtain ⟨J, hJ⟩ : ∃ J, J = w.heap.size + 1 := ⟨_, rfl⟩
  have b0 : Below w.heap.size w W0 := by rw [hW0]; go_grown
  have z0 : W0.heap.size = J + 1 := by rw [hW0, hJ]; simp
  have G1 : W0.cell? ⟨w.heap.size, 1, none⟩ = some (.slice a m cap) := by rw [hW0]; simp [go_sem]
  have t0 : MapAt W0 J [] := MapAt.made (by rw [hW0]; exact new_at'' (by rw [hJ]; simp))
  have HB0 : Hid (Below w.heap.size w W0) := b0
  have HW0 : Hid (W0 = (w.alloc (.cells #[.slice a1 n1 c1, .slice a m cap] 26)).alloc (.map #[] 0)) := hW0
  have HJ : Hid (J = w.heap.size + 1) := hJ
  have jw : w.heap.size < J := by omega
  clear b0 hW0 hJ
  go_enter Tryz.func54, Tryz.ntmps54
  go_wp2_with fail
  rw [← HW0.out, ← HJ.out]
  clear HW0 HJ mk
  go_loopw [14] (fun i wr => ∃ (k : Nat) (kv : List (Int × Value)), k ≤ m ∧ i = .int .i64 k ∧ Below J W0 wr ∧ JAt wr J (joinL (ofE l (es.take k))) kv) (fun i _ => m - (intOf i).toNat)
  case atStart => exact ⟨0, [], by omega, rfl, Below.refl _ _, ⟨t0, List.nodup_nil, by simp, by simp [ofE, joinL], List.Pairwise.nil⟩⟩
  case round =>
    clear t0
    obtain ⟨k, kv, hk, rfl, hbel, hj⟩ := hrel
    have hsz := hbel.size
    have g1 : wr.cell? ⟨w.heap.size, 1, none⟩ = some (.slice a m cap) := (Below.celz hbel _ _ _ (by omega)).trans G1
    have z1 : w.heap.size < wr.heap.size := by omega
    have zJ : J < wr.heap.size := by omega
    by_cases hlt : k < m
    · rcases H.out with ⟨hz, _⟩ | ⟨_, b2, o2, q2, hv2, hb2, E2⟩
      · rw [hz] at HN; have := HN.out; simp at this; omega
      obtain rfl : a = some ⟨b2, o2, none⟩ := by injection hv2
      obtain ⟨⟨m0, m1, m2, m3, m4⟩, hx⟩ : ∃ x, es[k]? = some x := ⟨_, List.getElem?_eq_getElem (by rw [← HN.out]; exact hlt)⟩
      have e0 : wr.cell? ⟨b2, o2 + k * 5, none⟩ = some (.int .i64 m0) := by rw [Below.celz hbel _ _ _ (by omega), Below.celz HB0.out _ _ _ hb2]; exact E2 k _ hx 0 _ rfl
      have e1 : wr.cell? ⟨b2, o2 + k * 5 + 1, none⟩ = some (.int .i64 m1) := by rw [Below.celz hbel _ _ _ (by omega), Below.celz HB0.out _ _ _ hb2]; exact E2 k _ hx 1 _ rfl
      have e2 : wr.cell? ⟨b2, o2 + k * 5 + 2, none⟩ = some (.int .i64 m2) := by rw [Below.celz hbel _ _ _ (by omega), Below.celz HB0.out _ _ _ hb2]; exact E2 k _ hx 2 _ rfl
      have e3 : wr.cell? ⟨b2, o2 + k * 5 + 3, none⟩ = some (.int .i64 m3) := by rw [Below.celz hbel _ _ _ (by omega), Below.celz HB0.out _ _ _ hb2]; exact E2 k _ hx 3 _ rfl
      have e4 : wr.cell? ⟨b2, o2 + k * 5 + 4, none⟩ = some (.int .i64 m4) := by rw [Below.celz hbel _ _ _ (by omega), Below.celz HB0.out _ _ _ hb2]; exact E2 k _ hx 4 _ rfl
      have z3 : b2 < wr.heap.size := by omega
      have k0 : (0 : Int) ≤ (k : Int) := by omega
      have k1 : (k : Int) < (m : Int) := by omega
      have HED : Hid (edB (m0, m1, m2, m3, m4) = true) := HEB.out _ (List.mem_of_getElem? hx)
      have HB : Hid (Below J W0 wr) := hbel
      have HJA : Hid (JAt wr J (joinL (ofE l (es.take k))) kv) := hj
      have HST : Hid (ofE l (es.take (k + 1)) = if m0 = l then ofE l (es.take k) ++ [(m0, m1, m2, m3, m4)] else ofE l (es.take k)) := ofE_step hx
      have lE := ofE_take_le l es k
      clear hx hbel E2 hv2 hj
      obtain ⟨E, hE⟩ : ∃ t, t = ofE l (es.take k) := ⟨_, rfl⟩
      have HE : Hid (E = ofE l (es.take k)) := hE
      rw [← hE] at HJA HST lE
      clear hE
      by_cases hm0 : ¬ m0 = l
      · have d0 : (m0 == l) = false := beq_eq_false_iff_ne.2 hm0
        have HV : Hid (ofE l (es.take (k + 1)) = E) := by have := HST.out; rwa [if_neg hm0] at this
        clear hm0
        go_wp2_with fail
        go_roundw
        case rel => exact ⟨k + 1, kv, by omega, by go_num, HB.out.alloc (by omega) _, by rw [HV.out]; exact HJA.out.keep ((Below.refl _ _).alloc (Nat.le_refl _) _)⟩
        case measure => simp [intOf]; omega
      have hm1 : m0 = l := by omega
      subst hm1
      have HV : Hid (ofE m0 (es.take (k + 1)) = E ++ [(m0, m1, m2, m3, m4)]) := by have := HST.out; rwa [if_pos rfl] at this
      clear HST
      obtain ⟨W1, hW1⟩ : ∃ W1, W1 = wr.alloc (.cells #[.int .i64 m0, .int .i64 m1, .int .i64 m2, .int .i64 m3, .int .i64 m4] 48) := ⟨_, rfl⟩
      obtain ⟨Y, hY⟩ : ∃ Y, Y = wr.heap.size := ⟨_, rfl⟩
      have bW : Below wr.heap.size wr W1 := by rw [hW1]; exact (Below.refl _ _).alloc (Nat.le_refl _) _
      have x1 : W1.cell? ⟨Y, 1, none⟩ = some (.int .i64 m1) := by rw [hW1, hY]; simp [go_sem]
      have x2 : W1.cell? ⟨Y, 2, none⟩ = some (.int .i64 m2) := by rw [hW1, hY]; simp [go_sem]
      have x3 : W1.cell? ⟨Y, 3, none⟩ = some (.int .i64 m3) := by rw [hW1, hY]; simp [go_sem]
      have x4 : W1.cell? ⟨Y, 4, none⟩ = some (.int .i64 m4) := by rw [hW1, hY]; simp [go_sem]
      have zY : Y < W1.heap.size := by rw [hW1, hY]; simp
      have HW1 : Hid (W1 = wr.alloc (.cells #[.int .i64 m0, .int .i64 m1, .int .i64 m2, .int .i64 m3, .int .i64 m4] 48) ∧ Y = wr.heap.size) := ⟨hW1, hY⟩
      have HJ1 : Hid (JAt W1 J (joinL E) kv) := HJA.out.keep bW
      have HB1 : Hid (Below J W0 W1) := HB.out.trans (bW.mono (by omega))
      clear hW1 hY bW HJA HB
      go_wp2_with fail
      rw [← HW1.out.1, ← HW1.out.2]
      clear HW1 e0 e1 e2 e3 e4 g1 z1 z3
      obtain ⟨ca, hca⟩ : ∃ t, t = codeI m1 m2 := ⟨_, rfl⟩
      obtain ⟨cb, hcb⟩ : ∃ t, t = codeI m3 m4 := ⟨_, rfl⟩
      have HCC : Hid (ca = cod (eA (m0, m1, m2, m3, m4)) ∧ cb = cod (eB (m0, m1, m2, m3, m4)) ∧ ca < cb) := ⟨hca, hcb, by rw [hca, hcb]; exact (ends_ok HED.out).2.2⟩
      have HN1 : Hid (∀ p : After W1, Calls Tryz.prog 85 #[.agg #[.int .i64 m1, .int .i64 m2]] p.w fun e w' => e = .returned (.int .i64 ca) ∧ Below p.w.heap.size p.w w') := fun p => by rw [hca]; exact impl_NodeCode m1 m2 _
      have HN2 : Hid (∀ p : After W1, Calls Tryz.prog 85 #[.agg #[.int .i64 m3, .int .i64 m4]] p.w fun e w' => e = .returned (.int .i64 cb) ∧ Below p.w.heap.size p.w w') := fun p => by rw [hcb]; exact impl_NodeCode m3 m4 _
      clear hca hcb
      refine wp_region_after (by kernel_rfl) (by kernel_rfl) ?_
      intro hne hac
      repeat (go_big_quiet_step (first | (go_at_call_of 85 (Value.agg #[.int .i64 m1, .int .i64 m2]); exact after_of (HN1.out _)) | (go_at_call_of 85 (Value.agg #[.int .i64 m3, .int .i64 m4]); exact after_of (HN2.out _))))
      refine wpQuiet_nil ?_
      rintro _ ⟨p, rfl⟩
      have nb : Below W1.heap.size W1 p.w := p.bel
      clear hac hne HN1 HN2
      generalize p.w = W2 at *
      have HJ2 : Hid (JAt W2 J (joinL E) kv) := HJ1.out.keep nb
      have HB2 : Hid (Below J W0 W2) := HB1.out.trans (nb.mono (by have := HB1.out.size; omega))
      clear nb x1 x2 x3 x4 zY HJ1 HB1
      obtain ⟨v1, hv1, ho1, _⟩ := HJ2.out.get ca
      obtain ⟨pl1, hpl⟩ : ∃ t, t = (joinL E ca).length := ⟨_, rfl⟩
      have hlen1 : pl1 ≤ 200 := by rw [hpl]; exact Nat.le_trans (joinL_le _ _) (by omega)
      rw [← hpl] at ho1
      obtain ⟨xa1, xc1, rfl⟩ := own_form ho1
      have HO1 : Hid (W2.ownsRow (J + 1) 3 1 (.slice xa1 pl1 xc1) pl1 ((joinL E ca).flatMap encI)) := ho1
      have HP1 : Hid (pl1 = (joinL E ca).length ∧ (lkp kv ca).getD (.slice none 0 0) = .slice xa1 pl1 xc1) := ⟨hpl, hv1⟩
      have hlook : (Instr.lookup 83 (.map (some J)) (.int .i64 ca) false).run Tryz.prog W2 = .ok (.slice xa1 pl1 xc1) W2 := by
        rw [HJ2.out.map.get und_mj und_int' (zero_sl W2) ca, hv1]
      have zW1 : J < W2.heap.size := HJ2.out.map.lt
      clear hpl hv1 ho1
      go_wp2_with (at_builtin; go_must (refine wpList_appRow encI_len (by decide) encI_one' rfl _ _ 81 rfl Tryz.underlying81 hi hz0 hz1 hz2 rfl (J + 1) (.slice xa1 pl1 xc1) pl1 _ (.slice (some ⟨W2.heap.size, 0, none⟩) 1 1) [cb] rfl rfl (HO1.out.alloc _) (new_rowI' _ _ 3) (by unfold maxLen; simp; omega) (by simp; omega) (by simp; omega) ?_))
      intro v'1 w13 hown' hgrow hat
      obtain ⟨w14, kv1, r1, r2, r3⟩ := HJ2.out.put (P := Tryz.prog) und_mj und_int' ca cb HP1.out.2 ((Below.refl _ _).alloc (Nat.le_refl _) (.cells #[.int .i64 cb] 3)) hgrow (by rw [← HP1.out.1]; simpa [encI] using hown') (hat.elim .inl (fun h => .inr ⟨_, h, by simp⟩))
      have HJ14 : Hid (JAt w14 J (addF (joinL E) ca cb) kv1) := r3
      have HB14 : Hid (Below J W0 w14) := ((HB2.out.alloc (Nat.le_of_lt zW1) _).grown hgrow (by simp; omega) (fun g hg => by have := (HO1.out.lt g hg).1; omega)).grown r2 (by have := hgrow.size; simp at this; omega) (fun g hg => by cases hg; exact Nat.le_refl _)
      clear hown' hgrow hat r2 r3 hlook
      go_upto_region 8 with fail
      clear r1
      obtain ⟨v2, hv2, ho2, _⟩ := HJ14.out.get cb
      obtain ⟨pl2, hpl⟩ : ∃ t, t = (addF (joinL E) ca cb cb).length := ⟨_, rfl⟩
      have hlen2 : pl2 ≤ 200 := by rw [hpl]; exact Nat.le_trans (addF_le (joinL E) ca cb cb) (by have := joinL_le E cb; have := joinL_le E ca; omega)
      rw [← hpl] at ho2
      obtain ⟨xa2, xc2, rfl⟩ := own_form ho2
      have HO2 : Hid (w14.ownsRow (J + 1) 3 1 (.slice xa2 pl2 xc2) pl2 ((addF (joinL E) ca cb cb).flatMap encI)) := ho2
      have HP2 : Hid (pl2 = (addF (joinL E) ca cb cb).length ∧ (lkp kv1 cb).getD (.slice none 0 0) = .slice xa2 pl2 xc2) := ⟨hpl, hv2⟩
      have hlook : (Instr.lookup 83 (.map (some J)) (.int .i64 cb) false).run Tryz.prog w14 = .ok (.slice xa2 pl2 xc2) w14 := by
        rw [HJ14.out.map.get und_mj und_int' (zero_sl w14) cb, hv2]
      have zW2 : J < w14.heap.size := HJ14.out.map.lt
      clear hpl hv2 ho2
      go_wp2_with (at_builtin; go_must (refine wpList_appRow encI_len (by decide) encI_one' rfl _ _ 81 rfl Tryz.underlying81 hi hz0 hz1 hz2 rfl (J + 1) (.slice xa2 pl2 xc2) pl2 _ (.slice (some ⟨w14.heap.size, 0, none⟩) 1 1) [ca] rfl rfl (HO2.out.alloc _) (new_rowI' _ _ 3) (by unfold maxLen; simp; omega) (by simp; omega) (by simp; omega) ?_))
      intro v'2 w23 hown' hgrow hat
      obtain ⟨w24, kv2, r1, r2, r3⟩ := HJ14.out.put (P := Tryz.prog) und_mj und_int' cb ca HP2.out.2 ((Below.refl _ _).alloc (Nat.le_refl _) (.cells #[.int .i64 ca] 3)) hgrow (by rw [← HP2.out.1]; simpa [encI] using hown') (hat.elim .inl (fun h => .inr ⟨_, h, by simp⟩))
      have HJ24 : Hid (JAt w24 J (addF (addF (joinL E) ca cb) cb ca) kv2) := r3
      have HB24 : Hid (Below J W0 w24) := ((HB14.out.alloc (Nat.le_of_lt zW2) _).grown hgrow (by simp; omega) (fun g hg => by have := (HO2.out.lt g hg).1; omega)).grown r2 (by have := hgrow.size; simp at this; omega) (fun g hg => by cases hg; exact Nat.le_refl _)
      clear hown' hgrow hat r2 r3 hlook
      have HFF : Hid (addF (addF (joinL E) ca cb) cb ca = joinL (ofE m0 (es.take (k + 1)))) := by
        show _ = _
        rw [HV.out]
        exact addF_join E (m0, m1, m2, m3, m4) HCC.out.1 HCC.out.2.1 HCC.out.2.2
      go_wp2_with fail
      go_roundw
      case rel => exact ⟨k + 1, kv2, by omega, by go_num, HB24.out, by rw [← HFF.out]; exact HJ24.out⟩
      case measure => simp [intOf]; omega
    · have hkm : m = k := by omega
      subst hkm
      have HV : Hid (es.take m = es) := by show es.take m = es; rw [HN.out, List.take_length]
      rw [HV.out] at hj
      have HF : Hid (JAt wr J (joinL (ofE l es)) kv ∧ Below w.heap.size w wr) := ⟨hj, HB0.out.trans (hbel.mono (by omega))⟩
      clear hj hbel
      go_wp2_with fail
      go_ret
      exact ⟨J, kv, rfl, by omega, HF.out⟩
end Go.Proofs.YtlnpbfeihjfnjaaGreatDoor.Lab

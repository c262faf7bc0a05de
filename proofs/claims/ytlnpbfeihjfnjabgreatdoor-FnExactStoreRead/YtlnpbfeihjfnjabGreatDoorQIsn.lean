/-
  The nodes of a label by the program: numsOf.
-/
import Derived.Test.YtlnpbfeihjfnjabGreatDoorQSgp
import Derived.Test.YtlnpbfeihjfnjabGreatDoorQPrw
import Derived.Test.YtlnpbfeihjfnjabGreatDoorQRgr
namespace Go.Proofs.YtlnpbfeihjfnjabGreatDoor.Lab
open Go.RowKit
set_option linter.unusedVariables false
theorem encI_one' (x : Int) : ∀ u ∈ encI x, u.oneCell' = true := fun u hu => by simp [encI] at hu; subst hu; rfl
theorem new_rowI' (w : World) (x : Int) (t : TypeId) : RowAt 1 encI (w.alloc (.cells #[.int .i64 x] t)) (.slice (some ⟨w.heap.size, 0, none⟩) 1 1) [x] := by
  refine .inr ⟨by simp, w.heap.size, 0, 1, rfl, by simp, fun j y hy i u hu => ?_⟩
  match j, hy with
  | 0, hy =>
    simp at hy
    subst hy
    rw [cell_block (new_block w _)]
    match i, hu with
    | 0, hu => simpa [encI] using hu
theorem new_rowI_at (w : World) (x : Int) (t : TypeId) {S : Nat} (h : w.heap.size = S) : RowAt 1 encI (w.alloc (.cells #[.int .i64 x] t)) (.slice (some ⟨S, 0, none⟩) 1 1) [x] := by
  subst h; exact new_rowI' w x t
set_option maxRecDepth 8000 in
set_option maxHeartbeats 8000000 in
theorem numsOf (v1 v2 : Value) (ns : List Nd) (l : Int) (w : World) (h : RowAt 2 encNode w v1 ns) (hv2 : ∃ a n c, v2 = .slice a n c) (hl : ns.length ≤ 1048576) :
    Calls Tryz.prog 51 #[.agg #[v1, v2], .int .i64 l] w fun e w' => ∃ u, e = .returned u ∧ w'.ownsRow w.heap.size 3 1 u (numsL l ns).length ((numsL l ns).flatMap encI) ∧ Below w.heap.size w w' := by
  obtain ⟨a2, n2, c2, rfl⟩ := hv2
  obtain ⟨a, cap, rfl⟩ := h.len
  obtain ⟨i0, hi, hz0, hz1, hz2⟩ := info_parts Tryz.infoI
  have H : Hid (RowAt 2 encNode w (.slice a ns.length cap) ns) := h
  clear h
  obtain ⟨n, hn⟩ : ∃ n, n = ns.length := ⟨_, rfl⟩
  have HN : Hid (n = ns.length) := hn
  rw [← hn] at H hl ⊢
  clear hn
  obtain ⟨W0, hW0⟩ : ∃ W0, W0 = w.alloc (.cells #[.slice a n cap, .slice a2 n2 c2] 32) := ⟨_, rfl⟩
  have b0 : Below w.heap.size w W0 := by rw [hW0]; go_grown
  have z0 : W0.heap.size = w.heap.size + 1 := by rw [hW0]; simp
  have HB0 : Hid (Below w.heap.size w W0) := b0
  have HW0 : Hid (W0 = w.alloc (.cells #[.slice a n cap, .slice a2 n2 c2] 32)) := hW0
  clear b0 hW0
  go_enter Tryz.func51, Tryz.ntmps51
  go_wp2_with fail
  rw [← HW0.out]
  clear HW0
  go_loopw [5, 11] (fun q i wr => ∃ k : Nat, k ≤ n ∧ i = .int .i64 k ∧ Below W0.heap.size W0 wr ∧ wr.ownsRow w.heap.size 3 1 q (numsL l (ns.take k)).length ((numsL l (ns.take k)).flatMap encI) ∧ ∀ g, q.ownBlock = some g → W0.heap.size ≤ g) (fun _ i _ => n - (intOf i).toNat)
  case atStart => exact ⟨0, by omega, rfl, Below.refl _ _, World.ownsRow_nil _ _ _ _, fun g hg => by cases hg⟩
  case round =>
    obtain ⟨k, hk, rfl, hbel, hown, hlow⟩ := hrel
    have hsz := hbel.size
    obtain ⟨xa, xc, rfl⟩ := own_form hown
    by_cases hlt : k < n
    · rcases H.out with ⟨hz, _⟩ | ⟨_, b1, o1, q1, hv1, hb1, E1⟩
      · have := HN.out; rw [hz] at this; simp at this; omega
      obtain rfl : a = some ⟨b1, o1, none⟩ := by injection hv1
      obtain ⟨⟨m0, m1⟩, hx⟩ : ∃ x, ns[k]? = some x := ⟨_, List.getElem?_eq_getElem (by rw [← HN.out]; exact hlt)⟩
      have e0 : wr.cell? ⟨b1, o1 + k * 2, none⟩ = some (.int .i64 m0) := by rw [Below.celz hbel _ _ _ (by omega), Below.celz HB0.out _ _ _ hb1]; exact E1 k _ hx 0 _ rfl
      have e1 : wr.cell? ⟨b1, o1 + k * 2 + 1, none⟩ = some (.int .i64 m1) := by rw [Below.celz hbel _ _ _ (by omega), Below.celz HB0.out _ _ _ hb1]; exact E1 k _ hx 1 _ rfl
      have hle := numsL_take_le l ns k
      have z2 : b1 < wr.heap.size := by omega
      have k0 : (0 : Int) ≤ (k : Int) := by omega
      have k1 : (k : Int) < (n : Int) := by omega
      have HX : Hid (ns[k]? = some (m0, m1)) := hx
      have HB : Hid (Below W0.heap.size W0 wr) := hbel
      have HO : Hid (wr.ownsRow w.heap.size 3 1 (.slice xa (numsL l (ns.take k)).length xc) (numsL l (ns.take k)).length ((numsL l (ns.take k)).flatMap encI) ∧ ∀ g, (Value.slice xa (numsL l (ns.take k)).length xc).ownBlock = some g → W0.heap.size ≤ g) := ⟨hown, hlow⟩
      have HST : Hid (numsL l (ns.take (k + 1)) = if m0 = l then numsL l (ns.take k) ++ [m1] else numsL l (ns.take k)) := ofN_step hx
      clear hx hbel E1 hv1 hown hlow
      obtain ⟨pl, hpl⟩ : ∃ t, t = (numsL l (ns.take k)).length := ⟨_, rfl⟩
      have HPL : Hid ((numsL l (ns.take k)).length = pl) := hpl.symm
      rw [← hpl] at HO hle ⊢
      clear hpl
      by_cases hm : m0 = l
      · subst hm
        have HV : Hid (numsL m0 (ns.take (k + 1)) = numsL m0 (ns.take k) ++ [m1]) := by have := HST.out; rwa [if_pos rfl] at this
        clear HST
        go_wp2_with (at_builtin; go_must (refine wpList_appRow encI_len (by decide) encI_one' rfl _ _ 81 rfl Tryz.underlying81 hi hz0 hz1 hz2 rfl w.heap.size (.slice xa pl xc) pl _ (.slice (some ⟨wr.heap.size + 1, 0, none⟩) 1 1) [m1] rfl rfl ((HO.out.1.alloc _).alloc _) (new_rowI_at _ _ 3 (by simp)) (by unfold maxLen; simp; omega) (by simp; omega) (by simp; omega) ?_))
        intro v' w3 hown' hgrow hat
        have R : Hid (Below W0.heap.size W0 w3 ∧ w3.ownsRow w.heap.size 3 1 v' (numsL m0 (ns.take (k + 1))).length ((numsL m0 (ns.take (k + 1))).flatMap encI) ∧ ∀ g, v'.ownBlock = some g → W0.heap.size ≤ g) := by
          refine ⟨((HB.out.alloc (by omega) _).alloc (by simp; omega) _).grown hgrow (by simp; omega) HO.out.2, ?_, fun g hg => ?_⟩
          · rw [HV.out, List.length_append, HPL.out, List.flatMap_append]
            simpa using hown'
          · rcases hat with h | h
            · rw [h] at hg; exact HO.out.2 g hg
            · rw [h] at hg; simp at hg; omega
        clear hown' hgrow hat
        go_wp2_with fail
        go_roundw
        case rel => exact ⟨k + 1, by omega, by go_num, R.out⟩
        case measure => simp [intOf]; omega
      · have HV : Hid (numsL l (ns.take (k + 1)) = numsL l (ns.take k)) := by have := HST.out; rwa [if_neg hm] at this
        have d0 : (m0 == l) = false := beq_eq_false_iff_ne.2 hm
        clear HST hm
        go_wp2_with fail
        go_roundw
        case rel => exact ⟨k + 1, by omega, by go_num, HB.out.alloc (by omega) _, by rw [HV.out, HPL.out]; exact HO.out.1.alloc _, HO.out.2⟩
        case measure => simp [intOf]; omega
    · have hkn : n = k := by omega
      subst hkn
      have HV : Hid (ns.take n = ns) := by show ns.take n = ns; rw [HN.out, List.take_length]
      have HO : Hid (wr.ownsRow w.heap.size 3 1 (.slice xa (numsL l (ns.take n)).length xc) (numsL l (ns.take n)).length ((numsL l (ns.take n)).flatMap encI)) := hown
      clear hown
      go_wp2_with fail
      go_ret
      refine ⟨_, rfl, ?_, HB0.out.trans (hbel.mono (by omega))⟩
      have := HO.out
      rw [HV.out] at this ⊢
      exact this
end Go.Proofs.YtlnpbfeihjfnjabGreatDoor.Lab

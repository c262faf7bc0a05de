/-
  A graph as bytes, label by label: StoreOf of both, l4Store. (Written by tools/mkstf.py.)
-/
import Derived.Test.YtlnpbfeihjfnjabGreatDoorQSgi
import Derived.Test.YtlnpbfeihjfnjabGreatDoorQSst
import Derived.Test.YtlnpbfeihjfnjabGreatDoorQSvw
namespace Go.Proofs.YtlnpbfeihjfnjabGreatDoor.Lab
open Go.RowKit
set_option linter.unusedVariables false
theorem new_rowS (w : World) (x : Int × List UInt8) (t : TypeId) {S : Nat} (h : w.heap.size = S) : RowAt 2 encSeg (w.alloc (.cells #[.int .i64 x.1, .string ⟨x.2.toArray⟩] t)) (.slice (some ⟨S, 0, none⟩) 1 1) [x] := by
  subst h
  refine .inr ⟨by simp, w.heap.size, 0, 1, rfl, by simp, fun j y hy i u hu => ?_⟩
  match j, hy with
  | 0, hy =>
    simp at hy
    subst hy
    rw [cell_block (new_block w _)]
    match i, hu with
    | 0, hu => simpa [encSeg] using hu
    | 1, hu => simpa [encSeg] using hu
theorem bytes_ne {l : List UInt8} (h : l ≠ []) : (({ data := l.toArray } : ByteArray) != { data := #[] }) = true := by
  cases l with
  | nil => exact absurd rfl h
  | cons a t => first | rfl | simp [bne, BEq.beq, instBEqByteArray.beq, Array.isEqv] | decide
theorem encSeg_one' (x : Int × List UInt8) : ∀ u ∈ encSeg x, u.oneCell' = true := fun u hu => by
  simp [encSeg] at hu
  rcases hu with rfl | rfl <;> rfl
set_option maxRecDepth 8000 in
set_option maxHeartbeats 8000000 in
theorem impl_StoreOf_walk (a1 a2 : Option Addr) (n m c1 c2 : Nat) (ns : List Nd) (es : List Ed) (w : World) (h1 : RowAt 2 encNode w (.slice a1 n c1) ns) (h2 : RowAt 5 encEdge w (.slice a2 m c2) es) (hN : n = ns.length) (hM : m = es.length) (hn : n ≤ 1048576) (hm : m ≤ 1048576) (hE : Errs w) :
    Calls Tryz.prog 8 #[.agg #[.slice a1 n c1, .slice a2 m c2]] w fun e w' => ∃ u, e = .returned u ∧ w'.ownsRow w.heap.size 52 2 u (storeL ns es).length ((storeL ns es).flatMap encSeg) ∧ Below w.heap.size w w' := by
  obtain ⟨i0, hi, hz0, hz1, hz2⟩ := info_parts Tryz.infoSeg
  obtain ⟨W0, hW0⟩ : ∃ W0, W0 = w.alloc (.cells #[.slice a1 n c1, .slice a2 m c2] 32) := ⟨_, rfl⟩
  have b0 : Below w.heap.size w W0 := by rw [hW0]; go_grown
  have z0 : w.heap.size < W0.heap.size := by rw [hW0]; simp
  have G0 : W0.cell? ⟨w.heap.size, 0, none⟩ = some (.slice a1 n c1) := by rw [hW0]; simp [go_sem]
  have G1 : W0.cell? ⟨w.heap.size, 1, none⟩ = some (.slice a2 m c2) := by rw [hW0]; simp [go_sem]

  have HB0 : Hid (Below w.heap.size w W0) := b0
  have HR : Hid (∀ W, Below (w.heap.size + 1) W0 W → RowAt 2 encNode W (.slice a1 n c1) ns ∧ RowAt 5 encEdge W (.slice a2 m c2) es) := fun W h => by
    have hb : Below w.heap.size w W := b0.trans (h.mono (by omega))
    exact ⟨h1.keep hb, h2.keep hb⟩
  have HL : Hid (ns.length ≤ 1048576 ∧ es.length ≤ 1048576) := ⟨by omega, by omega⟩
  have HE : Hid (∀ W, Below (w.heap.size + 1) W0 W → Errs W) := fun W h => hE.keep (b0.trans (h.mono (by omega)))
  clear hE
  have HW0 : Hid (W0 = w.alloc (.cells #[.slice a1 n c1, .slice a2 m c2] 32)) := hW0
  clear b0 hW0 h1 h2 hN hM hn hm
  go_enter Tryz.func8, Tryz.ntmps8
  go_wp2_with fail
  rw [← HW0.out]
  clear HW0
  go_loopw [3, 6] (fun q i wr => ∃ k : Nat, k ≤ 8 ∧ i = .int .i64 k ∧ Below (w.heap.size + 1) W0 wr ∧ wr.ownsRow (w.heap.size + 1) 52 2 q (storeK ns es k).length ((storeK ns es k).flatMap encSeg)) (fun _ i _ => 8 - (intOf i).toNat)
  case atStart => exact ⟨0, by omega, rfl, Below.refl _ _, World.ownsRow_nil _ _ _ _⟩
  case round =>
    obtain ⟨k, hk, rfl, hbel, hown⟩ := hrel
    have hsz := hbel.size
    obtain ⟨xa, xc, rfl⟩ := own_form hown
    have hle := storeK_le ns es k
    obtain ⟨pl, hpl⟩ : ∃ t, t = (storeK ns es k).length := ⟨_, rfl⟩
    have HPL : Hid ((storeK ns es k).length = pl) := hpl.symm
    rw [← hpl] at hown hle ⊢
    clear hpl
    by_cases hlt : k < 8
    · have g0 : wr.cell? ⟨w.heap.size, 0, none⟩ = some (.slice a1 n c1) := (Below.celz hbel _ _ _ (by omega)).trans G0
      have g1 : wr.cell? ⟨w.heap.size, 1, none⟩ = some (.slice a2 m c2) := (Below.celz hbel _ _ _ (by omega)).trans G1
      have z1 : w.heap.size < wr.heap.size := by omega
      have k0 : (0 : Int) ≤ (k : Int) := by omega
      have k1 : (k : Int) < 8 := by omega
      have k2 : (k : Int) ≤ 7 := by omega
      obtain ⟨sg, hsg⟩ : ∃ t, t = segB (k : Int) ns es := ⟨_, rfl⟩
      have HSG : Hid (sg = segB (k : Int) ns es) := hsg
      have HC : Hid (Calls Tryz.prog 25 #[.agg #[.slice a1 n c1, .slice a2 m c2], .int .i64 (k : Int)] wr fun e w' => e = .returned (.string ⟨sg.toArray⟩) ∧ Below wr.heap.size wr w') := by
        show Calls _ _ _ _ _
        rw [hsg]; exact impl_SegOf _ _ (k : Int) ns es _ (HR.out _ hbel).1 (HR.out _ hbel).2 HL.out.1 HL.out.2 (HE.out _ hbel)
      have HB : Hid (Below (w.heap.size + 1) W0 wr) := hbel
      have HO : Hid (wr.ownsRow (w.heap.size + 1) 52 2 (.slice xa pl xc) pl ((storeK ns es k).flatMap encSeg)) := hown
      clear hsg hbel hown
      by_cases hs : sg = []
      · subst hs
        have HV : Hid (storeK ns es (k + 1) = storeK ns es k) := by show _ = _; rw [storeK_succ, if_pos HSG.out.symm]
        go_wp2_with fail
        refine HC.out.mono ?_
        rintro e w2 ⟨rfl, b2⟩
        have HB2 : Hid (Below (w.heap.size + 1) W0 w2) := HB.out.trans (b2.mono (by omega))
        have HO2 : Hid (w2.ownsRow (w.heap.size + 1) 52 2 (.slice xa pl xc) pl ((storeK ns es k).flatMap encSeg)) := own_keep HO.out b2
        clear b2 g0 g1 z1 HC
        go_wp2_with fail
        go_roundw
        case rel => exact ⟨k + 1, by omega, by go_num, HB2.out, by rw [HV.out, HPL.out]; exact HO2.out⟩
        case measure => simp [intOf]; omega
      · have HV : Hid (storeK ns es (k + 1) = storeK ns es k ++ [((k : Int), sg)]) := by
          show _ = _; rw [storeK_succ, if_neg (fun e => hs (HSG.out.trans e)), ← HSG.out]
        have hne := bytes_ne hs
        have hne3 : sg.isEmpty = false := by cases sg with | nil => exact absurd rfl hs | cons _ _ => rfl
        clear hs
        go_wp2_with fail
        refine HC.out.mono ?_
        rintro e w2 ⟨rfl, b2⟩
        have HB2 : Hid (Below (w.heap.size + 1) W0 w2) := HB.out.trans (b2.mono (by omega))
        have HO2 : Hid (w2.ownsRow (w.heap.size + 1) 52 2 (.slice xa pl xc) pl ((storeK ns es k).flatMap encSeg)) := own_keep HO.out b2
        have z2 : w.heap.size < w2.heap.size := Nat.lt_of_lt_of_le z1 b2.size
        clear b2 g0 g1 z1 HC
        go_wp2_with (at_builtin; go_must (refine wpList_appRow encSeg_len (by decide) encSeg_one' rfl _ _ 27 rfl Tryz.underlying27 hi hz0 hz1 hz2 rfl (w.heap.size + 1) (.slice xa pl xc) pl _ (.slice (some ⟨w2.heap.size, 0, none⟩) 1 1) [((k : Int), sg)] rfl rfl (HO2.out.alloc _) (new_rowS _ _ 52 rfl) (by unfold maxLen; simp; omega) (by simp; omega) (by simp; omega) ?_))
        intro v' w3 hown' hgrow _
        have R : Hid (Below (w.heap.size + 1) W0 w3 ∧ w3.ownsRow (w.heap.size + 1) 52 2 v' (storeK ns es (k + 1)).length ((storeK ns es (k + 1)).flatMap encSeg)) := by
          refine ⟨(HB2.out.alloc (by omega) _).grown hgrow (by simp; omega) (fun g hg => (HO2.out.lt g hg).1), ?_⟩
          rw [HV.out, List.length_append, HPL.out, List.flatMap_append]
          simpa using hown'
        clear hown' hgrow
        go_wp2_with fail
        go_roundw
        case rel => exact ⟨k + 1, by omega, by go_num, R.out⟩
        case measure => simp [intOf]; omega
    · have hk8 : k = 8 := by omega
      subst hk8
      have HF : Hid (Below w.heap.size w wr ∧ wr.ownsRow w.heap.size 52 2 (.slice xa pl xc) (storeL ns es).length ((storeL ns es).flatMap encSeg)) := ⟨HB0.out.trans (hbel.mono (by omega)), by
        have := own_mono (base' := w.heap.size) hown (by omega)
        unfold storeL; rw [HPL.out]; exact this⟩
      clear hown hbel
      go_wp2_with fail
      go_ret
      exact ⟨_, rfl, HF.out.2, HF.out.1⟩
set_option maxRecDepth 8000 in
set_option maxHeartbeats 8000000 in
theorem l4Store_walk (a1 a2 : Option Addr) (n m c1 c2 : Nat) (ns : List Nd) (es : List Ed) (w : World) (h1 : RowAt 2 encNode w (.slice a1 n c1) ns) (h2 : RowAt 5 encEdge w (.slice a2 m c2) es) (hN : n = ns.length) (hM : m = es.length) (hn : n ≤ 1048576) (hm : m ≤ 1048576) (hg : gokB ns es = true) :
    Calls Tryz.prog 22 #[.agg #[.slice a1 n c1, .slice a2 m c2]] w fun e w' => ∃ u, e = .returned u ∧ w'.ownsRow w.heap.size 52 2 u (storeL ns es).length ((storeL ns es).flatMap encSeg) ∧ Below w.heap.size w w' := by
  obtain ⟨i0, hi, hz0, hz1, hz2⟩ := info_parts Tryz.infoSeg
  obtain ⟨W0, hW0⟩ : ∃ W0, W0 = (w.alloc (.cells #[.slice a1 n c1, .slice a2 m c2] 32)).alloc (.cells #[] 52) := ⟨_, rfl⟩
  have b0 : Below w.heap.size w W0 := by rw [hW0]; go_grown
  have z0 : w.heap.size < W0.heap.size := by rw [hW0]; simp; omega
  have G0 : W0.cell? ⟨w.heap.size, 0, none⟩ = some (.slice a1 n c1) := by rw [hW0]; simp [go_sem]
  have G1 : W0.cell? ⟨w.heap.size, 1, none⟩ = some (.slice a2 m c2) := by rw [hW0]; simp [go_sem]
  have T0 : Hid (W0.ownsRow (w.heap.size + 1) 52 2 (.slice (some ⟨w.heap.size + 1, 0, none⟩) 0 0) 0 []) := own_new0 (by rw [hW0]; exact new_at' (by simp)) (Nat.le_refl _)
  have HB0 : Hid (Below w.heap.size w W0) := b0
  have HR : Hid (∀ W, Below (w.heap.size + 1) W0 W → RowAt 2 encNode W (.slice a1 n c1) ns ∧ RowAt 5 encEdge W (.slice a2 m c2) es) := fun W h => by
    have hb : Below w.heap.size w W := b0.trans (h.mono (by omega))
    exact ⟨h1.keep hb, h2.keep hb⟩
  have HL : Hid (ns.length ≤ 1048576 ∧ es.length ≤ 1048576) := ⟨by omega, by omega⟩
  have HG : Hid (gokB ns es = true) := hg
  clear hg
  have HW0 : Hid (W0 = (w.alloc (.cells #[.slice a1 n c1, .slice a2 m c2] 32)).alloc (.cells #[] 52)) := hW0
  clear b0 hW0 h1 h2 hN hM hn hm
  go_enter Tryz.func22, Tryz.ntmps22
  go_wp2_with fail
  rw [← HW0.out]
  clear HW0
  go_loopw [3, 4] (fun q i wr => ∃ k : Nat, k ≤ 8 ∧ i = .int .i64 k ∧ Below (w.heap.size + 1) W0 wr ∧ wr.ownsRow (w.heap.size + 1) 52 2 q (storeK ns es k).length ((storeK ns es k).flatMap encSeg)) (fun _ i _ => 8 - (intOf i).toNat)
  case atStart => exact ⟨0, by omega, rfl, Below.refl _ _, T0.out⟩
  case round =>
    obtain ⟨k, hk, rfl, hbel, hown⟩ := hrel
    have hsz := hbel.size
    obtain ⟨xa, xc, rfl⟩ := own_form hown
    have hle := storeK_le ns es k
    obtain ⟨pl, hpl⟩ : ∃ t, t = (storeK ns es k).length := ⟨_, rfl⟩
    have HPL : Hid ((storeK ns es k).length = pl) := hpl.symm
    rw [← hpl] at hown hle ⊢
    clear hpl
    by_cases hlt : k < 8
    · have g0 : wr.cell? ⟨w.heap.size, 0, none⟩ = some (.slice a1 n c1) := (Below.celz hbel _ _ _ (by omega)).trans G0
      have g1 : wr.cell? ⟨w.heap.size, 1, none⟩ = some (.slice a2 m c2) := (Below.celz hbel _ _ _ (by omega)).trans G1
      have z1 : w.heap.size < wr.heap.size := by omega
      have k0 : (0 : Int) ≤ (k : Int) := by omega
      have k1 : (k : Int) < 8 := by omega
      have k2 : (k : Int) ≤ 7 := by omega
      obtain ⟨sg, hsg⟩ : ∃ t, t = segB (k : Int) ns es := ⟨_, rfl⟩
      have HSG : Hid (sg = segB (k : Int) ns es) := hsg
      have HC : Hid (Calls Tryz.prog 47 #[.agg #[.slice a1 n c1, .slice a2 m c2], .int .i64 (k : Int)] wr fun e w' => e = .returned (.string ⟨sg.toArray⟩) ∧ Below wr.heap.size wr w') := by
        show Calls _ _ _ _ _
        rw [hsg, segB_ok HG.out]; exact l4Seg _ _ (k : Int) ns es _ (HR.out _ hbel).1 (HR.out _ hbel).2 (gokB_true.1 HG.out)
      have HB : Hid (Below (w.heap.size + 1) W0 wr) := hbel
      have HO : Hid (wr.ownsRow (w.heap.size + 1) 52 2 (.slice xa pl xc) pl ((storeK ns es k).flatMap encSeg)) := hown
      clear hsg hbel hown
      by_cases hs : sg = []
      · subst hs
        have HV : Hid (storeK ns es (k + 1) = storeK ns es k) := by show _ = _; rw [storeK_succ, if_pos HSG.out.symm]
        go_wp2_with fail
        refine HC.out.mono ?_
        rintro e w2 ⟨rfl, b2⟩
        have HB2 : Hid (Below (w.heap.size + 1) W0 w2) := HB.out.trans (b2.mono (by omega))
        have HO2 : Hid (w2.ownsRow (w.heap.size + 1) 52 2 (.slice xa pl xc) pl ((storeK ns es k).flatMap encSeg)) := own_keep HO.out b2
        clear b2 g0 g1 z1 HC
        go_wp2_with fail
        go_roundw
        case rel => exact ⟨k + 1, by omega, by go_num, HB2.out, by rw [HV.out, HPL.out]; exact HO2.out⟩
        case measure => simp [intOf]; omega
      · have HV : Hid (storeK ns es (k + 1) = storeK ns es k ++ [((k : Int), sg)]) := by
          show _ = _; rw [storeK_succ, if_neg (fun e => hs (HSG.out.trans e)), ← HSG.out]
        have hne := bytes_ne hs
        have hne3 : sg.isEmpty = false := by cases sg with | nil => exact absurd rfl hs | cons _ _ => rfl
        clear hs
        go_wp2_with fail
        refine HC.out.mono ?_
        rintro e w2 ⟨rfl, b2⟩
        have HB2 : Hid (Below (w.heap.size + 1) W0 w2) := HB.out.trans (b2.mono (by omega))
        have HO2 : Hid (w2.ownsRow (w.heap.size + 1) 52 2 (.slice xa pl xc) pl ((storeK ns es k).flatMap encSeg)) := own_keep HO.out b2
        have z2 : w.heap.size < w2.heap.size := Nat.lt_of_lt_of_le z1 b2.size
        clear b2 g0 g1 z1 HC
        go_wp2_with (at_builtin; go_must (refine wpList_appRow encSeg_len (by decide) encSeg_one' rfl _ _ 27 rfl Tryz.underlying27 hi hz0 hz1 hz2 rfl (w.heap.size + 1) (.slice xa pl xc) pl _ (.slice (some ⟨w2.heap.size, 0, none⟩) 1 1) [((k : Int), sg)] rfl rfl (HO2.out.alloc _) (new_rowS _ _ 52 rfl) (by unfold maxLen; simp; omega) (by simp; omega) (by simp; omega) ?_))
        intro v' w3 hown' hgrow _
        have R : Hid (Below (w.heap.size + 1) W0 w3 ∧ w3.ownsRow (w.heap.size + 1) 52 2 v' (storeK ns es (k + 1)).length ((storeK ns es (k + 1)).flatMap encSeg)) := by
          refine ⟨(HB2.out.alloc (by omega) _).grown hgrow (by simp; omega) (fun g hg => (HO2.out.lt g hg).1), ?_⟩
          rw [HV.out, List.length_append, HPL.out, List.flatMap_append]
          simpa using hown'
        clear hown' hgrow
        go_wp2_with fail
        go_roundw
        case rel => exact ⟨k + 1, by omega, by go_num, R.out⟩
        case measure => simp [intOf]; omega
    · have hk8 : k = 8 := by omega
      subst hk8
      have HF : Hid (Below w.heap.size w wr ∧ wr.ownsRow w.heap.size 52 2 (.slice xa pl xc) (storeL ns es).length ((storeL ns es).flatMap encSeg)) := ⟨HB0.out.trans (hbel.mono (by omega)), by
        have := own_mono (base' := w.heap.size) hown (by omega)
        unfold storeL; rw [HPL.out]; exact this⟩
      clear hown hbel
      go_wp2_with fail
      go_ret
      exact ⟨_, rfl, HF.out.2, HF.out.1⟩
theorem impl_StoreOf (v1 v2 : Value) (ns : List Nd) (es : List Ed) (w : World) (h1 : RowAt 2 encNode w v1 ns) (h2 : RowAt 5 encEdge w v2 es) (l1 : ns.length ≤ 1048576) (l2 : es.length ≤ 1048576) (hE : Errs w) :
    Calls Tryz.prog 8 #[.agg #[v1, v2]] w fun e w' => ∃ u, e = .returned u ∧ w'.ownsRow w.heap.size 52 2 u (storeL ns es).length ((storeL ns es).flatMap encSeg) ∧ Below w.heap.size w w' := by
  obtain ⟨a1, c1, rfl⟩ := h1.len
  obtain ⟨a2, c2, rfl⟩ := h2.len
  exact impl_StoreOf_walk a1 a2 _ _ c1 c2 ns es w h1 h2 rfl rfl l1 l2 hE
theorem l4Store (v1 v2 : Value) (ns : List Nd) (es : List Ed) (w : World) (h1 : RowAt 2 encNode w v1 ns) (h2 : RowAt 5 encEdge w v2 es) (l1 : ns.length ≤ 1048576) (l2 : es.length ≤ 1048576) (hg : gokB ns es = true) :
    Calls Tryz.prog 22 #[.agg #[v1, v2]] w fun e w' => ∃ u, e = .returned u ∧ w'.ownsRow w.heap.size 52 2 u (storeL ns es).length ((storeL ns es).flatMap encSeg) ∧ Below w.heap.size w w' := by
  obtain ⟨a1, c1, rfl⟩ := h1.len
  obtain ⟨a2, c2, rfl⟩ := h2.len
  exact l4Store_walk a1 a2 _ _ c1 c2 ns es w h1 h2 rfl rfl l1 l2 hg
set_option maxRecDepth 8000 in
set_option maxHeartbeats 4000000 in
theorem spec_StoreOf (v1 v2 : Value) (ns : List Nd) (es : List Ed) (w : World) (h1 : RowAt 2 encNode w v1 ns) (h2 : RowAt 5 encEdge w v2 es) (l1 : ns.length ≤ 1048576) (l2 : es.length ≤ 1048576) :
    Calls Tryz.prog 6 #[.agg #[v1, v2]] w fun e w' => ∃ u, e = .returned u ∧ w'.ownsRow w.heap.size 52 2 u (storeL ns es).length ((storeL ns es).flatMap encSeg) ∧ Below w.heap.size w w' := by
  obtain ⟨a1, c1, rfl⟩ := h1.len
  obtain ⟨a2, c2, rfl⟩ := h2.len
  have H1 : Hid (RowAt 2 encNode w (.slice a1 ns.length c1) ns) := h1
  have H2 : Hid (RowAt 5 encEdge w (.slice a2 es.length c2) es) := h2
  have HL : Hid (ns.length ≤ 1048576 ∧ es.length ≤ 1048576) := ⟨l1, l2⟩
  clear h1 h2 l1 l2
  obtain ⟨n, hn⟩ : ∃ n, n = ns.length := ⟨_, rfl⟩
  obtain ⟨m, hm⟩ : ∃ m, m = es.length := ⟨_, rfl⟩
  rw [← hn] at H1 ⊢
  rw [← hm] at H2 ⊢
  clear hn hm
  obtain ⟨W0, hW0⟩ : ∃ W0, W0 = w.alloc (.cells #[.slice a1 n c1, .slice a2 m c2] 32) := ⟨_, rfl⟩
  have b0 : Below w.heap.size w W0 := by rw [hW0]; go_grown
  have z0 : W0.heap.size = w.heap.size + 1 := by rw [hW0]; simp
  have G0 : W0.cell? ⟨w.heap.size, 0, none⟩ = some (.slice a1 n c1) := by rw [hW0]; simp [go_sem]
  have G1 : W0.cell? ⟨w.heap.size, 1, none⟩ = some (.slice a2 m c2) := by rw [hW0]; simp [go_sem]
  have HB0 : Hid (Below w.heap.size w W0) := b0
  have HW0 : Hid (W0 = w.alloc (.cells #[.slice a1 n c1, .slice a2 m c2] 32)) := hW0
  clear b0 hW0
  go_enter Tryz.func6, Tryz.ntmps6
  go_wp2_with fail
  rw [← HW0.out]
  clear HW0
  refine (spec_GraphOk _ _ ns es _ (H1.out.keep HB0.out) (H2.out.keep HB0.out) HL.out.1 HL.out.2).mono ?_
  rintro e w1 ⟨rfl, b1⟩
  have g0 : w1.cell? ⟨w.heap.size, 0, none⟩ = some (.slice a1 n c1) := (Below.celz b1 _ _ _ (by omega)).trans G0
  have g1 : w1.cell? ⟨w.heap.size, 1, none⟩ = some (.slice a2 m c2) := (Below.celz b1 _ _ _ (by omega)).trans G1
  have z1 : w.heap.size < w1.heap.size := by have := b1.size; omega
  have HB1 : Hid (Below w.heap.size w w1) := HB0.out.trans (b1.mono (by omega))
  clear b1
  cases hg : gokB ns es
  · have HS : Hid (storeL ns es = []) := storeL_bad hg
    clear hg
    go_wp2_with fail
    go_ret
    refine ⟨_, rfl, ?_, HB1.out.alloc HB1.out.size _⟩
    rw [HS.out]
    exact own_new0 (new_block _ _) HB1.out.size
  · have HGK : Hid (gokB ns es = true) := hg
    clear hg
    go_wp2_with fail
    refine (l4Store _ _ ns es _ (H1.out.keep HB1.out) (H2.out.keep HB1.out) HL.out.1 HL.out.2 HGK.out).mono ?_
    rintro e w2 ⟨u, rfl, ow, b2⟩
    have HF : Hid (w2.ownsRow w.heap.size 52 2 u (storeL ns es).length ((storeL ns es).flatMap encSeg) ∧ Below w.heap.size w w2) := ⟨own_mono ow HB1.out.size, HB1.out.trans (b2.mono HB1.out.size)⟩
    clear ow b2
    go_wp2_with fail
    go_ret
    exact ⟨u, rfl, HF.out⟩
end Go.Proofs.YtlnpbfeihjfnjabGreatDoor.Lab

/-
  spec.PoolAll.
-/
import Derived.Test.YtfcggdkahmcnfaaDoorSal
namespace Go.Proofs.YtfcggdkahmcnfaaDoor.Lab
open Go.RowKit Go.ChangeMaps
set_option linter.unusedVariables false
set_option maxHeartbeats 4000000 in
theorem spec_PoolAll (z : Int) (v v2 : Value) (xs ls : List (Int × Int)) (w : World) (h : RowC w v xs) (h2 : RowAt 2 encPage w v2 ls) (hl : xs.length ≤ 1048576) (hl2 : ls.length ≤ 1048576) :
    Calls Tryd.prog 7 #[.agg #[.int .i64 z, v], v2] w fun e w' => ∃ u, e = .returned (.tuple #[.agg #[.int .i64 (paZ z xs ls), u], .int .i64 (paN z xs ls)]) ∧ OwnPool w' w.heap.size u (paL z xs ls) ∧ Below w.heap.size w w' := by
  obtain ⟨a, cap, rfl⟩ := h.1.len
  obtain ⟨a2, cap2, rfl⟩ := h2.len
  obtain ⟨n, hn⟩ : ∃ n, n = ls.length := ⟨_, rfl⟩
  have HN : Hid (n = ls.length) := hn
  have HRC : Hid (RowC w (.slice a xs.length cap) xs ∧ RowAt 2 encPage w (.slice a2 n cap2) ls) := ⟨h, by rw [hn]; exact h2⟩
  rw [← hn] at hl2 ⊢
  obtain ⟨W0, hW0⟩ : ∃ W0, W0 = ((w.alloc (.cells #[.int .i64 z, .slice a xs.length cap] 25)).alloc (.cells #[.int .i64 0, .slice none 0 0] 25)) := ⟨_, rfl⟩
  have b0 : Below w.heap.size w W0 := by rw [hW0]; go_grown
  have s0 : W0.heap.size = w.heap.size + 2 := by rw [hW0]; simp
  have p0 : W0.cell? ⟨w.heap.size, 0, none⟩ = some (.int .i64 z) := by rw [hW0]; simp [go_sem]
  have p1 : W0.cell? ⟨w.heap.size, 1, none⟩ = some (.slice a xs.length cap) := by rw [hW0]; simp [go_sem]
  have hur : W0.heap[w.heap.size + 1]? = some (.cells #[.int .i64 0, .slice none 0 0] 25 (0, 0)) := by rw [hW0]; exact new_ats (by simp)
  clear h h2 hn
  go_enter Tryd.func7, Tryd.ntmps7
  go_wp2_with fail
  simp only [← hW0]
  clear hW0
  refine (spec_PoolOk z _ xs _ (HRC.out.1.keep b0) hl).mono ?_
  rintro e w1 ⟨rfl, bel1⟩
  have s1 := bel1.size
  have q0 : w1.cell? ⟨w.heap.size, 0, none⟩ = some (.int .i64 z) := (Below.celz bel1 _ _ _ (by omega)).trans p0
  have q1 : w1.cell? ⟨w.heap.size, 1, none⟩ = some (.slice a xs.length cap) := (Below.celz bel1 _ _ _ (by omega)).trans p1
  have hur1 : w1.heap[w.heap.size + 1]? = some (.cells #[.int .i64 0, .slice none 0 0] 25 (0, 0)) := by rw [bel1.block _ (by omega)]; exact hur
  have HB1 : Hid (Below w.heap.size w w1) := b0.trans (bel1.mono (by omega))
  have hs1 : w.heap.size + 2 ≤ w1.heap.size := by omega
  clear bel1 b0 p0 p1 hur s1 s0
  cases hp : poolB z xs
  · have HP : Hid (paZ z xs ls = 0 ∧ paN z xs ls = 0 ∧ paL z xs ls = []) := by simp [paZ, paN, paL, paOk, hp, Hid]
    have u0 : w1.cell? ⟨w.heap.size + 1, 0, none⟩ = some (.int .i64 0) := by rw [cell_block hur1]; rfl
    have u1 : w1.cell? ⟨w.heap.size + 1, 1, none⟩ = some (.slice none 0 0) := by rw [cell_block hur1]; rfl
    have fu : ∀ i, w1.frozen? ⟨w.heap.size + 1, i, none⟩ = false := fun i => free_block hur1
    clear hur1 q0 q1
    go_wp2_with fail
    refine bodyPost_ret (v := .tuple #[.agg #[.int .i64 0, .slice none 0 0], .int .i64 0]) (by simp [*, results, Tryd.results7, go_sem]) rfl ?_
    refine ⟨_, by rw [HP.out.1, HP.out.2.1]; rfl, ?_, by first | exact (HB1.out.setCell (by simp) _).setCell (by simp) _ | exact HB1.out⟩
    rw [HP.out.2.2]
    exact World.ownsRow_nil _ _ _ _
  · obtain ⟨g1, g2, g3, g4, g5⟩ := poolB_true.1 hp
    obtain ⟨zn, rfl⟩ := Int.eq_ofNat_of_zero_le g1
    have HPB : Hid (poolB zn xs = true ∧ xs.Nodup ∧ xs.length ≤ zn ∧ zn ≤ 12) := ⟨hp, g5, by omega, by omega⟩
    clear hp g4 g5
    go_wp2_with fail
    go_loopw [6] (fun i wr => ∃ k : Nat, k ≤ n ∧ i = .int .i64 k ∧ Below w1.heap.size w1 wr ∧ ∀ x ∈ ls.take k, pageB x.1 x.2 = true) (fun i _ => n - (intOf i).toNat)
    case atStart => exact ⟨0, by omega, rfl, Below.refl _ _, by simp⟩
    case round =>
      obtain ⟨k, hk, rfl, hbel, hq1⟩ := hrel
      have HQ : Hid (∀ x ∈ ls.take k, pageB x.1 x.2 = true) := hq1
      clear hq1
      have hsz := hbel.size
      have r0 : wr.cell? ⟨w.heap.size, 0, none⟩ = some (.int .i64 zn) := (Below.celz hbel _ _ _ (by omega)).trans q0
      have r1 : wr.cell? ⟨w.heap.size, 1, none⟩ = some (.slice a xs.length cap) := (Below.celz hbel _ _ _ (by omega)).trans q1
      have hur2 : wr.heap[w.heap.size + 1]? = some (.cells #[.int .i64 0, .slice none 0 0] 25 (0, 0)) := by rw [hbel.block _ (by omega)]; exact hur1
      by_cases hlt : k < n
      · rcases HRC.out.2 with ⟨hz0, _⟩ | ⟨_, b, off, cap', hv, hb, hc⟩
        · have := HN.out; rw [hz0] at this; simp at this; omega
        simp only [Value.slice.injEq] at hv
        obtain ⟨rfl, -, hcc⟩ := hv
        subst hcc
        obtain ⟨⟨m0, m1⟩, hx⟩ : ∃ x, ls[k]? = some x := ⟨_, List.getElem?_eq_getElem (by rw [← HN.out]; exact hlt)⟩
        have e0 : wr.cell? ⟨b, off + k * 2, none⟩ = some (.int .i64 m0) := by rw [Below.celz hbel _ _ _ (by omega), Below.celz HB1.out _ _ _ hb]; exact hc k _ hx 0 _ rfl
        have e1 : wr.cell? ⟨b, off + k * 2 + 1, none⟩ = some (.int .i64 m1) := by rw [Below.celz hbel _ _ _ (by omega), Below.celz HB1.out _ _ _ hb]; exact hc k _ hx 1 _ rfl
        have z1 : b < wr.heap.size := by omega
        have k0 : (0 : Int) ≤ (k : Int) := by omega
        have k1 : (k : Int) < (n : Int) := by omega
        have HX : Hid (ls[k]? = some (m0, m1)) := hx
        have HB : Hid (Below w1.heap.size w1 wr) := hbel
        clear hx hbel hc
        cases hpg : pageB m0 m1
        · have HP : Hid (paZ zn xs ls = 0 ∧ paN zn xs ls = 0 ∧ paL zn xs ls = []) := by
            have hall : ls.all (fun x => pageB x.1 x.2) = false := by
              rw [List.all_eq_false]
              exact ⟨_, List.mem_of_getElem? HX.out, by simp [hpg]⟩
            simp [paZ, paN, paL, paOk, hall, Hid]
          have HUR : Hid (wr.heap[w.heap.size + 1]? = some (.cells #[.int .i64 0, .slice none 0 0] 25 (0, 0))) := hur2
          clear r0 r1 q0 q1 hur1 hur2
          go_wp2_with fail
          refine (spec_PageOk m0 m1 _).mono ?_
          rw [hpg]
          rintro e wq ⟨rfl, belq⟩
          have hurq : wq.heap[w.heap.size + 1]? = some (.cells #[.int .i64 0, .slice none 0 0] 25 (0, 0)) := by rw [belq.block _ (by omega)]; exact HUR.out
          have HBQ : Hid (Below w.heap.size w wq) := (HB1.out.trans (HB.out.mono (by omega))).trans (belq.mono (by omega))
          have u0 : wq.cell? ⟨w.heap.size + 1, 0, none⟩ = some (.int .i64 0) := by rw [cell_block hurq]; rfl
          have u1 : wq.cell? ⟨w.heap.size + 1, 1, none⟩ = some (.slice none 0 0) := by rw [cell_block hurq]; rfl
          have fu : ∀ i, wq.frozen? ⟨w.heap.size + 1, i, none⟩ = false := fun i => free_block hurq
          clear belq hurq
          go_wp2_with fail
          try simp only [Exit.inBlock, Exit.then]
          refine bodyPost_ret (v := .tuple #[.agg #[.int .i64 0, .slice none 0 0], .int .i64 0]) (by simp [*, results, Tryd.results7, go_sem]) rfl ?_
          refine ⟨_, by rw [HP.out.1, HP.out.2.1]; rfl, ?_, by first | exact (HBQ.out.setCell (by simp) _).setCell (by simp) _ | exact HBQ.out⟩
          rw [HP.out.2.2]
          exact World.ownsRow_nil _ _ _ _
        · clear r0 r1 hur2
          go_wp2_with fail
          refine (spec_PageOk m0 m1 _).mono ?_
          rw [hpg]
          rintro e wq ⟨rfl, belq⟩
          have HBQ : Hid (Below w1.heap.size w1 wq) := HB.out.trans (belq.mono (by omega))
          clear belq
          go_wp2_with fail
          go_roundw
          case rel =>
            refine ⟨k + 1, by omega, by go_num, HBQ.out, fun x hx => ?_⟩
            rw [List.take_add_one, HX.out] at hx
            rcases List.mem_append.1 hx with h | h
            · exact HQ.out x h
            · simp at h; subst h; exact hpg
          case measure => simp [intOf]; omega
      · have hkn : n = k := by omega
        subst hkn
        have hall : ls.all (fun x => pageB x.1 x.2) = true := by
          rw [List.all_eq_true]
          have h := HQ.out
          rw [HN.out, List.take_length] at h
          exact h
        have HP : Hid (paZ zn xs ls = zn ∧ paN zn xs ls = (allU zn xs ls).2 ∧ paL zn xs ls = (allU zn xs ls).1) := by
          have hp := HPB.out.1
          simp [paZ, paN, paL, paOk, hall, hp, Hid]
        have HB : Hid (Below w.heap.size w wr) := HB1.out.trans (hbel.mono (by omega))
        have HUR : Hid (wr.heap[w.heap.size + 1]? = some (.cells #[.int .i64 0, .slice none 0 0] 25 (0, 0))) := hur2
        clear hbel hall hur1 hur2
        go_wp2_with fail
        refine (l5All zn _ _ xs ls _ ((HRC.out.1.keep HB.out).1) (HRC.out.2.keep HB.out) HPB.out.2.1 HPB.out.2.2.1 (by rw [← HN.out]; exact hl2) (by have := HPB.out.2.2.2; omega)).mono ?_
        rintro e w3 ⟨u, rfl, ou, bel3⟩
        obtain ⟨ua, uc, hu⟩ := ou.form
        have hur3 : w3.heap[w.heap.size + 1]? = some (.cells #[.int .i64 0, .slice none 0 0] 25 (0, 0)) := by rw [bel3.block _ (by omega)]; exact HUR.out
        have u0 : w3.cell? ⟨w.heap.size + 1, 0, none⟩ = some (.int .i64 0) := by rw [cell_block hur3]; rfl
        have u1 : w3.cell? ⟨w.heap.size + 1, 1, none⟩ = some (.slice none 0 0) := by rw [cell_block hur3]; rfl
        have fu : ∀ i, w3.frozen? ⟨w.heap.size + 1, i, none⟩ = false := fun i => free_block hur3
        have HO : Hid (OwnPool w3 wr.heap.size u (allU zn xs ls).1 ∧ Below w.heap.size w w3) := ⟨ou, HB.out.trans (bel3.mono (by omega))⟩
        clear bel3 ou hur3 r0 r1
        obtain ⟨st, hst⟩ : ∃ st, st = allU zn xs ls := ⟨_, rfl⟩
        have HST : Hid (st = allU zn xs ls) := hst
        rw [← hst] at hu HO HP
        rw [← hst]
        clear hst
        obtain ⟨L, M⟩ := st
        dsimp only at hu HO HP ⊢
        obtain ⟨K, hK⟩ : ∃ K, K = L.length := ⟨_, rfl⟩
        rw [← hK] at hu
        subst hu
        clear hK
        go_wp2_with fail
        refine bodyPost_ret (v := .tuple #[.agg #[.int .i64 zn, .slice ua K uc], .int .i64 M]) (by simp [*, results, Tryd.results7, go_sem]) rfl ?_
        obtain ⟨o1, o2⟩ := HO.out
        refine ⟨_, by rw [HP.out.1, HP.out.2.1], ?_, (o2.setCell (by simp) _).setCell (by simp) _⟩
        rw [HP.out.2.2]
        have hob : ∀ g, (Value.slice ua K uc).ownBlock = some g → g ≠ w.heap.size + 1 := fun g hg => by have := (World.ownsRow.lt o1 g hg).1; omega
        exact own_mono (own_set (own_set o1 (fun h => hob _ h rfl) _) (fun h => hob _ h rfl) _) (by omega)
end Go.Proofs.YtfcggdkahmcnfaaDoor.Lab

/-
  impl.PoolAll.
-/
import Derived.Test.YtfcggdkahmcnfaaDoorHal
namespace Go.Proofs.YtfcggdkahmcnfaaDoor.Lab
open Go.RowKit Go.ChangeMaps
set_option linter.unusedVariables false
attribute [local go_sem ↓] Go.wp_at_zero Go.wp_at_succ
set_option maxHeartbeats 2000000 in
theorem impl_PoolAll (z : Int) (v v2 : Value) (xs ls : List (Int × Int)) (w : World) (h : RowAt 2 encPage w v xs) (h2 : RowAt 2 encPage w v2 ls) (hl : xs.length ≤ 1048576) (hl2 : ls.length ≤ 1048576) (hf : FormAt w) :
    Calls Tryd.prog 6 #[.agg #[.int .i64 z, v], v2] w fun e w' => ∃ u, e = .returned (.tuple #[.agg #[.int .i64 (paZ z xs ls), u], .int .i64 (paN z xs ls)]) ∧ OwnPool w' w.heap.size u (paL z xs ls) ∧ Below w.heap.size w w' := by
  obtain ⟨a, cap, rfl⟩ := h.len
  obtain ⟨a2, cap2, rfl⟩ := h2.len
  obtain ⟨W0, hW0⟩ : ∃ W0, W0 = ((w.alloc (.cells #[.int .i64 z, .slice a xs.length cap] 25)).alloc (.cells #[.int .i64 0, .slice none 0 0] 25)) := ⟨_, rfl⟩
  have b0 : Below w.heap.size w W0 := by rw [hW0]; go_grown
  have s0 : W0.heap.size = w.heap.size + 2 := by rw [hW0]; simp
  have hur : W0.heap[w.heap.size + 1]? = some (.cells #[.int .i64 0, .slice none 0 0] 25 (0, 0)) := by rw [hW0]; exact new_ati (by simp)
  obtain ⟨n2, hn2⟩ : ∃ n2, n2 = ls.length := ⟨_, rfl⟩
  have HRC : Hid (RowAt 2 encPage w (.slice a xs.length cap) xs ∧ FormAt w ∧ RowAt 2 encPage w (.slice a2 n2 cap2) ls ∧ n2 = ls.length) := ⟨h, hf, by rw [hn2]; exact h2, hn2⟩
  rw [← hn2] at hl2
  rw [← hn2]
  clear h hf h2 hn2
  go_enter Tryd.func6, Tryd.ntmps6
  go_wp2_with fail
  simp only [← hW0]
  clear hW0
  refine (handOf z _ xs _ (HRC.out.1.keep b0) hl (HRC.out.2.1.keep b0)).mono ?_
  rintro e w1 (⟨hp, S, zn, rfl, rfl, sh, bel1⟩ | ⟨hp, t, u, rfl, bel1⟩)
  rotate_left
  · have s1 := bel1.size
    have hur1 : w1.heap[w.heap.size + 1]? = some (.cells #[.int .i64 0, .slice none 0 0] 25 (0, 0)) := by rw [bel1.block _ (by omega)]; exact hur
    have HP : Hid (paZ z xs ls = 0 ∧ paN z xs ls = 0 ∧ paL z xs ls = []) := by simp [paZ, paN, paL, paOk, hp, Hid]
    have u0 : w1.cell? ⟨w.heap.size + 1, 0, none⟩ = some (.int .i64 0) := by rw [cell_block hur1]; rfl
    have u1 : w1.cell? ⟨w.heap.size + 1, 1, none⟩ = some (.slice none 0 0) := by rw [cell_block hur1]; rfl
    have fu : ∀ i, w1.frozen? ⟨w.heap.size + 1, i, none⟩ = false := fun i => free_block hur1
    have HB : Hid (Below w.heap.size w w1) := b0.trans (bel1.mono (by omega))
    clear hur1 hp bel1 b0 hur
    go_wp2_with fail
    refine bodyPost_ret (v := .tuple #[.agg #[.int .i64 0, .slice none 0 0], .int .i64 0]) (by simp [*, results, Tryd.results6, go_sem]) rfl ?_
    refine ⟨_, by rw [HP.out.1, HP.out.2.1]; rfl, ?_, by first | exact (HB.out.setCell (by simp) _).setCell (by simp) _ | exact HB.out⟩
    rw [HP.out.2.2]
    exact World.ownsRow_nil _ _ _ _
  have s1 := bel1.size
  have hur1 : w1.heap[w.heap.size + 1]? = some (.cells #[.int .i64 0, .slice none 0 0] 25 (0, 0)) := by rw [bel1.block _ (by omega)]; exact hur
  have HB1 : Hid (Below w.heap.size w w1 ∧ ShelfAt w1 (w.heap.size + 2) S zn 0 xs) := ⟨b0.trans (bel1.mono (by omega)), by rw [s0] at sh; exact sh⟩
  have hs1 : w.heap.size + 2 ≤ w1.heap.size := by omega
  have hSb : w.heap.size + 2 ≤ S := HB1.out.2.cell.2.2
  obtain ⟨g1, g2, g3, g4, g5⟩ := poolB_true.1 hp
  clear g4 g5
  have hus : zn ≤ 1000 ∧ xs.length ≤ zn := ⟨by omega, by omega⟩
  have HRR : Hid (∀ W, Below (w.heap.size + 2) w1 W → RowAt 2 encPage W (.slice a2 n2 cap2) ls) := fun W h => HRC.out.2.2.1.keep (HB1.out.1.trans (h.mono (by omega)))
  have HFF : Hid (∃ t u, ∀ W, Below (w.heap.size + 2) w1 W → W.cell? ⟨0, 0, none⟩ = some (.iface t u)) := by
    obtain ⟨t, u, hg⟩ := HRC.out.2.1
    exact ⟨t, u, fun W h => (Below.celz (HB1.out.1.trans (h.mono (by omega))) _ _ _ (FormAt.lt ⟨t, u, hg⟩)).trans hg⟩
  have HN2 : Hid (n2 = ls.length) := HRC.out.2.2.2
  clear bel1 b0 hur s1 s0 sh HRC
  go_wp2_with fail
  refine (useAll_walk (w.heap.size + 2) S zn xs ls a2 n2 cap2 _ HB1.out.2 hus.1 hus.2 HRR.out HN2.out hl2 hs1 HFF.out).mono ?_
  rintro e w2 (⟨hall, rfl, sh2, bel2⟩ | ⟨hall, t, u, rfl, bel2⟩)
  rotate_left
  · have s2 := bel2.size
    have hur2 : w2.heap[w.heap.size + 1]? = some (.cells #[.int .i64 0, .slice none 0 0] 25 (0, 0)) := by rw [bel2.block _ (by omega)]; exact hur1
    have HP : Hid (paZ zn xs ls = 0 ∧ paN zn xs ls = 0 ∧ paL zn xs ls = []) := by simp [paZ, paN, paL, paOk, hall, Hid]
    have u0 : w2.cell? ⟨w.heap.size + 1, 0, none⟩ = some (.int .i64 0) := by rw [cell_block hur2]; rfl
    have u1 : w2.cell? ⟨w.heap.size + 1, 1, none⟩ = some (.slice none 0 0) := by rw [cell_block hur2]; rfl
    have fu : ∀ i, w2.frozen? ⟨w.heap.size + 1, i, none⟩ = false := fun i => free_block hur2
    have HB : Hid (Below w.heap.size w w2) := HB1.out.1.trans (bel2.mono (by omega))
    clear hur2 hp bel2 hur1 hall
    go_wp2_with fail
    refine bodyPost_ret (v := .tuple #[.agg #[.int .i64 0, .slice none 0 0], .int .i64 0]) (by simp [*, results, Tryd.results6, go_sem]) rfl ?_
    refine ⟨_, by rw [HP.out.1, HP.out.2.1]; rfl, ?_, by first | exact (HB.out.setCell (by simp) _).setCell (by simp) _ | exact HB.out⟩
    rw [HP.out.2.2]
    exact World.ownsRow_nil _ _ _ _
  have HP : Hid (paZ zn xs ls = zn ∧ paN zn xs ls = (allU zn xs ls).2 ∧ paL zn xs ls = (allU zn xs ls).1) := by simp [paZ, paN, paL, paOk, hall, hp, Hid]
  have hlen := allU_len hus.2 ls
  have s2 := bel2.size
  have HB2 : Hid (Below w.heap.size w w2) := HB1.out.1.trans (bel2.mono (by omega))
  have hur2 : Hid (w2.heap[w.heap.size + 1]? = some (.cells #[.int .i64 0, .slice none 0 0] 25 (0, 0))) := by show w2.heap[w.heap.size + 1]? = _; rw [bel2.block _ (by omega)]; exact hur1
  obtain ⟨st, hst⟩ : ∃ st, st = allU zn xs ls := ⟨_, rfl⟩
  have HP2 : Hid (paZ zn xs ls = zn ∧ paN zn xs ls = st.2 ∧ paL zn xs ls = st.1) := by rw [hst]; exact HP
  rw [← hst] at sh2 hlen
  obtain ⟨ws, mi⟩ := st
  dsimp only at sh2 hlen
  have c2 := sh2.cell.1
  have HSH : Hid (ShelfAt w2 (w.heap.size + 2) S zn mi ws) := sh2
  have hS2 : S < w2.heap.size := sh2.lt
  have hs2 : w.heap.size + 2 ≤ w2.heap.size := by omega
  clear sh2 bel2 hst HP hall hp HB1 hur1 HRR HFF s2
  go_wp2_with fail
  go_region_held3 (fun w' => w'.cell? ⟨S, 3, none⟩ = some (.int .i64 mi))
    (first | exact c2 | exact (Below.celz bel3 _ _ _ hS2).trans c2 | exact ((HSH.out.keep bel3).of (fun k hk _ => heap_sets (by show k ≠ w.heap.size + 1; omega) (by show k ≠ w.heap.size + 1; omega))).cell.1 | assumption)
    (first | (go_at_call 19; refine (pool_of (w.heap.size + 2) S zn mi ws w2.drew (HSH.out.of (fun _ _ _ => rfl)) (by omega)).mono ?_; rintro e w3 ⟨u, rfl, ou, bel3'⟩; have bel3 : Below w2.heap.size w2 w3 := ((Below.refl _ w2).drew).trans bel3'; clear bel3'; obtain ⟨ua, uc, rfl⟩ := ou.form; have hur3 : w3.heap[w.heap.size + 1]? = some (.cells #[.int .i64 0, .slice none 0 0] 25 (0, 0)) := (by rw [bel3.block _ (by omega)]; exact hur2.out); have u0 : w3.cell? ⟨w.heap.size + 1, 0, none⟩ = some (.int .i64 0) := (by rw [cell_block hur3]; rfl); have u1 : w3.cell? ⟨w.heap.size + 1, 1, none⟩ = some (.slice none 0 0) := (by rw [cell_block hur3]; rfl); have fu : ∀ i, w3.frozen? ⟨w.heap.size + 1, i, none⟩ = false := (fun i => free_block hur3)))
  rename_i hHeld
  have ou2 : OwnPool w3 w2.heap.size (.slice ua ws.length uc) ws := ou
  have HO : Hid (OwnPool w3 w2.heap.size (.slice ua ws.length uc) ws ∧ Below w.heap.size w w3) := ⟨ou2, HB2.out.trans (bel3.mono (by omega))⟩
  clear hHeld c2 ou ou2 bel3 hur3
  go_wp2_with fail
  refine bodyPost_ret (v := .tuple #[.agg #[.int .i64 (zn : Int), .slice ua ws.length uc], .int .i64 (mi : Int)]) (by simp [*, results, Tryd.results6, go_sem]) rfl ?_
  obtain ⟨o1, o2⟩ := HO.out
  refine ⟨_, by rw [HP2.out.1, HP2.out.2.1], ?_, (o2.setCell (by simp) _).setCell (by simp) _⟩
  rw [HP2.out.2.2]
  have hob : ∀ g, (Value.slice ua ws.length uc).ownBlock = some g → g ≠ w.heap.size + 1 := fun g hg => by have := (World.ownsRow.lt o1 g hg).1; omega
  exact own_mono (own_set (own_set o1 (fun h => hob _ h rfl) _) (fun h => hob _ h rfl) _) (by omega)
end Go.Proofs.YtfcggdkahmcnfaaDoor.Lab

/-
  What is drawn of pools: DrawPoolAll, DrawPoolUse, DrawPoolOk.
-/
import Derived.Test.YtfcggdkahmcnfaaDoorDpo
namespace Go.Proofs.YtfcggdkahmcnfaaDoor.Lab
open Go.RowKit
set_option linter.unusedVariables false
set_option maxHeartbeats 2000000 in
theorem drawPoolAll (a : Option Addr) (len cap : Nat) (zs : List Int) (w : World) (h : CodeAt w a len cap zs) :
    Calls Tryd.prog 5 #[.slice a len cap] w fun e w' => ∃ (z : Int) (u v : Value) (xs ls : List (Int × Int)), e = .returned (.tuple #[.agg #[.int .i64 z, u], v]) ∧ OwnPool w' w.heap.size u xs ∧ OwnPool w' w.heap.size v ls ∧ xs.length ≤ 48 ∧ ls.length ≤ 24 ∧ (-1 ≤ z ∧ z ≤ 13) ∧ Below w.heap.size w w' := by
  have h0 : CodeAt (w.alloc (.cells #[.int .i64 0, .slice none 0 0] 25)) a len cap zs := h.below ((Below.refl _ _).alloc (Nat.le_refl _) _)
  clear h
  go_enter Tryd.func5, Tryd.ntmps5
  go_wp2_with fail
  refine (l9Open a len cap zs _ h0).mono ?_
  rintro e w1 ⟨rfl, ⟨m, hr1⟩, hb1⟩
  clear h0
  simp only [World.size_alloc] at hr1 hb1
  have hur1 : w1.heap[w.heap.size]? = some (.cells #[.int .i64 0, .slice none 0 0] 25 (0, 0)) := by rw [hb1.block _ (by omega)]; exact new_block _ _
  have g1 : Below w.heap.size w w1 := Below.trans ((Below.refl _ _).alloc (Nat.le_refl _) _) (hb1.mono (by omega))
  have hV := hr1.lt
  go_wp2_with fail
  refine (l5Pool _ _ _ _ _ _ _ hr1 (by omega)).mono ?_
  rintro e w2 ⟨z, u, xs, q, rfl, ho2, hl2, hz, hq, hr2, hg2⟩
  obtain ⟨ua, uc, rfl⟩ := ho2.form
  have hs2 := hg2.size
  have HR2 : Hid (RdAt w2 (w.heap.size + 1) a m cap zs q ∧ OwnPool w2 w1.heap.size (.slice ua xs.length uc) xs ∧ Below w.heap.size w w2) := ⟨hr2, ho2, g1.trans (below_of_grown hg2 (by omega) |>.mono (by omega))⟩
  have hur2 : w2.heap[w.heap.size]? = some (.cells #[.int .i64 0, .slice none 0 0] 25 (0, 0)) := by rw [hg2.block _ (by omega) (by simp)]; exact hur1
  clear hr2 ho2 hg2 hur1 hr1 hb1 g1
  obtain ⟨n, hn⟩ : ∃ n, n = xs.length := ⟨_, rfl⟩
  have HN : Hid (n = xs.length) := hn
  rw [← hn] at HR2 ⊢
  clear hn
  go_wp2_with fail
  generalize hW2 : w2.alloc (.cells #[.int .i64 z, .slice ua n uc] 25) = W2
  have S2 : W2.heap.size = w2.heap.size + 1 := by rw [← hW2]; simp
  have hp2 : W2.heap[w2.heap.size]? = some (.cells #[.int .i64 z, .slice ua n uc] 25 (0, 0)) := by rw [← hW2]; exact new_block _ _
  have hur3 : W2.heap[w.heap.size]? = some (.cells #[.int .i64 0, .slice none 0 0] 25 (0, 0)) := by rw [← hW2, heap_alloc_old _ _ (by omega)]; exact hur2
  have HR3 : Hid (RdAt W2 (w.heap.size + 1) a m cap zs q ∧ OwnPool W2 w1.heap.size (.slice ua n uc) xs ∧ Below w.heap.size w W2) := by
    rw [← hW2]
    have ho := HR2.out.2.1
    exact ⟨HR2.out.1.alloc _, ho.keep ((Below.refl _ _).alloc (Nat.le_refl _) _), HR2.out.2.2.alloc (by omega) _⟩
  have HAP : Hid (∀ k, (Value.slice ua n uc).ownBlock = some k → w1.heap.size ≤ k) := fun k hk => (HR3.out.2.1.lt k hk).1
  obtain ⟨P, hP⟩ : ∃ P, P = w2.heap.size := ⟨_, rfl⟩
  rw [← hP] at hp2 S2
  rw [← hP]
  have hVP : w.heap.size + 1 < P := by omega
  have c0 : W2.cell? ⟨P, 0, none⟩ = some (.int .i64 z) := by rw [cell_block hp2]; rfl
  have c1 : W2.cell? ⟨P, 1, none⟩ = some (.slice ua n uc) := by rw [cell_block hp2]; rfl
  have c2 : W2.cell? ⟨w.heap.size, 0, none⟩ = some (.int .i64 0) := by rw [cell_block hur3]; rfl
  have c3 : W2.cell? ⟨w.heap.size, 1, none⟩ = some (.slice none 0 0) := by rw [cell_block hur3]; rfl
  have cf : ∀ i, W2.frozen? ⟨w.heap.size, i, none⟩ = false := fun i => free_block hur3
  clear hP hW2 HR2 hur2 hp2 hur3
  go_region_with (first
    | (go_at_call 16; refine (l5Pages (w.heap.size + 1) m cap a zs q W2.drew HR3.out.1 (by omega)).mono ?_; rintro e w3 ⟨v3, ls, q3, rfl, o3, n3, hq3, hr3, hg3'⟩; have hg3 := gr_drew hg3'; obtain ⟨va, vc, rfl⟩ := o3.form; have d0 : w3.cell? ⟨P, 0, none⟩ = some (.int .i64 z) := (by rw [World.cell?_of_block (hg3.block P (by omega) (by simp; omega))]; exact c0); have d1 : w3.cell? ⟨P, 1, none⟩ = some (.slice ua n uc) := (by rw [World.cell?_of_block (hg3.block P (by omega) (by simp; omega))]; exact c1); have d2 : w3.cell? ⟨w.heap.size, 0, none⟩ = some (.int .i64 0) := (by rw [World.cell?_of_block (hg3.block w.heap.size (by omega) (by simp))]; exact c2); have d3 : w3.cell? ⟨w.heap.size, 1, none⟩ = some (.slice none 0 0) := (by rw [World.cell?_of_block (hg3.block w.heap.size (by omega) (by simp))]; exact c3); have df : ∀ i, w3.frozen? ⟨w.heap.size, i, none⟩ = false := (fun i => by rw [World.frozen?_of_block (hg3.block w.heap.size (by omega) (by simp))]; exact cf i)))
  all_goals (
    obtain ⟨k, hk⟩ : ∃ k, k = ls.length := ⟨_, rfl⟩
    have HF : Hid (OwnPool w3 w1.heap.size (.slice ua n uc) xs ∧ OwnPool w3 W2.heap.size (.slice va ls.length vc) ls ∧ Below w.heap.size w w3 ∧ w.heap.size < w1.heap.size ∧ Hid (ls.length ≤ 24)) := ⟨own_grD HR3.out.2.1 hg3 (fun k h e => by have := HAP.out k h; cases e; omega), o3, HR3.out.2.2.trans (below_of_grown hg3 (by omega) |>.mono (by omega)), by omega, n3⟩
    have HN5 : Hid (ls.length ≤ 24) := n3
    rw [← hk] at HF ⊢
    clear o3 hr3 hg3 hg3' c0 c1 c2 c3 cf HR3 hk n3
    go_wp2_with fail
    refine bodyPost_ret (v := .tuple #[.agg #[.int .i64 z, .slice ua n uc], .slice va k vc]) (by simp [*, results, Tryd.results5, go_sem]) rfl ?_
    obtain ⟨r1, r2, r3, r4, r5⟩ := HF.out
    have a1 : ∀ p : Addr, p.block = w.heap.size → (Value.slice ua n uc).ownBlock ≠ some p.block := fun p hp e => by have := (r1.lt _ e).1; omega
    have a2 : ∀ p : Addr, p.block = w.heap.size → (Value.slice va k vc).ownBlock ≠ some p.block := fun p hp e => by have := (r2.lt _ e).1; omega
    exact ⟨z, _, _, xs, ls, rfl, own_mono (own_set (own_set r1 (a1 _ rfl) _) (a1 _ rfl) _) (by omega), own_mono (own_set (own_set r2 (a2 _ rfl) _) (a2 _ rfl) _) (by omega), hl2, HN5.out, hz, (r3.setCell (by simp) _).setCell (by simp) _⟩)
set_option maxHeartbeats 1000000 in
theorem drawPoolOk (a : Option Addr) (len cap : Nat) (zs : List Int) (w : World) (h : CodeAt w a len cap zs) :
    Calls Tryd.prog 12 #[.slice a len cap] w fun e w' => ∃ (z : Int) (u : Value) (xs : List (Int × Int)), e = .returned (.agg #[.int .i64 z, u]) ∧ OwnPool w' w.heap.size u xs ∧ xs.length ≤ 48 ∧ (-1 ≤ z ∧ z ≤ 13) ∧ Below w.heap.size w w' := by
  have h0 : CodeAt (w.alloc (.cells #[.int .i64 0, .slice none 0 0] 25)) a len cap zs := h.below (by go_grown)
  clear h
  go_enter Tryd.func12, Tryd.ntmps12
  go_wp2_with fail
  refine (l9Open a len cap zs _ h0).mono ?_
  rintro e w1 ⟨rfl, ⟨m, hr1⟩, hb1⟩
  clear h0
  simp only [World.size_alloc] at hr1 hb1
  have hur1 : w1.heap[w.heap.size]? = some (.cells #[.int .i64 0, .slice none 0 0] 25 (0, 0)) := by rw [hb1.block _ (by omega)]; exact new_block _ _
  have g1 : Below w.heap.size w w1 := Below.trans (by go_grown) (hb1.mono (by omega))
  have hV := hr1.lt
  go_wp2_with fail
  refine (l5Pool _ _ _ _ _ _ _ hr1 (by omega)).mono ?_
  rintro e w2 ⟨z, u, xs, q, rfl, ho2, hl2, hz, hq, hr2, hg2⟩
  obtain ⟨ua, uc, rfl⟩ := ho2.form
  have hs2 := hg2.size
  have HR2 : Hid (OwnPool w2 w1.heap.size (.slice ua xs.length uc) xs ∧ Below w.heap.size w w2) := ⟨ho2, g1.trans (below_of_grown hg2 (by omega) |>.mono (by omega))⟩
  have hur2 : w2.heap[w.heap.size]? = some (.cells #[.int .i64 0, .slice none 0 0] 25 (0, 0)) := by rw [hg2.block _ (by omega) (by simp)]; exact hur1
  have c0 : w2.cell? ⟨w.heap.size, 0, none⟩ = some (.int .i64 0) := by rw [cell_block hur2]; rfl
  have c1 : w2.cell? ⟨w.heap.size, 1, none⟩ = some (.slice none 0 0) := by rw [cell_block hur2]; rfl
  have cf : ∀ i, w2.frozen? ⟨w.heap.size, i, none⟩ = false := fun i => free_block hur2
  clear hr2 ho2 hg2 hur1 hur2 hr1 hb1 g1
  obtain ⟨n, hn⟩ : ∃ n, n = xs.length := ⟨_, rfl⟩
  rw [← hn] at HR2 ⊢
  clear hn
  go_wp2_with fail
  refine bodyPost_ret (v := .agg #[.int .i64 z, .slice ua n uc]) (by simp [*, results, Tryd.results12, go_sem]) rfl ?_
  obtain ⟨r1, r3⟩ := HR2.out
  have a1 : ∀ p : Addr, p.block = w.heap.size → (Value.slice ua n uc).ownBlock ≠ some p.block := fun p hp e => by have := (r1.lt _ e).1; omega
  exact ⟨z, _, xs, rfl, own_mono (own_set (own_set r1 (a1 _ rfl) _) (a1 _ rfl) _) (by omega), hl2, hz, (r3.setCell (by simp) _).setCell (by simp) _⟩
end Go.Proofs.YtfcggdkahmcnfaaDoor.Lab

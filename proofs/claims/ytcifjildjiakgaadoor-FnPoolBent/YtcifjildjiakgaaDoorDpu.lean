/-
  What is drawn of pools: DrawPoolAll, DrawPoolUse, DrawPoolOk.
-/
import Derived.Test.YtcifjildjiakgaaDoorDpo
namespace Go.Proofs.YtcifjildjiakgaaDoor.Lab
open Go.RowKit
set_option linter.unusedVariables false
set_option maxHeartbeats 1000000 in
theorem drawPoolOk (a : Option Addr) (len cap : Nat) (zs : List Int) (w : World) (h : CodeAt w a len cap zs) :
    Calls Tryd.prog 5 #[.slice a len cap] w fun e w' => ∃ (z : Int) (u : Value) (xs : List (Int × Int)), e = .returned (.agg #[.int .i64 z, u]) ∧ OwnPool w' w.heap.size u xs ∧ xs.length ≤ 48 ∧ (-1 ≤ z ∧ z ≤ 13) ∧ Below w.heap.size w w' := by
  have h0 : CodeAt (w.alloc (.cells #[.int .i64 0, .slice none 0 0] 25)) a len cap zs := h.below (by go_grown)
  clear h
  go_enter Tryd.func5, Tryd.ntmps5
  go_wp2_with fail
  refine (l9Open a len cap zs _ h0).mono ?_
  rintro e w1 ⟨rfl, ⟨m, hr1⟩, hb1⟩
  clear h0
  simp only [World.size_alloc] at hr1 hb1
  have hur1 : w1.heap[w.heap.size]? = some (.cells #[.int .i64 0, .slice none 0 0] 25 (0, 0)) := by rw [hb1.block _ (by omega)]; exact new_block _ _
  have g1 : Below w.heap.size w w1 := Below.trans (by go_grown) (hb1.mono (by omega))
  have hV := hr1.lt
  go_wp2_with fail
  refine (l5Pool _ _ _ _ _ _ _ hr1 (by omega)).mono ?_
  rintro e w2 ⟨z, u, xs, q, rfl, ho2, hl2, hz, hq, hr2, hg2⟩
  obtain ⟨ua, uc, rfl⟩ := ho2.form
  have hs2 := hg2.size
  have HR2 : Hid (OwnPool w2 w1.heap.size (.slice ua xs.length uc) xs ∧ Below w.heap.size w w2) := ⟨ho2, g1.trans (below_of_grown hg2 (by omega) |>.mono (by omega))⟩
  have hur2 : w2.heap[w.heap.size]? = some (.cells #[.int .i64 0, .slice none 0 0] 25 (0, 0)) := by rw [hg2.block _ (by omega) (by simp)]; exact hur1
  have c0 : w2.cell? ⟨w.heap.size, 0, none⟩ = some (.int .i64 0) := by rw [cell_block hur2]; rfl
  have c1 : w2.cell? ⟨w.heap.size, 1, none⟩ = some (.slice none 0 0) := by rw [cell_block hur2]; rfl
  have cf : ∀ i, w2.frozen? ⟨w.heap.size, i, none⟩ = false := fun i => free_block hur2
  clear hr2 ho2 hg2 hur1 hur2 hr1 hb1 g1
  obtain ⟨n, hn⟩ : ∃ n, n = xs.length := ⟨_, rfl⟩
  rw [← hn] at HR2 ⊢
  clear hn
  go_wp2_with fail
  refine bodyPost_ret (v := .agg #[.int .i64 z, .slice ua n uc]) (by simp [*, results, Tryd.results5, go_sem]) rfl ?_
  obtain ⟨r1, r3⟩ := HR2.out
  have a1 : ∀ p : Addr, p.block = w.heap.size → (Value.slice ua n uc).ownBlock ≠ some p.block := fun p hp e => by have := (r1.lt _ e).1; omega
  exact ⟨z, _, xs, rfl, own_mono (own_set (own_set r1 (a1 _ rfl) _) (a1 _ rfl) _) (by omega), hl2, hz, (r3.setCell (by simp) _).setCell (by simp) _⟩
end Go.Proofs.YtcifjildjiakgaaDoor.Lab

/-
  What is drawn of texts: one of a list of strings.
-/
import Derived.Test.YtlfbgafedbbahaaDoorDraw
namespace Go.Proofs.YtlfbgafedbbahaaDoor.Lab
open Go.RowKit
set_option linter.unusedVariables false

/-- One of a list of texts that lies behind the reader. -/
theorem ofS (B L len cap : Nat) (a : Option Addr) (zs : List Int) (pos : Int) (n : Nat) (w : World) (h : RdAt w B a len cap zs pos) (hp : pos ≤ 1000000000) (h1 : 1 ≤ n) (h2 : n ≤ 1000)
    (hL : B < L) (hL2 : L < w.heap.size) (hc : ∀ j, j < n → ∃ s, w.cell? ⟨L, j, none⟩ = some (.string s)) :
    Calls Tryd.prog 15 #[.pointer (some ⟨B, 0, none⟩), .slice (some ⟨L, 0, none⟩) n n] w fun e w' => ∃ s, e = .returned (.string s) ∧ RdAt w' B a len cap zs (pos + 1) ∧ w.grownBy w' (some B) := by
  have HC : Hid (∀ j, j < n → ∃ s, w.cell? ⟨L, j, none⟩ = some (.string s)) := hc
  clear hc
  go_enter Tryd.func15, Tryd.ntmps15
  go_wp2_with fail
  refine (pick B len cap a zs pos _ _ h hp (by omega) (by omega)).mono ?_
  rintro e w' ⟨x, rfl, hx0, hx1, hr, hg⟩
  obtain ⟨j, rfl⟩ := Int.eq_ofNat_of_zero_le hx0
  have hj : j < n := by omega
  obtain ⟨s, hs⟩ := HC.out j hj
  have hcell : w'.cell? ⟨L, j, none⟩ = some (.string s) := by
    rw [World.cell?_of_block (a := ⟨L, j, none⟩) (hg.block L hL2 (by simp; omega))]; exact hs
  have HR : Hid (RdAt w' B a len cap zs (pos + 1) ∧ w.grownBy w' (some B)) := ⟨hr, hg⟩
  clear hr hg h hs
  go_wp2
  go_ret
  exact ⟨s, rfl, HR.out.1, HR.out.2⟩
set_option maxHeartbeats 1000000 in
theorem drawLabelRead (a : Option Addr) (len cap : Nat) (zs : List Int) (w : World) (h : CodeAt w a len cap zs) :
    Calls Tryd.prog 7 #[.slice a len cap] w fun e w' => ∃ s, e = .returned (.string s) ∧ Below w.heap.size w w' := by
  go_enter Tryd.func7, Tryd.ntmps7
  go_wp2_with fail
  refine (l9Open a len cap zs _ h).mono ?_
  rintro e w1 ⟨rfl, ⟨n, hr⟩, hb⟩
  have hBs := hr.lt
  go_wp2_with fail
  refine (ofS w.heap.size w1.heap.size n cap a zs 0 14 _ (by exact hr.below ((Below.refl _ _).alloc (Nat.le_refl _) _) hBs) (by omega) (by omega) (by omega) hBs (by simp) ?hc).mono ?_
  case hc =>
    intro j hj
    rw [World.cell?_alloc_at _ _ _ _ rfl]
    have : j = 0 ∨ j = 1 ∨ j = 2 ∨ j = 3 ∨ j = 4 ∨ j = 5 ∨ j = 6 ∨ j = 7 ∨ j = 8 ∨ j = 9 ∨ j = 10 ∨ j = 11 ∨ j = 12 ∨ j = 13 := by omega
    rcases this with rfl | rfl | rfl | rfl | rfl | rfl | rfl | rfl | rfl | rfl | rfl | rfl | rfl | rfl <;> exact ⟨_, rfl⟩
  rintro e w2 ⟨s, rfl, hr2, hg⟩
  have HB : Hid (Below w.heap.size w w2) := (hb.alloc hb.size _).trans (below_of_grown hg (by simp; omega))
  clear h hr hb hr2 hg
  go_wp2_with fail
  go_ret
  exact ⟨s, rfl, HB.out⟩
end Go.Proofs.YtlfbgafedbbahaaDoor.Lab

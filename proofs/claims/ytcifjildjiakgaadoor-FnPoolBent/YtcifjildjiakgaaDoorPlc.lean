/-
  Places in memory: newRing, leave, follow.
-/
import Derived.Test.YtcifjildjiakgaaDoorMpp
import Derived.Test.YtcifjildjiakgaaDoorRin
import Derived.Test.YtcifjildjiakgaaDoorNod
import Derived.LaidEql
import Derived.Deep.RegionHeld3
namespace Go.Proofs.YtcifjildjiakgaaDoor.Lab
open Go.RowKit Go.ChangeMaps
set_option linter.unusedVariables false
def ptr (b : Nat) : Value := .pointer (some ⟨b, 0, none⟩)
/-- Block b is a place: its page, who is ahead, who is behind. -/
def PlAt (w : World) (b : Nat) (x : Int × Int) (a h : Nat) : Prop := w.heap[b]? = some (.cells #[.int .i64 x.1, .int .i64 x.2, ptr a, ptr h] 68 (0, 0))
theorem PlAt.c2 {w : World} {b a h : Nat} {x : Int × Int} (hp : PlAt w b x a h) : w.cell? ⟨b, 2, none⟩ = some (.pointer (some ⟨a, 0, none⟩)) := by rw [cell_block hp]; rfl
theorem PlAt.c3 {w : World} {b a h : Nat} {x : Int × Int} (hp : PlAt w b x a h) : w.cell? ⟨b, 3, none⟩ = some (.pointer (some ⟨h, 0, none⟩)) := by rw [cell_block hp]; rfl
theorem PlAt.c0 {w : World} {b a h : Nat} {x : Int × Int} (hp : PlAt w b x a h) : w.cell? ⟨b, 0, none⟩ = some (.int .i64 x.1) := by rw [cell_block hp]; rfl
theorem PlAt.c1 {w : World} {b a h : Nat} {x : Int × Int} (hp : PlAt w b x a h) : w.cell? ⟨b, 1, none⟩ = some (.int .i64 x.2) := by rw [cell_block hp]; rfl
theorem PlAt.free {w : World} {b a h : Nat} {x : Int × Int} (hp : PlAt w b x a h) (i : Nat) : w.frozen? ⟨b, i, none⟩ = false := free_block hp
theorem PlAt.lt {w : World} {b a h : Nat} {x : Int × Int} (hp : PlAt w b x a h) : b < w.heap.size := lt_of_block hp
theorem PlAt.set2 {w : World} {b a h : Nat} {x : Int × Int} (hp : PlAt w b x a h) (v : Nat) : PlAt (w.setCell ⟨b, 2, none⟩ (ptr v)) b x v h := by
  unfold PlAt; rw [set_block _ hp]; rfl
theorem PlAt.set3 {w : World} {b a h : Nat} {x : Int × Int} (hp : PlAt w b x a h) (v : Nat) : PlAt (w.setCell ⟨b, 3, none⟩ (ptr v)) b x a v := by
  unfold PlAt; rw [set_block _ hp]; rfl
theorem PlAt.other {w : World} {b a h : Nat} {x : Int × Int} (hp : PlAt w b x a h) {p : Addr} (hne : b ≠ p.block) (u : Value) : PlAt (w.setCell p u) b x a h := by
  unfold PlAt; rw [Below.heap_setCell _ _ _ _ hne]; exact hp
theorem set_drew (w : World) (p : Addr) (u : Value) : (w.setCell p u).drew.heap = (w.setCell p u).heap := rfl
theorem set_heap {w v : World} (h : w.heap = v.heap) (p : Addr) (u : Value) : (w.setCell p u).heap = (v.setCell p u).heap := by
  simp [World.setCell, h]
theorem cell_heap {w v : World} (h : w.heap = v.heap) (p : Addr) : w.cell? p = v.cell? p := by simp [World.cell?, h]
theorem froz_heap {w v : World} (h : w.heap = v.heap) (p : Addr) : w.frozen? p = v.frozen? p := by simp [World.frozen?, h]
set_option maxHeartbeats 1000000 in
theorem leave (b a h : Nat) (va vh : Value) (w : World) (c2 : w.cell? ⟨b, 2, none⟩ = some (.pointer (some ⟨a, 0, none⟩))) (c3 : w.cell? ⟨b, 3, none⟩ = some (.pointer (some ⟨h, 0, none⟩)))
    (ca : w.cell? ⟨a, 3, none⟩ = some va) (fa : w.frozen? ⟨a, 3, none⟩ = false) (ch : w.cell? ⟨h, 2, none⟩ = some vh) (fh : w.frozen? ⟨h, 2, none⟩ = false) (hab : ¬ a = b) (hhb : ¬ h = b) :
    Calls Tryd.prog 29 #[.pointer (some ⟨b, 0, none⟩)] w fun e w' => e = .returned (.tuple #[]) ∧ w'.heap = ((w.setCell ⟨a, 3, none⟩ (ptr h)).setCell ⟨h, 2, none⟩ (ptr a)).heap ∧ ∀ B, B ≤ a → B ≤ h → Below B w w' := by
  have hba : ¬ b = a := fun e => hab e.symm
  have hbh : ¬ b = h := fun e => hhb e.symm
  go_enter Tryd.func29, Tryd.ntmps29
  go_wp2_with fail
  go_region_held3 (fun w' => w'.cell? ⟨b, 2, none⟩ = some (.pointer (some ⟨a, 0, none⟩)) ∧ w'.cell? ⟨b, 3, none⟩ = some (.pointer (some ⟨h, 0, none⟩)))
    (first | exact ⟨c2, c3⟩ | assumption | exact ⟨by simp [go_sem, *], by simp [go_sem, *]⟩) (fail)
  rename_i hHeld
  have HB1 : Hid (∀ B, B ≤ a → Below B w (w.setCell ⟨a, 3, none⟩ (ptr h)).drew) := fun B hB => ((Below.refl _ _).setCell (by simpa using hB) _).drew
  have HH1 : Hid ((w.setCell ⟨a, 3, none⟩ (ptr h)).drew.heap = (w.setCell ⟨a, 3, none⟩ (ptr h)).heap) := set_drew _ _ _
  have ch1 : (w.setCell ⟨a, 3, none⟩ (.pointer (some ⟨h, 0, none⟩))).drew.cell? ⟨h, 2, none⟩ = some vh := by simp [go_sem, ch]
  have fh1 : (w.setCell ⟨a, 3, none⟩ (.pointer (some ⟨h, 0, none⟩))).drew.frozen? ⟨h, 2, none⟩ = false := by simp [go_sem, fh]
  obtain ⟨d2, d3⟩ := hHeld
  unfold ptr at HB1 HH1
  generalize (w.setCell ⟨a, 3, none⟩ (.pointer (some ⟨h, 0, none⟩))).drew = w1 at *
  clear c2 c3 ca fa ch fh
  go_wp2_with fail
  go_region_held3 (fun w' => w'.cell? ⟨b, 2, none⟩ = some (.pointer (some ⟨a, 0, none⟩)) ∧ w'.cell? ⟨b, 3, none⟩ = some (.pointer (some ⟨h, 0, none⟩)))
    (first | exact ⟨d2, d3⟩ | assumption | exact ⟨by simp [go_sem, *], by simp [go_sem, *]⟩) (fail)
  rename_i hHeld
  clear hHeld
  go_wp2_with fail
  refine bodyPost_end (v := .tuple #[]) (by simp [results, Tryd.results29, go_sem]) rfl ?_
  refine ⟨rfl, ?_, fun B h1 h2 => ((HB1.out B h1).setCell (by simpa using h2) _).drew⟩
  rw [set_drew]
  exact set_heap HH1.out _ _
set_option maxHeartbeats 1000000 in
theorem follow (b r f : Nat) (v2 v3 vf : Value) (w : World) (c2 : w.cell? ⟨b, 2, none⟩ = some v2) (c3 : w.cell? ⟨b, 3, none⟩ = some v3) (fb : ∀ i, w.frozen? ⟨b, i, none⟩ = false)
    (cr : w.cell? ⟨r, 3, none⟩ = some (.pointer (some ⟨f, 0, none⟩))) (fr : w.frozen? ⟨r, 3, none⟩ = false) (cf : w.cell? ⟨f, 2, none⟩ = some vf) (ff : w.frozen? ⟨f, 2, none⟩ = false) (hbr : ¬ b = r) (hbf : ¬ b = f) :
    Calls Tryd.prog 30 #[.pointer (some ⟨b, 0, none⟩), .pointer (some ⟨r, 0, none⟩)] w fun e w' => e = .returned (.tuple #[]) ∧ w'.heap = ((((w.setCell ⟨b, 2, none⟩ (ptr r)).setCell ⟨b, 3, none⟩ (ptr f)).setCell ⟨r, 3, none⟩ (ptr b)).setCell ⟨f, 2, none⟩ (ptr b)).heap ∧ ∀ B, B ≤ b → B ≤ r → B ≤ f → Below B w w' := by
  have hrb : ¬ r = b := fun e => hbr e.symm
  have hfb : ¬ f = b := fun e => hbf e.symm
  go_enter Tryd.func30, Tryd.ntmps30
  go_wp2_with fail
  refine bodyPost_end (v := .tuple #[]) (by simp [results, Tryd.results30, go_sem]) rfl ?_
  exact ⟨rfl, rfl, fun B h1 h2 h3 => ((((Below.refl _ _).setCell (by simpa using h1) _).setCell (by simpa using h1) _).setCell (by simpa using h2) _).setCell (by simpa using h3) _⟩
set_option maxHeartbeats 1000000 in
theorem newRing (w : World) :
    Calls Tryd.prog 22 #[] w fun e w' => e = .returned (.pointer (some ⟨w.heap.size, 0, none⟩)) ∧ PlAt w' w.heap.size (0, 0) w.heap.size w.heap.size ∧ w'.heap.size = w.heap.size + 1 ∧ Below w.heap.size w w' := by
  go_enter Tryd.func22, Tryd.ntmps22
  go_wp2
  go_ret
  exact ⟨rfl, new_block _ _, by simp, (Below.refl _ _).alloc (Nat.le_refl _) _⟩
end Go.Proofs.YtcifjildjiakgaaDoor.Lab

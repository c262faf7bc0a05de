/-
  Contracts of the laws' own functions on slices of structs, and of functions that hold two such slices against one another. (Written by tools/mkrows.py.)
-/
import Derived.Test.YtchphdhjbjeplaaDoorRow
import Derived.Test.YtchphdhjbjeplaaDoorNod
import Derived.Test.YtchphdhjbjeplaaDoorGrw
namespace Go.Proofs.YtchphdhjbjeplaaDoor.Lab
open Go.RowKit
set_option linter.unusedVariables false
theorem Tryd.infoInts : (Tryd.prog.info? 3).map (fun i => (i.zero, i.size, i.bytes)) = some (some (.int .i64 0), 1, 8) := by kernel_rfl
set_option maxHeartbeats 400000 in
theorem eqNode (l n l2 n2 : Int) (w : World) :
    Calls Tryd.prog 43 #[.agg #[.int .i64 l, .int .i64 n], .agg #[.int .i64 l2, .int .i64 n2]] w fun e w' => e = .returned (.bool (eqB (l, n) (l2, n2))) ∧ Below w.heap.size w w' := by
  rw [dec_two]
  by_cases h1 : l = l2
  · subst h1
    by_cases h2 : n = n2
    · subst h2
      go_enter Tryd.func43, Tryd.ntmps43
      go_wp2
      go_ret
      exact ⟨by simp, by go_grown⟩
    · have h3 : (n != n2) = true := by simpa using h2
      have HH : Hid (¬ n = n2) := h2
      clear h2
      go_enter Tryd.func43, Tryd.ntmps43
      go_wp2
      go_ret
      exact ⟨by simp [HH.out], by go_grown⟩
  · have h3 : (l != l2) = true := by simpa using h1
    have HH : Hid (¬ l = l2) := h1
    clear h1
    go_enter Tryd.func43, Tryd.ntmps43
    go_wp2
    go_ret
    exact ⟨by simp [HH.out], by go_grown⟩
theorem dec_edge (l al an bl bn l2 al2 an2 bl2 bn2 : Int) : eqB (l, al, an, bl, bn) (l2, al2, an2, bl2, bn2) = (decide (l = l2) && (eqB (al, an) (al2, an2) && eqB (bl, bn) (bl2, bn2))) := by
  rw [Bool.eq_iff_iff]; simp [eqB, and_assoc]
set_option maxHeartbeats 1000000 in
theorem eqEdge (l al an bl bn l2 al2 an2 bl2 bn2 : Int) (w : World) :
    Calls Tryd.prog 44 #[.agg #[.int .i64 l, .int .i64 al, .int .i64 an, .int .i64 bl, .int .i64 bn], .agg #[.int .i64 l2, .int .i64 al2, .int .i64 an2, .int .i64 bl2, .int .i64 bn2]] w fun e w' => e = .returned (.bool (eqB (l, al, an, bl, bn) (l2, al2, an2, bl2, bn2))) ∧ Below w.heap.size w w' := by
  rw [dec_edge]
  by_cases h1 : l = l2
  · subst h1
    cases ha : eqB (al, an) (al2, an2)
    · go_enter Tryd.func44, Tryd.ntmps44
      go_wp2_with fail
      refine (eqNode _ _ _ _ _).mono ?_
      rintro e w1 ⟨rfl, b1⟩
      have HB : Hid (Below w.heap.size w w1) := Below.trans (by go_grown) (b1.mono (by simp; omega))
      clear b1
      go_wp2_with fail
      go_ret
      exact ⟨by simp, HB.out⟩
    · go_enter Tryd.func44, Tryd.ntmps44
      go_wp2_with fail
      refine (eqNode _ _ _ _ _).mono ?_
      rintro e w1 ⟨rfl, b1⟩
      have HB : Hid (Below w.heap.size w w1) := Below.trans (by go_grown) (b1.mono (by simp; omega))
      have hs : w.heap.size + 2 ≤ w1.heap.size := by have := b1.size; simp at this; omega
      have hc := Below.celz (b1.mono (B' := w.heap.size + 2) (by simp))
      clear b1
      go_wp2_with fail
      refine (eqNode _ _ _ _ _).mono ?_
      rintro e w2 ⟨rfl, b2⟩
      have HB2 : Hid (Below w.heap.size w w2) := HB.out.trans (b2.mono (by omega))
      clear b2 hc
      cases hb : eqB (bl, bn) (bl2, bn2)
      · go_wp2_with fail
        go_ret
        exact ⟨by simp [hb], HB2.out⟩
      · go_wp2_with fail
        go_ret
        exact ⟨by simp [hb], HB2.out⟩
  · have h3 : (l != l2) = true := by simpa using h1
    have HH : Hid (¬ l = l2) := h1
    clear h1
    go_enter Tryd.func44, Tryd.ntmps44
    go_wp2
    go_ret
    exact ⟨by simp [HH.out], by go_grown⟩
def encNode (x : Int × Int) : List Value := [.int .i64 x.1, .int .i64 x.2]
theorem encNode_len (x : Int × Int) : (encNode x).length = 2 := rfl
theorem Tryd.infoNode : (Tryd.prog.info? 38).map (fun i => (i.zero, i.size, i.bytes)) = some (some (.agg #[.int .i64 0, .int .i64 0]), 2, 16) := by kernel_rfl
def encEdge (x : Int × Int × Int × Int × Int) : List Value := [.int .i64 x.1, .int .i64 x.2.1, .int .i64 x.2.2.1, .int .i64 x.2.2.2.1, .int .i64 x.2.2.2.2]
theorem encEdge_len (x : Int × Int × Int × Int × Int) : (encEdge x).length = 5 := rfl
theorem Tryd.infoEdge : (Tryd.prog.info? 40).map (fun i => (i.zero, i.size, i.bytes)) = some (some (.agg #[.int .i64 0, .int .i64 0, .int .i64 0, .int .i64 0, .int .i64 0]), 5, 40) := by kernel_rfl
end Go.Proofs.YtchphdhjbjeplaaDoor.Lab

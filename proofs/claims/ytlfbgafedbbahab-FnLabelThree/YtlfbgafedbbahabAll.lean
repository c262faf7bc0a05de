/-
  Lists of numbers that a call has made: contracts of LabelAll (impl and spec) and of the readers of lists in the laws.
-/
import Derived.Test.YtlfbgafedbbahabLabb
import Derived.Test.YtlfbgafedbbahabRd
namespace Go.Proofs.Ytlfbgafedbbahab.Lab
open Go.RowKit
set_option linter.unusedVariables false

theorem Try.info3 : (Try.prog.info? 3).map (fun i => (i.zero, i.size, i.bytes)) = some (some (.int .i64 0), 1, 8) := by kernel_rfl

/-- The labels below k that are under a. -/
def allTo (a : Int) : Nat → List Int
  | 0 => []
  | k + 1 => if underB k a then allTo a k ++ [(k : Int)] else allTo a k
theorem allTo_le (a : Int) (k : Nat) : (allTo a k).length ≤ k := by
  induction k with
  | zero => simp [allTo]
  | succ k ih => simp only [allTo]; split <;> (try simp only [List.length_append, List.length_singleton]) <;> omega

theorem all_keep {a : Int} {k : Nat} {B : Nat} {w wr w1 : World} {v v' : Value} (hx : underB k a = true)
    (hB : B ≤ wr.heap.size) (hown : wr.ownsRow B 3 1 v (allTo a k).length (ints (allTo a k))) (hnx : Below B w wr) (o : Obj)
    (hown' : w1.ownsRow B 3 1 v' ((allTo a k).length + 1) (ints (allTo a k) ++ [.int .i64 k])) (hgrow : (wr.alloc o).grownBy w1 v.ownBlock) :
    w1.ownsRow B 3 1 v' (allTo a (k + 1)).length (ints (allTo a (k + 1))) ∧ Below B w w1 := by
  constructor
  · have : allTo a (k + 1) = allTo a k ++ [(k : Int)] := by simp [allTo, hx]
    rw [this]
    simpa [ints] using hown'
  · exact (hnx.alloc hB o).grown hgrow (by simp; omega) (fun g hg => (hown.lt g hg).1)

set_option maxHeartbeats 1000000 in
theorem spec_LabelAll (a : Int) (w : World) :
    Calls Try.prog 18 #[.int .i64 a] w fun e w' => ∃ v, e = .returned v ∧ w'.ownsRow w.heap.size 3 1 v (allTo a 8).length (ints (allTo a 8)) ∧ Below w.heap.size w w' := by
  obtain ⟨i0, hi, hz0, hz1, hz2⟩ := info_parts Try.info3
  have hst : (w.alloc (.cells #[] 3)).ownsRow w.heap.size 3 1 (.slice (some ⟨w.heap.size, 0, none⟩) 0 0) 0 [] := World.ownsRow_lit w #[] 0 (Nat.le_refl _) (by unfold maxLen; omega) rfl
  go_enter Try.func18, Try.ntmps18
  go_wp2
  go_loopw [3, 4] (fun v i wr => ∃ k : Nat, k ≤ 8 ∧ i = .int .i64 k ∧ wr.ownsRow w.heap.size 3 1 v (allTo a k).length (ints (allTo a k)) ∧ Below w.heap.size w wr) (fun _ i _ => 8 - (intOf i).toNat)
  case atStart => exact ⟨0, by omega, rfl, hst, (Below.refl _ _).alloc (Nat.le_refl _) _⟩
  case round =>
    clear hst
    obtain ⟨k, hk, rfl, hown, hnx⟩ := hrel
    have hle := allTo_le a k
    have hsz := hnx.size
    by_cases hlt : k < 8
    · cases hx : underB k a
      · go_wp2_with (go_at_call 8; refine use (spec_LabelUnder _ _ _) ?_)
        go_roundw
        case rel => exact ⟨k + 1, by omega, by go_num, by simpa [allTo, hx] using hown, hnx⟩
        case measure => simp [intOf]; omega
      · go_wp2_with (first
          | (go_at_call 8; refine use (spec_LabelUnder _ _ _) ?_)
          | (at_builtin; refine wpList_append_own _ rfl _ _ 31 rfl w.heap.size 3 i0 (.int .i64 0) 1 8 Try.underlying31 hi hz0 hz1 hz2 rfl (by decide) _ _ _ rfl (hown.alloc _) ⟨wr.heap.size, 0, none⟩ 1 1 [.int .i64 k] rfl rfl ?c1 ?c2 ?c3 ?c4 ?c5 ?_))
        case c1 =>
          intro j u hj
          match j, hj with
          | 0, hj => simp at hj; subst hj; simp [Addr.add]
        case c2 => intro u hu; simp at hu; subst hu; rfl
        case c3 => unfold maxLen; omega
        case c4 => omega
        case c5 => simp; omega
        · intro v' w1 hown' hgrow _
          have R := all_keep hx (by omega) hown hnx _ hown' hgrow
          clear hown' hgrow hown hnx
          go_wp2
          go_roundw
          case rel => exact ⟨k + 1, by omega, by go_num, R.1, R.2⟩
          case measure => simp [intOf]; omega
    · have : k = 8 := by omega
      subst this
      go_wp2
      go_ret
      exact ⟨_, rfl, hown, hnx⟩
set_option maxHeartbeats 1000000 in
theorem impl_LabelAll (a : Int) (w : World) :
    Calls Try.prog 16 #[.int .i64 a] w fun e w' => ∃ v, e = .returned v ∧ w'.ownsRow w.heap.size 3 1 v (allTo a 8).length (ints (allTo a 8)) ∧ Below w.heap.size w w' := by
  obtain ⟨i0, hi, hz0, hz1, hz2⟩ := info_parts Try.info3
  go_enter Try.func16, Try.ntmps16
  go_wp2
  go_loopw [3, 5] (fun v i wr => ∃ k : Nat, k ≤ 8 ∧ i = .int .i64 k ∧ wr.ownsRow w.heap.size 3 1 v (allTo a k).length (ints (allTo a k)) ∧ Below w.heap.size w wr) (fun _ i _ => 8 - (intOf i).toNat)
  case atStart => exact ⟨0, by omega, rfl, World.ownsRow_nil _ _ _ _, Below.refl _ _⟩
  case round =>
    obtain ⟨k, hk, rfl, hown, hnx⟩ := hrel
    have hle := allTo_le a k
    have hsz := hnx.size
    by_cases hlt : k < 8
    · cases hx : underB k a
      · go_wp2_with (go_at_call 7; refine use (impl_LabelUnder _ _ _) ?_)
        go_roundw
        case rel => exact ⟨k + 1, by omega, by go_num, by simpa [allTo, hx] using hown, hnx⟩
        case measure => simp [intOf]; omega
      · go_wp2_with (first
          | (go_at_call 7; refine use (impl_LabelUnder _ _ _) ?_)
          | (at_builtin; refine wpList_append_own _ rfl _ _ 31 rfl w.heap.size 3 i0 (.int .i64 0) 1 8 Try.underlying31 hi hz0 hz1 hz2 rfl (by decide) _ _ _ rfl (hown.alloc _) ⟨wr.heap.size, 0, none⟩ 1 1 [.int .i64 k] rfl rfl ?c1 ?c2 ?c3 ?c4 ?c5 ?_))
        case c1 =>
          intro j u hj
          match j, hj with
          | 0, hj => simp at hj; subst hj; simp [Addr.add]
        case c2 => intro u hu; simp at hu; subst hu; rfl
        case c3 => unfold maxLen; omega
        case c4 => omega
        case c5 => simp; omega
        · intro v' w1 hown' hgrow _
          have R := all_keep hx (by omega) hown hnx _ hown' hgrow
          clear hown' hgrow hown hnx
          go_wp2
          go_roundw
          case rel => exact ⟨k + 1, by omega, by go_num, R.1, R.2⟩
          case measure => simp [intOf]; omega
    · have : k = 8 := by omega
      subst this
      go_wp2
      go_ret
      exact ⟨_, rfl, hown, hnx⟩
end Go.Proofs.Ytlfbgafedbbahab.Lab

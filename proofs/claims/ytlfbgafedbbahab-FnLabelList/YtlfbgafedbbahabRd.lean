/-
  Readers of lists of numbers in the laws: eqIntS, markIntS, heldIntS; wpInts.
-/
import Derived.Test.YtlfbgafedbbahabPlain
import Derived.Test.YtlfbgafedbbahabRows
import Derived.WalkKit
import Derived.WalkSpells
import Derived.WalkLawsBesides
import Derived.Deep.QuietTactic
import Derived.BigQuiet
namespace Go.Proofs.Ytlfbgafedbbahab.Lab
open Go.RowKit
set_option linter.unusedVariables false

/-- A slice value reads as a list of numbers. -/
def Reads (w : World) (v : Value) (l : List Int) : Prop :=
  (l = [] ∧ ∃ a cap, v = .slice a 0 cap) ∨
  (0 < l.length ∧ ∃ b off cap, v = .slice (some ⟨b, off, none⟩) l.length cap ∧ ∀ j, j < l.length → w.cell? ⟨b, off + j, none⟩ = some (.int .i64 (l.getD j 0)))
theorem Reads.drewN {w : World} {v : Value} {l : List Int} (h : Reads w v l) (n : Nat) : Reads (w.drewN n) v l := by
  rcases h with h | ⟨h0, b, off, cap, hv, hc⟩
  · exact .inl h
  · exact .inr ⟨h0, b, off, cap, hv, fun j hj => by rw [World.cell?_drewN]; exact hc j hj⟩
theorem reads_own {w : World} {base e : Nat} {v : Value} {l : List Int} (h : w.ownsRow base e 1 v l.length (l.map (Value.int .i64))) : Reads w v l := by
  have hk := h
  obtain ⟨_, h | ⟨g, cap, cur, hv, hb, hg, hn, hm, hs, ht⟩⟩ := h
  · exact .inl ⟨List.length_eq_zero_iff.1 h.2, _, _, h.1⟩
  · by_cases h0 : l.length = 0
    · exact .inl ⟨List.length_eq_zero_iff.1 h0, _, _, by rw [hv, h0]⟩
    · refine .inr ⟨by omega, g, 0, cap, hv, fun j hj => ?_⟩
      rw [hv] at hk
      have := hk.cellAt j (by omega)
      rw [Nat.zero_add, this]
      simp [hj]
theorem own_heap {w w' : World} {base e size : Nat} {v : Value} {n : Nat} {xs : List Value} (h : w.ownsRow base e size v n xs) (hk : ∀ k, v.ownBlock = some k → w'.heap[k]? = w.heap[k]?) : w'.ownsRow base e size v n xs := by
  obtain ⟨h1, h | ⟨g, cap, cur, rfl, hb, hg, hr⟩⟩ := h
  · exact ⟨h1, .inl h⟩
  · exact ⟨h1, .inr ⟨g, cap, cur, rfl, hb, by rw [hk g rfl]; exact hg, hr⟩⟩
theorem own_below {w w' : World} {base e size : Nat} {v : Value} {n : Nat} {xs : List Value} (h : w.ownsRow base e size v n xs) (hb : Below w.heap.size w w') : w'.ownsRow base e size v n xs :=
  own_heap h (fun k hk => hb.block k (h.lt k hk).2)
theorem own_drewN {w : World} {base e size : Nat} {v : Value} {n : Nat} {xs : List Value} (h : w.ownsRow base e size v n xs) (m : Nat) : (w.drewN m).ownsRow base e size v n xs :=
  own_heap h (fun k _ => by rw [World.heap_drewN])
theorem list_eq_of {l m : List Int} (h : l.length = m.length) (hj : ∀ j, j < l.length → l.getD j 0 = m.getD j 0) : l = m := by
  apply List.ext_getElem h
  intro j h1 h2
  have := hj j h1
  simpa [List.getD, h1, h2] using this

set_option maxHeartbeats 1000000 in
theorem wpInts_cells (b1 o1 c1 b2 o2 c2 : Nat) (l m : List Int) (w : World) (hl : l.length = m.length) (hb : l.length ≤ 1000000)
    (h1 : ∀ j, j < l.length → w.cell? ⟨b1, o1 + j, none⟩ = some (.int .i64 (l.getD j 0))) (h2 : ∀ j, j < l.length → w.cell? ⟨b2, o2 + j, none⟩ = some (.int .i64 (m.getD j 0))) :
    Calls Try.prog 17 #[.slice (some ⟨b1, o1, none⟩) l.length c1, .slice (some ⟨b2, o2, none⟩) l.length c2] w fun e w' => e = .returned (.bool (decide (l = m))) ∧ ∃ n, w' = w.drewN n := by
  obtain ⟨len, hlen⟩ : ∃ n, n = l.length := ⟨_, rfl⟩
  rw [← hlen]
  rw [← hlen] at hb h1 h2
  have HL : Hid (len = l.length ∧ l.length = m.length) := ⟨hlen, hl⟩
  clear hlen hl
  go_enter Try.func17, Try.ntmps17
  go_wp2
  go_loopw [5] (fun i wr => ∃ k : Nat, k ≤ len ∧ i = .int .i64 k ∧ (∃ n, wr = w.drewN n) ∧ ∀ j, j < k → l.getD j 0 = m.getD j 0) (fun i _ => len - (intOf i).toNat)
  case atStart => exact ⟨0, by omega, rfl, ⟨0, by rw [World.drewN_zero]⟩, fun j hj => by omega⟩
  case round =>
    obtain ⟨k, hk, rfl, ⟨n, rfl⟩, hq⟩ := hrel
    have HQ : Hid (∀ j, j < k → l.getD j 0 = m.getD j 0) := hq
    clear hq
    by_cases hlt : k < len
    · have e1 := h1 k hlt
      have e2 := h2 k hlt
      generalize hx : l.getD k 0 = x at *
      generalize hy : m.getD k 0 = y at *
      have HX : Hid (l.getD k 0 = x ∧ m.getD k 0 = y) := ⟨hx, hy⟩
      clear hx hy h1 h2
      by_cases hxy : x = y
      · have hd : (x != y) = false := by simp [hxy]
        have HXY : Hid (x = y) := hxy
        clear hxy
        go_wp2
        go_quiet (fail)
        go_wp2
        go_roundw
        case rel =>
          refine ⟨k + 1, by omega, by go_num, ⟨_, rfl⟩, fun j hj => ?_⟩
          rcases Nat.lt_succ_iff_lt_or_eq.1 hj with h | h
          · exact HQ.out j h
          · rw [h, HX.out.1, HX.out.2]; exact HXY.out
        case measure => simp [intOf]; omega
      · have hd : (x != y) = true := by simp [hxy]
        have HXY : Hid (x ≠ y) := hxy
        clear hxy
        go_wp2
        go_quiet (fail)
        go_wp2
        go_ret
        refine ⟨?_, _, World.drewN_drewN _ _ _⟩
        have : decide (l = m) = false := by
          simp only [decide_eq_false_iff_not]
          intro h
          apply HXY.out
          rw [← HX.out.1, ← HX.out.2, h]
        rw [this]; rfl
    · have hz : Hid (l = m) := list_eq_of HL.out.2 (fun j hj => HQ.out j (by have := HL.out; omega))
      go_wp2
      go_ret
      refine ⟨?_, _, rfl⟩
      rw [decide_eq_true hz.out]; rfl
set_option maxHeartbeats 400000 in
theorem wpInts_len (a1 a2 : Option Addr) (n1 c1 n2 c2 : Nat) (w : World) (h1 : n1 ≤ 1000000) (h2 : n2 ≤ 1000000) (hne : n1 ≠ n2) :
    Calls Try.prog 17 #[.slice a1 n1 c1, .slice a2 n2 c2] w fun e w' => e = .returned (.bool false) ∧ w' = w := by
  have hd : ((n1 : Int) != (n2 : Int)) = true := by rw [bne_iff_ne]; omega
  clear hne
  go_enter Try.func17, Try.ntmps17
  go_wp2
  go_ret
  exact ⟨rfl, rfl⟩
set_option maxHeartbeats 400000 in
theorem wpInts_empty (a1 a2 : Option Addr) (c1 c2 : Nat) (w : World) :
    Calls Try.prog 17 #[.slice a1 0 c1, .slice a2 0 c2] w fun e w' => e = .returned (.bool true) ∧ w' = w := by
  go_enter Try.func17, Try.ntmps17
  go_wp2
  refine wp_loop_rounds 1 ?_
  rw [rounds_succ]
  go_wp2
  go_ret
  exact ⟨rfl, rfl⟩
theorem wpInts (v1 v2 : Value) (l m : List Int) (w : World) (h1 : Reads w v1 l) (h2 : Reads w v2 m) (hb1 : l.length ≤ 1000000) (hb2 : m.length ≤ 1000000) :
    Calls Try.prog 17 #[v1, v2] w fun e w' => e = .returned (.bool (decide (l = m))) ∧ ∃ n, w' = w.drewN n := by
  by_cases hl : l.length = m.length
  · rcases h1 with ⟨rfl, a1, c1, rfl⟩ | ⟨p1, b1, o1, c1, rfl, e1⟩
    · have hm : m = [] := List.length_eq_zero_iff.1 (by simpa using hl.symm)
      subst hm
      rcases h2 with ⟨_, a2, c2, rfl⟩ | ⟨p2, _⟩
      · exact (wpInts_empty a1 a2 c1 c2 w).mono (fun e w' h => ⟨by rw [h.1]; rfl, 0, by rw [h.2, World.drewN_zero]⟩)
      · simp at p2
    · rcases h2 with ⟨rfl, a2, c2, rfl⟩ | ⟨p2, b2, o2, c2, rfl, e2⟩
      · simp at hl; subst hl; simp at p1
      · rw [← hl]
        exact wpInts_cells b1 o1 c1 b2 o2 c2 l m w hl hb1 e1 (fun j hj => e2 j (by omega))
  · have hf : decide (l = m) = false := by simp only [decide_eq_false_iff_not]; intro h; exact hl (by rw [h])
    rw [hf]
    have s1 : ∃ a c, v1 = .slice a l.length c := by
      rcases h1 with ⟨rfl, a1, c1, rfl⟩ | ⟨p1, b1, o1, c1, rfl, e1⟩
      · exact ⟨_, _, rfl⟩
      · exact ⟨_, _, rfl⟩
    have s2 : ∃ a c, v2 = .slice a m.length c := by
      rcases h2 with ⟨rfl, a1, c1, rfl⟩ | ⟨p1, b1, o1, c1, rfl, e1⟩
      · exact ⟨_, _, rfl⟩
      · exact ⟨_, _, rfl⟩
    obtain ⟨a1, c1, rfl⟩ := s1
    obtain ⟨a2, c2, rfl⟩ := s2
    exact (wpInts_len a1 a2 _ c1 _ c2 w hb1 hb2 hl).mono (fun e w' h => ⟨h.1, 0, by rw [h.2, World.drewN_zero]⟩)
def ints (l : List Int) : List Value := l.map (Value.int .i64)
theorem ints_length (l : List Int) : (ints l).length = l.length := by simp [ints]
/-- A row that the call owns, and one number more. -/
theorem row_push {B e : Nat} {w wr w1 : World} {v v' : Value} {l : List Int} {x : Int}
    (hB : B ≤ wr.heap.size) (hown : wr.ownsRow B e 1 v l.length (ints l)) (hnx : Below B w wr) (o : Obj)
    (hown' : w1.ownsRow B e 1 v' (l.length + 1) (ints l ++ [.int .i64 x])) (hgrow : (wr.alloc o).grownBy w1 v.ownBlock) :
    w1.ownsRow B e 1 v' (l ++ [x]).length (ints (l ++ [x])) ∧ Below B w w1 := by
  constructor
  · simpa [ints] using hown'
  · exact (hnx.alloc hB o).grown hgrow (by simp; omega) (fun g hg => (hown.lt g hg).1)
/-- The numbers k, k + 1, .. -/
def upFrom (k : Int) : Nat → List Int
  | 0 => []
  | n + 1 => upFrom k n ++ [k + n]
theorem upFrom_length (k : Int) (n : Nat) : (upFrom k n).length = n := by
  induction n with
  | zero => rfl
  | succ n ih => simp [upFrom, ih]
theorem upFrom_getD (k : Int) (n j : Nat) (h : j < n) : (upFrom k n).getD j 0 = k + j := by
  induction n with
  | zero => omega
  | succ n ih =>
    simp only [upFrom, List.getD_eq_getElem?_getD, List.getElem?_append, upFrom_length]
    by_cases hj : j < n
    · rw [if_pos hj]
      have := ih hj
      rw [List.getD_eq_getElem?_getD] at this
      exact this
    · have : j = n := by omega
      subst this
      simp
theorem reads_up {w : World} {base e n : Nat} {v : Value} {k0 : Int} (h : w.ownsRow base e 1 v n ((upFrom k0 n).map (Value.int .i64))) : Reads w v (upFrom k0 n) :=
  reads_own (by rw [upFrom_length]; exact h)
end Go.Proofs.Ytlfbgafedbbahab.Lab

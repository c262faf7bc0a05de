/-
  Readers of lists of numbers in the laws: eqIntS, markIntS, heldIntS; wpInts.
-/
import Derived.Test.YtlfbgafedbbahaqPlain
import Derived.Test.YtlfbgafedbbahaqRows
import Derived.WalkKit
import Derived.WalkSpells
import Derived.WalkLawsBesides
import Derived.Deep.QuietTactic
import Derived.BigQuiet
namespace Go.Proofs.Ytlfbgafedbbahaq.Lab
open Go.RowKit
set_option linter.unusedVariables false

/-- A slice value reads as a list of numbers. -/
def Reads (w : World) (v : Value) (l : List Int) : Prop :=
  (l = [] ∧ ∃ a cap, v = .slice a 0 cap) ∨
  (0 < l.length ∧ ∃ b off cap, v = .slice (some ⟨b, off, none⟩) l.length cap ∧ ∀ j, j < l.length → w.cell? ⟨b, off + j, none⟩ = some (.int .i64 (l.getD j 0)))
theorem Reads.drewN {w : World} {v : Value} {l : List Int} (h : Reads w v l) (n : Nat) : Reads (w.drewN n) v l := by
  rcases h with h | ⟨h0, b, off, cap, hv, hc⟩
  · exact .inl h
  · exact .inr ⟨h0, b, off, cap, hv, fun j hj => by rw [World.cell?_drewN]; exact hc j hj⟩
theorem reads_own {w : World} {base e : Nat} {v : Value} {l : List Int} (h : w.ownsRow base e 1 v l.length (l.map (Value.int .i64))) : Reads w v l := by
  have hk := h
  obtain ⟨_, h | ⟨g, cap, cur, hv, hb, hg, hn, hm, hs, ht⟩⟩ := h
  · exact .inl ⟨List.length_eq_zero_iff.1 h.2, _, _, h.1⟩
  · by_cases h0 : l.length = 0
    · exact .inl ⟨List.length_eq_zero_iff.1 h0, _, _, by rw [hv, h0]⟩
    · refine .inr ⟨by omega, g, 0, cap, hv, fun j hj => ?_⟩
      rw [hv] at hk
      have := hk.cellAt j (by omega)
      rw [Nat.zero_add, this]
      simp [hj]
theorem own_heap {w w' : World} {base e size : Nat} {v : Value} {n : Nat} {xs : List Value} (h : w.ownsRow base e size v n xs) (hk : ∀ k, v.ownBlock = some k → w'.heap[k]? = w.heap[k]?) : w'.ownsRow base e size v n xs := by
  obtain ⟨h1, h | ⟨g, cap, cur, rfl, hb, hg, hr⟩⟩ := h
  · exact ⟨h1, .inl h⟩
  · exact ⟨h1, .inr ⟨g, cap, cur, rfl, hb, by rw [hk g rfl]; exact hg, hr⟩⟩
theorem own_below {w w' : World} {base e size : Nat} {v : Value} {n : Nat} {xs : List Value} (h : w.ownsRow base e size v n xs) (hb : Below w.heap.size w w') : w'.ownsRow base e size v n xs :=
  own_heap h (fun k hk => hb.block k (h.lt k hk).2)
theorem own_drewN {w : World} {base e size : Nat} {v : Value} {n : Nat} {xs : List Value} (h : w.ownsRow base e size v n xs) (m : Nat) : (w.drewN m).ownsRow base e size v n xs :=
  own_heap h (fun k _ => by rw [World.heap_drewN])
theorem list_eq_of {l m : List Int} (h : l.length = m.length) (hj : ∀ j, j < l.length → l.getD j 0 = m.getD j 0) : l = m := by
  apply List.ext_getElem h
  intro j h1 h2
  have := hj j h1
  simpa [List.getD, h1, h2] using this

set_option maxHeartbeats 1000000 in
theorem eqIntS_cells (b1 o1 c1 b2 o2 c2 : Nat) (l m : List Int) (w : World) (hl : l.length = m.length) (hb : l.length ≤ 1000000)
    (h1 : ∀ j, j < l.length → w.cell? ⟨b1, o1 + j, none⟩ = some (.int .i64 (l.getD j 0))) (h2 : ∀ j, j < l.length → w.cell? ⟨b2, o2 + j, none⟩ = some (.int .i64 (m.getD j 0))) :
    Calls Try.prog 21 #[.slice (some ⟨b1, o1, none⟩) l.length c1, .slice (some ⟨b2, o2, none⟩) l.length c2] w fun e w' => e = .returned (.bool (decide (l = m))) ∧ ∃ n, w' = w.drewN n := by
  obtain ⟨len, hlen⟩ : ∃ n, n = l.length := ⟨_, rfl⟩
  rw [← hlen]
  rw [← hlen] at hb h1 h2
  have HL : Hid (len = l.length ∧ l.length = m.length) := ⟨hlen, hl⟩
  clear hlen hl
  go_enter Try.func21, Try.ntmps21
  go_wp2
  go_loopw [5] (fun i wr => ∃ k : Nat, k ≤ len ∧ i = .int .i64 k ∧ (∃ n, wr = w.drewN n) ∧ ∀ j, j < k → l.getD j 0 = m.getD j 0) (fun i _ => len - (intOf i).toNat)
  case atStart => exact ⟨0, by omega, rfl, ⟨0, by rw [World.drewN_zero]⟩, fun j hj => by omega⟩
  case round =>
    obtain ⟨k, hk, rfl, ⟨n, rfl⟩, hq⟩ := hrel
    have HQ : Hid (∀ j, j < k → l.getD j 0 = m.getD j 0) := hq
    clear hq
    by_cases hlt : k < len
    · have e1 := h1 k hlt
      have e2 := h2 k hlt
      generalize hx : l.getD k 0 = x at *
      generalize hy : m.getD k 0 = y at *
      have HX : Hid (l.getD k 0 = x ∧ m.getD k 0 = y) := ⟨hx, hy⟩
      clear hx hy h1 h2
      by_cases hxy : x = y
      · have hd : (x != y) = false := by simp [hxy]
        have HXY : Hid (x = y) := hxy
        clear hxy
        go_wp2
        go_quiet (fail)
        go_wp2
        go_roundw
        case rel =>
          refine ⟨k + 1, by omega, by go_num, ⟨_, rfl⟩, fun j hj => ?_⟩
          rcases Nat.lt_succ_iff_lt_or_eq.1 hj with h | h
          · exact HQ.out j h
          · rw [h, HX.out.1, HX.out.2]; exact HXY.out
        case measure => simp [intOf]; omega
      · have hd : (x != y) = true := by simp [hxy]
        have HXY : Hid (x ≠ y) := hxy
        clear hxy
        go_wp2
        go_quiet (fail)
        go_wp2
        go_ret
        refine ⟨?_, _, World.drewN_drewN _ _ _⟩
        have : decide (l = m) = false := by
          simp only [decide_eq_false_iff_not]
          intro h
          apply HXY.out
          rw [← HX.out.1, ← HX.out.2, h]
        rw [this]; rfl
    · have hz : Hid (l = m) := list_eq_of HL.out.2 (fun j hj => HQ.out j (by have := HL.out; omega))
      go_wp2
      go_ret
      refine ⟨?_, _, rfl⟩
      rw [decide_eq_true hz.out]; rfl
set_option maxHeartbeats 400000 in
theorem eqIntS_len (a1 a2 : Option Addr) (n1 c1 n2 c2 : Nat) (w : World) (h1 : n1 ≤ 1000000) (h2 : n2 ≤ 1000000) (hne : n1 ≠ n2) :
    Calls Try.prog 21 #[.slice a1 n1 c1, .slice a2 n2 c2] w fun e w' => e = .returned (.bool false) ∧ w' = w := by
  have hd : ((n1 : Int) != (n2 : Int)) = true := by rw [bne_iff_ne]; omega
  clear hne
  go_enter Try.func21, Try.ntmps21
  go_wp2
  go_ret
  exact ⟨rfl, rfl⟩
set_option maxHeartbeats 400000 in
theorem eqIntS_empty (a1 a2 : Option Addr) (c1 c2 : Nat) (w : World) :
    Calls Try.prog 21 #[.slice a1 0 c1, .slice a2 0 c2] w fun e w' => e = .returned (.bool true) ∧ w' = w := by
  go_enter Try.func21, Try.ntmps21
  go_wp2
  refine wp_loop_rounds 1 ?_
  rw [rounds_succ]
  go_wp2
  go_ret
  exact ⟨rfl, rfl⟩
theorem eqIntS (v1 v2 : Value) (l m : List Int) (w : World) (h1 : Reads w v1 l) (h2 : Reads w v2 m) (hb1 : l.length ≤ 1000000) (hb2 : m.length ≤ 1000000) :
    Calls Try.prog 21 #[v1, v2] w fun e w' => e = .returned (.bool (decide (l = m))) ∧ ∃ n, w' = w.drewN n := by
  by_cases hl : l.length = m.length
  · rcases h1 with ⟨rfl, a1, c1, rfl⟩ | ⟨p1, b1, o1, c1, rfl, e1⟩
    · have hm : m = [] := List.length_eq_zero_iff.1 (by simpa using hl.symm)
      subst hm
      rcases h2 with ⟨_, a2, c2, rfl⟩ | ⟨p2, _⟩
      · exact (eqIntS_empty a1 a2 c1 c2 w).mono (fun e w' h => ⟨by rw [h.1]; rfl, 0, by rw [h.2, World.drewN_zero]⟩)
      · simp at p2
    · rcases h2 with ⟨rfl, a2, c2, rfl⟩ | ⟨p2, b2, o2, c2, rfl, e2⟩
      · simp at hl; subst hl; simp at p1
      · rw [← hl]
        exact eqIntS_cells b1 o1 c1 b2 o2 c2 l m w hl hb1 e1 (fun j hj => e2 j (by omega))
  · have hf : decide (l = m) = false := by simp only [decide_eq_false_iff_not]; intro h; exact hl (by rw [h])
    rw [hf]
    have s1 : ∃ a c, v1 = .slice a l.length c := by
      rcases h1 with ⟨rfl, a1, c1, rfl⟩ | ⟨p1, b1, o1, c1, rfl, e1⟩
      · exact ⟨_, _, rfl⟩
      · exact ⟨_, _, rfl⟩
    have s2 : ∃ a c, v2 = .slice a m.length c := by
      rcases h2 with ⟨rfl, a1, c1, rfl⟩ | ⟨p1, b1, o1, c1, rfl, e1⟩
      · exact ⟨_, _, rfl⟩
      · exact ⟨_, _, rfl⟩
    obtain ⟨a1, c1, rfl⟩ := s1
    obtain ⟨a2, c2, rfl⟩ := s2
    exact (eqIntS_len a1 a2 _ c1 _ c2 w hb1 hb2 hl).mono (fun e w' h => ⟨h.1, 0, by rw [h.2, World.drewN_zero]⟩)
/-- The numbers k, k + 1, .. -/
def upFrom (k : Int) : Nat → List Int
  | 0 => []
  | n + 1 => upFrom k n ++ [k + n]
theorem upFrom_length (k : Int) (n : Nat) : (upFrom k n).length = n := by
  induction n with
  | zero => rfl
  | succ n ih => simp [upFrom, ih]
theorem upFrom_getD (k : Int) (n j : Nat) (h : j < n) : (upFrom k n).getD j 0 = k + j := by
  induction n with
  | zero => omega
  | succ n ih =>
    simp only [upFrom, List.getD_eq_getElem?_getD, List.getElem?_append, upFrom_length]
    by_cases hj : j < n
    · rw [if_pos hj]
      have := ih hj
      rw [List.getD_eq_getElem?_getD] at this
      exact this
    · have : j = n := by omega
      subst this
      simp
theorem reads_up {w : World} {base e n : Nat} {v : Value} {k0 : Int} (h : w.ownsRow base e 1 v n ((upFrom k0 n).map (Value.int .i64))) : Reads w v (upFrom k0 n) :=
  reads_own (by rw [upFrom_length]; exact h)
set_option maxHeartbeats 1000000 in
theorem heldIntS_cells (b o c len : Nat) (k0 : Int) (w : World) (hb : len ≤ 1000000) (hk0 : 0 ≤ k0) (hk1 : k0 ≤ 1000000)
    (h1 : ∀ j, j < len → w.cell? ⟨b, o + j, none⟩ = some (.int .i64 (k0 + j))) :
    Calls Try.prog 23 #[.slice (some ⟨b, o, none⟩) len c, .int .i64 k0] w fun e w' => e = .returned (.int .i64 (k0 + len)) ∧ w' = w := by
  go_enter Try.func23, Try.ntmps23
  go_wp2
  go_loop [1, 5] (fun q i => ∃ k : Nat, k ≤ len ∧ i = .int .i64 k ∧ q = .int .i64 (k0 + k)) (fun _ i => len - (intOf i).toNat)
  case atStart => exact ⟨0, by omega, rfl, by simp⟩
  case round =>
    obtain ⟨k, hk, rfl, rfl⟩ := hrel
    by_cases hlt : k < len
    · have e1 := h1 k hlt
      clear h1
      go_wp2
      go_round
      case rel => exact ⟨k + 1, by omega, by go_num, by go_num⟩
      case measure => simp [intOf]; omega
    · have : k = len := by omega
      subst this
      go_wp2
      go_ret
      exact ⟨rfl, rfl⟩
set_option maxHeartbeats 400000 in
theorem heldIntS_empty (a : Option Addr) (c : Nat) (k0 : Int) (w : World) :
    Calls Try.prog 23 #[.slice a 0 c, .int .i64 k0] w fun e w' => e = .returned (.int .i64 k0) ∧ w' = w := by
  go_enter Try.func23, Try.ntmps23
  go_wp2
  refine wp_loop_rounds 1 ?_
  rw [rounds_succ]
  go_wp2
  go_ret
  exact ⟨rfl, rfl⟩
theorem heldIntS (v : Value) (n : Nat) (k0 : Int) (w : World) (h : Reads w v (upFrom k0 n)) (hb : n ≤ 1000000) (hk0 : 0 ≤ k0) (hk1 : k0 ≤ 1000000) :
    Calls Try.prog 23 #[v, .int .i64 k0] w fun e w' => e = .returned (.int .i64 (k0 + n)) ∧ w' = w := by
  rcases h with ⟨h0, a, c, rfl⟩ | ⟨h0, b, o, c, rfl, hc⟩
  · have : n = 0 := by have := upFrom_length k0 n; rw [h0] at this; simpa using this.symm
    subst this
    simpa using heldIntS_empty a c k0 w
  · rw [upFrom_length] at hc ⊢
    exact heldIntS_cells b o c n k0 w hb hk0 hk1 (fun j hj => by rw [hc j hj, upFrom_getD _ _ _ hj])
theorem set_up {l : List Int} {k0 : Int} {k : Nat} {xs : List Value} (hk : k < l.length) (hx : xs = ((upFrom k0 k ++ l.drop k).map (Value.int .i64))) :
    xs.set k (.int .i64 (k0 + k)) = ((upFrom k0 (k + 1) ++ l.drop (k + 1)).map (Value.int .i64)) := by
  subst hx
  rw [← List.map_set, List.set_append_right _ _ (by rw [upFrom_length]; omega), upFrom_length]
  congr 1
  rw [List.drop_eq_getElem_cons hk]
  simp only [upFrom, Nat.sub_self, List.set_cons_zero, List.append_assoc, List.singleton_append]
set_option maxHeartbeats 1000000 in
theorem markIntS_own (base e g cap : Nat) (l : List Int) (k0 : Int) (w : World) (hb : l.length ≤ 1000000) (hk0 : 0 ≤ k0) (hk1 : k0 ≤ 1000000)
    (hown : w.ownsRow base e 1 (.slice (some ⟨g, 0, none⟩) l.length cap) l.length (l.map (Value.int .i64))) :
    Calls Try.prog 22 #[.slice (some ⟨g, 0, none⟩) l.length cap, .int .i64 k0] w fun e' w' => e' = .returned (.int .i64 (k0 + l.length)) ∧
      w'.ownsRow base e 1 (.slice (some ⟨g, 0, none⟩) l.length cap) l.length ((upFrom k0 l.length).map (Value.int .i64)) ∧ w.grownBy w' (some g) := by
  obtain ⟨len, hlen⟩ : ∃ n, n = l.length := ⟨_, rfl⟩
  have HL : Hid (len = l.length) := hlen
  rw [← hlen] at hown hb ⊢
  clear hlen
  go_enter Try.func22, Try.ntmps22
  go_wp2
  go_loopw [1, 5] (fun q i wr => ∃ k : Nat, k ≤ len ∧ i = .int .i64 k ∧ q = .int .i64 (k0 + k) ∧ wr.ownsRow base e 1 (.slice (some ⟨g, 0, none⟩) len cap) len ((upFrom k0 k ++ l.drop k).map (Value.int .i64)) ∧ w.grownBy wr (some g)) (fun _ i _ => len - (intOf i).toNat)
  case atStart => exact ⟨0, by omega, rfl, by simp, by simpa [upFrom] using hown, ⟨rfl, rfl, rfl, Nat.le_refl _, fun _ _ _ => rfl⟩⟩
  case round =>
    clear hown
    obtain ⟨k, hk, rfl, rfl, hown, hgr⟩ := hrel
    by_cases hlt : k < len
    · have hfz := hown.frozenAt k
      have hcl : ∃ u, wr.cell? ⟨g, k, none⟩ = some u := by
        rw [hown.cellAt k (by omega)]
        have : k < ((upFrom k0 k ++ l.drop k).map (Value.int .i64)).length := by
          have := HL.out
          simp [upFrom_length]; omega
        exact ⟨_, List.getElem?_eq_getElem this⟩
      obtain ⟨u, hcu⟩ := hcl
      have hst := hown.stored k (.int .i64 (k0 + k))
      have hset := set_up (l := l) (k0 := k0) (k := k) (by have := HL.out; omega) rfl
      rw [hset] at hst
      have HS : Hid ((wr.setCell ⟨g, k, none⟩ (.int .i64 (k0 + k))).ownsRow base e 1 (.slice (some ⟨g, 0, none⟩) len cap) len ((upFrom k0 (k + 1) ++ l.drop (k + 1)).map (Value.int .i64))) := hst.1
      have HG : Hid (w.grownBy (wr.setCell ⟨g, k, none⟩ (.int .i64 (k0 + k))) (some g)) :=
        ⟨hst.2.os.trans hgr.os, hst.2.tape.trans hgr.tape, hst.2.output.trans hgr.output, Nat.le_trans hgr.size hst.2.size, fun j hj hne => (hst.2.block j (Nat.lt_of_lt_of_le hj hgr.size) hne).trans (hgr.block j hj hne)⟩
      clear hst hset hown hgr
      go_wp2
      go_roundw
      case rel => exact ⟨k + 1, by omega, by go_num, by go_num, HS.out, HG.out⟩
      case measure => simp [intOf]; omega
    · have : k = len := by omega
      subst this
      have HO : Hid (wr.ownsRow base e 1 (.slice (some ⟨g, 0, none⟩) k cap) k ((upFrom k0 k).map (Value.int .i64))) := by
        have h := hown
        rw [HL.out, List.drop_length, List.append_nil, ← HL.out] at h
        exact h
      clear hown
      go_wp2
      go_ret
      exact ⟨rfl, HO.out, hgr⟩
set_option maxHeartbeats 400000 in
theorem markIntS_empty (a : Option Addr) (c : Nat) (k0 : Int) (w : World) :
    Calls Try.prog 22 #[.slice a 0 c, .int .i64 k0] w fun e w' => e = .returned (.int .i64 k0) ∧ w' = w := by
  go_enter Try.func22, Try.ntmps22
  go_wp2
  refine wp_loop_rounds 1 ?_
  rw [rounds_succ]
  go_wp2
  go_ret
  exact ⟨rfl, rfl⟩
theorem markIntS (base e : Nat) (v : Value) (l : List Int) (k0 : Int) (w : World) (hb : l.length ≤ 1000000) (hk0 : 0 ≤ k0) (hk1 : k0 ≤ 1000000)
    (hown : w.ownsRow base e 1 v l.length (l.map (Value.int .i64))) :
    Calls Try.prog 22 #[v, .int .i64 k0] w fun e' w' => e' = .returned (.int .i64 (k0 + l.length)) ∧
      w'.ownsRow base e 1 v l.length ((upFrom k0 l.length).map (Value.int .i64)) ∧ w.grownBy w' v.ownBlock := by
  have hk := hown
  obtain ⟨_, ⟨rfl, hz⟩ | ⟨g, cap, cur, rfl, hr⟩⟩ := hown
  · refine (markIntS_empty none 0 k0 w).mono (fun e w' h => ?_)
    obtain ⟨rfl, rfl⟩ := h
    rw [hz]
    exact ⟨by simp, World.ownsRow_nil _ _ _ _, rfl, rfl, rfl, Nat.le_refl _, fun _ _ _ => rfl⟩
  · exact markIntS_own base e g cap l k0 w hb hk0 hk1 hk
end Go.Proofs.Ytlfbgafedbbahaq.Lab

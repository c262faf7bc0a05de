/-
  Numbers read from bytes: in plain words, and contracts of NumAt (impl and spec) and of impl's reader (next, num).
-/
import Derived.Test.YtlnpbfeihjfnjabGreatDoorQPck
import Derived.Test.YtlnpbfeihjfnjabGreatDoorQErr
import Derived.BigQuiet
import Derived.Deep.QuietTactic
import Derived.Deep.RegionHeld3
namespace Go.Proofs.YtlnpbfeihjfnjabGreatDoor.Lab
open Go.RowKit
set_option linter.unusedVariables false

/-- The byte at a place. -/
def bt (s : ByteArray) (i : Nat) : Int := if h : i < s.size then ((s[i]'h).toNat : Int) else 0
theorem bt_in {s : ByteArray} {i : Nat} (h : i < s.size) : ((s[i]'h).toNat : Int) = bt s i := by simp [bt, h]
theorem bt_bd (s : ByteArray) (i : Nat) : 0 ≤ bt s i ∧ bt s i ≤ 255 := by
  unfold bt
  split
  · rename_i h
    have := (s[i]'h).toNat_lt
    omega
  · omega
/-- The number at a place, and the place behind it; none, if there is none. -/
def nmO (s : ByteArray) (at_ : Int) : Option (Int × Int) :=
  if at_ < 0 ∨ (s.size : Int) ≤ at_ then none
  else if bt s at_.toNat < 128 then some (bt s at_.toNat, at_ + 1)
  else if (s.size : Int) ≤ at_ + 1 ∨ bt s at_.toNat = 128 ∨ 127 < bt s (at_.toNat + 1) then none
  else some ((bt s at_.toNat - 128) * 128 + bt s (at_.toNat + 1), at_ + 2)
def nmV : Option (Int × Int) → Value
  | none => .tuple #[.int .i64 0, .int .i64 0, .bool false]
  | some (n, k) => .tuple #[.int .i64 n, .int .i64 k, .bool true]
theorem nmO_out {s : ByteArray} {at_ : Int} (h : at_ < 0 ∨ (s.size : Int) ≤ at_) : nmO s at_ = none := by simp [nmO, h]
theorem nmO_one {s : ByteArray} {k : Nat} (h : k < s.size) (h1 : bt s k < 128) : nmO s k = some (bt s k, (k : Int) + 1) := by
  have h2 : ¬ ((k : Int) < 0 ∨ (s.size : Int) ≤ (k : Int)) := by omega
  have h3 : (k : Int).toNat = k := rfl
  unfold nmO
  rw [if_neg h2, h3, if_pos h1]
theorem nmO_bad {s : ByteArray} {k : Nat} (h : k < s.size) (h1 : 128 ≤ bt s k) (h2 : s.size ≤ k + 1 ∨ bt s k = 128 ∨ 127 < bt s (k + 1)) : nmO s k = none := by
  have h3 : ¬ ((k : Int) < 0 ∨ (s.size : Int) ≤ (k : Int)) := by omega
  have h4 : (k : Int).toNat = k := rfl
  have h5 : ¬ bt s k < 128 := by omega
  have h6 : (s.size : Int) ≤ (k : Int) + 1 ∨ bt s k = 128 ∨ 127 < bt s (k + 1) := by omega
  unfold nmO
  rw [if_neg h3, h4, if_neg h5, if_pos h6]
theorem nmO_two {s : ByteArray} {k : Nat} (h : k + 1 < s.size) (h1 : 128 < bt s k) (h2 : bt s (k + 1) ≤ 127) : nmO s k = some ((bt s k - 128) * 128 + bt s (k + 1), (k : Int) + 2) := by
  have h3 : ¬ ((k : Int) < 0 ∨ (s.size : Int) ≤ (k : Int)) := by omega
  have h4 : (k : Int).toNat = k := rfl
  have h5 : ¬ bt s k < 128 := by omega
  have h6 : ¬ ((s.size : Int) ≤ (k : Int) + 1 ∨ bt s k = 128 ∨ 127 < bt s (k + 1)) := by omega
  unfold nmO
  rw [if_neg h3, h4, if_neg h5, if_neg h6]
set_option maxHeartbeats 1000000 in
theorem spec_NumAt (s : ByteArray) (at_ : Int) (w : World) (hs : s.size ≤ 9223372036854775807) :
    Calls Tryz.prog 82 #[.string s, .int .i64 at_] w fun e w' => e = .returned (nmV (nmO s at_)) ∧ Below w.heap.size w w' := by
  by_cases h1 : at_ < 0
  · rw [nmO_out (.inl h1)]
    go_enter Tryz.func82, Tryz.ntmps82
    go_wp2
    go_ret3
    exact ⟨rfl, by go_grown⟩
  by_cases h2 : (s.size : Int) ≤ at_
  · rw [nmO_out (.inr h2)]
    go_enter Tryz.func82, Tryz.ntmps82
    go_wp2
    go_ret3
    exact ⟨rfl, by go_grown⟩
  obtain ⟨k, rfl⟩ := Int.eq_ofNat_of_zero_le (show 0 ≤ at_ by omega)
  have hk : k < s.size := by omega
  have hb := bt_in hk
  have hd := bt_bd s k
  by_cases h3 : bt s k < 128
  · rw [nmO_one hk h3]
    go_enter Tryz.func82, Tryz.ntmps82
    go_wp2
    go_ret3
    exact ⟨rfl, by go_grown⟩
  by_cases h4 : s.size ≤ k + 1
  · rw [nmO_bad hk (by omega) (.inl h4)]
    go_enter Tryz.func82, Tryz.ntmps82
    go_wp2
    go_ret3
    exact ⟨rfl, by go_grown⟩
  by_cases h5 : bt s k = 128
  · rw [nmO_bad hk (by omega) (.inr (.inl h5))]
    rw [h5] at hb
    clear hd h3 h5
    go_enter Tryz.func82, Tryz.ntmps82
    go_wp2
    go_ret3
    exact ⟨rfl, by go_grown⟩
  have hk2 : k + 1 < s.size := by omega
  have hb2 := bt_in hk2
  have hd2 := bt_bd s (k + 1)
  by_cases h6 : 127 < bt s (k + 1)
  · rw [nmO_bad hk (by omega) (.inr (.inr h6))]
    go_enter Tryz.func82, Tryz.ntmps82
    go_wp2
    go_ret3
    exact ⟨rfl, by go_grown⟩
  · rw [nmO_two hk2 (by omega) (by omega)]
    have i4 : ¬ (s.size : Int) ≤ (k : Int) + 1 := by omega
    have i5 : (bt s k == 128) = false := by simpa using h5
    go_enter Tryz.func82, Tryz.ntmps82
    go_wp2
    go_ret3
    exact ⟨rfl, by go_grown⟩
/-- impl's reader lies in block b: its bytes, its place, its failure. -/
def RdrAt (w : World) (b : Nat) (s : ByteArray) (at_ : Int) (er : Value) : Prop := w.heap[b]? = some (.cells #[.string s, .int .i64 at_, er] 102 (0, 0))
/-- The reader stands at a place, or it has failed. -/
def Rs (w : World) (b : Nat) (s : ByteArray) : Option Int → Prop
  | some at_ => RdrAt w b s at_ .nilIface
  | none => ∃ at_ t v, RdrAt w b s at_ (.iface t v)
theorem RdrAt.c0 {w : World} {b : Nat} {s : ByteArray} {at_ : Int} {er : Value} (h : RdrAt w b s at_ er) : w.cell? ⟨b, 0, none⟩ = some (.string s) := by unfold RdrAt at h; simp [World.cell?, h]
theorem RdrAt.c1 {w : World} {b : Nat} {s : ByteArray} {at_ : Int} {er : Value} (h : RdrAt w b s at_ er) : w.cell? ⟨b, 1, none⟩ = some (.int .i64 at_) := by unfold RdrAt at h; simp [World.cell?, h]
theorem RdrAt.c2 {w : World} {b : Nat} {s : ByteArray} {at_ : Int} {er : Value} (h : RdrAt w b s at_ er) : w.cell? ⟨b, 2, none⟩ = some er := by unfold RdrAt at h; simp [World.cell?, h]
theorem RdrAt.fr {w : World} {b o : Nat} {s : ByteArray} {at_ : Int} {er : Value} (h : RdrAt w b s at_ er) : w.frozen? ⟨b, o, none⟩ = false := by unfold RdrAt at h; simp [World.frozen?, h]
theorem RdrAt.lt {w : World} {b : Nat} {s : ByteArray} {at_ : Int} {er : Value} (h : RdrAt w b s at_ er) : b < w.heap.size := lt_of_block h
theorem set_blk {w : World} {g e i : Nat} {cur : Array Value} {fz : Nat × Nat} (u : Value) (h : w.heap[g]? = some (.cells cur e fz)) : (w.setCell ⟨g, i, none⟩ u).heap[g]? = some (.cells (cur.setIfInBounds i u) e fz) := by
  have hlt := lt_of_block h
  have h' : w.heap[g] = .cells cur e fz := by simpa [Array.getElem?_eq_getElem hlt] using h
  show (w.heap.modify g _)[g]? = _
  rw [Array.getElem?_eq_getElem (by simpa using hlt), Array.getElem_modify_self, h']
  rfl
theorem RdrAt.put1 {w : World} {b : Nat} {s : ByteArray} {at_ : Int} {er : Value} (h : RdrAt w b s at_ er) (x : Int) : RdrAt (w.setCell ⟨b, 1, none⟩ (.int .i64 x)) b s x er := set_blk _ h
theorem RdrAt.put2 {w : World} {b : Nat} {s : ByteArray} {at_ : Int} {er : Value} (h : RdrAt w b s at_ er) (x : Value) : RdrAt (w.setCell ⟨b, 2, none⟩ x) b s at_ x := set_blk _ h
theorem RdrAt.drew {w : World} {b : Nat} {s : ByteArray} {at_ : Int} {er : Value} (h : RdrAt w b s at_ er) : RdrAt w.drew b s at_ er := h
theorem grown_setN (w : World) (b o : Nat) (u : Value) : w.grownBy (w.setCell ⟨b, o, none⟩ u) (some b) := by
  refine ⟨rfl, rfl, rfl, by simp [World.setCell], fun k hk hne => Below.heap_setCell _ _ _ _ (fun e => hne (by subst e; rfl))⟩
theorem grown_drew {w w' : World} {r : Option Nat} (h : w.grownBy w' r) : w.grownBy w'.drew r := ⟨h.os, h.tape, h.output, h.size, h.block⟩
theorem grown_dn (w : World) (r : Option Nat) (n : Nat) : w.grownBy (w.drewN n) r := ⟨rfl, rfl, rfl, Nat.le_refl _, fun _ _ _ => rfl⟩
theorem Below.drews {B : Nat} {a w : World} (h : Below B a w) (n : Nat) : Below B a (w.drewN n) := ⟨h.os, h.tape, h.output, h.size, h.block⟩
theorem grown_reflN (w : World) (r : Option Nat) : w.grownBy w r := ⟨rfl, rfl, rfl, Nat.le_refl _, fun _ _ _ => rfl⟩
theorem grown_trans {a b c : World} {r : Option Nat} (h : a.grownBy b r) (k : b.grownBy c r) : a.grownBy c r :=
  ⟨k.os.trans h.os, k.tape.trans h.tape, k.output.trans h.output, Nat.le_trans h.size k.size, fun j hj hne => (k.block j (Nat.lt_of_lt_of_le hj h.size) hne).trans (h.block j hj hne)⟩
theorem FormAt.grown {w w' : World} {b : Nat} (h : FormAt w) (hg : w.grownBy w' (some b)) (hb : 0 ≠ b) : FormAt w' := by
  have hl := h.lt
  obtain ⟨t, v, h⟩ := h
  exact ⟨t, v, by rw [World.cell?_of_block (a := ⟨0, 0, none⟩) (hg.block _ hl (fun e => hb (Option.some.inj e)))]; exact h⟩
/-- What the next byte is, and where the reader stands then. -/
def nxO (s : ByteArray) : Option Int → Option Int
  | none => none
  | some a => if 0 ≤ a ∧ a < (s.size : Int) then some (a + 1) else none
def nxI (s : ByteArray) : Option Int → Int
  | none => 0
  | some a => if 0 ≤ a ∧ a < (s.size : Int) then bt s a.toNat else 0
set_option maxHeartbeats 1000000 in
theorem rd_next (b : Nat) (s : ByteArray) (o : Option Int) (w : World) (hs : s.size ≤ 9223372036854775806) (h : Rs w b s o) (hf : FormAt w) (hb : 0 ≠ b) :
    Calls Tryz.prog 100 #[.pointer (some ⟨b, 0, none⟩)] w fun e w' => e = .returned (.int .i64 (nxI s o)) ∧ Rs w' b s (nxO s o) ∧ w.grownBy w' (some b) := by
  obtain ⟨ft, fv, hf⟩ := hf
  cases o with
  | none =>
    obtain ⟨a, t, v, h⟩ := h
    have c0 := h.c0
    have c1 := h.c1
    have c2 := h.c2
    have fr : ∀ o, w.frozen? ⟨b, o, none⟩ = false := fun o => h.fr
    have H : Hid (RdrAt w b s a (.iface t v)) := h
    clear h
    by_cases h1 : a < 0
    · go_enter Tryz.func100, Tryz.ntmps100
      go_wp2
      go_quiet (fail)
      go_wp2
      go_ret
      exact ⟨rfl, ⟨_, _, _, RdrAt.put2 (H.out.drew) _⟩, grown_trans (grown_dn _ _ _) (grown_setN _ _ _ _)⟩
    by_cases h2 : (s.size : Int) ≤ a
    · go_enter Tryz.func100, Tryz.ntmps100
      go_wp2
      go_quiet (fail)
      go_wp2
      go_ret
      exact ⟨rfl, ⟨_, _, _, RdrAt.put2 (H.out.drew) _⟩, grown_trans (grown_dn _ _ _) (grown_setN _ _ _ _)⟩
    · go_enter Tryz.func100, Tryz.ntmps100
      go_wp2
      go_quiet (fail)
      go_wp2
      go_ret
      exact ⟨rfl, ⟨_, _, _, H.out.drew⟩, grown_dn _ _ _⟩
  | some a =>
    have h : RdrAt w b s a .nilIface := h
    have c0 := h.c0
    have c1 := h.c1
    have c2 := h.c2
    have fr : ∀ o, w.frozen? ⟨b, o, none⟩ = false := fun o => h.fr
    have H : Hid (RdrAt w b s a .nilIface) := h
    clear h
    by_cases h1 : a < 0
    · have e1 : nxI s (some a) = 0 := by simp only [nxI]; rw [if_neg (by omega)]
      have e2 : nxO s (some a) = none := by simp only [nxO]; rw [if_neg (by omega)]
      rw [e1, e2]
      go_enter Tryz.func100, Tryz.ntmps100
      go_wp2
      go_quiet (fail)
      go_wp2
      go_ret
      exact ⟨rfl, ⟨_, _, _, RdrAt.put2 (H.out.drew) _⟩, grown_trans (grown_dn _ _ _) (grown_setN _ _ _ _)⟩
    by_cases h2 : (s.size : Int) ≤ a
    · have e1 : nxI s (some a) = 0 := by simp only [nxI]; rw [if_neg (by omega)]
      have e2 : nxO s (some a) = none := by simp only [nxO]; rw [if_neg (by omega)]
      rw [e1, e2]
      go_enter Tryz.func100, Tryz.ntmps100
      go_wp2
      go_quiet (fail)
      go_wp2
      go_ret
      exact ⟨rfl, ⟨_, _, _, RdrAt.put2 (H.out.drew) _⟩, grown_trans (grown_dn _ _ _) (grown_setN _ _ _ _)⟩
    · have e1 : nxI s (some a) = bt s a.toNat := by simp only [nxI]; rw [if_pos (by omega)]
      have e2 : nxO s (some a) = some (a + 1) := by simp only [nxO]; rw [if_pos (by omega)]
      rw [e1, e2]
      obtain ⟨k, rfl⟩ := Int.eq_ofNat_of_zero_le (show 0 ≤ a by omega)
      have hk : k < s.size := by omega
      have hbt := bt_in hk
      have hd := bt_bd s k
      clear e1 e2
      go_enter Tryz.func100, Tryz.ntmps100
      go_wp2
      go_quiet (fail)
      go_wp2
      go_quiet (fail)
      go_wp2
      go_ret
      exact ⟨rfl, RdrAt.put1 (H.out.drew) _, grown_trans (grown_dn _ _ _) (grown_setN _ _ _ _)⟩
/-- What the number is that is read next: of worth only if the reader has not failed. -/
theorem nxO_none {s : ByteArray} : nxO s none = none := rfl
theorem nx_in {s : ByteArray} {k : Nat} (h : k < s.size) : nxO s (some (k : Int)) = some ((k : Int) + 1) ∧ nxI s (some (k : Int)) = bt s k := by
  have h1 : 0 ≤ (k : Int) ∧ (k : Int) < (s.size : Int) := by omega
  simp only [nxO, nxI, if_pos h1]
  exact ⟨trivial, rfl⟩
theorem nx_out {s : ByteArray} {a : Int} (h : a < 0 ∨ (s.size : Int) ≤ a) : nxO s (some a) = none ∧ nxI s (some a) = 0 := by
  have h1 : ¬ (0 ≤ a ∧ a < (s.size : Int)) := by omega
  simp only [nxO, nxI, if_neg h1]
  exact ⟨trivial, trivial⟩
theorem nxI_bd (s : ByteArray) (o : Option Int) : 0 ≤ nxI s o ∧ nxI s o ≤ 255 := by
  cases o with
  | none => simp [nxI]
  | some a =>
    simp only [nxI]
    split
    · exact bt_bd _ _
    · omega
/-- How the reader stands behind a number, and what it tells. -/
def nmS (s : ByteArray) (o o' : Option Int) (x : Int) : Prop := 0 ≤ x ∧ x ≤ 20000 ∧ (match o with
  | none => o' = none
  | some a => match nmO s a with
    | none => o' = none
    | some (n, k) => x = n ∧ o' = some k)
theorem rd_fail (b : Nat) (s : ByteArray) (o : Option Int) (w : World) (h : Rs w b s o) (hf : FormAt w) (hb : 0 ≠ b) :
    Calls Tryz.prog 85 #[.pointer (some ⟨b, 0, none⟩)] w fun e w' => (∃ v, e = .returned v) ∧ Rs w' b s none ∧ w.grownBy w' (some b) := by
  obtain ⟨ft, fv, hf⟩ := hf
  obtain ⟨a, er, h⟩ : ∃ a er, RdrAt w b s a er := by
    cases o with
    | none => obtain ⟨a, t, v, h⟩ := h; exact ⟨_, _, h⟩
    | some a => exact ⟨_, _, h⟩
  have c2 := h.c2
  have fr : ∀ o, w.frozen? ⟨b, o, none⟩ = false := fun o => h.fr
  have H : Hid (RdrAt w b s a er) := h
  clear h
  go_enter Tryz.func85, Tryz.ntmps85
  go_wp2
  go_end0
  exact ⟨⟨_, rfl⟩, ⟨_, _, _, RdrAt.put2 H.out _⟩, grown_setN _ _ _ _⟩
set_option maxHeartbeats 1000000 in
theorem rd_num (b : Nat) (s : ByteArray) (o : Option Int) (w : World) (hs : s.size ≤ 9223372036854775806) (h : Rs w b s o) (hf : FormAt w) (hb : 0 ≠ b) :
    Calls Tryz.prog 84 #[.pointer (some ⟨b, 0, none⟩)] w fun e w' => ∃ x o', e = .returned (.int .i64 x) ∧ nmS s o o' x ∧ Rs w' b s o' ∧ w.grownBy w' (some b) := by
  have b1 := nxI_bd s o
  have b2 := nxI_bd s (nxO s o)
  go_enter Tryz.func84, Tryz.ntmps84
  go_wp2_with fail
  refine (rd_next b s o _ hs h hf hb).mono ?_
  rintro e w1 ⟨rfl, r1, g1⟩
  have HF : Hid (FormAt w1) := hf.grown g1 hb
  have HR : Hid (Rs w1 b s (nxO s o) ∧ w.grownBy w1 (some b)) := ⟨r1, g1⟩
  clear r1 g1 h hf
  by_cases h1 : nxI s o < 128
  · go_wp2_with fail
    go_ret
    refine ⟨_, _, rfl, ⟨by omega, by omega, ?_⟩, HR.out.1, HR.out.2⟩
    cases o with
    | none => rfl
    | some a =>
      show match nmO s a with | none => nxO s (some a) = none | some (n, k) => nxI s (some a) = n ∧ nxO s (some a) = some k
      by_cases h2 : a < 0 ∨ (s.size : Int) ≤ a
      · rw [nmO_out h2]; exact (nx_out h2).1
      · obtain ⟨k, rfl⟩ := Int.eq_ofNat_of_zero_le (show 0 ≤ a by omega)
        have hk : k < s.size := by omega
        rw [(nx_in hk).2] at h1
        rw [nmO_one hk h1]
        exact ⟨(nx_in hk).2, (nx_in hk).1⟩
  · go_wp2_with fail
    refine (rd_next b s _ _ hs HR.out.1 HF.out hb).mono ?_
    rintro e w2 ⟨rfl, r2, g2⟩
    have HF2 : Hid (FormAt w2) := HF.out.grown g2 hb
    have HR2 : Hid (Rs w2 b s (nxO s (nxO s o)) ∧ w.grownBy w2 (some b)) := ⟨r2, grown_trans HR.out.2 g2⟩
    clear r2 g2 HF HR
    obtain ⟨k, rfl, hk⟩ : ∃ k : Nat, o = some (k : Int) ∧ k < s.size := by
      cases o with
      | none => simp [nxI] at h1
      | some a =>
        by_cases h2 : a < 0 ∨ (s.size : Int) ≤ a
        · rw [(nx_out h2).2] at h1; omega
        · exact ⟨a.toNat, by congr 1; omega, by omega⟩
    have e1 := (nx_in hk).2
    have e3 := (nx_in hk).1
    rw [e3] at HR2 b2 ⊢
    rw [e1] at h1 b1 ⊢
    by_cases h2 : bt s k = 128
    · rw [h2]
      go_wp2_with fail
      refine (rd_fail b s _ _ HR2.out.1 HF2.out hb).mono ?_
      rintro e w3 ⟨⟨v, rfl⟩, r3, g3⟩
      have HR3 : Hid (Rs w3 b s none ∧ w.grownBy w3 (some b)) := ⟨r3, grown_trans HR2.out.2 g3⟩
      clear r3 g3 HR2 HF2
      go_wp2_with fail
      go_ret
      refine ⟨_, _, rfl, ⟨by omega, by omega, ?_⟩, HR3.out.1, HR3.out.2⟩
      show match nmO s (k : Int) with | none => none = none | some (n, k') => _
      rw [nmO_bad hk (by omega) (.inr (.inl h2))]
    · have i2 : (bt s k == 128) = false := by simpa using h2
      by_cases h3 : 128 ≤ nxI s (some ((k : Int) + 1))
      · go_wp2_with fail
        refine (rd_fail b s _ _ HR2.out.1 HF2.out hb).mono ?_
        rintro e w3 ⟨⟨v, rfl⟩, r3, g3⟩
        have HR3 : Hid (Rs w3 b s none ∧ w.grownBy w3 (some b)) := ⟨r3, grown_trans HR2.out.2 g3⟩
        clear r3 g3 HR2 HF2
        go_wp2_with fail
        go_ret
        refine ⟨_, _, rfl, ⟨by omega, by omega, ?_⟩, HR3.out.1, HR3.out.2⟩
        show match nmO s (k : Int) with | none => none = none | some (n, k') => _
        rw [nmO_bad hk (by omega) ?_]
        by_cases h4 : k + 1 < s.size
        · have := (nx_in h4).2
          rw [show ((k + 1 : Nat) : Int) = (k : Int) + 1 by omega] at this
          rw [this] at h3
          exact .inr (.inr (by omega))
        · exact .inl (by omega)
      · go_wp2_with fail
        go_ret
        refine ⟨_, _, rfl, ⟨by omega, by omega, ?_⟩, HR2.out.1, HR2.out.2⟩
        show match nmO s (k : Int) with | none => nxO s (some ((k : Int) + 1)) = none | some (n, k') => _ = n ∧ nxO s (some ((k : Int) + 1)) = some k'
        by_cases h4 : k + 1 < s.size
        · have q1 := (nx_in h4).2
          have q2 := (nx_in h4).1
          rw [show ((k + 1 : Nat) : Int) = (k : Int) + 1 by omega] at q1 q2
          rw [q1] at h3 ⊢
          rw [q2, nmO_two h4 (by omega) (by omega)]
          exact ⟨rfl, by first | rfl | (congr 1; omega)⟩
        · rw [nmO_bad hk (by omega) (.inl (by omega))]
          exact (nx_out (.inr (by omega))).1
end Go.Proofs.YtlnpbfeihjfnjabGreatDoor.Lab

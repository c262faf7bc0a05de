/-
  Numbers read from bytes: in plain words, and contracts of NumAt (impl and spec) and of impl's reader (next, num).
  Rows read from bytes: in plain words, and the contract of spec.RowAt.
  Rows as bytes and back, in plain words: what is read where a row's bytes stand; a row's bytes that end too early.
-/
import Derived.Test.YtlnpbfeihjfnjaaGreatDoorRErr
import Derived.BigQuiet
import Derived.Deep.QuietTactic
import Derived.Deep.RegionHeld3
import Derived.Test.YtlnpbfeihjfnjaaGreatDoorNod
namespace Go.Proofs.YtlnpbfeihjfnjaaGreatDoor.Lab
open Go.RowKit
set_option linter.unusedVariables false

/-- The byte at a place. -/
def bt (s : ByteArray) (i : Nat) : Int := if h : i < s.size then ((s[i]'h).toNat : Int) else 0
theorem bt_in {s : ByteArray} {i : Nat} (h : i < s.size) : ((s[i]'h).toNat : Int) = bt s i := by simp [bt, h]
theorem bt_bd (s : ByteArray) (i : Nat) : 0 ≤ bt s i ∧ bt s i ≤ 255 := by
  unfold bt
  split
  · rename_i h
    have := (s[i]'h).toNat_lt
    omega
  · omega
/-- The number at a place, and the place behind it; none, if there is none. -/
def nmO (s : ByteArray) (at_ : Int) : Option (Int × Int) :=
  if at_ < 0 ∨ (s.size : Int) ≤ at_ then none
  else if bt s at_.toNat < 128 then some (bt s at_.toNat, at_ + 1)
  else if (s.size : Int) ≤ at_ + 1 ∨ bt s at_.toNat = 128 ∨ 127 < bt s (at_.toNat + 1) then none
  else some ((bt s at_.toNat - 128) * 128 + bt s (at_.toNat + 1), at_ + 2)
def nmV : Option (Int × Int) → Value
  | none => .tuple #[.int .i64 0, .int .i64 0, .bool false]
  | some (n, k) => .tuple #[.int .i64 n, .int .i64 k, .bool true]
theorem nmO_out {s : ByteArray} {at_ : Int} (h : at_ < 0 ∨ (s.size : Int) ≤ at_) : nmO s at_ = none := by simp [nmO, h]
theorem nmO_one {s : ByteArray} {k : Nat} (h : k < s.size) (h1 : bt s k < 128) : nmO s k = some (bt s k, (k : Int) + 1) := by
  have h2 : ¬ ((k : Int) < 0 ∨ (s.size : Int) ≤ (k : Int)) := by omega
  have h3 : (k : Int).toNat = k := rfl
  unfold nmO
  rw [if_neg h2, h3, if_pos h1]
theorem nmO_bad {s : ByteArray} {k : Nat} (h : k < s.size) (h1 : 128 ≤ bt s k) (h2 : s.size ≤ k + 1 ∨ bt s k = 128 ∨ 127 < bt s (k + 1)) : nmO s k = none := by
  have h3 : ¬ ((k : Int) < 0 ∨ (s.size : Int) ≤ (k : Int)) := by omega
  have h4 : (k : Int).toNat = k := rfl
  have h5 : ¬ bt s k < 128 := by omega
  have h6 : (s.size : Int) ≤ (k : Int) + 1 ∨ bt s k = 128 ∨ 127 < bt s (k + 1) := by omega
  unfold nmO
  rw [if_neg h3, h4, if_neg h5, if_pos h6]
theorem nmO_two {s : ByteArray} {k : Nat} (h : k + 1 < s.size) (h1 : 128 < bt s k) (h2 : bt s (k + 1) ≤ 127) : nmO s k = some ((bt s k - 128) * 128 + bt s (k + 1), (k : Int) + 2) := by
  have h3 : ¬ ((k : Int) < 0 ∨ (s.size : Int) ≤ (k : Int)) := by omega
  have h4 : (k : Int).toNat = k := rfl
  have h5 : ¬ bt s k < 128 := by omega
  have h6 : ¬ ((s.size : Int) ≤ (k : Int) + 1 ∨ bt s k = 128 ∨ 127 < bt s (k + 1)) := by omega
  unfold nmO
  rw [if_neg h3, h4, if_neg h5, if_neg h6]
set_option maxHeartbeats 1000000 in
theorem spec_NumAt (s : ByteArray) (at_ : Int) (w : World) (hs : s.size ≤ 9223372036854775807) :
    Calls Tryz.prog 119 #[.string s, .int .i64 at_] w fun e w' => e = .returned (nmV (nmO s at_)) ∧ Below w.heap.size w w' := by
  by_cases h1 : at_ < 0
  · rw [nmO_out (.inl h1)]
    go_enter Tryz.func119, Tryz.ntmps119
    go_wp2
    go_ret3
    exact ⟨rfl, by go_grown⟩
  by_cases h2 : (s.size : Int) ≤ at_
  · rw [nmO_out (.inr h2)]
    go_enter Tryz.func119, Tryz.ntmps119
    go_wp2
    go_ret3
    exact ⟨rfl, by go_grown⟩
  obtain ⟨k, rfl⟩ := Int.eq_ofNat_of_zero_le (show 0 ≤ at_ by omega)
  have hk : k < s.size := by omega
  have hb := bt_in hk
  have hd := bt_bd s k
  by_cases h3 : bt s k < 128
  · rw [nmO_one hk h3]
    go_enter Tryz.func119, Tryz.ntmps119
    go_wp2
    go_ret3
    exact ⟨rfl, by go_grown⟩
  by_cases h4 : s.size ≤ k + 1
  · rw [nmO_bad hk (by omega) (.inl h4)]
    go_enter Tryz.func119, Tryz.ntmps119
    go_wp2
    go_ret3
    exact ⟨rfl, by go_grown⟩
  by_cases h5 : bt s k = 128
  · rw [nmO_bad hk (by omega) (.inr (.inl h5))]
    rw [h5] at hb
    clear hd h3 h5
    go_enter Tryz.func119, Tryz.ntmps119
    go_wp2
    go_ret3
    exact ⟨rfl, by go_grown⟩
  have hk2 : k + 1 < s.size := by omega
  have hb2 := bt_in hk2
  have hd2 := bt_bd s (k + 1)
  by_cases h6 : 127 < bt s (k + 1)
  · rw [nmO_bad hk (by omega) (.inr (.inr h6))]
    go_enter Tryz.func119, Tryz.ntmps119
    go_wp2
    go_ret3
    exact ⟨rfl, by go_grown⟩
  · rw [nmO_two hk2 (by omega) (by omega)]
    have i4 : ¬ (s.size : Int) ≤ (k : Int) + 1 := by omega
    have i5 : (bt s k == 128) = false := by simpa using h5
    go_enter Tryz.func119, Tryz.ntmps119
    go_wp2
    go_ret3
    exact ⟨rfl, by go_grown⟩
/-- impl's reader lies in block b: its bytes, its place, its failure. -/
def RdrAt (w : World) (b : Nat) (s : ByteArray) (at_ : Int) (er : Value) : Prop := w.heap[b]? = some (.cells #[.string s, .int .i64 at_, er] 117 (0, 0))
/-- The reader stands at a place, or it has failed. -/
def Rs (w : World) (b : Nat) (s : ByteArray) : Option Int → Prop
  | some at_ => RdrAt w b s at_ .nilIface
  | none => ∃ at_ t v, RdrAt w b s at_ (.iface t v)
theorem RdrAt.c0 {w : World} {b : Nat} {s : ByteArray} {at_ : Int} {er : Value} (h : RdrAt w b s at_ er) : w.cell? ⟨b, 0, none⟩ = some (.string s) := by unfold RdrAt at h; simp [World.cell?, h]
theorem RdrAt.c1 {w : World} {b : Nat} {s : ByteArray} {at_ : Int} {er : Value} (h : RdrAt w b s at_ er) : w.cell? ⟨b, 1, none⟩ = some (.int .i64 at_) := by unfold RdrAt at h; simp [World.cell?, h]
theorem RdrAt.c2 {w : World} {b : Nat} {s : ByteArray} {at_ : Int} {er : Value} (h : RdrAt w b s at_ er) : w.cell? ⟨b, 2, none⟩ = some er := by unfold RdrAt at h; simp [World.cell?, h]
theorem RdrAt.fr {w : World} {b o : Nat} {s : ByteArray} {at_ : Int} {er : Value} (h : RdrAt w b s at_ er) : w.frozen? ⟨b, o, none⟩ = false := by unfold RdrAt at h; simp [World.frozen?, h]
theorem RdrAt.lt {w : World} {b : Nat} {s : ByteArray} {at_ : Int} {er : Value} (h : RdrAt w b s at_ er) : b < w.heap.size := lt_of_block h
theorem set_blk {w : World} {g e i : Nat} {cur : Array Value} {fz : Nat × Nat} (u : Value) (h : w.heap[g]? = some (.cells cur e fz)) : (w.setCell ⟨g, i, none⟩ u).heap[g]? = some (.cells (cur.setIfInBounds i u) e fz) := by
  have hlt := lt_of_block h
  have h' : w.heap[g] = .cells cur e fz := by simpa [Array.getElem?_eq_getElem hlt] using h
  show (w.heap.modify g _)[g]? = _
  rw [Array.getElem?_eq_getElem (by simpa using hlt), Array.getElem_modify_self, h']
  rfl
theorem RdrAt.put1 {w : World} {b : Nat} {s : ByteArray} {at_ : Int} {er : Value} (h : RdrAt w b s at_ er) (x : Int) : RdrAt (w.setCell ⟨b, 1, none⟩ (.int .i64 x)) b s x er := set_blk _ h
theorem RdrAt.put2 {w : World} {b : Nat} {s : ByteArray} {at_ : Int} {er : Value} (h : RdrAt w b s at_ er) (x : Value) : RdrAt (w.setCell ⟨b, 2, none⟩ x) b s at_ x := set_blk _ h
theorem RdrAt.drew {w : World} {b : Nat} {s : ByteArray} {at_ : Int} {er : Value} (h : RdrAt w b s at_ er) : RdrAt w.drew b s at_ er := h
theorem grown_setN (w : World) (b o : Nat) (u : Value) : w.grownBy (w.setCell ⟨b, o, none⟩ u) (some b) := by
  refine ⟨rfl, rfl, rfl, by simp [World.setCell], fun k hk hne => Below.heap_setCell _ _ _ _ (fun e => hne (by subst e; rfl))⟩
theorem grown_drew {w w' : World} {r : Option Nat} (h : w.grownBy w' r) : w.grownBy w'.drew r := ⟨h.os, h.tape, h.output, h.size, h.block⟩
theorem grown_dn (w : World) (r : Option Nat) (n : Nat) : w.grownBy (w.drewN n) r := ⟨rfl, rfl, rfl, Nat.le_refl _, fun _ _ _ => rfl⟩
theorem Below.drews {B : Nat} {a w : World} (h : Below B a w) (n : Nat) : Below B a (w.drewN n) := ⟨h.os, h.tape, h.output, h.size, h.block⟩
theorem grown_reflN (w : World) (r : Option Nat) : w.grownBy w r := ⟨rfl, rfl, rfl, Nat.le_refl _, fun _ _ _ => rfl⟩
theorem grown_trans {a b c : World} {r : Option Nat} (h : a.grownBy b r) (k : b.grownBy c r) : a.grownBy c r :=
  ⟨k.os.trans h.os, k.tape.trans h.tape, k.output.trans h.output, Nat.le_trans h.size k.size, fun j hj hne => (k.block j (Nat.lt_of_lt_of_le hj h.size) hne).trans (h.block j hj hne)⟩
theorem FormAt.grown {w w' : World} {b : Nat} (h : FormAt w) (hg : w.grownBy w' (some b)) (hb : 0 ≠ b) : FormAt w' := by
  have hl := h.lt
  obtain ⟨t, v, h⟩ := h
  exact ⟨t, v, by rw [World.cell?_of_block (a := ⟨0, 0, none⟩) (hg.block _ hl (fun e => hb (Option.some.inj e)))]; exact h⟩
/-- What the next byte is, and where the reader stands then. -/
def nxO (s : ByteArray) : Option Int → Option Int
  | none => none
  | some a => if 0 ≤ a ∧ a < (s.size : Int) then some (a + 1) else none
def nxI (s : ByteArray) : Option Int → Int
  | none => 0
  | some a => if 0 ≤ a ∧ a < (s.size : Int) then bt s a.toNat else 0
set_option maxHeartbeats 1000000 in
theorem rd_next (b : Nat) (s : ByteArray) (o : Option Int) (w : World) (hs : s.size ≤ 9223372036854775806) (h : Rs w b s o) (hf : FormAt w) (hb : 0 ≠ b) :
    Calls Tryz.prog 135 #[.pointer (some ⟨b, 0, none⟩)] w fun e w' => e = .returned (.int .i64 (nxI s o)) ∧ Rs w' b s (nxO s o) ∧ w.grownBy w' (some b) := by
  obtain ⟨ft, fv, hf⟩ := hf
  cases o with
  | none =>
    obtain ⟨a, t, v, h⟩ := h
    have c0 := h.c0
    have c1 := h.c1
    have c2 := h.c2
    have fr : ∀ o, w.frozen? ⟨b, o, none⟩ = false := fun o => h.fr
    have H : Hid (RdrAt w b s a (.iface t v)) := h
    clear h
    by_cases h1 : a < 0
    · go_enter Tryz.func135, Tryz.ntmps135
      go_wp2
      go_quiet (fail)
      go_wp2
      go_ret
      exact ⟨rfl, ⟨_, _, _, RdrAt.put2 (H.out.drew) _⟩, grown_trans (grown_dn _ _ _) (grown_setN _ _ _ _)⟩
    by_cases h2 : (s.size : Int) ≤ a
    · go_enter Tryz.func135, Tryz.ntmps135
      go_wp2
      go_quiet (fail)
      go_wp2
      go_ret
      exact ⟨rfl, ⟨_, _, _, RdrAt.put2 (H.out.drew) _⟩, grown_trans (grown_dn _ _ _) (grown_setN _ _ _ _)⟩
    · go_enter Tryz.func135, Tryz.ntmps135
      go_wp2
      go_quiet (fail)
      go_wp2
      go_ret
      exact ⟨rfl, ⟨_, _, _, H.out.drew⟩, grown_dn _ _ _⟩
  | some a =>
    have h : RdrAt w b s a .nilIface := h
    have c0 := h.c0
    have c1 := h.c1
    have c2 := h.c2
    have fr : ∀ o, w.frozen? ⟨b, o, none⟩ = false := fun o => h.fr
    have H : Hid (RdrAt w b s a .nilIface) := h
    clear h
    by_cases h1 : a < 0
    · have e1 : nxI s (some a) = 0 := by simp only [nxI]; rw [if_neg (by omega)]
      have e2 : nxO s (some a) = none := by simp only [nxO]; rw [if_neg (by omega)]
      rw [e1, e2]
      go_enter Tryz.func135, Tryz.ntmps135
      go_wp2
      go_quiet (fail)
      go_wp2
      go_ret
      exact ⟨rfl, ⟨_, _, _, RdrAt.put2 (H.out.drew) _⟩, grown_trans (grown_dn _ _ _) (grown_setN _ _ _ _)⟩
    by_cases h2 : (s.size : Int) ≤ a
    · have e1 : nxI s (some a) = 0 := by simp only [nxI]; rw [if_neg (by omega)]
      have e2 : nxO s (some a) = none := by simp only [nxO]; rw [if_neg (by omega)]
      rw [e1, e2]
      go_enter Tryz.func135, Tryz.ntmps135
      go_wp2
      go_quiet (fail)
      go_wp2
      go_ret
      exact ⟨rfl, ⟨_, _, _, RdrAt.put2 (H.out.drew) _⟩, grown_trans (grown_dn _ _ _) (grown_setN _ _ _ _)⟩
    · have e1 : nxI s (some a) = bt s a.toNat := by simp only [nxI]; rw [if_pos (by omega)]
      have e2 : nxO s (some a) = some (a + 1) := by simp only [nxO]; rw [if_pos (by omega)]
      rw [e1, e2]
      obtain ⟨k, rfl⟩ := Int.eq_ofNat_of_zero_le (show 0 ≤ a by omega)
      have hk : k < s.size := by omega
      have hbt := bt_in hk
      have hd := bt_bd s k
      clear e1 e2
      go_enter Tryz.func135, Tryz.ntmps135
      go_wp2
      go_quiet (fail)
      go_wp2
      go_quiet (fail)
      go_wp2
      go_ret
      exact ⟨rfl, RdrAt.put1 (H.out.drew) _, grown_trans (grown_dn _ _ _) (grown_setN _ _ _ _)⟩
/-- What the number is that is read next: of worth only if the reader has not failed. -/
theorem nxO_none {s : ByteArray} : nxO s none = none := rfl
theorem nx_in {s : ByteArray} {k : Nat} (h : k < s.size) : nxO s (some (k : Int)) = some ((k : Int) + 1) ∧ nxI s (some (k : Int)) = bt s k := by
  have h1 : 0 ≤ (k : Int) ∧ (k : Int) < (s.size : Int) := by omega
  simp only [nxO, nxI, if_pos h1]
  exact ⟨trivial, rfl⟩
theorem nx_out {s : ByteArray} {a : Int} (h : a < 0 ∨ (s.size : Int) ≤ a) : nxO s (some a) = none ∧ nxI s (some a) = 0 := by
  have h1 : ¬ (0 ≤ a ∧ a < (s.size : Int)) := by omega
  simp only [nxO, nxI, if_neg h1]
  exact ⟨trivial, trivial⟩
theorem nxI_bd (s : ByteArray) (o : Option Int) : 0 ≤ nxI s o ∧ nxI s o ≤ 255 := by
  cases o with
  | none => simp [nxI]
  | some a =>
    simp only [nxI]
    split
    · exact bt_bd _ _
    · omega
/-- How the reader stands behind a number, and what it tells. -/
def nmS (s : ByteArray) (o o' : Option Int) (x : Int) : Prop := 0 ≤ x ∧ x ≤ 20000 ∧ (match o with
  | none => o' = none
  | some a => match nmO s a with
    | none => o' = none
    | some (n, k) => x = n ∧ o' = some k)
theorem rd_fail (b : Nat) (s : ByteArray) (o : Option Int) (w : World) (h : Rs w b s o) (hf : FormAt w) (hb : 0 ≠ b) :
    Calls Tryz.prog 115 #[.pointer (some ⟨b, 0, none⟩)] w fun e w' => (∃ v, e = .returned v) ∧ Rs w' b s none ∧ w.grownBy w' (some b) := by
  obtain ⟨ft, fv, hf⟩ := hf
  obtain ⟨a, er, h⟩ : ∃ a er, RdrAt w b s a er := by
    cases o with
    | none => obtain ⟨a, t, v, h⟩ := h; exact ⟨_, _, h⟩
    | some a => exact ⟨_, _, h⟩
  have c2 := h.c2
  have fr : ∀ o, w.frozen? ⟨b, o, none⟩ = false := fun o => h.fr
  have H : Hid (RdrAt w b s a er) := h
  clear h
  go_enter Tryz.func115, Tryz.ntmps115
  go_wp2
  go_end0
  exact ⟨⟨_, rfl⟩, ⟨_, _, _, RdrAt.put2 H.out _⟩, grown_setN _ _ _ _⟩
set_option maxHeartbeats 1000000 in
theorem rd_num (b : Nat) (s : ByteArray) (o : Option Int) (w : World) (hs : s.size ≤ 9223372036854775806) (h : Rs w b s o) (hf : FormAt w) (hb : 0 ≠ b) :
    Calls Tryz.prog 114 #[.pointer (some ⟨b, 0, none⟩)] w fun e w' => ∃ x o', e = .returned (.int .i64 x) ∧ nmS s o o' x ∧ Rs w' b s o' ∧ w.grownBy w' (some b) := by
  have b1 := nxI_bd s o
  have b2 := nxI_bd s (nxO s o)
  go_enter Tryz.func114, Tryz.ntmps114
  go_wp2_with fail
  refine (rd_next b s o _ hs h hf hb).mono ?_
  rintro e w1 ⟨rfl, r1, g1⟩
  have HF : Hid (FormAt w1) := hf.grown g1 hb
  have HR : Hid (Rs w1 b s (nxO s o) ∧ w.grownBy w1 (some b)) := ⟨r1, g1⟩
  clear r1 g1 h hf
  by_cases h1 : nxI s o < 128
  · go_wp2_with fail
    go_ret
    refine ⟨_, _, rfl, ⟨by omega, by omega, ?_⟩, HR.out.1, HR.out.2⟩
    cases o with
    | none => rfl
    | some a =>
      show match nmO s a with | none => nxO s (some a) = none | some (n, k) => nxI s (some a) = n ∧ nxO s (some a) = some k
      by_cases h2 : a < 0 ∨ (s.size : Int) ≤ a
      · rw [nmO_out h2]; exact (nx_out h2).1
      · obtain ⟨k, rfl⟩ := Int.eq_ofNat_of_zero_le (show 0 ≤ a by omega)
        have hk : k < s.size := by omega
        rw [(nx_in hk).2] at h1
        rw [nmO_one hk h1]
        exact ⟨(nx_in hk).2, (nx_in hk).1⟩
  · go_wp2_with fail
    refine (rd_next b s _ _ hs HR.out.1 HF.out hb).mono ?_
    rintro e w2 ⟨rfl, r2, g2⟩
    have HF2 : Hid (FormAt w2) := HF.out.grown g2 hb
    have HR2 : Hid (Rs w2 b s (nxO s (nxO s o)) ∧ w.grownBy w2 (some b)) := ⟨r2, grown_trans HR.out.2 g2⟩
    clear r2 g2 HF HR
    obtain ⟨k, rfl, hk⟩ : ∃ k : Nat, o = some (k : Int) ∧ k < s.size := by
      cases o with
      | none => simp [nxI] at h1
      | some a =>
        by_cases h2 : a < 0 ∨ (s.size : Int) ≤ a
        · rw [(nx_out h2).2] at h1; omega
        · exact ⟨a.toNat, by congr 1; omega, by omega⟩
    have e1 := (nx_in hk).2
    have e3 := (nx_in hk).1
    rw [e3] at HR2 b2 ⊢
    rw [e1] at h1 b1 ⊢
    by_cases h2 : bt s k = 128
    · rw [h2]
      go_wp2_with fail
      refine (rd_fail b s _ _ HR2.out.1 HF2.out hb).mono ?_
      rintro e w3 ⟨⟨v, rfl⟩, r3, g3⟩
      have HR3 : Hid (Rs w3 b s none ∧ w.grownBy w3 (some b)) := ⟨r3, grown_trans HR2.out.2 g3⟩
      clear r3 g3 HR2 HF2
      go_wp2_with fail
      go_ret
      refine ⟨_, _, rfl, ⟨by omega, by omega, ?_⟩, HR3.out.1, HR3.out.2⟩
      show match nmO s (k : Int) with | none => none = none | some (n, k') => _
      rw [nmO_bad hk (by omega) (.inr (.inl h2))]
    · have i2 : (bt s k == 128) = false := by simpa using h2
      by_cases h3 : 128 ≤ nxI s (some ((k : Int) + 1))
      · go_wp2_with fail
        refine (rd_fail b s _ _ HR2.out.1 HF2.out hb).mono ?_
        rintro e w3 ⟨⟨v, rfl⟩, r3, g3⟩
        have HR3 : Hid (Rs w3 b s none ∧ w.grownBy w3 (some b)) := ⟨r3, grown_trans HR2.out.2 g3⟩
        clear r3 g3 HR2 HF2
        go_wp2_with fail
        go_ret
        refine ⟨_, _, rfl, ⟨by omega, by omega, ?_⟩, HR3.out.1, HR3.out.2⟩
        show match nmO s (k : Int) with | none => none = none | some (n, k') => _
        rw [nmO_bad hk (by omega) ?_]
        by_cases h4 : k + 1 < s.size
        · have := (nx_in h4).2
          rw [show ((k + 1 : Nat) : Int) = (k : Int) + 1 by omega] at this
          rw [this] at h3
          exact .inr (.inr (by omega))
        · exact .inl (by omega)
      · go_wp2_with fail
        go_ret
        refine ⟨_, _, rfl, ⟨by omega, by omega, ?_⟩, HR2.out.1, HR2.out.2⟩
        show match nmO s (k : Int) with | none => nxO s (some ((k : Int) + 1)) = none | some (n, k') => _ = n ∧ nxO s (some ((k : Int) + 1)) = some k'
        by_cases h4 : k + 1 < s.size
        · have q1 := (nx_in h4).2
          have q2 := (nx_in h4).1
          rw [show ((k + 1 : Nat) : Int) = (k : Int) + 1 by omega] at q1 q2
          rw [q1] at h3 ⊢
          rw [q2, nmO_two h4 (by omega) (by omega)]
          exact ⟨rfl, by first | rfl | (congr 1; omega)⟩
        · rw [nmO_bad hk (by omega) (.inl (by omega))]
          exact (nx_out (.inr (by omega))).1
end Go.Proofs.YtlnpbfeihjfnjaaGreatDoor.Lab
namespace Go.Proofs.YtlnpbfeihjfnjaaGreatDoor.Lab
open Go.RowKit
set_option linter.unusedVariables false
theorem nmO_bd {s : ByteArray} {a n k : Int} (h : nmO s a = some (n, k)) : 0 ≤ n ∧ n ≤ 16383 ∧ a < k ∧ 0 ≤ a ∧ k ≤ s.size := by
  by_cases h1 : a < 0 ∨ (s.size : Int) ≤ a
  · rw [nmO_out h1] at h; cases h
  obtain ⟨j, rfl⟩ := Int.eq_ofNat_of_zero_le (show 0 ≤ a by omega)
  have hj : j < s.size := by omega
  have b1 := bt_bd s j
  have b2 := bt_bd s (j + 1)
  by_cases h2 : bt s j < 128
  · rw [nmO_one hj h2] at h
    simp only [Option.some.injEq, Prod.mk.injEq] at h
    omega
  · by_cases h3 : s.size ≤ j + 1 ∨ bt s j = 128 ∨ 127 < bt s (j + 1)
    · rw [nmO_bad hj (by omega) h3] at h; cases h
    · rw [nmO_two (by omega) (by omega) (by omega)] at h
      simp only [Option.some.injEq, Prod.mk.injEq] at h
      omega
/-- So many gaps more are read from a place on, behind what has been read. -/
def rwK (s : ByteArray) : Nat → Int → Int → List Int → Option (List Int × Int)
  | 0, k, last, acc => some (acc, k)
  | c + 1, k, last, acc => match nmO s k with
    | none => none
    | some (g, k') => if 16383 < last + 1 + g then none else rwK s c k' (last + 1 + g) (acc ++ [last + 1 + g])
/-- The row at a place, and the place behind it; none, if there is none. -/
def rwO (s : ByteArray) (a : Int) : Option (List Int × Int) := match nmO s a with
  | none => none
  | some (n, k) => if 127 < n then none else rwK s n.toNat k (-1) []
theorem rwK_succ {s : ByteArray} {c : Nat} {k last : Int} {acc : List Int} : rwK s (c + 1) k last acc = match nmO s k with
    | none => none
    | some (g, k') => if 16383 < last + 1 + g then none else rwK s c k' (last + 1 + g) (acc ++ [last + 1 + g]) := rfl
theorem rwK_len {s : ByteArray} : ∀ (c : Nat) (k last : Int) (acc : List Int) {l : List Int} {k' : Int}, rwK s c k last acc = some (l, k') → l.length = acc.length + c := by
  intro c
  induction c with
  | zero => intro k last acc l k' h; simp only [rwK, Option.some.injEq, Prod.mk.injEq] at h; rw [← h.1]; rfl
  | succ c ih =>
    intro k last acc l k' h
    rw [rwK_succ] at h
    cases hq : nmO s k with
    | none => rw [hq] at h; cases h
    | some y =>
      obtain ⟨g, k2⟩ := y
      rw [hq] at h
      simp only at h
      split at h
      · cases h
      · have := ih _ _ _ h
        simp at this; omega
theorem own_zero {w : World} {base B e size : Nat} (h : w.heap[B]? = some (.cells #[] e (0, 0))) (hb : base ≤ B) : w.ownsRow base e size (.slice (some ⟨B, 0, none⟩) 0 0) 0 [] :=
  ⟨by simp, .inr ⟨B, 0, #[], rfl, hb, h, Nat.le_refl _, by unfold maxLen; omega, by simp, by simp⟩⟩
/-- What RowAt hands back. -/
def RwRet (w : World) (base : Nat) (v : Value) : Option (List Int × Int) → Prop
  | none => ∃ u, v = .tuple #[u, .int .i64 0, .bool false] ∧ w.ownsRow base 3 1 u 0 []
  | some (l, k) => ∃ u, v = .tuple #[u, .int .i64 k, .bool true] ∧ w.ownsRow base 3 1 u l.length (l.flatMap encI)
set_option maxRecDepth 8000 in
set_option maxHeartbeats 4000000 in
theorem spec_RowAt (s : ByteArray) (at_ : Int) (w : World) (hs : s.size ≤ 1048576) :
    Calls Tryz.prog 83 #[.string s, .int .i64 at_] w fun e w' => ∃ v, e = .returned v ∧ RwRet w' w.heap.size v (rwO s at_) ∧ Below w.heap.size w w' := by
  obtain ⟨i0, hi, hz0, hz1, hz2⟩ := info_parts Tryz.infoI
  cases hq : nmO s at_ with
  | none =>
    have HR : Hid (rwO s at_ = none) := by show rwO s at_ = none; simp [rwO, hq]
    have HQ : Hid (nmO s at_ = none) := hq
    clear hq
    go_enter Tryz.func83, Tryz.ntmps83
    go_wp2_with fail
    refine (spec_NumAt s at_ _ (by omega)).mono ?_
    rintro e w1 ⟨rfl, b1⟩
    rw [HQ.out]
    simp only [nmV]
    have B1 : Hid (Below w.heap.size w w1) := b1
    clear b1
    go_wp2_with fail
    go_ret3
    exact ⟨_, rfl, by rw [HR.out]; exact ⟨_, rfl, own_zero (new_block _ _) B1.out.size⟩, B1.out.alloc B1.out.size _⟩
  | some y =>
    obtain ⟨n, k⟩ := y
    have bd := nmO_bd hq
    have HQ : Hid (nmO s at_ = some (n, k)) := hq
    by_cases h127 : 127 < n
    · have HR : Hid (rwO s at_ = none) := by show rwO s at_ = none; simp [rwO, hq, h127]
      clear hq
      go_enter Tryz.func83, Tryz.ntmps83
      go_wp2_with fail
      refine (spec_NumAt s at_ _ (by omega)).mono ?_
      rintro e w1 ⟨rfl, b1⟩
      rw [HQ.out]
      simp only [nmV]
      have B1 : Hid (Below w.heap.size w w1) := b1
      clear b1
      go_wp2_with fail
      go_ret3
      exact ⟨_, rfl, by rw [HR.out]; exact ⟨_, rfl, own_zero (new_block _ _) B1.out.size⟩, B1.out.alloc B1.out.size _⟩
    · have HR : Hid (rwO s at_ = rwK s n.toNat k (-1) []) := by show rwO s at_ = _; simp [rwO, hq, h127]
      obtain ⟨c, rfl⟩ := Int.eq_ofNat_of_zero_le bd.1
      clear hq
      go_enter Tryz.func83, Tryz.ntmps83
      go_wp2_with fail
      refine (spec_NumAt s at_ _ (by omega)).mono ?_
      rintro e w1 ⟨rfl, b1⟩
      rw [HQ.out]
      simp only [nmV]
      have B1 : Hid (Below w.heap.size w w1) := b1
      clear b1
      go_wp2_with fail
      go_loopw [8, 9, 10, 11, 12] (fun q8 q9 q10 q11 q12 wr => ∃ (j : Nat) (p last : Int) (acc : List Int), j ≤ c ∧ q8 = .int .i64 p ∧ q9 = .bool true ∧ q11 = .int .i64 last ∧ q12 = .int .i64 j ∧ acc.length = j ∧ -1 ≤ last ∧ last ≤ 16383 ∧ rwK s (c - j) p last acc = rwK s c k (-1) [] ∧ Below w.heap.size w wr ∧ wr.ownsRow w.heap.size 3 1 q10 acc.length (acc.flatMap encI)) (fun _ _ _ _ q12 _ => c - (intOf q12).toNat)
      case atStart => exact ⟨0, k, -1, [], by omega, rfl, rfl, rfl, rfl, rfl, by omega, by omega, rfl, B1.out.alloc B1.out.size _, own_zero (new_block _ _) B1.out.size⟩
      case round =>
        obtain ⟨j, p, last, acc, hj, rfl, rfl, rfl, rfl, hal, l0, l1, hk, hbel, hown⟩ := hrel
        obtain ⟨xa, xc, rfl⟩ := own_form hown
        have hsz := hbel.size
        have HAL : Hid (acc.length = j) := hal
        clear hal
        by_cases hlt : j < c
        · have hc : c - j = (c - (j + 1)) + 1 := by omega
          rw [hc, rwK_succ] at hk
          have HB : Hid (Below w.heap.size w wr) := hbel
          cases hq : nmO s p with
          | none =>
            rw [hq] at hk
            have HK : Hid (none = rwK s c k (-1) []) := hk
            have HQ2 : Hid (nmO s p = none) := hq
            clear hk hq hown hbel
            go_wp2_with fail
            refine (spec_NumAt s p _ (by omega)).mono ?_
            rintro e w2 ⟨rfl, b2⟩
            rw [HQ2.out]
            simp only [nmV]
            have B2 : Hid (Below w.heap.size w w2) := HB.out.trans (b2.mono HB.out.size)
            clear b2
            go_wp2_with fail
            go_ret3
            exact ⟨_, rfl, by rw [HR.out]; show RwRet _ _ _ (rwK s c k (-1) []); rw [← HK.out]; exact ⟨_, rfl, own_zero (new_block _ _) B2.out.size⟩, B2.out.alloc B2.out.size _⟩
          | some y =>
            obtain ⟨g, p'⟩ := y
            have bg := nmO_bd hq
            rw [hq] at hk
            simp only at hk
            have HQ2 : Hid (nmO s p = some (g, p')) := hq
            by_cases hbig : 16383 < last + 1 + g
            · rw [if_pos hbig] at hk
              have HK : Hid (none = rwK s c k (-1) []) := hk
              clear hk hq hown hbel
              go_wp2_with fail
              refine (spec_NumAt s p _ (by omega)).mono ?_
              rintro e w2 ⟨rfl, b2⟩
              rw [HQ2.out]
              simp only [nmV]
              have B2 : Hid (Below w.heap.size w w2) := HB.out.trans (b2.mono HB.out.size)
              clear b2
              go_wp2_with fail
              go_ret3
              exact ⟨_, rfl, by rw [HR.out]; show RwRet _ _ _ (rwK s c k (-1) []); rw [← HK.out]; exact ⟨_, rfl, own_zero (new_block _ _) B2.out.size⟩, B2.out.alloc B2.out.size _⟩
            · rw [if_neg hbig] at hk
              have HK : Hid (rwK s (c - (j + 1)) p' (last + 1 + g) (acc ++ [last + 1 + g]) = rwK s c k (-1) []) := hk
              have LT : Hid (∀ z, (Value.slice xa acc.length xc).ownBlock = some z → w.heap.size ≤ z) := fun z hz => (hown.lt z hz).1
              have HO : Hid (∀ w', Below wr.heap.size wr w' → w'.ownsRow w.heap.size 3 1 (.slice xa acc.length xc) acc.length (acc.flatMap encI)) := fun w' hb => own_keep hown hb
              clear hk hq hown hbel
              go_wp2_with fail
              refine (spec_NumAt s p _ (by omega)).mono ?_
              rintro e w2 ⟨rfl, b2⟩
              rw [HQ2.out]
              simp only [nmV]
              have B2 : Hid (Below w.heap.size w w2) := HB.out.trans (b2.mono HB.out.size)
              have hown := HO.out _ b2
              have s2 := B2.out.size
              clear b2 HO
              go_wp2_with (at_builtin; refine wpList_append_own _ rfl _ _ 81 rfl w.heap.size 3 i0 _ 1 8 Tryz.underlying81 hi hz0 hz1 hz2 rfl (by decide) _ _ _ rfl (hown.alloc _) ⟨w2.heap.size, 0, none⟩ 1 1 [.int .i64 (last + 1 + g)] rfl rfl ?c1 ?c2 ?c3 ?c4 ?c5 ?_)
              case c1 =>
                intro i u hu
                match i, hu with
                | 0, hu => simp at hu; subst hu; simp [Addr.add]
              case c2 => intro u hu; simp at hu; subst hu; rfl
              case c3 => have := HAL.out; unfold maxLen; omega
              case c4 => have := HAL.out; omega
              case c5 => simp; omega
              · intro v' w3 hown' hgrow _
                have R : Hid (Below w.heap.size w w3 ∧ w3.ownsRow w.heap.size 3 1 v' (acc ++ [last + 1 + g]).length ((acc ++ [last + 1 + g]).flatMap encI)) :=
                  ⟨(B2.out.alloc (by omega) _).grown hgrow (by simp; omega) (fun z hz => LT.out z hz), by simpa [List.flatMap_append, encI] using hown'⟩
                clear hown' hgrow hown
                go_wp2_with fail
                go_roundw
                case rel => exact ⟨j + 1, p', last + 1 + g, acc ++ [last + 1 + g], by omega, rfl, rfl, rfl, by go_num, by simp [HAL.out], by omega, by omega, HK.out, R.out⟩
                case measure => simp [intOf]; omega
        · have hjc : j = c := by omega
          subst hjc
          rw [Nat.sub_self] at hk
          have HK : Hid (some (acc, p) = rwK s j k (-1) []) := hk
          have HO : Hid (wr.ownsRow w.heap.size 3 1 (.slice xa acc.length xc) acc.length (acc.flatMap encI)) := hown
          clear hk hown
          go_wp2_with fail
          go_ret3
          exact ⟨_, rfl, by rw [HR.out]; show RwRet _ _ _ (rwK s j k (-1) []); rw [← HK.out]; exact ⟨_, rfl, HO.out⟩, hbel⟩
end Go.Proofs.YtlnpbfeihjfnjaaGreatDoor.Lab
namespace Go.Proofs.YtlnpbfeihjfnjaaGreatDoor.Lab
open Go.RowKit
set_option linter.unusedVariables false
theorem size_mk (l : List UInt8) : (ByteArray.mk l.toArray).size = l.length := by simp [ByteArray.size]
theorem bt_mk {l : List UInt8} {i : Nat} {c : UInt8} (h : l[i]? = some c) : bt ⟨l.toArray⟩ i = (c.toNat : Int) := by
  obtain ⟨hl, hc⟩ := List.getElem?_eq_some_iff.1 h
  have hs : i < (ByteArray.mk l.toArray).size := by rw [size_mk]; exact hl
  rw [← bt_in hs]
  have : (ByteArray.mk l.toArray)[i] = l[i] := rfl
  rw [this, hc]
/-- A number's bytes are read, whatever is ahead of them and behind. -/
theorem nm_at (P Q : List UInt8) {n : Int} (h0 : 0 ≤ n) (h1 : n ≤ 16383) : nmO ⟨(P ++ pkL n ++ Q).toArray⟩ (P.length : Int) = some (n, (P.length : Int) + (pkL n).length) := by
  by_cases h : n < 128
  · rw [pkL_one h0 h]
    have hb : bt ⟨(P ++ [UInt8.ofNat n.toNat] ++ Q).toArray⟩ P.length = n := by
      rw [bt_mk (c := UInt8.ofNat n.toNat) (by simp), byte_nat _ (by omega)]; omega
    rw [nmO_one (by rw [size_mk]; simp) (by rw [hb]; omega), hb]
    simp
  · rw [pkL_two (by omega) h1]
    have hb : bt ⟨(P ++ [UInt8.ofNat (128 + n.toNat / 128), UInt8.ofNat (n.toNat % 128)] ++ Q).toArray⟩ P.length = 128 + n / 128 := by
      rw [bt_mk (c := UInt8.ofNat (128 + n.toNat / 128)) (by simp), byte_nat _ (by omega)]; omega
    have hc : bt ⟨(P ++ [UInt8.ofNat (128 + n.toNat / 128), UInt8.ofNat (n.toNat % 128)] ++ Q).toArray⟩ (P.length + 1) = n % 128 := by
      rw [bt_mk (c := UInt8.ofNat (n.toNat % 128)) (by simp), byte_nat _ (by omega)]; omega
    rw [nmO_two (by rw [size_mk]; simp) (by rw [hb]; omega) (by rw [hc]; omega), hb, hc]
    simp; omega
/-- A number's bytes that end too early are none. -/
theorem nm_cut (P : List UInt8) {n : Int} (h0 : 0 ≤ n) (h1 : n ≤ 16383) : nmO ⟨(P ++ (pkL n).dropLast).toArray⟩ (P.length : Int) = none := by
  by_cases h : n < 128
  · rw [pkL_one h0 h]
    exact nmO_out (.inr (by rw [size_mk]; simp))
  · rw [pkL_two (by omega) h1]
    have hb : bt ⟨(P ++ [UInt8.ofNat (128 + n.toNat / 128)]).toArray⟩ P.length = 128 + n / 128 := by
      rw [bt_mk (c := UInt8.ofNat (128 + n.toNat / 128)) (by simp), byte_nat _ (by omega)]; omega
    show nmO ⟨(P ++ [UInt8.ofNat (128 + n.toNat / 128)]).toArray⟩ (P.length : Int) = none
    exact nmO_bad (by rw [size_mk]; simp) (by rw [hb]; omega) (.inl (by rw [size_mk]; simp))
theorem gap_bd {l : List Int} (hok : ∀ j, j < l.length → okAt l j = true) {k : Nat} (hk : k < l.length) : 0 ≤ gapAt l k ∧ gapAt l k ≤ 16383 ∧ lastAt l k + 1 + gapAt l k = l[k] ∧ l[k] ≤ 16383 := by
  have hx : l[k]? = some l[k] := List.getElem?_eq_getElem hk
  obtain ⟨a, b, c⟩ := (okAt_iff hx).1 (hok k hk)
  have d := lastAt_bd (fun i hi => hok i (by omega) : ∀ i, i < k → okAt l i = true)
  unfold gapAt
  rw [getD_of hx]
  omega
theorem last_succ {l : List Int} {k : Nat} (hk : k < l.length) : lastAt l (k + 1) = l[k] := by
  simp only [lastAt, if_neg (Nat.succ_ne_zero k), Nat.add_sub_cancel]
  exact getD_of (List.getElem?_eq_getElem hk)
theorem rowK_split (l : List Int) (k m : Nat) : rowK l (k + m) = rowK l k ++ (List.range' k m).flatMap (fun j => pkL (gapAt l j)) := by
  induction m with
  | zero => simp
  | succ m ih =>
    rw [← Nat.add_assoc, rowK_succ, ih, List.range'_concat, List.flatMap_append, List.append_assoc]
    simp
/-- The gaps from place k on are read, whatever is ahead of the row and behind it. -/
theorem rwK_at (P Q : List UInt8) (l : List Int) (hok : ∀ j, j < l.length → okAt l j = true) : ∀ (m k : Nat), k + m = l.length →
    rwK ⟨(P ++ rowK l l.length ++ Q).toArray⟩ m ((P.length : Int) + (rowK l k).length) (lastAt l k) (l.take k) = some (l, (P.length : Int) + (rowK l l.length).length) := by
  intro m
  induction m with
  | zero =>
    intro k hk
    have : k = l.length := by omega
    subst this
    simp [rwK]
  | succ m ih =>
    intro k hk
    have hkl : k < l.length := by omega
    obtain ⟨g0, g1, g2, g3⟩ := gap_bd hok hkl
    have hsp : P ++ rowK l l.length ++ Q = (P ++ rowK l k) ++ pkL (gapAt l k) ++ ((List.range' (k + 1) m).flatMap (fun j => pkL (gapAt l j)) ++ Q) := by
      have h2 : l.length = (k + 1) + m := by omega
      rw [h2, rowK_split, rowK_succ]
      simp [List.append_assoc]
    have hn := nm_at (P ++ rowK l k) ((List.range' (k + 1) m).flatMap (fun j => pkL (gapAt l j)) ++ Q) g0 g1
    rw [← hsp] at hn
    have hpl : ((P ++ rowK l k).length : Int) = (P.length : Int) + (rowK l k).length := by simp
    rw [hpl] at hn
    rw [rwK_succ, hn]
    simp only
    rw [g2, if_neg (by omega)]
    have := ih (k + 1) (by omega)
    rw [rowK_succ, last_succ hkl, List.take_add_one, List.getElem?_eq_getElem hkl] at this
    rw [← this]
    congr 1
    simp; omega
/-- A row's bytes are read, whatever is ahead of them and behind. -/
theorem rw_at (P Q : List UInt8) {l : List Int} (h : upB l = true) : rwO ⟨(P ++ rowL l ++ Q).toArray⟩ (P.length : Int) = some (l, (P.length : Int) + (rowL l).length) := by
  obtain ⟨hok, hlen⟩ := upB_all h
  have hr : rowL l = rowK l l.length := by simp [rowL, h]
  rw [hr]
  have h2 : rowK l l.length = pkL l.length ++ (List.range l.length).flatMap (fun j => pkL (gapAt l j)) := rfl
  have hn := nm_at P ((List.range l.length).flatMap (fun j => pkL (gapAt l j)) ++ Q) (n := (l.length : Int)) (by omega) (by omega)
  have h3 : P ++ pkL (l.length : Int) ++ ((List.range l.length).flatMap (fun j => pkL (gapAt l j)) ++ Q) = P ++ rowK l l.length ++ Q := by rw [h2]; simp [List.append_assoc]
  rw [h3] at hn
  unfold rwO
  rw [hn]
  simp only
  rw [if_neg (by omega)]
  have := rwK_at P Q l hok l.length 0 (by omega)
  rw [rowK_zero] at this
  simpa [lastAt] using this
/-- The gaps of a row whose last byte is struck are none. -/
theorem rwK_cut (l : List Int) (hok : ∀ j, j < l.length → okAt l j = true) : ∀ (m k : Nat), k + (m + 1) = l.length →
    rwK ⟨((rowK l l.length).dropLast).toArray⟩ (m + 1) ((rowK l k).length : Int) (lastAt l k) (l.take k) = none := by
  intro m
  induction m with
  | zero =>
    intro k hk
    have hkl : k < l.length := by omega
    obtain ⟨g0, g1, g2, g3⟩ := gap_bd hok hkl
    have hne : pkL (gapAt l k) ≠ [] := by rw [Ne, pkL_nil]; omega
    have hsp : (rowK l l.length).dropLast = rowK l k ++ (pkL (gapAt l k)).dropLast := by
      have h2 : l.length = k + 1 := by omega
      rw [h2, rowK_succ, List.dropLast_append_of_ne_nil hne]
    have hn := nm_cut (rowK l k) g0 g1
    rw [← hsp] at hn
    rw [rwK_succ, hn]
  | succ m ih =>
    intro k hk
    have hkl : k < l.length := by omega
    obtain ⟨g0, g1, g2, g3⟩ := gap_bd hok hkl
    have hsp : ∃ R, (rowK l l.length).dropLast = rowK l k ++ pkL (gapAt l k) ++ R := by
      have h2 : l.length = (k + 1 + m) + 1 := by omega
      obtain ⟨e0, e1, _, _⟩ := gap_bd hok (k := k + 1 + m) (by omega)
      have hne : pkL (gapAt l (k + 1 + m)) ≠ [] := by rw [Ne, pkL_nil]; omega
      refine ⟨(List.range' (k + 1) m).flatMap (fun j => pkL (gapAt l j)) ++ (pkL (gapAt l (k + 1 + m))).dropLast, ?_⟩
      rw [h2, rowK_succ, List.dropLast_append_of_ne_nil hne, rowK_split, rowK_succ]
      simp [List.append_assoc]
    obtain ⟨R, hsp⟩ := hsp
    have hn := nm_at (rowK l k) R g0 g1
    rw [← hsp] at hn
    rw [rwK_succ, hn]
    simp only
    rw [g2, if_neg (by omega)]
    have := ih (k + 1) (by omega)
    rw [rowK_succ, last_succ hkl, List.take_add_one, List.getElem?_eq_getElem hkl] at this
    rw [← this]
    congr 1
    simp
/-- A row's bytes that end too early are none. -/
theorem rw_cut {l : List Int} (h : upB l = true) : rwO ⟨((rowL l).dropLast).toArray⟩ 0 = none := by
  obtain ⟨hok, hlen⟩ := upB_all h
  have hr : rowL l = rowK l l.length := by simp [rowL, h]
  rw [hr]
  cases hm : l.length with
  | zero =>
    have hn := nm_cut [] (n := 0) (by omega) (by omega)
    rw [rowK_zero, hm]
    unfold rwO
    have : nmO ⟨((pkL ((0 : Nat) : Int)).dropLast).toArray⟩ 0 = none := by simpa using hn
    rw [this]
  | succ m =>
    have hsp : ∃ R, (rowK l l.length).dropLast = [] ++ pkL (l.length : Int) ++ R := by
      obtain ⟨e0, e1, _, _⟩ := gap_bd hok (k := m) (by omega)
      have hne : pkL (gapAt l m) ≠ [] := by rw [Ne, pkL_nil]; omega
      refine ⟨(List.range m).flatMap (fun j => pkL (gapAt l j)) ++ (pkL (gapAt l m)).dropLast, ?_⟩
      have h3 : rowK l l.length = rowK l m ++ pkL (gapAt l m) := by rw [hm, rowK_succ]
      rw [h3, List.dropLast_append_of_ne_nil hne]
      simp [rowK, List.append_assoc]
    obtain ⟨R, hsp⟩ := hsp
    have hn := nm_at [] R (n := (l.length : Int)) (by omega) (by omega)
    rw [← hsp] at hn
    have hk := rwK_cut l hok m 0 (by omega)
    rw [rowK_zero] at hk
    unfold rwO
    rw [hm] at hn hk
    simp only [List.length_nil] at hn
    rw [show ((0 : Nat) : Int) = 0 from rfl] at hn
    rw [hn]
    simp only
    rw [if_neg (by omega)]
    simpa [lastAt] using hk
end Go.Proofs.YtlnpbfeihjfnjaaGreatDoor.Lab

/-
  Plain arithmetic of labels: no Go in sight.
  Rows of structs: what a slice reads as; rows that a call owns. No function of the program in sight.
  Rows of numbers: what the laws' own functions on them do (toIntS, eqIntS, markIntS, heldIntS, wpInts).
-/
import Derived.Test.YtlnpbfeihjfnjabGreatDoorRows
import Derived.WalkKit
import Derived.WalkSpells
import Derived.WalkLawsBesides
import Derived.Below
import Derived.Laws.MakeOwn
import Derived.Handy
import Derived.BigQuiet
import Derived.Deep.QuietTactic
namespace Go.Proofs.YtlnpbfeihjfnjabGreatDoor.Lab

/-- A number is a label. -/
def okB (a : Int) : Bool := decide (0 ≤ a) && decide (a ≤ 7)
/-- A label has a letter. -/
def hasB (a i : Int) : Bool := a / 2 ^ i.toNat % 2 == 1
def unB (a b : Int) : Bool := (!hasB a 0 || hasB b 0) && (!hasB a 1 || hasB b 1) && (!hasB a 2 || hasB b 2)
/-- A label is under another one. -/
def underB (a b : Int) : Bool := okB a && okB b && unB a b
def bitI (x y both : Bool) : Int := if x && y || !both && (x || y) then 1 else 0
def mixI (a b : Int) (both : Bool) : Int := ((0 * 2 + bitI (hasB a 2) (hasB b 2) both) * 2 + bitI (hasB a 1) (hasB b 1) both) * 2 + bitI (hasB a 0) (hasB b 0) both
def joinI (a b : Int) : Int := if okB a && okB b then mixI a b false else 0
def meetI (a b : Int) : Int := if okB a && okB b then mixI a b true else 0
def oneI (b : Bool) : Int := if b then 1 else 0
def manyI (a : Int) : Int := if okB a then 0 + oneI (hasB a 0) + oneI (hasB a 1) + oneI (hasB a 2) else 0
/-- 'has', of any number and any place. -/
def hasAnyB (a i : Int) : Bool := okB a && decide (0 ≤ i) && decide (i < 3) && hasB a i

theorem okB_true {a : Int} (h : okB a = true) : 0 ≤ a ∧ a ≤ 7 := by
  simpa [okB] using h
theorem okB_false {a : Int} (h : okB a = false) : a < 0 ∨ 7 < a := by
  simp [okB] at h; omega
theorem okB_mk {a : Int} (h1 : 0 ≤ a) (h2 : a ≤ 7) : okB a = true := by
  simp [okB, h1, h2]
theorem okB_low {a : Int} (h1 : a < 0) : okB a = false := by
  simp [okB]; omega
theorem okB_high {a : Int} (h1 : 7 < a) : okB a = false := by
  simp [okB]; omega
theorem eight {a : Int} (h : okB a = true) : a = 0 ∨ a = 1 ∨ a = 2 ∨ a = 3 ∨ a = 4 ∨ a = 5 ∨ a = 6 ∨ a = 7 := by
  have := okB_true h; omega
theorem fin8 {a : Int} (h : okB a = true) : ∃ k : Fin 8, a = (k.val : Int) := by
  have := okB_true h
  exact ⟨⟨a.toNat, by omega⟩, by simp; omega⟩
theorem three {i : Int} (h1 : 0 ≤ i) (h2 : i < 3) : i = 0 ∨ i = 1 ∨ i = 2 := by omega

theorem under_true {a b : Int} (h : underB a b = true) : okB a = true ∧ okB b = true ∧ unB a b = true := by
  simp only [underB, Bool.and_eq_true] at h; exact ⟨h.1.1, h.1.2, h.2⟩
theorem under_ok {a b : Int} (ha : okB a = true) (hb : okB b = true) : underB a b = unB a b := by simp [underB, ha, hb]
theorem pl_refl : ∀ k : Fin 8, unB k.val k.val = true := by decide +kernel
theorem pl_anti : ∀ k l : Fin 8, unB k.val l.val = true → unB l.val k.val = true → k = l := by decide +kernel
theorem pl_trans : ∀ k l m : Fin 8, unB k.val l.val = true → unB l.val m.val = true → unB k.val m.val = true := by decide +kernel
theorem under_refl (a : Int) : underB a a = okB a := by
  cases h : okB a
  · simp [underB, h]
  · obtain ⟨k, rfl⟩ := fin8 h
    rw [under_ok h h]; exact pl_refl k
theorem under_anti {a b : Int} (h : underB a b = true) (h2 : underB b a = true) : a = b := by
  obtain ⟨ha, hb, h⟩ := under_true h
  obtain ⟨_, _, h2⟩ := under_true h2
  obtain ⟨k, rfl⟩ := fin8 ha
  obtain ⟨l, rfl⟩ := fin8 hb
  rw [pl_anti k l h h2]
theorem under_trans {a b c : Int} (h : underB a b = true) (h2 : underB b c = true) : underB a c = true := by
  obtain ⟨ha, hb, h⟩ := under_true h
  obtain ⟨_, hc, h2⟩ := under_true h2
  obtain ⟨k, rfl⟩ := fin8 ha
  obtain ⟨l, rfl⟩ := fin8 hb
  obtain ⟨m, rfl⟩ := fin8 hc
  rw [under_ok ha hc]; exact pl_trans k l m h h2

theorem joinI_ok {a b : Int} (ha : okB a = true) (hb : okB b = true) : joinI a b = mixI a b false := by simp [joinI, ha, hb]
theorem meetI_ok {a b : Int} (ha : okB a = true) (hb : okB b = true) : meetI a b = mixI a b true := by simp [meetI, ha, hb]
theorem pl_bd : ∀ k l : Fin 8, ∀ both : Bool, okB (mixI k.val l.val both) = true := by decide +kernel
theorem mix_ok {a b : Int} (ha : okB a = true) (hb : okB b = true) (both : Bool) : okB (mixI a b both) = true := by
  obtain ⟨k, rfl⟩ := fin8 ha
  obtain ⟨l, rfl⟩ := fin8 hb
  exact pl_bd k l both
theorem join_ok {a b : Int} (ha : okB a = true) (hb : okB b = true) : okB (joinI a b) = true := by rw [joinI_ok ha hb]; exact mix_ok ha hb _
theorem meet_ok {a b : Int} (ha : okB a = true) (hb : okB b = true) : okB (meetI a b) = true := by rw [meetI_ok ha hb]; exact mix_ok ha hb _
theorem pl_join : ∀ k l m : Fin 8, unB (mixI k.val l.val false) m.val = (unB k.val m.val && unB l.val m.val) := by decide +kernel
theorem pl_meet : ∀ k l m : Fin 8, unB m.val (mixI k.val l.val true) = (unB m.val k.val && unB m.val l.val) := by decide +kernel
theorem join_least {a b : Int} (c : Int) (ha : okB a = true) (hb : okB b = true) : underB (joinI a b) c = (underB a c && underB b c) := by
  cases hc : okB c
  · simp [underB, hc]
  · rw [under_ok (join_ok ha hb) hc, under_ok ha hc, under_ok hb hc, joinI_ok ha hb]
    obtain ⟨k, rfl⟩ := fin8 ha
    obtain ⟨l, rfl⟩ := fin8 hb
    obtain ⟨m, rfl⟩ := fin8 hc
    exact pl_join k l m
theorem meet_most {a b : Int} (c : Int) (ha : okB a = true) (hb : okB b = true) : underB c (meetI a b) = (underB c a && underB c b) := by
  cases hc : okB c
  · simp [underB, hc]
  · rw [under_ok hc (meet_ok ha hb), under_ok hc ha, under_ok hc hb, meetI_ok ha hb]
    obtain ⟨k, rfl⟩ := fin8 ha
    obtain ⟨l, rfl⟩ := fin8 hb
    obtain ⟨m, rfl⟩ := fin8 hc
    exact pl_meet k l m
theorem pl_comm : ∀ k l : Fin 8, ∀ both : Bool, mixI k.val l.val both = mixI l.val k.val both := by decide +kernel
theorem join_comm (a b : Int) : (joinI a b != joinI b a) = false := by
  cases ha : okB a
  · simp [joinI, ha]
  · cases hb : okB b
    · simp [joinI, hb]
    · rw [joinI_ok ha hb, joinI_ok hb ha]
      obtain ⟨k, rfl⟩ := fin8 ha
      obtain ⟨l, rfl⟩ := fin8 hb
      rw [pl_comm k l]; simp
theorem meet_comm (a b : Int) : (meetI a b != meetI b a) = false := by
  cases ha : okB a
  · simp [meetI, ha]
  · cases hb : okB b
    · simp [meetI, hb]
    · rw [meetI_ok ha hb, meetI_ok hb ha]
      obtain ⟨k, rfl⟩ := fin8 ha
      obtain ⟨l, rfl⟩ := fin8 hb
      rw [pl_comm k l]; simp
theorem pl_ring : ∀ k l m : Fin 8, meetI k.val (joinI l.val m.val) = joinI (meetI k.val l.val) (meetI k.val m.val) ∧ joinI k.val (meetI k.val l.val) = k.val ∧ meetI k.val (joinI k.val l.val) = k.val := by decide +kernel
theorem ring3 {a b c : Int} (ha : okB a = true) (hb : okB b = true) (hc : okB c = true) :
    meetI a (joinI b c) = joinI (meetI a b) (meetI a c) ∧ joinI a (meetI a b) = a ∧ meetI a (joinI a b) = a := by
  obtain ⟨k, rfl⟩ := fin8 ha
  obtain ⟨l, rfl⟩ := fin8 hb
  obtain ⟨m, rfl⟩ := fin8 hc
  exact pl_ring k l m
/-- For the letters below k: each of a is one of b; a and b have the same. -/
def unTo (a b : Int) : Nat → Bool
  | 0 => true
  | k + 1 => unTo a b k && (!hasAnyB a k || hasAnyB b k)
def sameTo (a b : Int) : Nat → Bool
  | 0 => true
  | k + 1 => sameTo a b k && (hasAnyB a k == hasAnyB b k)
theorem pl_has : ∀ k l : Fin 8, underB k.val l.val = unTo k.val l.val 3 ∧ ((k.val : Int) == (l.val : Int)) = sameTo k.val l.val 3 := by decide +kernel
theorem has_all {a b : Int} (ha : okB a = true) (hb : okB b = true) : underB a b = unTo a b 3 ∧ (a == b) = sameTo a b 3 := by
  obtain ⟨k, rfl⟩ := fin8 ha
  obtain ⟨l, rfl⟩ := fin8 hb
  exact pl_has k l

theorem pl_up : ∀ k l : Fin 8, (joinI k.val l.val == (l.val : Int)) = underB k.val l.val ∧ (meetI k.val l.val == (k.val : Int)) = underB k.val l.val ∧ (underB k.val l.val = true → manyI k.val ≤ manyI l.val) ∧ underB 0 k.val = true ∧ underB k.val 7 = true := by decide +kernel
theorem up_all {a b : Int} (ha : okB a = true) (hb : okB b = true) :
    (joinI a b == b) = underB a b ∧ (meetI a b == a) = underB a b ∧ (underB a b = true → manyI a ≤ manyI b) ∧ underB 0 a = true ∧ underB a 7 = true := by
  obtain ⟨k, rfl⟩ := fin8 ha
  obtain ⟨l, rfl⟩ := fin8 hb
  exact pl_up k l
theorem pl_three : ∀ k l m : Fin 8, joinI (joinI k.val l.val) m.val = joinI k.val (joinI l.val m.val) ∧ meetI (meetI k.val l.val) m.val = meetI k.val (meetI l.val m.val) ∧ joinI k.val k.val = k.val ∧ meetI k.val k.val = k.val ∧ joinI k.val 0 = k.val ∧ meetI k.val 7 = k.val := by decide +kernel
theorem three_all {a b c : Int} (ha : okB a = true) (hb : okB b = true) (hc : okB c = true) :
    joinI (joinI a b) c = joinI a (joinI b c) ∧ meetI (meetI a b) c = meetI a (meetI b c) ∧ joinI a a = a ∧ meetI a a = a ∧ joinI a 0 = a ∧ meetI a 7 = a := by
  obtain ⟨k, rfl⟩ := fin8 ha
  obtain ⟨l, rfl⟩ := fin8 hb
  obtain ⟨m, rfl⟩ := fin8 hc
  exact pl_three k l m

/-- A number of 64 bits with a sign. -/
def i64In (a : Int) : Prop := -9223372036854775808 ≤ a ∧ a ≤ 9223372036854775807
end Go.Proofs.YtlnpbfeihjfnjabGreatDoor.Lab
namespace Go.Proofs.YtlnpbfeihjfnjabGreatDoor.Lab
open Go.RowKit
set_option linter.unusedVariables false

/-- A slice reads as a list: each element lies in s cells, as 'enc' lays it. -/
def RowAt {α : Type} (s : Nat) (enc : α → List Value) (w : World) (v : Value) (xs : List α) : Prop :=
  (xs = [] ∧ ∃ a cap, v = .slice a 0 cap) ∨
  (0 < xs.length ∧ ∃ b off cap, v = .slice (some ⟨b, off, none⟩) xs.length cap ∧ b < w.heap.size ∧ ∀ j x, xs[j]? = some x → ∀ i u, (enc x)[i]? = some u → w.cell? ⟨b, off + j * s + i, none⟩ = some u)
theorem RowAt.keep {α : Type} {s : Nat} {enc : α → List Value} {w w' : World} {v : Value} {xs : List α} (h : RowAt s enc w v xs) (hb : Below w.heap.size w w') : RowAt s enc w' v xs := by
  rcases h with h | ⟨h0, b, off, cap, hv, hlt, hc⟩
  · exact .inl h
  · exact .inr ⟨h0, b, off, cap, hv, Nat.lt_of_lt_of_le hlt hb.size, fun j x hx i u hu => by rw [hb.cell (p := ⟨b, off + j * s + i, none⟩) hlt]; exact hc j x hx i u hu⟩
theorem RowAt.len {α : Type} {s : Nat} {enc : α → List Value} {w : World} {v : Value} {xs : List α} (h : RowAt s enc w v xs) : ∃ a cap, v = .slice a xs.length cap := by
  rcases h with ⟨rfl, a, cap, rfl⟩ | ⟨h0, b, off, cap, hv, _⟩
  · exact ⟨a, cap, rfl⟩
  · exact ⟨_, _, hv⟩
theorem flat_len {α : Type} {s : Nat} {enc : α → List Value} (he : ∀ x, (enc x).length = s) (xs : List α) : (xs.flatMap enc).length = xs.length * s := by
  induction xs with
  | nil => simp
  | cons x xs ih => simp [List.flatMap_cons, he, ih, Nat.add_mul, Nat.add_comm]
theorem flat_get {α : Type} {s : Nat} {enc : α → List Value} (he : ∀ x, (enc x).length = s) : ∀ (xs : List α) (j i : Nat) (x : α), xs[j]? = some x → i < s → (xs.flatMap enc)[j * s + i]? = (enc x)[i]? := by
  intro xs
  induction xs with
  | nil => intro j i x h; simp at h
  | cons y ys ih =>
    intro j i x h hi
    rw [List.flatMap_cons]
    cases j with
    | zero =>
      simp at h; subst h
      rw [List.getElem?_append_left (by rw [he]; omega)]
      simp
    | succ j =>
      simp at h
      rw [List.getElem?_append_right (by rw [he, Nat.succ_mul]; omega), he]
      have : (j + 1) * s + i - s = j * s + i := by rw [Nat.succ_mul]; omega
      rw [this]
      exact ih j i x h hi
/-- A row that the call owns reads as its list. -/
theorem row_of_own {α : Type} {s : Nat} {enc : α → List Value} (he : ∀ x, (enc x).length = s) (hs : 0 < s) {w : World} {base e : Nat} {v : Value} {xs : List α}
    (h : w.ownsRow base e s v xs.length (xs.flatMap enc)) : RowAt s enc w v xs := by
  obtain ⟨_, h | ⟨g, cap, cur, hv, hb, hg, hn, hm, hsz, ht⟩⟩ := h
  · exact .inl ⟨List.length_eq_zero_iff.1 h.2, _, _, h.1⟩
  · by_cases h0 : xs.length = 0
    · exact .inl ⟨List.length_eq_zero_iff.1 h0, _, _, by rw [hv, h0]⟩
    · refine .inr ⟨by omega, g, 0, cap, hv, lt_of_block hg, fun j x hx i u hu => ?_⟩
      have hi : i < s := by
        have := List.getElem?_eq_some_iff.1 hu
        obtain ⟨h1, _⟩ := this
        rw [he] at h1; exact h1
      have hget := flat_get he xs j i x hx hi
      rw [← ht, hu, List.getElem?_take] at hget
      split at hget
      · simp only [World.cell?, hg]
        simpa using hget
      · cases hget
theorem own_keep {w w' : World} {base e size : Nat} {v : Value} {n : Nat} {xs : List Value} (h : w.ownsRow base e size v n xs) (hb : Below w.heap.size w w') : w'.ownsRow base e size v n xs := by
  have hl := h.lt
  obtain ⟨h1, h | ⟨g, cap, cur, rfl, hbb, hg, hr⟩⟩ := h
  · exact ⟨h1, .inl h⟩
  · exact ⟨h1, .inr ⟨g, cap, cur, rfl, hbb, by rw [hb.block g (lt_of_block hg)]; exact hg, hr⟩⟩
theorem own_mono {w : World} {base base' e size : Nat} {v : Value} {n : Nat} {xs : List Value} (h : w.ownsRow base e size v n xs) (hb : base' ≤ base) : w.ownsRow base' e size v n xs := by
  obtain ⟨h1, h | ⟨g, cap, cur, rfl, hbb, hr⟩⟩ := h
  · exact ⟨h1, .inl h⟩
  · exact ⟨h1, .inr ⟨g, cap, cur, rfl, by omega, hr⟩⟩
theorem own_set {w : World} {base e size : Nat} {v : Value} {n : Nat} {xs : List Value} (h : w.ownsRow base e size v n xs) {p : Addr} (hp : v.ownBlock ≠ some p.block) (u : Value) : (w.setCell p u).ownsRow base e size v n xs := by
  obtain ⟨h1, h | ⟨g, cap, cur, rfl, hbb, hg, hr⟩⟩ := h
  · exact ⟨h1, .inl h⟩
  · exact ⟨h1, .inr ⟨g, cap, cur, rfl, hbb, by rw [Below.heap_setCell _ _ _ _ (fun h => hp (by simp [Value.ownBlock, h]))]; exact hg, hr⟩⟩
theorem own_form {w : World} {base e size : Nat} {v : Value} {n : Nat} {xs : List Value} (h : w.ownsRow base e size v n xs) : ∃ a c, v = .slice a n c := by
  obtain ⟨h1, h | ⟨g, cap, cur, rfl, hbb, hg, hr⟩⟩ := h
  · exact ⟨none, 0, by rw [h.1, h.2]⟩
  · exact ⟨_, _, rfl⟩
theorem own_gr {w w' : World} {base e size n : Nat} {v : Value} {xs : List Value} {r : Option Nat} (h : w.ownsRow base e size v n xs) (hg : w.grownBy w' r) (hne : ∀ k, v.ownBlock = some k → r = some k → False) : w'.ownsRow base e size v n xs := by
  obtain ⟨h1, h | ⟨g, cap, cur, rfl, hbb, hb, hr⟩⟩ := h
  · exact ⟨h1, .inl h⟩
  · exact ⟨h1, .inr ⟨g, cap, cur, rfl, hbb, by rw [hg.block g (lt_of_block hb) (fun e => hne g (by simp [Value.ownBlock]) e.symm)]; exact hb, hr⟩⟩
/-- One cell of a block that is known whole, written. -/
theorem set_block {w : World} {g e i : Nat} {cur : Array Value} {fz : Nat × Nat} (u : Value) (h : w.heap[g]? = some (.cells cur e fz)) : (w.setCell ⟨g, i, none⟩ u).heap[g]? = some (.cells (cur.setIfInBounds i u) e fz) := by
  have hlt := lt_of_block h
  have h' : w.heap[g] = .cells cur e fz := by simpa [Array.getElem?_eq_getElem hlt] using h
  show (w.heap.modify g _)[g]? = _
  rw [Array.getElem?_eq_getElem (by simpa using hlt), Array.getElem_modify_self, h']
  rfl
theorem cell_block {w : World} {g e i : Nat} {cur : Array Value} {fz : Nat × Nat} (h : w.heap[g]? = some (.cells cur e fz)) : w.cell? ⟨g, i, none⟩ = cur[i]? := by simp [World.cell?, h]
theorem free_block {w : World} {g e i : Nat} {cur : Array Value} (h : w.heap[g]? = some (.cells cur e (0, 0))) : w.frozen? ⟨g, i, none⟩ = false := by simp [World.frozen?, h]
/-- Two are one: a word that the walk does not open. -/
def eqB {α : Type} [DecidableEq α] (a b : α) : Bool := decide (a = b)
theorem eqB_true {α : Type} [DecidableEq α] {a b : α} : eqB a b = true ↔ a = b := by simp [eqB]
theorem eqB_false {α : Type} [DecidableEq α] {a b : α} : eqB a b = false ↔ ¬ a = b := by simp [eqB]
theorem new_block (w : World) (o : Obj) : (w.alloc o).heap[w.heap.size]? = some o := by
  show (w.heap.push o)[w.heap.size]? = _
  simp
end Go.Proofs.YtlnpbfeihjfnjabGreatDoor.Lab
namespace Go.Proofs.YtlnpbfeihjfnjabGreatDoor.Lab
open Go.RowKit
set_option linter.unusedVariables false
def encI (x : Int) : List Value := [.int .i64 x]
theorem encI_len (x : Int) : (encI x).length = 1 := rfl
theorem Tryz.infoI : (Tryz.prog.info? 3).map (fun i => (i.zero, i.size, i.bytes)) = some (some (.int .i64 0), 1, 8) := by kernel_rfl
theorem flatI (xs : List Int) : xs.flatMap encI = xs.map (Value.int .i64) := by
  induction xs with
  | nil => rfl
  | cons x xs ih => rw [List.flatMap_cons, ih]; rfl
/-- The cells of a row of numbers. -/
theorem cellI {w : World} {b off : Nat} {xs : List Int} (h : ∀ j x, xs[j]? = some x → ∀ i u, (encI x)[i]? = some u → w.cell? ⟨b, off + j * 1 + i, none⟩ = some u) {k : Nat} {x : Int} (hx : xs[k]? = some x) : w.cell? ⟨b, off + k, none⟩ = some (.int .i64 x) := by
  have := h k x hx 0 _ rfl
  simpa using this
/-- A row of which the first k numbers have been laid. -/
def laidI (xs : List Int) (k n : Nat) (cur : Array Value) : Prop := cur.size = n ∧ ∀ j x, j < k → xs[j]? = some x → cur[j]? = some (.int .i64 x)
theorem laidI_step {xs : List Int} {k n : Nat} {cur : Array Value} {m : Int} (h : laidI xs k n cur) (hk : k < n) (hx : xs[k]? = some m) : laidI xs (k + 1) n (cur.setIfInBounds k (.int .i64 m)) := by
  obtain ⟨h1, h2⟩ := h
  refine ⟨by simp [h1], fun j x hj hxj => ?_⟩
  rcases Nat.lt_succ_iff_lt_or_eq.1 hj with hj | rfl
  · rw [Array.getElem?_setIfInBounds, if_neg (by omega)]
    exact h2 j x hj hxj
  · rw [hx] at hxj
    cases hxj
    rw [Array.getElem?_setIfInBounds, if_pos rfl, if_pos (by omega)]
theorem laidI_take {xs : List Int} {cap : Nat} {cur : Array Value} (h : laidI xs xs.length cap cur) (hc : xs.length ≤ cap) : cur.toList.take (xs.length * 1) = xs.flatMap encI := by
  obtain ⟨h1, h2⟩ := h
  rw [flatI]
  apply List.ext_getElem?
  intro m
  rw [List.getElem?_take]
  by_cases hm : m < xs.length
  · rw [if_pos (by omega)]
    have := h2 m _ hm (List.getElem?_eq_getElem hm)
    rw [List.getElem?_map, List.getElem?_eq_getElem hm]
    simpa using this
  · rw [if_neg (by omega), List.getElem?_eq_none (by simp; omega)]
theorem belN {B : Nat} {a w : World} (h : Below B a w) (n : Nat) : Below B a (w.drewN n) := ⟨h.os, h.tape, h.output, h.size, h.block⟩
end Go.Proofs.YtlnpbfeihjfnjabGreatDoor.Lab

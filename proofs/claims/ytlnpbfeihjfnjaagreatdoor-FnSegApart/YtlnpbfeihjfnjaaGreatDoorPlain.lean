/-
  Plain arithmetic of labels: no Go in sight.
-/
namespace Go.Proofs.YtlnpbfeihjfnjaaGreatDoor.Lab

/-- A number is a label. -/
def okB (a : Int) : Bool := decide (0 ≤ a) && decide (a ≤ 7)
/-- A label has a letter. -/
def hasB (a i : Int) : Bool := a / 2 ^ i.toNat % 2 == 1
def unB (a b : Int) : Bool := (!hasB a 0 || hasB b 0) && (!hasB a 1 || hasB b 1) && (!hasB a 2 || hasB b 2)
/-- A label is under another one. -/
def underB (a b : Int) : Bool := okB a && okB b && unB a b
def bitI (x y both : Bool) : Int := if x && y || !both && (x || y) then 1 else 0
def mixI (a b : Int) (both : Bool) : Int := ((0 * 2 + bitI (hasB a 2) (hasB b 2) both) * 2 + bitI (hasB a 1) (hasB b 1) both) * 2 + bitI (hasB a 0) (hasB b 0) both
def joinI (a b : Int) : Int := if okB a && okB b then mixI a b false else 0
def meetI (a b : Int) : Int := if okB a && okB b then mixI a b true else 0
def oneI (b : Bool) : Int := if b then 1 else 0
def manyI (a : Int) : Int := if okB a then 0 + oneI (hasB a 0) + oneI (hasB a 1) + oneI (hasB a 2) else 0
/-- 'has', of any number and any place. -/
def hasAnyB (a i : Int) : Bool := okB a && decide (0 ≤ i) && decide (i < 3) && hasB a i

theorem okB_true {a : Int} (h : okB a = true) : 0 ≤ a ∧ a ≤ 7 := by
  simpa [okB] using h
theorem okB_false {a : Int} (h : okB a = false) : a < 0 ∨ 7 < a := by
  simp [okB] at h; omega
theorem okB_mk {a : Int} (h1 : 0 ≤ a) (h2 : a ≤ 7) : okB a = true := by
  simp [okB, h1, h2]
theorem okB_low {a : Int} (h1 : a < 0) : okB a = false := by
  simp [okB]; omega
theorem okB_high {a : Int} (h1 : 7 < a) : okB a = false := by
  simp [okB]; omega
theorem eight {a : Int} (h : okB a = true) : a = 0 ∨ a = 1 ∨ a = 2 ∨ a = 3 ∨ a = 4 ∨ a = 5 ∨ a = 6 ∨ a = 7 := by
  have := okB_true h; omega
theorem fin8 {a : Int} (h : okB a = true) : ∃ k : Fin 8, a = (k.val : Int) := by
  have := okB_true h
  exact ⟨⟨a.toNat, by omega⟩, by simp; omega⟩
theorem three {i : Int} (h1 : 0 ≤ i) (h2 : i < 3) : i = 0 ∨ i = 1 ∨ i = 2 := by omega

theorem under_true {a b : Int} (h : underB a b = true) : okB a = true ∧ okB b = true ∧ unB a b = true := by
  simp only [underB, Bool.and_eq_true] at h; exact ⟨h.1.1, h.1.2, h.2⟩
theorem under_ok {a b : Int} (ha : okB a = true) (hb : okB b = true) : underB a b = unB a b := by simp [underB, ha, hb]
theorem pl_refl : ∀ k : Fin 8, unB k.val k.val = true := by decide +kernel
theorem pl_anti : ∀ k l : Fin 8, unB k.val l.val = true → unB l.val k.val = true → k = l := by decide +kernel
theorem pl_trans : ∀ k l m : Fin 8, unB k.val l.val = true → unB l.val m.val = true → unB k.val m.val = true := by decide +kernel
theorem under_refl (a : Int) : underB a a = okB a := by
  cases h : okB a
  · simp [underB, h]
  · obtain ⟨k, rfl⟩ := fin8 h
    rw [under_ok h h]; exact pl_refl k
theorem under_anti {a b : Int} (h : underB a b = true) (h2 : underB b a = true) : a = b := by
  obtain ⟨ha, hb, h⟩ := under_true h
  obtain ⟨_, _, h2⟩ := under_true h2
  obtain ⟨k, rfl⟩ := fin8 ha
  obtain ⟨l, rfl⟩ := fin8 hb
  rw [pl_anti k l h h2]
theorem under_trans {a b c : Int} (h : underB a b = true) (h2 : underB b c = true) : underB a c = true := by
  obtain ⟨ha, hb, h⟩ := under_true h
  obtain ⟨_, hc, h2⟩ := under_true h2
  obtain ⟨k, rfl⟩ := fin8 ha
  obtain ⟨l, rfl⟩ := fin8 hb
  obtain ⟨m, rfl⟩ := fin8 hc
  rw [under_ok ha hc]; exact pl_trans k l m h h2

theorem joinI_ok {a b : Int} (ha : okB a = true) (hb : okB b = true) : joinI a b = mixI a b false := by simp [joinI, ha, hb]
theorem meetI_ok {a b : Int} (ha : okB a = true) (hb : okB b = true) : meetI a b = mixI a b true := by simp [meetI, ha, hb]
theorem pl_bd : ∀ k l : Fin 8, ∀ both : Bool, okB (mixI k.val l.val both) = true := by decide +kernel
theorem mix_ok {a b : Int} (ha : okB a = true) (hb : okB b = true) (both : Bool) : okB (mixI a b both) = true := by
  obtain ⟨k, rfl⟩ := fin8 ha
  obtain ⟨l, rfl⟩ := fin8 hb
  exact pl_bd k l both
theorem join_ok {a b : Int} (ha : okB a = true) (hb : okB b = true) : okB (joinI a b) = true := by rw [joinI_ok ha hb]; exact mix_ok ha hb _
theorem meet_ok {a b : Int} (ha : okB a = true) (hb : okB b = true) : okB (meetI a b) = true := by rw [meetI_ok ha hb]; exact mix_ok ha hb _
theorem pl_join : ∀ k l m : Fin 8, unB (mixI k.val l.val false) m.val = (unB k.val m.val && unB l.val m.val) := by decide +kernel
theorem pl_meet : ∀ k l m : Fin 8, unB m.val (mixI k.val l.val true) = (unB m.val k.val && unB m.val l.val) := by decide +kernel
theorem join_least {a b : Int} (c : Int) (ha : okB a = true) (hb : okB b = true) : underB (joinI a b) c = (underB a c && underB b c) := by
  cases hc : okB c
  · simp [underB, hc]
  · rw [under_ok (join_ok ha hb) hc, under_ok ha hc, under_ok hb hc, joinI_ok ha hb]
    obtain ⟨k, rfl⟩ := fin8 ha
    obtain ⟨l, rfl⟩ := fin8 hb
    obtain ⟨m, rfl⟩ := fin8 hc
    exact pl_join k l m
theorem meet_most {a b : Int} (c : Int) (ha : okB a = true) (hb : okB b = true) : underB c (meetI a b) = (underB c a && underB c b) := by
  cases hc : okB c
  · simp [underB, hc]
  · rw [under_ok hc (meet_ok ha hb), under_ok hc ha, under_ok hc hb, meetI_ok ha hb]
    obtain ⟨k, rfl⟩ := fin8 ha
    obtain ⟨l, rfl⟩ := fin8 hb
    obtain ⟨m, rfl⟩ := fin8 hc
    exact pl_meet k l m
theorem pl_comm : ∀ k l : Fin 8, ∀ both : Bool, mixI k.val l.val both = mixI l.val k.val both := by decide +kernel
theorem join_comm (a b : Int) : (joinI a b != joinI b a) = false := by
  cases ha : okB a
  · simp [joinI, ha]
  · cases hb : okB b
    · simp [joinI, hb]
    · rw [joinI_ok ha hb, joinI_ok hb ha]
      obtain ⟨k, rfl⟩ := fin8 ha
      obtain ⟨l, rfl⟩ := fin8 hb
      rw [pl_comm k l]; simp
theorem meet_comm (a b : Int) : (meetI a b != meetI b a) = false := by
  cases ha : okB a
  · simp [meetI, ha]
  · cases hb : okB b
    · simp [meetI, hb]
    · rw [meetI_ok ha hb, meetI_ok hb ha]
      obtain ⟨k, rfl⟩ := fin8 ha
      obtain ⟨l, rfl⟩ := fin8 hb
      rw [pl_comm k l]; simp
theorem pl_ring : ∀ k l m : Fin 8, meetI k.val (joinI l.val m.val) = joinI (meetI k.val l.val) (meetI k.val m.val) ∧ joinI k.val (meetI k.val l.val) = k.val ∧ meetI k.val (joinI k.val l.val) = k.val := by decide +kernel
theorem ring3 {a b c : Int} (ha : okB a = true) (hb : okB b = true) (hc : okB c = true) :
    meetI a (joinI b c) = joinI (meetI a b) (meetI a c) ∧ joinI a (meetI a b) = a ∧ meetI a (joinI a b) = a := by
  obtain ⟨k, rfl⟩ := fin8 ha
  obtain ⟨l, rfl⟩ := fin8 hb
  obtain ⟨m, rfl⟩ := fin8 hc
  exact pl_ring k l m
/-- For the letters below k: each of a is one of b; a and b have the same. -/
def unTo (a b : Int) : Nat → Bool
  | 0 => true
  | k + 1 => unTo a b k && (!hasAnyB a k || hasAnyB b k)
def sameTo (a b : Int) : Nat → Bool
  | 0 => true
  | k + 1 => sameTo a b k && (hasAnyB a k == hasAnyB b k)
theorem pl_has : ∀ k l : Fin 8, underB k.val l.val = unTo k.val l.val 3 ∧ ((k.val : Int) == (l.val : Int)) = sameTo k.val l.val 3 := by decide +kernel
theorem has_all {a b : Int} (ha : okB a = true) (hb : okB b = true) : underB a b = unTo a b 3 ∧ (a == b) = sameTo a b 3 := by
  obtain ⟨k, rfl⟩ := fin8 ha
  obtain ⟨l, rfl⟩ := fin8 hb
  exact pl_has k l

theorem pl_up : ∀ k l : Fin 8, (joinI k.val l.val == (l.val : Int)) = underB k.val l.val ∧ (meetI k.val l.val == (k.val : Int)) = underB k.val l.val ∧ (underB k.val l.val = true → manyI k.val ≤ manyI l.val) ∧ underB 0 k.val = true ∧ underB k.val 7 = true := by decide +kernel
theorem up_all {a b : Int} (ha : okB a = true) (hb : okB b = true) :
    (joinI a b == b) = underB a b ∧ (meetI a b == a) = underB a b ∧ (underB a b = true → manyI a ≤ manyI b) ∧ underB 0 a = true ∧ underB a 7 = true := by
  obtain ⟨k, rfl⟩ := fin8 ha
  obtain ⟨l, rfl⟩ := fin8 hb
  exact pl_up k l
theorem pl_three : ∀ k l m : Fin 8, joinI (joinI k.val l.val) m.val = joinI k.val (joinI l.val m.val) ∧ meetI (meetI k.val l.val) m.val = meetI k.val (meetI l.val m.val) ∧ joinI k.val k.val = k.val ∧ meetI k.val k.val = k.val ∧ joinI k.val 0 = k.val ∧ meetI k.val 7 = k.val := by decide +kernel
theorem three_all {a b c : Int} (ha : okB a = true) (hb : okB b = true) (hc : okB c = true) :
    joinI (joinI a b) c = joinI a (joinI b c) ∧ meetI (meetI a b) c = meetI a (meetI b c) ∧ joinI a a = a ∧ meetI a a = a ∧ joinI a 0 = a ∧ meetI a 7 = a := by
  obtain ⟨k, rfl⟩ := fin8 ha
  obtain ⟨l, rfl⟩ := fin8 hb
  obtain ⟨m, rfl⟩ := fin8 hc
  exact pl_three k l m

/-- A number of 64 bits with a sign. -/
def i64In (a : Int) : Prop := -9223372036854775808 ≤ a ∧ a ≤ 9223372036854775807
end Go.Proofs.YtlnpbfeihjfnjaaGreatDoor.Lab

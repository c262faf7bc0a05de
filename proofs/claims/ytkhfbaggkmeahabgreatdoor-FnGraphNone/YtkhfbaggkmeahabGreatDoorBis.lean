/-
  errors.Is over the package's four error variables; impl.goCode.
-/
import Derived.Test.YtkhfbaggkmeahabGreatDoorGki
import Derived.LaidEql
import Derived.Stop.Asserts
namespace Go.Proofs.YtkhfbaggkmeahabGreatDoor.Lab
open Go.RowKit Go.Extern.Stop Go.Stop Go.Extern
set_option linter.unusedVariables false
/-- A package variable holds a sentinel of its own. -/
def SentAt (w : World) (g : Nat) (a : Addr) : Prop := w.cell? ⟨g, 0, none⟩ = some (.iface 175 (.pointer (some a))) ∧ ∃ c t, w.heap[a.block]? = some (.cells c t (0, 0))
theorem SentAt.keep {w w' : World} {g : Nat} {a : Addr} (h : SentAt w g a) (hb : Below w.heap.size w w') : SentAt w' g a := by
  obtain ⟨h1, c, t, h2⟩ := h
  exact ⟨by rw [hb.cell (p := ⟨g, 0, none⟩) (cell_lt h1)]; exact h1, c, t, by rw [hb.block _ (lt_of_block h2)]; exact h2⟩
/-- The four are unlike. -/
structure Four (w : World) (aF aT aN aU : Addr) : Prop where
  f : SentAt w 0 aF
  t : SentAt w 1 aT
  n : SentAt w 2 aN
  u : SentAt w 3 aU
  ft : aF ≠ aT
  fn : aF ≠ aN
  fu : aF ≠ aU
  tn : aT ≠ aN
  tu : aT ≠ aU
  nu : aN ≠ aU
theorem Four.keep {w w' : World} {aF aT aN aU : Addr} (h : Four w aF aT aN aU) (hb : Below w.heap.size w w') : Four w' aF aT aN aU :=
  ⟨h.f.keep hb, h.t.keep hb, h.n.keep hb, h.u.keep hb, h.ft, h.fn, h.fu, h.tn, h.tu, h.nu⟩
theorem SentAt.err {w : World} {g : Nat} {a : Addr} (h : SentAt w g a) : ErrAt w g := ⟨_, _, h.1⟩
theorem Four.errs {w : World} {aF aT aN aU : Addr} (h : Four w aF aT aN aU) : Errs w := ⟨h.f.err, h.t.err, h.u.err, h.n.err⟩
theorem isTypeOf (v : Value) (w : World) : (Extern.ReflectliteType.typeOf #[.iface 175 v]).run Tryz.prog w = .ok (.iface 136 (.agg #[.pointer (some ⟨4, 175, none⟩)])) w := by kernel_rfl
def compE : Array Value → Sem Value := Extern.ReflectliteType.method fun t => do Go.Extern.Rtype.noPackHeld "Comparable" t; pure (.bool (← typeInfo t).comparable)
theorem isComparable (w : World) : (compE #[.agg #[.pointer (some ⟨4, 175, none⟩)]]).run Tryz.prog w = .ok (.bool true) w := by kernel_rfl
theorem isMethodComparable (v : Value) (w : World) : (Go.method 214 136 v "Comparable").run Tryz.prog w = .ok (140, v) w := by kernel_rfl
theorem isComp : (Tryz.prog.info? 175).map (·.comparable) = some true := by kernel_rfl
theorem isSize : (Tryz.prog.info? 201).map (·.size) = some 1 := by kernel_rfl
theorem noIsE (v : Value) (xT : TypeId) (w : World) : (Instr.typeAssert (.iface 175 v) xT 138 true).run Tryz.prog w = .ok (.tuple #[.nilIface, .bool false]) w := run_typeAssert_lacksB Tryz.underlying138 (by kernel_rfl) (by kernel_rfl) v xT w
theorem noUnwrapE (v : Value) (xT : TypeId) (w : World) : (Instr.typeAssert (.iface 175 v) xT 141 true).run Tryz.prog w = .ok (.tuple #[.nilIface, .bool false]) w := run_typeAssert_lacksB Tryz.underlying141 (by kernel_rfl) (by kernel_rfl) v xT w
theorem noUnwrapsE (v : Value) (xT : TypeId) (w : World) : (Instr.typeAssert (.iface 175 v) xT 143 true).run Tryz.prog w = .ok (.tuple #[.nilIface, .bool false]) w := run_typeAssert_lacksB Tryz.underlying143 (by kernel_rfl) (by kernel_rfl) v xT w
/-- errors.Is(x, x). -/
theorem is_same (a : Addr) (w : World) :
    Calls Tryz.prog 55 #[.iface 175 (.pointer (some a)), .iface 175 (.pointer (some a))] w fun e w' => e = .returned (.bool true) ∧ w' = w := by
  obtain ⟨i, hi, hcmp⟩ := Option.map_eq_some_iff.1 isComp
  obtain ⟨j, hj, hjs⟩ := Option.map_eq_some_iff.1 isSize
  have h8 := @run_callFunc_extern Tryz.prog 72 _ Extern.ReflectliteType.typeOf Tryz.func72 (by kernel_rfl) (by kernel_rfl) (by kernel_rfl) (by kernel_rfl)
  have h32 := @run_callFunc_extern Tryz.prog 140 _ compE Tryz.func140 (by kernel_rfl) (by kernel_rfl) (by kernel_rfl) (by kernel_rfl)
  have tT := isTypeOf
  have cT := isComparable
  have mR := isMethodComparable
  have heq := run_eql_iface_ptr_same (P := Tryz.prog) w a Tryz.underlying62 Tryz.underlying175 hi hcmp hj
  go_enter Tryz.func55, Tryz.ntmps55
  go_wp2
  refine wp_loop_rounds 1 ?_
  rw [rounds_succ]
  go_wp2
  go_ret
  exact ⟨rfl, rfl⟩
/-- errors.Is(x, y), two of them. -/
theorem is_other (a b : Addr) (ca cb : Array Value) (ta tb : TypeId) (w : World) (hne : a ≠ b) (ha : w.heap[a.block]? = some (.cells ca ta (0, 0))) (hb : w.heap[b.block]? = some (.cells cb tb (0, 0))) :
    Calls Tryz.prog 55 #[.iface 175 (.pointer (some a)), .iface 175 (.pointer (some b))] w fun e w' => e = .returned (.bool false) ∧ w' = w := by
  obtain ⟨i, hi, hcmp⟩ := Option.map_eq_some_iff.1 isComp
  obtain ⟨j, hj, hjs⟩ := Option.map_eq_some_iff.1 isSize
  have h8 := @run_callFunc_extern Tryz.prog 72 _ Extern.ReflectliteType.typeOf Tryz.func72 (by kernel_rfl) (by kernel_rfl) (by kernel_rfl) (by kernel_rfl)
  have h32 := @run_callFunc_extern Tryz.prog 140 _ compE Tryz.func140 (by kernel_rfl) (by kernel_rfl) (by kernel_rfl) (by kernel_rfl)
  have tT := isTypeOf
  have cT := isComparable
  have mR := isMethodComparable
  have nE := noIsE
  have uE := noUnwrapE
  have vE := noUnwrapsE
  have heq := run_eql_iface_ptr_other (P := Tryz.prog) w Tryz.underlying62 Tryz.underlying175 hi hcmp hj (by rw [hjs]; decide) hne ha hb
  go_enter Tryz.func55, Tryz.ntmps55
  go_wp2
  refine wp_loop_rounds 1 ?_
  rw [rounds_succ]
  go_wp2
  go_ret
  exact ⟨rfl, rfl⟩
theorem is_both (a b : Addr) (w : World) (ha : ∃ c t, w.heap[a.block]? = some (.cells c t (0, 0))) (hb : ∃ c t, w.heap[b.block]? = some (.cells c t (0, 0))) :
    Calls Tryz.prog 55 #[.iface 175 (.pointer (some a)), .iface 175 (.pointer (some b))] w fun e w' => e = .returned (.bool (decide (a = b))) ∧ w' = w := by
  obtain ⟨c, t, ha⟩ := ha
  obtain ⟨c', t', hb⟩ := hb
  by_cases h : a = b
  · subst h
    refine (is_same a w).mono ?_
    rintro e w' ⟨rfl, h2⟩
    exact ⟨by simp, h2⟩
  · refine (is_other a b c c' t t' w h ha hb).mono ?_
    rintro e w' ⟨rfl, h2⟩
    exact ⟨by simp [h], h2⟩
/-- How something ends, as a number. -/
theorem goCode_nil (w : World) : Calls Tryz.prog 22 #[.nilIface] w fun e w' => e = .returned (.int .i64 0) ∧ Below w.heap.size w w' := by
  go_enter Tryz.func22, Tryz.ntmps22
  go_wp2_with fail
  go_ret
  exact ⟨rfl, Below.refl _ _⟩
/-- The sentinel's number: which of the three it is, else 1. -/
def codeOf (a aT aN aU : Addr) : Int := if a = aT then 2 else if a = aN then 3 else if a = aU then 4 else 1
set_option maxRecDepth 8000 in
theorem goCode_sent (a aF aT aN aU : Addr) (w : World) (h : Four w aF aT aN aU) (ha : ∃ c t, w.heap[a.block]? = some (.cells c t (0, 0))) : Calls Tryz.prog 22 #[.iface 175 (.pointer (some a))] w fun e w' => e = .returned (.int .i64 (codeOf a aT aN aU)) ∧ Below w.heap.size w w' := by
  have gT := h.t.1
  have gN := h.n.1
  have gU := h.u.1
  have kT := h.t.2
  have kN := h.n.2
  have kU := h.u.2
  have KK : Hid ((∃ c t, w.heap[a.block]? = some (.cells c t (0, 0))) ∧ (∃ c t, w.heap[aT.block]? = some (.cells c t (0, 0))) ∧ (∃ c t, w.heap[aN.block]? = some (.cells c t (0, 0))) ∧ (∃ c t, w.heap[aU.block]? = some (.cells c t (0, 0)))) := ⟨ha, kT, kN, kU⟩
  clear h ha kT kN kU
  go_enter Tryz.func22, Tryz.ntmps22
  go_wp2_with fail
  refine (is_both a aT w KK.out.1 KK.out.2.1).mono ?_
  rintro e w' ⟨rfl, hw⟩
  subst hw
  by_cases h1 : a = aT
  · have d1 : decide (a = aT) = true := decide_eq_true h1
    have HC : Hid (codeOf a aT aN aU = 2) := by show codeOf a aT aN aU = 2; simp [codeOf, h1]
    rw [d1]
    clear h1 d1
    go_wp2_with fail
    go_ret
    exact ⟨by rw [HC.out]; rfl, Below.refl _ _⟩
  have d1 : decide (a = aT) = false := decide_eq_false h1
  rw [d1]
  clear d1
  have H1 : Hid (¬ a = aT) := h1
  clear h1
  go_wp2_with fail
  refine (is_both a aN _ KK.out.1 KK.out.2.2.1).mono ?_
  rintro e w' ⟨rfl, hw⟩
  subst hw
  by_cases h2 : a = aN
  · have d2 : decide (a = aN) = true := decide_eq_true h2
    have HC : Hid (codeOf a aT aN aU = 3) := by show codeOf a aT aN aU = 3; rw [codeOf, if_neg H1.out, if_pos h2]
    rw [d2]
    clear h2 d2
    go_wp2_with fail
    go_ret
    exact ⟨by rw [HC.out]; rfl, Below.refl _ _⟩
  have d2 : decide (a = aN) = false := decide_eq_false h2
  rw [d2]
  clear d2
  have H2 : Hid (¬ a = aN) := h2
  clear h2
  go_wp2_with fail
  refine (is_both a aU _ KK.out.1 KK.out.2.2.2).mono ?_
  rintro e w' ⟨rfl, hw⟩
  subst hw
  by_cases h3 : a = aU
  · have d3 : decide (a = aU) = true := decide_eq_true h3
    have HC : Hid (codeOf a aT aN aU = 4) := by show codeOf a aT aN aU = 4; rw [codeOf, if_neg H1.out, if_neg H2.out, if_pos h3]
    rw [d3]
    clear h3 d3
    go_wp2_with fail
    go_ret
    exact ⟨by rw [HC.out]; rfl, Below.refl _ _⟩
  have d3 : decide (a = aU) = false := decide_eq_false h3
  have HC : Hid (codeOf a aT aN aU = 1) := by show codeOf a aT aN aU = 1; rw [codeOf, if_neg H1.out, if_neg H2.out, if_neg h3]
  rw [d3]
  clear h3 d3
  go_wp2_with fail
  go_ret
  exact ⟨by rw [HC.out]; rfl, Below.refl _ _⟩
end Go.Proofs.YtkhfbaggkmeahabGreatDoor.Lab

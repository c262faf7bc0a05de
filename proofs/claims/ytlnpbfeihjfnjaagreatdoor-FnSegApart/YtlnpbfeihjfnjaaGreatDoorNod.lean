/-
  Contracts of the functions on one node and one edge (impl and spec): what each answers; of what was there nothing is turned.
-/
import Derived.Test.YtlnpbfeihjfnjaaGreatDoorLabb
import Derived.Below
import Derived.Deep.QuietTactic
import Derived.BigQuiet
import Derived.Deep.RegionWith
import Derived.Handy
namespace Go.Proofs.YtlnpbfeihjfnjaaGreatDoor.Lab
open Go.RowKit
set_option linter.unusedVariables false
/-- A world in which all that was there in another one is as it was. -/
def After (w0 : World) : Type := { w' : World // Below w0.heap.size w0 w' }
def After.w {w0 : World} (p : After w0) : World := p.val
theorem After.bel {w0 : World} (p : After w0) : Below w0.heap.size w0 p.w := p.property
def After.mk {w0 : World} (w' : World) (h : Below w0.heap.size w0 w') : After w0 := ⟨w', h⟩
theorem After.ne (w0 : World) : Nonempty (After w0) := ⟨After.mk w0 (Below.refl _ _)⟩
theorem After.cell (w0 : World) (p : After w0) (b o : Nat) (s : Option Nat) (h : b < w0.heap.size) : p.w.cell? ⟨b, o, s⟩ = w0.cell? ⟨b, o, s⟩ := p.bel.cell (p := ⟨b, o, s⟩) h
theorem wp_region_after {P : Program} {id : Nat} {Q : Exit → Act → World → Prop} {a : Act} {w : World} {l : List Oper} (hm : P.follows .mixedOrders = true) (hB : Region.lexB .any l.toArray = true)
    (h : Nonempty (After w) → (∀ (p : After w) (b o : Nat) (s : Option Nat), b < w.heap.size → p.w.cell? ⟨b, o, s⟩ = w.cell? ⟨b, o, s⟩) → wpQuiet P l.toArray (fun w' => ∃ p : After w, w' = p.w) (fun a' => ∀ w', (∃ p : After w, w' = p.w) → Q .normal a' w') l a) : (Code.region id l.toArray true).wp P Q a w :=
  wp_region_quiet (C := fun w' => ∃ p : After w, w' = p.w) hm hB ⟨After.mk _ (Below.refl _ _).drew, rfl⟩ (by simpa using h (After.ne w) (After.cell w))
theorem after_of {P : Program} {f : FuncId} {args : Array Value} {w : World} {p : After w} {v : Value}
    (h : Calls P f args p.w fun e w' => e = .returned v ∧ Below p.w.heap.size p.w w') : Calls P f args p.w fun e w'' => e = .returned v ∧ ∃ q : After w, w'' = q.w :=
  h.mono fun _ w' ⟨he, hb⟩ => ⟨he, After.mk w' (p.bel.trans (hb.mono p.bel.size)), rfl⟩
theorem after_at {P : Program} {f : FuncId} {args : Array Value} {w : World} {p : After w} {x y : Bool} (hv : x = y)
    (h : Calls P f args p.w fun e w' => e = .returned (.bool x) ∧ Below p.w.heap.size p.w w') : Calls P f args p.w fun e w'' => e = .returned (.bool y) ∧ ∃ q : After w, w'' = q.w := by
  subst hv; exact after_of h
theorem after_same_at {P : Program} {f : FuncId} {args : Array Value} {w : World} {p : After w} {x y : Bool} (hv : x = y)
    (h : Calls P f args p.w fun e w' => e = .returned (.bool x) ∧ w' = p.w) : Calls P f args p.w fun e w'' => e = .returned (.bool y) ∧ ∃ q : After w, w'' = q.w := by
  subst hv; exact h.mono fun _ _ ⟨he, hb⟩ => ⟨he, p, hb⟩
theorem after_same {P : Program} {f : FuncId} {args : Array Value} {w : World} {p : After w} {v : Value}
    (h : Calls P f args p.w fun e w' => e = .returned v ∧ w' = p.w) : Calls P f args p.w fun e w'' => e = .returned v ∧ ∃ q : After w, w'' = q.w :=
  h.mono fun _ _ ⟨he, hb⟩ => ⟨he, p, hb⟩
set_option linter.unusedVariables false

/-- A node is right. -/
def nodeB (l n : Int) : Bool := okB l && decide (0 ≤ n) && decide (n ≤ 40)
/-- A node's number among all. -/
def codeI (l n : Int) : Int := if nodeB l n then 64 * l + n else -1
theorem nodeB_true {l n : Int} (h : nodeB l n = true) : okB l = true ∧ 0 ≤ n ∧ n ≤ 40 := by
  simp only [nodeB, Bool.and_eq_true, decide_eq_true_eq] at h; exact ⟨h.1.1, h.1.2, h.2⟩
theorem codeI_bd (l n : Int) : -1 ≤ codeI l n ∧ codeI l n ≤ 488 := by
  unfold codeI
  cases h : nodeB l n
  · simp
  · obtain ⟨h1, h2, h3⟩ := nodeB_true h
    have := okB_true h1
    simp; omega
/-- Behind a call that turns nothing that was there, old cells read as they did. -/
theorem Below.cells {w w' : World} (h : Below w.heap.size w w') : ∀ b o s, b < w.heap.size → w'.cell? ⟨b, o, s⟩ = w.cell? ⟨b, o, s⟩ := fun b o s hp => h.cell (p := ⟨b, o, s⟩) hp

theorem Below.froz {B : Nat} {w w' : World} (h : Below B w w') : ∀ b o s, b < B → w'.frozen? ⟨b, o, s⟩ = w.frozen? ⟨b, o, s⟩ := fun b o s hp => h.frozen (p := ⟨b, o, s⟩) hp
theorem Below.celz {B : Nat} {w w' : World} (h : Below B w w') : ∀ b o s, b < B → w'.cell? ⟨b, o, s⟩ = w.cell? ⟨b, o, s⟩ := fun b o s hp => h.cell (p := ⟨b, o, s⟩) hp
set_option maxHeartbeats 400000 in
theorem impl_NodeOk (l n : Int) (w : World) :
    Calls Tryz.prog 105 #[.agg #[.int .i64 l, .int .i64 n]] w fun e w' => e = .returned (.bool (nodeB l n)) ∧ Below w.heap.size w w' := by
  unfold nodeB
  cases ho : okB l
  · go_enter Tryz.func105, Tryz.ntmps105
    go_wp2_with (first | (go_at_call 25; refine use (impl_LabelOk _ _) ?_))
    go_ret
    exact ⟨rfl, (Below.refl _ _).alloc (Nat.le_refl _) _⟩
  · cases h1 : decide (0 ≤ n)
    · go_enter Tryz.func105, Tryz.ntmps105
      go_wp2_with (first | (go_at_call 25; refine use (impl_LabelOk _ _) ?_))
      go_ret
      exact ⟨rfl, (Below.refl _ _).alloc (Nat.le_refl _) _⟩
    · go_enter Tryz.func105, Tryz.ntmps105
      go_wp2_with (first | (go_at_call 25; refine use (impl_LabelOk _ _) ?_))
      go_ret
      exact ⟨rfl, (Below.refl _ _).alloc (Nat.le_refl _) _⟩
set_option maxHeartbeats 400000 in
theorem spec_NodeOk (l n : Int) (w : World) :
    Calls Tryz.prog 38 #[.agg #[.int .i64 l, .int .i64 n]] w fun e w' => e = .returned (.bool (nodeB l n)) ∧ Below w.heap.size w w' := by
  unfold nodeB
  cases ho : okB l
  · go_enter Tryz.func38, Tryz.ntmps38
    go_wp2_with (first | (go_at_call 61; refine use (spec_LabelOk _ _) ?_))
    go_ret
    exact ⟨rfl, (Below.refl _ _).alloc (Nat.le_refl _) _⟩
  · cases h1 : decide (0 ≤ n)
    · go_enter Tryz.func38, Tryz.ntmps38
      go_wp2_with (first | (go_at_call 61; refine use (spec_LabelOk _ _) ?_))
      go_ret
      exact ⟨rfl, (Below.refl _ _).alloc (Nat.le_refl _) _⟩
    · go_enter Tryz.func38, Tryz.ntmps38
      go_wp2_with (first | (go_at_call 61; refine use (spec_LabelOk _ _) ?_))
      go_ret
      exact ⟨rfl, (Below.refl _ _).alloc (Nat.le_refl _) _⟩
set_option maxHeartbeats 400000 in
theorem impl_NodeCode (l n : Int) (w : World) :
    Calls Tryz.prog 85 #[.agg #[.int .i64 l, .int .i64 n]] w fun e w' => e = .returned (.int .i64 (codeI l n)) ∧ Below w.heap.size w w' := by
  unfold codeI
  cases ho : nodeB l n
  · go_enter Tryz.func85, Tryz.ntmps85
    go_wp2_with fail
    refine (impl_NodeOk _ _ _).mono ?_
    rintro e w1 ⟨rfl, bel⟩
    go_wp2_with fail
    go_ret
    exact ⟨rfl, ((Below.refl _ _).alloc (Nat.le_refl _) _).trans (bel.mono (by simp))⟩
  · obtain ⟨h1, h2, h3⟩ := nodeB_true ho
    obtain ⟨h4, h5⟩ := okB_true h1
    go_enter Tryz.func85, Tryz.ntmps85
    go_wp2_with fail
    refine (impl_NodeOk _ _ _).mono ?_
    rintro e w1 ⟨rfl, bel⟩
    have hk := Below.cells bel
    go_wp2_with fail
    go_ret
    exact ⟨rfl, ((Below.refl _ _).alloc (Nat.le_refl _) _).trans (bel.mono (by simp))⟩
/-- A node's number, reckoned whatever the node is. -/
def codeW (l n : Int) : Int := wrap64 (wrap64 (l * 64) + n)
theorem wrap64_eq {x : Int} (h1 : -9223372036854775808 ≤ x) (h2 : x ≤ 9223372036854775807) : wrap64 x = x := by
  unfold wrap64; omega
theorem codeW_ok {l n : Int} (h : nodeB l n = true) : codeW l n = codeI l n := by
  obtain ⟨h1, h2, h3⟩ := nodeB_true h
  obtain ⟨h4, h5⟩ := okB_true h1
  unfold codeW codeI
  rw [h, wrap64_eq (x := l * 64) (by omega) (by omega), wrap64_eq (by omega) (by omega)]
  simp; omega
set_option maxHeartbeats 400000 in
theorem l2Code (l n : Int) (w : World) :
    Calls Tryz.prog 39 #[.agg #[.int .i64 l, .int .i64 n]] w fun e w' => e = .returned (.int .i64 (codeW l n)) ∧ Below w.heap.size w w' := by
  go_enter Tryz.func39, Tryz.ntmps39
  go_wp2_with fail
  go_ret
  exact ⟨rfl, (Below.refl _ _).alloc (Nat.le_refl _) _⟩
/-- An edge is right. -/
def edgeB (l al an bl bn : Int) : Bool := nodeB al an && nodeB bl bn && decide (codeI al an < codeI bl bn) && underB al l && underB bl l
theorem keep_cell {w w1 : World} (bel : Below w.heap.size w w1) {B o : Nat} {v : Value} (hB : B < w.heap.size) (h : w.cell? ⟨B, o, none⟩ = some v) : w1.cell? ⟨B, o, none⟩ = some v := by
  rw [bel.cell (p := ⟨B, o, none⟩) hB]; exact h
theorem keep_size {w w1 : World} (bel : Below w.heap.size w w1) {B : Nat} (hB : B < w.heap.size) : B < w1.heap.size := Nat.lt_of_lt_of_le hB bel.size
theorem keep_below {w w' w1 : World} (h : Below w.heap.size w w') (bel : Below w'.heap.size w' w1) : Below w.heap.size w w1 := h.trans (bel.mono h.size)
set_option maxHeartbeats 4000000 in
theorem impl_EdgeOk (l al an bl bn : Int) (w : World) :
    Calls Tryz.prog 106 #[.agg #[.int .i64 l, .int .i64 al, .int .i64 an, .int .i64 bl, .int .i64 bn]] w fun e w' => e = .returned (.bool (edgeB l al an bl bn)) ∧ Below w.heap.size w w' := by
  have hx := codeI_bd al an
  have hy := codeI_bd bl bn
  unfold edgeB
  cases h1 : nodeB al an
  · go_enter Tryz.func106, Tryz.ntmps106
    go_wp2
    refine wp_region_after (by kernel_rfl) (by kernel_rfl) ?_
    intro hne hac
    repeat (go_big_quiet_step (first | (go_at_call_of 105 (Value.agg #[.int .i64 al, .int .i64 an]); exact after_at (x := nodeB al an) (y := false) h1 (impl_NodeOk al an _))))
    refine wpQuiet_nil ?_
    rintro _ ⟨p, rfl⟩
    have hb := ((Below.refl _ _).alloc (Nat.le_refl _) _).trans (p.bel.mono (by simp))
    clear hne hac
    go_wp2
    go_ret
    exact ⟨rfl, hb⟩
  · cases h2 : nodeB bl bn
    · go_enter Tryz.func106, Tryz.ntmps106
      go_wp2
      refine wp_region_after (by kernel_rfl) (by kernel_rfl) ?_
      intro hne hac
      repeat (go_big_quiet_step (first | (go_at_call_of 105 (Value.agg #[.int .i64 al, .int .i64 an]); exact after_at (x := nodeB al an) (y := true) h1 (impl_NodeOk al an _)) | (go_at_call_of 105 (Value.agg #[.int .i64 bl, .int .i64 bn]); exact after_at (x := nodeB bl bn) (y := false) h2 (impl_NodeOk bl bn _))))
      refine wpQuiet_nil ?_
      rintro _ ⟨p, rfl⟩
      have hb := ((Below.refl _ _).alloc (Nat.le_refl _) _).trans (p.bel.mono (by simp))
      clear hne hac
      go_wp2
      go_ret
      exact ⟨rfl, hb⟩
    · cases h3 : decide (codeI al an < codeI bl bn)
      · go_enter Tryz.func106, Tryz.ntmps106
        go_wp2
        refine wp_region_after (by kernel_rfl) (by kernel_rfl) ?_
        intro hne hac
        repeat (go_big_quiet_step (first | (go_at_call_of 105 (Value.agg #[.int .i64 al, .int .i64 an]); exact after_at (x := nodeB al an) (y := true) h1 (impl_NodeOk al an _)) | (go_at_call_of 105 (Value.agg #[.int .i64 bl, .int .i64 bn]); exact after_at (x := nodeB bl bn) (y := true) h2 (impl_NodeOk bl bn _)) | (go_at_call_of 85 (Value.agg #[.int .i64 al, .int .i64 an]); exact after_of (impl_NodeCode al an _)) | (go_at_call_of 85 (Value.agg #[.int .i64 bl, .int .i64 bn]); exact after_of (impl_NodeCode bl bn _))))
        refine wpQuiet_nil ?_
        rintro _ ⟨p, rfl⟩
        have hb := ((Below.refl _ _).alloc (Nat.le_refl _) _).trans (p.bel.mono (by simp))
        clear hne hac
        go_wp2
        go_ret
        exact ⟨rfl, hb⟩
      · cases h4 : underB al l
        · go_enter Tryz.func106, Tryz.ntmps106
          go_wp2
          refine wp_region_after (by kernel_rfl) (by kernel_rfl) ?_
          intro hne hac
          repeat (go_big_quiet_step (first | (go_at_call_of 105 (Value.agg #[.int .i64 al, .int .i64 an]); exact after_at (x := nodeB al an) (y := true) h1 (impl_NodeOk al an _)) | (go_at_call_of 105 (Value.agg #[.int .i64 bl, .int .i64 bn]); exact after_at (x := nodeB bl bn) (y := true) h2 (impl_NodeOk bl bn _)) | (go_at_call_of 85 (Value.agg #[.int .i64 al, .int .i64 an]); exact after_of (impl_NodeCode al an _)) | (go_at_call_of 85 (Value.agg #[.int .i64 bl, .int .i64 bn]); exact after_of (impl_NodeCode bl bn _)) | (go_at_call_of 31 (Value.int .i64 al); exact after_same_at (x := underB al l) (y := false) h4 (impl_LabelUnder al l _))))
          refine wpQuiet_nil ?_
          rintro _ ⟨p, rfl⟩
          have hb := ((Below.refl _ _).alloc (Nat.le_refl _) _).trans (p.bel.mono (by simp))
          clear hne hac
          go_wp2
          go_ret
          exact ⟨rfl, hb⟩
        · go_enter Tryz.func106, Tryz.ntmps106
          go_wp2
          refine wp_region_after (by kernel_rfl) (by kernel_rfl) ?_
          intro hne hac
          repeat (go_big_quiet_step (first | (go_at_call_of 105 (Value.agg #[.int .i64 al, .int .i64 an]); exact after_at (x := nodeB al an) (y := true) h1 (impl_NodeOk al an _)) | (go_at_call_of 105 (Value.agg #[.int .i64 bl, .int .i64 bn]); exact after_at (x := nodeB bl bn) (y := true) h2 (impl_NodeOk bl bn _)) | (go_at_call_of 85 (Value.agg #[.int .i64 al, .int .i64 an]); exact after_of (impl_NodeCode al an _)) | (go_at_call_of 85 (Value.agg #[.int .i64 bl, .int .i64 bn]); exact after_of (impl_NodeCode bl bn _)) | (go_at_call_of 31 (Value.int .i64 al); exact after_same_at (x := underB al l) (y := true) h4 (impl_LabelUnder al l _)) | (go_at_call_of 31 (Value.int .i64 bl); exact after_same (impl_LabelUnder bl l _))))
          refine wpQuiet_nil ?_
          rintro _ ⟨p, rfl⟩
          have hb := ((Below.refl _ _).alloc (Nat.le_refl _) _).trans (p.bel.mono (by simp))
          clear hne hac
          go_wp2
          go_ret
          exact ⟨rfl, hb⟩
theorem edgeB_spec (l al an bl bn : Int) : edgeB l al an bl bn = (okB l && nodeB al an && nodeB bl bn && decide (codeW al an < codeW bl bn) && unB al l && unB bl l) := by
  unfold edgeB underB
  cases h1 : nodeB al an
  · simp
  · cases h2 : nodeB bl bn
    · simp
    · rw [codeW_ok h1, codeW_ok h2, (nodeB_true h1).1, (nodeB_true h2).1]
      cases okB l <;> simp
set_option maxHeartbeats 4000000 in
theorem spec_EdgeOk (l al an bl bn : Int) (w : World) :
    Calls Tryz.prog 40 #[.agg #[.int .i64 l, .int .i64 al, .int .i64 an, .int .i64 bl, .int .i64 bn]] w fun e w' => e = .returned (.bool (edgeB l al an bl bn)) ∧ Below w.heap.size w w' := by
  rw [edgeB_spec]
  cases h0 : okB l
  · go_enter Tryz.func40, Tryz.ntmps40
    go_wp2
    refine wp_region_after (by kernel_rfl) (by kernel_rfl) ?_
    intro hne hac
    repeat (go_big_quiet_step (first | (go_at_call_of 61 (Value.int .i64 l); exact after_same_at (x := okB l) (y := false) h0 (spec_LabelOk l _))))
    refine wpQuiet_nil ?_
    rintro _ ⟨p, rfl⟩
    have hb := ((Below.refl _ _).alloc (Nat.le_refl _) _).trans (p.bel.mono (by simp))
    clear hne hac
    go_wp2
    go_ret
    exact ⟨rfl, hb⟩
  · cases h1 : nodeB al an
    · go_enter Tryz.func40, Tryz.ntmps40
      go_wp2
      refine wp_region_after (by kernel_rfl) (by kernel_rfl) ?_
      intro hne hac
      repeat (go_big_quiet_step (first | (go_at_call_of 61 (Value.int .i64 l); exact after_same_at (x := okB l) (y := true) h0 (spec_LabelOk l _)) | (go_at_call_of 38 (Value.agg #[.int .i64 al, .int .i64 an]); exact after_at (x := nodeB al an) (y := false) h1 (spec_NodeOk al an _))))
      refine wpQuiet_nil ?_
      rintro _ ⟨p, rfl⟩
      have hb := ((Below.refl _ _).alloc (Nat.le_refl _) _).trans (p.bel.mono (by simp))
      clear hne hac
      go_wp2
      go_ret
      exact ⟨rfl, hb⟩
    · cases h2 : nodeB bl bn
      · go_enter Tryz.func40, Tryz.ntmps40
        go_wp2
        refine wp_region_after (by kernel_rfl) (by kernel_rfl) ?_
        intro hne hac
        repeat (go_big_quiet_step (first | (go_at_call_of 61 (Value.int .i64 l); exact after_same_at (x := okB l) (y := true) h0 (spec_LabelOk l _)) | (go_at_call_of 38 (Value.agg #[.int .i64 al, .int .i64 an]); exact after_at (x := nodeB al an) (y := true) h1 (spec_NodeOk al an _)) | (go_at_call_of 38 (Value.agg #[.int .i64 bl, .int .i64 bn]); exact after_at (x := nodeB bl bn) (y := false) h2 (spec_NodeOk bl bn _))))
        refine wpQuiet_nil ?_
        rintro _ ⟨p, rfl⟩
        have hb := ((Below.refl _ _).alloc (Nat.le_refl _) _).trans (p.bel.mono (by simp))
        clear hne hac
        go_wp2
        go_ret
        exact ⟨rfl, hb⟩
      · cases h3 : decide (codeW al an < codeW bl bn)
        · go_enter Tryz.func40, Tryz.ntmps40
          go_wp2
          refine wp_region_after (by kernel_rfl) (by kernel_rfl) ?_
          intro hne hac
          repeat (go_big_quiet_step (first | (go_at_call_of 61 (Value.int .i64 l); exact after_same_at (x := okB l) (y := true) h0 (spec_LabelOk l _)) | (go_at_call_of 38 (Value.agg #[.int .i64 al, .int .i64 an]); exact after_at (x := nodeB al an) (y := true) h1 (spec_NodeOk al an _)) | (go_at_call_of 38 (Value.agg #[.int .i64 bl, .int .i64 bn]); exact after_at (x := nodeB bl bn) (y := true) h2 (spec_NodeOk bl bn _)) | (go_at_call_of 39 (Value.agg #[.int .i64 al, .int .i64 an]); exact after_of (l2Code al an _)) | (go_at_call_of 39 (Value.agg #[.int .i64 bl, .int .i64 bn]); exact after_of (l2Code bl bn _))))
          refine wpQuiet_nil ?_
          rintro _ ⟨p, rfl⟩
          have hb := ((Below.refl _ _).alloc (Nat.le_refl _) _).trans (p.bel.mono (by simp))
          clear hne hac
          go_wp2
          go_ret
          exact ⟨rfl, hb⟩
        · cases h4 : unB al l
          · go_enter Tryz.func40, Tryz.ntmps40
            go_wp2
            refine wp_region_after (by kernel_rfl) (by kernel_rfl) ?_
            intro hne hac
            repeat (go_big_quiet_step (first | (go_at_call_of 61 (Value.int .i64 l); exact after_same_at (x := okB l) (y := true) h0 (spec_LabelOk l _)) | (go_at_call_of 38 (Value.agg #[.int .i64 al, .int .i64 an]); exact after_at (x := nodeB al an) (y := true) h1 (spec_NodeOk al an _)) | (go_at_call_of 38 (Value.agg #[.int .i64 bl, .int .i64 bn]); exact after_at (x := nodeB bl bn) (y := true) h2 (spec_NodeOk bl bn _)) | (go_at_call_of 39 (Value.agg #[.int .i64 al, .int .i64 an]); exact after_of (l2Code al an _)) | (go_at_call_of 39 (Value.agg #[.int .i64 bl, .int .i64 bn]); exact after_of (l2Code bl bn _)) | (go_at_call_of 79 (Value.int .i64 al); exact after_same_at (x := unB al l) (y := false) h4 (l1Under al l _ (nodeB_true h1).1 h0))))
            refine wpQuiet_nil ?_
            rintro _ ⟨p, rfl⟩
            have hb := ((Below.refl _ _).alloc (Nat.le_refl _) _).trans (p.bel.mono (by simp))
            clear hne hac
            go_wp2
            go_ret
            exact ⟨rfl, hb⟩
          · go_enter Tryz.func40, Tryz.ntmps40
            go_wp2
            refine wp_region_after (by kernel_rfl) (by kernel_rfl) ?_
            intro hne hac
            repeat (go_big_quiet_step (first | (go_at_call_of 61 (Value.int .i64 l); exact after_same_at (x := okB l) (y := true) h0 (spec_LabelOk l _)) | (go_at_call_of 38 (Value.agg #[.int .i64 al, .int .i64 an]); exact after_at (x := nodeB al an) (y := true) h1 (spec_NodeOk al an _)) | (go_at_call_of 38 (Value.agg #[.int .i64 bl, .int .i64 bn]); exact after_at (x := nodeB bl bn) (y := true) h2 (spec_NodeOk bl bn _)) | (go_at_call_of 39 (Value.agg #[.int .i64 al, .int .i64 an]); exact after_of (l2Code al an _)) | (go_at_call_of 39 (Value.agg #[.int .i64 bl, .int .i64 bn]); exact after_of (l2Code bl bn _)) | (go_at_call_of 79 (Value.int .i64 al); exact after_same_at (x := unB al l) (y := true) h4 (l1Under al l _ (nodeB_true h1).1 h0)) | (go_at_call_of 79 (Value.int .i64 bl); exact after_same (l1Under bl l _ (nodeB_true h2).1 h0))))
            refine wpQuiet_nil ?_
            rintro _ ⟨p, rfl⟩
            have hb := ((Below.refl _ _).alloc (Nat.le_refl _) _).trans (p.bel.mono (by simp))
            clear hne hac
            go_wp2
            go_ret
            exact ⟨rfl, hb⟩
end Go.Proofs.YtlnpbfeihjfnjaaGreatDoor.Lab

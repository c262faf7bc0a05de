/-
  Proved: for any two codes laws.FnLabelText returns true (labels are read back exactly as written) and changes nothing that was there; its one condition, that the package's table of texts holds what the program's own text lays there, is tied to that text.
-/
import Derived.Test.YtlfbgafedbbahaaDoorCards
import Derived.Test.YtlfbgafedbbahaaDoorTie
import Derived.Test.YtlfbgafedbbahaaDoorDoor
import Derived.Test.YtlfbgafedbbahaaDoorDrawt
import Derived.WalkKit
import Derived.ProofKit
import Derived.OpenShut
import Derived.ShutString
import Derived.ChangeOld
import Derived.Below
import Derived.LaidMore
namespace Go.Proofs.YtlfbgafedbbahaaDoor.fnLabelText
open Go.Proofs.YtlfbgafedbbahaaDoor.Lab
open Go.ChangeShapes Go.WideShapes Go.ChangeAt Go.RowKit
open Go.ChangeMaps (open_string shut_string)
set_option linter.unusedVariables false

theorem own : ownKnob Tryd.prog.godebug = none := by kernel_rfl

def IsRow (k : IntKind) (w : World) (a : Option Addr) (len cap : Nat) (zs : List Int) : Prop :=
  (a = none ∧ len = 0 ∧ cap = 0 ∧ zs = []) ∨
  ∃ x, a = some x ∧ len ≤ cap ∧ cap ≤ maxLen ∧ zs.length = cap ∧ (∀ i, i < zs.length → w.cell? (x.add i) = some (.int k (zs.getD i 0))) ∧ ∀ n ∈ zs, (Lit.int k n).wf = true

theorem pl_read : ∀ k : Fin 8, readV (txtL k.val) = k.val ∧ readB (txtL k.val) = true := by decide +kernel
theorem read_text (a : Int) : readB (textOf a).data.toList = okB a ∧ (okB a = true → readV (textOf a).data.toList = a) := by
  cases h : okB a
  · have : textOf a = ⟨#[]⟩ := by simp [textOf, h]
    rw [this]
    exact ⟨by decide +kernel, fun h => by cases h⟩
  · have : textOf a = ⟨(txtL a.toNat).toArray⟩ := by simp [textOf, h]
    rw [this]
    obtain ⟨k, rfl⟩ := fin8 h
    exact ⟨(pl_read k).2, fun _ => (pl_read k).1⟩
theorem readN_sound (s : List UInt8) : ∀ n k, readN s n = some k → k < n ∧ txtL k = s := by
  intro n
  induction n with
  | zero => intro k h; simp [readN] at h
  | succ n ih =>
    intro k h
    simp only [readN] at h
    cases hn : readN s n with
    | some j =>
      rw [hn] at h
      have hk : j = k := Option.some.inj h
      have := ih j hn
      exact ⟨by omega, by rw [← hk]; exact this.2⟩
    | none =>
      rw [hn] at h
      simp only at h
      split at h
      · rename_i ht
        have hk : n = k := Option.some.inj h
        exact ⟨by omega, by rw [← hk]; exact ht⟩
      · cases h
theorem text_read (s : ByteArray) (h : readB s.data.toList = true) : textOf (readV s.data.toList) = s := by
  unfold readB at h
  unfold readV
  cases hr : readN s.data.toList 8 with
  | none => rw [hr] at h; simp at h
  | some k =>
    obtain ⟨hk, ht⟩ := readN_sound _ _ _ hr
    have ho : okB (k : Int) = true := okB_mk (by omega) (by omega)
    simp only
    have : textOf (k : Int) = ⟨(txtL k).toArray⟩ := by simp [textOf, ho]
    rw [this, ht]
set_option maxHeartbeats 4000000 in
theorem walk (a0 : Option Addr) (len0 cap0 : Nat) (z0 : List Int) (a1 : Option Addr) (len1 cap1 : Nat) (z1 : List Int) (w : World) (w0 : IsRow .u8 w a0 len0 cap0 z0) (w1 : IsRow .u8 w a1 len1 cap1 z1) (ht : Table w) :
    Calls Tryd.prog 3 #[.slice a0 len0 cap0, .slice a1 len1 cap1] w fun e w' => e = .returned (.bool true) ∧ Below w.heap.size w w' := by
  have HT : Hid (Table w) := ht
  clear ht
  by_cases hlen : len0 > 1048576
  · go_enter Tryd.func3, Tryd.ntmps3
    go_wp2
    go_ret
    exact ⟨rfl, Below.refl _ _⟩
  by_cases hlen1 : len1 > 1048576
  · go_enter Tryd.func3, Tryd.ntmps3
    go_wp2
    go_ret
    exact ⟨rfl, Below.refl _ _⟩
  have k0 : CodeAt w a0 len0 cap0 z0 := code_of w0
  have k1 : CodeAt w a1 len1 cap1 z1 := code_of w1
  clear w0 w1
  go_enter Tryd.func3, Tryd.ntmps3
  go_wp2_with fail
  refine (drawLabelText _ _ _ _ _ k0).mono ?_
  rintro e wa ⟨a, rfl, ha, bel⟩
  have T1 : Hid (Table wa) := HT.out.later bel
  have k1' := k1.below bel
  clear k0 k1 hlen hlen1 ha
  go_wp2_with fail
  refine use (impl_LabelText _ _ T1.out) ?_
  go_wp2_with fail
  refine use (impl_LabelRead _ _ T1.out) ?_
  go_wp2_with fail
  refine (drawLabelRead _ _ _ _ _ k1').mono ?_
  rintro e wb ⟨s, rfl, bel2⟩
  have T2 : Hid (Table wb) := T1.out.later bel2
  have bel12 := bel.trans (bel2.mono bel.size)
  clear k1' bel bel2 T1
  go_wp2_with fail
  refine use (impl_LabelRead _ _ T2.out) ?_
  go_wp2_with fail
  refine (spec_LabelRead _ _).mono ?_
  rintro e wc ⟨rfl, bel3⟩
  have T3 : Hid (Table wc) := T2.out.later bel3
  have bel13 := bel12.trans (bel3.mono bel12.size)
  clear bel12 bel3 T2
  go_wp2_with fail
  refine (spec_LabelText _ _).mono ?_
  rintro e wd ⟨rfl, bel4⟩
  have T4 : Hid (Table wd) := T3.out.later bel4
  have HB : Hid (Below w.heap.size w wd) := bel13.trans (bel4.mono bel13.size)
  clear bel13 bel4 T3
  obtain ⟨q1, q2⟩ := read_text a
  have q3 := text_read s
  have e1 : ((textOf a).toList == (textOf a).toList) = true := by simp
  cases ho : okB a
  · simp only [ho] at q1
    cases hf : readB s.data.toList
    · clear q2 q3
      go_wp2_with (first | (go_at_call 10; refine use (impl_LabelOk _ _) ?_))
      go_ret
      exact ⟨rfl, HB.out⟩
    · have q4 := q3 hf
      have e2 : ((textOf (readV s.data.toList)).toList == s.toList) = true := by rw [q4]; simp
      clear q2 q3 q4
      go_wp2_with (first | (go_at_call 10; refine use (impl_LabelOk _ _) ?_) | (go_at_call 5; refine use (impl_LabelText _ _ T4.out) ?_))
      go_ret
      exact ⟨rfl, HB.out⟩
  · simp only [ho] at q1
    have q5 := q2 ho
    cases hf : readB s.data.toList
    · clear q2 q3
      go_wp2_with (first | (go_at_call 10; refine use (impl_LabelOk _ _) ?_))
      go_ret
      exact ⟨rfl, HB.out⟩
    · have q4 := q3 hf
      have e2 : ((textOf (readV s.data.toList)).toList == s.toList) = true := by rw [q4]; simp
      clear q2 q3 q4
      go_wp2_with (first | (go_at_call 10; refine use (impl_LabelOk _ _) ?_) | (go_at_call 5; refine use (impl_LabelText _ _ T4.out) ?_))
      go_ret
      exact ⟨rfl, HB.out⟩

theorem door_met (os : Os) (args : Array Value) : laidMetH Tryd.prog Rows.fnLabelTextRow.laid ((World.doorLaid Tryd.prog 14 os).forCall (fun _ _ => 0) ⟨#[], args, []⟩).memory :=
  laidMetH_of_parts3 (fuel := 8) (laidMet_of_run' 8 (by kernel_rfl) (by kernel_rfl)) (by kernel_rfl) (by kernel_rfl)

set_option maxRecDepth 100000 in
theorem lifted (os : Os) (started : os.Started) (H : Type) (enc : TypeId × Value → H) :
    ReturnsInHanded {} Tryd.checked os 3 .any (fun w args => (Rows.fnLabelTextSpec.pre enc Tryd.prog Tryd.f3 [] false w args ∧ laidMetH Tryd.prog Rows.fnLabelTextRow.laid w) ∧ sizedMet enc Tryd.prog Tryd.f3 (OpenSpec.ofChange Rows.fnLabelTextSpec) false w args)
      (Rows.fnLabelTextSpec.post enc Tryd.prog Tryd.f3 false true false false) := by
  refine returnsInHanded_of_change_and (C := Tryd.checked) (X := fun w _ => laidMetH Tryd.prog Rows.fnLabelTextRow.laid w) (fun _ _ _ hh h => h.of_heap hh) own started (by kernel_rfl) Tryd.func3
    (ChangeSpec.witness_shaped (enc := enc) (C := Tryd.checked) (os := os) (X := fun w _ => laidMetH Tryd.prog Rows.fnLabelTextRow.laid w) false (World.doorLaid Tryd.prog 14 os) #[.slice none 0 0, .slice none 0 0] 8 rfl (World.shaped_of_RefB (by kernel_rfl) (by kernel_rfl)) (by kernel_rfl) (by kernel_rfl) (by kernel_rfl) (door_met os _)) ?_
  intro W base args ds gs before hval0 hW _ _ hL _
  have hval : ∀ (j : Nat) t v, Tryd.f3.params[j]? = some t → args[j]? = some v → Value.okWide Tryd.prog W .any base t v := hval0
  have hW' := hW
  obtain ⟨p, q, hA0, hV0, rfl, hfz, hnd⟩ := hW
  have hA : DataW.TrodAll enc Tryd.prog W 0 (fun _ => true) true Tryd.f3.params.toList args.toList ds p := hA0
  have hV : DataW.TrodVars enc Tryd.prog W (fun _ => true) ["loop.example/hagioscope/impl.labelTexts"] gs q := hV0
  rw [Tryd.params3] at hA hval
  obtain ⟨v0, vs0, d0, ds0, p0, q0, hargs, rfl, rfl, h0, r0⟩ := trodAll_cons hA
  obtain ⟨v1, vs1, d1, ds1, p1, q1, rfl, rfl, rfl, h1, r1⟩ := trodAll_cons r0
  obtain ⟨rfl, rfl, rfl⟩ := trodAll_nil r1
  obtain rfl : args = #[v0, v1] := by cases args; simp_all
  obtain ⟨a0, len0, cap0, rfl⟩ := okWide_slice Tryd.underlying22 (hval 0 22 v0 rfl rfl)
  have k0 := h0
  have lt0 : ∀ x ∈ p0, x.block < W.heap.size := by obtain ⟨m, hm⟩ := k0; exact DataW.trod_lt m _ _ _ hm
  obtain ⟨z0, w0⟩ : ∃ zs, IsRow .u8 W a0 len0 cap0 zs := by
    obtain ⟨fuel, hf⟩ := h0
    rcases open_ints Tryd.underlying22 Tryd.underlying5 (by kernel_rfl) hf with ⟨hcs, _⟩ | ⟨x, l, c, zs, hcs, _, hl, hm, hz, _, hcell, hwz⟩
    · simp [Value.cells] at hcs
      obtain ⟨rfl, rfl, rfl⟩ := hcs
      exact ⟨[], .inl ⟨rfl, rfl, rfl, rfl⟩⟩
    · simp [Value.cells] at hcs
      obtain ⟨rfl, rfl, rfl⟩ := hcs
      exact ⟨zs, .inr ⟨_, rfl, hl, hm, by simpa using hz, hcell, hwz⟩⟩
  obtain ⟨a1, len1, cap1, rfl⟩ := okWide_slice Tryd.underlying22 (hval 1 22 v1 rfl rfl)
  have k1 := h1
  have lt1 : ∀ x ∈ p1, x.block < W.heap.size := by obtain ⟨m, hm⟩ := k1; exact DataW.trod_lt m _ _ _ hm
  obtain ⟨z1, w1⟩ : ∃ zs, IsRow .u8 W a1 len1 cap1 zs := by
    obtain ⟨fuel, hf⟩ := h1
    rcases open_ints Tryd.underlying22 Tryd.underlying5 (by kernel_rfl) hf with ⟨hcs, _⟩ | ⟨x, l, c, zs, hcs, _, hl, hm, hz, _, hcell, hwz⟩
    · simp [Value.cells] at hcs
      obtain ⟨rfl, rfl, rfl⟩ := hcs
      exact ⟨[], .inl ⟨rfl, rfl, rfl, rfl⟩⟩
    · simp [Value.cells] at hcs
      obtain ⟨rfl, rfl, rfl⟩ := hcs
      exact ⟨zs, .inr ⟨_, rfl, hl, hm, by simpa using hz, hcell, hwz⟩⟩
  have hlq := DataW.TrodVars.lt hV
  obtain ⟨g, t, cs, fuel, d, p', rfl, hg, ht, hvar, hd, rfl⟩ := trodVars_one hV
  obtain rfl := Option.some.inj (gTexts.symm.trans hg)
  obtain rfl := Option.some.inj (tTexts.symm.trans ht)
  have htab : Table W := table_of hL
  clear hA0 hV0 hval0
  refine (walk a0 len0 cap0 z0 a1 len1 cap1 z1 W w0 w1 htab).mono fun e W' ⟨he, bel⟩ => ?_
  subst he
  exact ⟨_, rfl, _, _, _, [], _, _, hW', trodAll_mk1 (shut_bool Tryd.underlying4 _), (trodAll_cons_mk (Below.trod laidOut (by kernel_rfl) (of_decide_eq_true (by kernel_rfl)) k0 bel lt0) (trodAll_cons_mk (Below.trod laidOut (by kernel_rfl) (of_decide_eq_true (by kernel_rfl)) k1 bel lt1) trodAll_mk0)), var_again gTexts tTexts (by kernel_rfl) (of_decide_eq_true (by kernel_rfl)) hvar hd (fun x hx => hlq x (List.mem_append_right _ hx)) bel, bel.frame _, fun h => by cases h⟩

theorem said : Rows.FnLabelTextSaid :=
  OpenClaim.holds_of_wide 3 Tryd.f3 rfl rfl rfl rfl rfl rfl rfl ⟨rfl, rfl, rfl, rfl, rfl⟩ rfl rfl rfl rfl rfl (by kernel_rfl) Tryd.func3 (by kernel_rfl)
    (of_decide_eq_true (by kernel_rfl)) (by unfold Func.isWrapper; first | (rw [if_pos (by decide +kernel)]; kernel_rfl) | (rw [if_neg (by decide +kernel)]; exact ⟨rfl, rfl⟩))
    (fun os started H enc _ => lifted os started H enc)

theorem plain (f : FuncId) (fn : Func) (hf : Tryd.pinned.checked.prog.funcNamed "loop.example/hagioscope/laws.FnLabelText" = some f) (hfn : Tryd.pinned.checked.prog.funcs[f]? = some fn) :
    false = Tryd.pinned.checked.prog.looks [] ∧ ∀ (j : Nat) t, fn.params[j]? = some t → Tryd.pinned.checked.prog.wantsStandIn t = false := by
  obtain rfl : f = 3 := Option.some.inj ((show Tryd.prog.funcNamed "loop.example/hagioscope/laws.FnLabelText" = some 3 by kernel_rfl).symm.trans hf) |>.symm
  obtain rfl : fn = Tryd.f3 := (Option.some.inj (Tryd.func3.symm.trans hfn)).symm
  refine ⟨by kernel_rfl, fun j t ht => ?_⟩
  rw [Tryd.params3] at ht
  obtain rfl : t = 22 := by simpa using Array.mem_of_getElem? ht
  · exact (show Tryd.prog.wantsStandIn 22 = false by kernel_rfl)

end Go.Proofs.YtlfbgafedbbahaaDoor.fnLabelText
namespace Go.Proofs.YtlfbgafedbbahaaDoor
theorem fnLabelText_card : Rows.FnLabelTextCardSaid :=
  Claim7.holds_tied_plain_at .later [] _ _ _ _ fnLabelText.said (fun _ h => by cases h) (by kernel_rfl) (fun _ h => by cases h) fnLabelText_row_tie rfl ⟨rfl, rfl⟩ (by kernel_rfl) rfl fnLabelText.plain (by kernel_rfl)
#print axioms fnLabelText_card
end Go.Proofs.YtlfbgafedbbahaaDoor

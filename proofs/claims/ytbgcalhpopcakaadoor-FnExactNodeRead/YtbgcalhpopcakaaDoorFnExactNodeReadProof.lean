/-
  At every text NodeRead answers as the specification (the table of texts, the powers of ten and two errors listed).
-/
import Derived.Test.YtbgcalhpopcakaaDoorCards
import Derived.Test.YtbgcalhpopcakaaDoorTie
import Derived.Test.YtbgcalhpopcakaaDoorNrt
import Derived.Test.YtbgcalhpopcakaaDoorOpen
import Derived.Test.YtbgcalhpopcakaaDoorDor
import Derived.Test.YtbgcalhpopcakaaDoorGro
import Derived.WalkKit
import Derived.ProofKit
import Derived.OpenShut
import Derived.ShutString
import Derived.ChangeOld
import Derived.Below
import Derived.Carry
import Derived.Handy
import Derived.Deep.RegionHeld3
import Derived.LaidMore
import Derived.Deep.DeepCutAuto
namespace Go.Proofs.YtbgcalhpopcakaaDoor.fnExactNodeRead
open Go.Proofs.YtbgcalhpopcakaaDoor.Lab
open Go.ChangeShapes Go.WideShapes Go.ChangeAt Go.RowKit
open Go.ChangeMaps (open_string shut_string)
set_option linter.unusedVariables false

theorem own : ownKnob Tryd.prog.godebug = none := by kernel_rfl
/-- A row of numbers that came in: nil, or so many cells. -/
def IsRow (k : IntKind) (w : World) (a : Option Addr) (len cap : Nat) (zs : List Int) : Prop :=
  (a = none ∧ len = 0 ∧ cap = 0 ∧ zs = []) ∨ ∃ x, a = some x ∧ len ≤ cap ∧ cap ≤ maxLen ∧ zs.length = cap ∧ (∀ i, i < zs.length → w.cell? (x.add i) = some (.int k (zs.getD i 0))) ∧ ∀ n ∈ zs, (Lit.int k n).wf = true

set_option maxRecDepth 16000 in
set_option maxHeartbeats 8000000 in
theorem walk (a0 : ByteArray) (w : World) (w0 : a0.size ≤ maxLen) (ht : Table w) (hml : ∃ m, w.cell? ⟨1, 0, none⟩ = some (.int .i64 m)) (hsy : ∃ u v, w.cell? ⟨3, 0, none⟩ = some (.iface u v)) (hra : ∃ u v, w.cell? ⟨4, 0, none⟩ = some (.iface u v)) (hpw : Lib.TabIs Tryd.prog w "internal/strconv.uint64pow10" .u64 Lib.pow10Tab) :
    Calls Tryd.prog 5 #[.string a0] w fun e w' => e = .returned (.bool true) ∧ Below w.heap.size w w' := by
  by_cases hbig : 1048576 < a0.size
  · have hb2 : (1048576 : Int) < (a0.size : Int) := by omega
    clear ht hml hsy hra hpw w0
    go_enter Tryd.func5, Tryd.ntmps5
    go_wp2
    go_ret
    exact ⟨rfl, Below.refl _ _⟩
  · have hb2 : ¬ (1048576 : Int) < (a0.size : Int) := by omega
    have hz : a0.size ≤ 1048576 := by omega
    have HV : Hid (∀ W, Below w.heap.size w W → Table W ∧ (∃ m, W.cell? ⟨1, 0, none⟩ = some (.int .i64 m)) ∧ (∃ u v, W.cell? ⟨3, 0, none⟩ = some (.iface u v)) ∧ (∃ u v, W.cell? ⟨4, 0, none⟩ = some (.iface u v)) ∧ Lib.TabIs Tryd.prog W "internal/strconv.uint64pow10" .u64 Lib.pow10Tab) := fun W h => by
      refine ⟨ht.later h, ?_, ?_, ?_, ?_⟩
      · obtain ⟨u, hc⟩ := hml
        exact ⟨u, (h.cell (World.block_lt_of_cell? _ _ hc)).trans hc⟩
      · obtain ⟨u, v, hc⟩ := hsy
        exact ⟨u, v, (h.cell (World.block_lt_of_cell? _ _ hc)).trans hc⟩
      · obtain ⟨u, v, hc⟩ := hra
        exact ⟨u, v, (h.cell (World.block_lt_of_cell? _ _ hc)).trans hc⟩
      · have hg : Tryd.prog.globalNamed "internal/strconv.uint64pow10" = some 2 := by kernel_rfl
        obtain ⟨_, _, hh⟩ := heap_of_var hg hpw
        exact var?_below h hg (lt_of_block hh) hpw
    clear ht hml hsy hra hpw w0
    go_enter Tryd.func5, Tryd.ntmps5
    go_wp2_with fail
    refine (spec_NodeRead a0 _ hz).mono ?_
    rintro e w1 ⟨l, n, b, rfl, hn1, bel1⟩
    have HN1 : Hid (NdIs a0 l n b) := hn1
    have HB1 : Hid (Below w.heap.size w w1) := bel1
    clear hn1 bel1
    have z1 : w.heap.size ≤ w1.heap.size := HB1.out.size
    obtain ⟨P, hP⟩ : ∃ P, P = w1.heap.size := ⟨_, rfl⟩
    have e0 : (w1.alloc (.cells #[.int .i64 l, .int .i64 n] 24)).cell? ⟨P, 0, none⟩ = some (.int .i64 l) := by rw [hP]; simp [go_sem]
    have e1 : (w1.alloc (.cells #[.int .i64 l, .int .i64 n] 24)).cell? ⟨P, 1, none⟩ = some (.int .i64 n) := by rw [hP]; simp [go_sem]
    have k2 : P < (w1.alloc (.cells #[.int .i64 l, .int .i64 n] 24)).heap.size := by rw [hP]; simp
    have HB2 : Hid (Below w.heap.size w (w1.alloc (.cells #[.int .i64 l, .int .i64 n] 24))) := HB1.out.alloc z1 _
    have s2 : w.heap.size ≤ (w1.alloc (.cells #[.int .i64 l, .int .i64 n] 24)).heap.size := HB2.out.size
    have HPL : Hid (w.heap.size ≤ P) := by show _ ≤ _; omega
    go_wp2_with fail
    rw [← hP]
    generalize w1.alloc (.cells #[.int .i64 l, .int .i64 n] 24) = w2 at *
    clear hP z1 HB1
    refine (impl_NodeRead a0 _ hz (HV.out _ HB2.out).1 (HV.out _ HB2.out).2.1 (HV.out _ HB2.out).2.2.1 (HV.out _ HB2.out).2.2.2.1 (HV.out _ HB2.out).2.2.2.2).mono ?_
    rintro e w3 ⟨l', n', b', rfl, hn2, hb⟩
    obtain ⟨rfl, rfl, rfl⟩ := HN1.out.uniq hn2
    have HB3 : Hid (Below w.heap.size w w3) := HB2.out.trans (hb.mono s2)
    have d0 := (Below.celz hb _ _ _ k2).trans e0
    have d1 := (Below.celz hb _ _ _ k2).trans e1
    have k3 : P < w3.heap.size := by have := hb.size; omega
    have s3 : w.heap.size ≤ w3.heap.size := HB3.out.size
    clear hb hn2 e0 e1 k2 HB2 s2 HN1
    obtain ⟨Q, hQ⟩ : ∃ P, P = w3.heap.size := ⟨_, rfl⟩
    have f0 : (w3.alloc (.cells #[.int .i64 l, .int .i64 n] 24)).cell? ⟨Q, 0, none⟩ = some (.int .i64 l) := by rw [hQ]; simp [go_sem]
    have f1 : (w3.alloc (.cells #[.int .i64 l, .int .i64 n] 24)).cell? ⟨Q, 1, none⟩ = some (.int .i64 n) := by rw [hQ]; simp [go_sem]
    have e0 : (w3.alloc (.cells #[.int .i64 l, .int .i64 n] 24)).cell? ⟨P, 0, none⟩ = some (.int .i64 l) := by rw [World.cell?_alloc_past _ _ _ (by omega)]; exact d0
    have e1 : (w3.alloc (.cells #[.int .i64 l, .int .i64 n] 24)).cell? ⟨P, 1, none⟩ = some (.int .i64 n) := by rw [World.cell?_alloc_past _ _ _ (by omega)]; exact d1
    have HB4 : Hid (Below w.heap.size w (w3.alloc (.cells #[.int .i64 l, .int .i64 n] 24))) := HB3.out.alloc s3 _
    have s4 : w.heap.size ≤ (w3.alloc (.cells #[.int .i64 l, .int .i64 n] 24)).heap.size := HB4.out.size
    have hbb : (b != b) = false := by simp
    go_wp2_with fail
    rw [← hQ]
    generalize w3.alloc (.cells #[.int .i64 l, .int .i64 n] 24) = w4 at *
    clear hQ d0 d1 s3 HB3
    have HE := eqNode l n l n w4
    rw [eqB_true.2 rfl] at HE
    refine HE.mono ?_
    rintro e w5 ⟨rfl, hb⟩
    have HB5 : Hid (Below w.heap.size w w5) := HB4.out.trans (hb.mono s4)
    clear HE hb e0 e1 f0 f1 HB4 s4
    go_wp2
    go_ret
    exact ⟨rfl, HB5.out⟩

theorem door_met (os : Os) (args : Array Value) : laidMetH Tryd.prog Rows.fnExactNodeReadRow.laid ((World.doorLaid Tryd.prog 67 os).forCall (fun _ _ => 0) ⟨#[], args, []⟩).memory :=
  laidMetH_of_parts3 (fuel := 8) (laidMet_of_run' 8 (by kernel_rfl) (by kernel_rfl)) (by kernel_rfl) (by kernel_rfl)

set_option maxRecDepth 100000 in
set_option maxHeartbeats 1000000 in
theorem lifted (os : Os) (started : os.Started) (H : Type) (enc : TypeId × Value → H) :
    ReturnsInHanded {} Tryd.checked os 5 .any (fun w args => (Rows.fnExactNodeReadSpec.pre enc Tryd.prog Tryd.f5 [] false w args ∧ laidMetH Tryd.prog Rows.fnExactNodeReadRow.laid w) ∧ sizedMet enc Tryd.prog Tryd.f5 (OpenSpec.ofChange Rows.fnExactNodeReadSpec) false w args)
      (Rows.fnExactNodeReadSpec.post enc Tryd.prog Tryd.f5 false true false false) := by
  refine returnsInHanded_of_change_andS (C := Tryd.checked) (X := fun w _ => laidMetH Tryd.prog Rows.fnExactNodeReadRow.laid w) (fun _ _ _ hh h => h.of_heap hh) own started (by kernel_rfl) Tryd.func5
    (ChangeSpec.witness_shaped (enc := enc) (C := Tryd.checked) (os := os) (X := fun w _ => laidMetH Tryd.prog Rows.fnExactNodeReadRow.laid w) false (World.doorLaid Tryd.prog 67 os) #[.string ByteArray.empty] 8 rfl (World.shaped_of_RefB (by kernel_rfl) (by kernel_rfl)) (by kernel_rfl) (by kernel_rfl) (by kernel_rfl) (door_met os _)) ?_
  intro W base args ds gs before hval0 hW _ _ hL hsh _
  have hval : ∀ (j : Nat) t v, Tryd.f5.params[j]? = some t → args[j]? = some v → Value.okWide Tryd.prog W .any base t v := hval0
  have hW' := hW
  obtain ⟨p, q, hA0, hV0, rfl, hfz, hnd⟩ := hW
  have hA : DataW.TrodAll enc Tryd.prog W 0 (fun _ => true) true Tryd.f5.params.toList args.toList ds p := hA0
  have hV : DataW.TrodVars enc Tryd.prog W (fun _ => true) ["loop.example/hagioscope/impl.labelTexts"] gs q := hV0
  rw [Tryd.params5] at hA hval
  obtain ⟨v0, vs0, d0, ds0, p0, q0, hargs, rfl, rfl, h0, r0⟩ := trodAll_cons hA
  obtain ⟨rfl, rfl, rfl⟩ := trodAll_nil r0
  obtain rfl : args = #[v0] := by cases args; simp_all
  have kr0 := h0
  have lt0 : ∀ x ∈ p0, x.block < W.heap.size := by obtain ⟨m, hm⟩ := kr0; exact DataW.trod_lt m _ _ _ hm
  obtain ⟨a0, rfl, rfl, rfl, w0⟩ := open_string Tryd.underlying9 (hval 0 9 v0 rfl rfl) h0
  have hlq := DataW.TrodVars.lt hV
  obtain ⟨g, t, cs, fuel, d, p', rfl, hg, ht, hvar, hd, rfl⟩ := trodVars_one hV
  obtain rfl := Option.some.inj (gTexts.symm.trans hg)
  obtain rfl := Option.some.inj (tTexts.symm.trans ht)
  have htab : Table W := tableOf (by kernel_rfl) (by simp [Rows.fnExactNodeReadRow]) hL
  have hml : ∃ m, W.cell? ⟨1, 0, none⟩ = some (.int .i64 m) := maxLenOf hsh
  have hsy : ∃ u v, W.cell? ⟨3, 0, none⟩ = some (.iface u v) := errAtOf (n := "strconv.ErrSyntax") (by kernel_rfl) (show (_, Rows.laid_strconv_ErrSyntax) ∈ _ by simp [Rows.fnExactNodeReadRow]) hL (by kernel_rfl) (by kernel_rfl) Tryd.underlying59
  have hra : ∃ u v, W.cell? ⟨4, 0, none⟩ = some (.iface u v) := errAtOf (n := "strconv.ErrRange") (by kernel_rfl) (show (_, Rows.laid_strconv_ErrRange) ∈ _ by simp [Rows.fnExactNodeReadRow]) hL (by kernel_rfl) (by kernel_rfl) Tryd.underlying59
  have hpw := powOf (by kernel_rfl) (show ("internal/strconv.uint64pow10", Rows.laid_internal_strconv_uint64pow10) ∈ _ by simp [Rows.fnExactNodeReadRow]) hL
  clear hA0 hV0 hval0
  refine (walk a0 W w0 htab hml hsy hra hpw).mono fun e W' ⟨he, bel⟩ => ?_
  subst he
  exact ⟨_, rfl, _, _, _, [], _, _, hW', trodAll_mk1 (shut_bool Tryd.underlying4 _), (trodAll_cons_mk (Below.trod laidOut (by kernel_rfl) (of_decide_eq_true (by kernel_rfl)) kr0 bel lt0) trodAll_mk0), var_again gTexts tTexts (by kernel_rfl) (of_decide_eq_true (by kernel_rfl)) hvar hd (fun x hx => hlq x (List.mem_append_right _ hx)) bel, bel.frame _, fun h => by cases h⟩

theorem said : Rows.FnExactNodeReadSaid :=
  OpenClaim.holds_of_wide 5 Tryd.f5 rfl rfl rfl rfl rfl rfl rfl ⟨rfl, rfl, rfl, rfl, rfl⟩ rfl rfl rfl rfl rfl (by kernel_rfl) Tryd.func5 (by kernel_rfl)
    (of_decide_eq_true (by kernel_rfl)) (by unfold Func.isWrapper; first | (rw [if_pos (by decide +kernel)]; kernel_rfl) | (rw [if_neg (by decide +kernel)]; exact ⟨rfl, rfl⟩))
    (fun os started H enc _ => lifted os started H enc)

theorem plain (f : FuncId) (fn : Func) (hf : Tryd.pinned.checked.prog.funcNamed "loop.example/hagioscope/laws.FnExactNodeRead" = some f) (hfn : Tryd.pinned.checked.prog.funcs[f]? = some fn) :
    true = Tryd.pinned.checked.prog.looks [] ∧ ∀ (j : Nat) t, fn.params[j]? = some t → Tryd.pinned.checked.prog.wantsStandIn t = false := by
  obtain rfl : f = 5 := Option.some.inj ((show Tryd.prog.funcNamed "loop.example/hagioscope/laws.FnExactNodeRead" = some 5 by kernel_rfl).symm.trans hf) |>.symm
  obtain rfl : fn = Tryd.f5 := (Option.some.inj (Tryd.func5.symm.trans hfn)).symm
  refine ⟨by kernel_rfl, fun j t ht => ?_⟩
  rw [Tryd.params5] at ht
  obtain rfl : t = 9 := by simpa using Array.mem_of_getElem? ht
  · exact (show Tryd.prog.wantsStandIn 9 = false by kernel_rfl)

end Go.Proofs.YtbgcalhpopcakaaDoor.fnExactNodeRead
namespace Go.Proofs.YtbgcalhpopcakaaDoor
theorem fnExactNodeRead_card : Rows.FnExactNodeReadCardSaid :=
  Claim7.holds_tied_plain_at .later [] _ _ _ _ fnExactNodeRead.said (fun _ h => by cases h) (by kernel_rfl) (fun _ h => by cases h) fnExactNodeRead_row_tie rfl ⟨rfl, rfl⟩ (by kernel_rfl) rfl fnExactNodeRead.plain (by kernel_rfl)
#print axioms fnExactNodeRead_card
end Go.Proofs.YtbgcalhpopcakaaDoor

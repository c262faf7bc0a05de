/-
  Proved: for whatever code laws.FnLabelList returns true and changes nothing that was there; no condition.
-/
import Derived.Test.YtlfbgafedbbahabRows
import Derived.Test.YtlfbgafedbbahabLabb
import Derived.Test.YtlfbgafedbbahabAll
import Derived.Test.YtlfbgafedbbahabRd
import Derived.Test.YtlfbgafedbbahabDraw
import Derived.WalkKit
import Derived.ProofKit
import Derived.OpenShut
import Derived.ShutString
import Derived.ChangeOld
import Derived.Below
namespace Go.Proofs.Ytlfbgafedbbahab.fnLabelList
open Go.Proofs.Ytlfbgafedbbahab.Lab
open Go.ChangeShapes Go.WideShapes Go.ChangeAt Go.RowKit
open Go.ChangeMaps (open_string shut_string)
set_option linter.unusedVariables false

theorem own : ownKnob Try.prog.godebug = none := by kernel_rfl
theorem laidOut : laidOutB Try.prog = true := by kernel_rfl

/-- WHAT THE WALK IS TOLD OF A SLICE OF INTEGERS THAT CAME IN: it is nil; or it leads to a row of 'cap' cells, the numbers 'zs' (the first 'len' are its elements, the rest its spare room), each fitting its kind. -/
def IsRow (k : IntKind) (w : World) (a : Option Addr) (len cap : Nat) (zs : List Int) : Prop :=
  (a = none ∧ len = 0 ∧ cap = 0 ∧ zs = []) ∨
  ∃ x, a = some x ∧ len ≤ cap ∧ cap ≤ maxLen ∧ zs.length = cap ∧ (∀ i, i < zs.length → w.cell? (x.add i) = some (.int k (zs.getD i 0))) ∧ ∀ n ∈ zs, (Lit.int k n).wf = true

def innerTo (x : Int) (M : List Int) : Nat → List Int
  | 0 => []
  | k + 1 => if x = M.getD k 0 then innerTo x M k ++ [x] else innerTo x M k
def outerTo (L M : List Int) : Nat → List Int
  | 0 => []
  | i + 1 => outerTo L M i ++ innerTo (L.getD i 0) M M.length
theorem inner_le (x : Int) (M : List Int) (k : Nat) : (innerTo x M k).length ≤ k := by
  induction k with
  | zero => simp [innerTo]
  | succ k ih => simp only [innerTo]; split <;> (try simp only [List.length_append, List.length_singleton]) <;> omega
theorem outer_le (L M : List Int) (h : M.length ≤ 8) (i : Nat) : (outerTo L M i).length ≤ 8 * i := by
  induction i with
  | zero => simp [outerTo]
  | succ i ih =>
    have := inner_le (L.getD i 0) M M.length
    simp only [outerTo, List.length_append]; omega
theorem all_none {a : Int} (h : okB a = false) (k : Nat) : allTo a k = [] := by
  induction k with
  | zero => rfl
  | succ k ih => simp [allTo, ih, underB, h]
theorem pl_list : ∀ k l : Fin 8, outerTo (allTo k.val 8) (allTo l.val 8) (allTo k.val 8).length = allTo (meetI k.val l.val) 8 := by decide +kernel
theorem pl_ends : ∀ k : Fin 8, 0 < (allTo k.val 8).length ∧ (allTo k.val 8).getD ((allTo k.val 8).length - 1) 0 = k.val ∧ (allTo k.val 8).getD 0 0 = 0 := by decide +kernel
/-! ### STEP 1: THE WALK: the Go text returns true, AND WRITES NOTHING THAT WAS THERE: 'Below w.heap.size w w'' (Derived/Below.lean: '.refl', '.alloc', '.drew', '.setCell' at a new block, '.trans'). Open each 'IsRow' by 'rcases' AHEAD of 'go_enter'; part every test ahead of the walk. -/
set_option maxHeartbeats 4000000 in
theorem walk (a0 : Option Addr) (len0 cap0 : Nat) (z0 : List Int) (w : World) (w0 : IsRow .u8 w a0 len0 cap0 z0) :
    Calls Try.prog 5 #[.slice a0 len0 cap0] w fun e w' => e = .returned (.bool true) ∧ Below w.heap.size w w' := by
  by_cases hlen : len0 > 1048576
  · go_enter Try.func5, Try.ntmps5
    go_wp2
    go_ret
    exact ⟨rfl, Below.refl _ _⟩
  have k0 : CodeAt w a0 len0 cap0 z0 := code_of w0
  clear w0
  obtain ⟨i0, hi, hz0, hz1, hz2⟩ := info_parts Try.info3
  go_enter Try.func5, Try.ntmps5
  go_wp2_with fail
  refine (drawLabelMeet _ _ _ _ _ k0).mono ?_
  rintro e wa ⟨a, b, rfl, ha, hb, bel⟩
  clear k0 ha hb hlen
  go_wp2_with fail
  refine (impl_LabelAll _ _).mono ?_
  rintro e w1 ⟨v1, rfl, own1, bel1⟩
  go_wp2_with fail
  refine (impl_LabelAll _ _).mono ?_
  rintro e w2 ⟨v2, rfl, own2, bel2⟩
  go_wp2_with fail
  refine (spec_LabelAll _ _).mono ?_
  rintro e w3 ⟨v3, rfl, own3, bel3⟩
  have hL8 := allTo_le a 8
  have hM8 := allTo_le b 8
  have bel13 := bel2.trans (bel3.mono bel2.size)
  have own1' := own_below own1 bel13
  have own2' := own_below own2 bel3
  have belA := bel.trans ((bel1.trans (bel13.mono bel1.size)).mono bel.size)
  clear own1 own2 bel bel1 bel2
  go_wp2_with fail
  refine (wpInts _ _ _ _ _ (reads_own own1') (reads_own own3) (by omega) (by omega)).mono ?_
  rintro e w4 ⟨rfl, q4, rfl⟩
  have own1 := own_drewN own1' q4
  have own2 := own_drewN own2' q4
  have belB := below_drewN belA q4
  clear own1' own2' belA own3 bel3 bel13
  generalize w3.drewN q4 = w5 at *
  have hd0 : decide (allTo a 8 = allTo a 8) = true := by simp
  cases hoa : okB a
  · go_wp2_with (first | (go_at_call 9; refine use (impl_LabelOk _ _) ?_))
    refine (spec_LabelAll _ _).mono ?_
    rintro e w6 ⟨v6, rfl, own6, bel6⟩
    go_wp2_with fail
    refine (wpInts _ _ _ _ _ (reads_own (own_below own1 bel6)) (reads_own own6) (by omega) (by omega)).mono ?_
    rintro e w7 ⟨rfl, q7, rfl⟩
    have HB : Hid (Below w.heap.size w (w6.drewN q7)) := below_drewN (belB.trans (bel6.mono belB.size)) q7
    clear own1 own2 own6 bel6 belB
    go_wp2
    go_ret
    exact ⟨rfl, HB.out⟩
  cases hob : okB b
  · go_wp2_with (first | (go_at_call 9; refine use (impl_LabelOk _ _) ?_))
    refine (spec_LabelAll _ _).mono ?_
    rintro e w6 ⟨v6, rfl, own6, bel6⟩
    go_wp2_with fail
    refine (wpInts _ _ _ _ _ (reads_own (own_below own1 bel6)) (reads_own own6) (by omega) (by omega)).mono ?_
    rintro e w7 ⟨rfl, q7, rfl⟩
    have HB : Hid (Below w.heap.size w (w6.drewN q7)) := below_drewN (belB.trans (bel6.mono belB.size)) q7
    clear own1 own2 own6 bel6 belB
    go_wp2
    go_ret
    exact ⟨rfl, HB.out⟩
  obtain ⟨ka, rfl⟩ := fin8 hoa
  obtain ⟨kb, rfl⟩ := fin8 hob
  have pE := pl_ends ka
  have pF := pl_list ka kb
  have pM : 0 < (allTo kb.val 8).length := (pl_ends kb).1
  have rd1 := reads_own own1
  have rd2 := reads_own own2
  have lt1 : ∀ b off n c, v1 = .slice (some ⟨b, off, none⟩) n c → b < w5.heap.size := fun b off n c hv => (own1.lt b (by rw [hv]; rfl)).2
  have lt2 : ∀ b off n c, v2 = .slice (some ⟨b, off, none⟩) n c → b < w5.heap.size := fun b off n c hv => (own2.lt b (by rw [hv]; rfl)).2
  have hME := allTo_le (meetI ka.val kb.val) 8
  generalize hLL : allTo ka.val 8 = L at *
  generalize hMM : allTo kb.val 8 = M at *
  clear hLL hMM own1 own2
  rcases rd1 with ⟨h, _⟩ | ⟨_, b1, o1, c1, rfl, e1⟩
  · rw [h] at pE; simp at pE
  rcases rd2 with ⟨h, _⟩ | ⟨_, b2, o2, c2, rfl, e2⟩
  · rw [h] at pM; simp at pM
  have hb1 := lt1 _ _ _ _ rfl
  have hb2 := lt2 _ _ _ _ rfl
  clear lt1 lt2
  have HF : Hid (outerTo L M L.length = allTo (meetI ka.val kb.val) 8) := pF
  have HP : Hid (L.getD (L.length - 1) 0 = ka.val ∧ L.getD 0 0 = 0) := pE.2
  have hL0 := pE.1
  have HE : Hid ((∀ j, j < L.length → w5.cell? ⟨b1, o1 + j, none⟩ = some (.int .i64 (L.getD j 0))) ∧ (∀ j, j < M.length → w5.cell? ⟨b2, o2 + j, none⟩ = some (.int .i64 (M.getD j 0)))) := ⟨e1, e2⟩
  clear pF pE e1 e2
  have hst : (w5.alloc (.cells #[] 3)).ownsRow w5.heap.size 3 1 (.slice (some ⟨w5.heap.size, 0, none⟩) 0 0) 0 [] := World.ownsRow_lit w5 #[] 0 (Nat.le_refl _) (by unfold maxLen; omega) rfl
  have HST : Hid ((w5.alloc (.cells #[] 3)).ownsRow w5.heap.size 3 1 (.slice (some ⟨w5.heap.size, 0, none⟩) 0 0) 0 []) := hst
  clear hst
  go_wp2_with (first | (go_at_call 9; refine use (impl_LabelOk _ _) ?_))
  go_loopw [7, 8] (fun v i wr => ∃ n : Nat, n ≤ L.length ∧ i = .int .i64 n ∧ wr.ownsRow w5.heap.size 3 1 v (outerTo L M n).length (ints (outerTo L M n)) ∧ Below w5.heap.size w5 wr) (fun _ i _ => L.length - (intOf i).toNat)
  case atStart => exact ⟨0, by omega, rfl, HST.out, (Below.refl _ _).alloc (Nat.le_refl _) _⟩
  case round =>
    clear HST
    obtain ⟨n, hn, rfl, hown, hbel⟩ := hrel
    have hol := outer_le L M (by omega) n
    by_cases hlt : n < L.length
    · generalize hx : L.getD n 0 = x at *
      have HX : Hid (L.getD n 0 = x) := hx
      have HO : Hid (outerTo L M (n + 1) = outerTo L M n ++ innerTo x M M.length) := by rw [← hx]; rfl
      have hc1 : w5.cell? ⟨b1, o1 + n, none⟩ = some (.int .i64 x) := by rw [HE.out.1 n hlt, hx]
      clear hx
      generalize outerTo L M n = O at *
      go_wp2
      go_loopw [7, 9] (fun v k wr => ∃ m : Nat, m ≤ M.length ∧ k = .int .i64 m ∧ wr.ownsRow w5.heap.size 3 1 v (O ++ innerTo x M m).length (ints (O ++ innerTo x M m)) ∧ Below w5.heap.size w5 wr) (fun _ k _ => M.length - (intOf k).toNat)
      case atStart => exact ⟨0, by omega, rfl, by simpa [innerTo] using hown, hbel⟩
      case round =>
        clear hown hbel
        obtain ⟨m, hm, rfl, hown, hbel⟩ := hrel
        have hil := inner_le x M m
        by_cases hmt : m < M.length
        · generalize hy : M.getD m 0 = y at *
          have HS : Hid (innerTo x M (m + 1) = if x = y then innerTo x M m ++ [x] else innerTo x M m) := by rw [← hy]; rfl
          have hc2 : w5.cell? ⟨b2, o2 + m, none⟩ = some (.int .i64 y) := by rw [HE.out.2 m hmt, hy]
          have d1 := (hbel.cell (p := ⟨b1, o1 + n, none⟩) hb1).trans hc1
          have d2 := (hbel.cell (p := ⟨b2, o2 + m, none⟩) hb2).trans hc2
          have hsz := hbel.size
          clear hy hc1 hc2
          have hll : (O ++ innerTo x M m).length ≤ 1000 := by simp only [List.length_append]; omega
          by_cases hxy : x = y
          · subst hxy
            have hd : (x == x) = true := by simp
            have HS' : Hid (O ++ innerTo x M (m + 1) = (O ++ innerTo x M m) ++ [x]) := by
              show O ++ innerTo x M (m + 1) = (O ++ innerTo x M m) ++ [x]
              rw [HS.out, if_pos rfl, List.append_assoc]
            clear HS
            generalize O ++ innerTo x M m = R at *
            go_wp2
            go_quiet (fail)
            have hown2 := own_drewN hown nq
            have hbel2 := below_drewN hbel nq
            go_wp2_with (at_builtin; refine wpList_append_own _ rfl _ _ 31 rfl w5.heap.size 3 i0 (.int .i64 0) 1 8 Try.underlying31 hi hz0 hz1 hz2 rfl (by decide) _ _ _ rfl (hown2.alloc _) ⟨wr.heap.size, 0, none⟩ 1 1 [.int .i64 x] rfl rfl ?c1 ?c2 ?c3 ?c4 ?c5 ?_)
            case c1 =>
              intro j u hj
              match j, hj with
              | 0, hj => simp at hj; subst hj; simp [Addr.add]; rw [World.cell?_alloc_at _ _ _ _ (by rw [World.heap_drewN])]; rfl
            case c2 => intro u hu; simp at hu; subst hu; rfl
            case c3 => unfold maxLen; omega
            case c4 => omega
            case c5 => simp; omega
            intro v' w8 hown' hgrow _
            have R2 := row_push (by rw [World.heap_drewN]; exact hsz) hown2 hbel2 _ hown' hgrow
            clear hown' hgrow hown hown2 hbel hbel2
            go_wp2
            go_roundw
            case rel => exact ⟨m + 1, by omega, by go_num, by rw [HS'.out]; exact R2.1, R2.2⟩
            case measure => simp [intOf]; omega
          · have hd : (x == y) = false := beq_eq_false_iff_ne.2 hxy
            have HS' : Hid (O ++ innerTo x M (m + 1) = O ++ innerTo x M m) := by
              show O ++ innerTo x M (m + 1) = O ++ innerTo x M m
              rw [HS.out, if_neg hxy]
            clear HS hxy
            generalize O ++ innerTo x M m = R at *
            go_wp2
            go_quiet (fail)
            have hown2 := own_drewN hown nq
            have hbel2 := below_drewN hbel nq
            clear hown hbel
            go_wp2
            go_roundw
            case rel => exact ⟨m + 1, by omega, by go_num, by rw [HS'.out]; exact hown2, hbel2⟩
            case measure => simp [intOf]; omega
        · have hme : m = M.length := by omega
          subst hme
          go_wp2
          go_roundw
          case rel => exact ⟨n + 1, by omega, by go_num, by rw [HO.out]; exact hown, hbel⟩
          case measure => simp [intOf]; omega
    · have hne : n = L.length := by omega
      subst hne
      rw [HF.out] at hown hol
      clear hlt
      go_wp2_with fail
      refine use (impl_LabelMeet _ _ _) ?_
      go_wp2_with fail
      refine (impl_LabelAll _ _).mono ?_
      rintro e w9 ⟨v9, rfl, own9, bel9⟩
      have belF := hbel.trans (bel9.mono hbel.size)
      go_wp2_with fail
      refine (wpInts _ _ _ _ _ (reads_own (own_below hown bel9)) (reads_own own9) (by omega) (by omega)).mono ?_
      rintro e w10 ⟨rfl, q10, rfl⟩
      have d1 : (w9.drewN q10).cell? ⟨b1, o1 + (L.length - 1), none⟩ = some (.int .i64 ka.val) := by
        rw [World.cell?_drewN, belF.cell (p := ⟨b1, o1 + (L.length - 1), none⟩) hb1, HE.out.1 _ (by omega), HP.out.1]
      have d2 : (w9.drewN q10).cell? ⟨b1, o1, none⟩ = some (.int .i64 0) := by
        have := HE.out.1 0 hL0
        rw [Nat.add_zero, HP.out.2] at this
        rw [World.cell?_drewN, belF.cell (p := ⟨b1, o1, none⟩) hb1]; exact this
      have HB : Hid (Below w.heap.size w (w9.drewN q10)) := below_drewN (belB.trans (belF.mono belB.size)) q10
      have hd : decide (allTo (meetI ka.val kb.val) 8 = allTo (meetI ka.val kb.val) 8) = true := by simp
      have j0 : ((L.length : Int) - 1).toNat = L.length - 1 := by omega
      have j1 : 0 ≤ (L.length : Int) - 1 := by omega
      have j2 : (L.length : Int) - 1 < (L.length : Int) := by omega
      have j3 : (0 : Int) < (L.length : Int) := by omega
      clear hown hbel own9 bel9 belF belB
      go_wp2
      go_ret
      exact ⟨rfl, HB.out⟩

/-! ### THE ROW's STEP: WRITTEN OUT: LEAVE IT -/
set_option maxRecDepth 100000 in
theorem lifted (os : Os) (started : os.Started) (H : Type) (enc : TypeId × Value → H) :
    ReturnsInHanded {} Try.checked os 5 .any (Rows.fnLabelListSpec.pre6 enc Try.prog Try.f5 Rows.fnLabelListRow.domain false) (Rows.fnLabelListSpec.post enc Try.prog Try.f5 false true false false) := by
  refine returnsInHanded_of_change (C := Try.checked) own started (by kernel_rfl) Try.func5
    (ChangeSpec.witness6 (enc := enc) (C := Try.checked) false ⟨#[], #[.slice none 0 0], []⟩ 8 (by kernel_rfl) (by kernel_rfl) (by kernel_rfl) (by kernel_rfl)) ?_
  intro W base args ds gs before hval0 hW hcnd _
  have hval : ∀ (j : Nat) t v, Try.f5.params[j]? = some t → args[j]? = some v → Value.okWide Try.prog W .any base t v := hval0
  have hW' := hW
  obtain ⟨p, q, hA0, hV, rfl, hfz, hnd⟩ := hW
  have hA : DataW.TrodAll enc Try.prog W 0 (fun _ => true) true Try.f5.params.toList args.toList ds p := hA0
  rw [Try.params5] at hA hval
  obtain ⟨v0, vs0, d0, ds0, p0, q0, hargs, rfl, rfl, h0, r0⟩ := trodAll_cons hA
  obtain ⟨rfl, rfl, rfl⟩ := trodAll_nil r0
  obtain rfl : args = #[v0] := by cases args; simp_all
  obtain ⟨rfl, rfl⟩ := trodVars_none hV
  obtain ⟨a0, len0, cap0, rfl⟩ := okWide_slice Try.underlying22 (hval 0 22 v0 rfl rfl)
  have k0 := h0
  have lt0 : ∀ x ∈ p0, x.block < W.heap.size := by obtain ⟨m, hm⟩ := k0; exact DataW.trod_lt m _ _ _ hm
  obtain ⟨z0, w0⟩ : ∃ zs, IsRow .u8 W a0 len0 cap0 zs := by
    obtain ⟨fuel, hf⟩ := h0
    rcases open_ints Try.underlying22 Try.underlying5 (by kernel_rfl) hf with ⟨hcs, _⟩ | ⟨x, l, c, zs, hcs, _, hl, hm, hz, _, hcell, hwz⟩
    · simp [Value.cells] at hcs
      obtain ⟨rfl, rfl, rfl⟩ := hcs
      exact ⟨[], .inl ⟨rfl, rfl, rfl, rfl⟩⟩
    · simp [Value.cells] at hcs
      obtain ⟨rfl, rfl, rfl⟩ := hcs
      exact ⟨zs, .inr ⟨_, rfl, hl, hm, by simpa using hz, hcell, hwz⟩⟩
  clear hA0 hval0
  refine (walk a0 len0 cap0 z0 W w0).mono fun e W' ⟨he, bel⟩ => ?_
  subst he
  exact ⟨_, rfl, _, _, _, [], _, [], hW', trodAll_mk1 (shut_bool Try.underlying4 _), (trodAll_cons_mk (Below.trod laidOut (by kernel_rfl) (of_decide_eq_true (by kernel_rfl)) k0 bel lt0) trodAll_mk0), rfl, bel.frame _, fun h => by cases h⟩

theorem over : Rows.fnLabelListRow.holds Try.pinned (OpenSpec.ofChange Rows.fnLabelListSpec) :=
  OpenClaim.holds_of_wide 5 Try.f5 rfl rfl rfl rfl rfl rfl rfl ⟨rfl, rfl, rfl, rfl, rfl⟩ rfl rfl rfl rfl rfl (by kernel_rfl) Try.func5 (by kernel_rfl)
    (of_decide_eq_true (by kernel_rfl)) (by unfold Func.isWrapper; first | (rw [if_pos (by decide +kernel)]; kernel_rfl) | (rw [if_neg (by decide +kernel)]; exact ⟨rfl, rfl⟩))
    (fun os started H enc _ => lifted os started H enc)

/-- ████ THE STATEMENT ████ -/
theorem proved : Rows.FnLabelListSaid := over
end Go.Proofs.Ytlfbgafedbbahab.fnLabelList
namespace Go.Proofs.Ytlfbgafedbbahab
theorem fnLabelList_holds : Rows.FnLabelListSaid := fnLabelList.proved
#print axioms fnLabelList_holds
end Go.Proofs.Ytlfbgafedbbahab

/-
  Of every code: the pages of the bytes that it draws are those from the first to the last, each once, as the specification tells them; PageOk of the page that it draws is the specification's.
-/
import Derived.Test.YthkdadgccjilkaaRows
import Derived.Test.YthkdadgccjilkaaNod
import Derived.Test.YthkdadgccjilkaaRow
import Derived.Test.YthkdadgccjilkaaPag
import Derived.Test.YthkdadgccjilkaaPsp
import Derived.Test.YthkdadgccjilkaaDps
import Derived.WalkKit
import Derived.ProofKit
import Derived.OpenShut
import Derived.ShutString
import Derived.ChangeOld
import Derived.Below
import Derived.Carry
import Derived.Handy
import Derived.Deep.RegionHeld3
namespace Go.Proofs.Ythkdadgccjilkaa.fnPageSpan
open Go.Proofs.Ythkdadgccjilkaa.Lab
open Go.ChangeShapes Go.WideShapes Go.ChangeAt Go.RowKit
open Go.ChangeMaps (open_string shut_string)
set_option linter.unusedVariables false

theorem own : ownKnob Try.prog.godebug = none := by kernel_rfl
theorem laidOut : laidOutB Try.prog = true := by kernel_rfl
/-- A row of numbers that came in: nil, or so many cells. -/
def IsRow (k : IntKind) (w : World) (a : Option Addr) (len cap : Nat) (zs : List Int) : Prop :=
  (a = none ∧ len = 0 ∧ cap = 0 ∧ zs = []) ∨ ∃ x, a = some x ∧ len ≤ cap ∧ cap ≤ maxLen ∧ zs.length = cap ∧ (∀ i, i < zs.length → w.cell? (x.add i) = some (.int k (zs.getD i 0))) ∧ ∀ n ∈ zs, (Lit.int k n).wf = true

set_option maxHeartbeats 4000000 in
theorem walk (a0 : Option Addr) (len0 cap0 : Nat) (z0 : List Int) (w : World) (w0 : IsRow .u8 w a0 len0 cap0 z0) :
    Calls Try.prog 3 #[.slice a0 len0 cap0] w fun e w' => e = .returned (.bool true) ∧ Below w.heap.size w w' := by
  by_cases hlen : len0 > 1048576
  · go_enter Try.func3, Try.ntmps3
    go_wp2
    go_ret
    exact ⟨rfl, Below.refl _ _⟩
  have k0 : CodeAt w a0 len0 cap0 z0 := code_of w0
  clear w0
  go_enter Try.func3, Try.ntmps3
  go_wp2_with fail
  refine (drawPageSpan _ _ _ _ _ k0).mono ?_
  rintro e wa ⟨l, f, t, rfl, hl, ⟨f0, f1⟩, ⟨t0, t1⟩, ba⟩
  have k1 := k0.below ba
  go_wp2_with fail
  refine (drawPageOk _ _ _ _ _ k1).mono ?_
  rintro e wb ⟨pl, pn, rfl, hpl, hpn, bb⟩
  have HB : Hid (Below w.heap.size w wb) := ba.trans (bb.mono ba.size)
  have sb : w.heap.size ≤ wb.heap.size := HB.out.size
  clear k0 k1 ba bb hl hpl hpn
  go_wp2_with fail
  refine (impl_PageSpan l f t _).mono ?_
  rintro e wc ⟨u, rfl, ou, bc⟩
  have lv : (spanL l f t).length ≤ 1000 := spanL_le _ _ _
  have sc : wb.heap.size < wc.heap.size := by have := bc.size; simp at this; omega
  have q0 : wc.cell? ⟨wb.heap.size, 0, none⟩ = some (.int .i64 pl) := by rw [Below.celz bc _ _ _ (by simp)]; simp [go_sem]
  have q1 : wc.cell? ⟨wb.heap.size, 1, none⟩ = some (.int .i64 pn) := by rw [Below.celz bc _ _ _ (by simp)]; simp [go_sem]
  have HC : Hid (Below w.heap.size w wc) := (HB.out.alloc sb _).trans (bc.mono (by simp; omega))
  have HR : Hid (RowAt 2 encPage wc u (spanL l f t)) := row_of_own encPage_len (by decide) ou
  obtain ⟨ua, uc, rfl⟩ := own_form ou
  clear ou bc HB
  obtain ⟨n, hn⟩ : ∃ n, n = (spanL l f t).length := ⟨_, rfl⟩
  have HN : Hid (n = (spanL l f t).length) := hn
  rw [← hn] at lv HR ⊢
  clear hn
  generalize hV : wb.heap.size = V at *
  clear hV
  obtain ⟨pb, hpb⟩ : ∃ pb, pb = pageB pl pn := ⟨_, rfl⟩
  have HP : Hid (pb = pageB pl pn) := hpb
  have nb : (pb != pb) = false := by simp
  clear hpb
  go_wp2_with fail
  go_region_held3 (fun w' => Below wc.heap.size wc w' ∧ w'.cell? ⟨V, 0, none⟩ = some (.int .i64 pl) ∧ w'.cell? ⟨V, 1, none⟩ = some (.int .i64 pn))
    (first | exact ⟨(Below.refl _ _).drew, q0, q1⟩ | (have hn := keep_below (And.left (by assumption)) bg; exact ⟨hn, (Below.celz hn _ _ _ sc).trans q0, (Below.celz hn _ _ _ sc).trans q1⟩) | (have hn := keep_below (And.left (by assumption)) bf; exact ⟨hn, (Below.celz hn _ _ _ sc).trans q0, (Below.celz hn _ _ _ sc).trans q1⟩) | (have hn := keep_below (And.left (by assumption)) be; exact ⟨hn, (Below.celz hn _ _ _ sc).trans q0, (Below.celz hn _ _ _ sc).trans q1⟩) | (have hn := keep_below (And.left (by assumption)) bd; exact ⟨hn, (Below.celz hn _ _ _ sc).trans q0, (Below.celz hn _ _ _ sc).trans q1⟩))
    (first | (go_at_call 12; refine (spec_PageSpan l f t _).mono ?_; rintro e wd ⟨y, rfl, oy, bd⟩) | (go_at_call 11; refine (wpPages_same _ y (spanL l f t) _ (HR.out.keep (And.left (by assumption))) (row_of_own encPage_len (by decide) oy) (by rw [← HN.out]; omega)).mono ?_; rintro e we ⟨rfl, be⟩) | (go_at_call 13; refine (impl_PageOk pl pn _).mono ?_; rw [← HP.out]; rintro e wf ⟨rfl, bf⟩) | (go_at_call 14; refine (spec_PageOk pl pn _).mono ?_; rw [← HP.out]; rintro e wg ⟨rfl, bg⟩))
  have HG : Hid (Below w.heap.size w wg ∧ RowAt 2 encPage wg (.slice ua n uc) (spanL l f t)) := ⟨keep_below HC.out (And.left (by assumption)), HR.out.keep (And.left (by assumption))⟩
  rename_i hHeld
  clear hHeld
  clear oy bd be bf bg q0 q1 HR HC nb HP
  cases hs : spanB l f t
  · have hn0 : n = 0 := by have := HN.out; unfold spanL at this; rw [hs] at this; simpa using this
    subst hn0
    cases ho : okB l
    · clear hs
      go_wp2_with (first | (go_at_call 15; refine use (impl_LabelOk _ _) ?_))
      go_ret
      exact ⟨rfl, HG.out.1⟩
    · simp only [spanB, ho, Bool.true_and] at hs
      by_cases h1 : 0 ≤ f
      · by_cases h2 : f < t
        · have h3 : ¬ t ≤ 8000 := fun h => by simp [h1, h2, h] at hs
          clear hs
          go_wp2_with (first | (go_at_call 15; refine use (impl_LabelOk _ _) ?_))
          go_ret
          exact ⟨rfl, HG.out.1⟩
        · clear hs
          go_wp2_with (first | (go_at_call 15; refine use (impl_LabelOk _ _) ?_))
          go_ret
          exact ⟨rfl, HG.out.1⟩
      · clear hs
        go_wp2_with (first | (go_at_call 15; refine use (impl_LabelOk _ _) ?_))
        go_ret
        exact ⟨rfl, HG.out.1⟩
  obtain ⟨ho, h1, h2, h3⟩ := spanB_true hs
  have HL : Hid (spanL l f t = spanN l (f / 8) n) := by
    show spanL l f t = spanN l (f / 8) n
    have h := HN.out
    unfold spanL at h ⊢
    rw [hs] at h ⊢
    simp [spanN_len] at h ⊢
    rw [h]
  obtain ⟨g, hg⟩ : ∃ g : Nat, (g : Int) = f / 8 := ⟨(f / 8).toNat, by omega⟩
  have hnn : n = ((t + 7) / 8 - f / 8).toNat := by
    have h := HN.out
    unfold spanL at h
    rw [hs] at h
    simpa [spanN_len, spanC] using h
  have hgn : ∀ k : Nat, k < n → ((g : Int) + k) * 8 < t := fun k hk => by rw [hg]; omega
  have HT : Hid (∀ k : Nat, k < n → ((g : Int) + k) * 8 < t) := hgn
  have hgl : ((t - 1).tdiv 8) = (g : Int) + n - 1 := by rw [Int.tdiv_eq_ediv_of_nonneg (by omega), hg]; omega
  have hn1 : 1 ≤ n := by omega
  have hg8 : f.tdiv 8 = (g : Int) := by rw [hg]; exact Int.tdiv_eq_ediv_of_nonneg h1
  have hgb : g ≤ 1000 := by omega
  obtain ⟨b, off, cap, ub, hcell⟩ : ∃ b off cap, (ua = some ⟨b, off, none⟩ ∧ uc = cap ∧ b < wg.heap.size) ∧ ∀ k : Nat, k < n → wg.cell? ⟨b, off + k * 2, none⟩ = some (.int .i64 l) ∧ wg.cell? ⟨b, off + k * 2 + 1, none⟩ = some (.int .i64 ((g : Int) + k)) := by
    rcases HG.out.2 with ⟨hz, _⟩ | ⟨_, b, off, cap, hv, hb, hc⟩
    · have := HN.out; rw [hz] at this; simp at this; omega
    · simp only [Value.slice.injEq] at hv
      refine ⟨b, off, cap, ⟨hv.1, hv.2.2, hb⟩, fun k hk => ?_⟩
      have hx : (spanL l f t)[k]? = some (l, (g : Int) + k) := by rw [HL.out, hg]; simp [spanN, hk]
      exact ⟨hc k _ hx 0 _ rfl, hc k _ hx 1 _ rfl⟩
  obtain ⟨rfl, rfl, hb⟩ := ub
  have HC : Hid (∀ k : Nat, k < n → wg.cell? ⟨b, off + k * 2, none⟩ = some (.int .i64 l) ∧ wg.cell? ⟨b, off + k * 2 + 1, none⟩ = some (.int .i64 ((g : Int) + k))) := hcell
  have HB : Hid (Below w.heap.size w wg) := HG.out.1
  clear hcell hgn hs hnn hg HL HG
  go_wp2_with (first | (go_at_call 15; refine use (impl_LabelOk _ _) ?_))
  go_loopw [8] (fun i wr => ∃ k : Nat, k ≤ n ∧ i = .int .i64 k ∧ Below wg.heap.size wg wr) (fun i _ => n - (intOf i).toNat)
  case atStart => exact ⟨0, by omega, rfl, Below.refl _ _⟩
  case round =>
    obtain ⟨k, hk, rfl, hbel⟩ := hrel
    have hq1 : b < wr.heap.size := Nat.lt_of_lt_of_le hb hbel.size
    by_cases hlt : k < n
    · have e0 : wr.cell? ⟨b, off + k * 2, none⟩ = some (.int .i64 l) := by rw [Below.celz hbel _ _ _ hb]; exact (HC.out k hlt).1
      have e1 : wr.cell? ⟨b, off + k * 2 + 1, none⟩ = some (.int .i64 ((g : Int) + k)) := by rw [Below.celz hbel _ _ _ hb]; exact (HC.out k hlt).2
      have hp : pageB l ((g : Int) + k) = true := by
        have := HT.out k hlt
        simp only [pageB, ho, Bool.true_and, Bool.and_eq_true, decide_eq_true_eq]
        omega
      have HBr : Hid (Below wg.heap.size wg wr) := hbel
      have k0 : (0 : Int) ≤ (k : Int) := by omega
      have k1 : (k : Int) < (n : Int) := by omega
      have d0 : (l != l) = false := by simp
      have d1 : ((g : Int) + (k : Int) != (g : Int) + (k : Int)) = false := by simp
      clear hbel
      go_wp2_with fail
      refine (impl_PageOk l ((g : Int) + k) _).mono ?_
      rintro e wq ⟨rfl, bq⟩
      have HB2 : Hid (Below wg.heap.size wg wq) := HBr.out.trans (bq.mono HBr.out.size)
      rw [hp]
      clear bq e0 e1
      go_wp2_with fail
      go_roundw
      case rel => exact ⟨k + 1, by omega, by go_num, HB2.out⟩
      case measure => simp [intOf]; omega
    · have hkn : n = k := by omega
      subst hkn
      obtain ⟨m, rfl⟩ : ∃ m, n = m + 1 := ⟨n - 1, by omega⟩
      have e1 : wr.cell? ⟨b, off + m * 2 + 1, none⟩ = some (.int .i64 ((g : Int) + m)) := by rw [Below.celz hbel _ _ _ hb]; exact (HC.out m (by omega)).2
      have hgl' : ((t - 1).tdiv 8) = (g : Int) + m := by rw [hgl]; omega
      have HBr : Hid (Below w.heap.size w wr) := HB.out.trans (hbel.mono HB.out.size)
      have d1 : ((g : Int) + (m : Int) == (g : Int) + (m : Int)) = true := by simp
      clear hbel hgl
      go_wp2_with fail
      go_ret
      exact ⟨by simp, HBr.out⟩

set_option maxRecDepth 100000 in
set_option maxHeartbeats 1000000 in
theorem lifted (os : Os) (started : os.Started) (H : Type) (enc : TypeId × Value → H) :
    ReturnsInHanded {} Try.checked os 3 .any (Rows.fnPageSpanSpec.pre6 enc Try.prog Try.f3 Rows.fnPageSpanRow.domain false) (Rows.fnPageSpanSpec.post enc Try.prog Try.f3 false true false false) := by
  refine returnsInHanded_of_change (C := Try.checked) own started (by kernel_rfl) Try.func3
    (ChangeSpec.witness6 (enc := enc) (C := Try.checked) false ⟨#[], #[.slice none 0 0], []⟩ 8 (by kernel_rfl) (by kernel_rfl) (by kernel_rfl) (by kernel_rfl)) ?_
  intro W base args ds gs before hval0 hW hcnd _
  have hval : ∀ (j : Nat) t v, Try.f3.params[j]? = some t → args[j]? = some v → Value.okWide Try.prog W .any base t v := hval0
  have hW' := hW
  obtain ⟨p, q, hA0, hV, rfl, hfz, hnd⟩ := hW
  have hA : DataW.TrodAll enc Try.prog W 0 (fun _ => true) true Try.f3.params.toList args.toList ds p := hA0
  rw [Try.params3] at hA hval
  obtain ⟨v0, vs0, d0, ds0, p0, q0, hargs, rfl, rfl, h0, r0⟩ := trodAll_cons hA
  obtain ⟨rfl, rfl, rfl⟩ := trodAll_nil r0
  obtain rfl : args = #[v0] := by cases args; simp_all
  obtain ⟨rfl, rfl⟩ := trodVars_none hV
  have kr0 := h0
  have lt0 : ∀ x ∈ p0, x.block < W.heap.size := by obtain ⟨m, hm⟩ := kr0; exact DataW.trod_lt m _ _ _ hm
  obtain ⟨a0, len0, cap0, rfl⟩ := okWide_slice Try.underlying22 (hval 0 22 v0 rfl rfl)
  obtain ⟨z0, w0⟩ : ∃ zs, IsRow .u8 W a0 len0 cap0 zs := by
    obtain ⟨fuel, hf⟩ := h0
    rcases open_ints Try.underlying22 Try.underlying5 (by kernel_rfl) hf with ⟨hcs, _⟩ | ⟨x, l, c, zs, hcs, _, hl, hm, hz, _, hcell, hwz⟩
    · simp [Value.cells] at hcs
      obtain ⟨rfl, rfl, rfl⟩ := hcs
      exact ⟨[], .inl ⟨rfl, rfl, rfl, rfl⟩⟩
    · simp [Value.cells] at hcs
      obtain ⟨rfl, rfl, rfl⟩ := hcs
      exact ⟨zs, .inr ⟨_, rfl, hl, hm, by simpa using hz, hcell, hwz⟩⟩
  clear hA0 hval0
  refine (walk a0 len0 cap0 z0 W w0).mono fun e W' ⟨he, bel⟩ => ?_
  subst he
  exact ⟨_, rfl, _, _, _, [], _, [], hW', trodAll_mk1 (shut_bool Try.underlying4 _), (trodAll_cons_mk (Below.trod laidOut (by kernel_rfl) (of_decide_eq_true (by kernel_rfl)) kr0 bel lt0) trodAll_mk0), rfl, bel.frame _, fun h => by cases h⟩

theorem over : Rows.fnPageSpanRow.holds Try.pinned (OpenSpec.ofChange Rows.fnPageSpanSpec) :=
  OpenClaim.holds_of_wide 3 Try.f3 rfl rfl rfl rfl rfl rfl rfl ⟨rfl, rfl, rfl, rfl, rfl⟩ rfl rfl rfl rfl rfl (by kernel_rfl) Try.func3 (by kernel_rfl)
    (of_decide_eq_true (by kernel_rfl)) (by unfold Func.isWrapper; first | (rw [if_pos (by decide +kernel)]; kernel_rfl) | (rw [if_neg (by decide +kernel)]; exact ⟨rfl, rfl⟩))
    (fun os started H enc _ => lifted os started H enc)

end Go.Proofs.Ythkdadgccjilkaa.fnPageSpan
namespace Go.Proofs.Ythkdadgccjilkaa
theorem fnPageSpan_holds : Rows.FnPageSpanSaid := fnPageSpan.over
#print axioms fnPageSpan_holds
end Go.Proofs.Ythkdadgccjilkaa

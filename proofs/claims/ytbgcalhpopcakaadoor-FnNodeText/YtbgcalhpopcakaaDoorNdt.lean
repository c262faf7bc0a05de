/-
  Nodes as texts: spec.l9Dec of small numbers, NodeText of both.
-/
import Derived.Test.YtbgcalhpopcakaaDoorNod
import Derived.Test.YtbgcalhpopcakaaDoorText
import Derived.Test.YtbgcalhpopcakaaDoorShf
import Derived.Lib.ItoaNum
namespace Go.Proofs.YtbgcalhpopcakaaDoor.Lab
open Go.RowKit
set_option linter.unusedVariables false
/-- A node's text. -/
def ndt (l n : Int) : ByteArray := if nodeB l n then textOf l ++ ⟨#[46]⟩ ++ ⟨(Lib.decDigits n.toNat).toArray⟩ else ⟨#[]⟩
theorem textOf_size (l : Int) : (textOf l).size ≤ 3 := by
  cases h : okB l
  · have : textOf l = ⟨#[]⟩ := by simp [textOf, h]
    rw [this]; decide
  · rcases eight h with rfl | rfl | rfl | rfl | rfl | rfl | rfl | rfl <;> decide +kernel
theorem dec_size (k : Nat) (h : k < 100) : (⟨(Lib.decDigits k).toArray⟩ : ByteArray).size ≤ 2 := by
  show (Lib.decDigits k).toArray.size ≤ 2
  by_cases h1 : k < 10
  · rw [Lib.decDigits_one h1]; simp
  · rw [Lib.decDigits_two h1 h]; simp
theorem dec_of (n : Nat) (hn : n ≤ 9) (w : World) (b : Nat) (h : w.cell? ⟨b, 0, none⟩ = some (.int .u8 (48 + (n : Int)))) :
    (convert 22 9 (.slice (some ⟨b, 0, none⟩) 1 1)).run Tryd.prog w = .ok (.string ⟨#[UInt8.ofNat (48 + n)]⟩) w :=
  one_byte (UInt8.ofNat (48 + n)) w b (by rw [h]; congr 2; simp [UInt8.toNat_ofNat']; omega)
set_option maxRecDepth 8000 in
set_option maxHeartbeats 1000000 in
theorem spec_l9Dec_one (k : Nat) (w : World) (hk : k ≤ 9) :
    Calls Tryd.prog 30 #[.int .i64 k] w fun e w' => e = .returned (.string ⟨(Lib.decDigits k).toArray⟩) ∧ Below w.heap.size w w' := by
  obtain ⟨c, hc⟩ : ∃ c, c = UInt8.ofNat (48 + k) := ⟨_, rfl⟩
  have HD : Hid (Lib.decDigits k = [c]) := by rw [hc]; exact Lib.decDigits_one (by omega)
  have ka := dec_of k hk
  rw [← hc] at ka
  have e1 : ((⟨#[c]⟩ : ByteArray) ++ ⟨#[]⟩) = ⟨#[c]⟩ := by rfl
  clear hc
  go_enter Tryd.func30, Tryd.ntmps30
  go_wp2
  refine wp_loop_rounds 1 ?_
  rw [rounds_succ]
  go_wp2
  go_ret
  exact ⟨by rw [HD.out]; rfl, by repeat (first | exact Below.refl _ _ | (refine Below.alloc ?_ (by first | (simp; done) | (simp; omega)) _) | refine Below.drew ?_)⟩
set_option maxRecDepth 8000 in
set_option maxHeartbeats 1000000 in
theorem spec_l9Dec_two (k : Nat) (w : World) (h1 : ¬ k < 10) (h2 : k < 100) :
    Calls Tryd.prog 30 #[.int .i64 k] w fun e w' => e = .returned (.string ⟨(Lib.decDigits k).toArray⟩) ∧ Below w.heap.size w w' := by
  obtain ⟨c, hc⟩ : ∃ c, c = UInt8.ofNat (48 + k / 10) := ⟨_, rfl⟩
  obtain ⟨d, hd⟩ : ∃ d, d = UInt8.ofNat (48 + k % 10) := ⟨_, rfl⟩
  have HD : Hid (Lib.decDigits k = [c, d]) := by rw [hc, hd]; exact Lib.decDigits_two h1 h2
  have ka := dec_of (k / 10) (by omega)
  have kb := dec_of (k % 10) (by omega)
  rw [← hc] at ka
  rw [← hd] at kb
  have e1 : ((⟨#[d]⟩ : ByteArray) ++ ⟨#[]⟩) = ⟨#[d]⟩ := by rfl
  have e2 : ((⟨#[c]⟩ : ByteArray) ++ ⟨#[d]⟩) = ⟨#[c, d]⟩ := by rfl
  have hk : (9 : Int) < (k : Int) := by omega
  obtain ⟨m, hm⟩ : ∃ m, m = k % 10 := ⟨_, rfl⟩
  obtain ⟨q, hq⟩ : ∃ q, q = k / 10 := ⟨_, rfl⟩
  have hmm : (k : Int) % 10 = (m : Int) := by omega
  have hqq : (k : Int) / 10 = (q : Int) := by omega
  have hm9 : m ≤ 9 := by omega
  have hq9 : q ≤ 9 := by omega
  rw [← hq] at ka
  rw [← hm] at kb
  clear hc hd hm hq
  go_enter Tryd.func30, Tryd.ntmps30
  go_wp2
  refine wp_loop_rounds 2 ?_
  rw [rounds_succ]
  go_wp2
  rw [rounds_succ]
  go_wp2
  go_ret
  exact ⟨by rw [HD.out]; rfl, by repeat (first | exact Below.refl _ _ | (refine Below.alloc ?_ (by first | (simp; done) | (simp; omega)) _) | refine Below.drew ?_)⟩
theorem spec_l9Dec (k : Nat) (w : World) (h2 : k < 100) :
    Calls Tryd.prog 30 #[.int .i64 k] w fun e w' => e = .returned (.string ⟨(Lib.decDigits k).toArray⟩) ∧ Below w.heap.size w w' := by
  by_cases h : k < 10
  · exact spec_l9Dec_one k w (by omega)
  · exact spec_l9Dec_two k w h h2
set_option maxRecDepth 8000 in
set_option maxHeartbeats 1000000 in
theorem spec_NodeText (l n : Int) (w : World) :
    Calls Tryd.prog 11 #[.agg #[.int .i64 l, .int .i64 n]] w fun e w' => e = .returned (.string (ndt l n)) ∧ Below w.heap.size w w' := by
  have b0 := (Below.refl w.heap.size w).alloc (Nat.le_refl _) (.cells #[.int .i64 l, .int .i64 n] 24)
  cases hq : nodeB l n
  · have HD : Hid (ndt l n = ⟨#[]⟩) := by show _ = _; rw [ndt, hq]; rfl
    go_enter Tryd.func11, Tryd.ntmps11
    go_wp2_with fail
    refine (spec_NodeOk _ _ _).mono ?_
    rw [hq]
    rintro e w1 ⟨rfl, b1⟩
    have HB : Hid (Below w.heap.size w w1) := b0.trans (b1.mono (by simp))
    clear b0 b1
    go_wp2
    go_ret
    exact ⟨by rw [HD.out]; rfl, HB.out⟩
  · obtain ⟨g1, g2, g3⟩ := nodeB_true hq
    obtain ⟨k, rfl⟩ := Int.eq_ofNat_of_zero_le g2
    obtain ⟨t1, ht1⟩ : ∃ t, t = textOf l := ⟨_, rfl⟩
    obtain ⟨t2, ht2⟩ : ∃ t : ByteArray, t = ⟨(Lib.decDigits k).toArray⟩ := ⟨_, rfl⟩
    have HD : Hid (ndt l k = t1 ++ ⟨#[46]⟩ ++ t2) := by show _ = _; rw [ndt, hq, ht1, ht2]; rfl
    have z1 : t1.size ≤ 3 := by rw [ht1]; exact textOf_size l
    have z2 : t2.size ≤ 2 := by rw [ht2]; exact dec_size k (by omega)
    have s1 : ¬ 9223372036854775807 < t1.size + 1 := by omega
    have s2 : ¬ 9223372036854775807 < t1.size + 1 + t2.size := by omega
    have L1 := spec_LabelText l
    have L2 := fun w => spec_l9Dec k w (by omega)
    rw [← ht1] at L1
    rw [← ht2] at L2
    have HL : Hid (∀ w, Calls Tryd.prog 29 #[.int .i64 l] w fun e w' => e = .returned (.string t1) ∧ Below w.heap.size w w') := L1
    have HM : Hid (∀ w, Calls Tryd.prog 30 #[.int .i64 k] w fun e w' => e = .returned (.string t2) ∧ Below w.heap.size w w') := L2
    clear ht1 ht2 L1 L2 z1 z2
    go_enter Tryd.func11, Tryd.ntmps11
    go_wp2_with fail
    refine (spec_NodeOk _ _ _).mono ?_
    rw [hq]
    rintro e w1 ⟨rfl, b1⟩
    have HB : Hid (Below w.heap.size w w1) := b0.trans (b1.mono (by simp))
    have c0 : w1.cell? ⟨w.heap.size, 0, none⟩ = some (.int .i64 l) := by rw [Below.celz b1 _ _ _ (by simp)]; simp [go_sem]
    have c1 : w1.cell? ⟨w.heap.size, 1, none⟩ = some (.int .i64 k) := by rw [Below.celz b1 _ _ _ (by simp)]; simp [go_sem]
    have c2 : w.heap.size < w1.heap.size := by have := b1.size; simp at this; omega
    clear b0 b1
    go_wp2_with fail
    refine wp_region_after (by kernel_rfl) (by kernel_rfl) ?_
    intro hne hac
    repeat (go_big_quiet_step (first | (go_at_call 29; exact after_of (HL.out _)) | (go_at_call 30; exact after_of (HM.out _))))
    refine wpQuiet_nil ?_
    rintro _ ⟨p, rfl⟩
    have hb := HB.out.trans (p.bel.mono (by omega))
    clear hne hac
    go_wp2
    go_ret
    exact ⟨by rw [HD.out]; rfl, hb⟩
set_option maxRecDepth 8000 in
set_option maxHeartbeats 1000000 in
theorem impl_NodeText (l n : Int) (w : World) (ht : Table w) :
    Calls Tryd.prog 7 #[.agg #[.int .i64 l, .int .i64 n]] w fun e w' => e = .returned (.string (ndt l n)) ∧ Below w.heap.size w w' := by
  have b0 := (Below.refl w.heap.size w).alloc (Nat.le_refl _) (.cells #[.int .i64 l, .int .i64 n] 24)
  cases hq : nodeB l n
  · have HD : Hid (ndt l n = ⟨#[]⟩) := by show _ = _; rw [ndt, hq]; rfl
    go_enter Tryd.func7, Tryd.ntmps7
    go_wp2_with fail
    refine (impl_NodeOk _ _ _).mono ?_
    rw [hq]
    rintro e w1 ⟨rfl, b1⟩
    have HB : Hid (Below w.heap.size w w1) := b0.trans (b1.mono (by simp))
    clear b0 b1
    go_wp2
    go_ret
    exact ⟨by rw [HD.out]; rfl, HB.out⟩
  · obtain ⟨g1, g2, g3⟩ := nodeB_true hq
    obtain ⟨k, rfl⟩ := Int.eq_ofNat_of_zero_le g2
    obtain ⟨t1, ht1⟩ : ∃ t, t = textOf l := ⟨_, rfl⟩
    obtain ⟨t2, ht2⟩ : ∃ t : ByteArray, t = ⟨(Lib.decDigits k).toArray⟩ := ⟨_, rfl⟩
    have HD : Hid (ndt l k = t1 ++ ⟨#[46]⟩ ++ t2) := by show _ = _; rw [ndt, hq, ht1, ht2]; rfl
    have z1 : t1.size ≤ 3 := by rw [ht1]; exact textOf_size l
    have z2 : t2.size ≤ 2 := by rw [ht2]; exact dec_size k (by omega)
    have s1 : ¬ 9223372036854775807 < t1.size + 1 := by omega
    have s2 : ¬ 9223372036854775807 < t1.size + 1 + t2.size := by omega
    have L1 := fun (W : World) (h : Below w.heap.size w W) => (impl_LabelText l W (ht.later h)).mono (fun e w' he => show _ ∧ Below W.heap.size W w' from ⟨he.1, by rw [he.2]; exact Below.refl _ _⟩)
    have L2 := fun W => (Tryd.strconv_Itoa_small k (by omega) W).mono (fun e w' he => show _ ∧ Below W.heap.size W w' from ⟨he.1, by rw [he.2]; exact Below.refl _ _⟩)
    rw [← ht1] at L1
    rw [← ht2] at L2
    have HL : Hid (∀ W, Below w.heap.size w W → Calls Tryd.prog 16 #[.int .i64 l] W fun e w' => e = .returned (.string t1) ∧ Below W.heap.size W w') := L1
    have HM : Hid (∀ w, Calls Tryd.prog 17 #[.int .i64 k] w fun e w' => e = .returned (.string t2) ∧ Below w.heap.size w w') := L2
    clear ht1 ht2 L1 L2 z1 z2
    go_enter Tryd.func7, Tryd.ntmps7
    go_wp2_with fail
    refine (impl_NodeOk _ _ _).mono ?_
    rw [hq]
    rintro e w1 ⟨rfl, b1⟩
    have HB : Hid (Below w.heap.size w w1) := b0.trans (b1.mono (by simp))
    have c0 : w1.cell? ⟨w.heap.size, 0, none⟩ = some (.int .i64 l) := by rw [Below.celz b1 _ _ _ (by simp)]; simp [go_sem]
    have c1 : w1.cell? ⟨w.heap.size, 1, none⟩ = some (.int .i64 k) := by rw [Below.celz b1 _ _ _ (by simp)]; simp [go_sem]
    have c2 : w.heap.size < w1.heap.size := by have := b1.size; simp at this; omega
    have hc2 : Hid (w.heap.size ≤ w1.heap.size) := Nat.le_of_lt c2
    clear b0 b1 ht
    go_wp2_with fail
    refine wp_region_after (by kernel_rfl) (by kernel_rfl) ?_
    intro hne hac
    repeat (go_big_quiet_step (first | (go_at_call 16; exact after_of (HL.out _ (HB.out.trans ((After.bel _).mono hc2.out)))) | (go_at_call 17; exact after_of (HM.out _))))
    refine wpQuiet_nil ?_
    rintro _ ⟨p, rfl⟩
    have hb := HB.out.trans (p.bel.mono (by omega))
    clear hne hac
    go_wp2
    go_ret
    exact ⟨by rw [HD.out]; rfl, hb⟩
end Go.Proofs.YtbgcalhpopcakaaDoor.Lab

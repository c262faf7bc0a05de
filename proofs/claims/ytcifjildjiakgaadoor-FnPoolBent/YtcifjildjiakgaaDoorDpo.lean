/-
  What is drawn of pools: a pool, one in ten bent.
-/
import Derived.Test.YtcifjildjiakgaaDoorDpl
import Derived.Deep.RegionHeld3
namespace Go.Proofs.YtcifjildjiakgaaDoor.Lab
open Go.RowKit
set_option linter.unusedVariables false
theorem gr_drew {w w2 : World} {r : Option Nat} (h : w.drew.grownBy w2 r) : w.grownBy w2 r := ⟨h.os, h.tape, h.output, h.size, h.block⟩
/-- How the drawn pool stands in its box P: z, u; the answer's box is untouched. -/
def PSt (w W : World) (B P b : Nat) (a : Option Addr) (len cap : Nat) (zs : List Int) (q : Int) (z : Int) (u : Value) (xs : List (Int × Int)) : Prop :=
  W.heap[P]? = some (.cells #[.int .i64 z, u] 25 (0, 0)) ∧ W.heap[w.heap.size]? = some (.cells #[.int .i64 0, .slice none 0 0] 25 (0, 0)) ∧ OwnPool W b u xs ∧ P < b ∧ RdAt W B a len cap zs q ∧ w.grownBy W (some B) ∧ w.heap.size < P ∧ B < w.heap.size ∧ b ≤ W.heap.size
section
variable {w W W' : World} {B P b : Nat} {a : Option Addr} {len cap : Nat} {zs : List Int} {q : Int} {z : Int} {u : Value} {xs : List (Int × Int)}
theorem PSt.cells (h : PSt w W B P b a len cap zs q z u xs) : (W.cell? ⟨P, 0, none⟩ = some (.int .i64 z) ∧ W.cell? ⟨P, 1, none⟩ = some u ∧ (∀ i, W.frozen? ⟨P, i, none⟩ = false)) ∧ (W.cell? ⟨w.heap.size, 0, none⟩ = some (.int .i64 0) ∧ W.cell? ⟨w.heap.size, 1, none⟩ = some (.slice none 0 0) ∧ ∀ i, W.frozen? ⟨w.heap.size, i, none⟩ = false) ∧ P < W.heap.size := by
  obtain ⟨h1, h2, _⟩ := h
  exact ⟨⟨by rw [cell_block h1]; rfl, by rw [cell_block h1]; rfl, fun i => free_block h1⟩, ⟨by rw [cell_block h2]; rfl, by rw [cell_block h2]; rfl, fun i => free_block h2⟩, lt_of_block h1⟩
theorem PSt.grown (h : PSt w W B P b a len cap zs q z u xs) {q' : Int} (hg : W.grownBy W' (some B)) (hr : RdAt W' B a len cap zs q') : PSt w W' B P b a len cap zs q' z u xs := by
  obtain ⟨h1, h2, h3, h4, h5, h6, h7, h8, h9⟩ := h
  have l1 := lt_of_block h1
  have l2 := lt_of_block h2
  refine ⟨by rw [hg.block _ l1 (by simp; omega)]; exact h1, by rw [hg.block _ l2 (by simp; omega)]; exact h2, own_grD h3 hg (fun k hk e => ?_), h4, hr, grownBy_trans h6 hg, h7, h8, Nat.le_trans h9 hg.size⟩
  have := (h3.lt k hk).1
  cases e
  omega
theorem PSt.size (h : PSt w W B P b a len cap zs q z u xs) (z' : Int) : PSt w (W.setCell ⟨P, 0, none⟩ (.int .i64 z')) B P b a len cap zs q z' u xs := by
  obtain ⟨h1, h2, h3, h4, h5, h6, h7, h8, h9⟩ := h
  refine ⟨by rw [set_block _ h1]; rfl, by rw [Below.heap_setCell _ _ _ _ (by simp; omega)]; exact h2, own_set h3 (fun e => ?_) _, h4, h5.set (by simp; omega) _, grownBy_setNew h6 (by simp; omega) _, h7, h8, by simpa using h9⟩
  have := (h3.lt _ e).1
  simp at this
  omega
theorem PSt.list (h : PSt w W B P b a len cap zs q z u xs) {v : Value} {ys : List (Int × Int)} (hg : W.grownBy W' u.ownBlock) (ho : OwnPool W' b v ys) : PSt w (W'.setCell ⟨P, 1, none⟩ v) B P b a len cap zs q z v ys := by
  obtain ⟨h1, h2, h3, h4, h5, h6, h7, h8, h9⟩ := h
  have l1 := lt_of_block h1
  have l2 := lt_of_block h2
  have lt : ∀ k, u.ownBlock = some k → b ≤ k := fun k hk => (h3.lt k hk).1
  have bel : Below b W W' := (Below.refl _ _).grown hg h9 lt
  have k1 : W'.heap[P]? = some (.cells #[.int .i64 z, u] 25 (0, 0)) := by rw [bel.block _ h4]; exact h1
  refine ⟨by rw [set_block _ k1]; rfl, ?_, own_set ho (fun e => ?_) _, h4, (h5.below bel (by omega)).set (by simp; omega) _, ?_, h7, h8, by have := bel.size; simp; omega⟩
  · rw [Below.heap_setCell _ _ _ _ (by simp; omega), bel.block _ (by omega)]; exact h2
  · have := (ho.lt _ e).1
    simp at this
    omega
  · refine grownBy_setNew ?_ (by simp; omega) _
    exact ⟨bel.os.trans h6.os, bel.tape.trans h6.tape, bel.output.trans h6.output, Nat.le_trans h6.size bel.size, fun k hk hne => (bel.block k (by omega)).trans (h6.block k hk hne)⟩
theorem PSt.next (h : PSt w W B P b a len cap zs q z u xs) {z' : Int} {v : Value} {ys : List (Int × Int)} (hb : Below W.heap.size W W') (ho : OwnPool W' W.heap.size v ys) : PSt w ((W'.setCell ⟨P, 0, none⟩ (.int .i64 z')).setCell ⟨P, 1, none⟩ v) B P W.heap.size a len cap zs q z' v ys := by
  obtain ⟨h1, h2, h3, h4, h5, h6, h7, h8, h9⟩ := h
  have l1 := lt_of_block h1
  have l2 := lt_of_block h2
  have k1 : W'.heap[P]? = some (.cells #[.int .i64 z, u] 25 (0, 0)) := by rw [hb.block _ l1]; exact h1
  have hn : ∀ p : Addr, p.block = P → v.ownBlock ≠ some p.block := fun p hp e => by have := (ho.lt _ e).1; omega
  refine ⟨by rw [set_block _ (set_block _ k1)]; rfl, ?_, own_set (own_set ho (hn _ rfl) _) (hn _ rfl) _, l1, ((h5.below hb h5.lt).set (by simp; omega) _).set (by simp; omega) _, ?_, h7, h8, by simpa using hb.size⟩
  · rw [Below.heap_setCell _ _ _ _ (by simp; omega), Below.heap_setCell _ _ _ _ (by simp; omega), hb.block _ l2]; exact h2
  · refine grownBy_setNew (grownBy_setNew ?_ (by simp; omega) _) (by simp; omega) _
    exact ⟨hb.os.trans h6.os, hb.tape.trans h6.tape, hb.output.trans h6.output, Nat.le_trans h6.size hb.size, fun k hk hne => (hb.block k (Nat.lt_of_lt_of_le hk h6.size)).trans (h6.block k hk hne)⟩
theorem PSt.done (h : PSt w W B P b a len cap zs q z u xs) : OwnPool ((W.setCell ⟨w.heap.size, 0, none⟩ (.int .i64 z)).setCell ⟨w.heap.size, 1, none⟩ u) w.heap.size u xs ∧ RdAt ((W.setCell ⟨w.heap.size, 0, none⟩ (.int .i64 z)).setCell ⟨w.heap.size, 1, none⟩ u) B a len cap zs q ∧ w.grownBy ((W.setCell ⟨w.heap.size, 0, none⟩ (.int .i64 z)).setCell ⟨w.heap.size, 1, none⟩ u) (some B) := by
  obtain ⟨h1, h2, h3, h4, h5, h6, h7, h8, h9⟩ := h
  have hn : ∀ p : Addr, p.block = w.heap.size → u.ownBlock ≠ some p.block := fun p hp e => by have := (h3.lt _ e).1; omega
  exact ⟨own_mono (own_set (own_set h3 (hn _ rfl) _) (hn _ rfl) _) (by omega), (h5.set (by simp; omega) _).set (by simp; omega) _, grownBy_setNew (grownBy_setNew h6 (by simp) _) (by simp) _⟩
end
set_option maxHeartbeats 4000000 in
theorem l5Pool (B len cap : Nat) (a : Option Addr) (zs : List Int) (pos : Int) (w : World) (h : RdAt w B a len cap zs pos) (hp : pos ≤ 1000000) :
    Calls Tryd.prog 15 #[.pointer (some ⟨B, 0, none⟩)] w fun e w' => ∃ (z : Int) (v : Value) (xs : List (Int × Int)) (q : Int), e = .returned (.agg #[.int .i64 z, v]) ∧ OwnPool w' w.heap.size v xs ∧ xs.length ≤ 48 ∧ (-1 ≤ z ∧ z ≤ 13) ∧ q ≤ pos + 80 ∧ RdAt w' B a len cap zs q ∧ w.grownBy w' (some B) := by
  have hB := h.lt
  have h0 := h.alloc (.cells #[.int .i64 0, .slice none 0 0] 25)
  go_enter Tryd.func15, Tryd.ntmps15
  go_wp2_with fail
  refine (num_lit B _ len cap a zs pos [2, 3, 4, 1, 0, 6, 12] _ h0 (by omega) (by decide) (by decide) (by simp)).mono ?_
  rintro e w1 ⟨z, hz, rfl, hr1, hg1⟩
  have hzb : 0 ≤ z ∧ z ≤ 12 := by simp at hz; omega
  obtain ⟨zn, rfl⟩ := Int.eq_ofNat_of_zero_le hzb.1
  have hzn : zn ≤ 12 := by omega
  have s1 : w.heap.size + 1 ≤ w1.heap.size := by have := hg1.size; simpa using this
  have hur : w1.heap[w.heap.size]? = some (.cells #[.int .i64 0, .slice none 0 0] 25 (0, 0)) := by rw [hg1.block _ (by simp) (by simp; omega)]; exact new_block _ _
  have HG1 : Hid (w.grownBy w1 (some B)) := grownBy_trans (World.grownBy_alloc _ _ _) hg1
  have HR1 : Hid (RdAt w1 B a len cap zs (pos + 1)) := hr1
  have hBP : B < w1.heap.size := by omega
  clear hz hzb hg1 hr1 h h0
  go_wp2_with fail
  generalize hW1 : w1.alloc (.cells #[.int .i64 zn, .slice none 0 0] 25) = W1
  have S1 : W1.heap.size = w1.heap.size + 1 := by rw [← hW1]; simp
  have HS1 : Hid (PSt w W1 B w1.heap.size W1.heap.size a len cap zs (pos + 1) zn (.slice none 0 0) []) := by
    rw [← hW1]
    exact ⟨new_block _ _, by rw [heap_alloc_old _ _ (by omega)]; exact hur, World.ownsRow_nil _ _ _ _, by simp, HR1.out.alloc _, grownBy_trans HG1.out (World.grownBy_alloc _ _ _), by omega, hB, Nat.le_refl _⟩
  obtain ⟨P, hP⟩ : ∃ P, P = w1.heap.size := ⟨_, rfl⟩
  rw [← hP] at HS1 S1
  rw [← hP]
  have hwP : w.heap.size < P := by omega
  clear hP hW1 HR1 HG1 hur s1 hBP
  obtain ⟨⟨c0, c1, c2⟩, -, c6⟩ := HS1.out.cells
  go_region_with (first
    | (go_at_call 12; refine (l5Pages B len cap a zs (pos + 1) W1.drew HS1.out.2.2.2.2.1 (by omega)).mono ?_; rintro e w2 ⟨v2, xs2, q2, rfl, o2, n2, hq2, hr2, hg2⟩; obtain ⟨a2, k2, rfl⟩ := o2.form; have HS2 : Hid (PSt w w2 B P W1.heap.size a len cap zs q2 zn (.slice none 0 0) []) := (HS1.out.grown (gr_drew hg2) hr2); have HO2 : Hid (OwnPool w2 W1.heap.size (.slice a2 xs2.length k2) xs2) := o2; obtain ⟨⟨d0, d1, d2⟩, d3, d6⟩ := HS2.out.cells; clear o2 hr2 hg2 d3)
    | (go_at_call 11; refine (l5All zn (.slice none 0 0) (.slice a2 xs2.length k2) [] xs2 w2 (.inl ⟨rfl, _, _, rfl⟩) HO2.out.row (by simp) (by simp) (by omega) (by omega)).mono ?_; rintro e w3 ⟨u3, rfl, o3, bel3⟩; obtain ⟨a3, k3, rfl⟩ := o3.form; have e0 : w3.cell? ⟨P, 0, none⟩ = some (.int .i64 zn) := (Below.celz bel3 _ _ _ d6).trans d0; have e1 : w3.cell? ⟨P, 1, none⟩ = some (.slice none 0 0) := (Below.celz bel3 _ _ _ d6).trans d1; have e2 : ∀ i, w3.frozen? ⟨P, i, none⟩ = false := (fun i => (Below.froz bel3 _ _ _ d6).trans (d2 i))))
  all_goals (
    have hl3 := allU_len (n := zn) (xs := []) (by simp) xs2
    generalize allU zn [] xs2 = st at hl3 o3 ⊢
    obtain ⟨L, M⟩ := st
    dsimp only at hl3 o3 ⊢
    have HS4 : Hid (PSt w ((w3.setCell ⟨P, 0, none⟩ (.int .i64 zn)).setCell ⟨P, 1, none⟩ (.slice a3 L.length k3)) B P w2.heap.size a len cap zs q2 zn (.slice a3 L.length k3) L) := HS2.out.next bel3 o3
    generalize (w3.setCell ⟨P, 0, none⟩ (.int .i64 zn)).setCell ⟨P, 1, none⟩ (.slice a3 L.length k3) = w4 at HS4 ⊢
    obtain ⟨n, hn⟩ : ∃ n, n = L.length := ⟨_, rfl⟩
    rw [← hn] at hl3 HS4 ⊢
    have HN : Hid (n = L.length) := hn
    obtain ⟨b4, hb4⟩ : ∃ b4, b4 = w2.heap.size := ⟨_, rfl⟩
    rw [← hb4] at HS4
    clear o3 bel3 e0 e1 e2 d0 d1 d2 d6 HS2 HO2 hn c0 c1 c2 c6 HS1 hb4 n2
    go_wp2_with fail
    refine (pick B len cap a zs q2 _ _ HS4.out.2.2.2.2.1 (by omega) (by omega) (by omega)).mono ?_
    rintro e w5 ⟨x, rfl, x0, x1, hr5, hg5⟩
    have HS5 : Hid (PSt w w5 B P b4 a len cap zs (q2 + 1) zn (.slice a3 n k3) L) := HS4.out.grown hg5 hr5
    clear hr5 hg5 HS4
    obtain ⟨⟨f0, f1, f2⟩, ⟨f3, f4, f5⟩, f6⟩ := HS5.out.cells
    have f7 : w.heap.size < w5.heap.size := by omega
    by_cases hx0 : x = 0
    · subst hx0
      go_wp2_with fail
      refine (num_lit B _ len cap a zs (q2 + 1) [-1, 13, (zn : Int) - 1] _ HS5.out.2.2.2.2.1 (by omega) (by simp) (by simp) rfl).mono ?_
      rintro e w6 ⟨v6, hv6, rfl, hr6, hg6⟩
      have hv6b : -1 ≤ v6 ∧ v6 ≤ 13 := by simp at hv6; omega
      have HS6 : Hid (PSt w w6 B P b4 a len cap zs (q2 + 1 + 1) zn (.slice a3 n k3) L) := HS5.out.grown hg6 hr6
      have HS7 : Hid (PSt w (w6.setCell ⟨P, 0, none⟩ (.int .i64 v6)) B P b4 a len cap zs (q2 + 1 + 1) v6 (.slice a3 n k3) L) := HS6.out.size v6
      clear hr6 hg6 HS5 f0 f1 f2 f3 f4 f5 hv6
      obtain ⟨⟨f0, f1, f2⟩, ⟨f3, f4, f5⟩, f6⟩ := HS6.out.cells
      have f7 : w.heap.size < w6.heap.size := by omega
      go_wp2_with fail
      refine bodyPost_ret (v := .agg #[.int .i64 v6, .slice a3 n k3]) (by simp [*, results, Tryd.results15, go_sem]) rfl ?_
      obtain ⟨r1, r2, r3⟩ := HS7.out.done
      exact ⟨_, _, L, _, rfl, r1, by have := HN.out; omega, ⟨by omega, by omega⟩, by omega, r2, r3⟩
    · by_cases hx1 : x = 1
      · subst hx1
        obtain ⟨i0, hi, hz0, hz1, hzz2⟩ := info_parts Tryd.infoPage
        have HOW : Hid (OwnPool w5 b4 (.slice a3 n k3) L) := HS5.out.2.2.1
        have hb5 : b4 ≤ w5.heap.size := HS5.out.2.2.2.2.2.2.2.2
        have Ln : L.length = n := HN.out.symm
        have hown : w5.ownsRow b4 41 2 (.slice a3 n k3) n (L.flatMap encPage) := by have := HOW.out; unfold OwnPool at this; rw [Ln] at this; exact this
        have HO : Hid (w5.ownsRow b4 41 2 (.slice a3 n k3) n (L.flatMap encPage)) := hown
        have HPL : Hid (∀ k, (Value.slice a3 n k3).ownBlock = some k → k ≠ P ∧ k ≠ w.heap.size) := fun k hk => by
          have := (hown.lt k hk).1
          have := HS5.out.2.2.2.1
          omega
        clear hown
        go_wp2_with (at_builtin; refine wpList_appRow encPage_len (by decide) encPage_one rfl _ _ 23 rfl Tryd.underlying23 hi hz0 hz1 hzz2 rfl b4 (.slice a3 n k3) n (L.flatMap encPage) (.slice a3 n k3) L rfl rfl HO.out HOW.out.row (by unfold maxLen; omega) (by omega) hb5 ?_)
        intro v7 w7 ho7 hg7 ha7
        obtain ⟨x7, y7, rfl⟩ := own_form ho7
        have g0 : w7.cell? ⟨P, 0, none⟩ = some (.int .i64 zn) := by rw [World.cell?_of_block (hg7.block _ f6 (fun e => (HPL.out _ e.symm).1 rfl))]; exact f0
        have g1 : w7.cell? ⟨P, 1, none⟩ = some (.slice a3 n k3) := by rw [World.cell?_of_block (hg7.block _ f6 (fun e => (HPL.out _ e.symm).1 rfl))]; exact f1
        have g2 : ∀ i, w7.frozen? ⟨P, i, none⟩ = false := fun i => by rw [World.frozen?_of_block (hg7.block _ f6 (fun e => (HPL.out _ e.symm).1 rfl))]; exact f2 i
        have g3 : w7.cell? ⟨w.heap.size, 0, none⟩ = some (.int .i64 0) := by rw [World.cell?_of_block (hg7.block _ f7 (fun e => (HPL.out _ e.symm).2 rfl))]; exact f3
        have g4 : w7.cell? ⟨w.heap.size, 1, none⟩ = some (.slice none 0 0) := by rw [World.cell?_of_block (hg7.block _ f7 (fun e => (HPL.out _ e.symm).2 rfl))]; exact f4
        have g5 : ∀ i, w7.frozen? ⟨w.heap.size, i, none⟩ = false := fun i => by rw [World.frozen?_of_block (hg7.block _ f7 (fun e => (HPL.out _ e.symm).2 rfl))]; exact f5 i
        have g6 : P < w7.heap.size := Nat.lt_of_lt_of_le f6 hg7.size
        have g7 : w.heap.size < w7.heap.size := Nat.lt_of_lt_of_le f7 hg7.size
        have HS7 : Hid (PSt w (w7.setCell ⟨P, 1, none⟩ (.slice x7 (n + n) y7)) B P b4 a len cap zs (q2 + 1) zn (.slice x7 (n + n) y7) (L ++ L)) := by
          refine HS5.out.list hg7 ?_
          unfold OwnPool
          rw [List.length_append, List.flatMap_append, Ln]; exact ho7
        clear ho7 hg7 ha7 f0 f1 f2 f3 f4 f5 HO HPL HOW HS5
        go_wp2_with fail
        refine bodyPost_ret (v := .agg #[.int .i64 zn, .slice x7 (n + n) y7]) (by simp [*, results, Tryd.results15, go_sem]) rfl ?_
        obtain ⟨r1, r2, r3⟩ := HS7.out.done
        exact ⟨_, _, L ++ L, _, rfl, r1, by have := HN.out; simp; omega, ⟨by omega, by omega⟩, by omega, r2, r3⟩
      · by_cases hx2 : x = 2
        · subst hx2
          obtain ⟨i0, hi, hz0, hz1, hzz2⟩ := info_parts Tryd.infoPage
          have HOW : Hid (OwnPool w5 b4 (.slice a3 n k3) L) := HS5.out.2.2.1
          have hb5 : b4 ≤ w5.heap.size := HS5.out.2.2.2.2.2.2.2.2
          have Ln : L.length = n := HN.out.symm
          have hown : w5.ownsRow b4 41 2 (.slice a3 n k3) n (L.flatMap encPage) := by have := HOW.out; unfold OwnPool at this; rw [Ln] at this; exact this
          have HPL : Hid (∀ k, (Value.slice a3 n k3).ownBlock = some k → k ≠ P ∧ k ≠ w.heap.size) := fun k hk => by
            have := (hown.lt k hk).1
            have := HS5.out.2.2.2.1
            omega
          have HO : Hid (w5.ownsRow b4 41 2 (.slice a3 n k3) n (L.flatMap encPage)) := hown
          clear hown
          go_wp2_with (at_builtin; refine wpList_append_own _ rfl _ _ 23 rfl b4 41 i0 _ 2 16 Tryd.underlying23 hi hz0 hz1 hzz2 rfl (by decide) _ _ _ rfl (HO.out.alloc _) ⟨w5.heap.size, 0, none⟩ 1 1 [.int .i64 9, .int .i64 0] rfl rfl ?c1 ?c2 ?c3 ?c4 ?c5 ?_)
          case c1 =>
            intro k u hu
            match k, hu with
            | 0, hu => simp at hu; subst hu; simp [Addr.add]
            | 1, hu => simp at hu; subst hu; simp [Addr.add]
          case c2 => intro u hu; simp at hu; rcases hu with rfl | rfl <;> rfl
          case c3 => unfold maxLen; omega
          case c4 => omega
          case c5 => simp; omega
          intro v7 w7 ho7 hg7' ha7
          have hg7 : w5.grownBy w7 (Value.slice a3 n k3).ownBlock := gr_new hg7'
          clear hg7'
          obtain ⟨x7, y7, rfl⟩ := own_form ho7
          have g0 : w7.cell? ⟨P, 0, none⟩ = some (.int .i64 zn) := by rw [World.cell?_of_block (hg7.block _ f6 (fun e => (HPL.out _ e.symm).1 rfl))]; exact f0
          have g1 : w7.cell? ⟨P, 1, none⟩ = some (.slice a3 n k3) := by rw [World.cell?_of_block (hg7.block _ f6 (fun e => (HPL.out _ e.symm).1 rfl))]; exact f1
          have g2 : ∀ i, w7.frozen? ⟨P, i, none⟩ = false := fun i => by rw [World.frozen?_of_block (hg7.block _ f6 (fun e => (HPL.out _ e.symm).1 rfl))]; exact f2 i
          have g3 : w7.cell? ⟨w.heap.size, 0, none⟩ = some (.int .i64 0) := by rw [World.cell?_of_block (hg7.block _ f7 (fun e => (HPL.out _ e.symm).2 rfl))]; exact f3
          have g4 : w7.cell? ⟨w.heap.size, 1, none⟩ = some (.slice none 0 0) := by rw [World.cell?_of_block (hg7.block _ f7 (fun e => (HPL.out _ e.symm).2 rfl))]; exact f4
          have g5 : ∀ i, w7.frozen? ⟨w.heap.size, i, none⟩ = false := fun i => by rw [World.frozen?_of_block (hg7.block _ f7 (fun e => (HPL.out _ e.symm).2 rfl))]; exact f5 i
          have g6 : P < w7.heap.size := Nat.lt_of_lt_of_le f6 hg7.size
          have g7 : w.heap.size < w7.heap.size := Nat.lt_of_lt_of_le f7 hg7.size
          have HS7 : Hid (PSt w (w7.setCell ⟨P, 1, none⟩ (.slice x7 (n + 1) y7)) B P b4 a len cap zs (q2 + 1) zn (.slice x7 (n + 1) y7) (L ++ [(9, 0)])) := by
            refine HS5.out.list hg7 ?_
            unfold OwnPool
            rw [List.length_append, List.flatMap_append, Ln]; exact ho7
          clear ho7 hg7 ha7 f0 f1 f2 f3 f4 f5 HO HPL HOW HS5
          go_wp2_with fail
          refine bodyPost_ret (v := .agg #[.int .i64 zn, .slice x7 (n + 1) y7]) (by simp [*, results, Tryd.results15, go_sem]) rfl ?_
          obtain ⟨r1, r2, r3⟩ := HS7.out.done
          exact ⟨_, _, L ++ [(9, 0)], _, rfl, r1, by have := HN.out; simp; omega, ⟨by omega, by omega⟩, by omega, r2, r3⟩

        · have d0 : (x == 0) = false := by simpa using hx0
          have d1 : (x == 1) = false := by simpa using hx1
          have d2 : (x == 2) = false := by simpa using hx2
          clear hx0 hx1 hx2
          go_wp2_with fail
          refine bodyPost_ret (v := .agg #[.int .i64 zn, .slice a3 n k3]) (by simp [*, results, Tryd.results15, go_sem]) rfl ?_
          obtain ⟨r1, r2, r3⟩ := HS5.out.done
          exact ⟨_, _, L, _, rfl, r1, by have := HN.out; omega, ⟨by omega, by omega⟩, by omega, r2, r3⟩)
end Go.Proofs.YtcifjildjiakgaaDoor.Lab

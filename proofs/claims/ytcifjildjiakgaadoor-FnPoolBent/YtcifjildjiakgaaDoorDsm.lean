/-
  What is drawn of pools: DrawPoolSame.
-/
import Derived.Test.YtcifjildjiakgaaDoorDpu
import Derived.Deep.DeepCutAuto
import Derived.Deep.RegionHeld3
namespace Go.Proofs.YtcifjildjiakgaaDoor.Lab
open Go.RowKit
set_option linter.unusedVariables false
/-- As BoxU, with the reader's block turned too. -/
def BoxG (w0 Wf : World) (V C : Nat) (z : Int) (u : Value) (L : List (Int × Int)) : Prop :=
  w0.grownBy Wf (some V) ∧ w0.heap.size ≤ C ∧ Wf.heap[C]? = some (.cells #[.int .i64 z, u] 25 (0, 0)) ∧ OwnPool Wf w0.heap.size u L ∧ ∀ k, u.ownBlock = some k → k ≠ C
theorem boxg_last {w0 wc : World} {V b : Nat} {z : Int} {u : Value} {L : List (Int × Int)} (hs : w0.grownBy wc (some V)) (og : OwnPool wc b u L) (hb : w0.heap.size ≤ b) : BoxG w0 (wc.alloc (.cells #[.int .i64 z, u] 25)) V wc.heap.size z u L :=
  ⟨grownBy_trans hs (World.grownBy_alloc _ _ _), hs.size, new_block _ _, own_mono (og.keep ((Below.refl _ _).alloc (Nat.le_refl _) _)) hb, fun k hk => by have := (og.lt k hk).2; omega⟩
theorem boxg_set {w0 wc : World} {V b C : Nat} {z : Int} {u : Value} {L : List (Int × Int)} (hs : w0.grownBy wc (some V)) (og : OwnPool wc b u L) (hC : w0.heap.size ≤ C) (hb : C < b) (h : wc.heap[C]? = some (.cells #[.int .i64 0, .slice none 0 0] 25 (0, 0))) :
    BoxG w0 ((wc.setCell ⟨C, 0, none⟩ (.int .i64 z)).setCell ⟨C, 1, none⟩ u) V C z u L := by
  have hn : ∀ k, u.ownBlock = some k → k ≠ C := fun k hk => by have := (og.lt k hk).1; omega
  refine ⟨grownBy_setNew (grownBy_setNew hs hC _) hC _, hC, ?_, ?_, hn⟩
  · rw [set_block _ (set_block _ h)]; rfl
  · exact own_mono (own_set (own_set og (fun e => hn _ e rfl) _) (fun e => hn _ e rfl) _) (by omega)
theorem gr_dr (w : World) (r : Option Nat) : w.grownBy w.drew r := ⟨rfl, rfl, rfl, Nat.le_refl _, fun _ _ _ => rfl⟩
theorem pickN (B len cap : Nat) (a : Option Addr) (zs : List Int) (pos : Int) (n : Nat) (w : World) (h : RdAt w B a len cap zs pos) (hp : pos ≤ 1000000000) (h1 : 1 ≤ n) (h2 : n ≤ 1000000) :
    Calls Tryd.prog 13 #[.pointer (some ⟨B, 0, none⟩), .int .i64 (n : Int)] w fun e w' => ∃ j : Nat, e = .returned (.int .i64 (j : Int)) ∧ j < n ∧ RdAt w' B a len cap zs (pos + 1) ∧ w.grownBy w' (some B) := by
  refine (pick B len cap a zs pos n w h hp (by omega) (by omega)).mono ?_
  rintro e w' ⟨x, he, h0, hx, hr, hg⟩
  obtain ⟨j, rfl⟩ := Int.eq_ofNat_of_zero_le h0
  exact ⟨j, he, by omega, hr, hg⟩
set_option maxHeartbeats 4000000 in
theorem drawPoolSame (a : Option Addr) (len cap : Nat) (zs : List Int) (w : World) (h : CodeAt w a len cap zs) :
    Calls Tryd.prog 4 #[.slice a len cap] w fun e w' => ∃ (z1 z2 : Int) (u v : Value) (xs ys : List (Int × Int)), e = .returned (.tuple #[.agg #[.int .i64 z1, u], .agg #[.int .i64 z2, v]]) ∧ OwnPool w' w.heap.size u xs ∧ OwnPool w' w.heap.size v ys ∧ xs.length ≤ 48 ∧ ys.length ≤ 48 ∧ Below w.heap.size w w' := by
  have h0 : CodeAt ((w.alloc (.cells #[.int .i64 0, .slice none 0 0] 25)).alloc (.cells #[.int .i64 0, .slice none 0 0] 25)) a len cap zs := h.below (by go_grown)
  clear h
  go_enter Tryd.func4, Tryd.ntmps4
  go_wp2_with fail
  refine (l9Open a len cap zs _ h0).mono ?_
  rintro e w1 ⟨rfl, ⟨m, hr1⟩, hb1⟩
  clear h0
  simp only [World.size_alloc] at hr1 hb1
  have hur1 : w1.heap[w.heap.size]? = some (.cells #[.int .i64 0, .slice none 0 0] 25 (0, 0)) := by rw [hb1.block _ (by omega), heap_alloc_old _ _ (by simp)]; exact new_block _ _
  have hus1 : w1.heap[w.heap.size + 1]? = some (.cells #[.int .i64 0, .slice none 0 0] 25 (0, 0)) := by rw [hb1.block _ (by omega)]; exact new_ats (by simp)
  have g1 : Below w.heap.size w w1 := Below.trans (by go_grown) (hb1.mono (by omega))
  have hV := hr1.lt
  go_wp2_with fail
  refine (l5Pages _ _ _ _ _ _ _ hr1 (by omega)).mono ?_
  rintro e w2 ⟨v2, ls, q, rfl, ho2, hl2, hq, hr2, hg2⟩
  obtain ⟨va, vc, rfl⟩ := ho2.form
  go_wp2_with fail
  refine (l5All 4 (.slice none 0 0) (.slice va ls.length vc) [] ls w2 (.inl ⟨rfl, _, _, rfl⟩) ho2.row (by simp) (by simp) (by omega) (by omega)).mono ?_
  rintro e w3 ⟨u, rfl, ou, b3⟩
  obtain ⟨ua, uc, rfl⟩ := ou.form
  have hl4 := allU_len (n := 4) (xs := []) (by simp) ls
  have hnd4 := allU_nodup (n := 4) (xs := []) List.nodup_nil ls
  generalize allU 4 [] ls = st at hl4 hnd4 ou ⊢
  obtain ⟨L, M⟩ := st
  dsimp only at hl4 hnd4 ou ⊢
  have HND : Hid L.Nodup := hnd4
  clear hnd4
  obtain ⟨n, hn⟩ : ∃ n, n = L.length := ⟨_, rfl⟩
  have HN : Hid (n = L.length) := hn
  rw [← hn] at hl4 ou ⊢
  have hs2 := hg2.size
  have hs3 := b3.size
  have HR3 : Hid (RdAt w3 (w.heap.size + 1 + 1) a m cap zs q ∧ Below w.heap.size w w3) := ⟨hr2.below b3 hr2.lt, (g1.trans (below_of_grown hg2 (by omega) |>.mono (by omega))).trans (b3.mono (by omega))⟩
  have hur3 : w3.heap[w.heap.size]? = some (.cells #[.int .i64 0, .slice none 0 0] 25 (0, 0)) := by rw [b3.block _ (by omega), hg2.block _ (by omega) (by simp; omega)]; exact hur1
  have hus3 : w3.heap[w.heap.size + 1]? = some (.cells #[.int .i64 0, .slice none 0 0] 25 (0, 0)) := by rw [b3.block _ (by omega), hg2.block _ (by omega) (by simp)]; exact hus1
  clear hr1 hb1 g1 hur1 hus1 ho2 hr2 hg2 b3 hn
  go_wp2_with fail
  generalize hW3 : w3.alloc (.cells #[.int .i64 4, .slice ua n uc] 25) = W3
  have S3 : W3.heap.size = w3.heap.size + 1 := by rw [← hW3]; simp
  obtain ⟨P, hP⟩ : ∃ P, P = w3.heap.size := ⟨_, rfl⟩
  have HT : Hid (W3.heap[P]? = some (.cells #[.int .i64 4, .slice ua n uc] 25 (0, 0)) ∧ W3.heap[w.heap.size]? = some (.cells #[.int .i64 0, .slice none 0 0] 25 (0, 0)) ∧ W3.heap[w.heap.size + 1]? = some (.cells #[.int .i64 0, .slice none 0 0] 25 (0, 0)) ∧ OwnPool W3 w2.heap.size (.slice ua n uc) L ∧ Below w.heap.size w W3) := by
    rw [← hW3, hP]
    exact ⟨new_block _ _, by rw [heap_alloc_old _ _ (by omega)]; exact hur3, by rw [heap_alloc_old _ _ (by omega)]; exact hus3, ou.keep ((Below.refl _ _).alloc (Nat.le_refl _) _), HR3.out.2.alloc (by omega) _⟩
  have HRD : Hid (RdAt W3 (w.heap.size + 1 + 1) a m cap zs q) := by rw [← hW3]; exact HR3.out.1.alloc _
  rw [← hP] at S3
  rw [← hP]
  have hVP : w.heap.size + 1 + 1 < P := by omega
  have hV2 : w.heap.size + 1 + 1 < w2.heap.size := by omega
  clear hP hW3 HR3 hur3 hus3 hV ou
  refine (pick (w.heap.size + 1 + 1) m cap a zs q _ _ HRD.out (by omega) (by omega) (by omega)).mono ?_
  rintro e w4 ⟨x, rfl, x0, x1, hr4, hg4⟩
  have HT4 : Hid (w4.heap[P]? = some (.cells #[.int .i64 4, .slice ua n uc] 25 (0, 0)) ∧ w4.heap[w.heap.size]? = some (.cells #[.int .i64 0, .slice none 0 0] 25 (0, 0)) ∧ w4.heap[w.heap.size + 1]? = some (.cells #[.int .i64 0, .slice none 0 0] 25 (0, 0)) ∧ OwnPool w4 w2.heap.size (.slice ua n uc) L ∧ Below w.heap.size w w4) := ⟨by rw [hg4.block P (by omega) (by simp; omega)]; exact HT.out.1, by rw [hg4.block w.heap.size (by omega) (by simp; omega)]; exact HT.out.2.1, by rw [hg4.block (w.heap.size + 1) (by omega) (by simp)]; exact HT.out.2.2.1, own_grD HT.out.2.2.2.1 hg4 (fun k h e => by have := (HT.out.2.2.2.1.lt k h).1; cases e; omega), HT.out.2.2.2.2.trans (below_of_grown hg4 (by omega) |>.mono (by omega))⟩
  have HRD4 : Hid (RdAt w4 (w.heap.size + 1 + 1) a m cap zs (q + 1)) := hr4
  have S4 : W3.heap.size ≤ w4.heap.size := hg4.size
  clear hr4 hg4 HT HRD
  have c0 : w4.cell? ⟨P, 0, none⟩ = some (.int .i64 4) := by rw [cell_block HT4.out.1]; rfl
  have c1 : w4.cell? ⟨P, 1, none⟩ = some (.slice ua n uc) := by rw [cell_block HT4.out.1]; rfl
  have zP : P < w4.heap.size := by omega
  have a0 : w4.cell? ⟨w.heap.size, 0, none⟩ = some (.int .i64 0) := by rw [cell_block HT4.out.2.1]; rfl
  have a1 : w4.cell? ⟨w.heap.size, 1, none⟩ = some (.slice none 0 0) := by rw [cell_block HT4.out.2.1]; rfl
  have b0 : w4.cell? ⟨w.heap.size + 1, 0, none⟩ = some (.int .i64 0) := by rw [cell_block HT4.out.2.2.1]; rfl
  have b1 : w4.cell? ⟨w.heap.size + 1, 1, none⟩ = some (.slice none 0 0) := by rw [cell_block HT4.out.2.2.1]; rfl
  have af : ∀ i, w4.frozen? ⟨w.heap.size, i, none⟩ = false := fun i => free_block HT4.out.2.1
  have bf : ∀ i, w4.frozen? ⟨w.heap.size + 1, i, none⟩ = false := fun i => free_block HT4.out.2.2.1
  have zA : w.heap.size < w4.heap.size := by omega
  have zB : w.heap.size + 1 < w4.heap.size := by omega
  have Ln : L.length = n := HN.out.symm
  have HRW : Hid (∀ o, RowAt 2 encPage (w4.alloc o).drew (.slice ua n uc) L) := fun o => HT4.out.2.2.2.1.row.keep (((Below.refl _ _).alloc (Nat.le_refl _) _).drew)
  obtain ⟨i0, hi, hz0, hz1, hzz2⟩ := info_parts Tryd.infoPage
  by_cases hx : x = 0 ∨ n = 0
  · by_cases hx0' : x = 0
    · subst hx0'
      go_wp2_with fail
      go_region_law
        (first
          | (refine step_appRow encPage_len (by decide) encPage_one (by rfl) _ _ _ (by rfl) Tryd.underlying23 hi hz0 hz1 hzz2 rfl w4.heap.size _ 0 [] (.slice ua n uc) L (by rfl) (by rfl) (own_emptyP (B := w4.heap.size) (heap_alloc_new w4 _) (Nat.le_refl _)) (HRW.out _) (by unfold maxLen; omega) (by omega) (by simp) ?_; intro v5 w5 ho5 hg5 ha5; have B5 : Below w4.heap.size w4 w5 := ((((Below.refl _ _).alloc (Nat.le_refl _) _).drew).grown hg5 (by simp) (fun k hk => by simp [Value.ownBlock] at hk; omega)); obtain ⟨x5, y5, rfl⟩ := own_form ho5; have k0 : w5.cell? ⟨P, 0, none⟩ = some (.int .i64 4) := ((Below.celz B5 _ _ _ zP).trans c0); have k1 : w5.cell? ⟨P, 1, none⟩ = some (.slice ua n uc) := ((Below.celz B5 _ _ _ zP).trans c1); have k2 : w5.cell? ⟨w.heap.size, 0, none⟩ = some (.int .i64 0) := ((Below.celz B5 _ _ _ zA).trans a0); have k3 : w5.cell? ⟨w.heap.size, 1, none⟩ = some (.slice none 0 0) := ((Below.celz B5 _ _ _ zA).trans a1); have k4 : w5.cell? ⟨w.heap.size + 1, 0, none⟩ = some (.int .i64 0) := ((Below.celz B5 _ _ _ zB).trans b0); have k5 : w5.cell? ⟨w.heap.size + 1, 1, none⟩ = some (.slice none 0 0) := ((Below.celz B5 _ _ _ zB).trans b1); have k6 : ∀ i, w5.frozen? ⟨w.heap.size, i, none⟩ = false := (fun i => (Below.froz B5 _ _ _ zA).trans (af i)); have k7 : ∀ i, w5.frozen? ⟨w.heap.size + 1, i, none⟩ = false := (fun i => (Below.froz B5 _ _ _ zB).trans (bf i))))
      all_goals (
        have HF : Hid (OwnPool w5 w2.heap.size (.slice ua n uc) L ∧ OwnPool w5 w4.heap.size (.slice x5 n y5) L ∧ Below w.heap.size w w5) := ⟨HT4.out.2.2.2.1.keep B5, by have h := ho5; rw [Nat.zero_add, List.nil_append] at h; unfold OwnPool; rw [Ln]; rw [Ln] at h; exact h, HT4.out.2.2.2.2.trans (B5.mono (by omega))⟩
        have z5 : w.heap.size + 1 < w5.heap.size := by have := B5.size; omega
        clear ho5 hg5 ha5 B5 c0 c1 a0 a1 b0 b1 af bf
        go_wp2_with fail
        refine bodyPost_ret (v := .tuple #[.agg #[.int .i64 4, .slice ua n uc], .agg #[.int .i64 4, .slice x5 n y5]]) (by simp [*, results, Tryd.results4, go_sem]) rfl ?_
        obtain ⟨r1, r2, r3⟩ := HF.out
        have q1 : ∀ p : Addr, p.block = w.heap.size ∨ p.block = w.heap.size + 1 → (Value.slice ua n uc).ownBlock ≠ some p.block := fun p hp e => by have := (r1.lt _ e).1; omega
        have q2 : ∀ p : Addr, p.block = w.heap.size ∨ p.block = w.heap.size + 1 → (Value.slice x5 n y5).ownBlock ≠ some p.block := fun p hp e => by have := (r2.lt _ e).1; omega
        refine ⟨4, 4, _, _, L, L, rfl, ?_, ?_, by omega, by omega, ?_⟩
        · exact own_mono (own_set (own_set (own_set (own_set r1 (q1 _ (.inl rfl)) _) (q1 _ (.inl rfl)) _) (q1 _ (.inr rfl)) _) (q1 _ (.inr rfl)) _) (by omega)
        · exact own_mono (own_set (own_set (own_set (own_set r2 (q2 _ (.inl rfl)) _) (q2 _ (.inl rfl)) _) (q2 _ (.inr rfl)) _) (q2 _ (.inr rfl)) _) (by omega)
        · exact (((r3.setCell (by simp) _).setCell (by simp) _).setCell (by simp) _).setCell (by simp) _)
    · have hx0 : (x == 0) = false := by simpa using hx0'
      have hn0 : ((n : Int) == 0) = true := by have : n = 0 := by omega
                                               simp [this]
      clear hx hx0'
      go_wp2_with fail
      go_region_law
        (first
          | (refine step_appRow encPage_len (by decide) encPage_one (by rfl) _ _ _ (by rfl) Tryd.underlying23 hi hz0 hz1 hzz2 rfl w4.heap.size _ 0 [] (.slice ua n uc) L (by rfl) (by rfl) (own_emptyP (B := w4.heap.size) (heap_alloc_new w4 _) (Nat.le_refl _)) (HRW.out _) (by unfold maxLen; omega) (by omega) (by simp) ?_; intro v5 w5 ho5 hg5 ha5; have B5 : Below w4.heap.size w4 w5 := ((((Below.refl _ _).alloc (Nat.le_refl _) _).drew).grown hg5 (by simp) (fun k hk => by simp [Value.ownBlock] at hk; omega)); obtain ⟨x5, y5, rfl⟩ := own_form ho5; have k0 : w5.cell? ⟨P, 0, none⟩ = some (.int .i64 4) := ((Below.celz B5 _ _ _ zP).trans c0); have k1 : w5.cell? ⟨P, 1, none⟩ = some (.slice ua n uc) := ((Below.celz B5 _ _ _ zP).trans c1); have k2 : w5.cell? ⟨w.heap.size, 0, none⟩ = some (.int .i64 0) := ((Below.celz B5 _ _ _ zA).trans a0); have k3 : w5.cell? ⟨w.heap.size, 1, none⟩ = some (.slice none 0 0) := ((Below.celz B5 _ _ _ zA).trans a1); have k4 : w5.cell? ⟨w.heap.size + 1, 0, none⟩ = some (.int .i64 0) := ((Below.celz B5 _ _ _ zB).trans b0); have k5 : w5.cell? ⟨w.heap.size + 1, 1, none⟩ = some (.slice none 0 0) := ((Below.celz B5 _ _ _ zB).trans b1); have k6 : ∀ i, w5.frozen? ⟨w.heap.size, i, none⟩ = false := (fun i => (Below.froz B5 _ _ _ zA).trans (af i)); have k7 : ∀ i, w5.frozen? ⟨w.heap.size + 1, i, none⟩ = false := (fun i => (Below.froz B5 _ _ _ zB).trans (bf i))))
      all_goals (
        have HF : Hid (OwnPool w5 w2.heap.size (.slice ua n uc) L ∧ OwnPool w5 w4.heap.size (.slice x5 n y5) L ∧ Below w.heap.size w w5) := ⟨HT4.out.2.2.2.1.keep B5, by have h := ho5; rw [Nat.zero_add, List.nil_append] at h; unfold OwnPool; rw [Ln]; rw [Ln] at h; exact h, HT4.out.2.2.2.2.trans (B5.mono (by omega))⟩
        have z5 : w.heap.size + 1 < w5.heap.size := by have := B5.size; omega
        clear ho5 hg5 ha5 B5 c0 c1 a0 a1 b0 b1 af bf
        go_wp2_with fail
        refine bodyPost_ret (v := .tuple #[.agg #[.int .i64 4, .slice ua n uc], .agg #[.int .i64 4, .slice x5 n y5]]) (by simp [*, results, Tryd.results4, go_sem]) rfl ?_
        obtain ⟨r1, r2, r3⟩ := HF.out
        have q1 : ∀ p : Addr, p.block = w.heap.size ∨ p.block = w.heap.size + 1 → (Value.slice ua n uc).ownBlock ≠ some p.block := fun p hp e => by have := (r1.lt _ e).1; omega
        have q2 : ∀ p : Addr, p.block = w.heap.size ∨ p.block = w.heap.size + 1 → (Value.slice x5 n y5).ownBlock ≠ some p.block := fun p hp e => by have := (r2.lt _ e).1; omega
        refine ⟨4, 4, _, _, L, L, rfl, ?_, ?_, by omega, by omega, ?_⟩
        · exact own_mono (own_set (own_set (own_set (own_set r1 (q1 _ (.inl rfl)) _) (q1 _ (.inl rfl)) _) (q1 _ (.inr rfl)) _) (q1 _ (.inr rfl)) _) (by omega)
        · exact own_mono (own_set (own_set (own_set (own_set r2 (q2 _ (.inl rfl)) _) (q2 _ (.inl rfl)) _) (q2 _ (.inr rfl)) _) (q2 _ (.inr rfl)) _) (by omega)
        · exact (((r3.setCell (by simp) _).setCell (by simp) _).setCell (by simp) _).setCell (by simp) _)
  · have hx0 : (x == 0) = false := by simp; omega
    have hn0 : ((n : Int) == 0) = false := by simp; omega
    have hnp : (0 : Int) < (n : Int) := by omega
    clear hx
    obtain ⟨g, hua, hgb, hgl⟩ : ∃ g, ua = some ⟨g, 0, none⟩ ∧ w2.heap.size ≤ g ∧ g < w4.heap.size := by
      have h := HT4.out.2.2.2.1
      have hl := h.lt
      rcases h.2 with ⟨hv, hz⟩ | ⟨g, cp, cur, hv, hb, _⟩
      · exfalso; omega
      · simp only [Value.slice.injEq] at hv
        exact ⟨g, hv.1, hb, (hl g (by rw [hv.1]; rfl)).2⟩
    subst hua
    obtain ⟨pl, hpl⟩ : ∃ f : Nat → Int, ∀ j, f j = (L.getD j (0, 0)).1 := ⟨fun j => (L.getD j (0, 0)).1, fun _ => rfl⟩
    obtain ⟨pn, hpn⟩ : ∃ f : Nat → Int, ∀ j, f j = (L.getD j (0, 0)).2 := ⟨fun j => (L.getD j (0, 0)).2, fun _ => rfl⟩
    have HROW : Hid (∀ W, w4.grownBy W (some (w.heap.size + 1 + 1)) → RowAt 2 encPage W (.slice (some ⟨g, 0, none⟩) n uc) L) := fun W h => OwnPool.row (show OwnPool W w2.heap.size (.slice (some ⟨g, 0, none⟩) n uc) L from own_grD HT4.out.2.2.2.1 h (fun k h1 h2 => by have := (HT4.out.2.2.2.1.lt k h1).1; cases h2; omega))
    have hS : Hid (∀ w', w4.grownBy w' (some (w.heap.size + 1 + 1)) → w4.grownBy w' (some (w.heap.size + 1 + 1)) ∧ w'.cell? ⟨P, 0, none⟩ = some (.int .i64 4) ∧ w'.cell? ⟨P, 1, none⟩ = some (.slice (some ⟨g, 0, none⟩) n uc) ∧ (∀ j : Nat, j < n → w'.cell? ⟨g, j * 2, none⟩ = some (.int .i64 (pl j))) ∧ (∀ j : Nat, j < n → w'.cell? ⟨g, j * 2 + 1, none⟩ = some (.int .i64 (pn j)))) := fun w' hw => by
      have hc : ∀ j : Nat, j < n → w'.cell? ⟨g, j * 2, none⟩ = some (.int .i64 (pl j)) ∧ w'.cell? ⟨g, j * 2 + 1, none⟩ = some (.int .i64 (pn j)) := fun j hj => by
        rcases HROW.out w' hw with ⟨hz, _⟩ | ⟨_, b, off, c, hv, hlt, hc⟩
        · rw [hz] at Ln; simp at Ln; omega
        · simp only [Value.slice.injEq, Option.some.injEq, Addr.mk.injEq] at hv
          obtain ⟨⟨rfl, rfl, _⟩, _, _⟩ := hv
          obtain ⟨x, hx⟩ : ∃ x, L[j]? = some x := ⟨_, List.getElem?_eq_getElem (by omega)⟩
          have e0 := hc j x hx 0 _ rfl
          have e1 := hc j x hx 1 _ rfl
          rw [Nat.zero_add] at e0 e1
          rw [hpl, hpn, List.getD_eq_getElem?_getD, hx]
          exact ⟨e0, e1⟩
      exact ⟨hw, by rw [World.cell?_of_block (hw.block P zP (by simp; omega))]; exact c0, by rw [World.cell?_of_block (hw.block P zP (by simp; omega))]; exact c1, fun j hj => (hc j hj).1, fun j hj => (hc j hj).2⟩
    clear hpl hpn
    have HC : Hid (w4.cell? ⟨w.heap.size, 0, none⟩ = some (.int .i64 0)) := a0
    go_upto_region 5 with fail
    go_cut [7, 8] (fun s7 s8 wx => ∃ C u hb pp, s7 = .pointer (some ⟨C, 0, none⟩) ∧ s8 = .bool hb ∧ BoxG w4 wx (w.heap.size + 1 + 1) C 4 u (useL 4 L pp))
    case first =>
      have hRD0 : Hid (RdAt w4.drew (w.heap.size + 1 + 1) a m cap zs (q + 1)) := HRD4.out
      have hRD1 : Hid (RdAt (w4.alloc (.cells #[.int .i64 0, .slice none 0 0] 25)).drew (w.heap.size + 1 + 1) a m cap zs (q + 1)) := HRD4.out.alloc _
      clear a0 a1 b0 b1 af bf HC
      go_region_held3 (fun w' => w4.grownBy w' (some (w.heap.size + 1 + 1)) ∧ w'.cell? ⟨P, 0, none⟩ = some (.int .i64 4) ∧ w'.cell? ⟨P, 1, none⟩ = some (.slice (some ⟨g, 0, none⟩) n uc) ∧ (∀ j : Nat, j < n → w'.cell? ⟨g, j * 2, none⟩ = some (.int .i64 (pl j))) ∧ (∀ j : Nat, j < n → w'.cell? ⟨g, j * 2 + 1, none⟩ = some (.int .i64 (pn j))))
        (first | with_reducible exact hS.out _ (gr_dr _ _) | (with_reducible exact hS.out _ (grownBy_trans (And.left (by assumption)) gk5)) | (with_reducible exact hS.out _ (grownBy_below (And.left (by assumption)) tj6)) | (with_reducible exact hS.out _ (grownBy_trans (And.left (by assumption)) (World.grownBy_alloc _ _ _))) | exact hS.out _ (grownBy_trans hs6.out (World.grownBy_alloc _ _ _)) | exact hS.out _ (grownBy_setNew (grownBy_setNew hs6.out (Nat.le_refl _) _) (Nat.le_refl _) _) | exact hS.out _ (grownBy_setNew (p := ⟨w5.heap.size, 1, none⟩) (grownBy_setNew (p := ⟨w5.heap.size, 0, none⟩) hs6.out gk5.size _) gk5.size _))
        (first
          | (go_at_call 13; refine (pickN (w.heap.size + 1 + 1) m cap a zs (q + 1) n _ (by first | with_reducible exact hRD0.out | with_reducible exact hRD1.out) (by omega) (by omega) (by omega)).mono ?_; rintro e w5 ⟨j, rfl, hjn, hr5, gk5⟩; have hj0 : (0 : Int) ≤ (j : Int) := (by omega); have hj1 : (j : Int) < (n : Int) := (by omega))
          | (go_at_call 14; refine (l5Use 4 (.slice (some ⟨g, 0, none⟩) n uc) L (pl j) (pn j) _ (HROW.out _ (And.left (by assumption))) (by omega) HND.out (by omega) (by omega)).mono ?_; rintro e w6 ⟨u, rfl, ou6, tj6⟩; have hs6 : Hid (w4.grownBy w6 (some (w.heap.size + 1 + 1))) := grownBy_below (And.left (by assumption)) tj6; obtain ⟨ra, rb, rfl⟩ := ou6.form; first | (have hbx : w6.heap[w4.heap.size]? = some (.cells #[.int .i64 0, .slice none 0 0] 25 (0, 0)) := (by rw [tj6.block _ (Nat.lt_of_lt_of_le (by simp) gk5.size), gk5.block _ (by simp) (by simp; omega)]; exact new_block _ _); have qb0 : w6.cell? ⟨w4.heap.size, 0, none⟩ = some (.int .i64 0) := (by rw [cell_block hbx]; rfl); have qb1 : w6.cell? ⟨w4.heap.size, 1, none⟩ = some (.slice none 0 0) := (by rw [cell_block hbx]; rfl); have qb2 : ∀ o, w6.frozen? ⟨w4.heap.size, o, none⟩ = false := (fun o => free_block hbx); have qb3 : w4.heap.size < w6.heap.size := lt_of_block hbx) | (have hbx : w6.heap[w5.heap.size]? = some (.cells #[.int .i64 0, .slice none 0 0] 25 (0, 0)) := (by rw [tj6.block _ (by simp)]; exact new_block _ _); have qb0 : w6.cell? ⟨w5.heap.size, 0, none⟩ = some (.int .i64 0) := (by rw [cell_block hbx]; rfl); have qb1 : w6.cell? ⟨w5.heap.size, 1, none⟩ = some (.slice none 0 0) := (by rw [cell_block hbx]; rfl); have qb2 : ∀ o, w6.frozen? ⟨w5.heap.size, o, none⟩ = false := (fun o => free_block hbx); have qb3 : w5.heap.size < w6.heap.size := lt_of_block hbx) | skip))
      all_goals (
        go_wp2_with fail
        go_meet
        first
          | exact ⟨_, _, _, _, rfl, rfl, boxg_last hs6.out ou6 (by have h0 := tj6.size; have h1 := gk5.size; (try simp at h0 h1); omega)⟩
          | exact ⟨_, _, _, _, rfl, rfl, boxg_set hs6.out ou6 (Nat.le_refl _) (by have h1 := gk5.size; (try simp at h1); omega) hbx⟩
          | exact ⟨_, _, _, _, rfl, rfl, boxg_set (C := w5.heap.size) hs6.out ou6 gk5.size (by simp) hbx⟩)
    case rest =>
      obtain ⟨C, u, hb, pp, rfl, rfl, hbx⟩ := hcut
      obtain ⟨hg, hC0, hblk, og, hne⟩ := hbx
      generalize wc = w7 at *
      have hkl : (useL 4 L pp).length ≤ 4 := useL_len _ _ _
      have hlt := hg.size
      have HF : Hid (OwnPool w7 w2.heap.size (.slice (some ⟨g, 0, none⟩) n uc) L ∧ OwnPool w7 w4.heap.size u (useL 4 L pp) ∧ Below w.heap.size w w7) := ⟨own_grD HT4.out.2.2.2.1 hg (fun k h1 h2 => by have := (HT4.out.2.2.2.1.lt k h1).1; cases h2; omega), og, HT4.out.2.2.2.2.trans (below_of_grown hg (by omega) |>.mono (by omega))⟩
      have d0 : w7.cell? ⟨P, 0, none⟩ = some (.int .i64 4) := by rw [World.cell?_of_block (hg.block P zP (by simp; omega))]; exact c0
      have d1 : w7.cell? ⟨P, 1, none⟩ = some (.slice (some ⟨g, 0, none⟩) n uc) := by rw [World.cell?_of_block (hg.block P zP (by simp; omega))]; exact c1
      have e0 : w7.cell? ⟨w.heap.size, 0, none⟩ = some (.int .i64 0) := by rw [World.cell?_of_block (hg.block _ zA (by simp; omega))]; exact a0
      have e1 : w7.cell? ⟨w.heap.size, 1, none⟩ = some (.slice none 0 0) := by rw [World.cell?_of_block (hg.block _ zA (by simp; omega))]; exact a1
      have e2 : ∀ i, w7.frozen? ⟨w.heap.size, i, none⟩ = false := fun i => by rw [World.frozen?_of_block (hg.block _ zA (by simp; omega))]; exact af i
      have f0 : w7.cell? ⟨w.heap.size + 1, 0, none⟩ = some (.int .i64 0) := by rw [World.cell?_of_block (hg.block _ zB (by simp))]; exact b0
      have f1 : w7.cell? ⟨w.heap.size + 1, 1, none⟩ = some (.slice none 0 0) := by rw [World.cell?_of_block (hg.block _ zB (by simp))]; exact b1
      have f2 : ∀ i, w7.frozen? ⟨w.heap.size + 1, i, none⟩ = false := fun i => by rw [World.frozen?_of_block (hg.block _ zB (by simp))]; exact bf i
      have x0' : w7.cell? ⟨C, 0, none⟩ = some (.int .i64 4) := by rw [cell_block hblk]; rfl
      have x1' : w7.cell? ⟨C, 1, none⟩ = some u := by rw [cell_block hblk]; rfl
      have y0 : P < w7.heap.size := by omega
      have y1 : w.heap.size < w7.heap.size := by omega
      have y2 : w.heap.size + 1 < w7.heap.size := by omega
      have y3 : C < w7.heap.size := lt_of_block hblk
      have HNE : Hid (∀ k, u.ownBlock = some k → k ≠ C) := hne
      have n1 : w.heap.size < C := by omega
      have n2 : w.heap.size + 1 < C := by omega
      obtain ⟨x5, y5, rfl⟩ := own_form og
      clear c0 c1 a0 a1 b0 b1 af bf zP zA zB hg og hne hblk HC HRD4
      go_wp2_with fail
      go_region
      all_goals (
        go_wp2_with fail
        refine bodyPost_ret (v := .tuple #[.agg #[.int .i64 4, .slice (some ⟨g, 0, none⟩) n uc], .agg #[.int .i64 4, .slice x5 (useL 4 L pp).length y5]]) (by simp [*, results, Tryd.results4, go_sem]) rfl ?_
        obtain ⟨r1, r2, r3⟩ := HF.out
        have q1 : ∀ p : Addr, p.block = w.heap.size ∨ p.block = w.heap.size + 1 → (Value.slice (some ⟨g, 0, none⟩) n uc).ownBlock ≠ some p.block := fun p hp e => by have := (r1.lt _ e).1; omega
        have q2 : ∀ p : Addr, p.block = w.heap.size ∨ p.block = w.heap.size + 1 → (Value.slice x5 (useL 4 L pp).length y5).ownBlock ≠ some p.block := fun p hp e => by have := (r2.lt _ e).1; omega
        refine ⟨4, 4, _, _, L, useL 4 L pp, rfl, ?_, ?_, by omega, by omega, ?_⟩
        · exact own_mono (own_set (own_set (own_set (own_set r1 (q1 _ (.inl rfl)) _) (q1 _ (.inl rfl)) _) (q1 _ (.inr rfl)) _) (q1 _ (.inr rfl)) _) (by omega)
        · exact own_mono (own_set (own_set (own_set (own_set r2 (q2 _ (.inl rfl)) _) (q2 _ (.inl rfl)) _) (q2 _ (.inr rfl)) _) (q2 _ (.inr rfl)) _) (by omega)
        · exact (Below.setCell (p := ⟨w.heap.size + 1, 1, none⟩) (Below.setCell (p := ⟨w.heap.size + 1, 0, none⟩) (Below.setCell (p := ⟨w.heap.size, 1, none⟩) (Below.setCell (p := ⟨w.heap.size, 0, none⟩) r3 (Nat.le_refl _) _) (Nat.le_refl _) _) (Nat.le_succ _) _) (Nat.le_succ _) _).drew)
end Go.Proofs.YtcifjildjiakgaaDoor.Lab

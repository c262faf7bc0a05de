/-
  Uses of pages one behind the other, the specification's side: l5All, PoolAll.
-/
import Derived.Test.YtcifjildjiakgaaDoorSeu
import Derived.Test.YtcifjildjiakgaaDoorApl
import Derived.Test.YtcifjildjiakgaaDoorApp
namespace Go.Proofs.YtcifjildjiakgaaDoor.Lab
open Go.RowKit Go.ChangeMaps
set_option linter.unusedVariables false
/-- A row that stays as it is, whatever becomes of the block B and the one behind it. -/
def UAt (B : Nat) (w : World) (v : Value) (xs : List (Int × Int)) : Prop :=
  ∀ W : World, w.heap.size ≤ W.heap.size → (∀ k, k < w.heap.size → k ≠ B → k ≠ B + 1 → W.heap[k]? = w.heap[k]?) → RowAt 2 encPage W v xs
theorem UAt.row {B : Nat} {w : World} {v : Value} {xs : List (Int × Int)} (h : UAt B w v xs) : RowAt 2 encPage w v xs := h w (Nat.le_refl _) (fun _ _ _ _ => rfl)
theorem UAt.to {B : Nat} {w W : World} {v : Value} {xs : List (Int × Int)} (h : UAt B w v xs) (hs : w.heap.size ≤ W.heap.size) (hk : ∀ k, k < w.heap.size → k ≠ B → k ≠ B + 1 → W.heap[k]? = w.heap[k]?) : UAt B W v xs :=
  fun W' hs' hk' => h W' (by omega) (fun k h1 h2 h3 => (hk' k (by omega) h2 h3).trans (hk k h1 h2 h3))
theorem UAt.keep {B : Nat} {w W : World} {v : Value} {xs : List (Int × Int)} (h : UAt B w v xs) (hb : Below w.heap.size w W) : UAt B W v xs := h.to hb.size (fun k h1 _ _ => hb.block k h1)
theorem UAt.ofRow {w W : World} {v : Value} {xs : List (Int × Int)} (h : RowAt 2 encPage w v xs) (hb : Below w.heap.size w W) : UAt w.heap.size W v xs := fun W' hs hk => by
  rcases h with h | ⟨h0, b, off, cap, hv, hlt, hc⟩
  · exact .inl h
  · refine .inr ⟨h0, b, off, cap, hv, by have := hb.size; omega, fun j x hx i u hu => ?_⟩
    rw [← hc j x hx i u hu]
    have h1 : W'.heap[b]? = w.heap[b]? := (hk b (by have := hb.size; omega) (by omega) (by omega)).trans (hb.block b hlt)
    simp [World.cell?, h1]
theorem UAt.ofOwn {B b : Nat} {w : World} {u : Value} {xs : List (Int × Int)} (h : OwnPool w b u xs) (hB : B + 1 < b) : UAt B w u xs := fun W' hs hk => by
  have h2 : OwnPool W' b u xs := by
    obtain ⟨h1, h0 | ⟨g, cap, cur, hv, hb, hg, hr⟩⟩ := h
    · exact ⟨h1, .inl h0⟩
    · refine ⟨h1, .inr ⟨g, cap, cur, hv, hb, ?_, hr⟩⟩
      rw [hk g (by rcases Nat.lt_or_ge g w.heap.size with h | h; exact h; rw [Array.getElem?_eq_none h] at hg; cases hg) (by omega) (by omega)]
      exact hg
  exact h2.row
/-- All blocks but C are as they were. -/
structure Offs (C : Nat) (w W : World) : Prop where
  one : w.heap.size ≤ W.heap.size
  two : ∀ k, k < w.heap.size → k ≠ C → W.heap[k]? = w.heap[k]?
theorem Offs.refl (C : Nat) (w : World) : Offs C w w := ⟨Nat.le_refl _, fun _ _ _ => rfl⟩
theorem Offs.size {C : Nat} {w W : World} (h : Offs C w W) : w.heap.size ≤ W.heap.size := h.1
theorem Offs.drew {C : Nat} {w W : World} (h : Offs C w W) : Offs C w W.drew := ⟨h.1, h.2⟩
theorem Offs.ofBelow {C : Nat} {w W : World} (h : Below w.heap.size w W) : Offs C w W := ⟨h.size, fun k hk _ => h.block k hk⟩
theorem Offs.alloc {C : Nat} {w W : World} (h : Offs C w W) (o : Obj) : Offs C w (W.alloc o) := ⟨by simp; have := h.1; omega, fun k hk hc => by rw [heap_alloc_old _ _ (by have := h.1; omega)]; exact h.2 k hk hc⟩
theorem Offs.set {C i : Nat} {w W : World} (h : Offs C w W) (u : Value) : Offs C w (W.setCell ⟨C, i, none⟩ u) := ⟨by simpa using h.1, fun k hk hc => by rw [Below.heap_setCell _ _ _ _ hc]; exact h.2 k hk hc⟩
theorem Offs.cell {C b o : Nat} {w W : World} (h : Offs C w W) (hb : b < w.heap.size) (hc : b ≠ C) : W.cell? ⟨b, o, none⟩ = w.cell? ⟨b, o, none⟩ := by
  simp [World.cell?, h.2 b hb hc]
theorem own_emptyP {w : World} {base e size B : Nat} (h : w.heap[B]? = some (.cells #[] e (0, 0))) (hb : base ≤ B) : w.ownsRow base e size (.slice (some ⟨B, 0, none⟩) 0 0) 0 [] := ⟨by simp, .inr ⟨B, 0, #[], rfl, hb, h, Nat.le_refl _, by unfold maxLen; omega, by simp, by simp⟩⟩
theorem encPage_one (x : Int × Int) : ∀ u ∈ encPage x, u.oneCell' = true := fun u hu => by
  simp [encPage] at hu
  rcases hu with rfl | rfl <;> rfl
/-- How p stands in the round of l5All. -/
def PBox (w wr : World) (zn : Nat) (u : Value) (L : List (Int × Int)) : Prop :=
  wr.heap[w.heap.size]? = some (.cells #[.int .i64 zn, u] 25 (0, 0)) ∧ wr.heap[w.heap.size + 1]? = some (.cells #[.int .i64 0, .slice none 0 0] 25 (0, 0)) ∧ UAt w.heap.size wr u L ∧ Below w.heap.size w wr ∧ w.heap.size + 2 ≤ wr.heap.size
theorem PBox.next {w wr w3 : World} {zn : Nat} {u u' : Value} {L L' : List (Int × Int)} (h : PBox w wr zn u L) (hb : Below wr.heap.size wr w3) (ho : OwnPool w3 wr.heap.size u' L') :
    PBox w ((w3.setCell ⟨w.heap.size, 0, none⟩ (.int .i64 zn)).setCell ⟨w.heap.size, 1, none⟩ u') zn u' L' := by
  obtain ⟨h1, h2, h3, h4, h5⟩ := h
  have hs := hb.size
  have k1 : w3.heap[w.heap.size]? = some (.cells #[.int .i64 zn, u] 25 (0, 0)) := by rw [hb.block _ (by omega)]; exact h1
  have k2 : w3.heap[w.heap.size + 1]? = some (.cells #[.int .i64 0, .slice none 0 0] 25 (0, 0)) := by rw [hb.block _ (by omega)]; exact h2
  refine ⟨?_, ?_, ?_, ((h4.trans (hb.mono (by omega))).setCell (by simp) _).setCell (by simp) _, by simp; omega⟩
  · rw [set_block _ (set_block _ k1)]; rfl
  · rw [Below.heap_setCell _ _ _ _ (by simp), Below.heap_setCell _ _ _ _ (by simp)]; exact k2
  · refine (UAt.ofOwn ho (by omega)).to (by simp) (fun k _ hk _ => ?_)
    rw [Below.heap_setCell _ _ _ _ hk, Below.heap_setCell _ _ _ _ hk]
theorem l5UseH (zn : Nat) (v : Value) (xs : List (Int × Int)) (x0 x1 : Int) (hit : Bool) (hh : decide ((x0, x1) ∈ xs) = hit) (w : World) (h : RowAt 2 encPage w v xs) (hn : xs.length ≤ 1000) (hnd : xs.Nodup) (hz2 : zn ≤ 1000) :
    Calls Tryd.prog 14 #[.agg #[.int .i64 zn, v], .agg #[.int .i64 x0, .int .i64 x1]] w fun e w' => ∃ u, e = .returned (.tuple #[.agg #[.int .i64 zn, u], .bool hit]) ∧ OwnPool w' w.heap.size u (useL zn xs (x0, x1)) ∧ Below w.heap.size w w' := by
  have := l5Use (zn : Int) v xs x0 x1 w h hn hnd (by omega) (by omega)
  rw [hh] at this
  exact this
set_option maxHeartbeats 4000000 in
theorem l5All_walk (zn : Nat) (a a2 : Option Addr) (n n2 cap cap2 : Nat) (xs ls : List (Int × Int)) (w : World) (HR : Hid (RowAt 2 encPage w (.slice a n cap) xs ∧ RowAt 2 encPage w (.slice a2 n2 cap2) ls)) (HN : Hid (n = xs.length ∧ n2 = ls.length ∧ xs.Nodup ∧ xs.length ≤ zn)) (hn : n2 ≤ 1048576) (hz2 : zn ≤ 1000) :
    Calls Tryd.prog 11 #[.agg #[.int .i64 zn, .slice a n cap], .slice a2 n2 cap2] w fun e w' => ∃ u, e = .returned (.tuple #[.agg #[.int .i64 zn, u], .int .i64 (allU zn xs ls).2]) ∧ OwnPool w' w.heap.size u (allU zn xs ls).1 ∧ Below w.heap.size w w' := by
  obtain ⟨W0, hW0⟩ : ∃ W0, W0 = ((w.alloc (.cells #[.int .i64 zn, .slice a n cap] 25)).alloc (.cells #[.int .i64 0, .slice none 0 0] 25)) := ⟨_, rfl⟩
  have b0 : Below w.heap.size w W0 := by rw [hW0]; go_grown
  have s0 : W0.heap.size = w.heap.size + 2 := by rw [hW0]; simp
  have hp : W0.heap[w.heap.size]? = some (.cells #[.int .i64 zn, .slice a n cap] 25 (0, 0)) := by rw [hW0, heap_alloc_old _ _ (by simp)]; exact new_ats (by simp)
  have hur : W0.heap[w.heap.size + 1]? = some (.cells #[.int .i64 0, .slice none 0 0] 25 (0, 0)) := by rw [hW0]; exact new_ats (by simp)
  have HU0 : Hid (UAt w.heap.size W0 (.slice a n cap) xs) := UAt.ofRow HR.out.1 b0
  have HB0 : Hid (Below w.heap.size w W0) := b0
  go_enter Tryd.func11, Tryd.ntmps11
  go_wp2_with fail
  simp only [← hW0]
  clear hW0 b0
  go_loopw [6, 7] (fun m i wr => ∃ j : Nat, j ≤ n2 ∧ i = .int .i64 j ∧ m = .int .i64 ((allU zn xs (ls.take j)).2 : Nat) ∧ ∃ u, PBox w wr zn u (allU zn xs (ls.take j)).1) (fun _ i _ => n2 - (intOf i).toNat)
  case atStart => exact ⟨0, by omega, rfl, rfl, _, hp, hur, HU0.out, HB0.out, by omega⟩
  case round =>
    clear hp hur s0 HU0 HB0
    obtain ⟨j, hj, rfl, rfl, u, hpb⟩ := hrel
    obtain ⟨hp, hur, hU, hbel, hsz⟩ := hpb
    have HPB : Hid (PBox w wr zn u (allU zn xs (ls.take j)).1) := ⟨hp, hur, hU, hbel, hsz⟩
    have HU : Hid (UAt w.heap.size wr u (allU zn xs (ls.take j)).1) := hU
    obtain ⟨ua, uc, hu⟩ := hU.row.len
    have hmiss := allU_miss zn xs (ls.take j)
    obtain ⟨st, hst⟩ : ∃ st, st = allU zn xs (ls.take j) := ⟨_, rfl⟩
    have HST : Hid (st = allU zn xs (ls.take j)) := hst
    rw [← hst] at hU HU hu hmiss HPB
    rw [← hst]
    clear hst
    obtain ⟨L, M⟩ := st
    dsimp only at hU HU hu hmiss HPB ⊢
    obtain ⟨k, hk⟩ : ∃ k, k = L.length := ⟨_, rfl⟩
    rw [← hk] at hu
    subst hu
    have HK : Hid (k = L.length) := hk
    clear hk hU
    have hM : M ≤ 1048576 := by have := List.length_take_le j ls; omega
    clear hmiss
    by_cases hlt : j < n2
    · rcases HR.out.2 with ⟨hz00, _⟩ | ⟨_, b, off, cap', hv, hb, hc⟩
      · have := HN.out.2.1; rw [hz00] at this; simp at this; omega
      simp only [Value.slice.injEq] at hv
      obtain ⟨rfl, -, hcc⟩ := hv
      subst hcc
      obtain ⟨⟨m0, m1⟩, hx⟩ : ∃ x, ls[j]? = some x := ⟨_, List.getElem?_eq_getElem (by rw [← HN.out.2.1]; exact hlt)⟩
      have e0 : wr.cell? ⟨b, off + j * 2, none⟩ = some (.int .i64 m0) := by rw [Below.celz hbel _ _ _ hb]; exact hc j _ hx 0 _ rfl
      have e1 : wr.cell? ⟨b, off + j * 2 + 1, none⟩ = some (.int .i64 m1) := by rw [Below.celz hbel _ _ _ hb]; exact hc j _ hx 1 _ rfl
      have g0 : wr.cell? ⟨w.heap.size, 0, none⟩ = some (.int .i64 zn) := by rw [cell_block hp]; rfl
      have g1 : wr.cell? ⟨w.heap.size, 1, none⟩ = some (.slice ua k uc) := by rw [cell_block hp]; rfl
      have gf : ∀ i, wr.frozen? ⟨w.heap.size, i, none⟩ = false := fun i => free_block hp
      have z1 : b < wr.heap.size := by omega
      have z2 : w.heap.size < wr.heap.size := by omega
      have j0 : (0 : Int) ≤ (j : Int) := by omega
      have j1 : (j : Int) < (n2 : Int) := by omega
      have HX : Hid (ls[j]? = some (m0, m1)) := hx
      have HB : Hid (Below w.heap.size w wr) := hbel
      clear hx hbel hc hp hur
      have HL : Hid (L.length ≤ 1000 ∧ L.Nodup) := by
        have h1 := allU_len (n := zn) (xs := xs) HN.out.2.2.2 (ls.take j)
        have h2 := allU_nodup (n := zn) (xs := xs) HN.out.2.2.1 (ls.take j)
        rw [← HST.out] at h1 h2
        exact ⟨by dsimp only at h1; omega, h2⟩
      have HT : Hid (allU zn xs (ls.take (j + 1)) = (useL zn L (m0, m1), if (m0, m1) ∈ L then M else M + 1)) := by
        show _ = _
        rw [allU_take HX.out, ← HST.out]
        rfl
      cases hh : decide ((m0, m1) ∈ L)
      all_goals (
        have HH : Hid (decide ((m0, m1) ∈ L) = _) := hh
        clear hh
        go_wp2_with fail
        go_region_with (first
          | (go_at_call 14; refine (l5UseH zn (.slice ua k uc) L m0 m1 _ HH.out wr.drew (HU.out.keep ((Below.refl _ _).drew)).row HL.out.1 HL.out.2 hz2).mono ?_; rintro e w3 ⟨u, rfl, ou, bel3'⟩; have bel3 : Below wr.heap.size wr w3 := (((Below.refl _ wr).drew).trans bel3'); clear bel3'; obtain ⟨va, vc, rfl⟩ := ou.form; have q0 : w3.cell? ⟨w.heap.size, 0, none⟩ = some (.int .i64 zn) := (Below.celz bel3 _ _ _ z2).trans g0; have q1 : w3.cell? ⟨w.heap.size, 1, none⟩ = some (.slice ua k uc) := (Below.celz bel3 _ _ _ z2).trans g1; have qf : ∀ i, w3.frozen? ⟨w.heap.size, i, none⟩ = false := (fun i => (Below.froz bel3 _ _ _ z2).trans (gf i))))
        all_goals (
          have HR3 : Hid (PBox w ((w3.setCell ⟨w.heap.size, 0, none⟩ (.int .i64 zn)).setCell ⟨w.heap.size, 1, none⟩ (.slice va (useL zn L (m0, m1)).length vc)) zn (.slice va (useL zn L (m0, m1)).length vc) (useL zn L (m0, m1))) := HPB.out.next bel3 ou
          have hsz3 : w.heap.size + 2 ≤ w3.heap.size := by have := bel3.size; omega
          clear ou bel3 q0 q1 qf g0 g1 gf e0 e1
          go_wp2_with fail
          go_roundw
          case rel =>
            refine ⟨j + 1, by omega, by go_num, ?_, .slice va (useL zn L (m0, m1)).length vc, ?_⟩
            · rw [HT.out]
              first
                | (rw [if_pos (of_decide_eq_true HH.out)])
                | (rw [if_neg (of_decide_eq_false HH.out)]; go_num)
            · rw [HT.out]
              exact HR3.out
          case measure => simp [intOf]; omega))
    · have hkn : n2 = j := by omega
      subst hkn
      have hfull : allU zn xs (ls.take n2) = allU zn xs ls := by rw [HN.out.2.1, List.take_length]
      have HF : Hid ((L, M) = allU zn xs ls) := HST.out.trans hfull
      have hLk : k ≤ 1000 := by
        have h1 := allU_len (n := zn) (xs := xs) HN.out.2.2.2 ls
        rw [← HF.out] at h1
        have := HK.out
        dsimp only at h1
        omega
      have Lk : L.length = k := HK.out.symm
      have g0 : wr.cell? ⟨w.heap.size, 0, none⟩ = some (.int .i64 zn) := by rw [cell_block hp]; rfl
      have g1 : wr.cell? ⟨w.heap.size, 1, none⟩ = some (.slice ua k uc) := by rw [cell_block hp]; rfl
      have Q0 : wr.cell? ⟨w.heap.size + 1, 0, none⟩ = some (.int .i64 0) := by rw [cell_block hur]; rfl
      have Q1 : wr.cell? ⟨w.heap.size + 1, 1, none⟩ = some (.slice none 0 0) := by rw [cell_block hur]; rfl
      have QF : ∀ i, wr.frozen? ⟨w.heap.size + 1, i, none⟩ = false := fun i => free_block hur
      have z2 : w.heap.size + 1 < wr.heap.size := by omega
      have HB : Hid (Below w.heap.size w wr) := hbel
      have HRW : Hid (∀ W, Offs (w.heap.size + 1) wr W → RowAt 2 encPage W (.slice ua k uc) L) := fun W h => HU.out W h.1 (fun k hk _ hc => h.2 k hk hc)
      have hS : Hid (∀ w', Offs (w.heap.size + 1) wr w' → Offs (w.heap.size + 1) wr w' ∧ w'.cell? ⟨w.heap.size, 0, none⟩ = some (.int .i64 zn) ∧ w'.cell? ⟨w.heap.size, 1, none⟩ = some (.slice ua k uc)) := fun w' hn => ⟨hn, (hn.cell (by omega) (by omega)).trans g0, (hn.cell (by omega) (by omega)).trans g1⟩
      obtain ⟨i0, hi, hz0, hz1, hzz2⟩ := info_parts Tryd.infoPage
      clear hp hur hbel hfull
      go_wp2_with fail
      go_region_held3 (fun w' => Offs (w.heap.size + 1) wr w' ∧ w'.cell? ⟨w.heap.size, 0, none⟩ = some (.int .i64 zn) ∧ w'.cell? ⟨w.heap.size, 1, none⟩ = some (.slice ua k uc))
        (first | with_reducible exact hS.out _ (Offs.refl _ _).drew | with_reducible exact hS.out _ (Offs.alloc (And.left (by assumption)) _) | with_reducible exact hS.out _ (Offs.ofBelow B3) | exact hS.out _ (Offs.set (Offs.set (Offs.ofBelow B3) _) _))
        (first
          | (refine step_appRow encPage_len (by decide) encPage_one (by rfl) _ _ _ (by rfl) Tryd.underlying23 hi hz0 hz1 hzz2 rfl wr.heap.size _ 0 [] (.slice ua k uc) L (by rfl) (by rfl) (own_emptyP (B := wr.heap.size) (heap_alloc_new wr _) (Nat.le_refl _)) (HRW.out _ (And.left (by assumption))) (by unfold maxLen; omega) (by omega) (Offs.size (And.left (by assumption))) ?_; intro v3 w3 ho3 hg3 ha3; have B3 : Below wr.heap.size wr w3 := (((Below.refl _ _).alloc (Nat.le_refl _) _).drew).grown hg3 (by simp) (fun k hk => by simp [Value.ownBlock] at hk; omega); obtain ⟨x3, y3, rfl⟩ := own_form ho3; have q0 : w3.cell? ⟨w.heap.size + 1, 0, none⟩ = some (.int .i64 0) := (Below.celz B3 _ _ _ z2).trans Q0; have q1 : w3.cell? ⟨w.heap.size + 1, 1, none⟩ = some (.slice none 0 0) := (Below.celz B3 _ _ _ z2).trans Q1; have qf : ∀ i, w3.frozen? ⟨w.heap.size + 1, i, none⟩ = false := fun i => (Below.froz B3 _ _ _ z2).trans (QF i)))
      all_goals (
        have HZ : Hid (w3.ownsRow wr.heap.size 41 2 (.slice x3 (0 + L.length) y3) (0 + L.length) ([] ++ L.flatMap encPage)) := ho3
        have HB3 : Hid (Below wr.heap.size wr w3) := B3
        have s3 : w.heap.size + 1 < w3.heap.size := by have := B3.size; omega
        clear ho3 hg3 ha3 B3
        go_wp2_with fail
        refine bodyPost_ret (v := .tuple #[.agg #[.int .i64 zn, .slice x3 (0 + L.length) y3], .int .i64 M]) (by simp [*, results, Tryd.results11, go_sem]) rfl ?_
        rw [← HF.out]
        have hz := HZ.out
        rw [Nat.zero_add, List.nil_append] at hz
        refine ⟨_, by rw [Nat.zero_add], ?_, ((HB.out.trans (HB3.out.mono (by omega))).setCell (by simp) _).setCell (by simp) _⟩
        exact own_mono (ownsRow_setCell_below (ownsRow_setCell_below hz (by simp; omega) _) (by simp; omega) _) (by omega))
theorem l5All (zn : Nat) (v v2 : Value) (xs ls : List (Int × Int)) (w : World) (h : RowAt 2 encPage w v xs) (h2 : RowAt 2 encPage w v2 ls) (hnd : xs.Nodup) (hl : xs.length ≤ zn) (hl2 : ls.length ≤ 1048576) (hz : zn ≤ 1000) :
    Calls Tryd.prog 11 #[.agg #[.int .i64 zn, v], v2] w fun e w' => ∃ u, e = .returned (.tuple #[.agg #[.int .i64 zn, u], .int .i64 (allU zn xs ls).2]) ∧ OwnPool w' w.heap.size u (allU zn xs ls).1 ∧ Below w.heap.size w w' := by
  obtain ⟨a, cap, rfl⟩ := h.len
  obtain ⟨a2, cap2, rfl⟩ := h2.len
  exact l5All_walk zn a a2 _ _ cap cap2 xs ls w ⟨h, h2⟩ ⟨rfl, rfl, hnd, hl⟩ hl2 hz
end Go.Proofs.YtcifjildjiakgaaDoor.Lab

/-
  An edge put into its place: spec.l2PutEdge. (Written by tools/mkpue.py.)
-/
import Derived.Test.YtlnpbfeihjfnjaaGreatDoorPut
namespace Go.Proofs.YtlnpbfeihjfnjaaGreatDoor.Lab
open Go.RowKit
set_option linter.unusedVariables false
attribute [local go_sem ↓] Go.wp_at_zero Go.wp_at_succ
def insE (x : Ed) : List Ed → List Ed
  | [] => [x]
  | y :: ys => if leB y x = true then y :: insE x ys else x :: y :: ys
theorem insE_split {x : Ed} : ∀ (ns : List Ed) (k : Nat), k ≤ ns.length → (∀ j y, j < k → ns[j]? = some y → leB y x = true) → (∀ y, ns[k]? = some y → ¬ leB y x = true) → insE x ns = ns.take k ++ x :: ns.drop k
  | [], k, hk, _, _ => by simp [insE]
  | y :: ys, 0, hk, h1, h2 => by
    have := h2 y (by simp)
    simp [insE, this]
  | y :: ys, k + 1, hk, h1, h2 => by
    have h0 := h1 0 y (by omega) (by simp)
    have ih := insE_split ys k (by simpa using hk) (fun j z hj hz => h1 (j + 1) z (by omega) (by simpa using hz)) (fun z hz => h2 z (by simpa using hz))
    simp [insE, h0, ih]
theorem insE_len (x : Ed) : ∀ ys : List Ed, (insE x ys).length = ys.length + 1
  | [] => rfl
  | y :: ys => by unfold insE; split <;> simp [insE_len x ys]
theorem flat_takeE (ns : List Ed) (k : Nat) : (ns.flatMap encEdge).take (k * 5) = (ns.take k).flatMap encEdge := by
  induction ns generalizing k with
  | nil => simp
  | cons y ys ih =>
    cases k with
    | zero => simp
    | succ k =>
      have : (k + 1) * 5 = k * 5 + 1 + 1 + 1 + 1 + 1 := by omega
      rw [this]
      simp [List.flatMap_cons, encEdge, ih]
theorem row_dropE {w : World} {g n k c : Nat} {ns : List Ed} (hN : n = ns.length) (hk : k ≤ n) (hg : g < w.heap.size) (hc : ∀ j x, ns[j]? = some x → ∀ i u, (encEdge x)[i]? = some u → w.cell? ⟨g, j * 5 + i, none⟩ = some u) : RowAt 5 encEdge w (.slice (some ⟨g, k * 5, none⟩) (n - k) c) (ns.drop k) := by
  by_cases h : k = n
  · refine .inl ⟨List.drop_eq_nil_of_le (by omega), some ⟨g, k * 5, none⟩, c, by rw [h, Nat.sub_self]⟩
  · refine .inr ⟨by rw [List.length_drop]; omega, g, k * 5, c, by rw [List.length_drop, hN], hg, fun j x hx i u hu => ?_⟩
    rw [List.getElem?_drop] at hx
    have := hc (k + j) x hx i u hu
    have e : k * 5 + j * 5 + i = (k + j) * 5 + i := by omega
    rw [e]; exact this
theorem row_oneE (w : World) (l al an bl bn : Int) : RowAt 5 encEdge ((w.alloc (.cells #[.int .i64 l, .int .i64 al, .int .i64 an, .int .i64 bl, .int .i64 bn] 48)).drew) (.slice (some ⟨w.heap.size, 0, none⟩) 1 1) [(l, al, an, bl, bn)] := by
  refine .inr ⟨by simp, w.heap.size, 0, 1, rfl, by simp, fun j x hx i u hu => ?_⟩
  have hj : j = 0 := by have := (List.getElem?_eq_some_iff.1 hx).1; simp at this; omega
  subst hj
  simp at hx
  subst hx
  have hi : i < 5 := by have := (List.getElem?_eq_some_iff.1 hu).1; simpa [encEdge] using this
  have : i = 0 ∨ i = 1 ∨ i = 2 ∨ i = 3 ∨ i = 4 := by omega
  rcases this with rfl | rfl | rfl | rfl | rfl <;> (simp [encEdge] at hu; subst hu; simp [go_sem])
set_option maxRecDepth 8000 in
set_option maxHeartbeats 8000000 in
theorem l2PutEdge_some (base g n vc m c2 : Nat) (a2 : Option Addr) (ns : List Ed) (l al an bl bn : Int) (w : World) (hown : w.ownsRow base 48 5 (.slice (some ⟨g, 0, none⟩) n vc) n (ns.flatMap encEdge)) (hN : n = ns.length) (hbase : base ≤ w.heap.size) (hl : n ≤ 100000) :
    Calls Tryz.prog 111 #[.agg #[.slice a2 m c2, .slice (some ⟨g, 0, none⟩) n vc], .agg #[.int .i64 l, .int .i64 al, .int .i64 an, .int .i64 bl, .int .i64 bn]] w fun e w' => ∃ u, e = .returned (.agg #[.slice a2 m c2, u]) ∧ w'.ownsRow base 48 5 u (n + 1) ((insE (l, al, an, bl, bn) ns).flatMap encEdge) ∧ But (fun k => k = g) w w' ∧ (u.ownBlock = some g ∨ ∃ k, u.ownBlock = some k ∧ w.heap.size ≤ k) := by
  obtain ⟨iN, jN, zN0, zN1, zN2⟩ := info_parts Tryz.infoEdge
  have HOW : Hid (w.ownsRow base 48 5 (.slice (some ⟨g, 0, none⟩) n vc) n (ns.flatMap encEdge)) := hown
  have HN : Hid (n = ns.length) := hN
  have hgl : g < w.heap.size := (hown.lt g rfl).2
  have hbg : base ≤ g := (hown.lt g rfl).1
  have hnv : n ≤ vc := by
    obtain ⟨_, ⟨h2, _⟩ | ⟨g', cap, cur, hv, _, _, hn, _⟩⟩ := hown
    · cases h2
    · simp only [Value.slice.injEq] at hv; omega
  have HROW : Hid (RowAt 5 encEdge w (.slice (some ⟨g, 0, none⟩) n vc) ns) := row_of_own encEdge_len (by decide) (by rw [← hN]; exact hown)
  have HCL : Hid (∀ j x, ns[j]? = some x → ∀ i u, (encEdge x)[i]? = some u → w.cell? ⟨g, j * 5 + i, none⟩ = some u) := fun j x hx i u hu => by
    rcases HROW.out with ⟨hz, _⟩ | ⟨_, b1, o1, q1, hv1, hb1, E1⟩
    · rw [hz] at hx; simp at hx
    · simp only [Value.slice.injEq, Option.some.injEq, Addr.mk.injEq] at hv1
      obtain ⟨⟨rfl, rfl, _⟩, _⟩ := hv1
      have := E1 j x hx i u hu
      simpa using this
  clear hown hN
  obtain ⟨W0, hW0⟩ : ∃ W0, W0 = ((w.alloc (.cells #[.slice a2 m c2, .slice (some ⟨g, 0, none⟩) n vc] 26)).alloc (.cells #[.int .i64 l, .int .i64 al, .int .i64 an, .int .i64 bl, .int .i64 bn] 48)).alloc (.cells #[.slice none 0 0, .slice none 0 0] 26) := ⟨_, rfl⟩
  have b0 : Below w.heap.size w W0 := by rw [hW0]; go_grown
  have z0 : W0.heap.size = w.heap.size + 3 := by rw [hW0]; simp
  have G0 : W0.cell? ⟨w.heap.size, 1, none⟩ = some (.slice (some ⟨g, 0, none⟩) n vc) := by rw [hW0]; simp [go_sem]
  have G1 : W0.cell? ⟨w.heap.size, 0, none⟩ = some (.slice a2 m c2) := by rw [hW0]; simp [go_sem]
  have F0 : W0.cell? ⟨w.heap.size + 1, 0, none⟩ = some (.int .i64 l) := by rw [hW0]; simp [go_sem]
  have F1 : W0.cell? ⟨w.heap.size + 1, 1, none⟩ = some (.int .i64 al) := by rw [hW0]; simp [go_sem]
  have F2 : W0.cell? ⟨w.heap.size + 1, 2, none⟩ = some (.int .i64 an) := by rw [hW0]; simp [go_sem]
  have F3 : W0.cell? ⟨w.heap.size + 1, 3, none⟩ = some (.int .i64 bl) := by rw [hW0]; simp [go_sem]
  have F4 : W0.cell? ⟨w.heap.size + 1, 4, none⟩ = some (.int .i64 bn) := by rw [hW0]; simp [go_sem]
  have Q0 : W0.cell? ⟨w.heap.size + 1 + 1, 0, none⟩ = some (.slice none 0 0) := by rw [hW0]; simp [go_sem]
  have Q1 : W0.cell? ⟨w.heap.size + 1 + 1, 1, none⟩ = some (.slice none 0 0) := by rw [hW0]; simp [go_sem]
  have QF : ∀ o, W0.frozen? ⟨w.heap.size + 1 + 1, o, none⟩ = false := fun o => by rw [hW0]; simp [go_sem]
  have GF : ∀ o, W0.frozen? ⟨w.heap.size, o, none⟩ = false := fun o => by rw [hW0]; simp [go_sem]
  have HB0 : Hid (Below w.heap.size w W0) := b0
  have HW0 : Hid (W0 = ((w.alloc (.cells #[.slice a2 m c2, .slice (some ⟨g, 0, none⟩) n vc] 26)).alloc (.cells #[.int .i64 l, .int .i64 al, .int .i64 an, .int .i64 bl, .int .i64 bn] 48)).alloc (.cells #[.slice none 0 0, .slice none 0 0] 26)) := hW0
  clear b0 hW0
  go_enter Tryz.func111, Tryz.ntmps111
  go_wp2_with fail
  rw [← HW0.out]
  clear HW0
  go_loopw [5] (fun i wr => ∃ k : Nat, k ≤ n ∧ i = .int .i64 k ∧ Below W0.heap.size W0 wr ∧ ∀ j y, j < k → ns[j]? = some y → leB y (l, al, an, bl, bn) = true) (fun i _ => n - (intOf i).toNat)
  case atStart => exact ⟨0, by omega, rfl, Below.refl _ _, fun j y hj => by omega⟩
  case round =>
    obtain ⟨k, hk, rfl, hbel, hq⟩ := hrel
    have HQ : Hid (∀ j y, j < k → ns[j]? = some y → leB y (l, al, an, bl, bn) = true) := hq
    have HBB : Hid (Below W0.heap.size W0 wr) := hbel
    have hsz := hbel.size
    have g0 : wr.cell? ⟨w.heap.size, 1, none⟩ = some (.slice (some ⟨g, 0, none⟩) n vc) := (Below.celz hbel _ _ _ (by omega)).trans G0
    have f0 : wr.cell? ⟨w.heap.size + 1, 0, none⟩ = some (.int .i64 l) := (Below.celz hbel _ _ _ (by omega)).trans F0
    have f1 : wr.cell? ⟨w.heap.size + 1, 1, none⟩ = some (.int .i64 al) := (Below.celz hbel _ _ _ (by omega)).trans F1
    have f2 : wr.cell? ⟨w.heap.size + 1, 2, none⟩ = some (.int .i64 an) := (Below.celz hbel _ _ _ (by omega)).trans F2
    have f3 : wr.cell? ⟨w.heap.size + 1, 3, none⟩ = some (.int .i64 bl) := (Below.celz hbel _ _ _ (by omega)).trans F3
    have f4 : wr.cell? ⟨w.heap.size + 1, 4, none⟩ = some (.int .i64 bn) := (Below.celz hbel _ _ _ (by omega)).trans F4
    have z1 : w.heap.size < wr.heap.size := by omega
    have z2 : w.heap.size + 1 < wr.heap.size := by omega
    have z3 : g < wr.heap.size := by omega
    have k0 : (0 : Int) ≤ (k : Int) := by omega
    clear hq hbel
    by_cases hlt : k < n
    · obtain ⟨⟨m0, m1, m2, m3, m4⟩, hx⟩ : ∃ x, ns[k]? = some x := ⟨_, List.getElem?_eq_getElem (by rw [← HN.out]; exact hlt)⟩
      have e0 : wr.cell? ⟨g, k * 5, none⟩ = some (.int .i64 m0) := by rw [Below.celz HBB.out _ _ _ (by omega), Below.celz HB0.out _ _ _ hgl]; exact HCL.out k _ hx 0 _ rfl
      have e1 : wr.cell? ⟨g, k * 5 + 1, none⟩ = some (.int .i64 m1) := by rw [Below.celz HBB.out _ _ _ (by omega), Below.celz HB0.out _ _ _ hgl]; exact HCL.out k _ hx 1 _ rfl
      have e2 : wr.cell? ⟨g, k * 5 + 2, none⟩ = some (.int .i64 m2) := by rw [Below.celz HBB.out _ _ _ (by omega), Below.celz HB0.out _ _ _ hgl]; exact HCL.out k _ hx 2 _ rfl
      have e3 : wr.cell? ⟨g, k * 5 + 3, none⟩ = some (.int .i64 m3) := by rw [Below.celz HBB.out _ _ _ (by omega), Below.celz HB0.out _ _ _ hgl]; exact HCL.out k _ hx 3 _ rfl
      have e4 : wr.cell? ⟨g, k * 5 + 4, none⟩ = some (.int .i64 m4) := by rw [Below.celz HBB.out _ _ _ (by omega), Below.celz HB0.out _ _ _ hgl]; exact HCL.out k _ hx 4 _ rfl
      have HX : Hid (ns[k]? = some (m0, m1, m2, m3, m4)) := hx
      have k1 : (k : Int) < (n : Int) := by omega
      clear hx
      cases hd : lessB m0 m1 m2 m3 m4 l al an bl bn
      · have HS : Hid (insE (l, al, an, bl, bn) ns = ns.take k ++ (l, al, an, bl, bn) :: ns.drop k) := insE_split ns k (by have := HN.out; omega) HQ.out (fun y hy => by rw [HX.out] at hy; cases hy; simpa [leB] using hd)
        go_wp2_with fail
        refine wp_region_after (by kernel_rfl) (by kernel_rfl) ?_
        intro hne hac
        repeat (go_big_quiet_step (first | (go_at_call 41; exact after_at hd (l2Less m0 m1 m2 m3 m4 l al an bl bn _))))
        refine wpQuiet_nil ?_
        rintro _ ⟨p, rfl⟩
        have HBQ : Hid (Below W0.heap.size W0 p.w) := HBB.out.trans (p.bel.mono (by omega))
        clear hac hne
        generalize p.w = wq at *
        clear g0 f0 f1 f2 f3 f4 z1 z2 z3 e0 e1 e2 e3 e4
        have hsz2 : W0.heap.size ≤ wq.heap.size := HBQ.out.size
        have g0 : wq.cell? ⟨w.heap.size, 1, none⟩ = some (.slice (some ⟨g, 0, none⟩) n vc) := (Below.celz HBQ.out _ _ _ (by omega)).trans G0
        have z1 : w.heap.size < wq.heap.size := by omega
        have i1 : (k : Int) ≤ (n : Int) := by omega
        have i2 : (n : Int) ≤ (vc : Int) := by omega
        have i3 : (k : Int) ≤ (vc : Int) := by omega
        have i0 : (0 : Int) ≤ (k : Int) := by omega
        have HWQ : Hid (Below w.heap.size w wq) := HB0.out.trans (HBQ.out.mono (by omega))
        have bq : Below wq.heap.size wq (wq.alloc (.cells #[] 48)) := (Below.refl _ _).alloc (Nat.le_refl _) _
        obtain ⟨D, hD⟩ : ∃ D, D = ns.drop k := ⟨_, rfl⟩
        have HD : Hid (D = ns.drop k) := hD
        have HRK : Hid (RowAt 5 encEdge (wq.alloc (.cells #[] 48)) (.slice (some ⟨g, k * 5, none⟩) (n - k) (vc - k)) D) := by
          rw [hD]; exact (row_dropE HN.out hk (by omega) (fun j x hx i u hu => by rw [Below.celz HWQ.out _ _ _ hgl]; exact HCL.out j x hx i u hu)).keep bq
        have hdl : D.length = n - k := by rw [hD, List.length_drop, ← HN.out]
        clear hD
        go_wp2_with (at_builtin; refine wpList_appRow encEdge_len (by decide) encEdge_one rfl _ _ 24 rfl Tryz.underlying24 jN zN0 zN1 zN2 rfl wq.heap.size (.slice (some ⟨wq.heap.size, 0, none⟩) 0 0) 0 [] _ D rfl rfl (World.ownsRow_lit wq #[] 0 (Nat.le_refl _) (by unfold maxLen; omega) rfl) HRK.out (by unfold maxLen; omega) (by omega) (by simp) ?_)
        intro vt wt hownt hgt hatt
        obtain ⟨ta, tc, rfl⟩ := own_form hownt
        have bt : Below wq.heap.size wq wt := bq.grown hgt (by simp) (fun j hj => by simp [Value.ownBlock] at hj; omega)
        have HBT : Hid (Below W0.heap.size W0 wt) := HBQ.out.trans (bt.mono (by omega))
        have HWT : Hid (Below w.heap.size w wt) := HWQ.out.trans (bt.mono (by omega))
        have szt : wq.heap.size + 1 ≤ wt.heap.size := by have := hgt.size; simp at this; omega
        have HTR : Hid (RowAt 5 encEdge wt (.slice ta (n - k) tc) D) := by have h := hownt; rw [← hdl] at h ⊢; exact row_of_own encEdge_len (by decide) h
        have HTL : Hid (∀ j, (Value.slice ta (n - k) tc).ownBlock = some j → wq.heap.size ≤ j ∧ j < wt.heap.size) := fun j hj => hownt.lt j hj
        have HOT : Hid (wt.ownsRow base 48 5 (.slice (some ⟨g, 0, none⟩) k vc) k ((ns.take k).flatMap encEdge)) := by
          have h := own_take (k := k) (own_keep HOW.out HWT.out) hk
          rw [flat_takeE] at h; exact h
        have g0t : wt.cell? ⟨w.heap.size, 1, none⟩ = some (.slice (some ⟨g, 0, none⟩) n vc) := (Below.celz HBT.out _ _ _ (by omega)).trans G0
        have f0t : wt.cell? ⟨w.heap.size + 1, 0, none⟩ = some (.int .i64 l) := (Below.celz HBT.out _ _ _ (by omega)).trans F0
        have f1t : wt.cell? ⟨w.heap.size + 1, 1, none⟩ = some (.int .i64 al) := (Below.celz HBT.out _ _ _ (by omega)).trans F1
        have f2t : wt.cell? ⟨w.heap.size + 1, 2, none⟩ = some (.int .i64 an) := (Below.celz HBT.out _ _ _ (by omega)).trans F2
        have f3t : wt.cell? ⟨w.heap.size + 1, 3, none⟩ = some (.int .i64 bl) := (Below.celz HBT.out _ _ _ (by omega)).trans F3
        have f4t : wt.cell? ⟨w.heap.size + 1, 4, none⟩ = some (.int .i64 bn) := (Below.celz HBT.out _ _ _ (by omega)).trans F4
        have g0f : wt.frozen? ⟨w.heap.size, 1, none⟩ = false := by rw [Below.froz HBT.out _ _ _ (by omega)]; exact GF 1
        have hbt : base ≤ wt.heap.size := by omega
        have y1 : w.heap.size < wt.heap.size := by omega
        have y3 : g < wq.heap.size := by omega
        have y4 : w.heap.size ≠ g := by omega
        have y5 : w.heap.size + 1 + 1 < wt.heap.size := by omega
        have y6 : w.heap.size + 1 + 1 ≠ g := by omega
        have y2 : w.heap.size + 1 < wt.heap.size := by omega
        clear hownt hgt hatt bt bq HBQ HRK g0 z1 hsz2
        go_wp2_with fail
        go_region_law
          (first
            | (refine step_appRow encEdge_len (by decide) encEdge_one (by rfl) _ _ _ (by rfl) Tryz.underlying24 jN zN0 zN1 zN2 rfl base (.slice (some ⟨g, 0, none⟩) k vc) k ((ns.take k).flatMap encEdge) (.slice (some ⟨wt.heap.size, 0, none⟩) 1 1) [(l, al, an, bl, bn)] (by rfl) (by rfl) ((HOT.out.alloc _).drew) (row_oneE wt l al an bl bn) (by simp; unfold maxLen; omega) (by simp; omega) (by simp; omega) ?_; intro v1 w1 hown1 hg1 hat1; have blk1 : ∀ j, wt.heap.size ≤ w1.heap.size ∧ (j < wt.heap.size → j ≠ g → w1.heap[j]? = wt.heap[j]? ∧ v1.ownBlock ≠ some j) := putBlk1 hg1 hat1)
            | (refine step_appRow encEdge_len (by decide) encEdge_one (by rfl) _ _ _ (by rfl) Tryz.underlying24 jN zN0 zN1 zN2 rfl base v1 (k + 1) _ (.slice ta (n - k) tc) D (by rfl) (by rfl) hown1 (HTR.out.grown2 (Below.alloc (Below.refl wt.heap.size wt) (Nat.le_refl _) _).drew hg1 (fun j hj e => by have := HTL.out j hj; simp [Value.ownBlock] at e; omega)) (by unfold maxLen; omega) (by omega) (Nat.le_trans hbt (blk1 0).1) ?_; intro v2 w2 hown2 hg2 hat2; have blk2 : ∀ j, j < wt.heap.size → j ≠ g → w2.heap[j]? = wt.heap[j]? := putBlk2 blk1 hg2; obtain ⟨ya, yc, rfl⟩ := own_form hown2; have g2 : w2.cell? ⟨w.heap.size, 1, none⟩ = some (.slice (some ⟨g, 0, none⟩) n vc) := by rw [World.cell?_of_block (blk2 _ y1 y4)]; exact g0t
               have g2f : w2.frozen? ⟨w.heap.size, 1, none⟩ = false := by rw [World.frozen?_of_block (blk2 _ y1 y4)]; exact g0f))
        all_goals (
          have HV : Hid (∀ j, j < wt.heap.size → j ≠ g → (Value.slice ya (k + 1 + D.length) yc).ownBlock ≠ some j) := fun j hj hne e => by
            rcases hat2 with h5 | h5
            · exact ((blk1 j).2 hj hne).2 (by rw [← h5]; exact e)
            · rw [e] at h5; have := Option.some.inj h5; have := (blk1 0).1; omega
          have HU : Hid ((Value.slice ya (k + 1 + D.length) yc).ownBlock = some g ∨ ∃ j, (Value.slice ya (k + 1 + D.length) yc).ownBlock = some j ∧ w.heap.size ≤ j) := by
            rcases hat2 with h5 | h5
            · rcases hat1 with h6 | h6
              · exact .inl (h5.trans h6)
              · exact .inr ⟨_, h5.trans h6, by simp; omega⟩
            · exact .inr ⟨_, h5, by have := (blk1 0).1; omega⟩
          have HBU : Hid (But (fun j => j = g) w w2) := (But.of (HWT.out.trans (((Below.refl _ _).alloc (Nat.le_refl _) (.cells #[.int .i64 l, .int .i64 al, .int .i64 an, .int .i64 bl, .int .i64 bn] 48)).drew.mono (by omega))) hg1 hg2).mono (fun j hj hp => by
            rcases hp with hp | hp
            · simpa [Value.ownBlock] using hp.symm
            · by_cases hjg : j = g
              · exact hjg
              · exact absurd hp ((blk1 j).2 (by omega) hjg).2)
          have HOF : Hid (w2.ownsRow base 48 5 (.slice ya (k + 1 + D.length) yc) (n + 1) ((insE (l, al, an, bl, bn) ns).flatMap encEdge)) := by
            have e1 : (insE (l, al, an, bl, bn) ns).flatMap encEdge = ((ns.take k).flatMap encEdge ++ [(l, al, an, bl, bn)].flatMap encEdge) ++ D.flatMap encEdge := by rw [HS.out, HD.out]; simp [List.flatMap_append, encEdge]
            have e2 : n + 1 = k + 1 + D.length := by omega
            rw [e1, e2]; exact hown2
          have g3 : w2.cell? ⟨w.heap.size, 0, none⟩ = some (.slice a2 m c2) := by rw [World.cell?_of_block (blk2 _ y1 y4)]; exact (Below.celz HBT.out _ _ _ (by omega)).trans G1
          have r0 : w2.cell? ⟨w.heap.size + 1 + 1, 0, none⟩ = some (.slice none 0 0) := by rw [World.cell?_of_block (blk2 _ y5 y6)]; exact (Below.celz HBT.out _ _ _ (by omega)).trans Q0
          have r1 : w2.cell? ⟨w.heap.size + 1 + 1, 1, none⟩ = some (.slice none 0 0) := by rw [World.cell?_of_block (blk2 _ y5 y6)]; exact (Below.celz HBT.out _ _ _ (by omega)).trans Q1
          have rf : ∀ o, w2.frozen? ⟨w.heap.size + 1 + 1, o, none⟩ = false := fun o => by rw [World.frozen?_of_block (blk2 _ y5 y6)]; exact (Below.froz HBT.out _ _ _ (by omega)).trans (QF o)
          have s2 : wt.heap.size ≤ w2.heap.size := Nat.le_trans (blk1 0).1 hg2.size
          have s3 : w.heap.size < w2.heap.size := by omega
          have s4 : w.heap.size + 1 + 1 < w2.heap.size := by omega
          clear blk1 blk2 hown1 hown2 hg1 hg2 hat1 hat2 g0t f0t f1t f2t f3t f4t
          rw [hdl] at HV HU HOF
          generalize n - k = d at *
          go_wp2_with fail
          try simp only [Exit.inBlock, Exit.then]
          refine bodyPost_ret (v := .agg #[.slice a2 m c2, .slice ya (k + 1 + d) yc]) (by simp [*, results, Tryz.results111, go_sem]) rfl ?_
          refine ⟨_, rfl, own_set (own_set (own_set HOF.out (HV.out _ y1 y4) _) (HV.out _ y5 y6) _) (HV.out _ y5 y6) _, ((HBU.out.set (by simp) _).set (by simp; omega) _).set (by simp; omega) _, HU.out⟩)
      · have HS : Hid (∀ j y, j < k + 1 → ns[j]? = some y → leB y (l, al, an, bl, bn) = true) := fun j y hj hy => by
          rcases Nat.lt_succ_iff_lt_or_eq.1 hj with h | rfl
          · exact HQ.out j y h hy
          · rw [HX.out] at hy; cases hy; simpa [leB] using hd
        go_wp2_with fail
        refine wp_region_after (by kernel_rfl) (by kernel_rfl) ?_
        intro hne hac
        repeat (go_big_quiet_step (first | (go_at_call 41; exact after_at hd (l2Less m0 m1 m2 m3 m4 l al an bl bn _))))
        refine wpQuiet_nil ?_
        rintro _ ⟨p, rfl⟩
        have HBQ : Hid (Below W0.heap.size W0 p.w) := HBB.out.trans (p.bel.mono (by omega))
        clear hac hne
        generalize p.w = wq at *
        clear g0 f0 f1 f2 f3 f4 z1 z2 z3 e0 e1 e2 e3 e4
        go_wp2_with fail
        go_roundw
        case rel => exact ⟨k + 1, by omega, by go_num, HBQ.out, HS.out⟩
        case measure => simp [intOf]; omega
    · have hkn : n = k := by omega
      have HS : Hid (insE (l, al, an, bl, bn) ns = ns.take k ++ (l, al, an, bl, bn) :: ns.drop k) := insE_split ns k (by have := HN.out; omega) HQ.out (fun y hy => by have := (List.getElem?_eq_some_iff.1 hy).1; have := HN.out; omega)
      have h57 : decide ((k : Int) < (n : Int)) = false := by simp; omega
      have h58 : decide (k < n) = false := by simp; omega
      have HK2 : Hid (n ≤ k) := by show n ≤ k; omega
      clear hkn
      go_wp2_with fail
      refine wp_region_after (by kernel_rfl) (by kernel_rfl) ?_
      intro hne hac
      repeat (go_big_quiet_step (fail))
      refine wpQuiet_nil ?_
      rintro _ ⟨p, rfl⟩
      have HBQ : Hid (Below W0.heap.size W0 p.w) := HBB.out.trans (p.bel.mono (by omega))
      clear hac hne
      generalize p.w = wq at *
      clear g0 f0 f1 f2 f3 f4 z1 z2 z3 h57 h58 hlt
      by_cases hcv : vc = k
      · have hcv2 : k = vc := hcv.symm
        clear hcv
        subst hcv2
        clear hnv
        have hsz2 : W0.heap.size ≤ wq.heap.size := HBQ.out.size
        have g0 : wq.cell? ⟨w.heap.size, 1, none⟩ = some (.slice (some ⟨g, 0, none⟩) n k) := (Below.celz HBQ.out _ _ _ (by omega)).trans G0
        have z1 : w.heap.size < wq.heap.size := by omega
        have i1 : (k : Int) ≤ (n : Int) := by omega
        have i3 : (k : Int) ≤ (k : Int) := by omega
        have i0 : (0 : Int) ≤ (k : Int) := by omega
        have HWQ : Hid (Below w.heap.size w wq) := HB0.out.trans (HBQ.out.mono (by omega))
        have bq : Below wq.heap.size wq (wq.alloc (.cells #[] 48)) := (Below.refl _ _).alloc (Nat.le_refl _) _
        obtain ⟨D, hD⟩ : ∃ D, D = ns.drop k := ⟨_, rfl⟩
        have HD : Hid (D = ns.drop k) := hD
        have HRK : Hid (RowAt 5 encEdge (wq.alloc (.cells #[] 48)) (.slice (some ⟨g, 0, none⟩) (n - k) 0) D) := by
          rw [hD]; exact .inl ⟨List.drop_eq_nil_of_le (by have := HN.out; have := HK2.out; omega), _, _, by rw [Nat.sub_eq_zero_of_le HK2.out]⟩ --(row_dropE HN.out hk (by omega) (fun j x hx i u hu => by rw [Below.celz HWQ.out _ _ _ hgl]; exact HCL.out j x hx i u hu)).keep bq
        have hdl : D.length = n - k := by rw [hD, List.length_drop, ← HN.out]
        clear hD
        go_wp2_with (at_builtin; refine wpList_appRow encEdge_len (by decide) encEdge_one rfl _ _ 24 rfl Tryz.underlying24 jN zN0 zN1 zN2 rfl wq.heap.size (.slice (some ⟨wq.heap.size, 0, none⟩) 0 0) 0 [] _ D rfl rfl (World.ownsRow_lit wq #[] 0 (Nat.le_refl _) (by unfold maxLen; omega) rfl) HRK.out (by unfold maxLen; omega) (by omega) (by simp) ?_)
        intro vt wt hownt hgt hatt
        obtain ⟨ta, tc, rfl⟩ := own_form hownt
        have bt : Below wq.heap.size wq wt := bq.grown hgt (by simp) (fun j hj => by simp [Value.ownBlock] at hj; omega)
        have HBT : Hid (Below W0.heap.size W0 wt) := HBQ.out.trans (bt.mono (by omega))
        have HWT : Hid (Below w.heap.size w wt) := HWQ.out.trans (bt.mono (by omega))
        have szt : wq.heap.size + 1 ≤ wt.heap.size := by have := hgt.size; simp at this; omega
        have HTR : Hid (RowAt 5 encEdge wt (.slice ta (n - k) tc) D) := by have h := hownt; rw [← hdl] at h ⊢; exact row_of_own encEdge_len (by decide) h
        have HTL : Hid (∀ j, (Value.slice ta (n - k) tc).ownBlock = some j → wq.heap.size ≤ j ∧ j < wt.heap.size) := fun j hj => hownt.lt j hj
        have HOT : Hid (wt.ownsRow base 48 5 (.slice (some ⟨g, 0, none⟩) k k) k ((ns.take k).flatMap encEdge)) := by
          have h := own_take (k := k) (own_keep HOW.out HWT.out) hk
          rw [flat_takeE] at h; exact h
        have g0t : wt.cell? ⟨w.heap.size, 1, none⟩ = some (.slice (some ⟨g, 0, none⟩) n k) := (Below.celz HBT.out _ _ _ (by omega)).trans G0
        have f0t : wt.cell? ⟨w.heap.size + 1, 0, none⟩ = some (.int .i64 l) := (Below.celz HBT.out _ _ _ (by omega)).trans F0
        have f1t : wt.cell? ⟨w.heap.size + 1, 1, none⟩ = some (.int .i64 al) := (Below.celz HBT.out _ _ _ (by omega)).trans F1
        have f2t : wt.cell? ⟨w.heap.size + 1, 2, none⟩ = some (.int .i64 an) := (Below.celz HBT.out _ _ _ (by omega)).trans F2
        have f3t : wt.cell? ⟨w.heap.size + 1, 3, none⟩ = some (.int .i64 bl) := (Below.celz HBT.out _ _ _ (by omega)).trans F3
        have f4t : wt.cell? ⟨w.heap.size + 1, 4, none⟩ = some (.int .i64 bn) := (Below.celz HBT.out _ _ _ (by omega)).trans F4
        have g0f : wt.frozen? ⟨w.heap.size, 1, none⟩ = false := by rw [Below.froz HBT.out _ _ _ (by omega)]; exact GF 1
        have hbt : base ≤ wt.heap.size := by omega
        have y1 : w.heap.size < wt.heap.size := by omega
        have y3 : g < wq.heap.size := by omega
        have y4 : w.heap.size ≠ g := by omega
        have y5 : w.heap.size + 1 + 1 < wt.heap.size := by omega
        have y6 : w.heap.size + 1 + 1 ≠ g := by omega
        have y2 : w.heap.size + 1 < wt.heap.size := by omega
        clear hownt hgt hatt bt bq HBQ HRK g0 z1 hsz2
        go_wp2_with fail
        go_region_law
          (first
            | (refine step_appRow encEdge_len (by decide) encEdge_one (by rfl) _ _ _ (by rfl) Tryz.underlying24 jN zN0 zN1 zN2 rfl base (.slice (some ⟨g, 0, none⟩) k k) k ((ns.take k).flatMap encEdge) (.slice (some ⟨wt.heap.size, 0, none⟩) 1 1) [(l, al, an, bl, bn)] (by rfl) (by rfl) ((HOT.out.alloc _).drew) (row_oneE wt l al an bl bn) (by simp; unfold maxLen; omega) (by simp; omega) (by simp; omega) ?_; intro v1 w1 hown1 hg1 hat1; have blk1 : ∀ j, wt.heap.size ≤ w1.heap.size ∧ (j < wt.heap.size → j ≠ g → w1.heap[j]? = wt.heap[j]? ∧ v1.ownBlock ≠ some j) := putBlk1 hg1 hat1)
            | (refine step_appRow encEdge_len (by decide) encEdge_one (by rfl) _ _ _ (by rfl) Tryz.underlying24 jN zN0 zN1 zN2 rfl base v1 (k + 1) _ (.slice ta (n - k) tc) D (by rfl) (by rfl) hown1 (HTR.out.grown2 (Below.alloc (Below.refl wt.heap.size wt) (Nat.le_refl _) _).drew hg1 (fun j hj e => by have := HTL.out j hj; simp [Value.ownBlock] at e; omega)) (by unfold maxLen; omega) (by omega) (Nat.le_trans hbt (blk1 0).1) ?_; intro v2 w2 hown2 hg2 hat2; have blk2 : ∀ j, j < wt.heap.size → j ≠ g → w2.heap[j]? = wt.heap[j]? := putBlk2 blk1 hg2; obtain ⟨ya, yc, rfl⟩ := own_form hown2; have g2 : w2.cell? ⟨w.heap.size, 1, none⟩ = some (.slice (some ⟨g, 0, none⟩) n k) := by rw [World.cell?_of_block (blk2 _ y1 y4)]; exact g0t
               have g2f : w2.frozen? ⟨w.heap.size, 1, none⟩ = false := by rw [World.frozen?_of_block (blk2 _ y1 y4)]; exact g0f))
        all_goals (
          have HV : Hid (∀ j, j < wt.heap.size → j ≠ g → (Value.slice ya (k + 1 + D.length) yc).ownBlock ≠ some j) := fun j hj hne e => by
            rcases hat2 with h5 | h5
            · exact ((blk1 j).2 hj hne).2 (by rw [← h5]; exact e)
            · rw [e] at h5; have := Option.some.inj h5; have := (blk1 0).1; omega
          have HU : Hid ((Value.slice ya (k + 1 + D.length) yc).ownBlock = some g ∨ ∃ j, (Value.slice ya (k + 1 + D.length) yc).ownBlock = some j ∧ w.heap.size ≤ j) := by
            rcases hat2 with h5 | h5
            · rcases hat1 with h6 | h6
              · exact .inl (h5.trans h6)
              · exact .inr ⟨_, h5.trans h6, by simp; omega⟩
            · exact .inr ⟨_, h5, by have := (blk1 0).1; omega⟩
          have HBU : Hid (But (fun j => j = g) w w2) := (But.of (HWT.out.trans (((Below.refl _ _).alloc (Nat.le_refl _) (.cells #[.int .i64 l, .int .i64 al, .int .i64 an, .int .i64 bl, .int .i64 bn] 48)).drew.mono (by omega))) hg1 hg2).mono (fun j hj hp => by
            rcases hp with hp | hp
            · simpa [Value.ownBlock] using hp.symm
            · by_cases hjg : j = g
              · exact hjg
              · exact absurd hp ((blk1 j).2 (by omega) hjg).2)
          have HOF : Hid (w2.ownsRow base 48 5 (.slice ya (k + 1 + D.length) yc) (n + 1) ((insE (l, al, an, bl, bn) ns).flatMap encEdge)) := by
            have e1 : (insE (l, al, an, bl, bn) ns).flatMap encEdge = ((ns.take k).flatMap encEdge ++ [(l, al, an, bl, bn)].flatMap encEdge) ++ D.flatMap encEdge := by rw [HS.out, HD.out]; simp [List.flatMap_append, encEdge]
            have e2 : n + 1 = k + 1 + D.length := by omega
            rw [e1, e2]; exact hown2
          have g3 : w2.cell? ⟨w.heap.size, 0, none⟩ = some (.slice a2 m c2) := by rw [World.cell?_of_block (blk2 _ y1 y4)]; exact (Below.celz HBT.out _ _ _ (by omega)).trans G1
          have r0 : w2.cell? ⟨w.heap.size + 1 + 1, 0, none⟩ = some (.slice none 0 0) := by rw [World.cell?_of_block (blk2 _ y5 y6)]; exact (Below.celz HBT.out _ _ _ (by omega)).trans Q0
          have r1 : w2.cell? ⟨w.heap.size + 1 + 1, 1, none⟩ = some (.slice none 0 0) := by rw [World.cell?_of_block (blk2 _ y5 y6)]; exact (Below.celz HBT.out _ _ _ (by omega)).trans Q1
          have rf : ∀ o, w2.frozen? ⟨w.heap.size + 1 + 1, o, none⟩ = false := fun o => by rw [World.frozen?_of_block (blk2 _ y5 y6)]; exact (Below.froz HBT.out _ _ _ (by omega)).trans (QF o)
          have s2 : wt.heap.size ≤ w2.heap.size := Nat.le_trans (blk1 0).1 hg2.size
          have s3 : w.heap.size < w2.heap.size := by omega
          have s4 : w.heap.size + 1 + 1 < w2.heap.size := by omega
          clear blk1 blk2 hown1 hown2 hg1 hg2 hat1 hat2 g0t f0t f1t f2t f3t f4t
          rw [hdl] at HV HU HOF
          generalize n - k = d at *
          go_wp2_with fail
          try simp only [Exit.inBlock, Exit.then]
          refine bodyPost_ret (v := .agg #[.slice a2 m c2, .slice ya (k + 1 + d) yc]) (by simp [*, results, Tryz.results111, go_sem]) rfl ?_
          refine ⟨_, rfl, own_set (own_set (own_set HOF.out (HV.out _ y1 y4) _) (HV.out _ y5 y6) _) (HV.out _ y5 y6) _, ((HBU.out.set (by simp) _).set (by simp; omega) _).set (by simp; omega) _, HU.out⟩)
      · skip
        have hsz2 : W0.heap.size ≤ wq.heap.size := HBQ.out.size
        have g0 : wq.cell? ⟨w.heap.size, 1, none⟩ = some (.slice (some ⟨g, 0, none⟩) n vc) := (Below.celz HBQ.out _ _ _ (by omega)).trans G0
        have z1 : w.heap.size < wq.heap.size := by omega
        have i1 : (k : Int) ≤ (n : Int) := by omega
        have i2 : (n : Int) ≤ (vc : Int) := by omega
        have i3 : (k : Int) ≤ (vc : Int) := by omega
        have i0 : (0 : Int) ≤ (k : Int) := by omega
        have HWQ : Hid (Below w.heap.size w wq) := HB0.out.trans (HBQ.out.mono (by omega))
        have bq : Below wq.heap.size wq (wq.alloc (.cells #[] 48)) := (Below.refl _ _).alloc (Nat.le_refl _) _
        obtain ⟨D, hD⟩ : ∃ D, D = ns.drop k := ⟨_, rfl⟩
        have HD : Hid (D = ns.drop k) := hD
        have HRK : Hid (RowAt 5 encEdge (wq.alloc (.cells #[] 48)) (.slice (some ⟨g, k * 5, none⟩) (n - k) (vc - k)) D) := by
          rw [hD]; exact (row_dropE HN.out hk (by omega) (fun j x hx i u hu => by rw [Below.celz HWQ.out _ _ _ hgl]; exact HCL.out j x hx i u hu)).keep bq
        have hdl : D.length = n - k := by rw [hD, List.length_drop, ← HN.out]
        clear hD
        go_wp2_with (at_builtin; refine wpList_appRow encEdge_len (by decide) encEdge_one rfl _ _ 24 rfl Tryz.underlying24 jN zN0 zN1 zN2 rfl wq.heap.size (.slice (some ⟨wq.heap.size, 0, none⟩) 0 0) 0 [] _ D rfl rfl (World.ownsRow_lit wq #[] 0 (Nat.le_refl _) (by unfold maxLen; omega) rfl) HRK.out (by unfold maxLen; omega) (by omega) (by simp) ?_)
        intro vt wt hownt hgt hatt
        obtain ⟨ta, tc, rfl⟩ := own_form hownt
        have bt : Below wq.heap.size wq wt := bq.grown hgt (by simp) (fun j hj => by simp [Value.ownBlock] at hj; omega)
        have HBT : Hid (Below W0.heap.size W0 wt) := HBQ.out.trans (bt.mono (by omega))
        have HWT : Hid (Below w.heap.size w wt) := HWQ.out.trans (bt.mono (by omega))
        have szt : wq.heap.size + 1 ≤ wt.heap.size := by have := hgt.size; simp at this; omega
        have HTR : Hid (RowAt 5 encEdge wt (.slice ta (n - k) tc) D) := by have h := hownt; rw [← hdl] at h ⊢; exact row_of_own encEdge_len (by decide) h
        have HTL : Hid (∀ j, (Value.slice ta (n - k) tc).ownBlock = some j → wq.heap.size ≤ j ∧ j < wt.heap.size) := fun j hj => hownt.lt j hj
        have HOT : Hid (wt.ownsRow base 48 5 (.slice (some ⟨g, 0, none⟩) k vc) k ((ns.take k).flatMap encEdge)) := by
          have h := own_take (k := k) (own_keep HOW.out HWT.out) hk
          rw [flat_takeE] at h; exact h
        have g0t : wt.cell? ⟨w.heap.size, 1, none⟩ = some (.slice (some ⟨g, 0, none⟩) n vc) := (Below.celz HBT.out _ _ _ (by omega)).trans G0
        have f0t : wt.cell? ⟨w.heap.size + 1, 0, none⟩ = some (.int .i64 l) := (Below.celz HBT.out _ _ _ (by omega)).trans F0
        have f1t : wt.cell? ⟨w.heap.size + 1, 1, none⟩ = some (.int .i64 al) := (Below.celz HBT.out _ _ _ (by omega)).trans F1
        have f2t : wt.cell? ⟨w.heap.size + 1, 2, none⟩ = some (.int .i64 an) := (Below.celz HBT.out _ _ _ (by omega)).trans F2
        have f3t : wt.cell? ⟨w.heap.size + 1, 3, none⟩ = some (.int .i64 bl) := (Below.celz HBT.out _ _ _ (by omega)).trans F3
        have f4t : wt.cell? ⟨w.heap.size + 1, 4, none⟩ = some (.int .i64 bn) := (Below.celz HBT.out _ _ _ (by omega)).trans F4
        have g0f : wt.frozen? ⟨w.heap.size, 1, none⟩ = false := by rw [Below.froz HBT.out _ _ _ (by omega)]; exact GF 1
        have hbt : base ≤ wt.heap.size := by omega
        have y1 : w.heap.size < wt.heap.size := by omega
        have y3 : g < wq.heap.size := by omega
        have y4 : w.heap.size ≠ g := by omega
        have y5 : w.heap.size + 1 + 1 < wt.heap.size := by omega
        have y6 : w.heap.size + 1 + 1 ≠ g := by omega
        have y2 : w.heap.size + 1 < wt.heap.size := by omega
        clear hownt hgt hatt bt bq HBQ HRK g0 z1 hsz2
        go_wp2_with fail
        go_region_law
          (first
            | (refine step_appRow encEdge_len (by decide) encEdge_one (by rfl) _ _ _ (by rfl) Tryz.underlying24 jN zN0 zN1 zN2 rfl base (.slice (some ⟨g, 0, none⟩) k vc) k ((ns.take k).flatMap encEdge) (.slice (some ⟨wt.heap.size, 0, none⟩) 1 1) [(l, al, an, bl, bn)] (by rfl) (by rfl) ((HOT.out.alloc _).drew) (row_oneE wt l al an bl bn) (by simp; unfold maxLen; omega) (by simp; omega) (by simp; omega) ?_; intro v1 w1 hown1 hg1 hat1; have blk1 : ∀ j, wt.heap.size ≤ w1.heap.size ∧ (j < wt.heap.size → j ≠ g → w1.heap[j]? = wt.heap[j]? ∧ v1.ownBlock ≠ some j) := putBlk1 hg1 hat1)
            | (refine step_appRow encEdge_len (by decide) encEdge_one (by rfl) _ _ _ (by rfl) Tryz.underlying24 jN zN0 zN1 zN2 rfl base v1 (k + 1) _ (.slice ta (n - k) tc) D (by rfl) (by rfl) hown1 (HTR.out.grown2 (Below.alloc (Below.refl wt.heap.size wt) (Nat.le_refl _) _).drew hg1 (fun j hj e => by have := HTL.out j hj; simp [Value.ownBlock] at e; omega)) (by unfold maxLen; omega) (by omega) (Nat.le_trans hbt (blk1 0).1) ?_; intro v2 w2 hown2 hg2 hat2; have blk2 : ∀ j, j < wt.heap.size → j ≠ g → w2.heap[j]? = wt.heap[j]? := putBlk2 blk1 hg2; obtain ⟨ya, yc, rfl⟩ := own_form hown2; have g2 : w2.cell? ⟨w.heap.size, 1, none⟩ = some (.slice (some ⟨g, 0, none⟩) n vc) := by rw [World.cell?_of_block (blk2 _ y1 y4)]; exact g0t
               have g2f : w2.frozen? ⟨w.heap.size, 1, none⟩ = false := by rw [World.frozen?_of_block (blk2 _ y1 y4)]; exact g0f))
        all_goals (
          have HV : Hid (∀ j, j < wt.heap.size → j ≠ g → (Value.slice ya (k + 1 + D.length) yc).ownBlock ≠ some j) := fun j hj hne e => by
            rcases hat2 with h5 | h5
            · exact ((blk1 j).2 hj hne).2 (by rw [← h5]; exact e)
            · rw [e] at h5; have := Option.some.inj h5; have := (blk1 0).1; omega
          have HU : Hid ((Value.slice ya (k + 1 + D.length) yc).ownBlock = some g ∨ ∃ j, (Value.slice ya (k + 1 + D.length) yc).ownBlock = some j ∧ w.heap.size ≤ j) := by
            rcases hat2 with h5 | h5
            · rcases hat1 with h6 | h6
              · exact .inl (h5.trans h6)
              · exact .inr ⟨_, h5.trans h6, by simp; omega⟩
            · exact .inr ⟨_, h5, by have := (blk1 0).1; omega⟩
          have HBU : Hid (But (fun j => j = g) w w2) := (But.of (HWT.out.trans (((Below.refl _ _).alloc (Nat.le_refl _) (.cells #[.int .i64 l, .int .i64 al, .int .i64 an, .int .i64 bl, .int .i64 bn] 48)).drew.mono (by omega))) hg1 hg2).mono (fun j hj hp => by
            rcases hp with hp | hp
            · simpa [Value.ownBlock] using hp.symm
            · by_cases hjg : j = g
              · exact hjg
              · exact absurd hp ((blk1 j).2 (by omega) hjg).2)
          have HOF : Hid (w2.ownsRow base 48 5 (.slice ya (k + 1 + D.length) yc) (n + 1) ((insE (l, al, an, bl, bn) ns).flatMap encEdge)) := by
            have e1 : (insE (l, al, an, bl, bn) ns).flatMap encEdge = ((ns.take k).flatMap encEdge ++ [(l, al, an, bl, bn)].flatMap encEdge) ++ D.flatMap encEdge := by rw [HS.out, HD.out]; simp [List.flatMap_append, encEdge]
            have e2 : n + 1 = k + 1 + D.length := by omega
            rw [e1, e2]; exact hown2
          have g3 : w2.cell? ⟨w.heap.size, 0, none⟩ = some (.slice a2 m c2) := by rw [World.cell?_of_block (blk2 _ y1 y4)]; exact (Below.celz HBT.out _ _ _ (by omega)).trans G1
          have r0 : w2.cell? ⟨w.heap.size + 1 + 1, 0, none⟩ = some (.slice none 0 0) := by rw [World.cell?_of_block (blk2 _ y5 y6)]; exact (Below.celz HBT.out _ _ _ (by omega)).trans Q0
          have r1 : w2.cell? ⟨w.heap.size + 1 + 1, 1, none⟩ = some (.slice none 0 0) := by rw [World.cell?_of_block (blk2 _ y5 y6)]; exact (Below.celz HBT.out _ _ _ (by omega)).trans Q1
          have rf : ∀ o, w2.frozen? ⟨w.heap.size + 1 + 1, o, none⟩ = false := fun o => by rw [World.frozen?_of_block (blk2 _ y5 y6)]; exact (Below.froz HBT.out _ _ _ (by omega)).trans (QF o)
          have s2 : wt.heap.size ≤ w2.heap.size := Nat.le_trans (blk1 0).1 hg2.size
          have s3 : w.heap.size < w2.heap.size := by omega
          have s4 : w.heap.size + 1 + 1 < w2.heap.size := by omega
          clear blk1 blk2 hown1 hown2 hg1 hg2 hat1 hat2 g0t f0t f1t f2t f3t f4t
          rw [hdl] at HV HU HOF
          generalize n - k = d at *
          go_wp2_with fail
          try simp only [Exit.inBlock, Exit.then]
          refine bodyPost_ret (v := .agg #[.slice a2 m c2, .slice ya (k + 1 + d) yc]) (by simp [*, results, Tryz.results111, go_sem]) rfl ?_
          refine ⟨_, rfl, own_set (own_set (own_set HOF.out (HV.out _ y1 y4) _) (HV.out _ y5 y6) _) (HV.out _ y5 y6) _, ((HBU.out.set (by simp) _).set (by simp; omega) _).set (by simp; omega) _, HU.out⟩)
set_option maxRecDepth 8000 in
set_option maxHeartbeats 8000000 in
theorem l2PutEdge_nil (base m c2 : Nat) (a2 : Option Addr) (l al an bl bn : Int) (w : World) (hbase : base ≤ w.heap.size) :
    Calls Tryz.prog 111 #[.agg #[.slice a2 m c2, .slice none 0 0], .agg #[.int .i64 l, .int .i64 al, .int .i64 an, .int .i64 bl, .int .i64 bn]] w fun e w' => ∃ u, e = .returned (.agg #[.slice a2 m c2, u]) ∧ w'.ownsRow base 48 5 u 1 ([(l, al, an, bl, bn)].flatMap encEdge) ∧ But (fun _ => False) w w' ∧ ∃ k, u.ownBlock = some k ∧ w.heap.size ≤ k := by
  obtain ⟨iN, jN, zN0, zN1, zN2⟩ := info_parts Tryz.infoEdge
  obtain ⟨W0, hW0⟩ : ∃ W0, W0 = ((w.alloc (.cells #[.slice a2 m c2, .slice none 0 0] 26)).alloc (.cells #[.int .i64 l, .int .i64 al, .int .i64 an, .int .i64 bl, .int .i64 bn] 48)).alloc (.cells #[.slice none 0 0, .slice none 0 0] 26) := ⟨_, rfl⟩
  have b0 : Below w.heap.size w W0 := by rw [hW0]; go_grown
  have z0 : W0.heap.size = w.heap.size + 3 := by rw [hW0]; simp
  have G0 : W0.cell? ⟨w.heap.size, 1, none⟩ = some (.slice none 0 0) := by rw [hW0]; simp [go_sem]
  have G1 : W0.cell? ⟨w.heap.size, 0, none⟩ = some (.slice a2 m c2) := by rw [hW0]; simp [go_sem]
  have F0 : W0.cell? ⟨w.heap.size + 1, 0, none⟩ = some (.int .i64 l) := by rw [hW0]; simp [go_sem]
  have F1 : W0.cell? ⟨w.heap.size + 1, 1, none⟩ = some (.int .i64 al) := by rw [hW0]; simp [go_sem]
  have F2 : W0.cell? ⟨w.heap.size + 1, 2, none⟩ = some (.int .i64 an) := by rw [hW0]; simp [go_sem]
  have F3 : W0.cell? ⟨w.heap.size + 1, 3, none⟩ = some (.int .i64 bl) := by rw [hW0]; simp [go_sem]
  have F4 : W0.cell? ⟨w.heap.size + 1, 4, none⟩ = some (.int .i64 bn) := by rw [hW0]; simp [go_sem]
  have Q0 : W0.cell? ⟨w.heap.size + 1 + 1, 0, none⟩ = some (.slice none 0 0) := by rw [hW0]; simp [go_sem]
  have Q1 : W0.cell? ⟨w.heap.size + 1 + 1, 1, none⟩ = some (.slice none 0 0) := by rw [hW0]; simp [go_sem]
  have QF : ∀ o, W0.frozen? ⟨w.heap.size + 1 + 1, o, none⟩ = false := fun o => by rw [hW0]; simp [go_sem]
  have GF : ∀ o, W0.frozen? ⟨w.heap.size, o, none⟩ = false := fun o => by rw [hW0]; simp [go_sem]
  have HB0 : Hid (Below w.heap.size w W0) := b0
  have HW0 : Hid (W0 = ((w.alloc (.cells #[.slice a2 m c2, .slice none 0 0] 26)).alloc (.cells #[.int .i64 l, .int .i64 al, .int .i64 an, .int .i64 bl, .int .i64 bn] 48)).alloc (.cells #[.slice none 0 0, .slice none 0 0] 26)) := hW0
  clear b0 hW0
  go_enter Tryz.func111, Tryz.ntmps111
  go_wp2_with fail
  rw [← HW0.out]
  clear HW0
  have z1 : w.heap.size < W0.heap.size := by omega
  have z2 : w.heap.size + 1 < W0.heap.size := by omega
  refine wp_loop_rounds 1 ?_
  rw [rounds_succ]
  go_wp2_with fail
  refine wp_region_after (by kernel_rfl) (by kernel_rfl) ?_
  intro hne hac
  repeat (go_big_quiet_step (fail))
  refine wpQuiet_nil ?_
  rintro _ ⟨p, rfl⟩
  have HBQ : Hid (Below W0.heap.size W0 p.w) := p.bel
  clear hac hne
  generalize p.w = wq at *
  have hsz2 : W0.heap.size ≤ wq.heap.size := HBQ.out.size
  have g0 : wq.cell? ⟨w.heap.size, 1, none⟩ = some (.slice none 0 0) := (Below.celz HBQ.out _ _ _ (by omega)).trans G0
  have x1 : w.heap.size < wq.heap.size := by omega
  have bq : Below wq.heap.size wq (wq.alloc (.cells #[] 48)) := (Below.refl _ _).alloc (Nat.le_refl _) _
  go_wp2_with (at_builtin; refine wpList_appRow (enc := encEdge) encEdge_len (by decide) encEdge_one rfl _ _ 24 rfl Tryz.underlying24 jN zN0 zN1 zN2 rfl wq.heap.size (.slice (some ⟨wq.heap.size, 0, none⟩) 0 0) 0 [] _ [] rfl rfl (World.ownsRow_lit wq #[] 0 (Nat.le_refl _) (by unfold maxLen; omega) rfl) (.inl ⟨rfl, _, _, rfl⟩) (by simp) (by simp) (by simp) ?_)
  intro vt wt hownt hgt hatt
  obtain ⟨ta, tc, rfl⟩ := own_form hownt
  have bt : Below wq.heap.size wq wt := bq.grown hgt (by simp) (fun j hj => by simp [Value.ownBlock] at hj; omega)
  have HBT : Hid (Below W0.heap.size W0 wt) := HBQ.out.trans (bt.mono (by omega))
  have HWT : Hid (Below w.heap.size w wt) := (HB0.out.trans (HBQ.out.mono (by omega))).trans (bt.mono (by omega))
  have szt : wq.heap.size + 1 ≤ wt.heap.size := by have := hgt.size; simp at this; omega
  have g0t : wt.cell? ⟨w.heap.size, 1, none⟩ = some (.slice none 0 0) := (Below.celz HBT.out _ _ _ (by omega)).trans G0
  have f0t : wt.cell? ⟨w.heap.size + 1, 0, none⟩ = some (.int .i64 l) := (Below.celz HBT.out _ _ _ (by omega)).trans F0
  have f1t : wt.cell? ⟨w.heap.size + 1, 1, none⟩ = some (.int .i64 al) := (Below.celz HBT.out _ _ _ (by omega)).trans F1
  have f2t : wt.cell? ⟨w.heap.size + 1, 2, none⟩ = some (.int .i64 an) := (Below.celz HBT.out _ _ _ (by omega)).trans F2
  have f3t : wt.cell? ⟨w.heap.size + 1, 3, none⟩ = some (.int .i64 bl) := (Below.celz HBT.out _ _ _ (by omega)).trans F3
  have f4t : wt.cell? ⟨w.heap.size + 1, 4, none⟩ = some (.int .i64 bn) := (Below.celz HBT.out _ _ _ (by omega)).trans F4
  have g0f : wt.frozen? ⟨w.heap.size, 1, none⟩ = false := by rw [Below.froz HBT.out _ _ _ (by omega)]; exact GF 1
  have hbt : base ≤ wt.heap.size := by omega
  have y1 : w.heap.size < wt.heap.size := by omega
  have y2 : w.heap.size + 1 < wt.heap.size := by omega
  have y5 : w.heap.size + 1 + 1 < wt.heap.size := by omega
  clear hownt hgt hatt bt bq HBQ g0 hsz2
  go_wp2_with fail
  go_region_law
    (first
      | (refine step_appRow encEdge_len (by decide) encEdge_one (by rfl) _ _ _ (by rfl) Tryz.underlying24 jN zN0 zN1 zN2 rfl base (.slice none 0 0) 0 [] (.slice (some ⟨wt.heap.size, 0, none⟩) 1 1) [(l, al, an, bl, bn)] (by rfl) (by rfl) (World.ownsRow_nil _ _ _ _) (row_oneE wt l al an bl bn) (by simp [maxLen]) (by simp) (by simp; omega) ?_; intro v1 w1 hown1 hg1 hat1; have blk1 : ∀ j, wt.heap.size ≤ w1.heap.size ∧ (j < wt.heap.size → w1.heap[j]? = wt.heap[j]? ∧ v1.ownBlock ≠ some j) := putBlk3 hg1 hat1)
      | (refine step_appRow (enc := encEdge) encEdge_len (by decide) encEdge_one (by rfl) _ _ _ (by rfl) Tryz.underlying24 jN zN0 zN1 zN2 rfl base v1 1 _ (.slice ta 0 tc) [] (by rfl) (by rfl) hown1 (.inl ⟨rfl, _, _, rfl⟩) (by simp [maxLen]) (by simp) (Nat.le_trans hbt (blk1 0).1) ?_; intro v2 w2 hown2 hg2 hat2; have blk2 : ∀ j, j < wt.heap.size → w2.heap[j]? = wt.heap[j]? := putBlk4 blk1 hg2; obtain ⟨ya, yc, rfl⟩ := own_form hown2; have g2 : w2.cell? ⟨w.heap.size, 1, none⟩ = some (.slice none 0 0) := by rw [World.cell?_of_block (blk2 _ y1)]; exact g0t
         have g2f : w2.frozen? ⟨w.heap.size, 1, none⟩ = false := by rw [World.frozen?_of_block (blk2 _ y1)]; exact g0f))
  all_goals (
    have HV : Hid (∀ j, j < wt.heap.size → (Value.slice ya 1 yc).ownBlock ≠ some j) := fun j hj e => by
      rcases hat2 with h5 | h5
      · exact ((blk1 j).2 hj).2 (by rw [← h5]; exact e)
      · have h6 := e.symm.trans h5; have := Option.some.inj h6; have := (blk1 0).1; omega
    have HU : Hid (∃ j, (Value.slice ya 1 yc).ownBlock = some j ∧ w.heap.size ≤ j) := by
      rcases hat2 with h5 | h5
      · rcases hat1 with h6 | h6
        · exfalso
          obtain ⟨_, ⟨h7, h8⟩ | ⟨gq, cq, cur, h7, _⟩⟩ := hown1
          · simp at h8
          · rw [h7] at h6; simp [Value.ownBlock] at h6
        · exact ⟨_, h5.trans h6, by simp; omega⟩
      · exact ⟨_, h5, by have := (blk1 0).1; omega⟩
    have HBU : Hid (But (fun _ => False) w w2) := (But.of (HWT.out.trans (((Below.refl _ _).alloc (Nat.le_refl _) (.cells #[.int .i64 l, .int .i64 al, .int .i64 an, .int .i64 bl, .int .i64 bn] 48)).drew.mono (by omega))) hg1 hg2).mono (fun j hj hp => by
      rcases hp with hp | hp
      · simp [Value.ownBlock] at hp
      · exact absurd hp ((blk1 j).2 (by omega)).2)
    have HOF : Hid (w2.ownsRow base 48 5 (.slice ya 1 yc) 1 ([(l, al, an, bl, bn)].flatMap encEdge)) := by show w2.ownsRow base 48 5 (.slice ya 1 yc) 1 ([(l, al, an, bl, bn)].flatMap encEdge); simpa using hown2
    have g3 : w2.cell? ⟨w.heap.size, 0, none⟩ = some (.slice a2 m c2) := by rw [World.cell?_of_block (blk2 _ y1)]; exact (Below.celz HBT.out _ _ _ (by omega)).trans G1
    have r0 : w2.cell? ⟨w.heap.size + 1 + 1, 0, none⟩ = some (.slice none 0 0) := by rw [World.cell?_of_block (blk2 _ y5)]; exact (Below.celz HBT.out _ _ _ (by omega)).trans Q0
    have r1 : w2.cell? ⟨w.heap.size + 1 + 1, 1, none⟩ = some (.slice none 0 0) := by rw [World.cell?_of_block (blk2 _ y5)]; exact (Below.celz HBT.out _ _ _ (by omega)).trans Q1
    have rf : ∀ o, w2.frozen? ⟨w.heap.size + 1 + 1, o, none⟩ = false := fun o => by rw [World.frozen?_of_block (blk2 _ y5)]; exact (Below.froz HBT.out _ _ _ (by omega)).trans (QF o)
    have s2 : wt.heap.size ≤ w2.heap.size := Nat.le_trans (blk1 0).1 hg2.size
    have s3 : w.heap.size < w2.heap.size := by omega
    have s4 : w.heap.size + 1 + 1 < w2.heap.size := by omega
    clear blk1 blk2 hown1 hown2 hg1 hg2 hat1 hat2 g0t f0t f1t f2t f3t f4t
    go_wp2_with fail
    try simp only [Exit.inBlock, Exit.then]
    refine bodyPost_ret (v := .agg #[.slice a2 m c2, .slice ya 1 yc]) (by simp [*, results, Tryz.results111, go_sem]) rfl ?_
    refine ⟨_, rfl, own_set (own_set (own_set HOF.out (HV.out _ y1) _) (HV.out _ y5) _) (HV.out _ y5) _, ((HBU.out.set (by simp) _).set (by simp; omega) _).set (by simp; omega) _, HU.out⟩)
theorem l2PutEdge (base m c2 : Nat) (a2 : Option Addr) (v1 : Value) (ns : List Ed) (l al an bl bn : Int) (w : World) (hown : w.ownsRow base 48 5 v1 ns.length (ns.flatMap encEdge)) (hbase : base ≤ w.heap.size) (hl : ns.length ≤ 100000) :
    Calls Tryz.prog 111 #[.agg #[.slice a2 m c2, v1], .agg #[.int .i64 l, .int .i64 al, .int .i64 an, .int .i64 bl, .int .i64 bn]] w fun e w' => ∃ u, e = .returned (.agg #[.slice a2 m c2, u]) ∧ w'.ownsRow base 48 5 u (insE (l, al, an, bl, bn) ns).length ((insE (l, al, an, bl, bn) ns).flatMap encEdge) ∧ But (fun k => v1.ownBlock = some k) w w' ∧ (u.ownBlock = v1.ownBlock ∨ ∃ k, u.ownBlock = some k ∧ w.heap.size ≤ k) := by
  have h0 := hown
  obtain ⟨_, ⟨rfl, h2⟩ | ⟨g, cap, cur, rfl, _⟩⟩ := hown
  · have hns : ns = [] := List.length_eq_zero_iff.1 h2
    subst hns
    exact (l2PutEdge_nil base m c2 a2 l al an bl bn w hbase).mono fun e w' ⟨u, h1, h2, h3, h4⟩ => ⟨u, h1, h2, h3.mono (fun _ _ h => h.elim), .inr h4⟩
  · refine (l2PutEdge_some base g _ cap m c2 a2 ns l al an bl bn w h0 rfl hbase hl).mono fun e w' ⟨u, h1, h2, h3, h4⟩ => ⟨u, h1, by rw [insE_len]; exact h2, h3.mono (fun k _ h => by rw [h]; rfl), h4⟩
end Go.Proofs.YtlnpbfeihjfnjaaGreatDoor.Lab

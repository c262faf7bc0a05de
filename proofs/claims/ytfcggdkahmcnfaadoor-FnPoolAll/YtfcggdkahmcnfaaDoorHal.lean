/-
  All the pages of a row used, one after another: (*impl.hand).useAll.
-/
import Derived.Test.YtfcggdkahmcnfaaDoorIpo
import Derived.Test.YtfcggdkahmcnfaaDoorApl
namespace Go.Proofs.YtfcggdkahmcnfaaDoor.Lab
open Go.RowKit Go.ChangeMaps
set_option linter.unusedVariables false
attribute [local go_sem ↓] Go.wp_at_zero Go.wp_at_succ
/-- How many were missed is told anew. -/
theorem ShelfAt.missed {w : World} {base S z : Nat} {m : Int} {xs : List (Int × Int)} (h : ShelfAt w base S z m xs) (m' : Int) : ShelfAt (w.setCell ⟨S, 3, none⟩ (.int .i64 m')) base S z m' xs := by
  obtain ⟨M, R, bs, pg, A, H, es, h1, h2, h3, h4, h5, h6⟩ := h
  refine ⟨M, R, bs, pg, A, H, es, ?_, h2, h3, h4.of (fun b hb => ?_), h5.of ?_, h6⟩
  · unfold HandAt
    rw [set_block _ h1]; rfl
  · rw [Below.heap_setCell _ _ _ _ ?_]
    intro e
    have hp := (h4.1 b hb).1
    unfold PlAt at hp
    unfold HandAt at h1
    have e' : b = S := e
    rw [e', h1] at hp
    simp at hp
  · rw [Below.heap_setCell _ _ _ _ ?_]
    show M ≠ S
    omega
theorem ShelfAt.cell {w : World} {base S z : Nat} {m : Int} {xs : List (Int × Int)} (h : ShelfAt w base S z m xs) : w.cell? ⟨S, 3, none⟩ = some (.int .i64 m) ∧ w.frozen? ⟨S, 3, none⟩ = false ∧ base ≤ S := by
  obtain ⟨M, R, bs, pg, A, H, es, h1, h2, h3⟩ := h
  unfold HandAt at h1
  exact ⟨by rw [cell_block h1]; rfl, free_block h1, h2⟩
/-- What useAll leaves. -/
def AllPost (base S z : Nat) (xs ls : List (Int × Int)) (w : World) (e : Ending) (w' : World) : Prop :=
  (ls.all (fun x => pageB x.1 x.2) = true ∧ e = .returned .nilIface ∧ ShelfAt w' base S z (allU z xs ls).2 (allU z xs ls).1 ∧ Below base w w') ∨ (ls.all (fun x => pageB x.1 x.2) = false ∧ ∃ t u, e = .returned (.iface t u) ∧ Below base w w')
theorem all_take {f : Int × Int → Bool} {ls : List (Int × Int)} {k : Nat} {x : Int × Int} (h : ls[k]? = some x) : (ls.take (k + 1)).all f = ((ls.take k).all f && f x) := by
  rw [List.take_add_one, h]; simp
set_option maxHeartbeats 2000000 in
theorem useAll_walk (base S z : Nat) (xs ls : List (Int × Int)) (a : Option Addr) (n cap : Nat) (w : World) (h : ShelfAt w base S z 0 xs) (hz : z ≤ 1000) (hl : xs.length ≤ z) (HR : Hid (∀ W, Below base w W → RowAt 2 encPage W (.slice a n cap) ls)) (HN : Hid (n = ls.length)) (hn : n ≤ 1048576) (hbw : base ≤ w.heap.size) (HF : Hid (∃ t u, ∀ W, Below base w W → W.cell? ⟨0, 0, none⟩ = some (.iface t u))) :
    Calls Tryd.prog 18 #[.pointer (some ⟨S, 0, none⟩), .slice a n cap] w (AllPost base S z xs ls w) := by
  have HS : Hid (ShelfAt w base S z 0 xs) := h
  clear h
  obtain ⟨t, u, hg⟩ := HF.out
  have HG : Hid (∀ W, Below base w W → W.cell? ⟨0, 0, none⟩ = some (.iface t u)) := hg
  clear hg HF
  go_enter Tryd.func18, Tryd.ntmps18
  go_wp2_with fail
  go_loopw [9] (fun i wr => ∃ j : Nat, j ≤ n ∧ i = .int .i64 j ∧ Below base w wr ∧ ShelfAt wr base S z (allU z xs (ls.take j)).2 (allU z xs (ls.take j)).1 ∧ (ls.take j).all (fun x => pageB x.1 x.2) = true) (fun i _ => n - (intOf i).toNat)
  case atStart => exact ⟨0, by omega, rfl, Below.refl _ _, HS.out, rfl⟩
  case round =>
    obtain ⟨j, hj, rfl, hbel, hsh, hall⟩ := hrel
    have hsz := hbel.size
    by_cases hlt : j < n
    · rcases HR.out wr hbel with ⟨hz00, _⟩ | ⟨_, b, off, cap', hv, hb, hc⟩
      · have := HN.out; rw [hz00] at this; simp at this; omega
      simp only [Value.slice.injEq] at hv
      obtain ⟨rfl, -, hcc⟩ := hv
      subst hcc
      obtain ⟨⟨m0, m1⟩, hx⟩ : ∃ x, ls[j]? = some x := ⟨_, List.getElem?_eq_getElem (by rw [← HN.out]; exact hlt)⟩
      have e0 : wr.cell? ⟨b, off + j * 2, none⟩ = some (.int .i64 m0) := hc j _ hx 0 _ rfl
      have e1 : wr.cell? ⟨b, off + j * 2 + 1, none⟩ = some (.int .i64 m1) := hc j _ hx 1 _ rfl
      have j0 : (0 : Int) ≤ (j : Int) := by omega
      have j1 : (j : Int) < (n : Int) := by omega
      have hlen := allU_len hl (ls.take j)
      have hmis := allU_miss z xs (ls.take j)
      have hm1 : (allU z xs (ls.take j)).2 ≤ 1048576 := by rw [List.length_take] at hmis; omega
      obtain ⟨st, hst⟩ : ∃ st, st = allU z xs (ls.take j) := ⟨_, rfl⟩
      have HX : Hid (allU z xs (ls.take (j + 1)) = stepU z st (m0, m1) ∧ (ls.take (j + 1)).all (fun x => pageB x.1 x.2) = pageB m0 m1) := ⟨by rw [hst]; exact allU_take hx, by rw [all_take hx, hall]; rfl⟩
      have HST : Hid (ls[j]? = some (m0, m1)) := hx
      rw [← hst] at hsh hlen hm1
      obtain ⟨ws, mi⟩ := st
      dsimp only at hsh hlen hm1
      have HSH : Hid (ShelfAt wr base S z mi ws) := hsh
      have HB : Hid (Below base w wr) := hbel
      clear hx hc hst hsh hall hmis hbel HS
      go_wp2_with fail
      refine (impl_PageOk m0 m1 _).mono ?_
      rintro e w2 ⟨rfl, bel2⟩
      have hbx : w2.heap[wr.heap.size]? = some (.cells #[.int .i64 m0, .int .i64 m1] 33 (0, 0)) := by rw [bel2.block _ (by simp)]; exact new_block _ _
      have r2 : w2.cell? ⟨wr.heap.size, 0, none⟩ = some (.int .i64 m0) := by rw [cell_block hbx]; rfl
      have r3 : w2.cell? ⟨wr.heap.size, 1, none⟩ = some (.int .i64 m1) := by rw [cell_block hbx]; rfl
      have s2 : wr.heap.size < w2.heap.size := lt_of_block hbx
      have bn : Below wr.heap.size wr (wr.alloc (.cells #[.int .i64 m0, .int .i64 m1] 33)) := (Below.refl _ _).alloc (Nat.le_refl _) _
      have b2 : Below wr.heap.size wr w2 := bn.trans (bel2.mono (by simp))
      have HB2 : Hid (Below base w w2) := HB.out.trans (b2.mono (by omega))
      have HSH2 : Hid (ShelfAt w2 base S z mi ws) := HSH.out.keep b2
      have HBX : Hid (w2.heap[wr.heap.size]? = some (.cells #[.int .i64 m0, .int .i64 m1] 33 (0, 0))) := hbx
      clear bel2 bn b2 hbx
      cases hq : pageB m0 m1
      · have g0 := HG.out _ HB2.out
        have HP : Hid (ls.all (fun x => pageB x.1 x.2) = false) := by
          show ls.all (fun x => pageB x.1 x.2) = false
          rw [List.all_eq_false]
          exact ⟨(m0, m1), List.mem_of_getElem? HST.out, by simp [hq]⟩
        clear r2 r3
        go_wp2_with fail
        go_ret
        exact .inr ⟨HP.out, t, u, rfl, HB2.out⟩
      · have hq2 : Hid (pageB m0 m1 = true) := hq
        clear hq
        go_wp2_with fail
        go_region_held3 (fun w' => w'.cell? ⟨wr.heap.size, 0, none⟩ = some (.int .i64 m0) ∧ w'.cell? ⟨wr.heap.size, 1, none⟩ = some (.int .i64 m1))
          (first | exact ⟨r2, r3⟩ | exact ⟨k2, k3⟩ | assumption)
          (first | (go_at_call 31; refine (usePg base S z mi ws m0 m1 w2.drew (HSH2.out.of (fun _ _ _ => rfl)) hz hlen).mono ?_; rintro e w3 ⟨rfl, sh3, bel3', fr3⟩; have bel3 : Below base w2 w3 := ((Below.refl _ w2).drew).trans bel3'; clear bel3'; have hb3 : w3.heap[wr.heap.size]? = some (.cells #[.int .i64 m0, .int .i64 m1] 33 (0, 0)) := fr3 _ _ HBX.out (by intro c t fz e; cases e; decide) (by intro e cl h; cases h); have k2 : w3.cell? ⟨wr.heap.size, 0, none⟩ = some (.int .i64 m0) := (by rw [cell_block hb3]; rfl); have k3 : w3.cell? ⟨wr.heap.size, 1, none⟩ = some (.int .i64 m1) := (by rw [cell_block hb3]; rfl)))
        rename_i hHeld
        clear hHeld k2 k3 hb3 fr3 r2 r3
        obtain ⟨c3, f3, hS3⟩ := sh3.cell
        have HB3 : Hid (Below base w w3) := HB2.out.trans bel3
        have HSH3 : Hid (ShelfAt w3 base S z mi (useL z ws (m0, m1))) := sh3
        have HA : Hid ((ls.take (j + 1)).all (fun x => pageB x.1 x.2) = true) := by
          show (ls.take (j + 1)).all (fun x => pageB x.1 x.2) = true
          rw [HX.out.2]; exact hq2.out
        clear sh3 bel3
        by_cases hmem : (m0, m1) ∈ ws
        · have hd : decide ((m0, m1) ∈ ws) = true := by simpa using hmem
          have HU : Hid (allU z xs (ls.take (j + 1)) = (useL z ws (m0, m1), mi)) := by
            show allU z xs (ls.take (j + 1)) = _
            rw [HX.out.1]; simp [stepU, hmem]
          rw [hd]
          clear hd hmem c3 f3
          go_wp2_with fail
          go_roundw
          case rel => exact ⟨j + 1, by omega, by go_num, HB3.out, by rw [HU.out]; exact HSH3.out, HA.out⟩
          case measure => simp [intOf]; omega
        · have hd : decide ((m0, m1) ∈ ws) = false := by simpa using hmem
          have HU : Hid (allU z xs (ls.take (j + 1)) = (useL z ws (m0, m1), mi + 1)) := by
            show allU z xs (ls.take (j + 1)) = _
            rw [HX.out.1]; simp [stepU, hmem]
          rw [hd]
          clear hd hmem
          have y0 : (0 : Int) ≤ (mi : Int) := by omega
          have y1 : (mi : Int) ≤ 1048576 := by omega
          go_wp2_with fail
          go_roundw
          case rel =>
            refine ⟨j + 1, by omega, by go_num, HB3.out.setCell (by simpa using hS3) _, ?_, HA.out⟩
            rw [HU.out]
            have hm := HSH3.out.missed ((mi : Int) + 1)
            simpa using hm
          case measure => simp [intOf]; omega
    · have hkn : n = j := by omega
      subst hkn
      have R : Hid (AllPost base S z xs ls w (.returned .nilIface) wr) := by
        have h1 : ls.take n = ls := by rw [HN.out, List.take_length]
        rw [h1] at hsh hall
        exact .inl ⟨hall, rfl, hsh, hbel⟩
      clear hbel hsh hall
      go_wp2_with fail
      go_ret
      exact R.out
end Go.Proofs.YtfcggdkahmcnfaaDoor.Lab

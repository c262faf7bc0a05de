/-
  A new world: WorldNew of the model. (Written by tools/mkwns.py.)
-/
import Derived.Test.YtnhacflknkgfgaaWnw
import Derived.Deep.RegionLaw
namespace Go.Proofs.Ytnhacflknkgfgaa.Lab
open Go.RowKit
set_option linter.unusedVariables false
/-- A world under way: its box, whose first row is whole, and the two rows that have been laid so far. -/
structure Wn2 (w : World) (WB B1 : Nat) (u1 u4 u5 : Value) (n1 n4 n5 : Nat) (l1 l4 l5 : List Value) : Prop where
  box : w.heap[WB]? = some (.cells #[u1, .slice none 0 0, .slice none 0 0, u4, u5] 38 (0, 0))
  o1 : w.ownsRow B1 25 3 u1 n1 l1
  lt1 : ∀ g, u1.ownBlock = some g → g < WB
  o4 : w.ownsRow (WB + 1) 66 2 u4 n4 l4
  o5 : w.ownsRow (WB + 1) 3 1 u5 n5 l5
  a45 : Apt u4 u5
theorem oth2 {w wa w' : World} {WB j e s n : Nat} {u uj v' : Value} {l : List Value} (h : w.ownsRow (WB + 1) e s u n l) (ha : Apt uj u) (hb : Below w.heap.size w wa) (hg : wa.grownBy w' uj.ownBlock) (hat : v'.ownBlock = uj.ownBlock ∨ v'.ownBlock = some wa.heap.size) :
    (w'.setCell ⟨WB, j, none⟩ v').ownsRow (WB + 1) e s u n l ∧ Apt v' u := by
  refine ⟨own_off (own_gr (own_keep h hb) hg (fun k h1 h2 => ha k h2 h1)) (Nat.lt_succ_self _) _, fun g h1 h2 => ?_⟩
  rcases hat with e | e
  · exact ha g (by rw [← e]; exact h1) h2
  · have h3 := (h.lt g h2).2
    have h4 := hb.size
    rw [e] at h1
    simp at h1
    omega
theorem oth1 {w wa w' : World} {WB B1 j e s n e' s' n' : Nat} {u uj v' : Value} {l l' : List Value} (h : w.ownsRow B1 e s u n l) (hlt : ∀ g, u.ownBlock = some g → g < WB) (ho : w.ownsRow (WB + 1) e' s' uj n' l') (hb : Below w.heap.size w wa) (hg : wa.grownBy w' uj.ownBlock) :
    (w'.setCell ⟨WB, j, none⟩ v').ownsRow B1 e s u n l :=
  own_set (own_gr (own_keep h hb) hg (fun k h1 h2 => by have := hlt k h1; have := (ho.lt k h2).1; omega)) (fun e => by have := hlt _ e; simp at this) _
theorem box2 {w wa w' : World} {WB e s n : Nat} {uj : Value} {l : List Value} {c : Obj} (hb' : w.heap[WB]? = some c) (ho : w.ownsRow (WB + 1) e s uj n l) (hb : Below w.heap.size w wa) (hg : wa.grownBy w' uj.ownBlock) : w'.heap[WB]? = some c := by
  have hlt := lt_of_block hb'
  have h4 := hb.size
  exact (hg.block WB (by omega) (fun e => own_ne ho e.symm)).trans ((hb.block _ hlt).trans hb')
theorem Wn2.grow4 {w wa w' : World} {WB B1 : Nat} {u1 u4 u5 v' : Value} {n1 n4 n5 n' : Nat} {l1 l4 l5 l' : List Value} (h : Wn2 w WB B1 u1 u4 u5 n1 n4 n5 l1 l4 l5) (hb : Below w.heap.size w wa) (ho : w'.ownsRow (WB + 1) 66 2 v' n' l') (hg : wa.grownBy w' u4.ownBlock) (hat : v'.ownBlock = u4.ownBlock ∨ v'.ownBlock = some wa.heap.size) :
    Wn2 (w'.setCell ⟨WB, 3, none⟩ v') WB B1 u1 v' u5 n1 n' n5 l1 l' l5 :=
  ⟨by rw [set_block _ (box2 h.box h.o4 hb hg)]; rfl, oth1 h.o1 h.lt1 h.o4 hb hg, h.lt1, own_off ho (Nat.lt_succ_self _) _, (oth2 (j := 3) h.o5 h.a45 hb hg hat).1, (oth2 (j := 3) h.o5 h.a45 hb hg hat).2⟩
theorem Wn2.grow5 {w wa w' : World} {WB B1 : Nat} {u1 u4 u5 v' : Value} {n1 n4 n5 n' : Nat} {l1 l4 l5 l' : List Value} (h : Wn2 w WB B1 u1 u4 u5 n1 n4 n5 l1 l4 l5) (hb : Below w.heap.size w wa) (ho : w'.ownsRow (WB + 1) 3 1 v' n' l') (hg : wa.grownBy w' u5.ownBlock) (hat : v'.ownBlock = u5.ownBlock ∨ v'.ownBlock = some wa.heap.size) :
    Wn2 (w'.setCell ⟨WB, 4, none⟩ v') WB B1 u1 u4 v' n1 n4 n' l1 l4 l' :=
  ⟨by rw [set_block _ (box2 h.box h.o5 hb hg)]; rfl, oth1 h.o1 h.lt1 h.o5 hb hg, h.lt1, (oth2 (j := 4) h.o4 h.a45.symm hb hg hat).1, own_off ho (Nat.lt_succ_self _) _, (oth2 (j := 4) h.o4 h.a45.symm hb hg hat).2.symm⟩
set_option maxRecDepth 16000 in
set_option maxHeartbeats 8000000 in
theorem spec_WorldNew_walk (a : Option Addr) (cap n : Nat) (xs : List (Int × Int × Int)) (w : World) (hn : n ≤ 4) (h : RowAt 3 encPerson w (.slice a n cap) xs) (hN : n = xs.length) (hp : peopleB xs = true) :
    Calls Try.prog 11 #[.slice a n cap] w fun e w' => ∃ u1 u4 u5, e = .returned (.agg #[u1, .slice none 0 0, .slice none 0 0, u4, u5]) ∧ NewW w' w.heap.size u1 u4 u5 xs ∧ Below w.heap.size w w' := by
  have HN : Hid (n = xs.length) := hN
  have HP : Hid (peopleB xs = true) := hp
  clear hN hp
  obtain ⟨iP, jP, zP0, zP1, zP2⟩ := info_parts Try.infoPerson
  obtain ⟨iZ, jZ, zZ0, zZ1, zZ2⟩ := info_parts Try.infoPool
  obtain ⟨iI, jI, zI0, zI1, zI2⟩ := info_parts Try.infoI
  obtain ⟨A, hA⟩ : ∃ t, t = w.heap.size := ⟨_, rfl⟩
  have HA : Hid (A = w.heap.size) := hA
  have BB : Below A w w := Below.refl _ _
  have sA : A ≤ w.heap.size := by omega
  clear hA
  have HX : Hid (RowAt 3 encPerson w (.slice a n cap) xs) := h
  clear h
  go_enter Try.func11, Try.ntmps11
  go_wp2_with fail
  obtain ⟨RB, hRB⟩ : ∃ t, t = w.heap.size := ⟨_, rfl⟩
  generalize hW : w.alloc (.cells #[.slice none 0 0, .slice none 0 0, .slice none 0 0, .slice none 0 0, .slice none 0 0] 38) = wa
  have nb : Below w.heap.size w wa := by rw [← hW]; exact (Below.refl _ _).alloc (Nat.le_refl _) _
  have HR0 : Hid (RbAt wa RB) := by show RbAt wa RB; unfold RbAt; rw [← hW, hRB]; exact new_block _ _
  have lRA : A ≤ RB := by rw [hRB]; exact sA
  have lRW : w.heap.size ≤ RB := by omega
  rw [← hRB]
  clear hW hRB
  have BB1 : Below A w wa := BB.trans (nb.mono (by omega))
  have sA1 : A ≤ wa.heap.size := by have := Below.size nb; omega
  have q0 : Hid (RowAt 3 encPerson wa (.slice a n cap) xs) := HX.out.keep nb
  clear BB sA   HX
  have HX := q0
  have BB := BB1
  have sA := sA1
  clear BB1 sA1   q0
  clear nb
  have HRB : Hid (RbAt wa RB) := HR0.out
  clear HR0
  refine (spec_l7People _ xs _ HX.out (by rw [← HN.out]; omega)).mono ?_
  rintro e wb ⟨rfl, bz⟩
  have BB1 : Below A w wb := BB.trans (bz.mono (by omega))
  have sA1 : A ≤ wb.heap.size := by have := Below.size bz; omega
  have q0 : Hid (RowAt 3 encPerson wb (.slice a n cap) xs) := HX.out.keep bz
  have q1 : Hid (RbAt wb RB) := HRB.out.keep bz
  clear BB sA   HX HRB
  have HX := q0
  have HRB := q1
  have BB := BB1
  have sA := sA1
  clear BB1 sA1   q0 q1
  clear bz
  rw [HP.out]
  have HX1 : Hid (∀ o, RowAt 3 encPerson (wb.alloc o) (.slice a n cap) xs) := fun o => HX.out.keep ((Below.refl _ _).alloc (Nat.le_refl _) _)
  have hnx : xs.length ≤ 4 := by rw [← HN.out]; exact hn
  go_wp2_with (at_builtin; refine wpList_appRow encPerson_len (by decide) encPerson_one rfl _ _ 30 rfl Try.underlying30 jP zP0 zP1 zP2 rfl wb.heap.size (.slice (some ⟨wb.heap.size, 0, none⟩) 0 0) 0 [] (.slice a n cap) xs rfl rfl ⟨rfl, .inr ⟨wb.heap.size, 0, #[], rfl, Nat.le_refl _, new_block _ _, Nat.le_refl _, by simp, rfl, rfl⟩⟩ (HX1.out _) (by unfold maxLen; omega) (by omega) (by simp) ?_)
  intro vv wv ho hg ha
  have hoo : wv.ownsRow wb.heap.size 25 3 vv n (xs.flatMap encPerson) := by rw [HN.out]; simpa using ho
  obtain ⟨r1, s1, rfl⟩ := own_form hoo
  have bv : Below wb.heap.size wb wv := ((Below.refl _ _).alloc (Nat.le_refl _) _).grown hg (by simp) (fun g hgg => by simp [Value.ownBlock] at hgg; omega)
  have HO1 : Hid (wv.ownsRow wb.heap.size 25 3 (.slice r1 n s1) n (xs.flatMap encPerson)) := hoo
  have HBW : Hid (Below wb.heap.size wb wv) := bv
  have HXB : Hid (∀ W, Below wb.heap.size wb W → RowAt 3 encPerson W (.slice a n cap) xs) := fun W h => HX.out.keep h
  have HRW : Hid (∀ W, Below wb.heap.size wb W → RbAt W RB) := fun W h => HRB.out.keep h
  have HBA : Hid (∀ W, Below wb.heap.size wb W → Below w.heap.size w W) := fun W h => by have h1 := BB; have h2 := sA; rw [HA.out] at h1 h2; exact h1.trans (h.mono h2)
  have zRB0 : RB < wb.heap.size := lt_of_block (show wb.heap[RB]? = _ from HRB.out)
  have sv : wb.heap.size ≤ wv.heap.size := bv.size
  clear ho hg ha hoo bv HX1 BB sA HX HRB HP
  go_wp2_with fail
  obtain ⟨WB, hWB⟩ : ∃ t, t = wv.heap.size := ⟨_, rfl⟩
  generalize hW : wv.alloc (.cells #[.slice r1 n s1, .slice none 0 0, .slice none 0 0, .slice none 0 0, .slice none 0 0] 38) = ws
  have nbs : Below wv.heap.size wv ws := by rw [← hW]; exact (Below.refl _ _).alloc (Nat.le_refl _) _
  have HS0 : Hid (Wn2 ws WB wb.heap.size (.slice r1 n s1) (.slice none 0 0) (.slice none 0 0) n 0 0 (xs.flatMap encPerson) [] []) := ⟨by rw [← hW, hWB]; exact new_block _ _, own_keep HO1.out nbs, fun g hg => by rw [hWB]; exact (HO1.out.lt g hg).2, World.ownsRow_nil _ _ _ _, World.ownsRow_nil _ _ _ _, fun g h => by simp [Value.ownBlock] at h⟩
  have HB0 : Hid (Below wb.heap.size wb ws) := HBW.out.trans (nbs.mono sv)
  have lWB : wb.heap.size ≤ WB := by omega
  rw [← hWB]
  clear hW hWB nbs HBW
  go_loopw [4] (fun i wr => ∃ (k : Nat) (u4 u5 : Value), k ≤ n ∧ i = .int .i64 k ∧ Below wb.heap.size wb wr ∧ Wn2 wr WB wb.heap.size (.slice r1 n s1) u4 u5 n k k (xs.flatMap encPerson) ((xs.take k).flatMap encZ) ((xs.take k).flatMap encQ)) (fun i _ => n - (intOf i).toNat)
  case atStart => exact ⟨0, _, _, by omega, rfl, HB0.out, HS0.out⟩
  case round =>
    clear HS0 HB0
    obtain ⟨k, u4, u5, hk, rfl, hbel, hsc⟩ := hrel
    have HBL : Hid (Below wb.heap.size wb wr) := hbel
    have sg : wb.heap.size ≤ wr.heap.size := hbel.size
    have zWB : WB < wr.heap.size := lt_of_block hsc.box
    have HS : Hid (Wn2 wr WB wb.heap.size (.slice r1 n s1) u4 u5 n k k (xs.flatMap encPerson) ((xs.take k).flatMap encZ) ((xs.take k).flatMap encQ)) := hsc
    obtain ⟨r4, s4, rfl⟩ := own_form hsc.o4
    obtain ⟨r5, s5, rfl⟩ := own_form hsc.o5
    clear hsc hbel
    by_cases hlt : k < n
    · have k0 : (0 : Int) ≤ (k : Int) := by omega
      have k1 : (k : Int) < (n : Int) := by omega
      obtain ⟨⟨pc, ps, pq⟩, hx⟩ : ∃ x, xs[k]? = some x := ⟨_, List.getElem?_eq_getElem (by rw [← HN.out]; exact hlt)⟩
      obtain ⟨b, off, rfl, zb, HCL⟩ : ∃ b off, a = some ⟨b, off, none⟩ ∧ b < wb.heap.size ∧ Hid (∀ W, Below wb.heap.size wb W → W.cell? ⟨b, off + k * 3 + 1, none⟩ = some (.int .i64 ps) ∧ W.cell? ⟨b, off + k * 3 + 2, none⟩ = some (.int .i64 pq)) := by
        rcases HXB.out wb (Below.refl _ _) with ⟨hz0', _⟩ | ⟨_, b, off, cap', hv, zb, hc⟩
        · exfalso; rw [hz0'] at hx; simp at hx
        · simp only [Value.slice.injEq] at hv
          obtain ⟨rfl, -, -⟩ := hv
          exact ⟨b, off, rfl, zb, fun W h => ⟨(Below.celz h _ _ _ zb).trans (hc k _ hx 1 _ rfl), (Below.celz h _ _ _ zb).trans (hc k _ hx 2 _ rfl)⟩⟩
      have HXk : Hid (xs[k]? = some (pc, ps, pq)) := hx
      clear hx
      have bx := HS.out.box
      have ce3 : wr.cell? ⟨WB, 3, none⟩ = some (.slice r4 k s4) := by rw [cell_block bx]; rfl
      have ce4 : wr.cell? ⟨WB, 4, none⟩ = some (.slice r5 k s5) := by rw [cell_block bx]; rfl
      have cf : ∀ i, wr.frozen? ⟨WB, i, none⟩ = false := fun i => free_block bx
      have cp1 := (HCL.out _ HBL.out).1
      have cp2 := (HCL.out _ HBL.out).2
      have zW : WB < wr.heap.size := lt_of_block bx
      have zB : b < wr.heap.size := by have := HBL.out.size; omega
      clear bx
      go_wp2_with fail
      have wab : Below wr.heap.size wr (World.alloc wr (.cells #[.int .i64 ps, .slice none 0 0] 66)).drew := ((Below.refl _ _).alloc (Nat.le_refl _) _).drew
      have WAB : Hid (Below wr.heap.size wr (World.alloc wr (.cells #[.int .i64 ps, .slice none 0 0] 66)).drew) := wab
      clear wab
      have HNR : Hid (RowAt 2 encZ (World.alloc wr (.cells #[.int .i64 ps, .slice none 0 0] 66)).drew (.slice (some ⟨wr.heap.size, 0, none⟩) 1 1) [(pc, ps, pq)]) := by
        have h := (new_row (s := 2) (enc := encZ) wr (pc, ps, pq) 66).keep (Below.refl _ _).drew
        first | exact h | (simp only [World.size_setCell] at h; exact h)
      go_region_law
        ((refine step_appRow encZ_len (by decide) encZ_one (by rfl) _ _ _ (by rfl) Try.underlying35 jZ zZ0 zZ1 zZ2 rfl (WB + 1) (.slice r4 k s4) k _ (.slice (some ⟨wr.heap.size, 0, none⟩) 1 1) [(pc, ps, pq)] (by rfl) (by rfl) ((HS.out.o4.alloc _).drew) HNR.out (by unfold maxLen; simp; omega) (by simp; omega) (by simp; omega) ?_; intro vv w3' ho hg ha; have bx3 : w3'.heap[WB]? = _ := (box2 HS.out.box HS.out.o4 WAB.out hg); have hoo : w3'.ownsRow (WB + 1) 66 2 vv (k + 1) _ := ho; obtain ⟨x4', y4', rfl⟩ := own_form hoo; have t3' : w3'.cell? ⟨WB, 3, none⟩ = some (.slice r4 k s4) := (by rw [cell_block bx3]; rfl); have tf' : ∀ i, w3'.frozen? ⟨WB, i, none⟩ = false := (fun i => free_block bx3)))
      all_goals (
        have H3 : Hid (Wn2 (w3'.setCell ⟨WB, 3, none⟩ (.slice x4' (k + 1) y4')) WB wb.heap.size (.slice r1 n s1) (.slice x4' (k + 1) y4') (.slice r5 k s5) n (k + 1) k (xs.flatMap encPerson) ((xs.take k).flatMap encZ ++ [(pc, ps, pq)].flatMap encZ) ((xs.take k).flatMap encQ)) := HS.out.grow4 WAB.out hoo hg (ha.imp id (fun e => e.trans (by simp)))
        have HB3 : Hid (Below wb.heap.size wb (w3'.setCell ⟨WB, 3, none⟩ (.slice x4' (k + 1) y4'))) := ((HBL.out.trans (WAB.out.mono sg)).grown hg (by have := HBL.out.size; simp; omega) (fun g hgg => by have := (HS.out.o4.lt g hgg).1; omega)).setCell lWB _
        clear ho hoo hg ha bx3 HNR WAB ce3 ce4 cf cp1 cp2 zW zB HS HBL
        go_wp2_with fail
        generalize hN3 : w3'.setCell ⟨WB, 3, none⟩ (.slice x4' (k + 1) y4') = n3 at H3 HB3 ⊢
        clear hN3 t3' tf'
        have bx := H3.out.box
        have ce3 : n3.cell? ⟨WB, 3, none⟩ = some (.slice x4' (k + 1) y4') := by rw [cell_block bx]; rfl
        have ce4 : n3.cell? ⟨WB, 4, none⟩ = some (.slice r5 k s5) := by rw [cell_block bx]; rfl
        have cf : ∀ i, n3.frozen? ⟨WB, i, none⟩ = false := fun i => free_block bx
        have cp1 := (HCL.out _ HB3.out).1
        have cp2 := (HCL.out _ HB3.out).2
        have zW : WB < n3.heap.size := lt_of_block bx
        have zB : b < n3.heap.size := by have := HB3.out.size; omega
        clear bx
        have wab : Below n3.heap.size n3 (World.alloc n3 (.cells #[.int .i64 pq] 3)).drew := ((Below.refl _ _).alloc (Nat.le_refl _) _).drew
        have WAB : Hid (Below n3.heap.size n3 (World.alloc n3 (.cells #[.int .i64 pq] 3)).drew) := wab
        clear wab
        have HNR : Hid (RowAt 1 encQ (World.alloc n3 (.cells #[.int .i64 pq] 3)).drew (.slice (some ⟨n3.heap.size, 0, none⟩) 1 1) [(pc, ps, pq)]) := by
          have h := (new_row (s := 1) (enc := encQ) n3 (pc, ps, pq) 3).keep (Below.refl _ _).drew
          first | exact h | (simp only [World.size_setCell] at h; exact h)
        go_region_law
          ((refine step_appRow encQ_len (by decide) encQ_one (by rfl) _ _ _ (by rfl) Try.underlying36 jI zI0 zI1 zI2 rfl (WB + 1) (.slice r5 k s5) k _ (.slice (some ⟨n3.heap.size, 0, none⟩) 1 1) [(pc, ps, pq)] (by rfl) (by rfl) ((H3.out.o5.alloc _).drew) HNR.out (by unfold maxLen; simp; omega) (by simp; omega) (by simp; omega) ?_; intro vv w5' ho hg ha; have bx3 : w5'.heap[WB]? = _ := (box2 H3.out.box H3.out.o5 WAB.out hg); have hoo : w5'.ownsRow (WB + 1) 3 1 vv (k + 1) _ := ho; obtain ⟨x5', y5', rfl⟩ := own_form hoo; have t4' : w5'.cell? ⟨WB, 4, none⟩ = some (.slice r5 k s5) := (by rw [cell_block bx3]; rfl); have tf' : ∀ i, w5'.frozen? ⟨WB, i, none⟩ = false := (fun i => free_block bx3)))
        all_goals (
          have H5 : Hid (Wn2 (w5'.setCell ⟨WB, 4, none⟩ (.slice x5' (k + 1) y5')) WB wb.heap.size (.slice r1 n s1) (.slice x4' (k + 1) y4') (.slice x5' (k + 1) y5') n (k + 1) (k + 1) (xs.flatMap encPerson) ((xs.take k).flatMap encZ ++ [(pc, ps, pq)].flatMap encZ) ((xs.take k).flatMap encQ ++ [(pc, ps, pq)].flatMap encQ)) := H3.out.grow5 WAB.out hoo hg (ha.imp id (fun e => e.trans (by simp)))
          have HB5 : Hid (Below wb.heap.size wb (w5'.setCell ⟨WB, 4, none⟩ (.slice x5' (k + 1) y5'))) := ((HB3.out.trans (WAB.out.mono HB3.out.size)).grown hg (by have := HB3.out.size; simp; omega) (fun g hgg => by have := (H3.out.o5.lt g hgg).1; omega)).setCell lWB _
          clear ho hoo hg ha bx3 HNR WAB ce3 ce4 cf cp1 cp2 zW zB H3 HB3
          go_wp2_with fail
          go_roundw
          case rel =>
            have ht : xs.take (k + 1) = xs.take k ++ [(pc, ps, pq)] := by rw [List.take_add_one, HXk.out]; rfl
            refine ⟨k + 1, .slice x4' (k + 1) y4', .slice x5' (k + 1) y5', by omega, by go_num, HB5.out, ?_⟩
            rw [ht, List.flatMap_append, List.flatMap_append]
            exact H5.out
          case measure => simp [intOf]; omega))
    · obtain rfl : n = k := by omega
      have ht : xs.take n = xs := by rw [HN.out, List.take_length]
      rw [ht] at HS
      have HRB := HRW.out _ HBL.out
      have qq0 : wr.cell? ⟨RB, 0, none⟩ = some (.slice none 0 0) := by rw [cell_block (show wr.heap[RB]? = _ from HRB)]; rfl
      have qq1 : wr.cell? ⟨RB, 1, none⟩ = some (.slice none 0 0) := by rw [cell_block (show wr.heap[RB]? = _ from HRB)]; rfl
      have qq2 : wr.cell? ⟨RB, 2, none⟩ = some (.slice none 0 0) := by rw [cell_block (show wr.heap[RB]? = _ from HRB)]; rfl
      have qq3 : wr.cell? ⟨RB, 3, none⟩ = some (.slice none 0 0) := by rw [cell_block (show wr.heap[RB]? = _ from HRB)]; rfl
      have qq4 : wr.cell? ⟨RB, 4, none⟩ = some (.slice none 0 0) := by rw [cell_block (show wr.heap[RB]? = _ from HRB)]; rfl
      have qf : ∀ i, wr.frozen? ⟨RB, i, none⟩ = false := fun i => free_block (show wr.heap[RB]? = _ from HRB)
      have zRB : RB < wr.heap.size := lt_of_block (show wr.heap[RB]? = _ from HRB)
      have ce0 : wr.cell? ⟨WB, 0, none⟩ = some (.slice r1 n s1) := by rw [cell_block HS.out.box]; rfl
      have ce1 : wr.cell? ⟨WB, 1, none⟩ = some (.slice none 0 0) := by rw [cell_block HS.out.box]; rfl
      have ce2 : wr.cell? ⟨WB, 2, none⟩ = some (.slice none 0 0) := by rw [cell_block HS.out.box]; rfl
      have ce3 : wr.cell? ⟨WB, 3, none⟩ = some (.slice r4 n s4) := by rw [cell_block HS.out.box]; rfl
      have ce4 : wr.cell? ⟨WB, 4, none⟩ = some (.slice r5 n s5) := by rw [cell_block HS.out.box]; rfl
      have lRB : RB < WB := by omega
      have n1' : ¬ RB = WB := by omega
      have n2' : ¬ WB = RB := by omega
      clear HRB
      go_wp2_with fail
      try simp only [Exit.inBlock, Exit.then]
      refine bodyPost_ret (v := .agg #[.slice r1 n s1, .slice none 0 0, .slice none 0 0, .slice r4 n s4, .slice r5 n s5]) (by simp [*, results, Try.results11, go_sem]) rfl ?_
      have h := HS.out
      have hl := HN.out
      have hwb : w.heap.size ≤ wb.heap.size := by omega
      refine ⟨_, _, _, rfl, ⟨?_, ?_, ?_, fun g h1 h2 => ?_, fun g h1 h2 => ?_, h.a45⟩, (Below.setCell (p := ⟨RB, 4, none⟩) (Below.setCell (p := ⟨RB, 3, none⟩) (Below.setCell (p := ⟨RB, 2, none⟩) (Below.setCell (p := ⟨RB, 1, none⟩) (Below.setCell (p := ⟨RB, 0, none⟩) (HBA.out _ HBL.out) lRW _) lRW _) lRW _) lRW _) lRW _)⟩
      · rw [← hl]; exact own_mono (own_off (own_off (own_off (own_off (own_off h.o1 (zRB0) _) (zRB0) _) (zRB0) _) (zRB0) _) (zRB0) _) hwb
      · rw [← hl]; exact own_mono (own_off (own_off (own_off (own_off (own_off h.o4 (Nat.lt_succ_of_lt lRB) _) (Nat.lt_succ_of_lt lRB) _) (Nat.lt_succ_of_lt lRB) _) (Nat.lt_succ_of_lt lRB) _) (Nat.lt_succ_of_lt lRB) _) (by omega)
      · rw [← hl]; exact own_mono (own_off (own_off (own_off (own_off (own_off h.o5 (Nat.lt_succ_of_lt lRB) _) (Nat.lt_succ_of_lt lRB) _) (Nat.lt_succ_of_lt lRB) _) (Nat.lt_succ_of_lt lRB) _) (Nat.lt_succ_of_lt lRB) _) (by omega)
      · have := h.lt1 g h1; have := (h.o4.lt g h2).1; omega
      · have := h.lt1 g h1; have := (h.o5.lt g h2).1; omega
theorem spec_WorldNew (v : Value) (xs : List (Int × Int × Int)) (w : World) (h : RowAt 3 encPerson w v xs) (hl : xs.length ≤ 1048576) :
    Calls Try.prog 11 #[v] w fun e w' => ∃ u1 u4 u5, e = .returned (.agg #[u1, .slice none 0 0, .slice none 0 0, u4, u5]) ∧ NewW w' w.heap.size u1 u4 u5 (newL xs) ∧ Below w.heap.size w w' := by
  obtain ⟨a, c, rfl⟩ := h.len
  unfold newL
  cases hp : peopleB xs
  · exact (spec_WorldNew_bad a c _ xs w h hl hp).mono fun e w' ⟨h1, h2⟩ => ⟨_, _, _, h1, NewW.none _ _, h2⟩
  · have h4 : xs.length ≤ 4 := by unfold peopleB at hp; simp at hp; exact hp.1
    exact spec_WorldNew_walk a c _ xs w h4 h rfl hp
end Go.Proofs.Ytnhacflknkgfgaa.Lab

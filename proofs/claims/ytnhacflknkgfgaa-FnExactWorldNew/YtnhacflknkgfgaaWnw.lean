/-
  A new world: WorldNew of the program. (Written by tools/mkwnw.py.)
-/
import Derived.Test.YtnhacflknkgfgaaWto
import Derived.Test.YtnhacflknkgfgaaPeo
import Derived.Test.YtnhacflknkgfgaaApp
namespace Go.Proofs.Ytnhacflknkgfgaa.Lab
open Go.RowKit
set_option linter.unusedVariables false
/-- Two values own no block in common. -/
def Apt (a b : Value) : Prop := ∀ g, a.ownBlock = some g → b.ownBlock ≠ some g
theorem Apt.symm {a b : Value} (h : Apt a b) : Apt b a := fun g h1 h2 => h g h2 h1
def encZ (x : Int × Int × Int) : List Value := [.int .i64 x.2.1, .slice none 0 0]
def encQ (x : Int × Int × Int) : List Value := [.int .i64 x.2.2]
/-- A world under way: its box, and the three rows that have been laid so far; no row lies in the block PB. -/
structure WnAt (w : World) (WB PB : Nat) (u1 u4 u5 : Value) (n1 n4 n5 : Nat) (l1 l4 l5 : List Value) : Prop where
  box : w.heap[WB]? = some (.cells #[u1, .slice none 0 0, .slice none 0 0, u4, u5] 38 (0, 0))
  o1 : w.ownsRow (WB + 1) 25 3 u1 n1 l1
  o4 : w.ownsRow (WB + 1) 66 2 u4 n4 l4
  o5 : w.ownsRow (WB + 1) 3 1 u5 n5 l5
  a14 : Apt u1 u4
  a15 : Apt u1 u5
  a45 : Apt u4 u5
  p1 : u1.ownBlock ≠ some PB
  p4 : u4.ownBlock ≠ some PB
  p5 : u5.ownBlock ≠ some PB
theorem WnAt.keep {w w' : World} {WB PB : Nat} {u1 u4 u5 : Value} {n1 n4 n5 : Nat} {l1 l4 l5 : List Value} (h : WnAt w WB PB u1 u4 u5 n1 n4 n5 l1 l4 l5) (hb : Below w.heap.size w w') : WnAt w' WB PB u1 u4 u5 n1 n4 n5 l1 l4 l5 :=
  ⟨(hb.block _ (lt_of_block h.box)).trans h.box, own_keep h.o1 hb, own_keep h.o4 hb, own_keep h.o5 hb, h.a14, h.a15, h.a45, h.p1, h.p4, h.p5⟩
/-- Another block is set by: none of the rows lies there, as all are elder. -/
theorem WnAt.at {w : World} {WB PB : Nat} {u1 u4 u5 : Value} {n1 n4 n5 : Nat} {l1 l4 l5 : List Value} (h : WnAt w WB PB u1 u4 u5 n1 n4 n5 l1 l4 l5) {Q : Nat} (hQ : w.heap.size ≤ Q) : WnAt w WB Q u1 u4 u5 n1 n4 n5 l1 l4 l5 :=
  ⟨h.box, h.o1, h.o4, h.o5, h.a14, h.a15, h.a45, fun e => by have := (h.o1.lt _ e).2; omega, fun e => by have := (h.o4.lt _ e).2; omega, fun e => by have := (h.o5.lt _ e).2; omega⟩
theorem oth {w w' : World} {o : Obj} {WB j e s n : Nat} {u uj v' : Value} {l : List Value} (h : w.ownsRow (WB + 1) e s u n l) (ha : Apt uj u) (hg : (w.alloc o).grownBy w' uj.ownBlock) (hat : v'.ownBlock = uj.ownBlock ∨ v'.ownBlock = some (w.alloc o).heap.size) :
    (w'.setCell ⟨WB, j, none⟩ v').ownsRow (WB + 1) e s u n l ∧ Apt v' u := by
  refine ⟨own_off (own_gr (h.alloc o) hg (fun k h1 h2 => ha k h2 h1)) (Nat.lt_succ_self _) _, fun g h1 h2 => ?_⟩
  rcases hat with e | e
  · exact ha g (by rw [← e]; exact h1) h2
  · have := (h.lt g h2).2
    rw [e] at h1
    simp at h1
    omega
theorem pb_off {w : World} {o : Obj} {PB : Nat} {uj v' : Value} (hp : uj.ownBlock ≠ some PB) (hPB : PB < w.heap.size) (hat : v'.ownBlock = uj.ownBlock ∨ v'.ownBlock = some (w.alloc o).heap.size) : v'.ownBlock ≠ some PB := by
  rcases hat with e | e
  · rw [e]; exact hp
  · rw [e]; simp; omega
theorem box_grown {w w' : World} {o : Obj} {WB : Nat} {uj : Value} {c : Obj} (hb : w.heap[WB]? = some c) (ho : uj.ownBlock ≠ some WB) (hg : (w.alloc o).grownBy w' uj.ownBlock) : w'.heap[WB]? = some c := by
  have hlt := lt_of_block hb
  have h1 : Below w.heap.size w (w.alloc o) := (Below.refl _ _).alloc (Nat.le_refl _) _
  exact (hg.block WB (by simp; omega) (fun e => ho e.symm)).trans ((h1.block _ hlt).trans hb)
theorem own_ne {w : World} {WB e s n : Nat} {u : Value} {l : List Value} (h : w.ownsRow (WB + 1) e s u n l) : u.ownBlock ≠ some WB := fun hh => by have := (h.lt _ hh).1; omega
theorem WnAt.grow1 {w w' : World} {o : Obj} {WB PB : Nat} {u1 u4 u5 v' : Value} {n1 n4 n5 n' : Nat} {l1 l4 l5 l' : List Value} (h : WnAt w WB PB u1 u4 u5 n1 n4 n5 l1 l4 l5) (hPB : PB < w.heap.size) (ho : w'.ownsRow (WB + 1) 25 3 v' n' l') (hg : (w.alloc o).grownBy w' u1.ownBlock) (hat : v'.ownBlock = u1.ownBlock ∨ v'.ownBlock = some (w.alloc o).heap.size) :
    WnAt (w'.setCell ⟨WB, 0, none⟩ v') WB PB v' u4 u5 n' n4 n5 l' l4 l5 :=
  ⟨by rw [set_block _ (box_grown h.box (own_ne h.o1) hg)]; rfl, own_off ho (Nat.lt_succ_self _) _, (oth (j := 0) h.o4 h.a14 hg hat).1, (oth (j := 0) h.o5 h.a15 hg hat).1, (oth (j := 0) h.o4 h.a14 hg hat).2, (oth (j := 0) h.o5 h.a15 hg hat).2, h.a45, pb_off h.p1 hPB hat, h.p4, h.p5⟩
theorem WnAt.grow4 {w w' : World} {o : Obj} {WB PB : Nat} {u1 u4 u5 v' : Value} {n1 n4 n5 n' : Nat} {l1 l4 l5 l' : List Value} (h : WnAt w WB PB u1 u4 u5 n1 n4 n5 l1 l4 l5) (hPB : PB < w.heap.size) (ho : w'.ownsRow (WB + 1) 66 2 v' n' l') (hg : (w.alloc o).grownBy w' u4.ownBlock) (hat : v'.ownBlock = u4.ownBlock ∨ v'.ownBlock = some (w.alloc o).heap.size) :
    WnAt (w'.setCell ⟨WB, 3, none⟩ v') WB PB u1 v' u5 n1 n' n5 l1 l' l5 :=
  ⟨by rw [set_block _ (box_grown h.box (own_ne h.o4) hg)]; rfl, (oth (j := 3) h.o1 h.a14.symm hg hat).1, own_off ho (Nat.lt_succ_self _) _, (oth (j := 3) h.o5 h.a45 hg hat).1, (oth (j := 3) h.o1 h.a14.symm hg hat).2.symm, h.a15, (oth (j := 3) h.o5 h.a45 hg hat).2, h.p1, pb_off h.p4 hPB hat, h.p5⟩
theorem WnAt.grow5 {w w' : World} {o : Obj} {WB PB : Nat} {u1 u4 u5 v' : Value} {n1 n4 n5 n' : Nat} {l1 l4 l5 l' : List Value} (h : WnAt w WB PB u1 u4 u5 n1 n4 n5 l1 l4 l5) (hPB : PB < w.heap.size) (ho : w'.ownsRow (WB + 1) 3 1 v' n' l') (hg : (w.alloc o).grownBy w' u5.ownBlock) (hat : v'.ownBlock = u5.ownBlock ∨ v'.ownBlock = some (w.alloc o).heap.size) :
    WnAt (w'.setCell ⟨WB, 4, none⟩ v') WB PB u1 u4 v' n1 n4 n' l1 l4 l' :=
  ⟨by rw [set_block _ (box_grown h.box (own_ne h.o5) hg)]; rfl, (oth (j := 4) h.o1 h.a15.symm hg hat).1, (oth (j := 4) h.o4 h.a45.symm hg hat).1, own_off ho (Nat.lt_succ_self _) _, h.a14, (oth (j := 4) h.o1 h.a15.symm hg hat).2.symm, (oth (j := 4) h.o4 h.a45.symm hg hat).2.symm, h.p1, h.p4, pb_off h.p5 hPB hat⟩
theorem encZ_len (x : Int × Int × Int) : (encZ x).length = 2 := rfl
theorem encQ_len (x : Int × Int × Int) : (encQ x).length = 1 := rfl
theorem encPerson_one (x : Int × Int × Int) : ∀ u ∈ encPerson x, u.oneCell' = true := fun u hu => by simp [encPerson] at hu; rcases hu with rfl | rfl | rfl <;> rfl
theorem encZ_one (x : Int × Int × Int) : ∀ u ∈ encZ x, u.oneCell' = true := fun u hu => by simp [encZ] at hu; rcases hu with rfl | rfl <;> rfl
theorem encQ_one (x : Int × Int × Int) : ∀ u ∈ encQ x, u.oneCell' = true := fun u hu => by simp [encQ] at hu; subst hu; rfl
theorem new_row {α : Type} {s : Nat} {enc : α → List Value} (w : World) (x : α) (t : TypeId) : RowAt s enc (w.alloc (.cells (enc x).toArray t)) (.slice (some ⟨w.heap.size, 0, none⟩) 1 1) [x] := by
  refine .inr ⟨by simp, w.heap.size, 0, 1, rfl, by simp, fun j y hy i u hu => ?_⟩
  match j, hy with
  | 0, hy =>
    simp at hy
    subst hy
    rw [cell_block (new_block w _)]
    simpa using hu
/-- The answer's box, as it was made. -/
def RbAt (w : World) (RB : Nat) : Prop := w.heap[RB]? = some (.cells #[.slice none 0 0, .slice none 0 0, .slice none 0 0, .slice none 0 0, .slice none 0 0] 38 (0, 0))
theorem RbAt.keep {w w' : World} {RB : Nat} (h : RbAt w RB) (hb : Below w.heap.size w w') : RbAt w' RB := (hb.block _ (lt_of_block h)).trans h
/-- What a new world owns. -/
structure NewW (w : World) (base : Nat) (u1 u4 u5 : Value) (xs : List (Int × Int × Int)) : Prop where
  o1 : w.ownsRow base 25 3 u1 xs.length (xs.flatMap encPerson)
  o4 : w.ownsRow base 66 2 u4 xs.length (xs.flatMap encZ)
  o5 : w.ownsRow base 3 1 u5 xs.length (xs.flatMap encQ)
  a14 : Apt u1 u4
  a15 : Apt u1 u5
  a45 : Apt u4 u5
set_option maxRecDepth 16000 in
set_option maxHeartbeats 8000000 in
theorem impl_WorldNew_walk (a : Option Addr) (cap n : Nat) (xs : List (Int × Int × Int)) (w : World) (hn : n ≤ 4) (h : RowAt 3 encPerson w (.slice a n cap) xs) (hN : n = xs.length) (hp : peopleB xs = true) :
    Calls Try.prog 13 #[.slice a n cap] w fun e w' => ∃ u1 u4 u5, e = .returned (.agg #[u1, .slice none 0 0, .slice none 0 0, u4, u5]) ∧ NewW w' w.heap.size u1 u4 u5 xs ∧ Below w.heap.size w w' := by
  have HN : Hid (n = xs.length) := hN
  have HP : Hid (peopleB xs = true) := hp
  clear hN hp
  obtain ⟨iP, jP, zP0, zP1, zP2⟩ := info_parts Try.infoPerson
  obtain ⟨iZ, jZ, zZ0, zZ1, zZ2⟩ := info_parts Try.infoPool
  obtain ⟨iI, jI, zI0, zI1, zI2⟩ := info_parts Try.infoI
  obtain ⟨A, hA⟩ : ∃ t, t = w.heap.size := ⟨_, rfl⟩
  have HA : Hid (A = w.heap.size) := hA
  have BB : Below A w w := Below.refl _ _
  have sA : A ≤ w.heap.size := by omega
  clear hA
  have HX : Hid (RowAt 3 encPerson w (.slice a n cap) xs) := h
  clear h
  go_enter Try.func13, Try.ntmps13
  go_wp2_with fail
  obtain ⟨RB, hRB⟩ : ∃ t, t = w.heap.size := ⟨_, rfl⟩
  generalize hW : w.alloc (.cells #[.slice none 0 0, .slice none 0 0, .slice none 0 0, .slice none 0 0, .slice none 0 0] 38) = wa
  have nb : Below w.heap.size w wa := by rw [← hW]; exact (Below.refl _ _).alloc (Nat.le_refl _) _
  have HR0 : Hid (RbAt wa RB) := by show RbAt wa RB; unfold RbAt; rw [← hW, hRB]; exact new_block _ _
  have lRA : A ≤ RB := by rw [hRB]; exact sA
  have lRW : w.heap.size ≤ RB := by omega
  rw [← hRB]
  clear hW hRB
  have BB1 : Below A w wa := BB.trans (nb.mono (by omega))
  have sA1 : A ≤ wa.heap.size := by have := Below.size nb; omega
  have q0 : Hid (RowAt 3 encPerson wa (.slice a n cap) xs) := HX.out.keep nb
  clear BB sA   HX
  have HX := q0
  have BB := BB1
  have sA := sA1
  clear BB1 sA1   q0
  clear nb
  have HRB : Hid (RbAt wa RB) := HR0.out
  clear HR0
  refine (impl_peopleOk _ xs _ HX.out (by rw [← HN.out]; omega)).mono ?_
  rintro e wb ⟨rfl, bz⟩
  have BB1 : Below A w wb := BB.trans (bz.mono (by omega))
  have sA1 : A ≤ wb.heap.size := by have := Below.size bz; omega
  have q0 : Hid (RowAt 3 encPerson wb (.slice a n cap) xs) := HX.out.keep bz
  have q1 : Hid (RbAt wb RB) := HRB.out.keep bz
  clear BB sA   HX HRB
  have HX := q0
  have HRB := q1
  have BB := BB1
  have sA := sA1
  clear BB1 sA1   q0 q1
  clear bz
  rw [HP.out]
  go_wp2_with fail
  have HRW : Hid (RbAt wb RB) := HRB
  obtain ⟨WB, hWB⟩ : ∃ t, t = wb.heap.size := ⟨_, rfl⟩
  generalize hW : wb.alloc (.cells #[.slice none 0 0, .slice none 0 0, .slice none 0 0, .slice none 0 0, .slice none 0 0] 38) = ws
  have nbs : Below wb.heap.size wb ws := by rw [← hW]; exact (Below.refl _ _).alloc (Nat.le_refl _) _
  have HS0 : Hid (WnAt ws WB WB (.slice none 0 0) (.slice none 0 0) (.slice none 0 0) 0 0 0 [] [] []) := ⟨by rw [← hW, hWB]; exact new_block _ _, World.ownsRow_nil _ _ _ _, World.ownsRow_nil _ _ _ _, World.ownsRow_nil _ _ _ _, fun g h => by simp [Value.ownBlock] at h, fun g h => by simp [Value.ownBlock] at h, fun g h => by simp [Value.ownBlock] at h, by simp [Value.ownBlock], by simp [Value.ownBlock], by simp [Value.ownBlock]⟩
  have lWB : wb.heap.size ≤ WB := by omega
  rw [← hWB]
  clear hW hWB
  go_loopw [12] (fun i wr => ∃ (k : Nat) (u1 u4 u5 : Value), k ≤ n ∧ i = .int .i64 k ∧ Below wb.heap.size wb wr ∧ WnAt wr WB WB u1 u4 u5 k k k ((xs.take k).flatMap encPerson) ((xs.take k).flatMap encZ) ((xs.take k).flatMap encQ)) (fun i _ => n - (intOf i).toNat)
  case atStart => exact ⟨0, _, _, _, by omega, rfl, nbs, HS0.out⟩
  case round =>
    clear nbs HS0
    obtain ⟨k, u1, u4, u5, hk, rfl, hbel, hsc⟩ := hrel
    have HBL : Hid (Below wb.heap.size wb wr) := hbel
    have sg : wb.heap.size ≤ wr.heap.size := hbel.size
    have zWB : WB < wr.heap.size := lt_of_block hsc.box
    have HS : Hid (WnAt wr WB WB u1 u4 u5 k k k ((xs.take k).flatMap encPerson) ((xs.take k).flatMap encZ) ((xs.take k).flatMap encQ)) := hsc
    clear hsc
    have BB1 : Below A w wr := BB.trans (hbel.mono (by omega))
    have sA1 : A ≤ wr.heap.size := by have := Below.size hbel; omega
    have q0 : Hid (RowAt 3 encPerson wr (.slice a n cap) xs) := HX.out.keep hbel
    have q1 : Hid (RbAt wr RB) := HRB.out.keep hbel
    clear BB sA   HX HRB
    have HX := q0
    have HRB := q1
    have BB := BB1
    have sA := sA1
    clear BB1 sA1   q0 q1
    clear hbel
    by_cases hlt : k < n
    · have k0 : (0 : Int) ≤ (k : Int) := by omega
      have k1 : (k : Int) < (n : Int) := by omega
      obtain ⟨⟨pc, ps, pq⟩, hx⟩ : ∃ x, xs[k]? = some x := ⟨_, List.getElem?_eq_getElem (by rw [← HN.out]; exact hlt)⟩
      rcases HX.out with ⟨hz0', _⟩ | ⟨_, b, off, cap', hv, zb, hc⟩
      · exfalso; rw [hz0'] at hx; simp at hx
      simp only [Value.slice.injEq] at hv
      obtain ⟨rfl, -, -⟩ := hv
      have e0' : wr.cell? ⟨b, off + k * 3, none⟩ = some (.int .i64 pc) := hc k _ hx 0 _ rfl
      have e1' : wr.cell? ⟨b, off + k * 3 + 1, none⟩ = some (.int .i64 ps) := hc k _ hx 1 _ rfl
      have e2' : wr.cell? ⟨b, off + k * 3 + 2, none⟩ = some (.int .i64 pq) := hc k _ hx 2 _ rfl
      clear hc
      have HXk : Hid (xs[k]? = some (pc, ps, pq)) := hx
      clear hx
      obtain ⟨r1, s1, rfl⟩ := own_form HS.out.o1
      obtain ⟨r4, s4, rfl⟩ := own_form HS.out.o4
      obtain ⟨r5, s5, rfl⟩ := own_form HS.out.o5
      obtain ⟨PB, hPB⟩ : ∃ t, t = wr.heap.size := ⟨_, rfl⟩
      obtain ⟨wp, hwp⟩ : ∃ t, t = wr.alloc (.cells #[.int .i64 pc, .int .i64 ps, .int .i64 pq] 25) := ⟨_, rfl⟩
      have nbp : Below wr.heap.size wr wp := by rw [hwp]; exact (Below.refl _ _).alloc (Nat.le_refl _) _
      have HS1 : Hid (WnAt wp WB PB (.slice r1 k s1) (.slice r4 k s4) (.slice r5 k s5) k k k ((xs.take k).flatMap encPerson) ((xs.take k).flatMap encZ) ((xs.take k).flatMap encQ)) := (HS.out.at (Q := PB) (by omega)).keep nbp
      have HPB : Hid (wp.heap[PB]? = some (.cells #[.int .i64 pc, .int .i64 ps, .int .i64 pq] 25 (0, 0))) := by rw [hwp, hPB]; exact new_block _ _
      have HBP : Hid (Below wb.heap.size wb wp) := HBL.out.trans (nbp.mono sg)
      have zPB : PB < wp.heap.size := lt_of_block HPB.out
      have zWP : WB < wp.heap.size := lt_of_block HS1.out.box
      have nWP : ¬ WB = PB := by omega
      have nPW : ¬ PB = WB := by omega
      have ce0 : wp.cell? ⟨WB, 0, none⟩ = some (.slice r1 k s1) := by rw [cell_block HS1.out.box]; rfl
      have ce1 : wp.cell? ⟨WB, 1, none⟩ = some (.slice none 0 0) := by rw [cell_block HS1.out.box]; rfl
      have ce2 : wp.cell? ⟨WB, 2, none⟩ = some (.slice none 0 0) := by rw [cell_block HS1.out.box]; rfl
      have ce3 : wp.cell? ⟨WB, 3, none⟩ = some (.slice r4 k s4) := by rw [cell_block HS1.out.box]; rfl
      have ce4 : wp.cell? ⟨WB, 4, none⟩ = some (.slice r5 k s5) := by rw [cell_block HS1.out.box]; rfl
      have cp0 : wp.cell? ⟨PB, 0, none⟩ = some (.int .i64 pc) := by rw [cell_block HPB.out]; rfl
      have cp1 : wp.cell? ⟨PB, 1, none⟩ = some (.int .i64 ps) := by rw [cell_block HPB.out]; rfl
      have cp2 : wp.cell? ⟨PB, 2, none⟩ = some (.int .i64 pq) := by rw [cell_block HPB.out]; rfl
      have cf : ∀ i, wp.frozen? ⟨WB, i, none⟩ = false := fun i => free_block HS1.out.box
      clear HS
      subst hPB
      subst hwp
      have HNR : Hid (RowAt 3 encPerson (World.alloc (wr.alloc (.cells #[.int .i64 pc, .int .i64 ps, .int .i64 pq] 25)) (.cells #[.int .i64 pc, .int .i64 ps, .int .i64 pq] 25)) (.slice (some ⟨wr.heap.size + 1, 0, none⟩) 1 1) [(pc, ps, pq)]) := by
        have h := new_row (s := 3) (enc := encPerson) (wr.alloc (.cells #[.int .i64 pc, .int .i64 ps, .int .i64 pq] 25)) (pc, ps, pq) 25
        first | exact h | (simp only [World.size_alloc] at h; exact h) | (simp only [World.size_setCell] at h; exact h) | (simp at h; exact h)
      go_wp2_with (at_builtin; refine wpList_appRow encPerson_len (by decide) encPerson_one rfl _ _ 30 rfl Try.underlying30 jP zP0 zP1 zP2 rfl (WB + 1) (.slice r1 k s1) k _ (.slice (some ⟨wr.heap.size + 1, 0, none⟩) 1 1) [(pc, ps, pq)] rfl rfl (HS1.out.o1.alloc _) HNR.out (by unfold maxLen; simp; omega) (by simp; omega) (by simp; omega) ?_)
      intro vv w3' ho hg ha
      have hoo : w3'.ownsRow (WB + 1) 25 3 vv (k + 1) (((xs.take k).flatMap encPerson) ++ [(pc, ps, pq)].flatMap encPerson) := ho
      obtain ⟨x1', y1', rfl⟩ := own_form hoo
      have H3 : Hid (WnAt (w3'.setCell ⟨WB, 0, none⟩ (.slice x1' (k + 1) y1')) WB wr.heap.size (.slice x1' (k + 1) y1') (.slice r4 k s4) (.slice r5 k s5) (k + 1) k k (((xs.take k).flatMap encPerson) ++ [(pc, ps, pq)].flatMap encPerson) ((xs.take k).flatMap encZ) ((xs.take k).flatMap encQ)) := HS1.out.grow1 zPB hoo hg (ha.imp id (fun e => e.trans (by simp)))
      have pb3 : w3'.heap[wr.heap.size]? = some (.cells #[.int .i64 pc, .int .i64 ps, .int .i64 pq] 25 (0, 0)) := box_grown HPB.out HS1.out.p1 hg
      have bx3 : w3'.heap[WB]? = some (.cells #[.slice r1 k s1, .slice none 0 0, .slice none 0 0, .slice r4 k s4, .slice r5 k s5] 38 (0, 0)) := box_grown HS1.out.box (own_ne HS1.out.o1) hg
      have HP3 : Hid ((w3'.setCell ⟨WB, 0, none⟩ (.slice x1' (k + 1) y1')).heap[wr.heap.size]? = some (.cells #[.int .i64 pc, .int .i64 ps, .int .i64 pq] 25 (0, 0))) := (Below.heap_setCell _ _ _ _ nPW).trans pb3
      have HB3 : Hid (Below wb.heap.size wb (w3'.setCell ⟨WB, 0, none⟩ (.slice x1' (k + 1) y1'))) := ((HBP.out.alloc HBP.out.size _).grown hg (by have := HBP.out.size; simp; omega) (fun g hgg => by have := (HS1.out.o1.lt g hgg).1; omega)).setCell lWB _
      have zz1 : wr.heap.size < w3'.heap.size := lt_of_block pb3
      have zz2 : WB < w3'.heap.size := lt_of_block bx3
      have zPB2 : wr.heap.size < (w3'.setCell ⟨WB, 0, none⟩ (.slice x1' (k + 1) y1')).heap.size := by simpa using zz1
      clear ce0 ce1 ce2 ce3 ce4 cp0 cp1 cp2 cf HNR ho hoo hg ha zPB HS1 HPB HBP
      have ce0 : w3'.cell? ⟨WB, 0, none⟩ = some (.slice r1 k s1) := by rw [cell_block bx3]; rfl
      have ce1 : w3'.cell? ⟨WB, 1, none⟩ = some (.slice none 0 0) := by rw [cell_block bx3]; rfl
      have ce2 : w3'.cell? ⟨WB, 2, none⟩ = some (.slice none 0 0) := by rw [cell_block bx3]; rfl
      have ce3 : w3'.cell? ⟨WB, 3, none⟩ = some (.slice r4 k s4) := by rw [cell_block bx3]; rfl
      have ce4 : w3'.cell? ⟨WB, 4, none⟩ = some (.slice r5 k s5) := by rw [cell_block bx3]; rfl
      have cp0 : w3'.cell? ⟨wr.heap.size, 0, none⟩ = some (.int .i64 pc) := by rw [cell_block pb3]; rfl
      have cp1 : w3'.cell? ⟨wr.heap.size, 1, none⟩ = some (.int .i64 ps) := by rw [cell_block pb3]; rfl
      have cp2 : w3'.cell? ⟨wr.heap.size, 2, none⟩ = some (.int .i64 pq) := by rw [cell_block pb3]; rfl
      have cf : ∀ i, w3'.frozen? ⟨WB, i, none⟩ = false := fun i => free_block bx3
      clear bx3 pb3
      have zPB := zPB2
      clear zPB2
      have HNR : Hid (RowAt 2 encZ (World.alloc (w3'.setCell ⟨WB, 0, none⟩ (.slice x1' (k + 1) y1')) (.cells #[.int .i64 ps, .slice none 0 0] 66)) (.slice (some ⟨w3'.heap.size, 0, none⟩) 1 1) [(pc, ps, pq)]) := by
        have h := new_row (s := 2) (enc := encZ) (w3'.setCell ⟨WB, 0, none⟩ (.slice x1' (k + 1) y1')) (pc, ps, pq) 66
        first | exact h | (simp only [World.size_alloc] at h; exact h) | (simp only [World.size_setCell] at h; exact h) | (simp at h; exact h)
      go_wp2_with (at_builtin; refine wpList_appRow encZ_len (by decide) encZ_one rfl _ _ 35 rfl Try.underlying35 jZ zZ0 zZ1 zZ2 rfl (WB + 1) (.slice r4 k s4) k _ (.slice (some ⟨w3'.heap.size, 0, none⟩) 1 1) [(pc, ps, pq)] rfl rfl (H3.out.o4.alloc _) HNR.out (by unfold maxLen; simp; omega) (by simp; omega) (by simp; omega) ?_)
      intro vv w4' ho hg ha
      have hoo : w4'.ownsRow (WB + 1) 66 2 vv (k + 1) (((xs.take k).flatMap encZ) ++ [(pc, ps, pq)].flatMap encZ) := ho
      obtain ⟨x4', y4', rfl⟩ := own_form hoo
      have H4 : Hid (WnAt (w4'.setCell ⟨WB, 3, none⟩ (.slice x4' (k + 1) y4')) WB wr.heap.size (.slice x1' (k + 1) y1') (.slice x4' (k + 1) y4') (.slice r5 k s5) (k + 1) (k + 1) k (((xs.take k).flatMap encPerson) ++ [(pc, ps, pq)].flatMap encPerson) (((xs.take k).flatMap encZ) ++ [(pc, ps, pq)].flatMap encZ) ((xs.take k).flatMap encQ)) := H3.out.grow4 zPB hoo hg (ha.imp id (fun e => e.trans (by simp)))
      have pb3 : w4'.heap[wr.heap.size]? = some (.cells #[.int .i64 pc, .int .i64 ps, .int .i64 pq] 25 (0, 0)) := box_grown HP3.out H3.out.p4 hg
      have bx3 : w4'.heap[WB]? = some (.cells #[.slice x1' (k + 1) y1', .slice none 0 0, .slice none 0 0, .slice r4 k s4, .slice r5 k s5] 38 (0, 0)) := box_grown H3.out.box (own_ne H3.out.o4) hg
      have HP4 : Hid ((w4'.setCell ⟨WB, 3, none⟩ (.slice x4' (k + 1) y4')).heap[wr.heap.size]? = some (.cells #[.int .i64 pc, .int .i64 ps, .int .i64 pq] 25 (0, 0))) := (Below.heap_setCell _ _ _ _ nPW).trans pb3
      have HB4 : Hid (Below wb.heap.size wb (w4'.setCell ⟨WB, 3, none⟩ (.slice x4' (k + 1) y4'))) := ((HB3.out.alloc HB3.out.size _).grown hg (by have := HB3.out.size; simp; omega) (fun g hgg => by have := (H3.out.o4.lt g hgg).1; omega)).setCell lWB _
      have zz1 : wr.heap.size < w4'.heap.size := lt_of_block pb3
      have zz2 : WB < w4'.heap.size := lt_of_block bx3
      have zPB2 : wr.heap.size < (w4'.setCell ⟨WB, 3, none⟩ (.slice x4' (k + 1) y4')).heap.size := by simpa using zz1
      clear ce0 ce1 ce2 ce3 ce4 cp0 cp1 cp2 cf HNR ho hoo hg ha zPB H3 HP3 HB3
      have ce0 : w4'.cell? ⟨WB, 0, none⟩ = some (.slice x1' (k + 1) y1') := by rw [cell_block bx3]; rfl
      have ce1 : w4'.cell? ⟨WB, 1, none⟩ = some (.slice none 0 0) := by rw [cell_block bx3]; rfl
      have ce2 : w4'.cell? ⟨WB, 2, none⟩ = some (.slice none 0 0) := by rw [cell_block bx3]; rfl
      have ce3 : w4'.cell? ⟨WB, 3, none⟩ = some (.slice r4 k s4) := by rw [cell_block bx3]; rfl
      have ce4 : w4'.cell? ⟨WB, 4, none⟩ = some (.slice r5 k s5) := by rw [cell_block bx3]; rfl
      have cp0 : w4'.cell? ⟨wr.heap.size, 0, none⟩ = some (.int .i64 pc) := by rw [cell_block pb3]; rfl
      have cp1 : w4'.cell? ⟨wr.heap.size, 1, none⟩ = some (.int .i64 ps) := by rw [cell_block pb3]; rfl
      have cp2 : w4'.cell? ⟨wr.heap.size, 2, none⟩ = some (.int .i64 pq) := by rw [cell_block pb3]; rfl
      have cf : ∀ i, w4'.frozen? ⟨WB, i, none⟩ = false := fun i => free_block bx3
      clear bx3 pb3
      have zPB := zPB2
      clear zPB2
      have HNR : Hid (RowAt 1 encQ (World.alloc (w4'.setCell ⟨WB, 3, none⟩ (.slice x4' (k + 1) y4')) (.cells #[.int .i64 pq] 3)) (.slice (some ⟨w4'.heap.size, 0, none⟩) 1 1) [(pc, ps, pq)]) := by
        have h := new_row (s := 1) (enc := encQ) (w4'.setCell ⟨WB, 3, none⟩ (.slice x4' (k + 1) y4')) (pc, ps, pq) 3
        first | exact h | (simp only [World.size_alloc] at h; exact h) | (simp only [World.size_setCell] at h; exact h) | (simp at h; exact h)
      go_wp2_with (at_builtin; refine wpList_appRow encQ_len (by decide) encQ_one rfl _ _ 36 rfl Try.underlying36 jI zI0 zI1 zI2 rfl (WB + 1) (.slice r5 k s5) k _ (.slice (some ⟨w4'.heap.size, 0, none⟩) 1 1) [(pc, ps, pq)] rfl rfl (H4.out.o5.alloc _) HNR.out (by unfold maxLen; simp; omega) (by simp; omega) (by simp; omega) ?_)
      intro vv w5' ho hg ha
      have hoo : w5'.ownsRow (WB + 1) 3 1 vv (k + 1) (((xs.take k).flatMap encQ) ++ [(pc, ps, pq)].flatMap encQ) := ho
      obtain ⟨x5', y5', rfl⟩ := own_form hoo
      have H5 : Hid (WnAt (w5'.setCell ⟨WB, 4, none⟩ (.slice x5' (k + 1) y5')) WB wr.heap.size (.slice x1' (k + 1) y1') (.slice x4' (k + 1) y4') (.slice x5' (k + 1) y5') (k + 1) (k + 1) (k + 1) (((xs.take k).flatMap encPerson) ++ [(pc, ps, pq)].flatMap encPerson) (((xs.take k).flatMap encZ) ++ [(pc, ps, pq)].flatMap encZ) (((xs.take k).flatMap encQ) ++ [(pc, ps, pq)].flatMap encQ)) := H4.out.grow5 zPB hoo hg (ha.imp id (fun e => e.trans (by simp)))
      have pb3 : w5'.heap[wr.heap.size]? = some (.cells #[.int .i64 pc, .int .i64 ps, .int .i64 pq] 25 (0, 0)) := box_grown HP4.out H4.out.p5 hg
      have bx3 : w5'.heap[WB]? = some (.cells #[.slice x1' (k + 1) y1', .slice none 0 0, .slice none 0 0, .slice x4' (k + 1) y4', .slice r5 k s5] 38 (0, 0)) := box_grown H4.out.box (own_ne H4.out.o5) hg
      have HP5 : Hid ((w5'.setCell ⟨WB, 4, none⟩ (.slice x5' (k + 1) y5')).heap[wr.heap.size]? = some (.cells #[.int .i64 pc, .int .i64 ps, .int .i64 pq] 25 (0, 0))) := (Below.heap_setCell _ _ _ _ nPW).trans pb3
      have HB5 : Hid (Below wb.heap.size wb (w5'.setCell ⟨WB, 4, none⟩ (.slice x5' (k + 1) y5'))) := ((HB4.out.alloc HB4.out.size _).grown hg (by have := HB4.out.size; simp; omega) (fun g hgg => by have := (H4.out.o5.lt g hgg).1; omega)).setCell lWB _
      have zz1 : wr.heap.size < w5'.heap.size := lt_of_block pb3
      have zz2 : WB < w5'.heap.size := lt_of_block bx3
      have zPB2 : wr.heap.size < (w5'.setCell ⟨WB, 4, none⟩ (.slice x5' (k + 1) y5')).heap.size := by simpa using zz1
      clear ce0 ce1 ce2 ce3 ce4 cp0 cp1 cp2 cf HNR ho hoo hg ha zPB H4 HP4 HB4
      have ce0 : w5'.cell? ⟨WB, 0, none⟩ = some (.slice x1' (k + 1) y1') := by rw [cell_block bx3]; rfl
      have ce1 : w5'.cell? ⟨WB, 1, none⟩ = some (.slice none 0 0) := by rw [cell_block bx3]; rfl
      have ce2 : w5'.cell? ⟨WB, 2, none⟩ = some (.slice none 0 0) := by rw [cell_block bx3]; rfl
      have ce3 : w5'.cell? ⟨WB, 3, none⟩ = some (.slice x4' (k + 1) y4') := by rw [cell_block bx3]; rfl
      have ce4 : w5'.cell? ⟨WB, 4, none⟩ = some (.slice r5 k s5) := by rw [cell_block bx3]; rfl
      have cp0 : w5'.cell? ⟨wr.heap.size, 0, none⟩ = some (.int .i64 pc) := by rw [cell_block pb3]; rfl
      have cp1 : w5'.cell? ⟨wr.heap.size, 1, none⟩ = some (.int .i64 ps) := by rw [cell_block pb3]; rfl
      have cp2 : w5'.cell? ⟨wr.heap.size, 2, none⟩ = some (.int .i64 pq) := by rw [cell_block pb3]; rfl
      have cf : ∀ i, w5'.frozen? ⟨WB, i, none⟩ = false := fun i => free_block bx3
      clear bx3 pb3
      have zPB := zPB2
      clear zPB2
      go_wp2_with fail
      go_roundw
      case rel =>
        have ht : xs.take (k + 1) = xs.take k ++ [(pc, ps, pq)] := by rw [List.take_add_one, HXk.out]; rfl
        refine ⟨k + 1, .slice x1' (k + 1) y1', .slice x4' (k + 1) y4', .slice x5' (k + 1) y5', by omega, by go_num, HB5.out, ?_⟩
        rw [ht, List.flatMap_append, List.flatMap_append, List.flatMap_append]
        have h := H5.out
        exact ⟨h.box, h.o1, h.o4, h.o5, h.a14, h.a15, h.a45, own_ne h.o1, own_ne h.o4, own_ne h.o5⟩
      case measure => simp [intOf]; omega
    · obtain rfl : n = k := by omega
      obtain ⟨r1, s1, rfl⟩ := own_form HS.out.o1
      obtain ⟨r4, s4, rfl⟩ := own_form HS.out.o4
      obtain ⟨r5, s5, rfl⟩ := own_form HS.out.o5
      have ht : xs.take n = xs := by rw [HN.out, List.take_length]
      rw [ht] at HS
      have qq0 : wr.cell? ⟨RB, 0, none⟩ = some (.slice none 0 0) := by rw [cell_block (show wr.heap[RB]? = _ from HRB.out)]; rfl
      have qq1 : wr.cell? ⟨RB, 1, none⟩ = some (.slice none 0 0) := by rw [cell_block (show wr.heap[RB]? = _ from HRB.out)]; rfl
      have qq2 : wr.cell? ⟨RB, 2, none⟩ = some (.slice none 0 0) := by rw [cell_block (show wr.heap[RB]? = _ from HRB.out)]; rfl
      have qq3 : wr.cell? ⟨RB, 3, none⟩ = some (.slice none 0 0) := by rw [cell_block (show wr.heap[RB]? = _ from HRB.out)]; rfl
      have qq4 : wr.cell? ⟨RB, 4, none⟩ = some (.slice none 0 0) := by rw [cell_block (show wr.heap[RB]? = _ from HRB.out)]; rfl
      have qf : ∀ i, wr.frozen? ⟨RB, i, none⟩ = false := fun i => free_block (show wr.heap[RB]? = _ from HRB.out)
      have zRB : RB < wr.heap.size := lt_of_block (show wr.heap[RB]? = _ from HRB.out)
      have ce0 : wr.cell? ⟨WB, 0, none⟩ = some (.slice r1 n s1) := by rw [cell_block HS.out.box]; rfl
      have ce1 : wr.cell? ⟨WB, 1, none⟩ = some (.slice none 0 0) := by rw [cell_block HS.out.box]; rfl
      have ce2 : wr.cell? ⟨WB, 2, none⟩ = some (.slice none 0 0) := by rw [cell_block HS.out.box]; rfl
      have ce3 : wr.cell? ⟨WB, 3, none⟩ = some (.slice r4 n s4) := by rw [cell_block HS.out.box]; rfl
      have ce4 : wr.cell? ⟨WB, 4, none⟩ = some (.slice r5 n s5) := by rw [cell_block HS.out.box]; rfl
      have lRB : RB < WB := by have := lt_of_block (show wb.heap[RB]? = _ from HRW.out); omega
      have n1' : ¬ RB = WB := by omega
      have n2' : ¬ WB = RB := by omega
      go_wp2_with fail
      try simp only [Exit.inBlock, Exit.then]
      refine bodyPost_ret (v := .agg #[.slice r1 n s1, .slice none 0 0, .slice none 0 0, .slice r4 n s4, .slice r5 n s5]) (by simp [*, results, Try.results13, go_sem]) rfl ?_
      have h := HS.out
      have hl := HN.out
      refine ⟨_, _, _, rfl, ⟨?_, ?_, ?_, h.a14, h.a15, h.a45⟩, (Below.setCell (p := ⟨RB, 4, none⟩) (Below.setCell (p := ⟨RB, 3, none⟩) (Below.setCell (p := ⟨RB, 2, none⟩) (Below.setCell (p := ⟨RB, 1, none⟩) (Below.setCell (p := ⟨RB, 0, none⟩) (by have := BB; rw [HA.out] at this; exact this : Below w.heap.size w wr) lRW _) lRW _) lRW _) lRW _) lRW _)⟩
      · rw [← hl]; exact own_mono (own_off (own_off (own_off (own_off (own_off h.o1 (Nat.lt_succ_of_lt lRB) _) (Nat.lt_succ_of_lt lRB) _) (Nat.lt_succ_of_lt lRB) _) (Nat.lt_succ_of_lt lRB) _) (Nat.lt_succ_of_lt lRB) _) (by omega)
      · rw [← hl]; exact own_mono (own_off (own_off (own_off (own_off (own_off h.o4 (Nat.lt_succ_of_lt lRB) _) (Nat.lt_succ_of_lt lRB) _) (Nat.lt_succ_of_lt lRB) _) (Nat.lt_succ_of_lt lRB) _) (Nat.lt_succ_of_lt lRB) _) (by omega)
      · rw [← hl]; exact own_mono (own_off (own_off (own_off (own_off (own_off h.o5 (Nat.lt_succ_of_lt lRB) _) (Nat.lt_succ_of_lt lRB) _) (Nat.lt_succ_of_lt lRB) _) (Nat.lt_succ_of_lt lRB) _) (Nat.lt_succ_of_lt lRB) _) (by omega)
set_option maxHeartbeats 2000000 in
theorem impl_WorldNew_bad (a : Option Addr) (cap n : Nat) (xs : List (Int × Int × Int)) (w : World) (h : RowAt 3 encPerson w (.slice a n cap) xs) (hl : xs.length ≤ 1048576) (hp : peopleB xs = false) :
    Calls Try.prog 13 #[.slice a n cap] w fun e w' => e = .returned (.agg #[.slice none 0 0, .slice none 0 0, .slice none 0 0, .slice none 0 0, .slice none 0 0]) ∧ Below w.heap.size w w' := by
  have b0 : ∀ o, Below w.heap.size w (w.alloc o) := fun o => (Below.refl _ _).alloc (Nat.le_refl _) _
  have H : Hid (∀ o, RowAt 3 encPerson (w.alloc o) (.slice a n cap) xs) := fun o => h.keep (b0 o)
  clear h
  go_enter Try.func13, Try.ntmps13
  go_wp2_with fail
  refine (impl_peopleOk _ xs _ (H.out _) hl).mono ?_
  rintro e w1 ⟨rfl, b1⟩
  rw [hp]
  have hc := Below.celz (b1.mono (B' := w.heap.size + 1) (by simp))
  have hf := Below.froz (b1.mono (B' := w.heap.size + 1) (by simp))
  have hs1 : w.heap.size + 1 ≤ w1.heap.size := by have := b1.size; simp at this; omega
  have HB : Hid (Below w.heap.size w w1) := (b0 _).trans (b1.mono (by simp))
  clear b1 H b0
  go_wp2_with fail
  refine bodyPost_ret (v := .agg #[.slice none 0 0, .slice none 0 0, .slice none 0 0, .slice none 0 0, .slice none 0 0]) (by simp [*, results, Try.results13, go_sem]) rfl ?_
  refine ⟨rfl, ?_⟩
  have := HB.out
  first | exact this | go_grown
set_option maxHeartbeats 2000000 in
theorem spec_WorldNew_bad (a : Option Addr) (cap n : Nat) (xs : List (Int × Int × Int)) (w : World) (h : RowAt 3 encPerson w (.slice a n cap) xs) (hl : xs.length ≤ 1048576) (hp : peopleB xs = false) :
    Calls Try.prog 11 #[.slice a n cap] w fun e w' => e = .returned (.agg #[.slice none 0 0, .slice none 0 0, .slice none 0 0, .slice none 0 0, .slice none 0 0]) ∧ Below w.heap.size w w' := by
  have b0 : ∀ o, Below w.heap.size w (w.alloc o) := fun o => (Below.refl _ _).alloc (Nat.le_refl _) _
  have H : Hid (∀ o, RowAt 3 encPerson (w.alloc o) (.slice a n cap) xs) := fun o => h.keep (b0 o)
  clear h
  go_enter Try.func11, Try.ntmps11
  go_wp2_with fail
  refine (spec_l7People _ xs _ (H.out _) hl).mono ?_
  rintro e w1 ⟨rfl, b1⟩
  rw [hp]
  have hc := Below.celz (b1.mono (B' := w.heap.size + 1) (by simp))
  have hf := Below.froz (b1.mono (B' := w.heap.size + 1) (by simp))
  have hs1 : w.heap.size + 1 ≤ w1.heap.size := by have := b1.size; simp at this; omega
  have HB : Hid (Below w.heap.size w w1) := (b0 _).trans (b1.mono (by simp))
  clear b1 H b0
  go_wp2_with fail
  refine bodyPost_ret (v := .agg #[.slice none 0 0, .slice none 0 0, .slice none 0 0, .slice none 0 0, .slice none 0 0]) (by simp [*, results, Try.results11, go_sem]) rfl ?_
  refine ⟨rfl, ?_⟩
  have := HB.out
  first | exact this | go_grown
/-- Whom a new world holds. -/
def newL (xs : List (Int × Int × Int)) : List (Int × Int × Int) := if peopleB xs then xs else []
theorem NewW.none (w : World) (base : Nat) : NewW w base (.slice none 0 0) (.slice none 0 0) (.slice none 0 0) [] :=
  ⟨World.ownsRow_nil _ _ _ _, World.ownsRow_nil _ _ _ _, World.ownsRow_nil _ _ _ _, fun g h => by simp [Value.ownBlock] at h, fun g h => by simp [Value.ownBlock] at h, fun g h => by simp [Value.ownBlock] at h⟩
theorem impl_WorldNew (v : Value) (xs : List (Int × Int × Int)) (w : World) (h : RowAt 3 encPerson w v xs) (hl : xs.length ≤ 1048576) :
    Calls Try.prog 13 #[v] w fun e w' => ∃ u1 u4 u5, e = .returned (.agg #[u1, .slice none 0 0, .slice none 0 0, u4, u5]) ∧ NewW w' w.heap.size u1 u4 u5 (newL xs) ∧ Below w.heap.size w w' := by
  obtain ⟨a, c, rfl⟩ := h.len
  unfold newL
  cases hp : peopleB xs
  · exact (impl_WorldNew_bad a c _ xs w h hl hp).mono fun e w' ⟨h1, h2⟩ => ⟨_, _, _, h1, NewW.none _ _, h2⟩
  · have h4 : xs.length ≤ 4 := by unfold peopleB at hp; simp at hp; exact hp.1
    exact impl_WorldNew_walk a c _ xs w h4 h rfl hp
end Go.Proofs.Ytnhacflknkgfgaa.Lab

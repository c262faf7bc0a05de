/-
  Rows read from bytes by impl's reader: gaps by a range over a function, the row, RowAt.
-/
import Derived.Test.YtlnpbfeihjfnjabGreatDoorQRwa
import Derived.Test.YtlnpbfeihjfnjabGreatDoorQRng
import Derived.Test.YtlnpbfeihjfnjabGreatDoorQErr
import Derived.Maps.AppendAt
namespace Go.Proofs.YtlnpbfeihjfnjabGreatDoor.Lab
open Go.RowKit Go.Shelf
set_option linter.unusedVariables false
attribute [local go_sem] Oper.semAt_some
/-- What impl's loop reads: the list, the last number, the place behind. -/
def gkO (s : ByteArray) : Nat → Int → Int → List Int → Option (List Int × Int × Int)
  | 0, k, last, acc => some (acc, last, k)
  | c + 1, k, last, acc => match nmO s k with
    | none => none
    | some (g, k') => gkO s c k' (last + 1 + g) (acc ++ [last + 1 + g])
theorem gkO_succ {s : ByteArray} {c : Nat} {k last : Int} {acc : List Int} : gkO s (c + 1) k last acc = match nmO s k with
    | none => none
    | some (g, k') => gkO s c k' (last + 1 + g) (acc ++ [last + 1 + g]) := rfl
theorem gkO_mono {s : ByteArray} : ∀ (c : Nat) (k last : Int) (acc : List Int) {r : List Int × Int × Int}, gkO s c k last acc = some r → last ≤ r.2.1 := by
  intro c
  induction c with
  | zero => intro k last acc r h; simp only [gkO, Option.some.injEq] at h; rw [← h]; exact Int.le_refl _
  | succ c ih =>
    intro k last acc r h
    rw [gkO_succ] at h
    cases hq : nmO s k with
    | none => rw [hq] at h; cases h
    | some y =>
      obtain ⟨g, k'⟩ := y
      rw [hq] at h
      have b := nmO_bd hq
      have := ih _ _ _ h
      omega
/-- Both ways of reading tell the same. -/
theorem rwK_gk {s : ByteArray} : ∀ (c : Nat) (k last : Int) (acc : List Int), last ≤ 16383 → rwK s c k last acc = match gkO s c k last acc with
    | none => none
    | some (l, la, k') => if 16383 < la then none else some (l, k') := by
  intro c
  induction c with
  | zero => intro k last acc h; simp only [rwK, gkO]; rw [if_neg (by omega)]
  | succ c ih =>
    intro k last acc h
    rw [rwK_succ, gkO_succ]
    cases hq : nmO s k with
    | none => rfl
    | some y =>
      obtain ⟨g, k'⟩ := y
      simp only
      by_cases hb : 16383 < last + 1 + g
      · rw [if_pos hb]
        cases hr : gkO s c k' (last + 1 + g) (acc ++ [last + 1 + g]) with
        | none => rfl
        | some r =>
          have := gkO_mono _ _ _ _ hr
          obtain ⟨l, la, k2⟩ := r
          simp only at this ⊢
          rw [if_pos (by omega)]
      · rw [if_neg hb]
        exact ih _ _ _ (by omega)
/-- What has been read, the last number, how the reader stands. -/
structure Gh where
  acc : List Int
  last : Int
  o : Option Int
theorem Rs.blk {w w' : World} {b : Nat} {s : ByteArray} {o : Option Int} (h : Rs w b s o) (hb : w'.heap[b]? = w.heap[b]?) : Rs w' b s o := by
  cases o with
  | none => obtain ⟨a, t, v, h⟩ := h; exact ⟨a, t, v, hb.trans h⟩
  | some a => exact hb.trans h
theorem Rs.lt {w : World} {b : Nat} {s : ByteArray} {o : Option Int} (h : Rs w b s o) : b < w.heap.size := by
  cases o with
  | none => obtain ⟨a, t, v, h⟩ := h; exact h.lt
  | some a => exact RdrAt.lt h
structure RI (w1 : World) (b B : Nat) (s : ByteArray) (cnt : Int) (h : Gh) (W : World) : Prop where
  rd : Rs W b s h.o
  fm : FormAt W
  row : ∃ v, Boxed W B 81 v ∧ W.ownsRow (B + 4) 3 1 v h.acc.length (h.acc.flatMap encI)
  la : Boxed W (B + 1) 3 (.int .i64 h.last)
  rb : Boxed W (B + 2) 122 (.pointer (some ⟨b, 0, none⟩))
  cb : Boxed W (B + 3) 3 (.int .i64 cnt)
  fr : w1.grownBy W (some b)
  bd : h.acc.length ≤ 127 ∧ -1 ≤ h.last ∧ h.last ≤ -1 + 20001 * h.acc.length
theorem gr_new {w V V' : World} {b : Nat} {r : Option Nat} (h : w.grownBy V (some b)) (hg : V.grownBy V' r) (hr : ∀ g, r = some g → w.heap.size ≤ g) : w.grownBy V' (some b) :=
  ⟨hg.os.trans h.os, hg.tape.trans h.tape, hg.output.trans h.output, Nat.le_trans h.size hg.size, fun k hk hne => (hg.block k (Nat.lt_of_lt_of_le hk h.size) (fun e => by have := hr k e.symm; omega)).trans (h.block k hk hne)⟩
theorem row_gr {w w' : World} {base e size n : Nat} {v : Value} {xs : List Value} {r : Option Nat} (h : w.ownsRow base e size v n xs) (hg : w.grownBy w' r) (hne : ∀ k, v.ownBlock = some k → r = some k → False) : w'.ownsRow base e size v n xs := by
  obtain ⟨h1, h | ⟨g, cap, cur, rfl, hbb, hb, hr⟩⟩ := h
  · exact ⟨h1, .inl h⟩
  · exact ⟨h1, .inr ⟨g, cap, cur, rfl, hbb, by rw [hg.block g (lt_of_block hb) (fun e => hne g (by simp [Value.ownBlock]) e.symm)]; exact hb, hr⟩⟩
theorem row_cells {w : World} {base e size n k : Nat} {v : Value} {xs : List Value} (h : w.ownsRow base e size v n xs) (hk : v.ownBlock = some k) : ∃ c t f, w.heap[k]? = some (.cells c t f) := by
  obtain ⟨h1, h | ⟨g, cap, cur, rfl, hbb, hb, hr⟩⟩ := h
  · rw [h.1] at hk; simp [Value.ownBlock] at hk
  · simp [Value.ownBlock] at hk; subst hk; exact ⟨_, _, _, hb⟩
/-- The turn of a block that is none of these leaves all. -/
theorem RI.kept {w1 W W' : World} {b B : Nat} {s : ByteArray} {cnt : Int} {h : Gh} {row : Option Nat} (hi : RI w1 b B s cnt h W) (hB : B = w1.heap.size) (hb : b < B) (hf : 0 < B) (hg : W.grownBy W' row)
    (hr : ∀ r, row = some r → B + 4 ≤ r ∧ ∃ o : Obj, W.heap[r]? = some o ∧ o.isCells = false) : RI w1 b B s cnt h W' := by
  have ne : ∀ k, k < B + 4 → some k ≠ row := fun k hk e => by have := (hr k e.symm).1; omega
  obtain ⟨v, bv, ov⟩ := hi.row
  have hl := hi.fm.lt
  refine ⟨hi.rd.blk (hg.block b hi.rd.lt (ne b (by omega))), ?_, ⟨v, bv.kept hg (ne _ (by omega)), row_gr ov hg (fun k h1 h2 => ?_)⟩, hi.la.kept hg (ne _ (by omega)), hi.rb.kept hg (ne _ (by omega)), hi.cb.kept hg (ne _ (by omega)), gr_new hi.fr hg (fun g e => by have := (hr g e).1; omega), hi.bd⟩
  · obtain ⟨t, u, h⟩ := hi.fm
    exact ⟨t, u, by rw [World.cell?_of_block (a := ⟨0, 0, none⟩) (hg.block _ hl (ne 0 (by omega)))]; exact h⟩
  · obtain ⟨c, t, f, hc⟩ := row_cells ov h1
    obtain ⟨_, o, ho, hn⟩ := hr k h2
    rw [hc] at ho; cases ho; cases hn
/-- The reader has moved on. -/
theorem RI.moved {w1 W W' : World} {b B : Nat} {s : ByteArray} {cnt : Int} {h : Gh} {o' : Option Int} (hi : RI w1 b B s cnt h W) (hB : B = w1.heap.size) (hb : b < B) (hf : 0 ≠ b) (hg : W.grownBy W' (some b)) (hr : Rs W' b s o') :
    RI w1 b B s cnt ⟨h.acc, h.last, o'⟩ W' := by
  have ne : ∀ k, B ≤ k → some k ≠ some b := fun k hk e => by cases e; omega
  obtain ⟨v, bv, ov⟩ := hi.row
  refine ⟨hr, hi.fm.grown hg hf, ⟨v, bv.kept hg (ne _ (by omega)), row_gr ov hg (fun k h1 h2 => ?_)⟩, hi.la.kept hg (ne _ (by omega)), hi.rb.kept hg (ne _ (by omega)), hi.cb.kept hg (ne _ (by omega)), grown_trans hi.fr hg, hi.bd⟩
  have := (ov.lt k h1).1
  cases h2; omega
theorem keeps_rd {B b : Nat} {W W' : World} (hb : b < B) (hg : W.grownBy W' (some b)) : KeepsFrom B W W' := KeepsFrom.of_grownBy hg (fun j e => by cases e; exact hb)
set_option maxHeartbeats 400000 in
theorem gaps (b : Nat) (cnt : Int) (w : World) :
    Calls Tryz.prog 86 #[.pointer (some ⟨b, 0, none⟩), .int .i64 cnt] w fun e w' => e = .returned (.func (.func 101) #[] #[.pointer (some ⟨w.heap.size + 1, 0, none⟩), .pointer (some ⟨w.heap.size, 0, none⟩)]) ∧ w' = (w.alloc (.cells #[.pointer (some ⟨b, 0, none⟩)] 122)).alloc (.cells #[.int .i64 cnt] 3) := by
  go_enter Tryz.func86, Tryz.ntmps86
  go_wp2
  go_ret
  exact ⟨rfl, rfl⟩
/-- One gap is told to the loop's body. -/
def gpR (h : Gh) (x : Int) (h' : Gh) : Prop := h' = ⟨h.acc ++ [h.last + 1 + x], h.last + 1 + x, h.o⟩ ∧ 0 ≤ x ∧ x ≤ 16383 ∧ h.acc.length + 1 ≤ 127
/-- How the loop ends. -/
def gpS (G : Option (List Int × Int × Int)) (h : Gh) : Prop := match G with
  | none => h.o = none
  | some (l, la, k) => h = ⟨l, la, some k⟩
set_option maxRecDepth 100000 in
set_option maxHeartbeats 2000000 in
theorem gaps1_some (w1 : World) (b B n : Nat) (s : ByteArray) (c : Nat) (k0 : Int) (hs : s.size ≤ 1048576) (hB : B = w1.heap.size) (hb : b < B) (hf : 0 ≠ b) (hc : c ≤ 127)
    (l : Nat) (J : Gh → World → Prop) (W : World) (hJI : ∀ h V, J h V → RI w1 b B s c h V) (hM : ∀ h h' V V', J h V → RI w1 b B s c h' V' → KeepsFrom (B + 4) V V' → J h' V')
    (hY : ∀ h x h' V, J h V → gpR h x h' → YieldAt Fence.wide n Tryz.prog l #[.int .i64 x] V fun e V' => e = .returned (.bool true) ∧ J h' V') (h0 : J ⟨[], -1, some k0⟩ W) :
    CallsIn Fence.wide (n + 1) Tryz.prog 101 #[.func (.yield l) #[] #[], .pointer (some ⟨B + 3, 0, none⟩), .pointer (some ⟨B + 2, 0, none⟩)] W fun e V => (∃ v, e = .returned v) ∧
      ∃ h : Gh, gpS (gkO s c k0 (-1) []) h ∧ J h V := by
  have c0 := (hJI _ _ h0).cb.cell
  have HB0 : Hid (B = w1.heap.size) := hB
  clear hB
  refine callsIn_of_wp Tryz.func101 rfl trivial ?_ rfl
  simp only [Tryz.ntmps101, List.size_toArray, List.length_cons, List.length_nil, Nat.reduceAdd, Nat.reduceSub, Array.replicate_succ, Array.replicate_zero, List.push_toArray, List.append_toArray, List.nil_append, List.cons_append]
  gi_wp2
  clear c0
  gi_loopw [6] (fun q wr => ∃ (i : Nat) (h : Gh) (k : Int), q = .int .i64 i ∧ i ≤ c ∧ h.o = some k ∧ h.acc.length = i ∧ gkO s (c - i) k h.last h.acc = gkO s c k0 (-1) [] ∧ J h wr) (fun q _ => c - (intOf q).toNat)
  case atStart => exact ⟨0, _, k0, rfl, by omega, rfl, rfl, rfl, h0⟩
  case round =>
    obtain ⟨i, h, k, rfl, hi, ho, hal, hgk, hJ⟩ := hrel
    have ri := hJI _ _ hJ
    by_cases hlt : i < c
    · have hci : c - i = (c - (i + 1)) + 1 := by omega
      rw [hci, gkO_succ] at hgk
      have r0 := ri.rb.cell
      have hrd : Rs wr b s (some k) := by have := ri.rd; rw [ho] at this; exact this
      have HRI : Hid (RI w1 b B s c h wr ∧ J h wr) := ⟨ri, hJ⟩
      have HH : Hid (h.o = some k ∧ h.acc.length = i) := ⟨ho, hal⟩
      have HN : Hid (∀ V, Rs V b s (some k) → FormAt V → Calls Tryz.prog 84 #[.pointer (some ⟨b, 0, none⟩)] V fun e V' => ∃ x o', e = .returned (.int .i64 x) ∧ nmS s (some k) o' x ∧ Rs V' b s o' ∧ V.grownBy V' (some b)) := fun V h1 h2 => rd_num b s (some k) V (by omega) h1 h2 hf
      have hfm := ri.fm
      have HW : Hid (Rs wr b s (some k) ∧ FormAt wr) := ⟨hrd, hfm⟩
      clear ri hJ ho hal hrd hfm hci
      cases hq : nmO s k with
      | none =>
        rw [hq] at hgk
        have HG : Hid (none = gkO s c k0 (-1) []) := hgk
        have HQ : Hid (nmO s k = none) := hq
        clear hgk hq
        gi_wp2_with fail
        refine ⟨trivial, (callsIn_wide.2 (HN.out _ HW.out.1 HW.out.2)).mono ?_⟩
        rintro e w2 ⟨x, o', rfl, hn, r2, g2⟩
        obtain ⟨x0, x1, hn⟩ := hn
        replace hn : match nmO s k with | none => o' = none | some (n, k) => x = n ∧ o' = some k := hn
        rw [HQ.out] at hn
        replace hn : o' = none := hn
        subst hn
        have ri2 := HRI.out.1.moved HB0.out hb hf g2 r2
        have J2 : Hid (J ⟨h.acc, h.last, none⟩ w2) := hM h _ wr w2 HRI.out.2 ri2 (keeps_rd (by omega) g2)
        have r3 := ri2.rb.cell
        obtain ⟨a, t, v, r2⟩ := r2
        have c2 := r2.c2
        clear ri2 r2 g2 HN HW HRI r0
        gi_wp2
        refine ⟨fun _ h => (by cases h), ?_⟩
        gi_wp2
        first | go_end0 | refine bodyPost_ret (results_none rfl _ _ _) rfl ?_
        refine ⟨⟨_, rfl⟩, _, ?_, J2.out⟩
        rw [← HG.out]; rfl
      | some y =>
        obtain ⟨g, k'⟩ := y
        have bg := nmO_bd hq
        rw [hq] at hgk
        have HG : Hid (gkO s (c - (i + 1)) k' (h.last + 1 + g) (h.acc ++ [h.last + 1 + g]) = gkO s c k0 (-1) []) := hgk
        have HQ : Hid (nmO s k = some (g, k')) := hq
        clear hgk hq
        gi_wp2_with fail
        refine ⟨trivial, (callsIn_wide.2 (HN.out _ HW.out.1 HW.out.2)).mono ?_⟩
        rintro e w2 ⟨x, o', rfl, hn, r2, g2⟩
        obtain ⟨x0, x1, hn⟩ := hn
        replace hn : match nmO s k with | none => o' = none | some (n, k) => x = n ∧ o' = some k := hn
        rw [HQ.out] at hn
        replace hn : x = g ∧ o' = some k' := hn
        obtain ⟨rfl, rfl⟩ := hn
        have ri2 := HRI.out.1.moved HB0.out hb hf g2 r2
        have J2 : J ⟨h.acc, h.last, some k'⟩ w2 := hM h _ wr w2 HRI.out.2 ri2 (keeps_rd (by omega) g2)
        have r3 := ri2.rb.cell
        have r2 : RdrAt w2 b s k' .nilIface := r2
        have c2 := r2.c2
        obtain ⟨fn, tmps, assign, body, hy, hR⟩ := hY _ x _ w2 J2 ⟨rfl, bg.1, bg.2.1, by have := HH.out.2; simp only; omega⟩
        clear ri2 r2 g2 HN HW HRI r0 J2
        gi_wp2
        refine hR.mono ?_
        rintro e W3 ⟨rfl, hJ3⟩
        clear hy hR r3 c2
        gi_wp2
        go_roundw
        case rel => exact ⟨i + 1, _, k', by go_num, by omega, rfl, by simp [HH.out.2], HG.out, hJ3⟩
        case measure => simp [intOf]; omega
    · have hic : i = c := by omega
      subst hic
      rw [Nat.sub_self] at hgk
      have HG : Hid (some (h.acc, h.last, k) = gkO s i k0 (-1) []) := hgk
      clear hgk
      gi_wp2
      first | go_end0 | refine bodyPost_ret (results_none rfl _ _ _) rfl ?_
      refine ⟨⟨_, rfl⟩, h, ?_, hJ⟩
      rw [← HG.out]
      show h = ⟨h.acc, h.last, some k⟩
      rw [← ho]
set_option maxRecDepth 100000 in
set_option maxHeartbeats 2000000 in
theorem gaps1_none (w1 : World) (b B n : Nat) (s : ByteArray) (c : Nat) (hs : s.size ≤ 1048576) (hB : B = w1.heap.size) (hb : b < B) (hf : 0 ≠ b) (hc : c ≤ 20000)
    (l : Nat) (J : Gh → World → Prop) (W : World) (hJI : ∀ h V, J h V → RI w1 b B s c h V) (hM : ∀ h h' V V', J h V → RI w1 b B s c h' V' → KeepsFrom (B + 4) V V' → J h' V')
    (h0 : J ⟨[], -1, none⟩ W) :
    CallsIn Fence.wide (n + 1) Tryz.prog 101 #[.func (.yield l) #[] #[], .pointer (some ⟨B + 3, 0, none⟩), .pointer (some ⟨B + 2, 0, none⟩)] W fun e V => (∃ v, e = .returned v) ∧
      ∃ h : Gh, h.o = none ∧ J h V := by
  have ri := hJI _ _ h0
  have c0 := ri.cb.cell
  have r0 := ri.rb.cell
  have HW : Hid (RI w1 b B s c ⟨[], -1, none⟩ W ∧ J ⟨[], -1, none⟩ W) := ⟨ri, h0⟩
  have HN : Hid (∀ V, Rs V b s none → FormAt V → Calls Tryz.prog 84 #[.pointer (some ⟨b, 0, none⟩)] V fun e V' => ∃ x o', e = .returned (.int .i64 x) ∧ nmS s none o' x ∧ Rs V' b s o' ∧ V.grownBy V' (some b)) := fun V h1 h2 => rd_num b s none V (by omega) h1 h2 hf
  have HB0 : Hid (B = w1.heap.size) := hB
  clear hB ri
  refine callsIn_of_wp Tryz.func101 rfl trivial ?_ rfl
  simp only [Tryz.ntmps101, List.size_toArray, List.length_cons, List.length_nil, Nat.reduceAdd, Nat.reduceSub, Array.replicate_succ, Array.replicate_zero, List.push_toArray, List.append_toArray, List.nil_append, List.cons_append]
  gi_wp2
  clear c0
  gi_loopw [6] (fun q wr => q = .int .i64 0 ∧ wr = W) (fun q _ => 1)
  case atStart => exact ⟨rfl, rfl⟩
  case round =>
    obtain ⟨rfl, rfl⟩ := hrel
    by_cases hlt : 0 < c
    · gi_wp2_with fail
      refine ⟨trivial, (callsIn_wide.2 (HN.out _ HW.out.1.rd HW.out.1.fm)).mono ?_⟩
      rintro e w2 ⟨x, o', rfl, hn, r2, g2⟩
      obtain ⟨x0, x1, hn⟩ := hn
      replace hn : o' = none := hn
      subst hn
      have ri2 := HW.out.1.moved HB0.out hb hf g2 r2
      have J2 : Hid (J ⟨[], -1, none⟩ w2) := hM _ _ _ w2 HW.out.2 ri2 (keeps_rd (by omega) g2)
      have r3 := ri2.rb.cell
      obtain ⟨a, t, v, r2⟩ := r2
      have c2 := r2.c2
      clear ri2 r2 g2 HN HW r0
      gi_wp2
      refine ⟨fun _ h => (by cases h), ?_⟩
      gi_wp2
      first | go_end0 | refine bodyPost_ret (results_none rfl _ _ _) rfl ?_
      exact ⟨⟨_, rfl⟩, _, rfl, J2.out⟩
    · obtain rfl : c = 0 := by omega
      gi_wp2
      first | go_end0 | refine bodyPost_ret (results_none rfl _ _ _) rfl ?_
      exact ⟨⟨_, rfl⟩, _, rfl, HW.out.2⟩
/-- What row tells of how the reader stood and stands. -/
def rowS (s : ByteArray) (o o' : Option Int) (xs : List Int) : Prop := match o.bind (rwO s) with
  | none => o' = none
  | some (l, k) => xs = l ∧ o' = some k
theorem rowS_no {s : ByteArray} {o o' : Option Int} {xs : List Int} (h : o.bind (rwO s) = none) (h' : o' = none) : rowS s o o' xs := by unfold rowS; rw [h]; exact h'
theorem rowS_yes {s : ByteArray} {o o' : Option Int} {c : Nat} {k0 : Int} {h : Gh} (hb : o.bind (rwO s) = rwK s c k0 (-1) []) (hS : gpS (gkO s c k0 (-1) []) h) (ho : (16383 < h.last ∧ o' = none) ∨ (h.last ≤ 16383 ∧ o' = h.o)) : rowS s o o' h.acc := by
  unfold rowS
  rw [hb, rwK_gk _ _ _ _ (by omega)]
  cases hg : gkO s c k0 (-1) [] with
  | none =>
    rw [hg] at hS
    replace hS : h.o = none := hS
    show o' = none
    rcases ho with h1 | h1
    · exact h1.2
    · rw [h1.2]; exact hS
  | some r =>
    obtain ⟨l, la, k⟩ := r
    rw [hg] at hS
    replace hS : h = ⟨l, la, some k⟩ := hS
    subst hS
    simp only at ho ⊢
    rcases ho with h1 | h1
    · rw [if_pos h1.1]; exact h1.2
    · rw [if_neg (by omega)]; exact ⟨rfl, h1.2⟩
theorem nmS_none {s : ByteArray} {o : Option Int} {x : Int} (h : nmS s o none x) : o.bind (rwO s) = none := by
  cases o with
  | none => rfl
  | some a =>
    have h := h.2.2
    show rwO s a = none
    unfold rwO
    cases hq : nmO s a with
    | none => rfl
    | some y =>
      obtain ⟨n, k⟩ := y
      replace h : match nmO s a with | none => none = none | some (n, k) => x = n ∧ none = some k := h
      rw [hq] at h
      exact absurd h.2 (by simp)
theorem nmS_big {s : ByteArray} {o o' : Option Int} {x : Int} (h : nmS s o o' x) (hx : 127 < x) : o.bind (rwO s) = none := by
  cases o with
  | none => rfl
  | some a =>
    have h := h.2.2
    show rwO s a = none
    unfold rwO
    cases hq : nmO s a with
    | none => rfl
    | some y =>
      obtain ⟨n, k⟩ := y
      replace h : match nmO s a with | none => o' = none | some (n, k) => x = n ∧ o' = some k := h
      rw [hq] at h
      obtain ⟨rfl, _⟩ := h
      simp [hx]
theorem nmS_some {s : ByteArray} {o : Option Int} {c : Nat} {k : Int} (h : nmS s o (some k) c) (hx : (c : Int) ≤ 127) : o.bind (rwO s) = rwK s c k (-1) [] := by
  cases o with
  | none => exact absurd h.2.2 (by simp)
  | some a =>
    have h := h.2.2
    show rwO s a = _
    unfold rwO
    cases hq : nmO s a with
    | none =>
      replace h : match nmO s a with | none => some k = none | some (n, k') => (c : Int) = n ∧ some k = some k' := h
      rw [hq] at h
      exact absurd h (by simp)
    | some y =>
      obtain ⟨n, k'⟩ := y
      replace h : match nmO s a with | none => some k = none | some (n, k') => (c : Int) = n ∧ some k = some k' := h
      rw [hq] at h
      obtain ⟨rfl, h2⟩ := h
      cases h2
      simp only
      rw [if_neg (by omega)]; rfl
theorem cell_one_new' (W : World) (v : Value) (t : TypeId) {S : Nat} (h : W.heap.size = S) : ∀ j u, [v][j]? = some u → (W.alloc (.cells #[v] t)).cell? ((⟨S, 0, none⟩ : Addr).add j) = some u := by
  subst h
  intro j u hu
  match j, hu with
  | 0, hu => simp at hu; subst hu; simp [Addr.add]
theorem RI.start {w1 : World} {b : Nat} {s : ByteArray} {c : Nat} {o : Option Int} (hr : Rs w1 b s o) (hf : FormAt w1) (hb : b < w1.heap.size) :
    RI w1 b w1.heap.size s c ⟨[], -1, o⟩ ((((w1.alloc (.cells #[.slice none 0 0] 81)).alloc (.cells #[.int .i64 (-1)] 3)).alloc (.cells #[.pointer (some ⟨b, 0, none⟩)] 122)).alloc (.cells #[.int .i64 c] 3)) := by
  obtain ⟨A, hA⟩ : ∃ A, A = w1.alloc (.cells #[.slice none 0 0] 81) := ⟨_, rfl⟩
  obtain ⟨B, hB⟩ : ∃ B, B = A.alloc (.cells #[.int .i64 (-1)] 3) := ⟨_, rfl⟩
  obtain ⟨C, hC⟩ : ∃ C, C = B.alloc (.cells #[.pointer (some ⟨b, 0, none⟩)] 122) := ⟨_, rfl⟩
  have sA : A.heap.size = w1.heap.size + 1 := by rw [hA]; simp
  have sB : B.heap.size = w1.heap.size + 2 := by rw [hB]; simp [sA]
  have sC : C.heap.size = w1.heap.size + 3 := by rw [hC]; simp [sB]
  rw [← hA, ← hB, ← hC]
  have bl : Below w1.heap.size w1 (C.alloc (.cells #[.int .i64 c] 3)) := by
    rw [hC, hB, hA]
    exact ((((Below.refl _ _).alloc (Nat.le_refl _) _).alloc (by simp) _).alloc (by simp; omega) _).alloc (by simp; omega) _
  have b1 : Boxed A w1.heap.size 81 (.slice none 0 0) := by rw [hA]; exact Boxed.new _ _ _
  have b2 : Boxed B (w1.heap.size + 1) 3 (.int .i64 (-1)) := by have := Boxed.new A 3 (.int .i64 (-1)); rw [sA] at this; rw [hB]; exact this
  have b3 : Boxed C (w1.heap.size + 2) 122 (.pointer (some ⟨b, 0, none⟩)) := by have := Boxed.new B 122 (.pointer (some ⟨b, 0, none⟩)); rw [sB] at this; rw [hC]; exact this
  have b4 : Boxed (C.alloc (.cells #[.int .i64 c] 3)) (w1.heap.size + 3) 3 (.int .i64 c) := by have := Boxed.new C 3 (.int .i64 c); rw [sC] at this; exact this
  refine ⟨hr.blk (bl.block b hb), hf.keep bl, ⟨_, ?_, World.ownsRow_nil _ _ _ _⟩, ?_, b3.alloc _, b4, ⟨bl.os, bl.tape, bl.output, bl.size, fun k hk _ => bl.block k hk⟩, by simp⟩
  · refine Boxed.alloc ?_ _
    rw [hC]; refine Boxed.alloc ?_ _
    rw [hB]; exact b1.alloc _
  · refine Boxed.alloc ?_ _
    rw [hC]; exact b2.alloc _
/-- A round: the last number and the list have been written. -/
theorem RI.round {w1 W w3 : World} {b : Nat} {s : ByteArray} {c : Nat} {h : Gh} {v : Value} {g' cap' : Nat} {y : Int} (hh : RI w1 b w1.heap.size s c h W) (hv : Boxed W w1.heap.size 81 v) (hrow : W.ownsRow (w1.heap.size + 4) 3 1 v h.acc.length (h.acc.flatMap encI)) (hb : b < w1.heap.size) (hf : 0 < w1.heap.size) (hfb : 0 ≠ b)
    (hown' : w3.ownsRow (w1.heap.size + 4) 3 1 (.slice (some ⟨g', 0, none⟩) (h.acc.length + 1) cap') (h.acc.length + 1) (h.acc.flatMap encI ++ [.int .i64 (h.last + 1 + y)]))
    (hgrow : ((W.setCell ⟨w1.heap.size + 1, 0, none⟩ (.int .i64 (h.last + 1 + y))).alloc (.cells #[.int .i64 (h.last + 1 + y)] 3)).grownBy w3 v.ownBlock) (hy : 0 ≤ y ∧ y ≤ 16383 ∧ h.acc.length + 1 ≤ 127) :
    w3.cell? ⟨w1.heap.size, 0, none⟩ = some v ∧ w3.frozen? ⟨w1.heap.size, 0, none⟩ = false ∧
      (KeepsFrom ((((w1.alloc (.cells #[.slice none 0 0] 81)).alloc (.cells #[.int .i64 (-1)] 3)).alloc (.cells #[.pointer (some ⟨b, 0, none⟩)] 122)).alloc (.cells #[.int .i64 c] 3)).heap.size W (w3.setCell ⟨w1.heap.size, 0, none⟩ (.slice (some ⟨g', 0, none⟩) (h.acc.length + 1) cap')) ∧
       RI w1 b w1.heap.size s c ⟨h.acc ++ [h.last + 1 + y], h.last + 1 + y, h.o⟩ (w3.setCell ⟨w1.heap.size, 0, none⟩ (.slice (some ⟨g', 0, none⟩) (h.acc.length + 1) cap'))) := by
  obtain ⟨A, hA⟩ : ∃ A, A = W.setCell ⟨w1.heap.size + 1, 0, none⟩ (.int .i64 (h.last + 1 + y)) := ⟨_, rfl⟩
  obtain ⟨B, hB⟩ : ∃ B, B = A.alloc (.cells #[.int .i64 (h.last + 1 + y)] 3) := ⟨_, rfl⟩
  rw [← hA, ← hB] at hgrow
  have sz : w1.heap.size + 4 ≤ W.heap.size := by have := hh.cb.lt; omega
  have sA : A.heap.size = W.heap.size := by rw [hA]; simp [World.setCell]
  have sB : B.heap.size = W.heap.size + 1 := by rw [hB]; simp [sA]
  have gA : W.grownBy A (some (w1.heap.size + 1)) := by rw [hA]; exact grownBy_setCell' W _ _
  have gB : A.grownBy B none := by rw [hB]; exact World.grownBy_alloc A _ none
  have lo : ∀ k, v.ownBlock = some k → w1.heap.size + 4 ≤ k := fun k hk => (hrow.lt k hk).1
  -- blocks that are none of the three lie as they lay
  have blk3 : ∀ k, k < W.heap.size → k ≠ w1.heap.size + 1 → v.ownBlock ≠ some k → w3.heap[k]? = W.heap[k]? := fun k hk h1 h2 =>
    ((hgrow.block k (by omega) (fun e => h2 e.symm)).trans (gB.block k (by omega) (by simp))).trans (gA.block k hk (fun e => h1 (by cases e; rfl)))
  have hvn : v.ownBlock ≠ some w1.heap.size := fun e => by have := lo _ e; omega
  have hv3 : Boxed w3 w1.heap.size 81 v := (blk3 _ (by omega) (by omega) hvn).trans hv
  have la3 : Boxed w3 (w1.heap.size + 1) 3 (.int .i64 (h.last + 1 + y)) := by
    have a1 : Boxed A (w1.heap.size + 1) 3 (.int .i64 (h.last + 1 + y)) := by rw [hA]; exact hh.la.set _
    exact (a1.kept gB (by simp)).kept hgrow (fun e => by have := lo _ e.symm; omega)
  refine ⟨hv3.cell, hv3.frozen, ?_⟩
  obtain ⟨V, hV⟩ : ∃ V, V = w3.setCell ⟨w1.heap.size, 0, none⟩ (.slice (some ⟨g', 0, none⟩) (h.acc.length + 1) cap') := ⟨_, rfl⟩
  have gV : w3.grownBy V (some w1.heap.size) := by rw [hV]; exact grownBy_setCell' w3 _ _
  have s3 : W.heap.size ≤ w3.heap.size := by have := hgrow.size; omega
  have blk : ∀ k, k < W.heap.size → k ≠ w1.heap.size → k ≠ w1.heap.size + 1 → v.ownBlock ≠ some k → V.heap[k]? = W.heap[k]? := fun k hk h0 h1 h2 =>
    (gV.block k (by omega) (fun e => h0 (by cases e; rfl))).trans (blk3 k hk h1 h2)
  have low : ∀ k, k < w1.heap.size + 4 → v.ownBlock ≠ some k := fun k hk e => by have := lo k e; omega
  rw [← hV]
  have hv4 : Boxed V w1.heap.size 81 (.slice (some ⟨g', 0, none⟩) (h.acc.length + 1) cap') := by rw [hV]; exact hv3.set _
  have fl := hh.fm.lt
  refine ⟨⟨by have := gV.size; omega, fun k o hk hko ho => ?_⟩, ⟨hh.rd.blk (blk b (by omega) (by omega) (by omega) (low b (by omega))), ?_, ⟨_, hv4, ?_⟩, ?_, ?_, ?_, ?_, ?_⟩⟩
  · rw [blk k (Array.getElem?_eq_some_iff.1 hko).1 (by simp at hk; omega) (by simp at hk; omega) (fun e => ?_)]
    · exact hko
    · obtain ⟨c1, t1, f1, hc⟩ := row_cells hrow e
      rw [hc] at hko; cases hko; cases ho
  · obtain ⟨t, u, hfm⟩ := hh.fm
    exact ⟨t, u, by rw [World.cell?_of_block (a := ⟨0, 0, none⟩) (blk 0 fl (by omega) (by omega) (low _ (by omega)))]; exact hfm⟩
  · have : V.ownsRow (w1.heap.size + 4) 3 1 (.slice (some ⟨g', 0, none⟩) (h.acc.length + 1) cap') (h.acc.length + 1) (h.acc.flatMap encI ++ [.int .i64 (h.last + 1 + y)]) := by
      rw [hV]; exact own_set hown' (fun e => by have h9 : w1.heap.size + 4 ≤ w1.heap.size := (hown'.lt _ e).1; omega) _
    simpa [List.flatMap_append, encI] using this
  · exact la3.kept gV (fun e => absurd (Option.some.inj e) (by omega))
  · exact (blk _ (by omega) (by omega) (by omega) (low _ (by omega))).trans hh.rb
  · exact (blk _ (by omega) (by omega) (by omega) (low _ (by omega))).trans hh.cb
  · exact gr_new (gr_new (gr_new (gr_new hh.fr gA (fun g e => by cases e; omega)) gB (fun g e => by cases e)) hgrow (fun g e => by have := lo g e; omega)) gV (fun g e => by cases e; omega)
  · have := hh.bd; simp; omega
/-- How a call of row ends. -/
def RowPost (w : World) (b : Nat) (s : ByteArray) (o : Option Int) (e : Ending) (w' : World) : Prop :=
  ∃ u xs o', e = .returned u ∧ w'.ownsRow w.heap.size 3 1 u xs.length (xs.flatMap encI) ∧ Rs w' b s o' ∧ rowS s o o' xs ∧ w.grownBy w' (some b) ∧ xs.length ≤ 127
set_option maxRecDepth 100000 in
set_option maxHeartbeats 8000000 in
theorem rd_row (b : Nat) (s : ByteArray) (o : Option Int) (w : World) (hs : s.size ≤ 1048576) (h : Rs w b s o) (hf : FormAt w) (hb : 0 ≠ b) :
    Calls Tryz.prog 63 #[.pointer (some ⟨b, 0, none⟩)] w (RowPost w b s o) := by
  obtain ⟨i0, hi, hz0, hz1, hz2⟩ := info_parts Tryz.infoI
  have HN : Hid (Calls Tryz.prog 84 #[.pointer (some ⟨b, 0, none⟩)] w fun e V' => ∃ x o', e = .returned (.int .i64 x) ∧ nmS s o o' x ∧ Rs V' b s o' ∧ w.grownBy V' (some b)) := rd_num b s o w (by omega) h hf hb
  have HF : Hid (FormAt w) := hf
  clear h hf
  refine (callsIn_wide (n := 6)).1 ?_
  refine callsIn_of_wp_marks Tryz.func63 rfl trivial ?_ rfl
  simp only [Tryz.ntmps63, List.size_toArray, List.length_cons, List.length_nil, Nat.reduceAdd, Nat.reduceSub, Array.replicate_succ, Array.replicate_zero, List.push_toArray, List.append_toArray, List.nil_append, List.cons_append]
  gi_wp2_with fail
  refine ⟨trivial, (callsIn_wide.2 HN.out).mono ?_⟩
  rintro e w1 ⟨x, o1, rfl, hn, r1, g1⟩
  have x0 : 0 ≤ x ∧ x ≤ 20000 := ⟨hn.1, hn.2.1⟩
  obtain ⟨c, rfl⟩ := Int.eq_ofNat_of_zero_le x0.1
  have cb : c ≤ 20000 := by omega
  clear x0
  by_cases hx : 127 < (c : Int)
  · have HNO : Hid (o.bind (rwO s) = none) := nmS_big hn hx
    gi_wp2_with fail
    refine ⟨trivial, (callsIn_wide.2 (rd_fail b s o1 w1 r1 (HF.out.grown g1 hb) hb)).mono ?_⟩
    rintro e w2 ⟨⟨v0, rfl⟩, r2, g2⟩
    have HF1 : Hid (FormAt w2) := (HF.out.grown g1 hb).grown g2 hb
    have H1 : Hid (Rs w2 b s none ∧ w.grownBy w2 (some b)) := ⟨r2, grown_trans g1 g2⟩
    have H1 : Hid (Rs w2 b s none ∧ w.grownBy w2 (some b) ∧ True) := ⟨r2, grown_trans g1 g2, trivial⟩
    have hb1 : b < w2.heap.size := r2.lt
    clear hn r1 g1 r2 g2 HN HF
    generalize w2 = w1 at *
    gi_wp2_with fail
    refine ⟨trivial, (callsIn_wide.2 (gaps b c _)).mono ?_⟩
    rintro e w3 ⟨rfl, rfl⟩
    gi_wp2_with fail
    have RI0 : RI w1 b w1.heap.size s c ⟨[], -1, none⟩ ((((w1.alloc (.cells #[.slice none 0 0] 81)).alloc (.cells #[.int .i64 (-1)] 3)).alloc (.cells #[.pointer (some ⟨b, 0, none⟩)] 122)).alloc (.cells #[.int .i64 c] 3)) := RI.start H1.out.1 HF1.out hb1
    refine rangeS (σ := Gh) (α := Int) rfl (by omega) (gf := 101) (lb := #[.pointer (some ⟨w1.heap.size + 1 + 1 + 1, 0, none⟩), .pointer (some ⟨w1.heap.size + 1 + 1, 0, none⟩)]) rfl trivial (enters_of Tryz.func101 (by kernel_rfl) rfl) (encs := fun x => #[.int .i64 x]) (fun _ => rfl)
      (RI w1 b w1.heap.size s c) (fun h V V' row hh hg hr => hh.kept rfl hb1 HF1.out.lt hg (fun r e => ⟨by have := (hr r e).1; simp at this; omega, (hr r e).2⟩)) gpR (fun h => h.o = none) ⟨[], -1, none⟩ RI0
      (fun l J W hJI hM hY h0 => by
        have hM' : ∀ h h' V V', J h V → RI w1 b w1.heap.size s c h' V' → KeepsFrom (w1.heap.size + 4) V V' → J h' V' := fun h h' V V' a1 a2 a3 => hM h h' V V' a1 a2 ⟨a3.size, fun k o hk => a3.same k o (by simp at hk; omega)⟩
        exact gaps1_none w1 b _ _ s c hs rfl hb1 hb cb l J W hJI hM' h0)
      (fun y => { tmps := #[.pointer (some ⟨b, 0, none⟩), undef, .slice none 0 0, .int .i64 c, .pointer (some ⟨w1.heap.size, 0, none⟩), .pointer (some ⟨w1.heap.size + 1, 0, none⟩), .int .i64 y, .pointer (some ⟨b, 0, none⟩), .int .i64 c, .int .i64 c, .bool true, .pointer (some ⟨b, 0, none⟩), v0, .pointer (some ⟨b, 0, none⟩), .int .i64 c, .func (.func 101) #[] #[.pointer (some ⟨w1.heap.size + 1 + 1 + 1, 0, none⟩), .pointer (some ⟨w1.heap.size + 1 + 1, 0, none⟩)], .int .i64 y, undef, undef, undef, undef, undef, undef, undef, undef, undef, undef, undef, undef, undef], defers := [] }) ?assign ?body ?done
    case assign =>
      intro l y W K hK
      gi_wp2
      exact hK
    case body =>
      rintro l hg0 y hg1 W hR hh
      obtain ⟨rfl, y0, y1, yl⟩ := hR
      obtain ⟨v, hv, hrow⟩ := hh.row
      obtain ⟨bd0, bd1, bd2⟩ := hh.bd
      have hc := hv.cell
      have hfr := hv.frozen
      have hlc := hh.la.cell
      have hlf := hh.la.frozen
      have HH : Hid (RI w1 b w1.heap.size s c hg0 W) := hh
      have HV : Hid (Boxed W w1.heap.size 81 v) := hv
      have hsz : w1.heap.size + 4 ≤ W.heap.size := by have := hh.cb.lt; omega
      have ew : hg0.last + (1 + y) = hg0.last + 1 + y := by omega
      have hown1 : (W.setCell ⟨w1.heap.size + 1, 0, none⟩ (.int .i64 (hg0.last + 1 + y))).ownsRow (w1.heap.size + 4) 3 1 v hg0.acc.length (hg0.acc.flatMap encI) := own_set hrow (fun e => by have := (hrow.lt _ e).1; simp at this) _
      have HO : Hid (W.ownsRow (w1.heap.size + 4) 3 1 v hg0.acc.length (hg0.acc.flatMap encI)) := hrow
      have bdn : hg0.acc.length ≤ 127 := bd0
      clear hh hv hrow
      gi_wp2_with (gi_at_builtin; refine wpListIn_append_own _ rfl _ _ 81 rfl (w1.heap.size + 4) 3 i0 (.int .i64 0) 1 8 Tryz.underlying81 hi hz0 hz1 hz2 rfl (by decide) _ _ _ rfl (hown1.alloc _) ⟨W.heap.size, 0, none⟩ 1 1 [.int .i64 (hg0.last + 1 + y)] rfl rfl (cell_one_new' _ _ _ (by simp)) (by simp [Value.oneCell']) (by unfold maxLen; omega) (by omega) (by simp; omega) ?_; intro v' w3 hown' hgrow _; obtain ⟨g', cap', rfl⟩ := ownsRow_succ hown'; obtain ⟨hc1, hf1, HFin⟩ := RI.round HH.out HV.out HO.out hb1 HF1.out.lt hb hown' hgrow ⟨y0, y1, yl⟩)
      all_goals exact HFin
    case done =>
      rintro D hg0 W hD hS hh hK
      obtain ⟨v, hv, hrow⟩ := hh.row
      have hc := hv.cell
      have hlc := hh.la.cell
      have hD1 : w1.heap.size + 4 ≤ D := by simp at hD; omega
      have HH : Hid (RI w1 b w1.heap.size s c hg0 W) := hh
      have HS : Hid ((fun h => h.o = none) hg0) := hS
      have hbd := hh.bd
      have HG1 : Hid (w.grownBy w1 (some b)) := H1.out.2.1
      clear hS hh
      by_cases hla : 16383 < hg0.last
      · gi_wp2_with fail
        refine ⟨trivial, (callsIn_wide.2 (rd_fail b s hg0.o W HH.out.rd HH.out.fm hb)).mono ?_⟩
        rintro e W2 ⟨⟨v2, rfl⟩, r2, g2⟩
        have h2 := HH.out.moved rfl hb1 hb g2 r2
        have hK2 : W2.heap[D]? = some (.deferred (some [])) := by rw [g2.block D (Array.getElem?_eq_some_iff.1 hK).1 (fun e => by cases e; omega)]; exact hK
        have hv2 := hv.kept g2 (fun e => by cases e; omega)
        have hc2 := hv2.cell
        have hrow2 := row_gr hrow g2 (fun k h1 h3 => by have := (hrow.lt k h1).1; cases h3; omega)
        gi_wp2
        refine ⟨by simp, .inl ⟨_, _, rfl, run_takeDeferred hK2, ?_⟩⟩
        exact ⟨_, results_tmp rfl _ _ _, v, hg0.acc, none, rfl, own_mono (ownsRow_putObj hrow2 _ hK2 rfl) (by have := HG1.out.size; omega), r2.blk (World.putObj_heap_other (by omega)), rowS_no HNO.out rfl, gr_new (grown_trans HG1.out h2.fr) (grownBy_putObj' W2 D _) (fun g e => by cases e; have := HG1.out.size; omega), hbd.1⟩
      · gi_wp2
        refine ⟨by simp, .inl ⟨_, _, rfl, run_takeDeferred hK, ?_⟩⟩
        exact ⟨_, results_tmp rfl _ _ _, v, hg0.acc, hg0.o, rfl, own_mono (ownsRow_putObj hrow _ hK rfl) (by have := HG1.out.size; omega), HH.out.rd.blk (World.putObj_heap_other (by omega)), rowS_no HNO.out HS.out, gr_new (grown_trans HG1.out HH.out.fr) (grownBy_putObj' W D _) (fun g e => by cases e; have := HG1.out.size; omega), hbd.1⟩
  · cases o1 with
    | none =>
      have HNO : Hid (o.bind (rwO s) = none) := nmS_none hn
      have HF1 : Hid (FormAt w1) := HF.out.grown g1 hb
      have H1 : Hid (Rs w1 b s none ∧ w.grownBy w1 (some b) ∧ True) := ⟨r1, g1, trivial⟩
      have hb1 : b < w1.heap.size := r1.lt
      clear hn r1 g1 HN HF
      gi_wp2_with fail
      refine ⟨trivial, (callsIn_wide.2 (gaps b c _)).mono ?_⟩
      rintro e w3 ⟨rfl, rfl⟩
      gi_wp2_with fail
      have RI0 : RI w1 b w1.heap.size s c ⟨[], -1, none⟩ ((((w1.alloc (.cells #[.slice none 0 0] 81)).alloc (.cells #[.int .i64 (-1)] 3)).alloc (.cells #[.pointer (some ⟨b, 0, none⟩)] 122)).alloc (.cells #[.int .i64 c] 3)) := RI.start H1.out.1 HF1.out hb1
      refine rangeS (σ := Gh) (α := Int) rfl (by omega) (gf := 101) (lb := #[.pointer (some ⟨w1.heap.size + 1 + 1 + 1, 0, none⟩), .pointer (some ⟨w1.heap.size + 1 + 1, 0, none⟩)]) rfl trivial (enters_of Tryz.func101 (by kernel_rfl) rfl) (encs := fun x => #[.int .i64 x]) (fun _ => rfl)
        (RI w1 b w1.heap.size s c) (fun h V V' row hh hg hr => hh.kept rfl hb1 HF1.out.lt hg (fun r e => ⟨by have := (hr r e).1; simp at this; omega, (hr r e).2⟩)) gpR (fun h => h.o = none) ⟨[], -1, none⟩ RI0
        (fun l J W hJI hM hY h0 => by
          have hM' : ∀ h h' V V', J h V → RI w1 b w1.heap.size s c h' V' → KeepsFrom (w1.heap.size + 4) V V' → J h' V' := fun h h' V V' a1 a2 a3 => hM h h' V V' a1 a2 ⟨a3.size, fun k o hk => a3.same k o (by simp at hk; omega)⟩
          exact gaps1_none w1 b _ _ s c hs rfl hb1 hb cb l J W hJI hM' h0)
        (fun y => { tmps := #[.pointer (some ⟨b, 0, none⟩), undef, .slice none 0 0, .int .i64 c, .pointer (some ⟨w1.heap.size, 0, none⟩), .pointer (some ⟨w1.heap.size + 1, 0, none⟩), .int .i64 y, .pointer (some ⟨b, 0, none⟩), .int .i64 c, .int .i64 c, .bool (decide (127 < (c : Int))), undef, undef, .pointer (some ⟨b, 0, none⟩), .int .i64 c, .func (.func 101) #[] #[.pointer (some ⟨w1.heap.size + 1 + 1 + 1, 0, none⟩), .pointer (some ⟨w1.heap.size + 1 + 1, 0, none⟩)], .int .i64 y, undef, undef, undef, undef, undef, undef, undef, undef, undef, undef, undef, undef, undef], defers := [] }) ?assign ?body ?done
      case assign =>
        intro l y W K hK
        gi_wp2
        exact hK
      case body =>
        rintro l hg0 y hg1 W hR hh
        obtain ⟨rfl, y0, y1, yl⟩ := hR
        obtain ⟨v, hv, hrow⟩ := hh.row
        obtain ⟨bd0, bd1, bd2⟩ := hh.bd
        have hc := hv.cell
        have hfr := hv.frozen
        have hlc := hh.la.cell
        have hlf := hh.la.frozen
        have HH : Hid (RI w1 b w1.heap.size s c hg0 W) := hh
        have HV : Hid (Boxed W w1.heap.size 81 v) := hv
        have hsz : w1.heap.size + 4 ≤ W.heap.size := by have := hh.cb.lt; omega
        have ew : hg0.last + (1 + y) = hg0.last + 1 + y := by omega
        have hown1 : (W.setCell ⟨w1.heap.size + 1, 0, none⟩ (.int .i64 (hg0.last + 1 + y))).ownsRow (w1.heap.size + 4) 3 1 v hg0.acc.length (hg0.acc.flatMap encI) := own_set hrow (fun e => by have := (hrow.lt _ e).1; simp at this) _
        have HO : Hid (W.ownsRow (w1.heap.size + 4) 3 1 v hg0.acc.length (hg0.acc.flatMap encI)) := hrow
        have bdn : hg0.acc.length ≤ 127 := bd0
        clear hh hv hrow
        gi_wp2_with (gi_at_builtin; refine wpListIn_append_own _ rfl _ _ 81 rfl (w1.heap.size + 4) 3 i0 (.int .i64 0) 1 8 Tryz.underlying81 hi hz0 hz1 hz2 rfl (by decide) _ _ _ rfl (hown1.alloc _) ⟨W.heap.size, 0, none⟩ 1 1 [.int .i64 (hg0.last + 1 + y)] rfl rfl (cell_one_new' _ _ _ (by simp)) (by simp [Value.oneCell']) (by unfold maxLen; omega) (by omega) (by simp; omega) ?_; intro v' w3 hown' hgrow _; obtain ⟨g', cap', rfl⟩ := ownsRow_succ hown'; obtain ⟨hc1, hf1, HFin⟩ := RI.round HH.out HV.out HO.out hb1 HF1.out.lt hb hown' hgrow ⟨y0, y1, yl⟩)
        all_goals exact HFin
      case done =>
        rintro D hg0 W hD hS hh hK
        obtain ⟨v, hv, hrow⟩ := hh.row
        have hc := hv.cell
        have hlc := hh.la.cell
        have hD1 : w1.heap.size + 4 ≤ D := by simp at hD; omega
        have HH : Hid (RI w1 b w1.heap.size s c hg0 W) := hh
        have HS : Hid ((fun h => h.o = none) hg0) := hS
        have hbd := hh.bd
        have HG1 : Hid (w.grownBy w1 (some b)) := H1.out.2.1
        clear hS hh
        by_cases hla : 16383 < hg0.last
        · gi_wp2_with fail
          refine ⟨trivial, (callsIn_wide.2 (rd_fail b s hg0.o W HH.out.rd HH.out.fm hb)).mono ?_⟩
          rintro e W2 ⟨⟨v2, rfl⟩, r2, g2⟩
          have h2 := HH.out.moved rfl hb1 hb g2 r2
          have hK2 : W2.heap[D]? = some (.deferred (some [])) := by rw [g2.block D (Array.getElem?_eq_some_iff.1 hK).1 (fun e => by cases e; omega)]; exact hK
          have hv2 := hv.kept g2 (fun e => by cases e; omega)
          have hc2 := hv2.cell
          have hrow2 := row_gr hrow g2 (fun k h1 h3 => by have := (hrow.lt k h1).1; cases h3; omega)
          gi_wp2
          refine ⟨by simp, .inl ⟨_, _, rfl, run_takeDeferred hK2, ?_⟩⟩
          exact ⟨_, results_tmp rfl _ _ _, v, hg0.acc, none, rfl, own_mono (ownsRow_putObj hrow2 _ hK2 rfl) (by have := HG1.out.size; omega), r2.blk (World.putObj_heap_other (by omega)), rowS_no HNO.out rfl, gr_new (grown_trans HG1.out h2.fr) (grownBy_putObj' W2 D _) (fun g e => by cases e; have := HG1.out.size; omega), hbd.1⟩
        · gi_wp2
          refine ⟨by simp, .inl ⟨_, _, rfl, run_takeDeferred hK, ?_⟩⟩
          exact ⟨_, results_tmp rfl _ _ _, v, hg0.acc, hg0.o, rfl, own_mono (ownsRow_putObj hrow _ hK rfl) (by have := HG1.out.size; omega), HH.out.rd.blk (World.putObj_heap_other (by omega)), rowS_no HNO.out HS.out, gr_new (grown_trans HG1.out HH.out.fr) (grownBy_putObj' W D _) (fun g e => by cases e; have := HG1.out.size; omega), hbd.1⟩
    | some k0 =>
      have HYO : Hid (o.bind (rwO s) = rwK s c k0 (-1) []) := nmS_some hn (by omega)
      have HF1 : Hid (FormAt w1) := HF.out.grown g1 hb
      have H1 : Hid (Rs w1 b s (some k0) ∧ w.grownBy w1 (some b) ∧ True) := ⟨r1, g1, trivial⟩
      have hb1 : b < w1.heap.size := Rs.lt r1
      clear hn r1 g1 HN HF
      gi_wp2_with fail
      refine ⟨trivial, (callsIn_wide.2 (gaps b c _)).mono ?_⟩
      rintro e w3 ⟨rfl, rfl⟩
      gi_wp2_with fail
      have RI0 : RI w1 b w1.heap.size s c ⟨[], -1, (some k0)⟩ ((((w1.alloc (.cells #[.slice none 0 0] 81)).alloc (.cells #[.int .i64 (-1)] 3)).alloc (.cells #[.pointer (some ⟨b, 0, none⟩)] 122)).alloc (.cells #[.int .i64 c] 3)) := RI.start H1.out.1 HF1.out hb1
      refine rangeS (σ := Gh) (α := Int) rfl (by omega) (gf := 101) (lb := #[.pointer (some ⟨w1.heap.size + 1 + 1 + 1, 0, none⟩), .pointer (some ⟨w1.heap.size + 1 + 1, 0, none⟩)]) rfl trivial (enters_of Tryz.func101 (by kernel_rfl) rfl) (encs := fun x => #[.int .i64 x]) (fun _ => rfl)
        (RI w1 b w1.heap.size s c) (fun h V V' row hh hg hr => hh.kept rfl hb1 HF1.out.lt hg (fun r e => ⟨by have := (hr r e).1; simp at this; omega, (hr r e).2⟩)) gpR (gpS (gkO s c k0 (-1) [])) ⟨[], -1, (some k0)⟩ RI0
        (fun l J W hJI hM hY h0 => by
          have hM' : ∀ h h' V V', J h V → RI w1 b w1.heap.size s c h' V' → KeepsFrom (w1.heap.size + 4) V V' → J h' V' := fun h h' V V' a1 a2 a3 => hM h h' V V' a1 a2 ⟨a3.size, fun k o hk => a3.same k o (by simp at hk; omega)⟩
          exact gaps1_some w1 b _ _ s c k0 hs rfl hb1 hb (by omega) l J W hJI hM' hY h0)
        (fun y => { tmps := #[.pointer (some ⟨b, 0, none⟩), undef, .slice none 0 0, .int .i64 c, .pointer (some ⟨w1.heap.size, 0, none⟩), .pointer (some ⟨w1.heap.size + 1, 0, none⟩), .int .i64 y, .pointer (some ⟨b, 0, none⟩), .int .i64 c, .int .i64 c, .bool (decide (127 < (c : Int))), undef, undef, .pointer (some ⟨b, 0, none⟩), .int .i64 c, .func (.func 101) #[] #[.pointer (some ⟨w1.heap.size + 1 + 1 + 1, 0, none⟩), .pointer (some ⟨w1.heap.size + 1 + 1, 0, none⟩)], .int .i64 y, undef, undef, undef, undef, undef, undef, undef, undef, undef, undef, undef, undef, undef], defers := [] }) ?assign ?body ?done
      case assign =>
        intro l y W K hK
        gi_wp2
        exact hK
      case body =>
        rintro l hg0 y hg1 W hR hh
        obtain ⟨rfl, y0, y1, yl⟩ := hR
        obtain ⟨v, hv, hrow⟩ := hh.row
        obtain ⟨bd0, bd1, bd2⟩ := hh.bd
        have hc := hv.cell
        have hfr := hv.frozen
        have hlc := hh.la.cell
        have hlf := hh.la.frozen
        have HH : Hid (RI w1 b w1.heap.size s c hg0 W) := hh
        have HV : Hid (Boxed W w1.heap.size 81 v) := hv
        have hsz : w1.heap.size + 4 ≤ W.heap.size := by have := hh.cb.lt; omega
        have ew : hg0.last + (1 + y) = hg0.last + 1 + y := by omega
        have hown1 : (W.setCell ⟨w1.heap.size + 1, 0, none⟩ (.int .i64 (hg0.last + 1 + y))).ownsRow (w1.heap.size + 4) 3 1 v hg0.acc.length (hg0.acc.flatMap encI) := own_set hrow (fun e => by have := (hrow.lt _ e).1; simp at this) _
        have HO : Hid (W.ownsRow (w1.heap.size + 4) 3 1 v hg0.acc.length (hg0.acc.flatMap encI)) := hrow
        have bdn : hg0.acc.length ≤ 127 := bd0
        clear hh hv hrow
        gi_wp2_with (gi_at_builtin; refine wpListIn_append_own _ rfl _ _ 81 rfl (w1.heap.size + 4) 3 i0 (.int .i64 0) 1 8 Tryz.underlying81 hi hz0 hz1 hz2 rfl (by decide) _ _ _ rfl (hown1.alloc _) ⟨W.heap.size, 0, none⟩ 1 1 [.int .i64 (hg0.last + 1 + y)] rfl rfl (cell_one_new' _ _ _ (by simp)) (by simp [Value.oneCell']) (by unfold maxLen; omega) (by omega) (by simp; omega) ?_; intro v' w3 hown' hgrow _; obtain ⟨g', cap', rfl⟩ := ownsRow_succ hown'; obtain ⟨hc1, hf1, HFin⟩ := RI.round HH.out HV.out HO.out hb1 HF1.out.lt hb hown' hgrow ⟨y0, y1, yl⟩)
        all_goals exact HFin
      case done =>
        rintro D hg0 W hD hS hh hK
        obtain ⟨v, hv, hrow⟩ := hh.row
        have hc := hv.cell
        have hlc := hh.la.cell
        have hD1 : w1.heap.size + 4 ≤ D := by simp at hD; omega
        have HH : Hid (RI w1 b w1.heap.size s c hg0 W) := hh
        have HS : Hid ((gpS (gkO s c k0 (-1) [])) hg0) := hS
        have hbd := hh.bd
        have HG1 : Hid (w.grownBy w1 (some b)) := H1.out.2.1
        clear hS hh
        by_cases hla : 16383 < hg0.last
        · gi_wp2_with fail
          refine ⟨trivial, (callsIn_wide.2 (rd_fail b s hg0.o W HH.out.rd HH.out.fm hb)).mono ?_⟩
          rintro e W2 ⟨⟨v2, rfl⟩, r2, g2⟩
          have h2 := HH.out.moved rfl hb1 hb g2 r2
          have hK2 : W2.heap[D]? = some (.deferred (some [])) := by rw [g2.block D (Array.getElem?_eq_some_iff.1 hK).1 (fun e => by cases e; omega)]; exact hK
          have hv2 := hv.kept g2 (fun e => by cases e; omega)
          have hc2 := hv2.cell
          have hrow2 := row_gr hrow g2 (fun k h1 h3 => by have := (hrow.lt k h1).1; cases h3; omega)
          gi_wp2
          refine ⟨by simp, .inl ⟨_, _, rfl, run_takeDeferred hK2, ?_⟩⟩
          exact ⟨_, results_tmp rfl _ _ _, v, hg0.acc, none, rfl, own_mono (ownsRow_putObj hrow2 _ hK2 rfl) (by have := HG1.out.size; omega), r2.blk (World.putObj_heap_other (by omega)), rowS_yes HYO.out HS.out (.inl ⟨hla, rfl⟩), gr_new (grown_trans HG1.out h2.fr) (grownBy_putObj' W2 D _) (fun g e => by cases e; have := HG1.out.size; omega), hbd.1⟩
        · gi_wp2
          refine ⟨by simp, .inl ⟨_, _, rfl, run_takeDeferred hK, ?_⟩⟩
          exact ⟨_, results_tmp rfl _ _ _, v, hg0.acc, hg0.o, rfl, own_mono (ownsRow_putObj hrow _ hK rfl) (by have := HG1.out.size; omega), HH.out.rd.blk (World.putObj_heap_other (by omega)), rowS_yes HYO.out HS.out (.inr ⟨by omega, rfl⟩), gr_new (grown_trans HG1.out HH.out.fr) (grownBy_putObj' W D _) (fun g e => by cases e; have := HG1.out.size; omega), hbd.1⟩
end Go.Proofs.YtlnpbfeihjfnjabGreatDoor.Lab

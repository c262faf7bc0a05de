/-
  A range over a function whose iterator keeps state of its own in cells: one law, over a ghost state that the body and the iterator move in turn; the body never leaves the loop.
  A strings.Builder that a call has made itself: copyCheck and WriteString, walked at this dump.
  Rows as bytes by impl: gaps by a range over a function, a builder; the contract of impl.PackRow.
  A builder's write, which leaves what is no row of bytes. (Written by tools/mkblk.py, out of Bld.)
-/
import Derived.RangeFuncNested
import Derived.RangeFuncBound
import Derived.RangeFuncCalls
import Derived.RangeFuncLeaves
import Derived.Shelf.Abstract
import Derived.Shelf.RegionOpen
import Derived.WalkKit
import Derived.OwnWalkIn
import Derived.TacticsInMore
import Derived.LoopNIn
import Derived.LoopIn
import Derived.Test.YtlnpbfeihjfnjaaGreatDoorRows
import Derived.Test.YtlnpbfeihjfnjaaGreatDoorRShf
import Derived.Lib.Builder
import Derived.Lib.AppendStr
import Derived.Lib.UnsafeStr
import Derived.Lib.FrozenHead
import Derived.Lib.OthersKept
import Derived.Shelf.Strings.Builder1
import Derived.Test.YtlnpbfeihjfnjaaGreatDoorRErr
import Derived.Test.YtlnpbfeihjfnjaaGreatDoorRow
namespace Go.Proofs.YtlnpbfeihjfnjaaGreatDoor.Lab
open Go.RowKit
/-- Behind a round: it goes on, what is no cells lies as it lay, and the state has been moved. -/
def postR {σ : Type} (B : Nat) (I : σ → World → Prop) (s' : σ) (W : World) : Exit → Act → World → Prop
  | .normal, _, W' => KeepsFrom B W W' ∧ I s' W'
  | _, _, _ => False
theorem rangeS {α σ : Type} {F : Fence} {n : Nat} {P : Program} {g : Operand} {ps : Array Tmp} {assign body : Code} {Q : Exit → Act → World → Prop} {a : Act} {w : World}
    (hro : F.round = none) (h1 : 1 ≤ n) {gf : Nat} {lb : Array Value} (hg : a.eval g = .func (.func gf) #[] lb) (hFg : F.fn gf) (eg : ∀ args w, (callFunc gf args).run P w = .ok (.enter gf args) w)
    {encs : α → Array Value} (hps : ∀ x, (encs x).size = ps.size)
    (I : σ → World → Prop) (hI : OwnFrom w.heap.size I) (R : σ → α → σ → Prop) (S : σ → Prop) (s0 : σ) (h0 : I s0 w)
    (hiter : ∀ (l : Nat) (J : σ → World → Prop) (W : World), (∀ s V, J s V → I s V) → (∀ s s' V V', J s V → I s' V' → KeepsFrom w.heap.size V V' → J s' V') →
      (∀ s x s' V, J s V → R s x s' → YieldAt F (n - 1 - 1) P l (encs x) V fun e V' => e = .returned (.bool true) ∧ J s' V') → J s0 W →
      CallsIn F (n - 1) P gf (#[.func (.yield l) #[] #[]] ++ lb) W fun e V => (∃ v, e = .returned v) ∧ ∃ s, S s ∧ J s V)
    (a₁ : α → Act)
    (hassign : ∀ (l : Nat) (x : α) (W : World) (K : Act → World → Prop), K (a₁ x) W →
      assign.wpIn (F.inRound l) (n - 1 - 1) P (Exit.then K (fun _ _ _ => False)) { tmps := (ps.zip (encs x)).foldl (fun t (p, v) => t.setIfInBounds p v) a.tmps, defers := [] } W)
    (hbody : ∀ (l : Nat) (s : σ) (x : α) (s' : σ) (W : World), R s x s' → I s W → body.wpIn (F.inRound l) (n - 1 - 1) P (postR w.heap.size I s' W) (a₁ x) W)
    (hdone : ∀ (D : Nat) (s : σ) (W : World), w.heap.size ≤ D → S s → I s W → W.heap[D]? = some (.deferred (some [])) → Q .normal { a with defers := { target := .collected D, args := #[] } :: a.defers } W) :
    (Code.rangeFunc g ps assign body).wpIn F n P Q a w := by
  refine wpIn_rangeFunc ?_
  intro fn hfn
  rw [hro]
  -- the loop's record, as it stands between two rounds
  obtain ⟨mk, hmk⟩ : ∃ mk : LoopState → Option Code → Loop, mk = fun st pe => { state := st, pending := pe, fn, tmps := a.tmps, params := ps, assign, body, defers := w.heap.size } := ⟨_, rfl⟩
  obtain ⟨L, hL⟩ : ∃ L, L = w.heap.size + 1 := ⟨_, rfl⟩
  obtain ⟨U, hU⟩ : ∃ U, U = (w.alloc (.deferred (some []))).alloc (.loop (mk .ready none)) := ⟨_, rfl⟩
  have uL : U.heap[L]? = some (.loop (mk .ready none)) := by
    have := World.alloc_heap_new (w.alloc (.deferred (some []))) (.loop (mk .ready none))
    rw [World.size_alloc] at this
    rw [hU, hL]; exact this
  have uD : U.heap[w.heap.size]? = some (.deferred (some [])) := by
    rw [hU]; exact (Below.heap_alloc _ _ _ (by simp)).trans (World.alloc_heap_new w _)
  have uI : I s0 U := by rw [hU]; exact hI.alloc _ (hI.alloc _ h0)
  refine ⟨L, [{ target := .collected w.heap.size, args := #[] }], U, { target := .fn (.func gf) lb, args := #[.func (.yield L) #[] #[]] }, U, gf, #[.func (.yield L) #[] #[]] ++ lb, U, ?_, ?_, ?_, ?_, fun _ => h1, ?_⟩
  · rw [hU, hL, hmk]; exact run_enterLoop_outer _ _ _ _ _
  · simp only [resolve, hg]
    simp [go_sem]
  · intro f' hf'; simp [Target.leads] at hf'; subst hf'; exact hFg
  · simp [invoke, go_sem, eg]
  · have sh : ∀ (pe : Option Code) (st : LoopState), (Obj.loop (mk st pe)).isCells = false := fun _ _ => rfl
    refine (hiter L (fun s V => I s V ∧ V.heap[L]? = some (.loop (mk .ready none)) ∧ V.heap[w.heap.size]? = some (.deferred (some []))) U (fun s V h => h.1)
      (fun s s' V V' h hi hk => ⟨hi, hk.same _ _ (by omega) h.2.1 rfl, hk.same _ _ (Nat.le_refl _) h.2.2 rfl⟩) ?_ ⟨uI, uL, uD⟩).mono ?_
    · rintro s x s' V ⟨hi, hl, hd⟩ hR
      have hlt : L < V.heap.size := (Array.getElem?_eq_some_iff.1 hl).1
      have hy := run_yield (P := P) (args := encs x) hl (by rw [hmk]; exact hps x)
      rw [hmk] at hy
      refine ⟨fn, _, assign, body, hy, roundIn_of_wpIn hfn (hassign _ x V _ ⟨_, run_beginRound hl (by rw [hmk]), ?_⟩)⟩
      obtain ⟨V1, hV1⟩ : ∃ V1, V1 = V.putObj L (.loop { mk .ready none with state := .busy }) := ⟨_, rfl⟩
      have l1 : V1.heap[L]? = some (.loop { mk .ready none with state := .busy }) := by rw [hV1]; exact World.putObj_heap_same hlt
      have d1 : V1.heap[w.heap.size]? = some (.deferred (some [])) := by rw [hV1]; exact (World.putObj_heap_other (by omega)).trans hd
      have i1 : I s V1 := by rw [hV1]; exact hI.putObj _ hi (by omega) hl rfl
      rw [← hV1]
      refine wpIn_mono (hbody L s x s' V1 hR i1) ?_
      rintro e a3 V3 hp
      cases e with
      | normal =>
        obtain ⟨hk, hi3⟩ := hp
        have l3 := hk.same _ _ (by omega) l1 rfl
        have d3 := hk.same _ _ (Nat.le_refl _) d1 rfl
        have hr := run_endRound (P := P) none l3
        rw [hmk] at hr l3
        refine ⟨_, _, hr, rfl, hI.putObj _ hi3 (by omega) l3 rfl, ?_, (World.putObj_heap_other (by omega)).trans d3⟩
        rw [hmk]
        exact World.putObj_heap_same (Array.getElem?_eq_some_iff.1 l3).1
      | ret => exact hp.elim
      | exit id => exact hp.elim
      | goto t => exact hp.elim
      | panic ch => exact hp.elim
      | outgrown => exact hp.elim
    · rintro e V ⟨⟨v, rfl⟩, s, hS, hi, hl, hd⟩
      have he := run_endLoop (P := P) hl (by rw [hmk]; simp)
      rw [hmk] at he hl
      exact ⟨none, _, he, hdone _ s _ (Nat.le_refl _) hS (hI.putObj _ hi (by omega) hl rfl) ((World.putObj_heap_other (by omega)).trans hd)⟩
end Go.Proofs.YtlnpbfeihjfnjaaGreatDoor.Lab
namespace Go.Proofs.YtlnpbfeihjfnjaaGreatDoor.Lab
open Go.RowKit Go.Shelf
set_option linter.unusedVariables false
theorem Tryz.sizeBld : (Tryz.prog.info? 87).map (·.size) = some 2 := by kernel_rfl
theorem Tryz.infoU8 : (Tryz.prog.info? 5).map (fun i => (i.zero, i.size, i.bytes)) = some (some (.int .u8 0), 1, 1) := by kernel_rfl
theorem Tryz.liesBld : liesAt Tryz.prog Tryz.prog.depth 87 (2 / Tryz.prog.cellsOf 87) 0 87 1 = true := by kernel_rfl
theorem keeps_set (w : World) (p : Addr) (v : Value) : KeepsOthers w (w.setCell p v) := KeepsOthers.setCell _ _ _
set_option maxHeartbeats 1000000 in
set_option maxRecDepth 100000 in
theorem check_fresh (b : Nat) (w : World) (h0 : w.cell? ⟨b, 0, none⟩ = some (.pointer none)) (hsh : w.shape? b = some (87, 2)) (hfz : w.frozen? ⟨b, 0, none⟩ = false) :
    Calls Tryz.prog 89 #[.pointer (some ⟨b, 0, none⟩)] w fun e w' => e = .returned (.tuple #[]) ∧ w' = w.setCell ⟨b, 0, none⟩ (.pointer (some ⟨b, 0, none⟩)) := by
  obtain ⟨j, hj, hjs⟩ := Option.map_eq_some_iff.1 Tryz.sizeBld
  go_enter Tryz.func89, Tryz.ntmps89
  go_wp2
  rw [Lib.run_to_unsafe w ⟨b, 0, none⟩ Tryz.underlying85 Tryz.underlying164 hj (by rw [hjs]; decide) hsh (Nat.zero_lt_succ 1)]
  simp only [Result.andThen]
  rw [Oper.upon_value]
  go_wp2
  rw [run_callFunc_extern Tryz.func123 (by kernel_rfl) (by kernel_rfl) (by kernel_rfl) (e := Extern.AbiNoEscape.same) (by kernel_rfl)]
  rw [Lib.run_noEscape]
  simp only [Result.andThen]
  rw [Oper.upon_value]
  go_wp2
  rw [Lib.run_from_unsafe w ⟨b, 0, none⟩ Tryz.underlying164 Tryz.underlying85 hj hsh Tryz.liesBld]
  simp only [Result.andThen]
  rw [Oper.upon_value]
  go_wp2
  go_end0
  exact ⟨rfl, rfl⟩
set_option maxHeartbeats 1000000 in
set_option maxRecDepth 100000 in
theorem check_used (b : Nat) (w : World) (h0 : w.cell? ⟨b, 0, none⟩ = some (.pointer (some ⟨b, 0, none⟩))) :
    Calls Tryz.prog 89 #[.pointer (some ⟨b, 0, none⟩)] w fun e w' => e = .returned (.tuple #[]) ∧ w' = w := by
  obtain ⟨j, hj, _⟩ := Option.map_eq_some_iff.1 Tryz.sizeBld
  go_enter Tryz.func89, Tryz.ntmps89
  go_wp2
  rw [Lib.run_neq_ptr_same w _ Tryz.underlying85 hj]
  go_wp2
  go_end0
  exact ⟨rfl, rfl⟩
theorem bl_check (B b : Nat) (bs : List Value) (w : World) (h : Lib.IsBuilder 87 5 B b bs w) :
    Calls Tryz.prog 89 #[.pointer (some ⟨b, 0, none⟩)] w fun e w' => e = .returned (.tuple #[]) ∧ Lib.BuilderAt 87 5 B b (.pointer (some ⟨b, 0, none⟩)) bs w' ∧ Below B w w' ∧ KeepsOthers w w' := by
  rcases h with h | h
  · refine (check_fresh b w h.cell0 h.shape h.frozen0).mono ?_
    rintro e w' ⟨rfl, rfl⟩
    exact ⟨rfl, h.used _, (Below.refl B w).setCell (p := ⟨b, 0, none⟩) h.1 _, keeps_set _ _ _⟩
  · refine (check_used b w h.cell0).mono ?_
    rintro e w' ⟨rfl, rfl⟩
    exact ⟨rfl, h, Below.refl B _, KeepsOthers.refl _⟩
set_option maxHeartbeats 1000000 in
set_option maxRecDepth 100000 in
theorem bl_write (B b : Nat) (l : List UInt8) (s : List UInt8) (w : World) (h : Lib.IsBuilder 87 5 B b (Lib.byteCells l) w) (hlen : l.length + s.length ≤ 1000000000) (hBw : B ≤ w.heap.size) :
    Calls Tryz.prog 55 #[.pointer (some ⟨b, 0, none⟩), .string ⟨s.toArray⟩] w fun e w' => (∃ v, e = .returned v) ∧ Lib.IsBuilder 87 5 B b (Lib.byteCells (l ++ s)) w' ∧ Below B w w' ∧ KeepsOthers w w' := by
  obtain ⟨i0, hi, hz0, hz1, hz2⟩ := info_parts Tryz.infoU8
  have hz : (ByteArray.mk s.toArray).size = s.length := by simp [ByteArray.size]
  have hll : (Lib.byteCells l).length = l.length := Lib.byteCells_length l
  go_enter Tryz.func55, Tryz.ntmps55
  go_wp2_with fail
  refine (bl_check B b _ _ h).mono ?_
  rintro e w1 ⟨rfl, h1, hb1, hk1⟩
  obtain ⟨hB, v, hbk, hown, hne⟩ := h1
  have c0 : w1.cell? ⟨b, 0, none⟩ = some (.pointer (some ⟨b, 0, none⟩)) := by rw [Lib.cell_of_heap hbk]; rfl
  have c1 : w1.cell? ⟨b, 1, none⟩ = some v := by rw [Lib.cell_of_heap hbk]; rfl
  have s1 := hb1.size
  go_wp2_with (at_builtin; refine Lib.wpList_append_own_string _ rfl _ _ 22 9 rfl B 5 i0 Tryz.underlying22 Tryz.underlying9 hi hz0 hz1 hz2 _ _ _ rfl hown ⟨s.toArray⟩ rfl ?c3 ?c4 ?c5 ?_)
  case c3 => unfold maxLen; omega
  case c4 => omega
  case c5 => omega
  intro v' w2 hown' hgrow _
  have hlt : b < w1.heap.size := lt_of_block hbk
  have hb2 : w2.heap[b]? = some (.cells #[.pointer (some ⟨b, 0, none⟩), v] 87 (0, 0)) := by
    rw [hgrow.block b hlt (fun e => hne e.symm)]; exact hbk
  have d0 : w2.cell? ⟨b, 0, none⟩ = some (.pointer (some ⟨b, 0, none⟩)) := by rw [Lib.cell_of_heap hb2]; rfl
  have d1 : w2.cell? ⟨b, 1, none⟩ = some v := by rw [Lib.cell_of_heap hb2]; rfl
  have f1 : w2.frozen? ⟨b, 1, none⟩ = false := Lib.frozen_of_heap hb2 1
  have bel2 : Below B w w2 := hb1.grown hgrow (by omega) (fun k hk => (hown.lt k hk).1)
  have kp2 : KeepsOthers w1 w2 := ⟨hgrow.size, fun k o hk ho => by
    rw [hgrow.block k (Array.getElem?_eq_some_iff.1 hk).1 (fun e => ?_)]
    · exact hk
    · obtain ⟨_, hx | ⟨g, cap, cur, rfl, _, hg, _⟩⟩ := hown
      · rw [hx.1] at e; simp [Value.ownBlock] at e
      · simp [Value.ownBlock] at e; subst e
        rw [hg] at hk; cases hk; cases ho⟩
  have hput : Lib.BuilderAt 87 5 B b (.pointer (some ⟨b, 0, none⟩)) (Lib.byteCells (l ++ s)) (w2.setCell ⟨b, 1, none⟩ v') := by
    refine Lib.BuilderAt.put (T := 87) (e := 5) hB hb2 (bs' := Lib.byteCells (l ++ s)) ?_ (by decide)
    have e1 : Lib.byteCells (l ++ s) = Lib.byteCells l ++ Lib.strCells ⟨s.toArray⟩ := by rw [Lib.byteCells_append]; rfl
    have e2 : (Lib.byteCells (l ++ s)).length = l.length + s.length := by rw [Lib.byteCells_length]; simp
    rw [e2, e1]; exact hown'
  obtain ⟨ao, n', cap, rfl⟩ : ∃ ao n' cap, v' = .slice ao n' cap := by
    rcases hown'.2 with ⟨hv, _⟩ | ⟨g, cap, cur, hv, _⟩
    · exact ⟨_, _, _, hv⟩
    · exact ⟨_, _, _, hv⟩
  have HF : Hid (Lib.BuilderAt 87 5 B b (.pointer (some ⟨b, 0, none⟩)) (Lib.byteCells (l ++ s)) (w2.setCell ⟨b, 1, none⟩ (.slice ao n' cap)) ∧ Below B w w2 ∧ KeepsOthers w w2 ∧ B ≤ b) := ⟨hput, bel2, hk1.trans kp2, hB⟩
  clear hput bel2 kp2 hk1 hb1 hown hown' hgrow hbk hb2 h
  go_wp2
  go_ret2
  exact ⟨⟨_, rfl⟩, .inr HF.out.1, HF.out.2.1.setCell (p := ⟨b, 1, none⟩) HF.out.2.2.2 _, HF.out.2.2.1.trans (keeps_set _ _ _)⟩
end Go.Proofs.YtlnpbfeihjfnjaaGreatDoor.Lab
namespace Go.Proofs.YtlnpbfeihjfnjaaGreatDoor.Lab
open Go.RowKit Go.Shelf
set_option linter.unusedVariables false
attribute [local go_sem] Oper.semAt_some
set_option maxHeartbeats 400000 in
theorem gapsOf (v : Value) (w : World) (hv : v.oneCell' = true) (ha : ∃ a n c, v = .slice a n c) :
    Calls Tryz.prog 91 #[v] w fun e w' => e = .returned (.func (.func 124) #[] #[.pointer (some ⟨w.heap.size, 0, none⟩)]) ∧ w' = w.alloc (.cells #[v] 81) := by
  obtain ⟨a, n, c, rfl⟩ := ha
  go_enter Tryz.func91, Tryz.ntmps91
  go_wp2
  go_ret
  exact ⟨rfl, rfl⟩
theorem bld_kept {T e B b : Nat} {bs : List Value} {W W' : World} {row : Option Nat} (h : Lib.IsBuilder T e B b bs W) (hg : W.grownBy W' row) (hr : ∀ r, row = some r → ∃ o : Obj, W.heap[r]? = some o ∧ o.isCells = false) : Lib.IsBuilder T e B b bs W' := by
  have one : ∀ p, Lib.BuilderAt T e B b p bs W → Lib.BuilderAt T e B b p bs W' := fun p h => by
    obtain ⟨h1, v, h2, h3, h4⟩ := h
    refine ⟨h1, v, ?_, own_gr h3 hg (fun k hk hrow => ?_), h4⟩
    · rw [hg.block b (lt_of_block h2) (fun e => ?_)]
      · exact h2
      · obtain ⟨o, ho, hn⟩ := hr b e.symm
        rw [h2] at ho; cases ho; cases hn
    · obtain ⟨o, ho, hn⟩ := hr k hrow
      obtain ⟨_, hx | ⟨g, cap, cur, rfl, _, hgk, _⟩⟩ := h3
      · rw [hx.1] at hk; simp [Value.ownBlock] at hk
      · simp [Value.ownBlock] at hk; subst hk
        rw [hgk] at ho; cases ho; cases hn
  exact h.elim (fun x => .inl (one _ x)) (fun x => .inr (one _ x))
theorem below_grown {w w' : World} (h : Below w.heap.size w w') : w.grownBy w' none := ⟨h.os, h.tape, h.output, h.size, fun k hk _ => h.block k hk⟩
theorem below_keeps {w w' : World} (h : Below w.heap.size w w') : KeepsOthers w w' := ⟨h.size, fun k o hk _ => (h.block k (Array.getElem?_eq_some_iff.1 hk).1).trans hk⟩
theorem bld_below {T e B b : Nat} {bs : List Value} {W W' : World} (h : Lib.IsBuilder T e B b bs W) (hb : Below W.heap.size W W') : Lib.IsBuilder T e B b bs W' := bld_kept h (below_grown hb) (fun r e => by cases e)
/-- Between two rounds: so many gaps have been written. -/
structure PI (w : World) (xs : List Int) (Bx : Nat) (v : Value) (k : Nat) (W : World) : Prop where
  bl : Lib.IsBuilder 87 5 w.heap.size w.heap.size (Lib.byteCells (rowK xs k)) W
  be : Below w.heap.size w W
  bx : k = 0 → Boxed W Bx 81 v
def piR (xs : List Int) (k : Nat) (x : Int) (k' : Nat) : Prop := k < xs.length ∧ x = gapAt xs k ∧ k' = k + 1
set_option maxRecDepth 100000 in
set_option maxHeartbeats 2000000 in
theorem gapsOf1 (w : World) (a : Option Addr) (cap n Bx : Nat) (xs : List Int) (hrow : RowAt 1 encI w (.slice a xs.length cap) xs) (hok : ∀ j, j < xs.length → okAt xs j = true) (hl : xs.length ≤ 127) (l : Nat) (J : Nat → World → Prop) (W : World)
    (hJI : ∀ k V, J k V → PI w xs Bx (.slice a xs.length cap) k V)
    (hY : ∀ k x k' V, J k V → piR xs k x k' → YieldAt Fence.wide n Tryz.prog l #[.int .i64 x] V fun e V' => e = .returned (.bool true) ∧ J k' V') (h0 : J 0 W) :
    CallsIn Fence.wide (n + 1) Tryz.prog 124 #[.func (.yield l) #[] #[], .pointer (some ⟨Bx, 0, none⟩)] W fun e V => (∃ v, e = .returned v) ∧ ∃ k, k = xs.length ∧ J k V := by
  have c0 := ((hJI _ _ h0).bx rfl).cell
  have HR : Hid (RowAt 1 encI w (.slice a xs.length cap) xs) := hrow
  have HO : Hid (∀ j, j < xs.length → okAt xs j = true) := hok
  clear hrow hok
  obtain ⟨m, hm⟩ : ∃ m, m = xs.length := ⟨_, rfl⟩
  have HM : Hid (m = xs.length) := hm
  rw [← hm] at c0 hl HR
  clear hm
  refine callsIn_of_wp Tryz.func124 rfl trivial ?_ rfl
  simp only [Tryz.ntmps124, List.size_toArray, List.length_cons, List.length_nil, Nat.reduceAdd, Nat.reduceSub, Array.replicate_succ, Array.replicate_zero, List.push_toArray, List.append_toArray, List.nil_append, List.cons_append]
  gi_wp2
  clear c0
  gi_loopw [3, 8] (fun q i wr => ∃ (k : Nat) (y : Int), k ≤ m ∧ i = .int .i64 k ∧ q = .int .i64 y ∧ y = lastAt xs k ∧ J k wr) (fun _ i _ => m - (intOf i).toNat)
  case atStart => exact ⟨0, -1, by omega, rfl, rfl, rfl, h0⟩
  case round =>
    obtain ⟨k, y, hk, rfl, rfl, hy, hJ⟩ := hrel
    by_cases hlt : k < m
    · rcases HR.out with ⟨hz, _⟩ | ⟨_, b1, o1, q1, hv1, hb1, E1⟩
      · have := HM.out; rw [hz] at this; simp at this; omega
      obtain rfl : a = some ⟨b1, o1, none⟩ := by injection hv1
      obtain ⟨x, hx⟩ : ∃ x, xs[k]? = some x := ⟨_, List.getElem?_eq_getElem (by rw [← HM.out]; exact hlt)⟩
      have pi := hJI _ _ hJ
      have e0 : wr.cell? ⟨b1, o1 + k, none⟩ = some (.int .i64 x) := by rw [Below.celz pi.be _ _ _ hb1]; exact cellI E1 hx
      obtain ⟨x0, x1, x2⟩ := (okAt_iff hx).1 (HO.out k (by rw [← HM.out]; exact hlt))
      have y0 : -1 ≤ y ∧ y ≤ 16383 := by rw [hy]; exact lastAt_bd (fun i hi => HO.out i (by rw [← HM.out]; omega))
      have HG : gapAt xs k = x - y - 1 := by unfold gapAt; rw [getD_of hx, hy]
      have HX : Hid (xs[k]? = some x) := hx
      rw [← hy] at x2
      obtain ⟨fn, tmps, assign, body, hyl, hR⟩ := hY k (x - y - 1) (k + 1) wr hJ ⟨by rw [← HM.out]; exact hlt, HG.symm, rfl⟩
      have k0 : (0 : Int) ≤ (k : Int) := by omega
      have k1 : (k : Int) < (m : Int) := by omega
      clear hx E1 hv1 hy pi HG
      gi_wp2
      refine hR.mono ?_
      rintro e W3 ⟨rfl, hJ3⟩
      clear hyl hR e0
      gi_wp2
      go_roundw
      case rel =>
        refine ⟨k + 1, x, by omega, by go_num, rfl, ?_, hJ3⟩
        simp only [lastAt, if_neg (Nat.succ_ne_zero k), Nat.add_sub_cancel]; exact (getD_of HX.out).symm
      case measure => simp [intOf]; omega
    · have hkm : k = m := by omega
      subst hkm
      gi_wp2
      first | go_end0 | refine bodyPost_ret (results_none rfl _ _ _) rfl ?_
      exact ⟨⟨_, rfl⟩, k, HM.out, hJ⟩
/-- How a call of PackRow ends. -/
def PackPost (w : World) (xs : List Int) (e : Ending) (w' : World) : Prop := e = .returned (.string ⟨(rowL xs).toArray⟩) ∧ Below w.heap.size w w'
set_option maxRecDepth 100000 in
set_option maxHeartbeats 4000000 in
theorem impl_PackRow (v : Value) (xs : List Int) (w : World) (h : RowAt 1 encI w v xs) (hl : xs.length ≤ 1048576) :
    Calls Tryz.prog 56 #[v] w (PackPost w xs) := by
  obtain ⟨a, cap, rfl⟩ := h.len
  have HR : Hid (RowAt 1 encI w (.slice a xs.length cap) xs) := h
  have HK : Hid (Calls Tryz.prog 90 #[.slice a xs.length cap] w fun e w' => e = .returned (.bool (upB xs)) ∧ w' = w) := rowOk _ xs w h hl
  clear h
  cases hu : upB xs
  · rw [hu] at HK
    have HL : Hid (rowL xs = []) := by show rowL xs = []; simp [rowL, hu]
    clear hu
    go_enter Tryz.func56, Tryz.ntmps56
    go_wp2_with fail
    refine HK.out.mono ?_
    rintro e w1 ⟨rfl, rfl⟩
    go_wp2_with fail
    go_ret
    exact ⟨by rw [HL.out]; rfl, Below.refl _ _⟩
  · rw [hu] at HK
    have HL : Hid (rowL xs = rowK xs xs.length) := by show rowL xs = _; simp [rowL, hu]
    obtain ⟨hall, hlen⟩ := upB_all hu
    have HA : Hid (∀ j, j < xs.length → okAt xs j = true) := hall
    clear hall hu hl
    refine (callsIn_wide (n := 6)).1 ?_
    refine callsIn_of_wp_marks Tryz.func56 rfl trivial ?_ rfl
    simp only [Tryz.ntmps56, List.size_toArray, List.length_cons, List.length_nil, Nat.reduceAdd, Nat.reduceSub, Array.replicate_succ, Array.replicate_zero, List.push_toArray, List.append_toArray, List.nil_append, List.cons_append]
    gi_wp2_with fail
    refine ⟨trivial, (callsIn_wide.2 HK.out).mono ?_⟩
    rintro e w1 ⟨rfl, rfl⟩
    gi_wp2_with fail
    refine ⟨trivial, (callsIn_wide.2 (impl_PackNum0 (xs.length : Int) _)).mono ?_⟩
    rintro e w2 ⟨rfl, b2⟩
    have B2 : Below w1.heap.size w1 w2 := ((Below.refl _ _).alloc (Nat.le_refl _) _).trans (b2.mono (by simp))
    have I2 : Lib.IsBuilder 87 5 w1.heap.size w1.heap.size (Lib.byteCells []) w2 := bld_below (Lib.fresh_isBuilder _ _ w1) b2
    have L0 := pkL_len (xs.length : Int)
    have HW : Hid (Calls Tryz.prog 55 #[.pointer (some ⟨w1.heap.size, 0, none⟩), .string (pkB (xs.length : Int))] w2 fun e w' => (∃ v, e = .returned v) ∧ Lib.IsBuilder 87 5 w1.heap.size w1.heap.size (Lib.byteCells ([] ++ pkL (xs.length : Int))) w' ∧ Below w1.heap.size w2 w' ∧ KeepsOthers w2 w') := bl_write w1.heap.size w1.heap.size [] (pkL (xs.length : Int)) w2 I2 (by simp; omega) B2.size
    have HB2 : Hid (Below w1.heap.size w1 w2) := B2
    clear b2 B2 I2 L0
    gi_wp2_with fail
    refine ⟨trivial, (callsIn_wide.2 HW.out).mono ?_⟩
    rintro e w3 ⟨⟨v3, rfl⟩, h3, b3, k3⟩
    have HB3 : Hid (Below w1.heap.size w1 w3) := HB2.out.trans b3
    have HI3 : Hid (Lib.IsBuilder 87 5 w1.heap.size w1.heap.size (Lib.byteCells (rowK xs 0)) w3) := by
      show Lib.IsBuilder _ _ _ _ _ _
      rw [rowK_zero]; simpa using h3
    have s3 : w1.heap.size ≤ w3.heap.size := HB3.out.size
    have hlt3 : w1.heap.size < w3.heap.size := by
      rcases HI3.out with h | h <;> exact h.lt
    clear h3 b3 k3 HW HB2
    gi_wp2_with fail
    refine ⟨trivial, (callsIn_wide.2 (gapsOf _ _ rfl ⟨_, _, _, rfl⟩)).mono ?_⟩
    rintro e w4 ⟨rfl, rfl⟩
    gi_wp2_with fail
    have PI0 : PI w1 xs w3.heap.size (.slice a xs.length cap) 0 (w3.alloc (.cells #[.slice a xs.length cap] 81)) :=
      ⟨bld_below HI3.out ((Below.refl _ _).alloc (Nat.le_refl _) _), HB3.out.alloc s3 _, fun _ => Boxed.new _ _ _⟩
    refine rangeS (σ := Nat) (α := Int) rfl (by omega) (gf := 124) (lb := #[.pointer (some ⟨w3.heap.size, 0, none⟩)]) rfl trivial (enters_of Tryz.func124 (by kernel_rfl) rfl) (encs := fun x => #[.int .i64 x]) (fun _ => rfl)
      (PI w1 xs w3.heap.size (.slice a xs.length cap)) (fun k V V' row hh hg hr => ⟨bld_kept hh.bl hg (fun r e => (hr r e).2), hh.be.grown hg hh.be.size (fun r e => by have := (hr r e).1; simp at this; omega), fun hk => (hh.bx hk).kept hg (fun e => by have := (hr _ e.symm).1; simp only [World.size_alloc] at this; omega)⟩) (piR xs) (fun k => k = xs.length) 0 PI0
      (fun l J W hJI hM hY h0 => gapsOf1 w1 a cap _ w3.heap.size xs HR.out HA.out hlen l J W hJI hY h0)
      (fun y => { tmps := #[.slice a xs.length cap, undef, .string ⟨#[]⟩, .pointer (some ⟨w1.heap.size, 0, none⟩), .int .i64 y, .slice a xs.length cap, .bool true, .bool false, .slice a xs.length cap, .int .i64 xs.length, .string (pkB (xs.length : Int)), v3, .slice a xs.length cap, .func (.func 124) #[] #[.pointer (some ⟨w3.heap.size, 0, none⟩)], .int .i64 y, undef, undef, undef, undef], defers := [] }) ?assign ?body ?done
    case assign =>
      intro l y W K hK
      gi_wp2
      exact hK
    case body =>
      rintro l k y k' W hR hh
      obtain ⟨hk, rfl, rfl⟩ := hR
      have HH : Hid (PI w1 xs w3.heap.size (.slice a xs.length cap) k W) := hh
      have hp : 1 ≤ (6 : Nat) - 1 - 1 := by omega
      clear hh
      gi_wp2_with fail
      refine ⟨trivial, (CallsIn.inRound l (callsIn_wide.2 (impl_PackNum0 (gapAt xs k) _))).mono ?_⟩
      rintro e V1 ⟨rfl, b1⟩
      have I1 := bld_below HH.out.bl b1
      have L1 := rowK_len xs k
      have L2 := pkL_len (gapAt xs k)
      have HW : Hid (Calls Tryz.prog 55 #[.pointer (some ⟨w1.heap.size, 0, none⟩), .string (pkB (gapAt xs k))] V1 fun e w' => (∃ v, e = .returned v) ∧ Lib.IsBuilder 87 5 w1.heap.size w1.heap.size (Lib.byteCells (rowK xs k ++ pkL (gapAt xs k))) w' ∧ Below w1.heap.size V1 w' ∧ KeepsOthers V1 w') := bl_write w1.heap.size w1.heap.size (rowK xs k) (pkL (gapAt xs k)) V1 I1 (by omega) (Nat.le_trans HH.out.be.size b1.size)
      have HB1 : Hid (Below w1.heap.size W V1 ∧ KeepsOthers W V1) := ⟨b1.mono HH.out.be.size, below_keeps b1⟩
      clear b1 I1 L1 L2
      gi_wp2_with fail
      refine ⟨trivial, (CallsIn.inRound l (callsIn_wide.2 HW.out)).mono ?_⟩
      rintro e V2 ⟨⟨v5, rfl⟩, h5, b5, k5⟩
      gi_wp2_with fail
      refine ⟨(HB1.out.2.trans k5).from _, ⟨by rw [rowK_succ]; exact h5, HH.out.be.trans (HB1.out.1.trans b5), fun e => by omega⟩⟩
    case done =>
      rintro D k W hD hk hh hK
      subst hk
      have HP : Hid (PI w1 xs w3.heap.size (.slice a xs.length cap) xs.length W) := hh
      have hD1 : w1.heap.size < D := by simp at hD; omega
      have HST : Hid (Calls Tryz.prog 60 #[.pointer (some ⟨w1.heap.size, 0, none⟩)] W fun e w' => e = .returned (.string ⟨(rowK xs xs.length).toArray⟩) ∧ (Lib.IsBuilderF 87 5 w1.heap.size w1.heap.size (Lib.byteCells (rowK xs xs.length)) w' ∧ Below w1.heap.size W w' ∧ Lib.OthersKept 5 (some w1.heap.size) W w')) := Tryz.Builder_String_any_k w1.heap.size w1.heap.size (rowK xs xs.length) W (Lib.IsBuilderF.of hh.bl) hh.be.size
      clear hh
      gi_wp2_with fail
      refine ⟨trivial, (callsIn_wide.2 HST.out).mono ?_⟩
      rintro e W2 ⟨rfl, _, b6, k6⟩
      have hK2 : W2.heap[D]? = some (.deferred (some [])) := k6 D _ hK (fun e => by cases e; omega) (fun c fz h => by cases h)
      have HB6 : Hid (Below w1.heap.size w1 W2) := HP.out.be.trans b6
      clear b6 k6 HST
      gi_wp2
      refine ⟨by simp, .inl ⟨_, _, rfl, run_takeDeferred hK2, ?_⟩⟩
      refine ⟨_, results_tmp rfl _ _ _, ?_, HB6.out.trans (belowK_b (w := w1) (Nat.le_refl _) W2 D _ _ (by omega) hK2 rfl rfl)⟩
      rw [HL.out]; rfl
end Go.Proofs.YtlnpbfeihjfnjaaGreatDoor.Lab
namespace Go.Proofs.YtlnpbfeihjfnjaaGreatDoor.Lab
open Go.RowKit Go.Shelf
set_option linter.unusedVariables false
/-- A row that is no row of bytes stands. -/
theorem own_others {w w' : World} {base e size n b : Nat} {v : Value} {xs : List Value} (h : w.ownsRow base e size v n xs) (hk : Lib.OthersKept 5 (some b) w w') (he : e ≠ 5) (hb : ∀ g, v.ownBlock = some g → g ≠ b) : w'.ownsRow base e size v n xs := by
  obtain ⟨h1, h | ⟨g, cap, cur, rfl, hbb, hg, hr⟩⟩ := h
  · exact ⟨h1, .inl h⟩
  · exact ⟨h1, .inr ⟨g, cap, cur, rfl, hbb, hk g _ hg (fun e => hb g (by simp [Value.ownBlock]) (by cases e; rfl)) (fun c fz hc => by cases hc; exact he rfl), hr⟩⟩
set_option maxHeartbeats 1000000 in
set_option maxRecDepth 100000 in
theorem bl_check_k (B b : Nat) (bs : List Value) (w : World) (h : Lib.IsBuilder 87 5 B b bs w) :
    Calls Tryz.prog 89 #[.pointer (some ⟨b, 0, none⟩)] w fun e w' => e = .returned (.tuple #[]) ∧ Lib.BuilderAt 87 5 B b (.pointer (some ⟨b, 0, none⟩)) bs w' ∧ Below B w w' ∧ KeepsOthers w w' ∧ Lib.OthersKept 5 (some b) w w' := by
  rcases h with h | h
  · refine (check_fresh b w h.cell0 h.shape h.frozen0).mono ?_
    rintro e w' ⟨rfl, rfl⟩
    exact ⟨rfl, h.used _, (Below.refl B w).setCell (p := ⟨b, 0, none⟩) h.1 _, keeps_set _ _ _, (Lib.OthersKept.refl _ _ _).setCell ⟨b, 0, none⟩ rfl _⟩
  · refine (check_used b w h.cell0).mono ?_
    rintro e w' ⟨rfl, rfl⟩
    exact ⟨rfl, h, Below.refl B _, KeepsOthers.refl _, Lib.OthersKept.refl _ _ _⟩
set_option maxHeartbeats 1000000 in
set_option maxRecDepth 100000 in
theorem bl_write_k (B b : Nat) (l : List UInt8) (s : List UInt8) (w : World) (h : Lib.IsBuilder 87 5 B b (Lib.byteCells l) w) (hlen : l.length + s.length ≤ 1000000000) (hBw : B ≤ w.heap.size) :
    Calls Tryz.prog 55 #[.pointer (some ⟨b, 0, none⟩), .string ⟨s.toArray⟩] w fun e w' => (∃ v, e = .returned v) ∧ Lib.IsBuilder 87 5 B b (Lib.byteCells (l ++ s)) w' ∧ Below B w w' ∧ KeepsOthers w w' ∧ Lib.OthersKept 5 (some b) w w' := by
  obtain ⟨i0, hi, hz0, hz1, hz2⟩ := info_parts Tryz.infoU8
  have hz : (ByteArray.mk s.toArray).size = s.length := by simp [ByteArray.size]
  have hll : (Lib.byteCells l).length = l.length := Lib.byteCells_length l
  go_enter Tryz.func55, Tryz.ntmps55
  go_wp2_with fail
  refine (bl_check_k B b _ _ h).mono ?_
  rintro e w1 ⟨rfl, h1, hb1, hk1, ho1⟩
  obtain ⟨hB, v, hbk, hown, hne⟩ := h1
  have c0 : w1.cell? ⟨b, 0, none⟩ = some (.pointer (some ⟨b, 0, none⟩)) := by rw [Lib.cell_of_heap hbk]; rfl
  have c1 : w1.cell? ⟨b, 1, none⟩ = some v := by rw [Lib.cell_of_heap hbk]; rfl
  have s1 := hb1.size
  go_wp2_with (at_builtin; refine Lib.wpList_append_own_string _ rfl _ _ 22 9 rfl B 5 i0 Tryz.underlying22 Tryz.underlying9 hi hz0 hz1 hz2 _ _ _ rfl hown ⟨s.toArray⟩ rfl ?c3 ?c4 ?c5 ?_)
  case c3 => unfold maxLen; omega
  case c4 => omega
  case c5 => omega
  intro v' w2 hown' hgrow _
  have hlt : b < w1.heap.size := lt_of_block hbk
  have hb2 : w2.heap[b]? = some (.cells #[.pointer (some ⟨b, 0, none⟩), v] 87 (0, 0)) := by
    rw [hgrow.block b hlt (fun e => hne e.symm)]; exact hbk
  have d0 : w2.cell? ⟨b, 0, none⟩ = some (.pointer (some ⟨b, 0, none⟩)) := by rw [Lib.cell_of_heap hb2]; rfl
  have d1 : w2.cell? ⟨b, 1, none⟩ = some v := by rw [Lib.cell_of_heap hb2]; rfl
  have f1 : w2.frozen? ⟨b, 1, none⟩ = false := Lib.frozen_of_heap hb2 1
  have bel2 : Below B w w2 := hb1.grown hgrow (by omega) (fun k hk => (hown.lt k hk).1)
  have kp2 : KeepsOthers w1 w2 := ⟨hgrow.size, fun k o hk ho => by
    rw [hgrow.block k (Array.getElem?_eq_some_iff.1 hk).1 (fun e => ?_)]
    · exact hk
    · obtain ⟨_, hx | ⟨g, cap, cur, rfl, _, hg, _⟩⟩ := hown
      · rw [hx.1] at e; simp [Value.ownBlock] at e
      · simp [Value.ownBlock] at e; subst e
        rw [hg] at hk; cases hk; cases ho⟩
  have ok2 : Lib.OthersKept 5 (some b) w w2 := ho1.grown hgrow (fun g hg => by
    obtain ⟨_, hx | ⟨g', cap, cur, rfl, _, hgg, _⟩⟩ := hown
    · rw [hx.1] at hg; simp [Value.ownBlock] at hg
    · simp [Value.ownBlock] at hg; subst hg; exact ⟨_, _, hgg⟩)
  have hput : Lib.BuilderAt 87 5 B b (.pointer (some ⟨b, 0, none⟩)) (Lib.byteCells (l ++ s)) (w2.setCell ⟨b, 1, none⟩ v') := by
    refine Lib.BuilderAt.put (T := 87) (e := 5) hB hb2 (bs' := Lib.byteCells (l ++ s)) ?_ (by decide)
    have e1 : Lib.byteCells (l ++ s) = Lib.byteCells l ++ Lib.strCells ⟨s.toArray⟩ := by rw [Lib.byteCells_append]; rfl
    have e2 : (Lib.byteCells (l ++ s)).length = l.length + s.length := by rw [Lib.byteCells_length]; simp
    rw [e2, e1]; exact hown'
  obtain ⟨ao, n', cap, rfl⟩ : ∃ ao n' cap, v' = .slice ao n' cap := by
    rcases hown'.2 with ⟨hv, _⟩ | ⟨g, cap, cur, hv, _⟩
    · exact ⟨_, _, _, hv⟩
    · exact ⟨_, _, _, hv⟩
  have HF : Hid (Lib.BuilderAt 87 5 B b (.pointer (some ⟨b, 0, none⟩)) (Lib.byteCells (l ++ s)) (w2.setCell ⟨b, 1, none⟩ (.slice ao n' cap)) ∧ Below B w w2 ∧ KeepsOthers w w2 ∧ B ≤ b ∧ Lib.OthersKept 5 (some b) w w2) := ⟨hput, bel2, hk1.trans kp2, hB, ok2⟩
  clear hput bel2 kp2 ok2 ho1 hk1 hb1 hown hown' hgrow hbk hb2 h
  go_wp2
  go_ret2
  exact ⟨⟨_, rfl⟩, .inr HF.out.1, HF.out.2.1.setCell (p := ⟨b, 1, none⟩) HF.out.2.2.2.1 _, HF.out.2.2.1.trans (keeps_set _ _ _), HF.out.2.2.2.2.setCell ⟨b, 1, none⟩ rfl _⟩
end Go.Proofs.YtlnpbfeihjfnjaaGreatDoor.Lab

/-
  Arguments of the laws, opened: a store (a slice of labels with bytes).
  A graph that a call has answered, laid into a box that was made at any time of the region.
  Several error variables of a card: each holds an error that is not nil, and reads again behind a call that turns nothing old.
-/
import Derived.Test.YtlnpbfeihjfnjabGreatDoorQRdg
import Derived.Test.YtlnpbfeihjfnjabGreatDoorQSeg
import Derived.Test.YtlnpbfeihjfnjabGreatDoorQMrk
import Derived.Test.YtlnpbfeihjfnjabGreatDoorQErr
import Derived.Test.YtlnpbfeihjfnjabGreatDoorQVie
import Derived.ChangeVars
namespace Go.Proofs.YtlnpbfeihjfnjabGreatDoor.Lab
open Go.RowKit Go.ChangeShapes Go.WideShapes
set_option linter.unusedVariables false
theorem Tryz.cellsSeg : Tryz.prog.cellsOf 60 = 2 := by kernel_rfl
theorem Tryz.cellsStr : Tryz.prog.cellsOf 9 = 1 := by kernel_rfl
set_option maxRecDepth 20000 in
theorem seg_cells {H : Type} {enc : TypeId × Value → H} {W : World} {sp : Nat → Bool} {held : Bool} {fuel : Nat} {c0 c1 : Value} {x : DataW H × List MemPlace} (h : DataW.trod enc Tryz.prog W 0 sp held fuel 60 [c0, c1] = some x) :
    ∃ (l : Int) (n : List UInt8), c0 = .int .i64 l ∧ c1 = .string ⟨n.toArray⟩ ∧ i64In l ∧ n.length ≤ maxLen := by
  obtain ⟨y0, y1, m, hx, _, hy0, hy1⟩ := trod_struct2 Tryz.underlying60 h
  obtain ⟨l, e0, _, wl⟩ := DataW.trod_int Tryz.underlying3 hy0
  obtain ⟨n, e1, _, wn⟩ := DataW.trod_string Tryz.underlying9 hy1
  dsimp only at e0 e1
  rw [Tryz.cellsInt] at e0
  rw [Tryz.cellsStr] at e1
  have f0 : c0 = .int .i64 l := (List.cons.inj (show [c0] = [.int .i64 l] from e0)).1
  have f1 : c1 = .string n := (List.cons.inj (show [c1] = [.string n] from e1)).1
  refine ⟨l, n.data.toList, f0, by rw [f1], in_of_wf wl, ?_⟩
  rw [Array.length_toList]; exact wn
/-- A store that came in. -/
def SegsIn (w : World) (v : Value) (xs : List (Int × List UInt8)) : Prop := RowAt 2 encSeg w v xs ∧ xs.length ≤ maxLen ∧ ∀ x ∈ xs, i64In x.1 ∧ x.2.length ≤ maxLen
set_option maxRecDepth 20000 in
theorem open_segs {H : Type} {enc : TypeId × Value → H} {W : World} {r : Reach} {base : Nat} {sp : Nat → Bool} {v : Value} {d : DataW H} {ps : List MemPlace} (hval : Value.okWide Tryz.prog W r base 39 v)
    (h : DataW.Trod enc Tryz.prog W 0 sp true 39 v d ps) : ∃ xs, SegsIn W v xs := by
  obtain ⟨a, len, cap, rfl⟩ := okWide_slice Tryz.underlying39 hval
  obtain ⟨fuel, hf⟩ := h
  obtain ⟨v1, ns, h1, r1, g1, l1⟩ := row_of_reading (s := 2) (e2 := encSeg) (good := fun x => i64In x.1 ∧ x.2.length ≤ maxLen) (by decide) Tryz.underlying39 Tryz.cellsSeg (fun n cs' y hl ht => by
      match cs', hl with
      | [c0, c1], _ =>
        obtain ⟨l, n, rfl, rfl, p1, p2⟩ := seg_cells ht
        exact ⟨(l, n), rfl, p1, p2⟩) hf
  simp [Value.cells] at h1
  subst h1
  exact ⟨ns, r1, l1, g1⟩
end Go.Proofs.YtlnpbfeihjfnjabGreatDoor.Lab
namespace Go.Proofs.YtlnpbfeihjfnjabGreatDoor.Lab
open Go.RowKit
set_option linter.unusedVariables false
theorem OwnGraph.set {w : World} {base : Nat} {v1 v2 : Value} {ns : List (Int × Int)} {es : List (Int × Int × Int × Int × Int)} (h : OwnGraph w base v1 v2 ns es) {p : Addr} (hp : ∀ k, (v1.ownBlock = some k ∨ v2.ownBlock = some k) → k ≠ p.block) (u : Value) : OwnGraph (w.setCell p u) base v1 v2 ns es :=
  ⟨own_set h.1 (fun e => hp _ (.inl e) rfl) u, own_set h.2.1 (fun e => hp _ (.inr e) rfl) u, h.2.2⟩
/-- The world Wf lies over w0; at C is a box with the graph (v1, v2), whose rows are its own. -/
def BoxG (w0 Wf : World) (C : Nat) (v1 v2 : Value) (ns : List (Int × Int)) (es : List (Int × Int × Int × Int × Int)) : Prop :=
  Below w0.heap.size w0 Wf ∧ w0.heap.size ≤ C ∧ Wf.heap[C]? = some (.cells #[v1, v2] 32 (0, 0)) ∧ OwnGraph Wf w0.heap.size v1 v2 ns es ∧ ∀ k, (v1.ownBlock = some k ∨ v2.ownBlock = some k) → k ≠ C
theorem OwnGraph.base {w : World} {b b' : Nat} {v1 v2 : Value} {ns : List (Int × Int)} {es : List (Int × Int × Int × Int × Int)} (h : OwnGraph w b v1 v2 ns es) (hb : b' ≤ b) : OwnGraph w b' v1 v2 ns es := ⟨own_mono h.1 hb, own_mono h.2.1 hb, h.2.2⟩
theorem OwnGraph.lt {w : World} {b : Nat} {v1 v2 : Value} {ns : List (Int × Int)} {es : List (Int × Int × Int × Int × Int)} (h : OwnGraph w b v1 v2 ns es) {k : Nat} (hk : v1.ownBlock = some k ∨ v2.ownBlock = some k) : b ≤ k ∧ k < w.heap.size := by
  rcases hk with hk | hk
  · exact h.1.lt k hk
  · exact h.2.1.lt k hk
theorem boxg_last {w0 wc : World} {b : Nat} {v1 v2 : Value} {ns : List (Int × Int)} {es : List (Int × Int × Int × Int × Int)} (hs : Below w0.heap.size w0 wc) (og : OwnGraph wc b v1 v2 ns es) (hb : w0.heap.size ≤ b) : BoxG w0 (wc.alloc (.cells #[v1, v2] 32)) wc.heap.size v1 v2 ns es :=
  ⟨hs.alloc hs.size _, hs.size, new_block _ _, (og.keep ((Below.refl _ _).alloc (Nat.le_refl _) _)).base hb, fun k hk => by have := (og.lt hk).2; omega⟩
theorem boxg_set {w0 wc : World} {b C : Nat} {v1 v2 : Value} {ns : List (Int × Int)} {es : List (Int × Int × Int × Int × Int)} (hs : Below w0.heap.size w0 wc) (og : OwnGraph wc b v1 v2 ns es) (hC : w0.heap.size ≤ C) (hb : C < b) (h : wc.heap[C]? = some (.cells #[.slice none 0 0, .slice none 0 0] 32 (0, 0))) :
    BoxG w0 ((wc.setCell ⟨C, 0, none⟩ v1).setCell ⟨C, 1, none⟩ v2) C v1 v2 ns es := by
  have hn : ∀ k, (v1.ownBlock = some k ∨ v2.ownBlock = some k) → k ≠ C := fun k hk => by have := (og.lt hk).1; omega
  refine ⟨(hs.setCell hC _).setCell hC _, hC, ?_, ((og.set hn _).set hn _).base (by omega), hn⟩
  rw [set_block _ (set_block _ h)]; rfl
theorem OwnGraph.but2 {p : Nat → Prop} {w w' : World} {base : Nat} {v1 v2 : Value} {ns : List (Int × Int)} {es : List (Int × Int × Int × Int × Int)} (h : OwnGraph w base v1 v2 ns es) (hb : But p w w') (hne : ∀ k, (v1.ownBlock = some k ∨ v2.ownBlock = some k) → ¬ p k) : OwnGraph w' base v1 v2 ns es :=
  ⟨hb.own h.1 (fun k hk => hne k (.inl hk)), hb.own h.2.1 (fun k hk => hne k (.inr hk)), h.2.2⟩
end Go.Proofs.YtlnpbfeihjfnjabGreatDoor.Lab
namespace Go.Proofs.YtlnpbfeihjfnjabGreatDoor.Lab
open Go.ChangeShapes Go.WideShapes Go.ChangeAt Go.RowKit
set_option linter.unusedVariables false
/-- A variable holds an error that is not nil. -/
def Held (P : Program) (te : TypeId) (w : World) (n : String) : Prop := ∃ g u v, P.globalNamed n = some g ∧ w.var? P n = some #[.iface u v] ∧ (P.globals[g]?).map (·.type) = some te
theorem laid_held {P : Program} {te : TypeId} {ms : Array (String × TypeId)} {w : World} (ht : P.underlying te = some (.interface ms)) : ∀ (laid : List (String × DataW Unit)) (ps : List MemPlace), DataW.LaidVars P w laid ps →
    (∀ x ∈ laid, (∃ s d, x.2 = .iface s d) ∧ ∃ g, P.globalNamed x.1 = some g ∧ (P.globals[g]?).map (·.type) = some te) → ∀ x ∈ laid, Held P te w x.1
  | [], _, _, _, x, hx => by cases hx
  | (n, d) :: r, ps, h, hl, x, hx => by
    obtain ⟨g, t, cs, fuel, p, q, h1, h2, h3, h4, h5, _⟩ := h
    rcases List.mem_cons.1 hx with rfl | hx
    · obtain ⟨⟨s, d', hd⟩, g', hg, hgt⟩ := hl (n, d) (List.mem_cons_self ..)
      simp only at hd hg
      subst hd
      obtain rfl := Option.some.inj (h1.symm.trans hg)
      obtain rfl := Option.some.inj (h2.symm.trans hgt)
      obtain ⟨u, v, hc⟩ := iface_of ht h4
      refine ⟨g, u, v, h1, ?_, h2⟩
      rw [h3]
      cases cs with
      | mk l => simp only at hc; rw [hc]
    · exact laid_held ht r q h5 (fun y hy => hl y (List.mem_cons_of_mem _ hy)) x hx
theorem vars_keep {H : Type} {enc : TypeId × Value → H} {P : Program} {te : TypeId} {ms : Array (String × TypeId)} {w w' : World} {sp sp' : Nat → Bool} (ht : P.underlying te = some (.interface ms)) (bel : Below w.heap.size w w') :
    ∀ (ns : List String) (gs : List (DataW H)) (ps : List MemPlace), DataW.TrodVars enc P w sp ns gs ps → (∀ n ∈ ns, Held P te w n) → DataW.TrodVars enc P w' sp' ns gs ps
  | [], [], _, h, _ => h
  | [], _ :: _, _, h, _ => by simp [DataW.TrodVars] at h
  | _ :: _, [], _, h, _ => by simp [DataW.TrodVars] at h
  | n :: ns, d :: ds, ps, h, hi => by
    obtain ⟨g, t, cs, fuel, p, q, h1, h2, h3, h4, hs, e⟩ := h
    obtain ⟨g', u, v, k1, k2, k3⟩ := hi n (List.mem_cons_self ..)
    obtain rfl := Option.some.inj (h1.symm.trans k1)
    obtain rfl := Option.some.inj (h2.symm.trans k3)
    obtain rfl := Option.some.inj (h3.symm.trans k2)
    obtain ⟨_, _, hheap⟩ := heap_of_var h1 h3
    exact ⟨g, t, _, fuel, p, q, h1, h2, var?_below bel h1 (lt_of_block hheap) h3, held_again ht h4, vars_keep ht bel ns ds q hs (fun m hm => hi m (List.mem_cons_of_mem _ hm)), e⟩
theorem vars_len {H : Type} {enc : TypeId × Value → H} {P : Program} {w : World} {sp : Nat → Bool} : ∀ (ns : List String) (gs : List (DataW H)) (ps : List MemPlace), DataW.TrodVars enc P w sp ns gs ps → gs.length = ns.length
  | [], [], _, _ => rfl
  | [], _ :: _, _, h => by simp [DataW.TrodVars] at h
  | _ :: _, [], _, h => by simp [DataW.TrodVars] at h
  | n :: ns, d :: ds, ps, h => by
    obtain ⟨g, t, cs, fuel, p, q, h1, h2, h3, h4, hs, e⟩ := h
    simp [vars_len ns ds q hs]
theorem err_of {P : Program} {te : TypeId} {w : World} {n : String} {g : Nat} (h : Held P te w n) (hg : P.globalNamed n = some g) : ErrAt w g := by
  obtain ⟨g', u, v, h1, h2, h3⟩ := h
  obtain rfl := Option.some.inj (hg.symm.trans h1)
  obtain ⟨t, fr, hh⟩ := heap_of_var h1 h2
  exact ⟨u, v, by simp [World.cell?, hh]⟩
/-- The list of the four. -/
theorem held_of {W : World} (h : laidMetH Tryz.prog [("loop.example/hagioscope/impl.errForm", Rows.laid_loop_example_hagioscope_impl_errForm), ("loop.example/hagioscope/impl.errThere", Rows.laid_loop_example_hagioscope_impl_errThere), ("loop.example/hagioscope/impl.errNone", Rows.laid_loop_example_hagioscope_impl_errNone), ("loop.example/hagioscope/impl.errFull", Rows.laid_loop_example_hagioscope_impl_errFull)] W) :
    ∀ n ∈ ["loop.example/hagioscope/impl.errForm", "loop.example/hagioscope/impl.errThere", "loop.example/hagioscope/impl.errFull", "loop.example/hagioscope/impl.errNone"], Held Tryz.prog 64 W n := by
  rw [MakeChecks.laidMetH_plain _ _ _ (by kernel_rfl)] at h
  obtain ⟨ps, h1, _⟩ := h
  have hh := laid_held Tryz.underlying64 _ _ h1 (by
    intro x hx
    simp only [List.mem_cons, List.not_mem_nil, or_false] at hx
    rcases hx with rfl | rfl | rfl | rfl
    · exact ⟨⟨_, _, rfl⟩, 0, by kernel_rfl, by kernel_rfl⟩
    · exact ⟨⟨_, _, rfl⟩, 1, by kernel_rfl, by kernel_rfl⟩
    · exact ⟨⟨_, _, rfl⟩, 3, by kernel_rfl, by kernel_rfl⟩
    · exact ⟨⟨_, _, rfl⟩, 2, by kernel_rfl, by kernel_rfl⟩)
  intro n hn
  simp only [List.mem_cons, List.not_mem_nil, or_false] at hn
  rcases hn with rfl | rfl | rfl | rfl
  · exact hh ("loop.example/hagioscope/impl.errForm", Rows.laid_loop_example_hagioscope_impl_errForm) (by simp)
  · exact hh ("loop.example/hagioscope/impl.errThere", Rows.laid_loop_example_hagioscope_impl_errThere) (by simp)
  · exact hh ("loop.example/hagioscope/impl.errFull", Rows.laid_loop_example_hagioscope_impl_errFull) (by simp)
  · exact hh ("loop.example/hagioscope/impl.errNone", Rows.laid_loop_example_hagioscope_impl_errNone) (by simp)
theorem errs_of {W : World} (h : ∀ n ∈ ["loop.example/hagioscope/impl.errForm", "loop.example/hagioscope/impl.errThere", "loop.example/hagioscope/impl.errFull", "loop.example/hagioscope/impl.errNone"], Held Tryz.prog 64 W n) : Errs W :=
  ⟨err_of (h _ (by simp)) (show Tryz.prog.globalNamed "loop.example/hagioscope/impl.errForm" = some 0 by kernel_rfl), err_of (h _ (by simp)) (show Tryz.prog.globalNamed "loop.example/hagioscope/impl.errThere" = some 1 by kernel_rfl), err_of (h _ (by simp)) (show Tryz.prog.globalNamed "loop.example/hagioscope/impl.errFull" = some 2 by kernel_rfl), err_of (h _ (by simp)) (show Tryz.prog.globalNamed "loop.example/hagioscope/impl.errNone" = some 3 by kernel_rfl)⟩
end Go.Proofs.YtlnpbfeihjfnjabGreatDoor.Lab

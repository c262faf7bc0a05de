/-
  A region that draws its order of evaluation, within a round of a range over a function: walked as anywhere, with what holds in all its worlds.
  What the laws of graphs ask, of graphs that lie somewhere; little lemmas.
  GraphDo and OpLabel over graphs that lie somewhere: for the laws of operations.
  Arguments of the laws, opened: a node, an edge, an op, by value.
  Several error variables of a card: each holds an error that is not nil, and reads again behind a call that turns nothing old.
  The four error variables of a card: four sentinels, each another one.
-/
import Derived.RangeFuncCalls
import Derived.RangeFuncLeaves
import Derived.TacticsInMore
import Derived.OrdersIn
import Derived.OrdersHeld
import Derived.Deep.RegionHeld
import Derived.Test.YtlnpbfeihjfnjaaGreatDoorRows
import Derived.Test.YtlnpbfeihjfnjaaGreatDoorDgr
import Derived.Test.YtlnpbfeihjfnjaaGreatDoorGki
import Derived.Test.YtlnpbfeihjfnjaaGreatDoorRSgp
import Derived.Test.YtlnpbfeihjfnjaaGreatDoorLabb
import Derived.Test.YtlnpbfeihjfnjaaGreatDoorRJmp
import Derived.Test.YtlnpbfeihjfnjaaGreatDoorPlain
import Derived.WalkKit
import Derived.ProofKit
import Derived.OpenShut
import Derived.Deep.Strs
import Derived.Test.YtlnpbfeihjfnjaaGreatDoorRErr
import Derived.ChangeVars
import Derived.Test.YtlnpbfeihjfnjaaGreatDoorRBis
import Derived.LaidLaws
import Derived.Stop.LaidErr
namespace Go.Proofs.YtlnpbfeihjfnjaaGreatDoor.Lab
open Go.RowKit
theorem oper_round {l n : Nat} {P : Program} {o : Oper} {a : Act} {w : World} {K : Act → World → Prop} {Q : Exit → Act → World → Prop} (hd : ∀ c, o.op ≠ .defer c) (h : o.wp P a w K Q) : o.wpIn (Fence.wide.inRound l) n P a w K Q := by
  unfold Oper.wp at h
  unfold Oper.wpIn
  refine ⟨fun _ _ => trivial, ?_⟩
  have e : (o.semAt (Fence.wide.inRound l).round a.eval) = execOp a.eval o := Oper.semAt_some l a.eval o hd
  rw [e]
  generalize (execOp a.eval o).run P w = r at h ⊢
  cases r with
  | ok x w' =>
    cases x with
    | enter f args => exact ⟨fun hx => by simp [Fence.wide] at hx, CallsIn.inRound l (callsIn_wide.2 h)⟩
    | row f args =>
      refine ⟨fun hx => by simp [Fence.wide] at hx, ?_⟩
      intro c cs _
      obtain ⟨v, w', r, s⟩ := (h : Rows P f args _ _) c cs
      exact ⟨v, w', r, stepsIn_wide.2 s⟩
    | value v => exact h
    | skip => exact h
    | defer d => exact h
    | _ => exact h.elim
  | halt x w' => cases x <;> first | exact h | exact h.elim
theorem wpAny_round {l n : Nat} {P : Program} {md : Region.Mode} {ops : Array Oper} {Q : Exit → Act → World → Prop} (hd : ∀ (i : Nat) (o : Oper), ops[i]? = some o → ∀ c, o.op ≠ .defer c) (hL : ¬ LetsOut Q) :
    ∀ (fuel : Nat) (listed : Array Bool) (a : Act) (w : World), wpAny P md ops Q fuel listed a w → wpAnyIn (Fence.wide.inRound l) n P md ops Q fuel listed a w
  | 0, _, _, _, h => h
  | fuel + 1, listed, a, w, h => by
    refine ⟨h.1, fun i hi => ?_⟩
    have h1 := h.2 i hi
    have ih := wpAny_round (l := l) (n := n) (P := P) (md := md) hd hL fuel
    unfold wpOp at h1
    unfold wpOpIn
    cases ho : ops[i]? with
    | none => rw [ho] at h1; exact ih _ _ _ h1
    | some o =>
      rw [ho] at h1
      simp only at h1 ⊢
      split at h1
      · rename_i hw
        rw [if_pos hw]
        rcases h1 with h1 | h1
        · exact oper_round (hd i o ho) (Oper.wp_mono (fun a w h => ih _ _ _ h) h1)
        · exact absurd h1.2 hL
      · rename_i hw
        rw [if_neg hw]
        exact ⟨fun _ _ => trivial, ih _ _ _ h1⟩
def notDefer (o : Oper) : Bool := match o.op with
  | .defer _ => false
  | _ => true
theorem notDefer_all {ops : Array Oper} (h : ops.toList.all notDefer = true) : ∀ (i : Nat) (o : Oper), ops[i]? = some o → ∀ c, o.op ≠ .defer c := by
  intro i o ho c hc
  have hm : o ∈ ops.toList := by
    rw [← Array.getElem?_toList] at ho
    exact List.mem_of_getElem? ho
  have := List.all_eq_true.1 h o hm
  simp [notDefer, hc] at this
/-- How a region ends that goes on. -/
def On (Q : Exit → Act → World → Prop) (e : Exit) (a : Act) (w : World) : Prop := e = .normal ∧ Q .normal a w
theorem region_round {l n id : Nat} {P : Program} {ops : Array Oper} {Q : Exit → Act → World → Prop} {S : World → Prop} {a : Act} {w : World} (hm : P.follows .mixedOrders = true) (hd : ops.toList.all notDefer = true)
    (hS : S w.drew) (h : S w.drew → wpAnyH P .any ops (On Q) S ops.size (Array.replicate ops.size false) a w.drew) : (Code.region id ops true).wpIn (Fence.wide.inRound l) n P Q a w := by
  refine wpIn_mono (wpIn_region_any hm (wpAny_round (notDefer_all hd) ?_ _ _ _ _ (wpAny_of_held _ _ _ _ (h hS)))) ?_
  · rintro ⟨_, _, h1, _⟩; cases h1
  · rintro e a w ⟨rfl, h1⟩; exact h1
theorem region_plain {id : Nat} {P : Program} {ops : Array Oper} {Q : Exit → Act → World → Prop} {S : World → Prop} {a : Act} {w : World} (hm : P.follows .mixedOrders = true)
    (hS : S w.drew) (h : S w.drew → wpAnyH P .any ops (On Q) S ops.size (Array.replicate ops.size false) a w.drew) : (Code.region id ops true).wp P Q a w :=
  wp_mono (wp_region_held_drew hm hS h) (by rintro e a w ⟨rfl, h1⟩; exact h1)
/-- Take first what yields wherever S holds. -/
theorem takeH {P : Program} {ops : Array Oper} {Q : Exit → Act → World → Prop} {S : World → Prop} (i : Nat) {oi : Oper} (v : Value) {fuel : Nat} {listed : Array Bool} {a : Act} {w : World} (hi : ops[i]? = some oi)
    (hs : Region.noSelect ops = true) (hf : Region.free .any ops listed i = true) (hr : (Region.ready .any ops listed).contains i = true)
    (hy : YieldsIf P ops S oi v a) (hS : S w)
    (h : wpAnyH P .any ops (On Q) S fuel (listed.setIfInBounds i true) (a.put oi.dst v) w) : wpAnyH P .any ops (On Q) S (fuel + 1) listed a w :=
  wpAnyH_take hi hs hf hr (fun c a w h => by cases h.1) hy hS h
end Go.Proofs.YtlnpbfeihjfnjaaGreatDoor.Lab
namespace Go.Proofs.YtlnpbfeihjfnjaaGreatDoor.Lab
open Go.RowKit
set_option linter.unusedVariables false
theorem seenN_le (c : Int) (ns : List Nd) (es : List Ed) : (seenN c ns es).length ≤ ns.length := by
  unfold seenN; split
  · exact viewN_le c ns
  · simp
theorem seenE_le (c : Int) (ns : List Nd) (es : List Ed) : (seenE c ns es).length ≤ es.length := by
  unfold seenE; split
  · exact List.length_filter_le _ _
  · simp
theorem GrAt.nil (w : World) : GrAt w (.slice none 0 0) (.slice none 0 0) [] [] := ⟨.inl ⟨rfl, _, _, rfl⟩, .inl ⟨rfl, _, _, rfl⟩, by simp, by simp⟩
theorem GrAt.lens {w : World} {v1 v2 : Value} {ns : List Nd} {es : List Ed} (h : GrAt w v1 v2 ns es) : ns.length ≤ 1048576 ∧ es.length ≤ 1048576 := ⟨by have := h.2.2.1; omega, by have := h.2.2.2; omega⟩
theorem gv_impl (v1 v2 : Value) (c : Int) (ns : List Nd) (es : List Ed) (w : World) (h : GrAt w v1 v2 ns es) (hE : Errs w) :
    Calls Tryz.prog 26 #[.agg #[v1, v2], .int .i64 c] w fun e w' => ∃ u1 u2, e = .returned (.agg #[u1, u2]) ∧ GrAt w' u1 u2 (seenN c ns es) (seenE c ns es) ∧ Below w.heap.size w w' :=
  (impl_GraphView v1 v2 c ns es w h.1 h.2.1 h.lens.1 h.lens.2 hE).mono fun e w' ⟨u1, u2, he, og, b⟩ => ⟨u1, u2, he, ⟨og.nodes, og.edges, Nat.le_trans (seenN_le c ns es) h.2.2.1, Nat.le_trans (seenE_le c ns es) h.2.2.2⟩, b⟩
theorem gs_b (v1 v2 u1 u2 : Value) (ns ms : List Nd) (es fs : List Ed) (b : Bool) (hb : (eqB ns ms && eqB es fs) = b) (w : World) (h : GrAt w v1 v2 ns es) (h' : GrAt w u1 u2 ms fs) :
    Calls Tryz.prog 15 #[.agg #[v1, v2], .agg #[u1, u2]] w fun e w' => e = .returned (.bool b) ∧ Below w.heap.size w w' :=
  (impl_GraphSame v1 v2 u1 u2 ns ms es fs w h.1 h.2.1 h'.1 h'.2.1 h.lens.1 h.lens.2 h'.lens.1 h'.lens.2).mono fun e w' h => ⟨by rw [h.1, hb], h.2⟩
theorem gs_same (v1 v2 u1 u2 : Value) (ns ms : List Nd) (es fs : List Ed) (h1 : ns = ms) (h2 : es = fs) (w : World) (h : GrAt w v1 v2 ns es) (h' : GrAt w u1 u2 ms fs) :
    Calls Tryz.prog 15 #[.agg #[v1, v2], .agg #[u1, u2]] w fun e w' => e = .returned (.bool true) ∧ Below w.heap.size w w' :=
  gs_b v1 v2 u1 u2 ns ms es fs true (by rw [h1, h2, eqB_true.2 rfl, eqB_true.2 rfl]; rfl) w h h'
theorem gok_impl (v1 v2 : Value) (ns : List Nd) (es : List Ed) (b : Bool) (hb : gokB ns es = b) (w : World) (h : GrAt w v1 v2 ns es) (hE : Errs w) :
    Calls Tryz.prog 18 #[.agg #[v1, v2]] w fun e w' => e = .returned (.bool b) ∧ Below w.heap.size w w' :=
  (impl_GraphOk v1 v2 ns es w h.1 h.2.1 h.lens.1 h.lens.2 hE).mono fun e w' h => ⟨by rw [h.1, hb], h.2⟩
theorem gok_spec (v1 v2 : Value) (ns : List Nd) (es : List Ed) (b : Bool) (hb : gokB ns es = b) (w : World) (h : GrAt w v1 v2 ns es) :
    Calls Tryz.prog 14 #[.agg #[v1, v2]] w fun e w' => e = .returned (.bool b) ∧ Below w.heap.size w w' :=
  (spec_GraphOk v1 v2 ns es w h.1 h.2.1 h.lens.1 h.lens.2).mono fun e w' h => ⟨by rw [h.1, hb], h.2⟩
theorem under_zero {a : Int} (h : underB a 0 = true) : a = 0 := by
  rcases eight (under_true h).1 with rfl | rfl | rfl | rfl | rfl | rfl | rfl | rfl <;> first | rfl | (revert h; decide)
theorem seenE_zero {ns : List Nd} {es : List Ed} {x : Ed} (h : x ∈ seenE 0 ns es) : x.1 = 0 ∧ x.2.1 = 0 := by
  cases hg : gokB ns es with
  | false => rw [(seen_bad (c := 0) (.inl hg)).2] at h; cases h
  | true =>
    have he := fun x hx => ((edgesOk_iff.1 (gokB_true.1 hg).2).1 x hx).1
    unfold seenE at h
    rw [hg, if_pos rfl] at h
    obtain ⟨hm, hu⟩ := List.mem_filter.1 h
    have h0 := under_zero hu
    have hb := he x hm
    simp only [edB, edgeB, Bool.and_eq_true] at hb
    have hu2 := hb.1.2
    rw [h0] at hu2
    exact ⟨h0, under_zero hu2⟩
theorem seen_zero_len (ns : List Nd) (es : List Ed) : (seenN 0 ns es).length ≤ 5 ∧ (seenE 0 ns es).length ≤ 7 := by
  cases hg : gokB ns es with
  | false => rw [(seen_bad (c := 0) (.inl hg)).1, (seen_bad (c := 0) (.inl hg)).2]; simp
  | true =>
    have h := gokB_true.1 hg
    have h1 := (nodesOk_iff.1 h.1).2.2 0 rfl
    have h2 := (edgesOk_iff.1 h.2).2.2 0 rfl
    simp only [seenN, seenE, hg, if_true, viewN, viewE]
    rw [← List.countP_eq_length_filter, ← List.countP_eq_length_filter]
    refine ⟨Nat.le_trans (List.countP_mono_left fun x _ hx => ?_) h1, Nat.le_trans (List.countP_mono_left fun x _ hx => ?_) h2⟩
    · simp [under_zero hx]
    · simp [under_zero hx]
theorem seen_nil (c : Int) : seenN c [] [] = [] ∧ seenE c [] [] = [] := by
  constructor
  · unfold seenN; split <;> rfl
  · unfold seenE; split <;> rfl
end Go.Proofs.YtlnpbfeihjfnjaaGreatDoor.Lab
namespace Go.Proofs.YtlnpbfeihjfnjaaGreatDoor.Lab
open Go.RowKit
set_option linter.unusedVariables false
theorem grat_own {w : World} {base : Nat} {u1 u2 : Value} {ns : List Nd} {es : List Ed} (h : OwnGraph w base u1 u2 ns es) (hl : ns.length ≤ 100 ∧ es.length ≤ 100) : GrAt w u1 u2 ns es := ⟨h.nodes, h.edges, by omega, by omega⟩
theorem gdo_impl (v1 v2 : Value) (ns : List Nd) (es : List Ed) (k nl nn l al an bl bn : Int) (w : World) (h : GrAt w v1 v2 ns es) {aF aT aN aU : Addr} (hF : Four w aF aT aN aU) :
    Calls Tryz.prog 28 #[.agg #[v1, v2], .agg #[.int .i64 k, .int .i64 nl, .int .i64 nn, .int .i64 l, .int .i64 al, .int .i64 an, .int .i64 bl, .int .i64 bn]] w fun e w' => ∃ u1 u2, e = .returned (.tuple #[.agg #[u1, u2], .int .i64 (gdC ns es k nl nn l al an bl bn)]) ∧ GrAt w' u1 u2 (gdN ns es k nl nn l al an bl bn) (gdE ns es k nl nn l al an bl bn) ∧ Below w.heap.size w w' :=
  (impl_GraphDo v1 v2 ns es k nl nn l al an bl bn w h.1 h.2.1 h.lens.1 h.lens.2 aF aT aN aU hF).mono fun e w' ⟨u1, u2, h1, h2, h3⟩ => ⟨u1, u2, h1, grat_own h2 (gd_len ns es k nl nn l al an bl bn), h3⟩
theorem gdo_spec (v1 v2 : Value) (ns : List Nd) (es : List Ed) (k nl nn l al an bl bn : Int) (w : World) (h : GrAt w v1 v2 ns es) :
    Calls Tryz.prog 29 #[.agg #[v1, v2], .agg #[.int .i64 k, .int .i64 nl, .int .i64 nn, .int .i64 l, .int .i64 al, .int .i64 an, .int .i64 bl, .int .i64 bn]] w fun e w' => ∃ u1 u2, e = .returned (.tuple #[.agg #[u1, u2], .int .i64 (gdC ns es k nl nn l al an bl bn)]) ∧ GrAt w' u1 u2 (gdN ns es k nl nn l al an bl bn) (gdE ns es k nl nn l al an bl bn) ∧ Below w.heap.size w w' :=
  (spec_GraphDo v1 v2 ns es k nl nn l al an bl bn w h.1 h.2.1 h.lens.1 h.lens.2).mono fun e w' ⟨u1, u2, h1, h2, h3⟩ => ⟨u1, u2, h1, grat_own h2 (gd_len ns es k nl nn l al an bl bn), h3⟩
theorem ol_impl (k nl nn l al an bl bn : Int) (w : World) {aF aT aN aU : Addr} (hF : Four w aF aT aN aU) :
    Calls Tryz.prog 30 #[.agg #[.int .i64 k, .int .i64 nl, .int .i64 nn, .int .i64 l, .int .i64 al, .int .i64 an, .int .i64 bl, .int .i64 bn]] w fun e w' => e = .returned (.int .i64 (opI k nl nn l al an bl bn)) ∧ Below w.heap.size w w' :=
  impl_OpLabel k nl nn l al an bl bn _ w hF.f.1 (cell_lt hF.f.1) ⟨_, _, rfl⟩
theorem eco_label {x y : Ed} (hx : edB x = true) (hy : edB y = true) (h : eco x < eco y) : x.1 ≤ y.1 := by
  rw [eco_eq hx, eco_eq hy] at h
  have a3 := cod_ok' (x := (x.2.1, x.2.2.1)) (edB_parts hx).1
  have a4 := cod_ok' (x := (x.2.2.2.1, x.2.2.2.2)) (edB_parts hx).2
  have b1 := codeI_bd y.2.1 y.2.2.1
  have b2 := codeI_bd y.2.2.2.1 y.2.2.2.2
  simp only [cod] at *
  omega
end Go.Proofs.YtlnpbfeihjfnjaaGreatDoor.Lab
namespace Go.Proofs.YtlnpbfeihjfnjaaGreatDoor.Lab
open Go.RowKit Go.ChangeShapes Go.WideShapes
set_option linter.unusedVariables false
theorem in_of_wf {a : Int} (h : (Lit.int .i64 a).wf = true) : i64In a := by
  have := Go.bounds_i64 h
  exact ⟨by omega, by omega⟩
theorem Tryz.cellsInt : Tryz.prog.cellsOf 3 = 1 := by kernel_rfl
end Go.Proofs.YtlnpbfeihjfnjaaGreatDoor.Lab
namespace Go.Proofs.YtlnpbfeihjfnjaaGreatDoor.Lab
open Go.ChangeShapes Go.WideShapes Go.ChangeAt Go.RowKit
set_option linter.unusedVariables false
/-- A variable holds an error that is not nil. -/
def Held (P : Program) (te : TypeId) (w : World) (n : String) : Prop := ∃ g u v, P.globalNamed n = some g ∧ w.var? P n = some #[.iface u v] ∧ (P.globals[g]?).map (·.type) = some te
theorem laid_held {P : Program} {te : TypeId} {ms : Array (String × TypeId)} {w : World} (ht : P.underlying te = some (.interface ms)) : ∀ (laid : List (String × DataW Unit)) (ps : List MemPlace), DataW.LaidVars P w laid ps →
    (∀ x ∈ laid, (∃ s d, x.2 = .iface s d) ∧ ∃ g, P.globalNamed x.1 = some g ∧ (P.globals[g]?).map (·.type) = some te) → ∀ x ∈ laid, Held P te w x.1
  | [], _, _, _, x, hx => by cases hx
  | (n, d) :: r, ps, h, hl, x, hx => by
    obtain ⟨g, t, cs, fuel, p, q, h1, h2, h3, h4, h5, _⟩ := h
    rcases List.mem_cons.1 hx with rfl | hx
    · obtain ⟨⟨s, d', hd⟩, g', hg, hgt⟩ := hl (n, d) (List.mem_cons_self ..)
      simp only at hd hg
      subst hd
      obtain rfl := Option.some.inj (h1.symm.trans hg)
      obtain rfl := Option.some.inj (h2.symm.trans hgt)
      obtain ⟨u, v, hc⟩ := iface_of ht h4
      refine ⟨g, u, v, h1, ?_, h2⟩
      rw [h3]
      cases cs with
      | mk l => simp only at hc; rw [hc]
    · exact laid_held ht r q h5 (fun y hy => hl y (List.mem_cons_of_mem _ hy)) x hx
theorem vars_keep {H : Type} {enc : TypeId × Value → H} {P : Program} {te : TypeId} {ms : Array (String × TypeId)} {w w' : World} {sp sp' : Nat → Bool} (ht : P.underlying te = some (.interface ms)) (bel : Below w.heap.size w w') :
    ∀ (ns : List String) (gs : List (DataW H)) (ps : List MemPlace), DataW.TrodVars enc P w sp ns gs ps → (∀ n ∈ ns, Held P te w n) → DataW.TrodVars enc P w' sp' ns gs ps
  | [], [], _, h, _ => h
  | [], _ :: _, _, h, _ => by simp [DataW.TrodVars] at h
  | _ :: _, [], _, h, _ => by simp [DataW.TrodVars] at h
  | n :: ns, d :: ds, ps, h, hi => by
    obtain ⟨g, t, cs, fuel, p, q, h1, h2, h3, h4, hs, e⟩ := h
    obtain ⟨g', u, v, k1, k2, k3⟩ := hi n (List.mem_cons_self ..)
    obtain rfl := Option.some.inj (h1.symm.trans k1)
    obtain rfl := Option.some.inj (h2.symm.trans k3)
    obtain rfl := Option.some.inj (h3.symm.trans k2)
    obtain ⟨_, _, hheap⟩ := heap_of_var h1 h3
    exact ⟨g, t, _, fuel, p, q, h1, h2, var?_below bel h1 (lt_of_block hheap) h3, held_again ht h4, vars_keep ht bel ns ds q hs (fun m hm => hi m (List.mem_cons_of_mem _ hm)), e⟩
theorem vars_len {H : Type} {enc : TypeId × Value → H} {P : Program} {w : World} {sp : Nat → Bool} : ∀ (ns : List String) (gs : List (DataW H)) (ps : List MemPlace), DataW.TrodVars enc P w sp ns gs ps → gs.length = ns.length
  | [], [], _, _ => rfl
  | [], _ :: _, _, h => by simp [DataW.TrodVars] at h
  | _ :: _, [], _, h => by simp [DataW.TrodVars] at h
  | n :: ns, d :: ds, ps, h => by
    obtain ⟨g, t, cs, fuel, p, q, h1, h2, h3, h4, hs, e⟩ := h
    simp [vars_len ns ds q hs]
theorem err_of {P : Program} {te : TypeId} {w : World} {n : String} {g : Nat} (h : Held P te w n) (hg : P.globalNamed n = some g) : ErrAt w g := by
  obtain ⟨g', u, v, h1, h2, h3⟩ := h
  obtain rfl := Option.some.inj (hg.symm.trans h1)
  obtain ⟨t, fr, hh⟩ := heap_of_var h1 h2
  exact ⟨u, v, by simp [World.cell?, hh]⟩
/-- The list of the four. -/
theorem held_of {W : World} (h : laidMetH Tryz.prog [("loop.example/hagioscope/impl.errForm", Rows.laid_loop_example_hagioscope_impl_errForm), ("loop.example/hagioscope/impl.errThere", Rows.laid_loop_example_hagioscope_impl_errThere), ("loop.example/hagioscope/impl.errNone", Rows.laid_loop_example_hagioscope_impl_errNone), ("loop.example/hagioscope/impl.errFull", Rows.laid_loop_example_hagioscope_impl_errFull)] W) :
    ∀ n ∈ ["loop.example/hagioscope/impl.errForm", "loop.example/hagioscope/impl.errThere", "loop.example/hagioscope/impl.errFull", "loop.example/hagioscope/impl.errNone"], Held Tryz.prog 62 W n := by
  rw [MakeChecks.laidMetH_plain _ _ _ (by kernel_rfl)] at h
  obtain ⟨ps, h1, _⟩ := h
  have hh := laid_held Tryz.underlying62 _ _ h1 (by
    intro x hx
    simp only [List.mem_cons, List.not_mem_nil, or_false] at hx
    rcases hx with rfl | rfl | rfl | rfl
    · exact ⟨⟨_, _, rfl⟩, 0, by kernel_rfl, by kernel_rfl⟩
    · exact ⟨⟨_, _, rfl⟩, 1, by kernel_rfl, by kernel_rfl⟩
    · exact ⟨⟨_, _, rfl⟩, 2, by kernel_rfl, by kernel_rfl⟩
    · exact ⟨⟨_, _, rfl⟩, 3, by kernel_rfl, by kernel_rfl⟩)
  intro n hn
  simp only [List.mem_cons, List.not_mem_nil, or_false] at hn
  rcases hn with rfl | rfl | rfl | rfl
  · exact hh ("loop.example/hagioscope/impl.errForm", Rows.laid_loop_example_hagioscope_impl_errForm) (by simp)
  · exact hh ("loop.example/hagioscope/impl.errThere", Rows.laid_loop_example_hagioscope_impl_errThere) (by simp)
  · exact hh ("loop.example/hagioscope/impl.errFull", Rows.laid_loop_example_hagioscope_impl_errFull) (by simp)
  · exact hh ("loop.example/hagioscope/impl.errNone", Rows.laid_loop_example_hagioscope_impl_errNone) (by simp)
theorem errs_of {W : World} (h : ∀ n ∈ ["loop.example/hagioscope/impl.errForm", "loop.example/hagioscope/impl.errThere", "loop.example/hagioscope/impl.errFull", "loop.example/hagioscope/impl.errNone"], Held Tryz.prog 62 W n) : Errs W :=
  ⟨err_of (h _ (by simp)) (show Tryz.prog.globalNamed "loop.example/hagioscope/impl.errForm" = some 0 by kernel_rfl), err_of (h _ (by simp)) (show Tryz.prog.globalNamed "loop.example/hagioscope/impl.errThere" = some 1 by kernel_rfl), err_of (h _ (by simp)) (show Tryz.prog.globalNamed "loop.example/hagioscope/impl.errFull" = some 3 by kernel_rfl), err_of (h _ (by simp)) (show Tryz.prog.globalNamed "loop.example/hagioscope/impl.errNone" = some 2 by kernel_rfl)⟩
end Go.Proofs.YtlnpbfeihjfnjaaGreatDoor.Lab
namespace Go.Proofs.YtlnpbfeihjfnjaaGreatDoor.Lab
open Go.ChangeShapes Go.WideShapes Go.ChangeAt Go.RowKit
set_option linter.unusedVariables false
theorem err_star : "*" ++ "errors.errorString" = "*errors.errorString" := by decide
theorem err_row (u : TypeId) (h : Tryz.prog.typeName? 3 u = some "*errors.errorString") : u = 213 :=
  typeName_ptr_named (nm := "errors.errorString") (by rw [err_star]; kernel_rfl) (by kernel_rfl) (by decide) u (by rw [err_star]; exact h)
theorem err_cells : Tryz.prog.cellsOf 236 = 1 := by kernel_rfl
theorem str_cells : Tryz.prog.cellsOf 9 = 1 := by kernel_rfl
set_option maxRecDepth 100000 in
theorem sent_one {W : World} {g : Nat} {n : String} {cs : Array Value} {fuel : Nat} {text : List UInt8} {p : List MemPlace} (hg : Tryz.prog.globalNamed n = some g) (hv : W.var? Tryz.prog n = some cs)
    (hd : DataW.trod (fun _ => ()) Tryz.prog W 0 (fun _ => true) false fuel 62 cs.toList = some ((.iface "*errors.errorString" (.ptr (.agg [.lit (.string text)])) : DataW Unit), p))
    (hrows : ∀ b off, (MemPlace.cell b off) ∈ (MemPlace.row ⟨g, 0, none⟩ cs.size ++ p) → (∃ c t, W.heap[b]? = some (.cells c t (0, 0))) ∧ ∀ u v, W.cell? ⟨b, off, none⟩ = some (.iface u v) → Value.okWide Tryz.prog W .any 0 u v) :
    ∃ a : Addr, SentAt W g a ∧ p = [.cell a.block a.off] := by
  obtain ⟨l⟩ := cs
  have ok : ∀ u v, l = [.iface u v] → Value.okWide Tryz.prog W .any 0 u v := fun u v e => by
    subst e
    exact (hrows g 0 (by simp [MemPlace.row])).2 u v (World.var?_cell hg hv 0)
  obtain ⟨a, s, rfl, hc, hs, hz, rfl⟩ := errorString_of_trod Tryz.underlying62 err_row Tryz.underlying213 Tryz.underlying236 rfl rfl Tryz.underlying9 err_cells str_cells hd ok
  have hm : MemPlace.row a 1 = [.cell a.block a.off] := by simp [MemPlace.row]
  refine ⟨a, ⟨World.var?_cell hg hv 0, (hrows a.block a.off (List.mem_append_right _ (by rw [hm]; simp))).1⟩, hm⟩
set_option maxRecDepth 100000 in
theorem four_of {W : World} (h : laidMetH Tryz.prog [("loop.example/hagioscope/impl.errForm", Rows.laid_loop_example_hagioscope_impl_errForm), ("loop.example/hagioscope/impl.errThere", Rows.laid_loop_example_hagioscope_impl_errThere), ("loop.example/hagioscope/impl.errNone", Rows.laid_loop_example_hagioscope_impl_errNone), ("loop.example/hagioscope/impl.errFull", Rows.laid_loop_example_hagioscope_impl_errFull)] W) :
    ∃ aF aT aN aU, Four W aF aT aN aU := by
  rw [MakeChecks.laidMetH_plain _ _ _ (by kernel_rfl)] at h
  obtain ⟨ps, ⟨g0, t0, cs0, f0, p0, q0, hg0, ht0, hv0, hd0, ⟨g1, t1, cs1, f1, p1, q1, hg1, ht1, hv1, hd1, ⟨g2, t2, cs2, f2, p2, q2, hg2, ht2, hv2, hd2, ⟨g3, t3, cs3, f3, p3, q3, hg3, ht3, hv3, hd3, hn, e3⟩, e2⟩, e1⟩, e0⟩, hnd, hrows⟩ := h
  obtain rfl := Option.some.inj ((show Tryz.prog.globalNamed "loop.example/hagioscope/impl.errForm" = some 0 by kernel_rfl).symm.trans hg0)
  obtain rfl := Option.some.inj ((show Tryz.prog.globalNamed "loop.example/hagioscope/impl.errThere" = some 1 by kernel_rfl).symm.trans hg1)
  obtain rfl := Option.some.inj ((show Tryz.prog.globalNamed "loop.example/hagioscope/impl.errNone" = some 2 by kernel_rfl).symm.trans hg2)
  obtain rfl := Option.some.inj ((show Tryz.prog.globalNamed "loop.example/hagioscope/impl.errFull" = some 3 by kernel_rfl).symm.trans hg3)
  obtain rfl := Option.some.inj ((show (Tryz.prog.globals[0]?).map (·.type) = some 62 by kernel_rfl).symm.trans ht0)
  obtain rfl := Option.some.inj ((show (Tryz.prog.globals[1]?).map (·.type) = some 62 by kernel_rfl).symm.trans ht1)
  obtain rfl := Option.some.inj ((show (Tryz.prog.globals[2]?).map (·.type) = some 62 by kernel_rfl).symm.trans ht2)
  obtain rfl := Option.some.inj ((show (Tryz.prog.globals[3]?).map (·.type) = some 62 by kernel_rfl).symm.trans ht3)
  subst e3
  subst e2
  subst e1
  subst e0
  obtain ⟨aF, sF, rfl⟩ := sent_one hg0 hv0 hd0 (fun b off hm => hrows b off (List.mem_append_left _ hm))
  obtain ⟨aT, sT, rfl⟩ := sent_one hg1 hv1 hd1 (fun b off hm => hrows b off (List.mem_append_right _ (List.mem_append_left _ hm)))
  obtain ⟨aN, sN, rfl⟩ := sent_one hg2 hv2 hd2 (fun b off hm => hrows b off (List.mem_append_right _ (List.mem_append_right _ (List.mem_append_left _ hm))))
  obtain ⟨aU, sU, rfl⟩ := sent_one hg3 hv3 hd3 (fun b off hm => hrows b off (List.mem_append_right _ (List.mem_append_right _ (List.mem_append_right _ (List.mem_append_left _ hm)))))
  refine ⟨aF, aT, aN, aU, sF, sT, sN, sU, ?_, ?_, ?_, ?_, ?_, ?_⟩ <;> (rintro rfl; simp [List.nodup_append, List.nodup_cons] at hnd)
end Go.Proofs.YtlnpbfeihjfnjaaGreatDoor.Lab

/-
  'append' of any row to a row that a call owns: the laws, with no function of the program in sight.
  A region that draws its order of evaluation, within a round of a range over a function: walked as anywhere, with what holds in all its worlds.
-/
import Derived.Test.YtlnpbfeihjfnjabGreatDoorQIts
import Derived.Test.YtlnpbfeihjfnjabGreatDoorQGra
import Derived.Maps.AppendAt
import Derived.Lib.AppendZeros
import Derived.Laws.OwnMore
import Derived.RangeFuncCalls
import Derived.RangeFuncLeaves
import Derived.TacticsInMore
import Derived.OrdersIn
import Derived.OrdersHeld
import Derived.Deep.RegionHeld
import Derived.Test.YtlnpbfeihjfnjabGreatDoorRows
namespace Go.Proofs.YtlnpbfeihjfnjabGreatDoor.Lab
open Go.RowKit
set_option linter.unusedVariables false
theorem run_append_zero {P : Program} {w : World} (base : Nat) (t ty e : TypeId) (i : TypeInfo) (size : Nat) (ht : P.underlying t = some (.slice e)) (hi : P.info? e = some i)
    (v : Value) (n : Nat) (xs : List Value) (hown : w.ownsRow base e size v n xs) (a : Option Addr) (cap : Nat) :
    (Builtin.append_ #[t, t] ty #[v, .slice a 0 cap]).run P w = .ok v w := by
  rcases hown.2 with ⟨rfl, rfl⟩ | ⟨g, cap, cur, rfl, _, _, hnc, _⟩
  · cases a <;> simp [Builtin.append_, run_underlying ht, sizeOf, typeInfo, hi, Builtin.lenOf, Builtin.firstCells, loadCells, loadCellsFrom, Result.andThen]
  · cases a <;> simp [Builtin.append_, run_underlying ht, sizeOf, typeInfo, hi, Builtin.lenOf, Builtin.firstCells, loadCells, loadCellsFrom, Result.andThen, hnc, storeCells]
theorem flat_mem {α : Type} {enc : α → List Value} {P : Value → Prop} (h : ∀ x, ∀ u ∈ enc x, P u) (ys : List α) : ∀ u ∈ ys.flatMap enc, P u := fun u hu => by
  obtain ⟨x, _, hx⟩ := List.mem_flatMap.1 hu
  exact h x u hx
theorem RowAt.cells {α : Type} {s : Nat} {enc : α → List Value} (he : ∀ x, (enc x).length = s) (hs : 0 < s) {w : World} {b off cap : Nat} {ys : List α} (h : ∀ j x, ys[j]? = some x → ∀ i u, (enc x)[i]? = some u → w.cell? ⟨b, off + j * s + i, none⟩ = some u) :
    ∀ j u, (ys.flatMap enc)[j]? = some u → w.cell? ((⟨b, off, none⟩ : Addr).add j) = some u := fun j u hu => by
  have hj : j < ys.length * s := by
    obtain ⟨h1, _⟩ := List.getElem?_eq_some_iff.1 hu
    rw [flat_len he] at h1; exact h1
  have hq : j / s < ys.length := (Nat.div_lt_iff_lt_mul hs).2 hj
  have h3 := flat_get he ys (j / s) (j % s) _ (List.getElem?_eq_getElem hq) (Nat.mod_lt _ hs)
  have hjj : j / s * s + j % s = j := Nat.div_add_mod' j s
  rw [hjj, hu] at h3
  have := h (j / s) _ (List.getElem?_eq_getElem hq) (j % s) u h3.symm
  rw [Nat.add_assoc, hjj] at this
  have ha : (⟨b, off, none⟩ : Addr).add j = ⟨b, off + j, none⟩ := by unfold Addr.add; split <;> simp_all
  rw [ha]; exact this
section
variable {α : Type} {s : Nat} {enc : α → List Value} {P : Program} {w : World}
theorem appRow (he : ∀ x, (enc x).length = s) (hs : 0 < s) (h1c : ∀ x, ∀ u ∈ enc x, u.oneCell' = true) {t ty e : TypeId} {i : TypeInfo} {z : Value} {bytes : Nat} (ht : P.underlying t = some (.slice e)) (hi : P.info? e = some i) (hz : i.zero = some z) (hsize : i.size = s) (hby : i.bytes = bytes) (hzs : z.cells.size = s)
    (base : Nat) (hbase : base ≤ w.heap.size) {v : Value} {n : Nat} {xs : List Value} (hown : w.ownsRow base e s v n xs) {x : Value} {ys : List α} (hx : RowAt s enc w x ys) (h63 : n + ys.length ≤ maxLen) (hbytes : (n + ys.length) * bytes ≤ 140737488355328) :
    ∃ v' w', (Builtin.append_ #[t, t] ty #[v, x]).run P w = .ok v' w' ∧ w'.ownsRow base e s v' (n + ys.length) (xs ++ ys.flatMap enc) ∧ w.grownBy w' v.ownBlock ∧ (v'.ownBlock = v.ownBlock ∨ v'.ownBlock = some w.heap.size) := by
  rcases hx with ⟨rfl, a, cap, rfl⟩ | ⟨h0, b, off, cap, rfl, hlt, hc⟩
  · exact ⟨v, w, run_append_zero base t ty e i s ht hi v n xs hown a cap, by simpa using hown, ⟨rfl, rfl, rfl, Nat.le_refl _, fun _ _ _ => rfl⟩, .inl rfl⟩
  · obtain ⟨v', w', h1, h2, h3, _, h5⟩ := run_append_own_at (P := P) (w := w) base t ty e i z s bytes ht hi hz hsize hby hzs hs v n xs hown ⟨b, off, none⟩ ys.length cap (ys.flatMap enc) (flat_len he ys) (RowAt.cells (cap := cap) he hs hc) (flat_mem h1c ys) h63 hbytes hbase
    exact ⟨v', w', h1, h2, h3, h5⟩
theorem wpList_appRow {ops : Array Oper} {rest : List Oper} {o : Oper} {a : Act} {Q : Exit → Act → World → Prop} (he : ∀ x, (enc x).length = s) (hs : 0 < s) (h1c : ∀ x, ∀ u ∈ enc x, u.oneCell' = true) {e : TypeId} {i : TypeInfo} {z : Value} {bytes : Nat} (hgd : o.guard = none) (so xo : Operand) (t : TypeId)
    (ho : o.op = .call { callee := .builtin .append, args := #[so, xo], argTypes := #[t, t] }) (ht : P.underlying t = some (.slice e)) (hi : P.info? e = some i) (hz : i.zero = some z) (hsize : i.size = s) (hby : i.bytes = bytes) (hzs : z.cells.size = s)
    (base : Nat) (v : Value) (n : Nat) (xs : List Value) (x : Value) (ys : List α) (hsv : a.eval so = v) (hxv : a.eval xo = x) (hown : w.ownsRow base e s v n xs) (hx : RowAt s enc w x ys) (h63 : n + ys.length ≤ maxLen) (hbytes : (n + ys.length) * bytes ≤ 140737488355328) (hbase : base ≤ w.heap.size)
    (h : ∀ v' w', w'.ownsRow base e s v' (n + ys.length) (xs ++ ys.flatMap enc) → w.grownBy w' v.ownBlock → (v'.ownBlock = v.ownBlock ∨ v'.ownBlock = some w.heap.size) → wpList P ops Q rest (a.put o.dst v') w') : wpList P ops Q (o :: rest) a w := by
  obtain ⟨v', w', hr, h2, h3, h4⟩ := appRow (ty := o.type) he hs h1c ht hi hz hsize hby hzs base hbase hown hx h63 hbytes
  exact Lib.wpList_append_run w hgd so xo t t ho v x hsv hxv v' w' hr (h v' w' h2 h3 h4)
theorem step_appRow {ops : Array Oper} {o : Oper} {a : Act} {K : Act → World → Prop} {Q : Exit → Act → World → Prop} {E : Prop} (he : ∀ x, (enc x).length = s) (hs : 0 < s) (h1c : ∀ x, ∀ u ∈ enc x, u.oneCell' = true) {e : TypeId} {i : TypeInfo} {z : Value} {bytes : Nat} (hgd : o.guard = none) (so xo : Operand) (t : TypeId)
    (ho : o.op = .call { callee := .builtin .append, args := #[so, xo], argTypes := #[t, t] }) (ht : P.underlying t = some (.slice e)) (hi : P.info? e = some i) (hz : i.zero = some z) (hsize : i.size = s) (hby : i.bytes = bytes) (hzs : z.cells.size = s)
    (base : Nat) (v : Value) (n : Nat) (xs : List Value) (x : Value) (ys : List α) (hsv : a.eval so = v) (hxv : a.eval xo = x) (hown : w.ownsRow base e s v n xs) (hx : RowAt s enc w x ys) (h63 : n + ys.length ≤ maxLen) (hbytes : (n + ys.length) * bytes ≤ 140737488355328) (hbase : base ≤ w.heap.size)
    (h : ∀ v' w', w'.ownsRow base e s v' (n + ys.length) (xs ++ ys.flatMap enc) → w.grownBy w' v.ownBlock → (v'.ownBlock = v.ownBlock ∨ v'.ownBlock = some w.heap.size) → K (a.put o.dst v') w') :
    if Region.wanted o (yielded ops a.tmps) = true then Oper.wp P o a w K Q else E := by
  have hw : Region.wanted o (yielded ops a.tmps) = true := by simp [Region.wanted, hgd]
  rw [if_pos hw]
  obtain ⟨v', w', hr, h2, h3, h4⟩ := appRow (ty := o.type) he hs h1c ht hi hz hsize hby hzs base hbase hown hx h63 hbytes
  exact Lib.wp_append_run w so xo t t ho v x hsv hxv v' w' hr (h v' w' h2 h3 h4)
end
/-- The first k of a row. -/
theorem own_take {w : World} {base e size : Nat} {a : Option Addr} {n c k : Nat} {xs : List Value} (h : w.ownsRow base e size (.slice a n c) n xs) (hk : k ≤ n) : w.ownsRow base e size (.slice a k c) k (xs.take (k * size)) := by
  have hm : k * size ≤ n * size := Nat.mul_le_mul_right _ hk
  obtain ⟨h1, ⟨h2, h3⟩ | ⟨g, cap, cur, hv, hb, hg, hn, hmx, hsz, ht⟩⟩ := h
  · subst h3
    have : k = 0 := by omega
    subst this
    exact ⟨by simp, .inl ⟨h2, rfl⟩⟩
  · refine ⟨by rw [List.length_take, h1]; omega, .inr ⟨g, cap, cur, ?_, hb, hg, by omega, hmx, hsz, ?_⟩⟩
    · simp only [Value.slice.injEq] at hv ⊢
      exact ⟨hv.1, trivial, hv.2.2⟩
    · rw [← ht, List.take_take, Nat.min_eq_left hm]
theorem encNode_one (x : Int × Int) : ∀ u ∈ encNode x, u.oneCell' = true := fun u hu => by
  simp [encNode] at hu
  rcases hu with rfl | rfl <;> rfl
theorem encEdge_one (x : Int × Int × Int × Int × Int) : ∀ u ∈ encEdge x, u.oneCell' = true := fun u hu => by
  simp [encEdge] at hu
  rcases hu with rfl | rfl | rfl | rfl | rfl <;> rfl
end Go.Proofs.YtlnpbfeihjfnjabGreatDoor.Lab
namespace Go.Proofs.YtlnpbfeihjfnjabGreatDoor.Lab
open Go.RowKit
theorem oper_round {l n : Nat} {P : Program} {o : Oper} {a : Act} {w : World} {K : Act → World → Prop} {Q : Exit → Act → World → Prop} (hd : ∀ c, o.op ≠ .defer c) (h : o.wp P a w K Q) : o.wpIn (Fence.wide.inRound l) n P a w K Q := by
  unfold Oper.wp at h
  unfold Oper.wpIn
  refine ⟨fun _ _ => trivial, ?_⟩
  have e : (o.semAt (Fence.wide.inRound l).round a.eval) = execOp a.eval o := Oper.semAt_some l a.eval o hd
  rw [e]
  generalize (execOp a.eval o).run P w = r at h ⊢
  cases r with
  | ok x w' =>
    cases x with
    | enter f args => exact ⟨fun hx => by simp [Fence.wide] at hx, CallsIn.inRound l (callsIn_wide.2 h)⟩
    | row f args =>
      refine ⟨fun hx => by simp [Fence.wide] at hx, ?_⟩
      intro c cs _
      obtain ⟨v, w', r, s⟩ := (h : Rows P f args _ _) c cs
      exact ⟨v, w', r, stepsIn_wide.2 s⟩
    | value v => exact h
    | skip => exact h
    | defer d => exact h
    | _ => exact h.elim
  | halt x w' => cases x <;> first | exact h | exact h.elim
theorem wpAny_round {l n : Nat} {P : Program} {md : Region.Mode} {ops : Array Oper} {Q : Exit → Act → World → Prop} (hd : ∀ (i : Nat) (o : Oper), ops[i]? = some o → ∀ c, o.op ≠ .defer c) (hL : ¬ LetsOut Q) :
    ∀ (fuel : Nat) (listed : Array Bool) (a : Act) (w : World), wpAny P md ops Q fuel listed a w → wpAnyIn (Fence.wide.inRound l) n P md ops Q fuel listed a w
  | 0, _, _, _, h => h
  | fuel + 1, listed, a, w, h => by
    refine ⟨h.1, fun i hi => ?_⟩
    have h1 := h.2 i hi
    have ih := wpAny_round (l := l) (n := n) (P := P) (md := md) hd hL fuel
    unfold wpOp at h1
    unfold wpOpIn
    cases ho : ops[i]? with
    | none => rw [ho] at h1; exact ih _ _ _ h1
    | some o =>
      rw [ho] at h1
      simp only at h1 ⊢
      split at h1
      · rename_i hw
        rw [if_pos hw]
        rcases h1 with h1 | h1
        · exact oper_round (hd i o ho) (Oper.wp_mono (fun a w h => ih _ _ _ h) h1)
        · exact absurd h1.2 hL
      · rename_i hw
        rw [if_neg hw]
        exact ⟨fun _ _ => trivial, ih _ _ _ h1⟩
def notDefer (o : Oper) : Bool := match o.op with
  | .defer _ => false
  | _ => true
theorem notDefer_all {ops : Array Oper} (h : ops.toList.all notDefer = true) : ∀ (i : Nat) (o : Oper), ops[i]? = some o → ∀ c, o.op ≠ .defer c := by
  intro i o ho c hc
  have hm : o ∈ ops.toList := by
    rw [← Array.getElem?_toList] at ho
    exact List.mem_of_getElem? ho
  have := List.all_eq_true.1 h o hm
  simp [notDefer, hc] at this
/-- How a region ends that goes on. -/
def On (Q : Exit → Act → World → Prop) (e : Exit) (a : Act) (w : World) : Prop := e = .normal ∧ Q .normal a w
theorem region_round {l n id : Nat} {P : Program} {ops : Array Oper} {Q : Exit → Act → World → Prop} {S : World → Prop} {a : Act} {w : World} (hm : P.follows .mixedOrders = true) (hd : ops.toList.all notDefer = true)
    (hS : S w.drew) (h : S w.drew → wpAnyH P .any ops (On Q) S ops.size (Array.replicate ops.size false) a w.drew) : (Code.region id ops true).wpIn (Fence.wide.inRound l) n P Q a w := by
  refine wpIn_mono (wpIn_region_any hm (wpAny_round (notDefer_all hd) ?_ _ _ _ _ (wpAny_of_held _ _ _ _ (h hS)))) ?_
  · rintro ⟨_, _, h1, _⟩; cases h1
  · rintro e a w ⟨rfl, h1⟩; exact h1
theorem region_plain {id : Nat} {P : Program} {ops : Array Oper} {Q : Exit → Act → World → Prop} {S : World → Prop} {a : Act} {w : World} (hm : P.follows .mixedOrders = true)
    (hS : S w.drew) (h : S w.drew → wpAnyH P .any ops (On Q) S ops.size (Array.replicate ops.size false) a w.drew) : (Code.region id ops true).wp P Q a w :=
  wp_mono (wp_region_held_drew hm hS h) (by rintro e a w ⟨rfl, h1⟩; exact h1)
/-- Take first what yields wherever S holds. -/
theorem takeH {P : Program} {ops : Array Oper} {Q : Exit → Act → World → Prop} {S : World → Prop} (i : Nat) {oi : Oper} (v : Value) {fuel : Nat} {listed : Array Bool} {a : Act} {w : World} (hi : ops[i]? = some oi)
    (hs : Region.noSelect ops = true) (hf : Region.free .any ops listed i = true) (hr : (Region.ready .any ops listed).contains i = true)
    (hy : YieldsIf P ops S oi v a) (hS : S w)
    (h : wpAnyH P .any ops (On Q) S fuel (listed.setIfInBounds i true) (a.put oi.dst v) w) : wpAnyH P .any ops (On Q) S (fuel + 1) listed a w :=
  wpAnyH_take hi hs hf hr (fun c a w h => by cases h.1) hy hS h
end Go.Proofs.YtlnpbfeihjfnjabGreatDoor.Lab

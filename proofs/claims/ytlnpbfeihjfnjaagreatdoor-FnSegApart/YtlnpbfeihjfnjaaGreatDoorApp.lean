/-
  'append' of any row to a row that a call owns: the laws, with no function of the program in sight.
-/
import Derived.Test.YtlnpbfeihjfnjaaGreatDoorRow
import Derived.Test.YtlnpbfeihjfnjaaGreatDoorGra
import Derived.Maps.AppendAt
import Derived.Lib.AppendZeros
import Derived.Laws.OwnMore
namespace Go.Proofs.YtlnpbfeihjfnjaaGreatDoor.Lab
open Go.RowKit
set_option linter.unusedVariables false
theorem run_append_zero {P : Program} {w : World} (base : Nat) (t ty e : TypeId) (i : TypeInfo) (size : Nat) (ht : P.underlying t = some (.slice e)) (hi : P.info? e = some i)
    (v : Value) (n : Nat) (xs : List Value) (hown : w.ownsRow base e size v n xs) (a : Option Addr) (cap : Nat) :
    (Builtin.append_ #[t, t] ty #[v, .slice a 0 cap]).run P w = .ok v w := by
  rcases hown.2 with ⟨rfl, rfl⟩ | ⟨g, cap, cur, rfl, _, _, hnc, _⟩
  · cases a <;> simp [Builtin.append_, run_underlying ht, sizeOf, typeInfo, hi, Builtin.lenOf, Builtin.firstCells, loadCells, loadCellsFrom, Result.andThen]
  · cases a <;> simp [Builtin.append_, run_underlying ht, sizeOf, typeInfo, hi, Builtin.lenOf, Builtin.firstCells, loadCells, loadCellsFrom, Result.andThen, hnc, storeCells]
theorem flat_mem {α : Type} {enc : α → List Value} {P : Value → Prop} (h : ∀ x, ∀ u ∈ enc x, P u) (ys : List α) : ∀ u ∈ ys.flatMap enc, P u := fun u hu => by
  obtain ⟨x, _, hx⟩ := List.mem_flatMap.1 hu
  exact h x u hx
theorem RowAt.cells {α : Type} {s : Nat} {enc : α → List Value} (he : ∀ x, (enc x).length = s) (hs : 0 < s) {w : World} {b off cap : Nat} {ys : List α} (h : ∀ j x, ys[j]? = some x → ∀ i u, (enc x)[i]? = some u → w.cell? ⟨b, off + j * s + i, none⟩ = some u) :
    ∀ j u, (ys.flatMap enc)[j]? = some u → w.cell? ((⟨b, off, none⟩ : Addr).add j) = some u := fun j u hu => by
  have hj : j < ys.length * s := by
    obtain ⟨h1, _⟩ := List.getElem?_eq_some_iff.1 hu
    rw [flat_len he] at h1; exact h1
  have hq : j / s < ys.length := (Nat.div_lt_iff_lt_mul hs).2 hj
  have h3 := flat_get he ys (j / s) (j % s) _ (List.getElem?_eq_getElem hq) (Nat.mod_lt _ hs)
  have hjj : j / s * s + j % s = j := Nat.div_add_mod' j s
  rw [hjj, hu] at h3
  have := h (j / s) _ (List.getElem?_eq_getElem hq) (j % s) u h3.symm
  rw [Nat.add_assoc, hjj] at this
  have ha : (⟨b, off, none⟩ : Addr).add j = ⟨b, off + j, none⟩ := by unfold Addr.add; split <;> simp_all
  rw [ha]; exact this
section
variable {α : Type} {s : Nat} {enc : α → List Value} {P : Program} {w : World}
theorem appRow (he : ∀ x, (enc x).length = s) (hs : 0 < s) (h1c : ∀ x, ∀ u ∈ enc x, u.oneCell' = true) {t ty e : TypeId} {i : TypeInfo} {z : Value} {bytes : Nat} (ht : P.underlying t = some (.slice e)) (hi : P.info? e = some i) (hz : i.zero = some z) (hsize : i.size = s) (hby : i.bytes = bytes) (hzs : z.cells.size = s)
    (base : Nat) (hbase : base ≤ w.heap.size) {v : Value} {n : Nat} {xs : List Value} (hown : w.ownsRow base e s v n xs) {x : Value} {ys : List α} (hx : RowAt s enc w x ys) (h63 : n + ys.length ≤ maxLen) (hbytes : (n + ys.length) * bytes ≤ 140737488355328) :
    ∃ v' w', (Builtin.append_ #[t, t] ty #[v, x]).run P w = .ok v' w' ∧ w'.ownsRow base e s v' (n + ys.length) (xs ++ ys.flatMap enc) ∧ w.grownBy w' v.ownBlock ∧ (v'.ownBlock = v.ownBlock ∨ v'.ownBlock = some w.heap.size) := by
  rcases hx with ⟨rfl, a, cap, rfl⟩ | ⟨h0, b, off, cap, rfl, hlt, hc⟩
  · exact ⟨v, w, run_append_zero base t ty e i s ht hi v n xs hown a cap, by simpa using hown, ⟨rfl, rfl, rfl, Nat.le_refl _, fun _ _ _ => rfl⟩, .inl rfl⟩
  · obtain ⟨v', w', h1, h2, h3, _, h5⟩ := run_append_own_at (P := P) (w := w) base t ty e i z s bytes ht hi hz hsize hby hzs hs v n xs hown ⟨b, off, none⟩ ys.length cap (ys.flatMap enc) (flat_len he ys) (RowAt.cells (cap := cap) he hs hc) (flat_mem h1c ys) h63 hbytes hbase
    exact ⟨v', w', h1, h2, h3, h5⟩
theorem wpList_appRow {ops : Array Oper} {rest : List Oper} {o : Oper} {a : Act} {Q : Exit → Act → World → Prop} (he : ∀ x, (enc x).length = s) (hs : 0 < s) (h1c : ∀ x, ∀ u ∈ enc x, u.oneCell' = true) {e : TypeId} {i : TypeInfo} {z : Value} {bytes : Nat} (hgd : o.guard = none) (so xo : Operand) (t : TypeId)
    (ho : o.op = .call { callee := .builtin .append, args := #[so, xo], argTypes := #[t, t] }) (ht : P.underlying t = some (.slice e)) (hi : P.info? e = some i) (hz : i.zero = some z) (hsize : i.size = s) (hby : i.bytes = bytes) (hzs : z.cells.size = s)
    (base : Nat) (v : Value) (n : Nat) (xs : List Value) (x : Value) (ys : List α) (hsv : a.eval so = v) (hxv : a.eval xo = x) (hown : w.ownsRow base e s v n xs) (hx : RowAt s enc w x ys) (h63 : n + ys.length ≤ maxLen) (hbytes : (n + ys.length) * bytes ≤ 140737488355328) (hbase : base ≤ w.heap.size)
    (h : ∀ v' w', w'.ownsRow base e s v' (n + ys.length) (xs ++ ys.flatMap enc) → w.grownBy w' v.ownBlock → (v'.ownBlock = v.ownBlock ∨ v'.ownBlock = some w.heap.size) → wpList P ops Q rest (a.put o.dst v') w') : wpList P ops Q (o :: rest) a w := by
  obtain ⟨v', w', hr, h2, h3, h4⟩ := appRow (ty := o.type) he hs h1c ht hi hz hsize hby hzs base hbase hown hx h63 hbytes
  exact Lib.wpList_append_run w hgd so xo t t ho v x hsv hxv v' w' hr (h v' w' h2 h3 h4)
theorem step_appRow {ops : Array Oper} {o : Oper} {a : Act} {K : Act → World → Prop} {Q : Exit → Act → World → Prop} {E : Prop} (he : ∀ x, (enc x).length = s) (hs : 0 < s) (h1c : ∀ x, ∀ u ∈ enc x, u.oneCell' = true) {e : TypeId} {i : TypeInfo} {z : Value} {bytes : Nat} (hgd : o.guard = none) (so xo : Operand) (t : TypeId)
    (ho : o.op = .call { callee := .builtin .append, args := #[so, xo], argTypes := #[t, t] }) (ht : P.underlying t = some (.slice e)) (hi : P.info? e = some i) (hz : i.zero = some z) (hsize : i.size = s) (hby : i.bytes = bytes) (hzs : z.cells.size = s)
    (base : Nat) (v : Value) (n : Nat) (xs : List Value) (x : Value) (ys : List α) (hsv : a.eval so = v) (hxv : a.eval xo = x) (hown : w.ownsRow base e s v n xs) (hx : RowAt s enc w x ys) (h63 : n + ys.length ≤ maxLen) (hbytes : (n + ys.length) * bytes ≤ 140737488355328) (hbase : base ≤ w.heap.size)
    (h : ∀ v' w', w'.ownsRow base e s v' (n + ys.length) (xs ++ ys.flatMap enc) → w.grownBy w' v.ownBlock → (v'.ownBlock = v.ownBlock ∨ v'.ownBlock = some w.heap.size) → K (a.put o.dst v') w') :
    if Region.wanted o (yielded ops a.tmps) = true then Oper.wp P o a w K Q else E := by
  have hw : Region.wanted o (yielded ops a.tmps) = true := by simp [Region.wanted, hgd]
  rw [if_pos hw]
  obtain ⟨v', w', hr, h2, h3, h4⟩ := appRow (ty := o.type) he hs h1c ht hi hz hsize hby hzs base hbase hown hx h63 hbytes
  exact Lib.wp_append_run w so xo t t ho v x hsv hxv v' w' hr (h v' w' h2 h3 h4)
end
/-- The first k of a row. -/
theorem own_take {w : World} {base e size : Nat} {a : Option Addr} {n c k : Nat} {xs : List Value} (h : w.ownsRow base e size (.slice a n c) n xs) (hk : k ≤ n) : w.ownsRow base e size (.slice a k c) k (xs.take (k * size)) := by
  have hm : k * size ≤ n * size := Nat.mul_le_mul_right _ hk
  obtain ⟨h1, ⟨h2, h3⟩ | ⟨g, cap, cur, hv, hb, hg, hn, hmx, hsz, ht⟩⟩ := h
  · subst h3
    have : k = 0 := by omega
    subst this
    exact ⟨by simp, .inl ⟨h2, rfl⟩⟩
  · refine ⟨by rw [List.length_take, h1]; omega, .inr ⟨g, cap, cur, ?_, hb, hg, by omega, hmx, hsz, ?_⟩⟩
    · simp only [Value.slice.injEq] at hv ⊢
      exact ⟨hv.1, trivial, hv.2.2⟩
    · rw [← ht, List.take_take, Nat.min_eq_left hm]
theorem encNode_one (x : Int × Int) : ∀ u ∈ encNode x, u.oneCell' = true := fun u hu => by
  simp [encNode] at hu
  rcases hu with rfl | rfl <;> rfl
theorem encEdge_one (x : Int × Int × Int × Int × Int) : ∀ u ∈ encEdge x, u.oneCell' = true := fun u hu => by
  simp [encEdge] at hu
  rcases hu with rfl | rfl | rfl | rfl | rfl <;> rfl
end Go.Proofs.YtlnpbfeihjfnjaaGreatDoor.Lab

/-
  A label's bytes read by impl: the rows of nodes by a range over a function, graphOf.
-/
import Derived.Test.YtlnpbfeihjfnjabGreatDoorQGrp
import Derived.Test.YtlnpbfeihjfnjabGreatDoorQRwi
import Derived.Test.YtlnpbfeihjfnjabGreatDoorQGro
import Derived.Test.YtlnpbfeihjfnjabGreatDoorQRgr
import Derived.Maps.OwnIn
namespace Go.Proofs.YtlnpbfeihjfnjabGreatDoor.Lab
open Go.RowKit Go.Shelf
set_option linter.unusedVariables false
attribute [local go_sem] Oper.semAt_some
set_option maxHeartbeats 400000 in
theorem nodeAt (c : Int) (w : World) (h0 : 0 ≤ c) (h1 : c ≤ 16383) :
    Calls Tryz.prog 65 #[.int .i64 c] w fun e w' => e = .returned (.agg #[.int .i64 (c / 64), .int .i64 (c % 64)]) ∧ w' = w.alloc (.cells #[.int .i64 (c / 64), .int .i64 (c % 64)] 69) := by
  go_enter Tryz.func65, Tryz.ntmps65
  go_wp2
  go_returns
  exact ⟨rfl, rfl⟩
set_option maxHeartbeats 400000 in
theorem rows (b : Nat) (w : World) :
    Calls Tryz.prog 64 #[.pointer (some ⟨b, 0, none⟩)] w fun e w' => e = .returned (.func (.func 87) #[] #[.pointer (some ⟨w.heap.size, 0, none⟩)]) ∧ w' = (w.alloc (.cells #[.pointer (some ⟨b, 0, none⟩)] 122)) := by
  go_enter Tryz.func64, Tryz.ntmps64
  go_wp2
  go_ret
  exact ⟨rfl, rfl⟩
theorem own_blk {w w' : World} {base e size n : Nat} {v : Value} {xs : List Value} (h : w.ownsRow base e size v n xs) (hb : ∀ k c t f, v.ownBlock = some k → w.heap[k]? = some (Obj.cells c t f) → w'.heap[k]? = some (Obj.cells c t f)) : w'.ownsRow base e size v n xs := by
  obtain ⟨h1, h | ⟨g, cap, cur, rfl, hbb, hb', hr⟩⟩ := h
  · exact ⟨h1, .inl h⟩
  · exact ⟨h1, .inr ⟨g, cap, cur, rfl, hbb, hb g _ _ _ (by simp [Value.ownBlock]) hb', hr⟩⟩
theorem Rs.cells {w : World} {b : Nat} {s : ByteArray} {o : Option Int} (h : Rs w b s o) : ∃ c t f, w.heap[b]? = some (Obj.cells c t f) := by
  cases o with
  | none => obtain ⟨a, t, v, h⟩ := h; exact ⟨_, _, _, h⟩
  | some a => exact ⟨_, _, _, h⟩
/-- What has been read: the edges, how the reader stands, the row at hand. -/
structure Gs where
  es : List Ed
  o : Option Int
  pv : Value
  px : List Int
/-- A graph under way: its box, the reader, the rows. -/
structure GI (w1 : World) (S : Nat) (l : Int) (s : ByteArray) (ns : List Nd) (X : Option Nat) (h : Gs) (W : World) : Prop where
  rd : Rs W (S + 3) s h.o
  gb : ∃ v1 v2, W.heap[S + 2]? = some (.cells #[v1, v2] 32 (0, 0)) ∧ W.ownsRow (S + 4) 69 2 v1 ns.length (ns.flatMap encNode) ∧ W.ownsRow (S + 4) 72 5 v2 h.es.length (h.es.flatMap encEdge) ∧
    (∀ k, v1.ownBlock = some k → v2.ownBlock ≠ some k ∧ h.pv.ownBlock ≠ some k ∧ X ≠ some k) ∧ (∀ k, v2.ownBlock = some k → h.pv.ownBlock ≠ some k ∧ X ≠ some k)
  pd : W.ownsRow (S + 4) 3 1 h.pv h.px.length (h.px.flatMap encI)
  px : ∀ k, h.pv.ownBlock = some k → X ≠ some k
  xb : ∀ k, X = some k → S + 4 ≤ k ∧ Boxed W k 122 (.pointer (some ⟨S + 3, 0, none⟩))
  sg : W.heap[S]? = some (.cells #[.int .i64 l, .string s] 52 (0, 0))
  rs : W.heap[S + 1]? = some (.cells #[.slice none 0 0, .slice none 0 0] 32 (0, 0))
  fr : Below S w1 W
section
variable {w1 W W' : World} {S : Nat} {l : Int} {s : ByteArray} {ns : List Nd} {X : Option Nat} {h : Gs}
theorem GI.size (hi : GI w1 S l s ns X h W) : S + 4 ≤ W.heap.size := by have := hi.rd.lt; omega
theorem GI.same (hi : GI w1 S l s ns X h W) (hc : ∀ (k : Nat) (c : Array Value) (t : TypeId) (f : Nat × Nat), W.heap[k]? = some (Obj.cells c t f) → W'.heap[k]? = some (Obj.cells c t f)) (hb : Below S w1 W') : GI w1 S l s ns X h W' := by
  obtain ⟨v1, v2, g1, o1, o2, d1, d2⟩ := hi.gb
  obtain ⟨c, t, f, e⟩ := hi.rd.cells
  exact ⟨hi.rd.blk ((hc _ _ _ _ e).trans e.symm), ⟨v1, v2, hc _ _ _ _ g1, own_blk o1 (fun k c t f _ e => hc k c t f e), own_blk o2 (fun k c t f _ e => hc k c t f e), d1, d2⟩, own_blk hi.pd (fun k c t f _ e => hc k c t f e), hi.px,
    fun k e => ⟨(hi.xb k e).1, hc _ _ _ _ (hi.xb k e).2⟩, hc _ _ _ _ hi.sg, hc _ _ _ _ hi.rs, hb⟩
/-- The turn of a block that is no cells leaves all. -/
theorem GI.kept {row : Option Nat} (hi : GI w1 S l s ns X h W) (hg : W.grownBy W' row) (hr : ∀ r, row = some r → S ≤ r ∧ ∃ o : Obj, W.heap[r]? = some o ∧ o.isCells = false) : GI w1 S l s ns X h W' := by
  refine hi.same (fun k c t f e => (hg.block k (lt_of_block e) (fun e2 => ?_)).trans e) (hi.fr.grown hg (by have := hi.size; omega) (fun k hk => (hr k hk).1))
  obtain ⟨_, o, ho, hn⟩ := hr k e2.symm
  rw [e] at ho; cases ho; cases hn
/-- New blocks leave all. -/
theorem GI.below (hi : GI w1 S l s ns X h W) (hb : Below W.heap.size W W') : GI w1 S l s ns X h W' :=
  hi.same (fun k c t f e => (hb.block k (lt_of_block e)).trans e) (hi.fr.trans (hb.mono (by have := hi.size; omega)))
/-- The reader has moved on. -/
theorem GI.moved {o' : Option Int} (hi : GI w1 S l s ns X h W) (hg : W.grownBy W' (some (S + 3))) (hr : Rs W' (S + 3) s o') : GI w1 S l s ns X ⟨h.es, o', h.pv, h.px⟩ W' := by
  have bk : ∀ k c t f, k ≠ S + 3 → W.heap[k]? = some (Obj.cells c t f) → W'.heap[k]? = some (Obj.cells c t f) := fun k c t f hk e => (hg.block k (lt_of_block e) (fun e2 => hk (by cases e2; rfl))).trans e
  obtain ⟨v1, v2, g1, o1, o2, d1, d2⟩ := hi.gb
  exact ⟨hr, ⟨v1, v2, bk _ _ _ _ (by omega) g1, own_blk o1 (fun k c t f hk e => bk k c t f (by have := (o1.lt k hk).1; omega) e), own_blk o2 (fun k c t f hk e => bk k c t f (by have := (o2.lt k hk).1; omega) e), d1, d2⟩,
    own_blk hi.pd (fun k c t f hk e => bk k c t f (by have := (hi.pd.lt k hk).1; omega) e), hi.px,
    fun k e => ⟨(hi.xb k e).1, bk _ _ _ _ (by have := (hi.xb k e).1; omega) (hi.xb k e).2⟩, bk _ _ _ _ (by omega) hi.sg, bk _ _ _ _ (by omega) hi.rs, hi.fr.grown hg (by have := hi.size; omega) (fun k hk => by cases hk; omega)⟩
/-- A row has been read. -/
theorem GI.rowed {o' : Option Int} {u : Value} {xs : List Int} (hi : GI w1 S l s ns X h W) (hg : W.grownBy W' (some (S + 3))) (hr : Rs W' (S + 3) s o') (hu : W'.ownsRow W.heap.size 3 1 u xs.length (xs.flatMap encI)) : GI w1 S l s ns X ⟨h.es, o', u, xs⟩ W' := by
  have hm := hi.moved hg hr
  have hz := hi.size
  obtain ⟨v1, v2, g1, o1, o2, d1, d2⟩ := hi.gb
  obtain ⟨a1, a2, b1, p1, p2, q1, q2⟩ := hm.gb
  have e : #[a1, a2] = #[v1, v2] := by
    have := (hg.block (S + 2) (lt_of_block g1) (fun e2 => absurd (Option.some.inj e2) (by omega))).trans g1
    rw [b1] at this
    simpa using this
  simp only [Array.mk.injEq, List.cons.injEq, and_true] at e
  obtain ⟨rfl, rfl⟩ := e
  refine ⟨hr, ⟨a1, a2, b1, p1, p2, fun k hk => ⟨(d1 k hk).1, fun e => ?_, (d1 k hk).2.2⟩, fun k hk => ⟨fun e => ?_, (d2 k hk).2⟩⟩, own_mono hu hz, fun k hk e => ?_, hm.xb, hm.sg, hm.rs, hm.fr⟩
  · have := (hu.lt k e).1; have := (o1.lt k hk).2; omega
  · have := (hu.lt k e).1; have := (o2.lt k hk).2; omega
  · have := (hu.lt k hk).1; have := lt_of_block (hi.xb k e).2; omega
theorem GI.cells (hi : GI w1 S l s ns X h W) {v1 v2 : Value} (hg : W.heap[S + 2]? = some (.cells #[v1, v2] 32 (0, 0))) : W.ownsRow (S + 4) 69 2 v1 ns.length (ns.flatMap encNode) ∧ W.ownsRow (S + 4) 72 5 v2 h.es.length (h.es.flatMap encEdge) ∧
    (∀ k, v1.ownBlock = some k → v2.ownBlock ≠ some k ∧ h.pv.ownBlock ≠ some k ∧ X ≠ some k) ∧ (∀ k, v2.ownBlock = some k → h.pv.ownBlock ≠ some k ∧ X ≠ some k) := by
  obtain ⟨a1, a2, g1, h1⟩ := hi.gb
  rw [hg] at g1
  simp only [Option.some.injEq, Obj.cells.injEq, Array.mk.injEq, List.cons.injEq, and_true] at g1
  obtain ⟨rfl, rfl⟩ := g1
  exact h1
/-- A node more. -/
theorem GI.appN {V w3 : World} {v1 v2 v' : Value} {x : Nd} (hi : GI w1 S l s ns X h W) (hgb : W.heap[S + 2]? = some (.cells #[v1, v2] 32 (0, 0))) (hV : Below W.heap.size W V) (hg : V.grownBy w3 v1.ownBlock)
    (ho : w3.ownsRow (S + 4) 69 2 v' (ns.length + 1) (ns.flatMap encNode ++ encNode x)) (hat : v'.ownBlock = v1.ownBlock ∨ v'.ownBlock = some V.heap.size) :
    (w3.cell? ⟨S + 2, 0, none⟩ = some v1 ∧ w3.frozen? ⟨S + 2, 0, none⟩ = false) ∧ GI w1 S l s (ns ++ [x]) X h (w3.setCell ⟨S + 2, 0, none⟩ v') := by
  obtain ⟨o1, o2, d1, d2⟩ := hi.cells hgb
  have hz := hi.size
  have hzV := hV.size
  have lo : ∀ k, v1.ownBlock = some k → S + 4 ≤ k := fun k hk => (o1.lt k hk).1
  have b3 : ∀ k c t f, v1.ownBlock ≠ some k → W.heap[k]? = some (Obj.cells c t f) → w3.heap[k]? = some (Obj.cells c t f) := fun k c t f hk e =>
    ((hg.block k (by have := lt_of_block e; omega) (fun e2 => hk e2.symm)).trans (hV.block k (lt_of_block e))).trans e
  have g3 := b3 _ _ _ _ (fun e => by have := lo _ e; omega) hgb
  have b4 : ∀ k c t f, k ≠ S + 2 → v1.ownBlock ≠ some k → W.heap[k]? = some (Obj.cells c t f) → (w3.setCell ⟨S + 2, 0, none⟩ v').heap[k]? = some (Obj.cells c t f) := fun k c t f h0 hk e => by
    rw [Below.heap_setCell _ _ _ _ (fun e => h0 (by simpa using e))]; exact b3 k c t f hk e
  have lo' : ∀ k, v'.ownBlock = some k → S + 4 ≤ k := fun k hk => (ho.lt k hk).1
  have nw : ∀ k, v'.ownBlock = some k → v1.ownBlock = some k ∨ V.heap.size = k := fun k hk => by
    rcases hat with e | e
    · exact .inl (e ▸ hk)
    · rw [e] at hk; exact .inr (Option.some.inj hk)
  refine ⟨⟨by simp [World.cell?, g3], by simp [World.frozen?, g3]⟩, ⟨?_, ⟨v', v2, by simpa using set_blk (i := 0) v' g3, ?_, ?_, ?_, d2⟩, ?_, hi.px, ?_, b4 _ _ _ _ (by omega) (fun e => by have := lo _ e; omega) hi.sg, b4 _ _ _ _ (by omega) (fun e => by have := lo _ e; omega) hi.rs, ?_⟩⟩
  · obtain ⟨c, t, f, e⟩ := hi.rd.cells
    exact hi.rd.blk ((b4 _ _ _ _ (by omega) (fun e => by have := lo _ e; omega) e).trans e.symm)
  · have := own_set ho (p := ⟨S + 2, 0, none⟩) (fun e => by have h9 : S + 4 ≤ S + 2 := lo' _ e; omega) v'
    simpa [List.flatMap_append] using this
  · exact own_blk o2 (fun k c t f hk e => b4 k c t f (by have := (o2.lt k hk).1; omega) (fun e1 => (d1 k e1).1 hk) e)
  · intro k hk
    rcases nw k hk with e | e
    · exact d1 k e
    · subst e
      exact ⟨fun e2 => by have := (o2.lt _ e2).2; omega, fun e2 => by have := (hi.pd.lt _ e2).2; omega, fun e2 => by have := lt_of_block (hi.xb _ e2).2; omega⟩
  · exact own_blk hi.pd (fun k c t f hk e => b4 k c t f (by have := (hi.pd.lt k hk).1; omega) (fun e1 => (d1 k e1).2.1 hk) e)
  · exact fun k e => ⟨(hi.xb k e).1, b4 _ _ _ _ (by have := (hi.xb k e).1; omega) (fun e1 => (d1 k e1).2.2 e) (hi.xb k e).2⟩
  · have hb3 : Below S w1 w3 := (hi.fr.trans (hV.mono (by omega))).grown hg (by omega) (fun k hk => by have := lo k hk; omega)
    exact hb3.grown (grown_setN w3 (S + 2) 0 v') (by have := hg.size; omega) (fun k hk => by cases hk; simp)
/-- An edge more. -/
theorem GI.appE {V w3 : World} {v1 v2 v' : Value} {x : Ed} (hi : GI w1 S l s ns X h W) (hgb : W.heap[S + 2]? = some (.cells #[v1, v2] 32 (0, 0))) (hV : Below W.heap.size W V) (hg : V.grownBy w3 v2.ownBlock)
    (ho : w3.ownsRow (S + 4) 72 5 v' (h.es.length + 1) (h.es.flatMap encEdge ++ encEdge x)) (hat : v'.ownBlock = v2.ownBlock ∨ v'.ownBlock = some V.heap.size) :
    (w3.cell? ⟨S + 2, 1, none⟩ = some v2 ∧ w3.frozen? ⟨S + 2, 1, none⟩ = false) ∧ GI w1 S l s ns X ⟨h.es ++ [x], h.o, h.pv, h.px⟩ (w3.setCell ⟨S + 2, 1, none⟩ v') ∧ KeepsOthers W (w3.setCell ⟨S + 2, 1, none⟩ v') := by
  obtain ⟨o1, o2, d1, d2⟩ := hi.cells hgb
  have hz := hi.size
  have hzV := hV.size
  have lo : ∀ k, v2.ownBlock = some k → S + 4 ≤ k := fun k hk => (o2.lt k hk).1
  have b3 : ∀ k ob, v2.ownBlock ≠ some k → W.heap[k]? = some ob → w3.heap[k]? = some ob := fun k ob hk e =>
    ((hg.block k (by have := (Array.getElem?_eq_some_iff.1 e).1; omega) (fun e2 => hk e2.symm)).trans (hV.block k (Array.getElem?_eq_some_iff.1 e).1)).trans e
  have g3 := b3 _ _ (fun e => by have := lo _ e; omega) hgb
  have b4 : ∀ k ob, k ≠ S + 2 → v2.ownBlock ≠ some k → W.heap[k]? = some ob → (w3.setCell ⟨S + 2, 1, none⟩ v').heap[k]? = some ob := fun k ob h0 hk e => by
    rw [Below.heap_setCell _ _ _ _ (fun e => h0 (by simpa using e))]; exact b3 k ob hk e
  have lo' : ∀ k, v'.ownBlock = some k → S + 4 ≤ k := fun k hk => (ho.lt k hk).1
  have nw : ∀ k, v'.ownBlock = some k → v2.ownBlock = some k ∨ V.heap.size = k := fun k hk => by
    rcases hat with e | e
    · exact .inl (e ▸ hk)
    · rw [e] at hk; exact .inr (Option.some.inj hk)
  refine ⟨⟨by simp [World.cell?, g3], by simp [World.frozen?, g3]⟩, ⟨?_, ⟨v1, v', by simpa using set_blk (i := 1) v' g3, ?_, ?_, ?_, ?_⟩, ?_, hi.px, ?_, b4 _ _ (by omega) (fun e => by have := lo _ e; omega) hi.sg, b4 _ _ (by omega) (fun e => by have := lo _ e; omega) hi.rs, ?_⟩, ?_⟩
  · obtain ⟨c, t, f, e⟩ := hi.rd.cells
    exact hi.rd.blk ((b4 _ _ (by omega) (fun e => by have := lo _ e; omega) e).trans e.symm)
  · exact own_blk o1 (fun k c t f hk e => b4 k _ (by have := (o1.lt k hk).1; omega) (fun e1 => (d1 k hk).1 e1) e)
  · have := own_set ho (p := ⟨S + 2, 1, none⟩) (fun e => by have h9 : S + 4 ≤ S + 2 := lo' _ e; omega) v'
    simpa [List.flatMap_append] using this
  · intro k hk
    refine ⟨fun e2 => ?_, (d1 k hk).2⟩
    rcases nw k e2 with e | e
    · exact (d1 k hk).1 e
    · subst e; have := (o1.lt _ hk).2; omega
  · intro k hk
    rcases nw k hk with e | e
    · exact d2 k e
    · subst e
      exact ⟨fun e2 => by have := (hi.pd.lt _ e2).2; omega, fun e2 => by have := lt_of_block (hi.xb _ e2).2; omega⟩
  · exact own_blk hi.pd (fun k c t f hk e => b4 k _ (by have := (hi.pd.lt k hk).1; omega) (fun e1 => (d2 k e1).1 hk) e)
  · exact fun k e => ⟨(hi.xb k e).1, b4 _ _ (by have := (hi.xb k e).1; omega) (fun e1 => (d2 k e1).2 e) (hi.xb k e).2⟩
  · have hb3 : Below S w1 w3 := (hi.fr.trans (hV.mono (by omega))).grown hg (by omega) (fun k hk => by have := lo k hk; omega)
    exact hb3.grown (grown_setN w3 (S + 2) 1 v') (by have := hg.size; omega) (fun k hk => by cases hk; simp)
  · refine ⟨by have := hg.size; simp [World.setCell]; omega, fun k ob hk hn => b4 k ob (fun e => ?_) (fun e => ?_) hk⟩
    · subst e; rw [hgb] at hk; cases hk; cases hn
    · obtain ⟨c, t, f, hc⟩ := row_cells o2 e
      rw [hc] at hk; cases hk; cases hn
end
theorem new_cells (w : World) (vs : List Value) {t : TypeId} : ∀ (j : Nat) (u : Value), vs[j]? = some u → (w.alloc (.cells vs.toArray t)).cell? ((⟨w.heap.size, 0, none⟩ : Addr).add j) = some u := by
  intro j u hu
  have ha : (⟨w.heap.size, 0, none⟩ : Addr).add j = ⟨w.heap.size, 0 + j, none⟩ := by unfold Addr.add; split <;> simp_all
  rw [ha, cell_block (new_block w _)]
  simpa using hu
theorem new_cells' (w : World) (vs : List Value) {t : TypeId} {S : Nat} (h : w.heap.size = S) : ∀ (j : Nat) (u : Value), vs[j]? = some u → (w.alloc (.cells vs.toArray t)).cell? ((⟨S, 0, none⟩ : Addr).add j) = some u := by
  subst h; exact new_cells w vs
theorem nmS_cases {s : ByteArray} {o o' : Option Int} {x : Int} (h : nmS s o o' x) : (o' = none ∧ ∀ a, o = some a → nmO s a = none) ∨ ∃ a k, o = some a ∧ nmO s a = some (x, k) ∧ o' = some k := by
  obtain ⟨_, _, h⟩ := h
  cases o with
  | none => exact .inl ⟨h, fun a e => by cases e⟩
  | some a =>
    replace h : match nmO s a with | none => o' = none | some (n, k) => x = n ∧ o' = some k := h
    cases hq : nmO s a with
    | none => rw [hq] at h; exact .inl ⟨h, fun b e => by cases e; exact hq⟩
    | some y =>
      obtain ⟨n, k⟩ := y
      rw [hq] at h
      obtain ⟨rfl, rfl⟩ := h
      exact .inr ⟨a, k, rfl, hq, rfl⟩
theorem rowS_cases {s : ByteArray} {o o' : Option Int} {xs : List Int} (h : rowS s o o' xs) : (o' = none ∧ ∀ a, o = some a → rwO s a = none) ∨ ∃ a k, o = some a ∧ rwO s a = some (xs, k) ∧ o' = some k := by
  cases o with
  | none => exact .inl ⟨h, fun a e => by cases e⟩
  | some a =>
    replace h : match rwO s a with | none => o' = none | some (l, k) => xs = l ∧ o' = some k := h
    cases hq : rwO s a with
    | none => rw [hq] at h; exact .inl ⟨h, fun b e => by cases e; exact hq⟩
    | some y =>
      obtain ⟨n, k⟩ := y
      rw [hq] at h
      obtain ⟨rfl, rfl⟩ := h
      exact .inr ⟨a, k, rfl, hq, rfl⟩
/-- What the rows tell, from how the reader stands on. -/
def rsO (s : ByteArray) (l : Int) (o : Option Int) : Option (List Ed × Int) := o.bind (fun a => match nmO s a with
  | none => none
  | some (n, k) => rsK s l n.toNat k [])
def gS (s : ByteArray) (l : Int) (o : Option Int) (h : Gs) : Prop := h.o.map (fun k => (h.es, k)) = rsO s l o
/-- A node's row is told to the loop's body. -/
def gR (l : Int) (s : ByteArray) (h : Gs) (x : Int × Value) (h' : Gs) : Prop := x.2 = h.pv ∧ 0 ≤ x.1 ∧ x.1 ≤ 16383 ∧ (∀ y ∈ h.px, 0 ≤ y ∧ y ≤ 16383) ∧ h.es.length + h.px.length ≤ s.size ∧ h' = ⟨h.es ++ rowE l x.1 h.px, h.o, h.pv, h.px⟩
set_option maxRecDepth 100000 in
set_option maxHeartbeats 2000000 in
theorem rows1 (w1 : World) (S B Br n : Nat) (l0 : Int) (s : ByteArray) (ns : List Nd) (hs : s.size ≤ 1048576) (hS : S = w1.heap.size) (hB : S + 4 ≤ B) (hf : FormAt w1)
    (ll : Nat) (J : Gs → World → Prop) (W : World) (h00 : Gs) (he : h00.es = []) (hJI : ∀ h V, J h V → GI w1 S l0 s ns (some Br) h V) (hM : ∀ h h' V V', J h V → GI w1 S l0 s ns (some Br) h' V' → KeepsFrom B V V' → J h' V')
    (hY : ∀ h x h' V, J h V → gR l0 s h x h' → YieldAt Fence.wide n Tryz.prog ll #[.int .i64 x.1, x.2] V fun e V' => e = .returned (.bool true) ∧ J h' V') (h0 : J h00 W) :
    CallsIn Fence.wide (n + 1) Tryz.prog 87 #[.func (.yield ll) #[] #[], .pointer (some ⟨Br, 0, none⟩)] W fun e V => (∃ v, e = .returned v) ∧ ∃ h : Gs, gS s l0 h00.o h ∧ J h V := by
  have hfl := hf.lt
  have HF : Hid (∀ h V, J h V → FormAt V) := fun h V hj => hf.keep (hS ▸ (hJI h V hj).fr)
  have ri := hJI _ _ h0
  have r0 := ((ri.xb Br rfl).2).cell
  have HN : Hid (∀ (h : Gs) (V : World), J h V → Calls Tryz.prog 84 #[.pointer (some ⟨S + 3, 0, none⟩)] V fun e V' => ∃ x o', e = .returned (.int .i64 x) ∧ nmS s h.o o' x ∧ J ⟨h.es, o', h.pv, h.px⟩ V') := fun h V hj =>
    (rd_num (S + 3) s h.o V (by omega) (hJI h V hj).rd (HF.out h V hj) (by omega)).mono (by
      rintro e V' ⟨x, o', h1, h2, h3, h4⟩
      exact ⟨x, o', h1, h2, hM _ _ _ _ hj ((hJI h V hj).moved h4 h3) (KeepsFrom.of_grownBy h4 (fun j e => by cases e; omega))⟩)
  have HR : Hid (∀ (h : Gs) (V : World), J h V → Calls Tryz.prog 63 #[.pointer (some ⟨S + 3, 0, none⟩)] V fun e V' => ∃ u xs o', e = .returned u ∧ rowS s h.o o' xs ∧ J ⟨h.es, o', u, xs⟩ V') := fun h V hj =>
    (rd_row (S + 3) s h.o V hs (hJI h V hj).rd (HF.out h V hj) (by omega)).mono (by
      rintro e V' ⟨u, xs, o', h1, h2, h3, h4, h5, _⟩
      exact ⟨u, xs, o', h1, h4, hM _ _ _ _ hj ((hJI h V hj).rowed h5 h3 h2) (KeepsFrom.of_grownBy h5 (fun j e => by cases e; omega))⟩)
  have HJI : Hid (∀ h V, J h V → GI w1 S l0 s ns (some Br) h V) := hJI
  have HY : Hid (∀ h x h' V, J h V → gR l0 s h x h' → YieldAt Fence.wide n Tryz.prog ll #[.int .i64 x.1, x.2] V fun e V' => e = .returned (.bool true) ∧ J h' V') := hY
  have H0 : Hid (J h00 W ∧ h00.es = [] ∧ s.size ≤ 1048576) := ⟨h0, he, hs⟩
  clear ri hJI hY hM hf he h0 hs hS hB
  refine callsIn_of_wp Tryz.func87 rfl trivial ?_ rfl
  simp only [Tryz.ntmps87, List.size_toArray, List.length_cons, List.length_nil, Nat.reduceAdd, Nat.reduceSub, Array.replicate_succ, Array.replicate_zero, List.push_toArray, List.append_toArray, List.nil_append, List.cons_append]
  gi_wp2_with fail
  refine ⟨trivial, (callsIn_wide.2 (HN.out _ _ H0.out.1)).mono ?_⟩
  rintro e w2 ⟨x, o1, rfl, hn, hj⟩
  obtain ⟨c, rfl⟩ := Int.eq_ofNat_of_zero_le hn.1
  have cb : c ≤ 20000 := by have := hn.2.1; omega
  have HT : Hid (o1.bind (fun k => rsK s l0 c k []) = rsO s l0 h00.o) := by
    rcases nmS_cases hn with ⟨rfl, h2⟩ | ⟨a, k, h1, h2, rfl⟩
    · cases ho : h00.o with
      | none => rfl
      | some a => show none = (match nmO s a with | none => none | some (n, k) => rsK s l0 n.toNat k []); rw [h2 a ho]
    · rw [h1]
      show rsK s l0 c k [] = (match nmO s a with | none => none | some (n, k) => rsK s l0 n.toNat k [])
      rw [h2]
      simp only [Int.toNat_natCast]
  have HJ : Hid (J ⟨h00.es, o1, h00.pv, h00.px⟩ w2) := hj
  have HK : Hid (∀ k, o1 = some k → 0 ≤ k ∧ k ≤ s.size) := by
    rcases nmS_cases hn with ⟨rfl, h2⟩ | ⟨a, k, h1, h2, rfl⟩
    · intro k e; cases e
    · intro k' e; cases e; have := nmO_bd h2; omega
  clear hj hn r0
  gi_wp2_with fail
  gi_loopw [7] (fun q wr => ∃ (i : Nat) (h : Gs), q = .int .i64 i ∧ i ≤ c ∧ h.o.bind (fun k => rsK s l0 (c - i) k h.es) = rsO s l0 h00.o ∧ (∀ k, h.o = some k → (h.es.length : Int) ≤ k ∧ k ≤ s.size) ∧ J h wr) (fun q _ => c - (intOf q).toNat)
  case atStart =>
    refine ⟨0, ⟨h00.es, o1, h00.pv, h00.px⟩, rfl, by omega, ?_, ?_, HJ.out⟩
    · rw [H0.out.2.1]; exact HT.out
    · rw [H0.out.2.1]; exact HK.out
  case round =>
    obtain ⟨i, h, rfl, hi, hT, hk, hJ⟩ := hrel
    by_cases hlt : i < c
    · have hci : c - i = (c - (i + 1)) + 1 := by omega
      rw [hci] at hT
      have r0 := (((HJI.out _ _ hJ).xb Br rfl).2).cell
      have HTT : Hid (h.o.bind (fun k => rsK s l0 (c - (i + 1) + 1) k h.es) = rsO s l0 h00.o) := hT
      have HKK : Hid (∀ k, h.o = some k → (h.es.length : Int) ≤ k ∧ k ≤ s.size) := hk
      have HJJ : Hid (J h wr) := hJ
      clear hT hk hJ hci
      gi_wp2_with fail
      refine ⟨trivial, (callsIn_wide.2 (HN.out _ _ HJJ.out)).mono ?_⟩
      rintro e w3 ⟨x, o2, rfl, hn, hj⟩
      have r1 := (((HJI.out _ _ hj).xb Br rfl).2).cell
      have HJ3 : Hid (J ⟨h.es, o2, h.pv, h.px⟩ w3) := hj
      have HN3 : Hid (nmS s h.o o2 x) := hn
      clear hj hn r0
      gi_wp2_with fail
      refine ⟨trivial, (callsIn_wide.2 (HR.out _ _ HJ3.out)).mono ?_⟩
      rintro e w4 ⟨u, xs, o3, rfl, hr, hj⟩
      have ri4 := HJI.out _ _ hj
      have r2 := ((ri4.xb Br rfl).2).cell
      have HJ4 : Hid (J ⟨h.es, o3, u, xs⟩ w4) := hj
      have hr : rowS s o2 o3 xs := hr
      clear hj r1
      have rd4 : Rs w4 (S + 3) s o3 := ri4.rd
      clear ri4
      rcases rowS_cases hr with ⟨rfl, hz⟩ | ⟨a2, k3, rfl, hz, rfl⟩
      · have HG : Hid (none = rsO s l0 h00.o) := by
          show none = rsO s l0 h00.o
          rw [← HTT.out]
          rcases nmS_cases HN3.out with ⟨rfl, h2⟩ | ⟨a, k, h1, h2, rfl⟩
          · cases ho : h.o with
            | none => rfl
            | some a => show none = rsK s l0 (c - (i + 1) + 1) a h.es; rw [rsK_succ, h2 a ho]
          · rw [h1]
            show none = rsK s l0 (c - (i + 1) + 1) a h.es
            rw [rsK_succ, h2]
            simp only
            rw [hz k rfl]
        obtain ⟨a, t, v, rd4⟩ := rd4
        have c2 := rd4.c2
        clear rd4 hr hz
        gi_wp2
        refine ⟨fun _ h => (by cases h), ?_⟩
        gi_wp2
        first | go_end0 | refine bodyPost_ret (results_none rfl _ _ _) rfl ?_
        exact ⟨⟨_, rfl⟩, ⟨h.es, none, u, xs⟩, HG.out, HJ4.out⟩
      · have hb3 := rwO_bd hz
        rcases nmS_cases HN3.out with ⟨h1, h2⟩ | ⟨a, k, h1, h2, h3⟩
        · cases h1
        obtain rfl := Option.some.inj h3
        have hb2 := nmO_bd h2
        have hkk := HKK.out a h1
        have hle := rowE_le l0 x xs
        have HG : Hid (rsK s l0 (c - (i + 1)) k3 (h.es ++ rowE l0 x xs) = rsO s l0 h00.o) := by
          show rsK s l0 (c - (i + 1)) k3 (h.es ++ rowE l0 x xs) = rsO s l0 h00.o
          rw [← HTT.out, h1]
          show _ = rsK s l0 (c - (i + 1) + 1) a h.es
          rw [rsK_succ, h2]
          simp only
          rw [hz]
        have rd4 : RdrAt w4 (S + 3) s k3 .nilIface := rd4
        have c2 := rd4.c2
        obtain ⟨fn, tmps, assign, body, hy, hR⟩ := HY.out ⟨h.es, some k3, u, xs⟩ (x, u) _ w4 HJ4.out ⟨rfl, hb2.1, hb2.2.1, hb3.1, by simp only; omega, rfl⟩
        have HBB : Hid (∀ k, some k3 = some k → ((h.es ++ rowE l0 x xs).length : Int) ≤ k ∧ k ≤ s.size) := fun k e => by cases e; rw [List.length_append]; push_cast; omega
        clear rd4 hr hz hb3 hb2 hkk hle h2 h1
        gi_wp2
        refine hR.mono ?_
        rintro e W3 ⟨rfl, hJ3⟩
        clear hy hR r2 c2
        gi_wp2
        go_roundw
        case rel => exact ⟨i + 1, ⟨h.es ++ rowE l0 x xs, some k3, u, xs⟩, by go_num, by omega, HG.out, HBB.out, hJ3⟩
        case measure => simp [intOf]; omega
    · have hic : i = c := by omega
      subst hic
      rw [Nat.sub_self] at hT
      have HG : Hid (h.o.map (fun k => (h.es, k)) = rsO s l0 h00.o) := by
        show h.o.map (fun k => (h.es, k)) = rsO s l0 h00.o
        rw [← hT]
        cases h.o <;> rfl
      clear hT
      gi_wp2
      first | go_end0 | refine bodyPost_ret (results_none rfl _ _ _) rfl ?_
      exact ⟨⟨_, rfl⟩, h, HG.out, hJ⟩
theorem push4 {α : Type} (h : Array α) (a b c d : α) : ((((h.push a).push b).push c).push d)[h.size]? = some a ∧ ((((h.push a).push b).push c).push d)[h.size + 1]? = some b ∧ ((((h.push a).push b).push c).push d)[h.size + 2]? = some c ∧ ((((h.push a).push b).push c).push d)[h.size + 3]? = some d := by
  simp only [Array.getElem?_push, Array.size_push]
  refine ⟨?_, ?_, ?_, ?_⟩ <;> (repeat (first | exact if_pos trivial | rw [if_pos trivial] | rw [if_pos (by omega)] | rw [if_neg (by omega)]))
theorem GI.start (w : World) (l : Int) (s : ByteArray) : GI w w.heap.size l s [] none ⟨[], some 0, .slice none 0 0, []⟩ ((((w.alloc (.cells #[.int .i64 l, .string s] 52)).alloc (.cells #[.slice none 0 0, .slice none 0 0] 32)).alloc (.cells #[.slice none 0 0, .slice none 0 0] 32)).alloc (.cells #[.string s, .int .i64 0, .nilIface] 102)) := by
  refine ⟨?_, ⟨.slice none 0 0, .slice none 0 0, ?_, World.ownsRow_nil _ _ _ _, World.ownsRow_nil _ _ _ _, ?_, ?_⟩, World.ownsRow_nil _ _ _ _, ?_, ?_, ?_, ?_, ?_⟩
  · exact (push4 _ _ _ _ _).2.2.2
  · exact (push4 _ _ _ _ _).2.2.1
  · intro k hk; simp [Value.ownBlock] at hk
  · intro k hk; simp [Value.ownBlock] at hk
  · intro k hk; simp [Value.ownBlock] at hk
  · intro k hk; cases hk
  · exact (push4 _ _ _ _ _).1
  · exact (push4 _ _ _ _ _).2.1
  · exact ((((Below.refl _ _).alloc (Nat.le_refl _) _).alloc (by simp) _).alloc (by simp; omega) _).alloc (by simp; omega) _
theorem GI.boxed {w1 W : World} {S : Nat} {l : Int} {s : ByteArray} {ns : List Nd} {h : Gs} (hi : GI w1 S l s ns none h W) : GI w1 S l s ns (some W.heap.size) h (W.alloc (.cells #[.pointer (some ⟨S + 3, 0, none⟩)] 122)) := by
  have hj := hi.below ((Below.refl _ _).alloc (Nat.le_refl _) _ : Below W.heap.size W (W.alloc (.cells #[.pointer (some ⟨S + 3, 0, none⟩)] 122)))
  have hz := hi.size
  obtain ⟨a1, a2, g1, o1, o2, d1, d2⟩ := hi.gb
  obtain ⟨v1, v2, g2, p1, p2, e1, e2⟩ := hj.gb
  have e : #[v1, v2] = #[a1, a2] := by
    have := ((Below.refl _ _).alloc (Nat.le_refl _) _ : Below W.heap.size W (W.alloc (.cells #[.pointer (some ⟨S + 3, 0, none⟩)] 122))).block (S + 2) (lt_of_block g1)
    rw [g2, g1] at this
    simpa using this
  simp only [Array.mk.injEq, List.cons.injEq, and_true] at e
  obtain ⟨rfl, rfl⟩ := e
  refine ⟨hj.rd, ⟨v1, v2, g2, p1, p2, fun k hk => ⟨(e1 k hk).1, (e1 k hk).2.1, fun e => ?_⟩, fun k hk => ⟨(e2 k hk).1, fun e => ?_⟩⟩, hj.pd, fun k hk e => ?_, fun k e => ?_, hj.sg, hj.rs, hj.fr⟩
  · have := (o1.lt k hk).2; cases e; omega
  · have := (o2.lt k hk).2; cases e; omega
  · have := (hi.pd.lt k hk).2; cases e; omega
  · cases e; exact ⟨hz, Boxed.new _ _ _⟩
/-- What is read, by how the reader stands at the end. -/
theorem gf_link {s : ByteArray} {l : Int} {o1 : Option Int} {xs : List Int} {h : Gs} (hr : rowS s (some 0) o1 xs) (hg : gS s l o1 h) : match gfO s l with
    | none => h.o = none
    | some (n, m, k) => h.o = some k ∧ xs.map (fun x => (l, x)) = n ∧ h.es = m := by
  unfold gS rsO at hg
  unfold gfO
  rcases rowS_cases hr with ⟨rfl, h2⟩ | ⟨a, k, h1, h2, rfl⟩
  · rw [h2 0 rfl]
    cases ho : h.o with
    | none => rfl
    | some k => rw [ho] at hg; cases hg
  · obtain rfl := Option.some.inj h1
    rw [h2]
    simp only [Option.bind_some] at hg ⊢
    cases hq : nmO s k with
    | none =>
      rw [hq] at hg
      simp only at hg ⊢
      cases ho : h.o with
      | none => rfl
      | some k => rw [ho] at hg; cases hg
    | some y =>
      obtain ⟨n, k1⟩ := y
      rw [hq] at hg
      simp only at hg ⊢
      cases hs : rsK s l n.toNat k1 [] with
      | none =>
        rw [hs] at hg
        simp only at hg ⊢
        cases ho : h.o with
        | none => rfl
        | some k => rw [ho] at hg; cases hg
      | some u =>
        obtain ⟨e1, k2⟩ := u
        rw [hs] at hg
        simp only at hg ⊢
        cases ho : h.o with
        | none => rw [ho] at hg; cases hg
        | some k =>
          rw [ho] at hg
          simp only [Option.map_some, Option.some.injEq, Prod.mk.injEq] at hg
          obtain ⟨rfl, rfl⟩ := hg
          exact ⟨by first | rfl | trivial, by first | rfl | trivial, by first | rfl | trivial⟩
/-- How a call of graphOf ends. -/
def GfPost (w : World) (l : Int) (s : ByteArray) (e : Ending) (w' : World) : Prop :=
  ∃ (v1 v2 er : Value) (ns : List Nd) (es : List Ed), e = .returned (.tuple #[.agg #[v1, v2], er]) ∧ Below w.heap.size w w' ∧ w'.ownsRow w.heap.size 69 2 v1 ns.length (ns.flatMap encNode) ∧ w'.ownsRow w.heap.size 72 5 v2 es.length (es.flatMap encEdge) ∧
    (match gfO s l with
      | none => ∃ t v, er = .iface t v
      | some (n, m, _) => er = .nilIface ∧ ns = n ∧ es = m)
set_option maxRecDepth 100000 in
set_option maxHeartbeats 8000000 in
theorem graphOf (l : Int) (s : ByteArray) (w : World) (hs : s.size ≤ 1048576) (hf : FormAt w) :
    Calls Tryz.prog 36 #[.agg #[.int .i64 l, .string s]] w (GfPost w l s) := by
  obtain ⟨iN, jN, zN0, zN1, zN2⟩ := info_parts Tryz.infoNode
  obtain ⟨iE, jE, zE0, zE1, zE2⟩ := info_parts Tryz.infoEdge
  have hfl := hf.lt
  refine (callsIn_wide (n := 6)).1 ?_
  refine callsIn_of_wp_marks Tryz.func36 rfl trivial ?_ rfl
  simp only [Tryz.ntmps36, List.size_toArray, List.length_cons, List.length_nil, Nat.reduceAdd, Nat.reduceSub, Array.replicate_succ, Array.replicate_zero, List.push_toArray, List.append_toArray, List.nil_append, List.cons_append]
  refine wpIn_wide.2 ?_
  go_wp2_with fail
  obtain ⟨S, hS⟩ : ∃ S, S = w.heap.size := ⟨_, rfl⟩
  obtain ⟨W0, hW0⟩ : ∃ W0, W0 = (((w.alloc (.cells #[.int .i64 l, .string s] 52)).alloc (.cells #[.slice none 0 0, .slice none 0 0] 32)).alloc (.cells #[.slice none 0 0, .slice none 0 0] 32)).alloc (.cells #[.string s, .int .i64 0, .nilIface] 102) := ⟨_, rfl⟩
  have G0 : GI w S l s [] none ⟨[], some 0, .slice none 0 0, []⟩ W0 := by rw [hS, hW0]; exact GI.start w l s
  have HF : Hid (∀ ns X h V, GI w S l s ns X h V → FormAt V) := fun ns X h V hj => hf.keep (hS ▸ hj.fr)
  have HS : Hid (S = w.heap.size) := hS
  rw [← hW0, ← hS]
  have HR : Hid (Calls Tryz.prog 63 #[.pointer (some ⟨S + 3, 0, none⟩)] W0 fun e V' => ∃ u xs o', e = .returned u ∧ xs.length ≤ 127 ∧ rowS s (some 0) o' xs ∧ GI w S l s [] none ⟨[], o', u, xs⟩ V') :=
    (rd_row (S + 3) s (some 0) W0 hs G0.rd (HF.out _ _ _ _ G0) (by omega)).mono (by
      rintro e V' ⟨u, xs, o', h1, h2, h3, h4, h5, h6⟩
      exact ⟨u, xs, o', h1, h6, h4, G0.rowed h5 h3 h2⟩)
  have HSZ : Hid (s.size ≤ 1048576) := hs
  have HF0 : Hid (FormAt w) := hf
  have HFL : Hid (0 < S) := by rw [hS]; exact hfl
  clear hf hfl hW0 G0 hs hS
  refine HR.out.mono ?_
  rintro e wa ⟨u, xs, o1, rfl, hl, hr, hi⟩
  have hpd : wa.ownsRow (S + 4) 3 1 u xs.length (xs.flatMap encI) := hi.pd
  obtain ⟨ua, uc, rfl⟩ := own_form hpd
  clear hpd
  obtain ⟨n, hn⟩ : ∃ n, n = xs.length := ⟨_, rfl⟩
  rw [← hn] at hi hl ⊢
  have HI : Hid (GI w S l s [] none ⟨[], o1, .slice ua n uc, xs⟩ wa) := hi
  have HRS : Hid (rowS s (some 0) o1 xs) := hr
  have HN : Hid (n = xs.length) := hn
  clear hi hr hn
  go_wp2_with fail
  obtain ⟨nx, hnx⟩ : ∃ nx, nx = xs.map (fun x => (l, x)) := ⟨_, rfl⟩
  have HNX : Hid (nx = xs.map (fun x => (l, x))) := hnx
  clear hnx
  go_loopw [17] (fun q wr => ∃ k : Nat, k ≤ n ∧ q = .int .i64 k ∧ GI w S l s (nx.take k) none ⟨[], o1, .slice ua n uc, xs⟩ wr) (fun q _ => n - (intOf q).toNat)
  case atStart => exact ⟨0, by omega, rfl, HI.out⟩
  case round =>
    obtain ⟨k, hk, rfl, hi⟩ := hrel
    by_cases hlt : k < n
    · obtain ⟨x, hx⟩ : ∃ x, xs[k]? = some x := ⟨_, List.getElem?_eq_getElem (by rw [← HN.out]; exact hlt)⟩
      rcases row_of_own encI_len (by decide) hi.pd with ⟨hz, _⟩ | ⟨_, b1, q0, q1, hv1, hb1, E1⟩
      · have hz : xs = [] := hz
        rw [hz] at hx; cases hx
      obtain rfl : ua = some ⟨b1, q0, none⟩ := by injection hv1
      have e0 : wr.cell? ⟨b1, q0 + k, none⟩ = some (.int .i64 x) := cellI E1 hx
      obtain ⟨v1, v2, hgb⟩ := hi.gb
      obtain ⟨hgb, hw1, hw2, hdd⟩ := hgb
      have c0 : wr.cell? ⟨S + 2, 0, none⟩ = some v1 := by simp [World.cell?, hgb]
      have c1 : wr.cell? ⟨S, 0, none⟩ = some (.int .i64 l) := by simp [World.cell?, hi.sg]
      have hz := hi.size
      have hle : (nx.take k).length = k := by rw [HNX.out]; simp; rw [← HN.out]; omega
      have hbv : Below wr.heap.size wr (wr.alloc (.cells #[.int .i64 l, .int .i64 x] 69)) := (Below.refl _ _).alloc (Nat.le_refl _) _
      have HO : Hid ((wr.alloc (.cells #[.int .i64 l, .int .i64 x] 69)).ownsRow (S + 4) 69 2 v1 k ((nx.take k).flatMap encNode)) := by
        have := own_keep hw1 hbv
        rw [hle] at this
        exact this
      have HGI : Hid (GI w S l s (nx.take k) none ⟨[], o1, .slice (some ⟨b1, q0, none⟩) n uc, xs⟩ wr ∧ wr.heap[S + 2]? = some (.cells #[v1, v2] 32 (0, 0)) ∧ Below wr.heap.size wr (wr.alloc (.cells #[.int .i64 l, .int .i64 x] 69)) ∧ (nx.take k).length = k) := ⟨hi, hgb, hbv, hle⟩
      have HX : Hid (nx[k]? = some (l, x)) := by
        show nx[k]? = some (l, x)
        rw [HNX.out, List.getElem?_map, hx]; rfl
      have k0 : (0 : Int) ≤ (k : Int) := by omega
      have k1 : (k : Int) < (n : Int) := by omega
      clear hi hgb hw1 hw2 hdd hbv hle hx E1 hv1
      go_wp2_with (at_builtin; refine wpList_append_own_at _ rfl _ _ 29 rfl (S + 4) 69 iN _ 2 16 Tryz.underlying29 jN zN0 zN1 zN2 rfl (by decide) _ _ _ rfl HO.out ⟨wr.heap.size, 0, none⟩ 1 1 [.int .i64 l, .int .i64 x] rfl rfl (new_cells _ _) (fun y hy => by simp at hy; rcases hy with rfl | rfl <;> rfl) (by unfold maxLen; omega) (by omega) (by simp; omega) ?_)
      intro v' w3 hown' hgrow _ hat
      have hown2 : w3.ownsRow (S + 4) 69 2 v' ((nx.take k).length + 1) ((nx.take k).flatMap encNode ++ encNode (l, x)) := by rw [HGI.out.2.2.2]; exact hown'
      obtain ⟨⟨f1, f2⟩, hfin⟩ := HGI.out.1.appN HGI.out.2.1 HGI.out.2.2.1 hgrow hown2 (by rw [World.size_alloc]; exact hat)
      obtain ⟨g', cap', rfl⟩ := ownsRow_succ hown'
      have HFIN : Hid (GI w S l s (nx.take (k + 1)) none ⟨[], o1, .slice (some ⟨b1, q0, none⟩) n uc, xs⟩ (w3.setCell ⟨S + 2, 0, none⟩ (.slice (some ⟨g', 0, none⟩) (k + 1) cap'))) := by
        show GI _ _ _ _ _ _ _ _
        rw [List.take_add_one, HX.out]
        exact hfin
      clear hown' hown2 hgrow hat hfin e0 c0 c1
      go_wp2_with fail
      go_roundw
      case rel => exact ⟨k + 1, by omega, by go_num, HFIN.out⟩
      case measure => simp [intOf]; omega
    · have hkn : k = n := by omega
      subst hkn
      obtain ⟨wl, hwl⟩ : ∃ wl, wl = wr := ⟨_, rfl⟩
      subst hwl
      have hi2 : GI w S l s (xs.map (fun x => (l, x))) none ⟨[], o1, .slice ua k uc, xs⟩ wl := by
        have := hi
        rw [HNX.out, List.take_of_length_le (by rw [List.length_map, ← HN.out]; exact Nat.le_refl _)] at this
        exact this
      have HI2 : Hid (GI w S l s (xs.map (fun x => (l, x))) none ⟨[], o1, .slice ua k uc, xs⟩ wl) := hi2
      clear hi hi2
      go_wp2_with fail
      refine (rows (S + 3) _).mono ?_
      rintro e wb ⟨rfl, rfl⟩
      have hz := HI2.out.size
      have HI3 : Hid (GI w S l s (xs.map (fun x => (l, x))) (some wl.heap.size) ⟨[], o1, .slice ua k uc, xs⟩ (wl.alloc (.cells #[.pointer (some ⟨S + 3, 0, none⟩)] 122))) := HI2.out.boxed
      go_wp2_with fail
      have hbr : Hid (wl.heap.size + 1 = (wl.alloc (.cells #[.pointer (some ⟨S + 3, 0, none⟩)] 122)).heap.size) := by show _ = _; simp
      have hmx : Tryz.prog.follows .mixedOrders = true := by kernel_rfl
      refine wpIn_wide (n := 6).1 ?_
      refine rangeS (σ := Gs) (α := Int × Value) rfl (by omega) (gf := 87) (lb := #[.pointer (some ⟨wl.heap.size, 0, none⟩)]) rfl trivial (enters_of Tryz.func87 (by kernel_rfl) rfl) (encs := fun x => #[.int .i64 x.1, x.2]) (fun _ => rfl)
        (GI w S l s (xs.map (fun x => (l, x))) (some wl.heap.size)) (fun h V V' row hh hg hr => hh.kept hg (fun r e => ⟨by have := (hr r e).1; simp at this; omega, (hr r e).2⟩)) (gR l s) (gS s l o1) ⟨[], o1, .slice ua k uc, xs⟩ HI3.out
        (fun ll J W hJI hM hY h0 => by
          have := rows1 w S _ wl.heap.size _ l s (xs.map (fun x => (l, x))) HSZ.out HS.out (by rw [← hbr.out]; omega) (HF0.out) ll J W ⟨[], o1, .slice ua k uc, xs⟩ rfl hJI hM hY h0
          exact this)
        (fun y => { tmps := #[.agg #[.int .i64 l, .string s], .pointer (some ⟨S, 0, none⟩), .pointer (some ⟨S + 1, 0, none⟩), .nilIface, .pointer (some ⟨S + 1 + 1, 0, none⟩), .pointer (some ⟨S + 1 + 1 + 1, 0, none⟩), undef, u7, .int .i64 y.1, y.2, undef, undef, .pointer (some ⟨S, 1, none⟩), .string s, .agg #[.string s, .int .i64 0, .nilIface], .slice ua k uc, .int .i64 k, .int .i64 k, .bool false, u19, u20, u21, u22, u23, u24, u25, u26, u27, u28, u29, u30, .func (.func 87) #[] #[.pointer (some ⟨wl.heap.size, 0, none⟩)], .int .i64 y.1, y.2, undef, undef, undef, undef, undef, undef, undef, undef, undef, undef, undef, undef, undef, undef, undef, undef, undef, undef, undef, undef, undef, undef, undef, undef, undef], defers := [] }) ?assign ?body ?done
      case assign =>
        intro ll y W K hK
        gi_wp2
        exact hK
      case body =>
        rintro ll h0 ⟨code, pv⟩ h1 W hR hh
        obtain ⟨es, o, pv0, px⟩ := h0
        obtain ⟨rfl, y0, y1, hpx, hb, rfl⟩ := hR
        simp only at y0 y1 hpx hb
        have hpd : W.ownsRow (S + 4) 3 1 pv px.length (px.flatMap encI) := hh.pd
        obtain ⟨pa, pc, rfl⟩ := own_form hpd
        obtain ⟨m, hm⟩ : ∃ m, m = px.length := ⟨_, rfl⟩
        rw [← hm] at hb hh ⊢
        have HM : Hid (m = px.length ∧ es.length + m ≤ s.size ∧ ∀ y ∈ px, 0 ≤ y ∧ y ≤ 16383) := ⟨hm, hb, hpx⟩
        have HH : Hid (GI w S l s (xs.map (fun x => (l, x))) (some wl.heap.size) ⟨es, o, .slice pa m pc, px⟩ W) := hh
        have hml : m ≤ 1048576 := by have := HSZ.out; omega
        have hp : 1 ≤ (6 : Nat) - 1 - 1 := by omega
        clear hb hh hpd hm hpx
        gi_wp2_with fail
        gi_loopw [36] (fun q wr => ∃ j : Nat, j ≤ m ∧ q = .int .i64 j ∧ GI w S l s (xs.map (fun x => (l, x))) (some wl.heap.size) ⟨es ++ rowE l code (px.take j), o, .slice pa m pc, px⟩ wr ∧ KeepsOthers W wr) (fun q _ => m - (intOf q).toNat)
        case atStart => exact ⟨0, by omega, rfl, by simpa [rowE] using HH.out, Nat.le_refl _, fun _ _ h _ => h⟩
        case round =>
          obtain ⟨j, hj, rfl, hi, hko⟩ := hrel
          by_cases hlt : j < m
          · obtain ⟨y, hy⟩ : ∃ y, px[j]? = some y := ⟨_, List.getElem?_eq_getElem (by rw [← HM.out.1]; exact hlt)⟩
            rcases row_of_own encI_len (by decide) hi.pd with ⟨hz, _⟩ | ⟨_, b1, q0, q1, hv1, hb1, E1⟩
            · have hz : px = [] := hz
              rw [hz] at hy; cases hy
            obtain rfl : pa = some ⟨b1, q0, none⟩ := by injection hv1
            have e0 : wr.cell? ⟨b1, q0 + j, none⟩ = some (.int .i64 y) := cellI E1 hy
            have k0 : (0 : Int) ≤ (j : Int) := by omega
            have k1 : (j : Int) < (m : Int) := by omega
            have hyb := HM.out.2.2 y (List.mem_of_getElem? hy)
            by_cases hc : code < y
            · obtain ⟨v1, v2, hgb⟩ := hi.gb
              obtain ⟨hgb, hw1, hw2, hdd⟩ := hgb
              have c0 : wr.cell? ⟨S + 2, 1, none⟩ = some v2 := by simp [World.cell?, hgb]
              have c1 : wr.cell? ⟨S, 0, none⟩ = some (.int .i64 l) := by simp [World.cell?, hi.sg]
              have hz := hi.size
              have hle : (es ++ rowE l code (px.take j)).length ≤ 1048576 := by
                have := rowE_take_le l code px j
                have := HM.out.2.1
                have := HSZ.out
                rw [List.length_append]; omega
              have s0 : wr.drew.cell? ⟨S, 0, none⟩ = some (.int .i64 l) := c1
              have t0 : wr.drew.cell? ⟨S + 2, 1, none⟩ = some v2 := c0
              obtain ⟨W1, hW1⟩ : ∃ W1, W1 = wr.drew.alloc (.cells #[.int .i64 (code / 64), .int .i64 (code % 64)] 69) := ⟨_, rfl⟩
              obtain ⟨W2, hW2⟩ : ∃ W2, W2 = W1.alloc (.cells #[.int .i64 (y / 64), .int .i64 (y % 64)] 69) := ⟨_, rfl⟩
              obtain ⟨V, hV⟩ : ∃ V, V = W2.alloc (.cells #[.int .i64 l, .int .i64 (code / 64), .int .i64 (code % 64), .int .i64 (y / 64), .int .i64 (y % 64)] 72) := ⟨_, rfl⟩
              have s1 : W1.cell? ⟨S, 0, none⟩ = some (.int .i64 l) := by rw [hW1, World.cell?_alloc_some _ _ _ (by rw [s0]; rfl)]; exact s0
              have s2 : W2.cell? ⟨S, 0, none⟩ = some (.int .i64 l) := by rw [hW2, World.cell?_alloc_some _ _ _ (by rw [s1]; rfl)]; exact s1
              have s3 : V.cell? ⟨S, 0, none⟩ = some (.int .i64 l) := by rw [hV, World.cell?_alloc_some _ _ _ (by rw [s2]; rfl)]; exact s2
              have t1 : W1.cell? ⟨S + 2, 1, none⟩ = some v2 := by rw [hW1, World.cell?_alloc_some _ _ _ (by rw [t0]; rfl)]; exact t0
              have t2 : W2.cell? ⟨S + 2, 1, none⟩ = some v2 := by rw [hW2, World.cell?_alloc_some _ _ _ (by rw [t1]; rfl)]; exact t1
              have t3 : V.cell? ⟨S + 2, 1, none⟩ = some v2 := by rw [hV, World.cell?_alloc_some _ _ _ (by rw [t2]; rfl)]; exact t2
              have z1 : W1.heap.size = wr.heap.size + 1 := by rw [hW1]; simp
              have z2 : W2.heap.size = wr.heap.size + 2 := by rw [hW2]; simp [z1]
              have hbV : Below wr.heap.size wr V := by
                rw [hV, hW2, hW1]; exact ((((Below.refl _ _ : Below wr.heap.size wr wr).drew).alloc (Nat.le_refl _) _).alloc (by simp) _).alloc (by simp; omega) _
              have hnc : ∀ (i : Nat) (u : Value), (encEdge (l, code / 64, code % 64, y / 64, y % 64))[i]? = some u → V.cell? ((⟨W2.heap.size, 0, none⟩ : Addr).add i) = some u := by
                rw [hV]
                exact new_cells W2 (encEdge (l, code / 64, code % 64, y / 64, y % 64)) (t := 72)
              obtain ⟨v', w3, hrun, hown', hgrow, _, hat⟩ := run_append_own_at (P := Tryz.prog) V (S + 4) 30 30 72 iE _ 5 40 Tryz.underlying30 jE zE0 zE1 zE2 rfl (by decide) v2 _ _ (own_keep hw2 hbV) ⟨W2.heap.size, 0, none⟩ 1 1 (encEdge (l, code / 64, code % 64, y / 64, y % 64)) rfl hnc (fun u hu => by simp [encEdge] at hu; rcases hu with rfl | rfl | rfl | rfl | rfl <;> rfl) (by unfold maxLen; simp only; omega) (by simp only; omega) (by have := hbV.size; omega)
              obtain ⟨⟨f1, f2⟩, hfin, hko2⟩ := hi.appE hgb hbV hgrow hown' hat
              obtain ⟨g', cap', rfl⟩ := ownsRow_succ hown'
              have hgS := hi.sg
              have s4 : w3.cell? ⟨S, 0, none⟩ = some (.int .i64 l) := by
                have e : w3.heap[S]? = wr.heap[S]? := (hgrow.block S (by have := hbV.size; omega) (fun e => by have := (hw2.lt S e.symm).1; omega)).trans (hbV.block S (by omega))
                rw [World.cell?_of_block (a := ⟨S, 0, none⟩) e]; exact c1
              have s5 : (w3.setCell ⟨S + 2, 1, none⟩ (.slice (some ⟨g', 0, none⟩) ((es ++ rowE l code (px.take j)).length + 1) cap')).cell? ⟨S, 0, none⟩ = some (.int .i64 l) := by
                rw [World.cell?_setCell_far _ _ _ _ (by simp)]; exact s4
              have HFIN : Hid (GI w S l s (xs.map (fun x => (l, x))) (some wl.heap.size) ⟨es ++ rowE l code (px.take (j + 1)), o, .slice (some ⟨b1, q0, none⟩) m pc, px⟩ (w3.setCell ⟨S + 2, 1, none⟩ (.slice (some ⟨g', 0, none⟩) ((es ++ rowE l code (px.take j)).length + 1) cap')) ∧ KeepsOthers W (w3.setCell ⟨S + 2, 1, none⟩ (.slice (some ⟨g', 0, none⟩) ((es ++ rowE l code (px.take j)).length + 1) cap'))) := by
                refine ⟨?_, hko.trans hko2⟩
                rw [rowE_step hy, if_pos hc, ← List.append_assoc]
                exact hfin
              have HW1 : Hid (W1 = wr.drew.alloc (.cells #[.int .i64 (code / 64), .int .i64 (code % 64)] 69)) := hW1
              have HW2 : Hid (W2 = W1.alloc (.cells #[.int .i64 (y / 64), .int .i64 (y % 64)] 69)) := hW2
              have HW3 : Hid (V = W2.alloc (.cells #[.int .i64 l, .int .i64 (code / 64), .int .i64 (code % 64), .int .i64 (y / 64), .int .i64 (y % 64)] 72)) := hV
              obtain ⟨q, hq⟩ : ∃ q, q = (es ++ rowE l code (px.take j)).length + 1 := ⟨_, rfl⟩
              rw [← hq] at hrun s5 HFIN
              clear hv1 E1 hown' hgrow hat hfin hko2 hnc hbV hgb hw1 hw2 hdd hgS hV hW1 hW2 z1 z2 hi hq
              gi_wp2
              refine region_round (S := fun w' => w'.cell? ⟨S, 0, none⟩ = some (.int .i64 l)) hmx rfl s0 (fun _ => ?_)
              refine takeH 0 (.pointer (some ⟨S + 1 + 1, 1, none⟩)) rfl (by kernel_rfl) (by kernel_rfl) (by kernel_rfl) (Or.inl ⟨by rfl, fun w' hS' => by go_simp⟩) s0 ?_
              simp only [Act.put, List.setIfInBounds_toArray]
              refine takeH 2 (.pointer (some ⟨S, 0, none⟩)) rfl (by kernel_rfl) (by kernel_rfl) (by kernel_rfl) (Or.inl ⟨by rfl, fun w' hS' => by go_simp⟩) s0 ?_
              simp only [Act.put]
              refine takeH 4 (.int .i64 code) rfl (by kernel_rfl) (by kernel_rfl) (by kernel_rfl) (Or.inl ⟨by rfl, fun w' hS' => by go_simp⟩) s0 ?_
              simp only [Act.put]
              refine takeH 6 (.int .i64 y) rfl (by kernel_rfl) (by kernel_rfl) (by kernel_rfl) (Or.inl ⟨by rfl, fun w' hS' => by go_simp⟩) s0 ?_
              simp only [Act.put]
              refine takeH 3 (.int .i64 l) rfl (by kernel_rfl) (by kernel_rfl) (by kernel_rfl) (Or.inl ⟨by rfl, fun w' hS' => by go_simp⟩) s0 ?_
              simp only [Act.put]
              refine wpAnyH_ready (rs := [1, 5]) (by kernel_rfl) (by simp) ?_
              refine AllReadyH.cons rfl (fun K hK => ?_) ?_
              · go_simp
                refine hK.out _ _ s0 (fun _ => ?_)
                clear hK K
                refine wpAnyH_ready (rs := [5]) (by kernel_rfl) (by simp) ?_
                refine AllReadyH.cons rfl (fun K hK => ?_) AllReadyH.nil
                go_simp
                refine (nodeAt code _ y0 y1).mono ?_
                rintro e wq ⟨rfl, hwq⟩
                obtain rfl : W1 = wq := HW1.out.trans hwq.symm
                clear hwq
                try simp only []
                refine hK.out _ _ s1 (fun _ => ?_)
                clear hK K
                refine wpAnyH_ready (rs := [7]) (by kernel_rfl) (by simp) ?_
                refine AllReadyH.cons rfl (fun K hK => ?_) AllReadyH.nil
                go_simp
                refine (nodeAt y _ hyb.1 hyb.2).mono ?_
                rintro e wq ⟨rfl, hwq⟩
                obtain rfl : W2 = wq := HW2.out.trans hwq.symm
                clear hwq
                try simp only []
                refine hK.out _ _ s2 (fun _ => ?_)
                clear hK K
                refine takeH 8 (.agg #[.int .i64 l, .int .i64 (code / 64), .int .i64 (code % 64), .int .i64 (y / 64), .int .i64 (y % 64)]) rfl (by kernel_rfl) (by kernel_rfl) (by kernel_rfl) (Or.inl ⟨by rfl, fun w' hS' => by go_simp⟩) s2 ?_
                simp only [Act.put, List.setIfInBounds_toArray]
                refine wpAnyH_ready (rs := [9]) (by kernel_rfl) (by simp) ?_
                refine AllReadyH.cons rfl (fun K hK => ?_) AllReadyH.nil
                go_simp
                rw [← HW3.out]
                refine hK.out _ _ s3 (fun _ => ?_)
                clear hK K
                refine wpAnyH_ready (rs := [10]) (by kernel_rfl) (by simp) ?_
                refine AllReadyH.cons rfl (fun K hK => ?_) AllReadyH.nil
                rw [if_pos (by rfl)]
                refine Lib.wp_append_run _ _ _ _ _ rfl v2 (.slice (some ⟨W2.heap.size, 0, none⟩) 1 1) rfl rfl _ w3 hrun ?_
                refine hK.out _ _ s4 (fun _ => ?_)
                clear hK K
                simp only [Act.put, List.setIfInBounds_toArray]
                refine takeH 11 (.pointer (some ⟨S + 1 + 1, 1, none⟩)) rfl (by kernel_rfl) (by kernel_rfl) (by kernel_rfl) (Or.inl ⟨by rfl, fun w' hS' => by go_simp⟩) s4 ?_
                simp only [Act.put]
                refine wpAnyH_ready (rs := [12]) (by kernel_rfl) (by simp) ?_
                refine AllReadyH.cons rfl (fun K hK => ?_) AllReadyH.nil
                go_simp
                refine hK.out _ _ s5 (fun _ => ?_)
                clear hK K
                refine wpAnyH_done (by kernel_rfl) ?_ _
                refine ⟨rfl, ?_⟩
                gi_wp2
                go_roundw
                case rel => exact ⟨j + 1, by omega, by go_num, HFIN.out⟩
                case measure => simp [intOf]; omega
              refine AllReadyH.cons rfl (fun K hK => ?_) AllReadyH.nil
              go_simp
              refine (nodeAt code _ y0 y1).mono ?_
              rintro e wq ⟨rfl, hwq⟩
              obtain rfl : W1 = wq := HW1.out.trans hwq.symm
              clear hwq
              try simp only []
              refine hK.out _ _ s1 (fun _ => ?_)
              clear hK K
              refine wpAnyH_ready (rs := [1, 7]) (by kernel_rfl) (by simp) ?_
              refine AllReadyH.cons rfl (fun K hK => ?_) ?_
              · go_simp
                refine hK.out _ _ s1 (fun _ => ?_)
                clear hK K
                refine wpAnyH_ready (rs := [7]) (by kernel_rfl) (by simp) ?_
                refine AllReadyH.cons rfl (fun K hK => ?_) AllReadyH.nil
                go_simp
                refine (nodeAt y _ hyb.1 hyb.2).mono ?_
                rintro e wq ⟨rfl, hwq⟩
                obtain rfl : W2 = wq := HW2.out.trans hwq.symm
                clear hwq
                try simp only []
                refine hK.out _ _ s2 (fun _ => ?_)
                clear hK K
                refine takeH 8 (.agg #[.int .i64 l, .int .i64 (code / 64), .int .i64 (code % 64), .int .i64 (y / 64), .int .i64 (y % 64)]) rfl (by kernel_rfl) (by kernel_rfl) (by kernel_rfl) (Or.inl ⟨by rfl, fun w' hS' => by go_simp⟩) s2 ?_
                simp only [Act.put, List.setIfInBounds_toArray]
                refine wpAnyH_ready (rs := [9]) (by kernel_rfl) (by simp) ?_
                refine AllReadyH.cons rfl (fun K hK => ?_) AllReadyH.nil
                go_simp
                rw [← HW3.out]
                refine hK.out _ _ s3 (fun _ => ?_)
                clear hK K
                refine wpAnyH_ready (rs := [10]) (by kernel_rfl) (by simp) ?_
                refine AllReadyH.cons rfl (fun K hK => ?_) AllReadyH.nil
                rw [if_pos (by rfl)]
                refine Lib.wp_append_run _ _ _ _ _ rfl v2 (.slice (some ⟨W2.heap.size, 0, none⟩) 1 1) rfl rfl _ w3 hrun ?_
                refine hK.out _ _ s4 (fun _ => ?_)
                clear hK K
                simp only [Act.put, List.setIfInBounds_toArray]
                refine takeH 11 (.pointer (some ⟨S + 1 + 1, 1, none⟩)) rfl (by kernel_rfl) (by kernel_rfl) (by kernel_rfl) (Or.inl ⟨by rfl, fun w' hS' => by go_simp⟩) s4 ?_
                simp only [Act.put]
                refine wpAnyH_ready (rs := [12]) (by kernel_rfl) (by simp) ?_
                refine AllReadyH.cons rfl (fun K hK => ?_) AllReadyH.nil
                go_simp
                refine hK.out _ _ s5 (fun _ => ?_)
                clear hK K
                refine wpAnyH_done (by kernel_rfl) ?_ _
                refine ⟨rfl, ?_⟩
                gi_wp2
                go_roundw
                case rel => exact ⟨j + 1, by omega, by go_num, HFIN.out⟩
                case measure => simp [intOf]; omega
              refine AllReadyH.cons rfl (fun K hK => ?_) AllReadyH.nil
              go_simp
              refine (nodeAt y _ hyb.1 hyb.2).mono ?_
              rintro e wq ⟨rfl, hwq⟩
              obtain rfl : W2 = wq := HW2.out.trans hwq.symm
              clear hwq
              try simp only []
              refine hK.out _ _ s2 (fun _ => ?_)
              clear hK K
              refine takeH 8 (.agg #[.int .i64 l, .int .i64 (code / 64), .int .i64 (code % 64), .int .i64 (y / 64), .int .i64 (y % 64)]) rfl (by kernel_rfl) (by kernel_rfl) (by kernel_rfl) (Or.inl ⟨by rfl, fun w' hS' => by go_simp⟩) s2 ?_
              simp only [Act.put, List.setIfInBounds_toArray]
              refine wpAnyH_ready (rs := [1, 9]) (by kernel_rfl) (by simp) ?_
              refine AllReadyH.cons rfl (fun K hK => ?_) ?_
              · go_simp
                refine hK.out _ _ s2 (fun _ => ?_)
                clear hK K
                refine wpAnyH_ready (rs := [9]) (by kernel_rfl) (by simp) ?_
                refine AllReadyH.cons rfl (fun K hK => ?_) AllReadyH.nil
                go_simp
                rw [← HW3.out]
                refine hK.out _ _ s3 (fun _ => ?_)
                clear hK K
                refine wpAnyH_ready (rs := [10]) (by kernel_rfl) (by simp) ?_
                refine AllReadyH.cons rfl (fun K hK => ?_) AllReadyH.nil
                rw [if_pos (by rfl)]
                refine Lib.wp_append_run _ _ _ _ _ rfl v2 (.slice (some ⟨W2.heap.size, 0, none⟩) 1 1) rfl rfl _ w3 hrun ?_
                refine hK.out _ _ s4 (fun _ => ?_)
                clear hK K
                simp only [Act.put, List.setIfInBounds_toArray]
                refine takeH 11 (.pointer (some ⟨S + 1 + 1, 1, none⟩)) rfl (by kernel_rfl) (by kernel_rfl) (by kernel_rfl) (Or.inl ⟨by rfl, fun w' hS' => by go_simp⟩) s4 ?_
                simp only [Act.put]
                refine wpAnyH_ready (rs := [12]) (by kernel_rfl) (by simp) ?_
                refine AllReadyH.cons rfl (fun K hK => ?_) AllReadyH.nil
                go_simp
                refine hK.out _ _ s5 (fun _ => ?_)
                clear hK K
                refine wpAnyH_done (by kernel_rfl) ?_ _
                refine ⟨rfl, ?_⟩
                gi_wp2
                go_roundw
                case rel => exact ⟨j + 1, by omega, by go_num, HFIN.out⟩
                case measure => simp [intOf]; omega
              refine AllReadyH.cons rfl (fun K hK => ?_) AllReadyH.nil
              go_simp
              rw [← HW3.out]
              refine hK.out _ _ s3 (fun _ => ?_)
              clear hK K
              refine wpAnyH_ready (rs := [1]) (by kernel_rfl) (by simp) ?_
              refine AllReadyH.cons rfl (fun K hK => ?_) AllReadyH.nil
              go_simp
              refine hK.out _ _ s3 (fun _ => ?_)
              clear hK K
              refine wpAnyH_ready (rs := [10]) (by kernel_rfl) (by simp) ?_
              refine AllReadyH.cons rfl (fun K hK => ?_) AllReadyH.nil
              rw [if_pos (by rfl)]
              refine Lib.wp_append_run _ _ _ _ _ rfl v2 (.slice (some ⟨W2.heap.size, 0, none⟩) 1 1) rfl rfl _ w3 hrun ?_
              refine hK.out _ _ s4 (fun _ => ?_)
              clear hK K
              simp only [Act.put, List.setIfInBounds_toArray]
              refine takeH 11 (.pointer (some ⟨S + 1 + 1, 1, none⟩)) rfl (by kernel_rfl) (by kernel_rfl) (by kernel_rfl) (Or.inl ⟨by rfl, fun w' hS' => by go_simp⟩) s4 ?_
              simp only [Act.put]
              refine wpAnyH_ready (rs := [12]) (by kernel_rfl) (by simp) ?_
              refine AllReadyH.cons rfl (fun K hK => ?_) AllReadyH.nil
              go_simp
              refine hK.out _ _ s5 (fun _ => ?_)
              clear hK K
              refine wpAnyH_done (by kernel_rfl) ?_ _
              refine ⟨rfl, ?_⟩
              gi_wp2
              go_roundw
              case rel => exact ⟨j + 1, by omega, by go_num, HFIN.out⟩
              case measure => simp [intOf]; omega
            · have HFIN : Hid (GI w S l s (xs.map (fun x => (l, x))) (some wl.heap.size) ⟨es ++ rowE l code (px.take (j + 1)), o, .slice (some ⟨b1, q0, none⟩) m pc, px⟩ wr ∧ KeepsOthers W wr) := by
                refine ⟨?_, hko⟩
                rw [rowE_step hy, if_neg hc]
                exact hi
              clear hi hko hv1 E1
              gi_wp2
              go_roundw
              case rel => exact ⟨j + 1, by omega, by go_num, HFIN.out⟩
              case measure => simp [intOf]; omega
          · have hjm : j = m := by omega
            subst hjm
            have HFIN : Hid (GI w S l s (xs.map (fun x => (l, x))) (some wl.heap.size) ⟨es ++ rowE l code px, o, .slice pa j pc, px⟩ wr ∧ KeepsOthers W wr) := by
              refine ⟨?_, hko⟩
              have := hi
              rw [List.take_of_length_le (by rw [← HM.out.1]; exact Nat.le_refl _)] at this
              exact this
            clear hi hko
            gi_wp2
            exact ⟨HFIN.out.2.from _, HFIN.out.1⟩
      case done =>
        rintro D h0 W hD hSS hh hK
        have hD1 : S + 4 ≤ D := by have := hbr.out; omega
        have HLK : Hid (match gfO s l with
          | none => h0.o = none
          | some (n, m, k) => h0.o = some k ∧ xs.map (fun x => (l, x)) = n ∧ h0.es = m) := gf_link HRS.out hSS
        obtain ⟨ar, er, hrd, her⟩ : ∃ ar er, RdrAt W (S + 3) s ar er ∧ (match h0.o with | none => ∃ t v, er = .iface t v | some _ => er = .nilIface) := by
          have := hh.rd
          cases ho : h0.o with
          | none => rw [ho] at this; obtain ⟨a, t, v, h⟩ := this; exact ⟨a, _, h, t, v, rfl⟩
          | some a => rw [ho] at this; exact ⟨a, _, this, rfl⟩
        obtain ⟨v1, v2, hgb, hw1, hw2, _⟩ := hh.gb
        have g0 : W.cell? ⟨S + 2, 0, none⟩ = some v1 := by simp [World.cell?, hgb]
        have g1 : W.cell? ⟨S + 2, 1, none⟩ = some v2 := by simp [World.cell?, hgb]
        have g2 : W.cell? ⟨S + 3, 2, none⟩ = some er := hrd.c2
        have g3 : W.cell? ⟨S + 1, 0, none⟩ = some (.slice none 0 0) := by simp [World.cell?, hh.rs]
        have g4 : W.cell? ⟨S + 1, 1, none⟩ = some (.slice none 0 0) := by simp [World.cell?, hh.rs]
        have g5 : W.frozen? ⟨S + 1, 0, none⟩ = false := by simp [World.frozen?, hh.rs]
        have g6 : W.frozen? ⟨S + 1, 1, none⟩ = false := by simp [World.frozen?, hh.rs]
        obtain ⟨xa1, xc1, rfl⟩ := own_form hw1
        obtain ⟨xa2, xc2, rfl⟩ := own_form hw2
        have HW : Hid (GI w S l s (xs.map (fun x => (l, x))) (some wl.heap.size) h0 W) := hh
        have HOW : Hid (W.ownsRow (S + 4) 69 2 (.slice xa1 (xs.map (fun x => (l, x))).length xc1) (xs.map (fun x => (l, x))).length ((xs.map (fun x => (l, x))).flatMap encNode) ∧ W.ownsRow (S + 4) 72 5 (.slice xa2 h0.es.length xc2) h0.es.length (h0.es.flatMap encEdge)) := ⟨hw1, hw2⟩
        clear hgb hw1 hw2 hh hSS hrd
        go_wp2_with fail
        go_region
        all_goals go_wp2_with fail
        have hlD : D < W.heap.size := (Array.getElem?_eq_some_iff.1 hK).1
        obtain ⟨F, hF⟩ : ∃ F, F = ((W.setCell ⟨S + 1, 0, none⟩ (.slice xa1 (xs.map (fun x => (l, x))).length xc1)).setCell ⟨S + 1, 1, none⟩ (.slice xa2 h0.es.length xc2)).drew := ⟨_, rfl⟩
        have hFb : ∀ k ob, k ≠ S + 1 → W.heap[k]? = some ob → F.heap[k]? = some ob := fun k ob hk e => by
          rw [hF]
          show ((W.setCell ⟨S + 1, 0, none⟩ _).setCell ⟨S + 1, 1, none⟩ _).heap[k]? = _
          rw [Below.heap_setCell _ _ _ _ (fun e => hk (by simpa using e)), Below.heap_setCell _ _ _ _ (fun e => hk (by simpa using e))]; exact e
        have hFr : F.heap[S + 1]? = some (.cells #[.slice xa1 (xs.map (fun x => (l, x))).length xc1, .slice xa2 h0.es.length xc2] 32 (0, 0)) := by
          rw [hF]
          have h1 := set_blk (i := 0) (.slice xa1 (xs.map (fun x => (l, x))).length xc1) HW.out.rs
          have h2 := set_blk (i := 1) (.slice xa2 h0.es.length xc2) h1
          show ((W.setCell ⟨S + 1, 0, none⟩ _).setCell ⟨S + 1, 1, none⟩ _).heap[S + 1]? = _
          simpa using h2
        have hFW : Below S w F := by
          rw [hF]
          have a1 := HW.out.fr.grown (grown_setN W (S + 1) 0 (.slice xa1 (xs.map (fun x => (l, x))).length xc1)) (by omega) (fun k hk => by cases hk; omega)
          have a2 := a1.grown (grown_setN _ (S + 1) 1 (.slice xa2 h0.es.length xc2)) (by simp [World.setCell]; omega) (fun k hk => by cases hk; omega)
          exact belN a2 1
        have hKF : F.heap[D]? = some (.deferred (some [])) := hFb D _ (by omega) hK
        rw [List.length_map] at hF
        rw [← hF]
        refine ⟨by simp, .inl ⟨_, _, rfl, run_takeDeferred hKF, ?_⟩⟩
        obtain ⟨G, hG⟩ : ∃ G, G = F.putObj D (.deferred none) := ⟨_, rfl⟩
        rw [← hG]
        have hGr : G.heap[S + 1]? = some (.cells #[.slice xa1 (xs.map (fun x => (l, x))).length xc1, .slice xa2 h0.es.length xc2] 32 (0, 0)) := by rw [hG, World.putObj_heap_other (by omega)]; exact hFr
        have q0 : G.cell? ⟨S + 1, 0, none⟩ = some (.slice xa1 xs.length xc1) := by rw [cell_block hGr]; simp
        have q1 : G.cell? ⟨S + 1, 1, none⟩ = some (.slice xa2 h0.es.length xc2) := by rw [cell_block hGr]; simp
        have hGW : Below S w G := by rw [hG]; exact hFW.grown (grownBy_putObj' F D _) (by have := hFW.size; have := HS.out; omega) (fun k hk => by cases hk; omega)
        have hGb : ∀ k c t f, k ≠ S + 1 → W.heap[k]? = some (Obj.cells c t f) → G.heap[k]? = some (Obj.cells c t f) := fun k c t f hk e => by
          rw [hG, World.putObj_heap_other (fun e2 => by subst e2; rw [hK] at e; cases e)]
          exact hFb k _ hk e
        have ow1 : G.ownsRow S 69 2 (.slice xa1 xs.length xc1) (xs.map (fun x => (l, x))).length ((xs.map (fun x => (l, x))).flatMap encNode) := by
          have := own_mono (own_blk HOW.out.1 (fun k c t f hk e => hGb k c t f (by have := (HOW.out.1.lt k hk).1; omega) e)) (by omega : S ≤ S + 4)
          rw [List.length_map] at this ⊢
          exact this
        have ow2 : G.ownsRow S 72 5 (.slice xa2 h0.es.length xc2) h0.es.length (h0.es.flatMap encEdge) := own_mono (own_blk HOW.out.2 (fun k c t f hk e => hGb k c t f (by have := (HOW.out.2.lt k hk).1; omega) e)) (by omega : S ≤ S + 4)
        refine ⟨.tuple #[.agg #[.slice xa1 xs.length xc1, .slice xa2 h0.es.length xc2], er], ?_, _, _, _, xs.map (fun x => (l, x)), h0.es, rfl, ?_, ?_, ?_, ?_⟩
        · simp [results, Tryz.results36, go_sem, q0, q1]
        · rw [← HS.out]; exact hGW
        · rw [← HS.out]; exact ow1
        · rw [← HS.out]; exact ow2
        · have hlk := HLK.out
          cases hg : gfO s l with
          | none =>
            rw [hg] at hlk
            simp only at hlk ⊢
            rw [hlk] at her
            exact her
          | some z =>
            obtain ⟨n, m, kk⟩ := z
            rw [hg] at hlk
            simp only at hlk ⊢
            rw [hlk.1] at her
            exact ⟨her, hlk.2.1, hlk.2.2⟩
end Go.Proofs.YtlnpbfeihjfnjabGreatDoor.Lab

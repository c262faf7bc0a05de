/-
  Two additions, one behind the other, either way; in plain words.
-/
import Derived.Test.YtkhfbaggkmeahaaGreatDoorGdl
namespace Go.Proofs.YtkhfbaggkmeahaaGreatDoor.Lab
open Go.RowKit
set_option linter.unusedVariables false
section
variable {ns : List Nd} {es : List Ed} {k nl nn l al an bl bn k' nl' nn' l' al' an' bl' bn' : Int}
theorem insN_swap {x y : Nd} (h1 : Asc (insN y (insN x ns))) (h2 : Asc (insN x (insN y ns))) : insN y (insN x ns) = insN x (insN y ns) := by
  refine asc_ext h1 h2 (fun z => ?_)
  rw [mem_insN, mem_insN, mem_insN, mem_insN]
  exact ⟨fun h => by rcases h with h | h | h <;> simp [h], fun h => by rcases h with h | h | h <;> simp [h]⟩
theorem insE_swap {x y : Ed} (h1 : AscE (insE y (insE x es))) (h2 : AscE (insE x (insE y es))) : insE y (insE x es) = insE x (insE y es) := by
  refine ascE_ext h1 h2 (fun z => ?_)
  rw [mem_insE, mem_insE, mem_insE, mem_insE]
  exact ⟨fun h => by rcases h with h | h | h <;> simp [h], fun h => by rcases h with h | h | h <;> simp [h]⟩
theorem alone_zeroE (h : aloneN nl nn l al an bl bn = true) : l = 0 ∧ al = 0 ∧ an = 0 ∧ bl = 0 ∧ bn = 0 := by
  unfold aloneN eqB at h; simp at h; exact ⟨h.2.1, h.2.2.1, h.2.2.2.1, h.2.2.2.2.1, h.2.2.2.2.2⟩
theorem alone_zeroN (h : aloneE nl nn l al an bl bn = true) : nl = 0 ∧ nn = 0 := by
  unfold aloneE eqB at h; simp at h; exact h.2
/-- How it ends the other way round. -/
def SwapIs (a b : Int × Int × Int × Int × Int × Int × Int × Int) (e f : Int) : Prop := (e = 0 ∧ f = 0) ∨ (e = 2 ∧ f = 2 ∧ a = b) ∨ (a ≠ b ∧ (e = 4 ∨ f = 4))
theorem gd_swap (hg : gokB ns es = true) (h : gdC ns es k nl nn l al an bl bn = 0) (h' : gdC ns es k' nl' nn' l' al' an' bl' bn' = 0) (hk : k ≤ 2) (hk' : k' ≤ 2) :
    SwapIs (k, nl, nn, l, al, an, bl, bn) (k', nl', nn', l', al', an', bl', bn') (gdC (gdN ns es k nl nn l al an bl bn) (gdE ns es k nl nn l al an bl bn) k' nl' nn' l' al' an' bl' bn') (gdC (gdN ns es k' nl' nn' l' al' an' bl' bn') (gdE ns es k' nl' nn' l' al' an' bl' bn') k nl nn l al an bl bn)
    ∧ (gdC (gdN ns es k nl nn l al an bl bn) (gdE ns es k nl nn l al an bl bn) k' nl' nn' l' al' an' bl' bn' = 0 → gdC (gdN ns es k' nl' nn' l' al' an' bl' bn') (gdE ns es k' nl' nn' l' al' an' bl' bn') k nl nn l al an bl bn = 0 →
      gdN (gdN ns es k nl nn l al an bl bn) (gdE ns es k nl nn l al an bl bn) k' nl' nn' l' al' an' bl' bn' = gdN (gdN ns es k' nl' nn' l' al' an' bl' bn') (gdE ns es k' nl' nn' l' al' an' bl' bn') k nl nn l al an bl bn
      ∧ gdE (gdN ns es k nl nn l al an bl bn) (gdE ns es k nl nn l al an bl bn) k' nl' nn' l' al' an' bl' bn' = gdE (gdN ns es k' nl' nn' l' al' an' bl' bn') (gdE ns es k' nl' nn' l' al' an' bl' bn') k nl nn l al an bl bn) := by
  have hx := gd_gok (k := k) (nl := nl) (nn := nn) (l := l) (al := al) (an := an) (bl := bl) (bn := bn) hg
  have hy := gd_gok (k := k') (nl := nl') (nn := nn') (l := l') (al := al') (an := an') (bl := bl') (bn := bn') hg
  have f1 := gd_fine hg h
  have f2 := gd_fine hg h'
  have G := gokB_true.1 hg
  generalize gdN ns es k nl nn l al an bl bn = ms at *
  generalize gdE ns es k nl nn l al an bl bn = fs at *
  generalize gdN ns es k' nl' nn' l' al' an' bl' bn' = ms' at *
  generalize gdE ns es k' nl' nn' l' al' an' bl' bn' = fs' at *
  have X := gokB_true.1 hx
  have Y := gokB_true.1 hy
  have cx : ∀ {p : Int}, gdC ms fs k' nl' nn' l' al' an' bl' bn' = p ↔ doC ms fs k' nl' nn' l' al' an' bl' bn' = p := fun {p} => by rw [(gd_ok hx).2.2]
  rw [(gd_ok hx).1, (gd_ok hx).2.1, (gd_ok hx).2.2, (gd_ok hy).1, (gd_ok hy).2.1, (gd_ok hy).2.2]
  cases f1 with
  | put e1 ha hm hc =>
    cases f2 with
    | put e2 ha' hm' hc' =>
      subst e1
      subst e2
      by_cases hxy : (nl', nn') = (nl, nn)
      · obtain ⟨rfl, rfl⟩ := Prod.mk.inj hxy
        obtain ⟨rfl, rfl, rfl, rfl, rfl⟩ := alone_zeroE ha
        obtain ⟨rfl, rfl, rfl, rfl, rfl⟩ := alone_zeroE ha'
        have c1 : doC (insN (nl', nn') ns) es 1 nl' nn' 0 0 0 0 0 = 2 := by rw [doC_of (opI_node (.inl rfl) ha)]; simp [endsI, mem_insN]
        rw [c1]
        exact ⟨.inr (.inl ⟨rfl, rfl, rfl⟩), fun h => by cases h⟩
      · have n1 : ¬ (nl', nn') ∈ insN (nl, nn) ns := fun h => (mem_insN.1 h).elim hxy hm'
        have n2 : ¬ (nl, nn) ∈ insN (nl', nn') ns := fun h => (mem_insN.1 h).elim (fun e => hxy e.symm) hm
        have d1 := doC_of (ns := insN (nl, nn) ns) (es := es) (opI_node (k := 1) (.inl rfl) ha')
        have d2 := doC_of (ns := insN (nl', nn') ns) (es := es) (opI_node (k := 1) (.inl rfl) ha)
        have hne : ((1 : Int), nl, nn, l, al, an, bl, bn) ≠ (1, nl', nn', l', al', an', bl', bn') := fun e => by
          simp only [Prod.mk.injEq] at e; exact hxy (by rw [e.2.1, e.2.2.1])
        by_cases q1 : cntNode nl' (insN (nl, nn) ns) < 5
        · by_cases q2 : cntNode nl (insN (nl', nn') ns) < 5
          · have p1 := fine_do X (.put rfl ha' n1 q1)
            have p2 := fine_do Y (.put rfl ha n2 q2)
            refine ⟨.inl ⟨p1.1, p2.1⟩, fun _ _ => ?_⟩
            rw [p1.2.1, p1.2.2, p2.2.1, p2.2.2]
            exact ⟨insN_swap (put_asc X n1) (put_asc Y n2), rfl⟩
          · have c2 : doC (insN (nl', nn') ns) es 1 nl nn l al an bl bn = 4 := by rw [d2]; have : 5 ≤ cntNode nl (insN (nl', nn') ns) := by omega
                                                                                  simp [endsI, n2, this]
            exact ⟨.inr (.inr ⟨hne, .inr c2⟩), fun _ e => by rw [c2] at e; cases e⟩
        · have c1 : doC (insN (nl, nn) ns) es 1 nl' nn' l' al' an' bl' bn' = 4 := by rw [d1]; have : 5 ≤ cntNode nl' (insN (nl, nn) ns) := by omega
                                                                                     simp [endsI, n1, this]
          exact ⟨.inr (.inr ⟨hne, .inl c1⟩), fun e => by rw [c1] at e; cases e⟩
    | join e2 ha' hm' hA' hB' hc' =>
      have p1 := fine_do X (.join e2 ha' hm' (mem_insN.2 (.inr hA')) (mem_insN.2 (.inr hB')) hc')
      have p2 := fine_do Y (.put e1 ha hm hc)
      refine ⟨.inl ⟨p1.1, p2.1⟩, fun _ _ => ?_⟩
      rw [p1.2.1, p1.2.2, p2.2.1, p2.2.2]
      exact ⟨rfl, rfl⟩
    | cut e2 ha' hm' => omega
    | gone e2 ha' hm' => omega
  | join e1 ha hm hA hB hc =>
    cases f2 with
    | put e2 ha' hm' hc' =>
      have p1 := fine_do X (.put e2 ha' hm' hc')
      have p2 := fine_do Y (.join e1 ha hm (mem_insN.2 (.inr hA)) (mem_insN.2 (.inr hB)) hc)
      refine ⟨.inl ⟨p1.1, p2.1⟩, fun _ _ => ?_⟩
      rw [p1.2.1, p1.2.2, p2.2.1, p2.2.2]
      exact ⟨rfl, rfl⟩
    | join e2 ha' hm' hA' hB' hc' =>
      subst e1
      subst e2
      by_cases hxy : (l', al', an', bl', bn') = (l, al, an, bl, bn)
      · simp only [Prod.mk.injEq] at hxy
        obtain ⟨rfl, rfl, rfl, rfl, rfl⟩ := hxy
        obtain ⟨rfl, rfl⟩ := alone_zeroN ha
        obtain ⟨rfl, rfl⟩ := alone_zeroN ha'
        have c1 : doC ns (insE (l', al', an', bl', bn') es) 2 0 0 l' al' an' bl' bn' = 2 := by rw [doC_of (opI_edge (.inl rfl) ha)]; simp [endsI, mem_insE]
        rw [c1]
        exact ⟨.inr (.inl ⟨rfl, rfl, rfl⟩), fun h => by cases h⟩
      · have n1 : ¬ (l', al', an', bl', bn') ∈ insE (l, al, an, bl, bn) es := fun h => (mem_insE.1 h).elim hxy hm'
        have n2 : ¬ (l, al, an, bl, bn) ∈ insE (l', al', an', bl', bn') es := fun h => (mem_insE.1 h).elim (fun e => hxy e.symm) hm
        have d1 := doC_of (ns := ns) (es := insE (l, al, an, bl, bn) es) (opI_edge (k := 2) (.inl rfl) ha')
        have d2 := doC_of (ns := ns) (es := insE (l', al', an', bl', bn') es) (opI_edge (k := 2) (.inl rfl) ha)
        have hne : ((2 : Int), nl, nn, l, al, an, bl, bn) ≠ (2, nl', nn', l', al', an', bl', bn') := fun e => by
          simp only [Prod.mk.injEq] at e; exact hxy (by rw [e.2.2.2.1, e.2.2.2.2.1, e.2.2.2.2.2.1, e.2.2.2.2.2.2.1, e.2.2.2.2.2.2.2])
        by_cases q1 : cntEdge l' (insE (l, al, an, bl, bn) es) < 7
        · by_cases q2 : cntEdge l (insE (l', al', an', bl', bn') es) < 7
          · have p1 := fine_do X (.join rfl ha' n1 hA' hB' q1)
            have p2 := fine_do Y (.join rfl ha n2 hA hB q2)
            refine ⟨.inl ⟨p1.1, p2.1⟩, fun _ _ => ?_⟩
            rw [p1.2.1, p1.2.2, p2.2.1, p2.2.2]
            exact ⟨rfl, insE_swap (join_asc X (alone_edge ha') n1) (join_asc Y (alone_edge ha) n2)⟩
          · have c2 : doC ns (insE (l', al', an', bl', bn') es) 2 nl nn l al an bl bn = 4 := by
              rw [d2]
              unfold endsI
              rw [if_neg (by decide), if_pos rfl, if_neg n2, if_neg (fun h => h ⟨hA, hB⟩), if_pos (by omega)]
            exact ⟨.inr (.inr ⟨hne, .inr c2⟩), fun _ e => by rw [c2] at e; cases e⟩
        · have c1 : doC ns (insE (l, al, an, bl, bn) es) 2 nl' nn' l' al' an' bl' bn' = 4 := by
            rw [d1]
            unfold endsI
            rw [if_neg (by decide), if_pos rfl, if_neg n1, if_neg (fun h => h ⟨hA', hB'⟩), if_pos (by omega)]
          exact ⟨.inr (.inr ⟨hne, .inl c1⟩), fun e => by rw [c1] at e; cases e⟩
    | cut e2 ha' hm' => omega
    | gone e2 ha' hm' => omega
  | cut e1 ha hm => omega
  | gone e1 ha hm => omega
end
theorem row_set_slice {α : Type} {s : Nat} {enc : α → List Value} (hi : ∀ x, ∀ u ∈ enc x, ∃ i, u = Value.int .i64 i) {w : World} {v : Value} {xs : List α} (h : RowAt s enc w v xs) {p : Addr} {a : Option Addr} {n c : Nat} (hp : w.cell? p = some (.slice a n c)) (u : Value) : RowAt s enc (w.setCell p u) v xs := by
  rcases h with h | ⟨h0, b, off, cap, hv, hlt, hc⟩
  · exact .inl h
  · refine .inr ⟨h0, b, off, cap, hv, by simpa using hlt, fun j x hx i y hy => ?_⟩
    have h1 := hc j x hx i y hy
    obtain ⟨t, rfl⟩ := hi x y (List.mem_of_getElem? hy)
    rw [World.cell?_setCell_other _ _ _ _ (fun e => by rw [e, h1] at hp; cases hp)]
    exact h1
theorem ints_node (x : Int × Int) : ∀ u ∈ encNode x, ∃ i, u = Value.int .i64 i := fun u hu => by
  simp [encNode] at hu
  rcases hu with rfl | rfl <;> exact ⟨_, rfl⟩
theorem ints_edge (x : Int × Int × Int × Int × Int) : ∀ u ∈ encEdge x, ∃ i, u = Value.int .i64 i := fun u hu => by
  simp [encEdge] at hu
  rcases hu with rfl | rfl | rfl | rfl | rfl <;> exact ⟨_, rfl⟩
theorem GrAt.sets {w : World} {u1 u2 : Value} {ns : List Nd} {es : List Ed} (h : GrAt w u1 u2 ns es) {p : Addr} {a : Option Addr} {n c : Nat} (hp : w.cell? p = some (.slice a n c)) (u : Value) : GrAt (w.setCell p u) u1 u2 ns es :=
  ⟨row_set_slice ints_node h.1 hp u, row_set_slice ints_edge h.2.1 hp u, h.2.2⟩
/-- A box that may be stored into. -/
def Thaw (w : World) (b : Nat) : Prop := b < w.heap.size ∧ ∀ o, w.frozen? ⟨b, o, none⟩ = false
theorem Thaw.new (w : World) (cs : Array Value) (t : TypeId) : Thaw (w.alloc (.cells cs t)) w.heap.size := ⟨by simp, fun o => by simp [go_sem]⟩
theorem Thaw.keep {w w' : World} {b : Nat} (h : Thaw w b) (hb : Below w.heap.size w w') : Thaw w' b := ⟨Nat.lt_of_lt_of_le h.1 hb.size, fun o => (Below.froz hb _ _ _ h.1).trans (h.2 o)⟩
theorem Thaw.sets {w : World} {b : Nat} (h : Thaw w b) {p : Addr} {a : Option Addr} {n c : Nat} (hp : w.cell? p = some (.slice a n c)) (u : Value) : Thaw (w.setCell p u) b := ⟨by simpa using h.1, fun o => by simp [h.2 o]⟩
end Go.Proofs.YtkhfbaggkmeahaaGreatDoor.Lab

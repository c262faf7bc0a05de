/-
  A store read by the specification: l4Read. (Its drawn region's walk was written by tools/mksrr.py.)
-/
import Derived.Test.YtlnpbfeihjfnjabGreatDoorQSsr
import Derived.Test.YtlnpbfeihjfnjabGreatDoorQMrk
namespace Go.Proofs.YtlnpbfeihjfnjabGreatDoor.Lab
open Go.RowKit
set_option linter.unusedVariables false
/-- A graph under way in a box, its nodes growing; the segment's box and the answer's behind it; the numbers at hand lie apart. -/
structure MI (w0 : World) (B : Nat) (v1 v2 : Value) (l : Int) (s : ByteArray) (ns : List Nd) (es : List Ed) (pv : Value) (px : List Int) (W : World) : Prop where
  sg : W.heap[w0.heap.size + 1]? = some (.cells #[.int .i64 l, .string s] 52 (0, 0))
  rs : W.heap[w0.heap.size + 2]? = some (.cells #[.slice none 0 0, .slice none 0 0] 32 (0, 0))
  gb : ∃ u1, W.heap[w0.heap.size]? = some (.cells #[u1, v2] 32 (0, 0)) ∧ OwnGraph W B u1 v2 ns es ∧ (u1.ownBlock = v1.ownBlock ∨ ∃ k, u1.ownBlock = some k ∧ w0.heap.size + 3 ≤ k) ∧ ∀ k, u1.ownBlock = some k → pv.ownBlock ≠ some k
  pd : W.ownsRow (w0.heap.size + 3) 3 1 pv px.length (px.flatMap encI)
  fr : w0.grownBy W v1.ownBlock
  vv : (∀ k, v1.ownBlock = some k → k < w0.heap.size) ∧ (∀ k, v2.ownBlock = some k → k < w0.heap.size)
section
variable {w0 W W' : World} {B : Nat} {v1 v2 pv : Value} {l : Int} {s : ByteArray} {ns : List Nd} {es : List Ed} {px : List Int}
theorem MI.size (hi : MI w0 B v1 v2 l s ns es pv px W) : w0.heap.size + 3 ≤ W.heap.size := by have := lt_of_block hi.rs; omega
/-- Another row at hand, newer than all. -/
theorem MI.rowed {u : Value} {xs : List Int} {b : Nat} (hi : MI w0 B v1 v2 l s ns es pv px W) (hb : Below W.heap.size W W') (hW : W.heap.size ≤ b) (hu : W'.ownsRow b 3 1 u xs.length (xs.flatMap encI)) : MI w0 B v1 v2 l s ns es u xs W' := by
  have hz := hi.size
  obtain ⟨u1, h1, h2, h3, h4⟩ := hi.gb
  exact ⟨(hb.block _ (by omega)).trans hi.sg, (hb.block _ (by omega)).trans hi.rs, ⟨u1, (hb.block _ (by omega)).trans h1, h2.keep hb, h3, fun k hk e => by have := (h2.1.lt k hk).2; have := (hu.lt k e).1; omega⟩, own_mono hu (by omega),
    ⟨hb.os.trans hi.fr.os, hb.tape.trans hi.fr.tape, hb.output.trans hi.fr.output, Nat.le_trans hi.fr.size hb.size, fun k hk hne => (hb.block k (by omega)).trans (hi.fr.block k hk hne)⟩, hi.vv⟩
theorem MI.appN {V w3 : World} {u1 v' : Value} {x : Nd} (hi : MI w0 B v1 v2 l s ns es pv px W) (hB : B ≤ w0.heap.size) (hgb : W.heap[w0.heap.size]? = some (.cells #[u1, v2] 32 (0, 0))) (hV : Below W.heap.size W V) (hg : V.grownBy w3 u1.ownBlock)
    (ho : w3.ownsRow B 69 2 v' (ns.length + 1) (ns.flatMap encNode ++ encNode x)) (hat : v'.ownBlock = u1.ownBlock ∨ v'.ownBlock = some V.heap.size) :
    (w3.cell? ⟨w0.heap.size, 0, none⟩ = some u1 ∧ w3.frozen? ⟨w0.heap.size, 0, none⟩ = false ∧ w3.heap[w0.heap.size + 1]? = some (.cells #[.int .i64 l, .string s] 52 (0, 0)) ∧ w3.ownsRow (w0.heap.size + 3) 3 1 pv px.length (px.flatMap encI)) ∧ MI w0 B v1 v2 l s (ns ++ [x]) es pv px (w3.setCell ⟨w0.heap.size, 0, none⟩ v') := by
  obtain ⟨u1', h1, og, h3, h4⟩ := hi.gb
  have e : u1' = u1 := by
    rw [h1] at hgb
    simpa using hgb
  subst e
  have hz := hi.size
  have hzV := hV.size
  have nb : ∀ k, u1'.ownBlock = some k → k < w0.heap.size ∨ w0.heap.size + 3 ≤ k := fun k hk => by
    rcases h3 with e | ⟨k', e, hk'⟩
    · rw [e] at hk; have := hi.vv.1 k hk; omega
    · rw [e] at hk; cases hk; omega
  have b3 : ∀ k ob, u1'.ownBlock ≠ some k → W.heap[k]? = some ob → w3.heap[k]? = some ob := fun k ob hk e =>
    ((hg.block k (by have := (Array.getElem?_eq_some_iff.1 e).1; omega) (fun e2 => hk e2.symm)).trans (hV.block k (Array.getElem?_eq_some_iff.1 e).1)).trans e
  have g3 := b3 _ _ (fun e => by have := nb _ e; omega) h1
  have b4 : ∀ k ob, k ≠ w0.heap.size → u1'.ownBlock ≠ some k → W.heap[k]? = some ob → (w3.setCell ⟨w0.heap.size, 0, none⟩ v').heap[k]? = some ob := fun k ob h0 hk e => by
    rw [Below.heap_setCell _ _ _ _ (fun e => h0 (by simpa using e))]; exact b3 k ob hk e
  have nw : ∀ k, v'.ownBlock = some k → u1'.ownBlock = some k ∨ V.heap.size = k := fun k hk => by
    rcases hat with e | e
    · exact .inl (e ▸ hk)
    · rw [e] at hk; exact .inr (Option.some.inj hk)
  have nb' : ∀ k, v'.ownBlock = some k → k ≠ w0.heap.size := fun k hk => by
    rcases nw k hk with e | e
    · have := nb k e; omega
    · omega
  have hpd : w3.ownsRow (w0.heap.size + 3) 3 1 pv px.length (px.flatMap encI) := own_blk hi.pd (fun k c t f hk e => b3 k _ (fun e1 => h4 k e1 hk) e)
  refine ⟨⟨by simp [World.cell?, g3], by simp [World.frozen?, g3], b3 _ _ (fun e => by have := nb _ e; omega) hi.sg, hpd⟩, b4 _ _ (by omega) (fun e => by have := nb _ e; omega) hi.sg, b4 _ _ (by omega) (fun e => by have := nb _ e; omega) hi.rs, ⟨v', by simpa using set_blk (i := 0) v' g3, ⟨?_, ?_, ?_⟩, ?_, ?_⟩, ?_, ?_, hi.vv⟩
  · have := own_set ho (p := ⟨w0.heap.size, 0, none⟩) (fun e => nb' _ e rfl) v'
    simpa [List.flatMap_append] using this
  · exact own_blk og.2.1 (fun k c t f hk e => b4 k _ (by have := hi.vv.2 k hk; omega) (fun e1 => og.2.2 k e1 hk) e)
  · intro k hk e2
    rcases nw k hk with e | e
    · exact og.2.2 k e e2
    · have := hi.vv.2 k e2; omega
  · rcases hat with e | e
    · rw [e]; exact h3
    · exact .inr ⟨_, e, by omega⟩
  · intro k hk
    rcases nw k hk with e | e
    · exact h4 k e
    · subst e
      intro e2; have := (hi.pd.lt _ e2).2; omega
  · exact own_blk hi.pd (fun k c t f hk e => b4 k _ (by have := (hi.pd.lt k hk).1; omega) (fun e1 => h4 k e1 hk) e)
  · have hf := hi.fr
    refine ⟨hg.os.trans (hV.os.trans hf.os), hg.tape.trans (hV.tape.trans hf.tape), hg.output.trans (hV.output.trans hf.output), by have := hg.size; have := hf.size; simp [World.setCell]; omega, fun k hk hne => ?_⟩
    rw [Below.heap_setCell _ _ _ _ (by simp; omega)]
    refine ((hg.block k (by omega) (fun e => ?_)).trans (hV.block k (by omega))).trans (hf.block k hk hne)
    rcases h3 with e3 | ⟨k', e3, hk'⟩
    · exact hne (by rw [e, e3])
    · rw [e3] at e; cases e; omega
end
theorem MI.start (w : World) (B : Nat) (v1 v2 : Value) (l : Int) (s : ByteArray) (ns : List Nd) (es : List Ed) (og : OwnGraph w B v1 v2 ns es) : MI w B v1 v2 l s ns es (.slice none 0 0) [] (((w.alloc (.cells #[v1, v2] 32)).alloc (.cells #[.int .i64 l, .string s] 52)).alloc (.cells #[.slice none 0 0, .slice none 0 0] 32)) := by
  have h : ∀ {α : Type} (h : Array α) (a b c : α), (((h.push a).push b).push c)[h.size]? = some a ∧ (((h.push a).push b).push c)[h.size + 1]? = some b ∧ (((h.push a).push b).push c)[h.size + 2]? = some c := by
    intro α h a b c
    simp only [Array.getElem?_push, Array.size_push]
    refine ⟨?_, ?_, ?_⟩ <;> (repeat (first | exact if_pos trivial | rw [if_pos trivial] | rw [if_pos (by omega)] | rw [if_neg (by omega)]))
  have hb : Below w.heap.size w (((w.alloc (.cells #[v1, v2] 32)).alloc (.cells #[.int .i64 l, .string s] 52)).alloc (.cells #[.slice none 0 0, .slice none 0 0] 32)) := ((((Below.refl _ _).alloc (Nat.le_refl _) _).alloc (by simp) _).alloc (by simp; omega) _)
  exact ⟨(h _ _ _ _).2.1, (h _ _ _ _).2.2, ⟨v1, (h _ _ _ _).1, og.keep hb, .inl rfl, fun k hk => by simp [Value.ownBlock]⟩, World.ownsRow_nil _ _ _ _, ⟨hb.os, hb.tape, hb.output, hb.size, fun k hk _ => hb.block k hk⟩, fun k hk => (og.1.lt k hk).2, fun k hk => (og.2.1.lt k hk).2⟩
/-- How a call of l4Read ends. -/
def LdPost (w : World) (B : Nat) (v1 v2 : Value) (ns : List Nd) (es : List Ed) (l : Int) (s : ByteArray) (e : Ending) (w' : World) : Prop :=
  ∃ (u1 u2 : Value) (b : Bool) (ns' : List Nd) (es' : List Ed), e = .returned (.tuple #[.agg #[u1, u2], .bool b]) ∧ But (fun g => v1.ownBlock = some g ∨ v2.ownBlock = some g) w w' ∧ OwnGraph w' B u1 u2 ns' es' ∧ es'.length ≤ es.length + s.size ∧ ns'.length ≤ ns.length + 127 ∧
    (u1.ownBlock = v1.ownBlock ∨ ∃ k, u1.ownBlock = some k ∧ w.heap.size ≤ k) ∧ (u2.ownBlock = v2.ownBlock ∨ ∃ k, u2.ownBlock = some k ∧ w.heap.size ≤ k) ∧
    (b = true → ∃ n1 e1, gfO s l = some (n1, e1, (s.size : Int)) ∧ ns' = ns ++ n1 ∧ es' = es ++ e1) ∧ (b = false → ∀ n1 e1, gfO s l ≠ some (n1, e1, (s.size : Int)))
theorem gfO_rs {s : ByteArray} {l k : Int} {xs : List Int} (h : rwO s 0 = some (xs, k)) : gfO s l = match rsO s l (some k) with
    | none => none
    | some (es, k2) => some (xs.map (fun x => (l, x)), es, k2) := by
  unfold gfO rsO
  rw [h]
  simp only [Option.bind_some]
  cases nmO s k with
  | none => rfl
  | some y => rfl
/-- A graph laid into a box above. -/
theorem outG {w W : World} {B C : Nat} {u1 u2 : Value} {ns : List Nd} {es : List Ed} (og : OwnGraph W B u1 u2 ns es) (hC : W.heap[C]? = some (.cells #[.slice none 0 0, .slice none 0 0] 32 (0, 0))) (hne : ∀ k, u1.ownBlock = some k ∨ u2.ownBlock = some k → k ≠ C) :
    let G := (W.setCell ⟨C, 0, none⟩ u1).setCell ⟨C, 1, none⟩ u2
    G.cell? ⟨C, 0, none⟩ = some u1 ∧ G.cell? ⟨C, 1, none⟩ = some u2 ∧ W.grownBy G (some C) ∧ OwnGraph G B u1 u2 ns es := by
  have hr := set_blk (i := 1) u2 (set_blk (i := 0) u1 hC)
  have hb : ∀ k, k ≠ C → ((W.setCell ⟨C, 0, none⟩ u1).setCell ⟨C, 1, none⟩ u2).heap[k]? = W.heap[k]? := fun k hk => by
    rw [Below.heap_setCell _ _ _ _ (fun e => hk (by simpa using e)), Below.heap_setCell _ _ _ _ (fun e => hk (by simpa using e))]
  refine ⟨by rw [cell_block hr]; rfl, by rw [cell_block hr]; rfl, grown_trans (grown_setN W C 0 u1) (grown_setN _ C 1 u2), ⟨?_, ?_, og.2.2⟩⟩
  · exact own_blk og.1 (fun k c t f hk e => by rw [hb k (hne k (.inl hk))]; exact e)
  · exact own_blk og.2.1 (fun k c t f hk e => by rw [hb k (hne k (.inr hk))]; exact e)
set_option maxRecDepth 100000 in
set_option maxHeartbeats 8000000 in
theorem l4Read (B : Nat) (v1 v2 : Value) (ns : List Nd) (es : List Ed) (l : Int) (s : ByteArray) (w : World) (hs : s.size ≤ 1048576) (hB : B ≤ w.heap.size) (og : OwnGraph w B v1 v2 ns es) (he : es.length ≤ 1048576) (hn : ns.length ≤ 1048576) :
    Calls Tryz.prog 33 #[.agg #[v1, v2], .agg #[.int .i64 l, .string s]] w (LdPost w B v1 v2 ns es l s) := by
  obtain ⟨iN, jN, zN0, zN1, zN2⟩ := info_parts Tryz.infoNode
  obtain ⟨x1, y1, rfl⟩ := own_form og.1
  obtain ⟨x2, y2, rfl⟩ := own_form og.2.1
  obtain ⟨W0, hW0⟩ : ∃ W0, W0 = ((w.alloc (.cells #[.slice x1 ns.length y1, .slice x2 es.length y2] 32)).alloc (.cells #[.int .i64 l, .string s] 52)).alloc (.cells #[.slice none 0 0, .slice none 0 0] 32) := ⟨_, rfl⟩
  have HI0 : Hid (MI w B (.slice x1 ns.length y1) (.slice x2 es.length y2) l s ns es (.slice none 0 0) [] W0) := by show MI _ _ _ _ _ _ _ _ _ _ _; rw [hW0]; exact MI.start w B _ _ l s ns es og
  have HW0 : Hid (W0 = ((w.alloc (.cells #[.slice x1 ns.length y1, .slice x2 es.length y2] 32)).alloc (.cells #[.int .i64 l, .string s] 52)).alloc (.cells #[.slice none 0 0, .slice none 0 0] 32)) := hW0
  have HH : Hid (s.size ≤ 1048576 ∧ B ≤ w.heap.size ∧ es.length ≤ 1048576 ∧ ns.length ≤ 1048576) := ⟨hs, hB, he, hn⟩
  clear hW0 og hs hB he hn
  go_enter Tryz.func33, Tryz.ntmps33
  go_upto_region 1 with fail
  rw [← HW0.out]
  clear HW0
  have s0 : W0.cell? ⟨w.heap.size + 1, 1, none⟩ = some (.string s) := by rw [cell_block HI0.out.sg]; rfl
  go_wp2_with fail
  refine (spec_RowAt s 0 _ HH.out.1).mono ?_
  rintro e w1 ⟨v, rfl, hret, b1⟩
  clear s0
  cases hr : rwO s 0 with
  | none =>
    rw [hr] at hret
    obtain ⟨u, rfl, hu⟩ := hret
    have HI1 : Hid (MI w B (.slice x1 ns.length y1) (.slice x2 es.length y2) l s ns es u [] w1) := HI0.out.rowed b1 (Nat.le_refl _) hu
    have HF : Hid (gfO s l = none) := by show gfO s l = none; unfold gfO; rw [hr]
    clear hr hu b1
    have hI := HI1.out
    obtain ⟨u1, hgb, hog, hat, _⟩ := hI.gb
    obtain ⟨ua, uc, rfl⟩ := own_form hog.1
    have hz := hI.size
    have q0 : w1.cell? ⟨w.heap.size, 0, none⟩ = some (.slice ua ns.length uc) := by rw [cell_block hgb]; rfl
    have q1 : w1.cell? ⟨w.heap.size, 1, none⟩ = some (.slice x2 es.length y2) := by rw [cell_block hgb]; rfl
    have q2 : w1.cell? ⟨w.heap.size + 2, 0, none⟩ = some (.slice none 0 0) := by rw [cell_block hI.rs]; rfl
    have q3 : w1.cell? ⟨w.heap.size + 2, 1, none⟩ = some (.slice none 0 0) := by rw [cell_block hI.rs]; rfl
    have q4 : w1.frozen? ⟨w.heap.size + 2, 0, none⟩ = false := free_block hI.rs
    have q5 : w1.frozen? ⟨w.heap.size + 2, 1, none⟩ = false := free_block hI.rs
    have HO : Hid (OwnGraph w1 B (.slice ua ns.length uc) (.slice x2 es.length y2) ns es ∧ ((Value.slice ua ns.length uc).ownBlock = (Value.slice x1 ns.length y1).ownBlock ∨ ∃ k, (Value.slice ua ns.length uc).ownBlock = some k ∧ w.heap.size + 3 ≤ k)) := ⟨hog, hat⟩
    clear hI hgb hog hat
    go_wp2_with fail
    obtain ⟨r1, r2, r3, r4⟩ := outG (w := w) (C := w.heap.size + 2) HO.out.1 HI1.out.rs (fun k hk => by
      rcases hk with hk | hk
      · rcases HO.out.2 with e | ⟨k', e, hk'⟩
        · rw [e] at hk; have := HI1.out.vv.1 k hk; omega
        · rw [e] at hk; cases hk; omega
      · have := HI1.out.vv.2 k hk; omega)
    obtain ⟨G, hG⟩ : ∃ G, G = (w1.setCell ⟨w.heap.size + 2, 0, none⟩ (.slice ua ns.length uc)).setCell ⟨w.heap.size + 2, 1, none⟩ (.slice x2 es.length y2) := ⟨_, rfl⟩
    rw [← hG] at r1 r2 r3 r4 ⊢
    refine bodyPost_ret (v := .tuple #[.agg #[.slice ua ns.length uc, .slice x2 es.length y2], .bool false]) (by simp [results, Tryz.results33, go_sem, r1, r2]) rfl ?_
    refine ⟨_, _, false, ns, es, rfl, ?_, r4, by omega, by omega, ?_, .inl rfl, fun h => absurd h (by decide), fun _ n1 e1 h => by rw [HF.out] at h; cases h⟩
    · have hf := grown_high HI1.out.fr r3 (fun g hg => by cases hg; omega)
      exact ⟨hf.os, hf.tape, hf.output, hf.size, fun k hk hp => hf.block k hk (fun e => hp (.inl e.symm))⟩
    · rcases HO.out.2 with e | ⟨k', e, hk'⟩
      · exact .inl e
      · exact .inr ⟨k', e, by omega⟩
  | some z =>
    obtain ⟨xs, kp⟩ := z
    rw [hr] at hret
    obtain ⟨u, rfl, hu⟩ := hret
    have HI1 : Hid (MI w B (.slice x1 ns.length y1) (.slice x2 es.length y2) l s ns es u xs w1) := HI0.out.rowed b1 (Nat.le_refl _) hu
    have hbd := rwO_bd hr
    obtain ⟨ra, rc, rfl⟩ := own_form hu
    obtain ⟨m, hm⟩ : ∃ m, m = xs.length := ⟨_, rfl⟩
    have HM : Hid (m = xs.length ∧ xs.length ≤ 127) := ⟨hm, hbd.2.2.2.1⟩
    have hml : m ≤ 127 := by rw [hm]; exact hbd.2.2.2.1
    have HRW : Hid (rwO s 0 = some (xs, kp)) := hr
    obtain ⟨nx, hnx⟩ : ∃ nx, nx = xs.map (fun x => (l, x)) := ⟨_, rfl⟩
    have HNX : Hid (nx = xs.map (fun x => (l, x))) := hnx
    rw [← hm] at HI1 ⊢
    clear hr hu b1 hbd hm hnx
    go_wp2_with fail
    go_loopw [9] (fun q wr => ∃ j : Nat, j ≤ m ∧ q = .int .i64 j ∧ MI w B (.slice x1 ns.length y1) (.slice x2 es.length y2) l s (ns ++ nx.take j) es (.slice ra m rc) xs wr) (fun q _ => m - (intOf q).toNat)
    case atStart => exact ⟨0, by omega, rfl, by simpa using HI1.out⟩
    case round =>
      obtain ⟨j, hj, rfl, hJ⟩ := hrel
      by_cases hlj : j < m
      · obtain ⟨wi, hwi⟩ : ∃ wi, wi = wr := ⟨_, rfl⟩
        subst hwi
        obtain ⟨x, hx⟩ : ∃ x, xs[j]? = some x := ⟨_, List.getElem?_eq_getElem (by rw [← HM.out.1]; exact hlj)⟩
        obtain ⟨NL, hNL⟩ : ∃ NL, NL = ns ++ nx.take j := ⟨_, rfl⟩
        have hle : NL.length ≤ 4194304 := by
          have := HH.out.2.2.2
          rw [hNL, List.length_append, List.length_take]; omega
        have HX : Hid (nx[j]? = some (l, x)) := by
          show nx[j]? = some (l, x)
          rw [HNX.out, List.getElem?_map, hx]; rfl
        rw [← hNL] at hJ
        have HNL : Hid (NL = ns ++ nx.take j) := hNL
        rcases row_of_own encI_len (by decide) hJ.pd with ⟨hz, _⟩ | ⟨_, b1, q0, q1, hv1, hb1, E1⟩
        · have hz : xs = [] := hz
          rw [hz] at hx; cases hx
        obtain rfl : ra = some ⟨b1, q0, none⟩ := by injection hv1
        have e0 : wi.cell? ⟨b1, q0 + j, none⟩ = some (.int .i64 x) := cellI E1 hx
        have hbl : w.heap.size + 3 ≤ b1 := (hJ.pd.lt b1 rfl).1
        obtain ⟨u1, hgb, hog, _, _⟩ := hJ.gb
        obtain ⟨ua, uc, rfl⟩ := own_form hog.1
        have hzi := hJ.size
        have t0 : wi.drew.cell? ⟨w.heap.size, 0, none⟩ = some (.slice ua NL.length uc) := by rw [show wi.drew.cell? ⟨w.heap.size, 0, none⟩ = wi.cell? ⟨w.heap.size, 0, none⟩ from rfl, cell_block hgb]; rfl
        have e1 : wi.cell? ⟨w.heap.size + 1, 0, none⟩ = some (.int .i64 l) := by rw [cell_block hJ.sg]; rfl
        have s0 : wi.drew.cell? ⟨w.heap.size + 1, 0, none⟩ = some (.int .i64 l) ∧ wi.drew.cell? ⟨b1, q0 + j, none⟩ = some (.int .i64 x) := ⟨e1, e0⟩
        obtain ⟨V, hV⟩ : ∃ V, V = (wi.alloc (.cells #[.int .i64 l, .int .i64 x] 69)).drew := ⟨_, rfl⟩
        have bV : Below wi.heap.size wi V := by rw [hV]; exact ((Below.refl _ _).alloc (Nat.le_refl _) _).drew
        have tV : V.cell? ⟨w.heap.size, 0, none⟩ = some (.slice ua NL.length uc) := by rw [Below.celz bV _ _ _ (by omega), cell_block hgb]; rfl
        have sV : V.cell? ⟨w.heap.size + 1, 0, none⟩ = some (.int .i64 l) ∧ V.cell? ⟨b1, q0 + j, none⟩ = some (.int .i64 x) := ⟨by rw [Below.celz bV _ _ _ (by omega)]; exact e1, by rw [Below.celz bV _ _ _ hb1]; exact e0⟩
        have hnc : ∀ (i : Nat) (u : Value), ([.int .i64 l, .int .i64 x] : List Value)[i]? = some u → V.cell? ((⟨wi.heap.size, 0, none⟩ : Addr).add i) = some u := by
          rw [hV]
          have := new_cells wi [.int .i64 l, .int .i64 x] (t := 69)
          exact this
        obtain ⟨v', w3, hrun, hown', hgrow, _, hat⟩ := run_append_own_at (P := Tryz.prog) V B 29 29 69 iN _ 2 16 Tryz.underlying29 jN zN0 zN1 zN2 rfl (by decide) (.slice ua NL.length uc) _ _ (own_keep hog.1 bV) ⟨wi.heap.size, 0, none⟩ 1 1 [.int .i64 l, .int .i64 x] rfl hnc (fun u hu => by simp at hu; rcases hu with rfl | rfl <;> rfl) (by unfold maxLen; omega) (by omega) (by have := bV.size; have := HH.out.2.1; omega)
        have hown2 : w3.ownsRow B 69 2 v' (NL.length + 1) (NL.flatMap encNode ++ encNode (l, x)) := hown'
        obtain ⟨⟨f1, f2, f3, f4⟩, hfin⟩ := hJ.appN HH.out.2.1 hgb bV hgrow hown2 hat
        obtain ⟨g', cap', rfl⟩ := ownsRow_succ hown'
        have s3 : w3.cell? ⟨w.heap.size + 1, 0, none⟩ = some (.int .i64 l) ∧ w3.cell? ⟨b1, q0 + j, none⟩ = some (.int .i64 x) := by
          refine ⟨by rw [cell_block f3]; rfl, ?_⟩
          rcases row_of_own encI_len (by decide) f4 with ⟨hz, _⟩ | ⟨_, b1', q0', q1', hv1', hb1', E1'⟩
          · have hz : xs = [] := hz
            rw [hz] at hx; cases hx
          · simp only [Value.slice.injEq, Option.some.injEq, Addr.mk.injEq] at hv1'
            obtain ⟨⟨rfl, rfl, _⟩, _, _⟩ := hv1'
            exact cellI E1' hx
        have s4 : (w3.setCell ⟨w.heap.size, 0, none⟩ (.slice (some ⟨g', 0, none⟩) (NL.length + 1) cap')).cell? ⟨w.heap.size + 1, 0, none⟩ = some (.int .i64 l) ∧ (w3.setCell ⟨w.heap.size, 0, none⟩ (.slice (some ⟨g', 0, none⟩) (NL.length + 1) cap')).cell? ⟨b1, q0 + j, none⟩ = some (.int .i64 x) := by
          refine ⟨by rw [World.cell?_setCell_far _ _ _ _ (by simp)]; exact s3.1, ?_⟩
          rw [World.cell?_setCell_far _ _ _ _ (by
            simp; omega)]
          exact s3.2
        have HFIN : Hid (MI w B (.slice x1 ns.length y1) (.slice x2 es.length y2) l s (ns ++ nx.take (j + 1)) es (.slice (some ⟨b1, q0, none⟩) m rc) xs (w3.setCell ⟨w.heap.size, 0, none⟩ (.slice (some ⟨g', 0, none⟩) (NL.length + 1) cap'))) := by
          show MI _ _ _ _ _ _ _ _ _ _ _
          rw [List.take_add_one, HX.out, Option.toList_some, ← List.append_assoc, ← HNL.out]
          exact hfin
        have k0 : (0 : Int) ≤ (j : Int) := by omega
        have k1 : (j : Int) < (m : Int) := by omega
        have HV : Hid (V = (wi.alloc (.cells #[.int .i64 l, .int .i64 x] 69)).drew) := hV
        clear hown' hown2 hgrow hat hfin hnc bV hgb hog hV hJ hx E1 hv1 e0 e1 f3 f4 hNL
        go_wp2_with fail
        refine region_plain (S := fun w' => w'.cell? ⟨w.heap.size + 1, 0, none⟩ = some (.int .i64 l) ∧ w'.cell? ⟨b1, q0 + j, none⟩ = some (.int .i64 x)) (by kernel_rfl) s0 (fun _ => ?_)
        refine takeH 0 (.pointer (some ⟨w.heap.size, 0, none⟩)) rfl (by kernel_rfl) (by kernel_rfl) (by kernel_rfl) (Or.inl ⟨by rfl, fun w' hS' => by go_simp⟩) s0 ?_
        simp only [Act.put, List.setIfInBounds_toArray]
        refine takeH 2 (.pointer (some ⟨w.heap.size + 1, 0, none⟩)) rfl (by kernel_rfl) (by kernel_rfl) (by kernel_rfl) (Or.inl ⟨by rfl, fun w' hS' => by go_simp⟩) s0 ?_
        simp only [Act.put]
        refine takeH 3 (.int .i64 l) rfl (by kernel_rfl) (by kernel_rfl) (by kernel_rfl) (Or.inl ⟨by rfl, fun w' hS' => by go_simp⟩) s0 ?_
        simp only [Act.put]
        refine takeH 4 (.slice (some ⟨b1, q0, none⟩) m rc) rfl (by kernel_rfl) (by kernel_rfl) (by kernel_rfl) (Or.inl ⟨by rfl, fun w' hS' => by go_simp⟩) s0 ?_
        simp only [Act.put]
        refine takeH 5 (.int .i64 (j : Int)) rfl (by kernel_rfl) (by kernel_rfl) (by kernel_rfl) (Or.inl ⟨by rfl, fun w' hS' => by go_simp⟩) s0 ?_
        simp only [Act.put]
        refine takeH 6 (.pointer (some ⟨b1, q0 + j, none⟩)) rfl (by kernel_rfl) (by kernel_rfl) (by kernel_rfl) (Or.inl ⟨by rfl, fun w' hS' => by go_simp⟩) s0 ?_
        simp only [Act.put]
        refine takeH 7 (.int .i64 x) rfl (by kernel_rfl) (by kernel_rfl) (by kernel_rfl) (Or.inl ⟨by rfl, fun w' hS' => by go_simp⟩) s0 ?_
        simp only [Act.put]
        refine takeH 8 (.agg #[.int .i64 l, .int .i64 x]) rfl (by kernel_rfl) (by kernel_rfl) (by kernel_rfl) (Or.inl ⟨by rfl, fun w' hS' => by go_simp⟩) s0 ?_
        simp only [Act.put]
        refine wpAnyH_ready (rs := [1, 9]) (by kernel_rfl) (by simp) ?_
        refine AllReadyH.cons rfl (fun K hK => ?_) ?_
        · go_simp
          refine hK.out _ _ s0 (fun _ => ?_)
          clear hK K
          refine wpAnyH_ready (rs := [9]) (by kernel_rfl) (by simp) ?_
          refine AllReadyH.cons rfl (fun K hK => ?_) AllReadyH.nil
          go_simp
          rw [← HV.out]
          refine hK.out _ _ sV (fun _ => ?_)
          clear hK K
          refine wpAnyH_ready (rs := [10]) (by kernel_rfl) (by simp) ?_
          refine AllReadyH.cons rfl (fun K hK => ?_) AllReadyH.nil
          rw [if_pos (by rfl)]
          refine Lib.wp_append_run _ _ _ _ _ rfl (.slice ua NL.length uc) (.slice (some ⟨wi.heap.size, 0, none⟩) 1 1) rfl rfl _ w3 hrun ?_
          refine hK.out _ _ s3 (fun _ => ?_)
          clear hK K
          simp only [Act.put, List.setIfInBounds_toArray]
          refine takeH 11 (.pointer (some ⟨w.heap.size, 0, none⟩)) rfl (by kernel_rfl) (by kernel_rfl) (by kernel_rfl) (Or.inl ⟨by rfl, fun w' hS' => by go_simp⟩) s3 ?_
          simp only [Act.put]
          refine wpAnyH_ready (rs := [12]) (by kernel_rfl) (by simp) ?_
          refine AllReadyH.cons rfl (fun K hK => ?_) AllReadyH.nil
          go_simp
          refine hK.out _ _ s4 (fun _ => ?_)
          clear hK K
          refine wpAnyH_done (by kernel_rfl) ?_ _
          refine ⟨rfl, ?_⟩
          go_wp2_with fail
          go_roundw
          case rel => exact ⟨j + 1, by omega, by go_num, HFIN.out⟩
          case measure => simp [intOf]; omega
        refine AllReadyH.cons rfl (fun K hK => ?_) AllReadyH.nil
        go_simp
        rw [← HV.out]
        refine hK.out _ _ sV (fun _ => ?_)
        clear hK K
        refine wpAnyH_ready (rs := [1]) (by kernel_rfl) (by simp) ?_
        refine AllReadyH.cons rfl (fun K hK => ?_) AllReadyH.nil
        go_simp
        refine hK.out _ _ sV (fun _ => ?_)
        clear hK K
        refine wpAnyH_ready (rs := [10]) (by kernel_rfl) (by simp) ?_
        refine AllReadyH.cons rfl (fun K hK => ?_) AllReadyH.nil
        rw [if_pos (by rfl)]
        refine Lib.wp_append_run _ _ _ _ _ rfl (.slice ua NL.length uc) (.slice (some ⟨wi.heap.size, 0, none⟩) 1 1) rfl rfl _ w3 hrun ?_
        refine hK.out _ _ s3 (fun _ => ?_)
        clear hK K
        simp only [Act.put, List.setIfInBounds_toArray]
        refine takeH 11 (.pointer (some ⟨w.heap.size, 0, none⟩)) rfl (by kernel_rfl) (by kernel_rfl) (by kernel_rfl) (Or.inl ⟨by rfl, fun w' hS' => by go_simp⟩) s3 ?_
        simp only [Act.put]
        refine wpAnyH_ready (rs := [12]) (by kernel_rfl) (by simp) ?_
        refine AllReadyH.cons rfl (fun K hK => ?_) AllReadyH.nil
        go_simp
        refine hK.out _ _ s4 (fun _ => ?_)
        clear hK K
        refine wpAnyH_done (by kernel_rfl) ?_ _
        refine ⟨rfl, ?_⟩
        go_wp2_with fail
        go_roundw
        case rel => exact ⟨j + 1, by omega, by go_num, HFIN.out⟩
        case measure => simp [intOf]; omega
      · have hjm : j = m := by omega
        subst hjm
        have hJ2 : MI w B (.slice x1 ns.length y1) (.slice x2 es.length y2) l s (ns ++ nx) es (.slice ra j rc) xs wr := by
          have := hJ
          rw [List.take_of_length_le (by rw [HNX.out, List.length_map, ← HM.out.1]; exact Nat.le_refl _)] at this
          exact this
        have HJ : Hid (MI w B (.slice x1 ns.length y1) (.slice x2 es.length y2) l s (ns ++ nx) es (.slice ra j rc) xs wr) := hJ2
        clear hJ
        obtain ⟨u1, hgb, hog, hat, _⟩ := hJ2.gb
        obtain ⟨ua, uc, rfl⟩ := own_form hog.1
        have hz := hJ2.size
        have hln : (ns ++ nx).length ≤ ns.length + 127 := by rw [List.length_append, HNX.out, List.length_map]; have := HM.out.2; omega
        have q0 : wr.cell? ⟨w.heap.size, 0, none⟩ = some (.slice ua (ns ++ nx).length uc) := by rw [cell_block hgb]; rfl
        have q1 : wr.cell? ⟨w.heap.size, 1, none⟩ = some (.slice x2 es.length y2) := by rw [cell_block hgb]; rfl
        have q2 : wr.cell? ⟨w.heap.size + 1, 0, none⟩ = some (.int .i64 l) := by rw [cell_block hJ2.sg]; rfl
        have q3 : wr.cell? ⟨w.heap.size + 1, 1, none⟩ = some (.string s) := by rw [cell_block hJ2.sg]; rfl
        have HO : Hid (((Value.slice ua (ns ++ nx).length uc).ownBlock = (Value.slice x1 ns.length y1).ownBlock ∨ ∃ k, (Value.slice ua (ns ++ nx).length uc).ownBlock = some k ∧ w.heap.size + 3 ≤ k) ∧ (ns ++ nx).length ≤ ns.length + 127) := ⟨hat, hln⟩
        have HC : Hid (Calls Tryz.prog 62 #[.agg #[.slice ua (ns ++ nx).length uc, .slice x2 es.length y2], .string s, .int .i64 kp, .int .i64 l] wr (LrPost wr B (.slice ua (ns ++ nx).length uc) (.slice x2 es.length y2) (ns ++ nx) es s l kp)) := l4Rows B _ _ (ns ++ nx) es s kp l wr HH.out.1 (by have := HH.out.2.1; omega) hog HH.out.2.2.1
        have HLN : Hid ((ns ++ nx).length ≤ ns.length + 127) := hln
        obtain ⟨t, ht⟩ : ∃ t, t = (ns ++ nx).length := ⟨_, rfl⟩
        rw [← ht] at q0 HC HO
        clear hgb hog hat hln hJ2 ht
        go_wp2_with fail
        refine HC.out.mono ?_
        rintro e w5 ⟨u2, b, es', rfl, hg5, hog5, hl5, hu2, hb1, hb0⟩
        obtain ⟨va, vc, rfl⟩ := own_form hog5.2.1
        have hrs5 : w5.heap[w.heap.size + 2]? = some (.cells #[.slice none 0 0, .slice none 0 0] 32 (0, 0)) := (hg5.block _ (by omega) (fun e => by have := HJ.out.vv.2 _ e.symm; omega)).trans HJ.out.rs
        have g2 : w5.cell? ⟨w.heap.size + 2, 0, none⟩ = some (.slice none 0 0) := by rw [cell_block hrs5]; rfl
        have g3 : w5.cell? ⟨w.heap.size + 2, 1, none⟩ = some (.slice none 0 0) := by rw [cell_block hrs5]; rfl
        have g4 : w5.frozen? ⟨w.heap.size + 2, 0, none⟩ = false := free_block hrs5
        have g5 : w5.frozen? ⟨w.heap.size + 2, 1, none⟩ = false := free_block hrs5
        have HB5 : Hid ((b = true → ∃ ec, rsO s l (some kp) = some (ec, (s.size : Int)) ∧ es' = es ++ ec) ∧ (b = false → ∀ ec, rsO s l (some kp) ≠ some (ec, (s.size : Int)))) := ⟨hb1, hb0⟩
        have H5 : Hid (wr.grownBy w5 (Value.slice x2 es.length y2).ownBlock ∧ OwnGraph w5 B (.slice ua t uc) (.slice va es'.length vc) (ns ++ nx) es' ∧ es'.length ≤ es.length + s.size ∧ ((Value.slice va es'.length vc).ownBlock = (Value.slice x2 es.length y2).ownBlock ∨ ∃ k, (Value.slice va es'.length vc).ownBlock = some k ∧ wr.heap.size ≤ k) ∧ w5.heap[w.heap.size + 2]? = some (.cells #[.slice none 0 0, .slice none 0 0] 32 (0, 0))) := ⟨hg5, hog5, hl5, hu2, hrs5⟩
        clear hg5 hog5 hl5 hu2 hrs5 hb1 hb0 q0 q1 q2 q3
        go_wp2_with fail
        obtain ⟨r1, r2, r3, r4⟩ := outG (w := w) (C := w.heap.size + 2) H5.out.2.1 H5.out.2.2.2.2 (fun k hk => by
          rcases hk with hk | hk
          · rcases HO.out.1 with e | ⟨k', e, hk'⟩
            · rw [e] at hk; have := HJ.out.vv.1 k hk; omega
            · rw [e] at hk; cases hk; omega
          · rcases H5.out.2.2.2.1 with e | ⟨k', e, hk'⟩
            · rw [e] at hk; have := HJ.out.vv.2 k hk; omega
            · rw [e] at hk; cases hk; omega)
        obtain ⟨G, hG⟩ : ∃ G, G = (w5.setCell ⟨w.heap.size + 2, 0, none⟩ (.slice ua t uc)).setCell ⟨w.heap.size + 2, 1, none⟩ (.slice va es'.length vc) := ⟨_, rfl⟩
        rw [← hG] at r1 r2 r3 r4 ⊢
        refine bodyPost_ret (v := .tuple #[.agg #[.slice ua t uc, .slice va es'.length vc], .bool b]) (by simp [results, Tryz.results33, go_sem, r1, r2]) rfl ?_
        refine ⟨_, _, b, ns ++ nx, es', rfl, ?_, r4, H5.out.2.2.1, HLN.out, ?_, ?_, fun hb => ?_, fun hb n1 e1 h => ?_⟩
        · have hf := HJ.out.fr
          have h5 := H5.out.1
          have hz5 := h5.size
          refine ⟨r3.os.trans (h5.os.trans hf.os), r3.tape.trans (h5.tape.trans hf.tape), r3.output.trans (h5.output.trans hf.output), by have := r3.size; have := hf.size; omega, fun k hk hp => ?_⟩
          exact ((r3.block k (by omega) (fun e => by have := Option.some.inj e; omega)).trans (h5.block k (by omega) (fun e => hp (.inr e.symm)))).trans (hf.block k hk (fun e => hp (.inl e.symm)))
        · rcases HO.out.1 with e | ⟨k', e, hk'⟩
          · exact .inl e
          · exact .inr ⟨k', e, by omega⟩
        · rcases H5.out.2.2.2.1 with e | ⟨k', e, hk'⟩
          · exact .inl e
          · exact .inr ⟨k', e, by omega⟩
        · obtain ⟨ec, h1, h2⟩ := HB5.out.1 hb
          refine ⟨nx, ec, ?_, rfl, h2⟩
          rw [gfO_rs HRW.out, h1, HNX.out]
        · rw [gfO_rs HRW.out] at h
          cases hq : rsO s l (some kp) with
          | none => rw [hq] at h; cases h
          | some z =>
            obtain ⟨ec, k2⟩ := z
            rw [hq] at h
            simp only [Option.some.injEq, Prod.mk.injEq] at h
            exact HB5.out.2 hb ec (by rw [hq, h.2.2])
end Go.Proofs.YtlnpbfeihjfnjabGreatDoor.Lab

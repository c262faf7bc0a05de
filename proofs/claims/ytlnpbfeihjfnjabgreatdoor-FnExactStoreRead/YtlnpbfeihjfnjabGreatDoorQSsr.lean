/-
  A store read by the specification: l4Node, l4Rows, l4Read, StoreRead.
-/
import Derived.Test.YtlnpbfeihjfnjabGreatDoorQSrd
import Derived.Deep.RegionHeld3
import Derived.Deep.DeepCutAuto
namespace Go.Proofs.YtlnpbfeihjfnjabGreatDoor.Lab
open Go.RowKit
set_option linter.unusedVariables false
set_option maxHeartbeats 400000 in
theorem l4Node (c : Int) (w : World) (h0 : 0 ≤ c) (h1 : c ≤ 16383) :
    Calls Tryz.prog 83 #[.int .i64 c] w fun e w' => e = .returned (.agg #[.int .i64 (c / 64), .int .i64 (c % 64)]) ∧ Below w.heap.size w w' := by
  go_enter Tryz.func83, Tryz.ntmps83
  go_wp2
  go_returns
  refine ⟨rfl, ?_⟩
  go_grown
/-- A graph under way in a box, its edges growing: the row at hand lies apart. -/
structure LI (w0 : World) (B : Nat) (v1 v2 : Value) (ns : List Nd) (es : List Ed) (pv : Value) (px : List Int) (W : World) : Prop where
  rs : W.heap[w0.heap.size + 1]? = some (.cells #[.slice none 0 0, .slice none 0 0] 32 (0, 0))
  gb : ∃ u2, W.heap[w0.heap.size]? = some (.cells #[v1, u2] 32 (0, 0)) ∧ OwnGraph W B v1 u2 ns es ∧ (u2.ownBlock = v2.ownBlock ∨ ∃ k, u2.ownBlock = some k ∧ w0.heap.size + 2 ≤ k) ∧ ∀ k, u2.ownBlock = some k → pv.ownBlock ≠ some k
  pd : W.ownsRow (w0.heap.size + 2) 3 1 pv px.length (px.flatMap encI)
  fr : w0.grownBy W v2.ownBlock
  vv : (∀ k, v1.ownBlock = some k → k < w0.heap.size) ∧ (∀ k, v2.ownBlock = some k → k < w0.heap.size)
section
variable {w0 W W' : World} {B : Nat} {v1 v2 pv : Value} {ns : List Nd} {es : List Ed} {px : List Int}
theorem LI.size (hi : LI w0 B v1 v2 ns es pv px W) : w0.heap.size + 2 ≤ W.heap.size := by have := lt_of_block hi.rs; omega
theorem LI.below (hi : LI w0 B v1 v2 ns es pv px W) (hb : Below W.heap.size W W') : LI w0 B v1 v2 ns es pv px W' := by
  obtain ⟨u2, h1, h2, h3, h4⟩ := hi.gb
  have hz := hi.size
  exact ⟨(hb.block _ (by omega)).trans hi.rs, ⟨u2, (hb.block _ (by omega)).trans h1, h2.keep hb, h3, h4⟩, own_keep hi.pd hb,
    ⟨hb.os.trans hi.fr.os, hb.tape.trans hi.fr.tape, hb.output.trans hi.fr.output, Nat.le_trans hi.fr.size hb.size, fun k hk hne => (hb.block k (by omega)).trans (hi.fr.block k hk hne)⟩, hi.vv⟩
/-- Another row at hand, newer than all. -/
theorem LI.rowed {u : Value} {xs : List Int} {b : Nat} (hi : LI w0 B v1 v2 ns es pv px W) (hb : Below W.heap.size W W') (hW : W.heap.size ≤ b) (hu : W'.ownsRow b 3 1 u xs.length (xs.flatMap encI)) : LI w0 B v1 v2 ns es u xs W' := by
  have hj := hi.below hb
  have hz := hi.size
  obtain ⟨u2, h1, h2, h3, h4⟩ := hi.gb
  exact ⟨hj.rs, ⟨u2, (hb.block _ (by omega)).trans h1, h2.keep hb, h3, fun k hk e => by have := (h2.2.1.lt k hk).2; have := (hu.lt k e).1; omega⟩, own_mono hu (by omega), hj.fr, hj.vv⟩
theorem LI.appE {V w3 : World} {u2 v' : Value} {x : Ed} (hi : LI w0 B v1 v2 ns es pv px W) (hB : B ≤ w0.heap.size) (hgb : W.heap[w0.heap.size]? = some (.cells #[v1, u2] 32 (0, 0))) (hV : Below W.heap.size W V) (hg : V.grownBy w3 u2.ownBlock)
    (ho : w3.ownsRow B 72 5 v' (es.length + 1) (es.flatMap encEdge ++ encEdge x)) (hat : v'.ownBlock = u2.ownBlock ∨ v'.ownBlock = some V.heap.size) :
    (w3.cell? ⟨w0.heap.size, 1, none⟩ = some u2 ∧ w3.frozen? ⟨w0.heap.size, 1, none⟩ = false) ∧ LI w0 B v1 v2 ns (es ++ [x]) pv px (w3.setCell ⟨w0.heap.size, 1, none⟩ v') := by
  obtain ⟨u2', h1, og, h3, h4⟩ := hi.gb
  have e : u2' = u2 := by
    rw [h1] at hgb
    simpa using hgb
  subst e
  have hz := hi.size
  have hzV := hV.size
  have nb : ∀ k, u2'.ownBlock = some k → k ≠ w0.heap.size ∧ k ≠ w0.heap.size + 1 := fun k hk => by
    rcases h3 with e | ⟨k', e, hk'⟩
    · rw [e] at hk; have := hi.vv.2 k hk; omega
    · rw [e] at hk; cases hk; omega
  have b3 : ∀ k ob, u2'.ownBlock ≠ some k → W.heap[k]? = some ob → w3.heap[k]? = some ob := fun k ob hk e =>
    ((hg.block k (by have := (Array.getElem?_eq_some_iff.1 e).1; omega) (fun e2 => hk e2.symm)).trans (hV.block k (Array.getElem?_eq_some_iff.1 e).1)).trans e
  have g3 := b3 _ _ (fun e => (nb _ e).1 rfl) h1
  have b4 : ∀ k ob, k ≠ w0.heap.size → u2'.ownBlock ≠ some k → W.heap[k]? = some ob → (w3.setCell ⟨w0.heap.size, 1, none⟩ v').heap[k]? = some ob := fun k ob h0 hk e => by
    rw [Below.heap_setCell _ _ _ _ (fun e => h0 (by simpa using e))]; exact b3 k ob hk e
  have nw : ∀ k, v'.ownBlock = some k → u2'.ownBlock = some k ∨ V.heap.size = k := fun k hk => by
    rcases hat with e | e
    · exact .inl (e ▸ hk)
    · rw [e] at hk; exact .inr (Option.some.inj hk)
  have nb' : ∀ k, v'.ownBlock = some k → k ≠ w0.heap.size := fun k hk => by
    rcases nw k hk with e | e
    · exact (nb k e).1
    · omega
  refine ⟨⟨by simp [World.cell?, g3], by simp [World.frozen?, g3]⟩, b4 _ _ (by omega) (fun e => (nb _ e).2 rfl) hi.rs, ⟨v', by simpa using set_blk (i := 1) v' g3, ⟨?_, ?_, ?_⟩, ?_, ?_⟩, ?_, ?_, hi.vv⟩
  · exact own_blk og.1 (fun k c t f hk e => b4 k _ (by have := hi.vv.1 k hk; omega) (fun e1 => og.2.2 k hk e1) e)
  · have := own_set ho (p := ⟨w0.heap.size, 1, none⟩) (fun e => nb' _ e rfl) v'
    simpa [List.flatMap_append] using this
  · intro k hk e2
    rcases nw k e2 with e | e
    · exact og.2.2 k hk e
    · have := hi.vv.1 k hk; omega
  · rcases hat with e | e
    · rw [e]; exact h3
    · exact .inr ⟨_, e, by omega⟩
  · intro k hk
    rcases nw k hk with e | e
    · exact h4 k e
    · subst e
      intro e2; have := (hi.pd.lt _ e2).2; omega
  · exact own_blk hi.pd (fun k c t f hk e => b4 k _ (by have := (hi.pd.lt k hk).1; omega) (fun e1 => h4 k e1 hk) e)
  · have hf := hi.fr
    refine ⟨hg.os.trans (hV.os.trans hf.os), hg.tape.trans (hV.tape.trans hf.tape), hg.output.trans (hV.output.trans hf.output), by have := hg.size; have := hf.size; simp [World.setCell]; omega, fun k hk hne => ?_⟩
    rw [Below.heap_setCell _ _ _ _ (by simp; omega)]
    refine ((hg.block k (by omega) (fun e => ?_)).trans (hV.block k (by omega))).trans (hf.block k hk hne)
    rcases h3 with e3 | ⟨k', e3, hk'⟩
    · exact hne (by rw [e, e3])
    · rw [e3] at e; cases e; omega
end
theorem LI.start (w : World) (B : Nat) (v1 v2 : Value) (ns : List Nd) (es : List Ed) (og : OwnGraph w B v1 v2 ns es) : LI w B v1 v2 ns es (.slice none 0 0) [] ((w.alloc (.cells #[v1, v2] 32)).alloc (.cells #[.slice none 0 0, .slice none 0 0] 32)) := by
  have h : ∀ {α : Type} (h : Array α) (a b : α), ((h.push a).push b)[h.size]? = some a ∧ ((h.push a).push b)[h.size + 1]? = some b := by
    intro α h a b
    simp only [Array.getElem?_push, Array.size_push]
    refine ⟨?_, ?_⟩ <;> (repeat (first | exact if_pos trivial | rw [if_pos trivial] | rw [if_pos (by omega)] | rw [if_neg (by omega)]))
  have hb : Below w.heap.size w ((w.alloc (.cells #[v1, v2] 32)).alloc (.cells #[.slice none 0 0, .slice none 0 0] 32)) := (((Below.refl _ _).alloc (Nat.le_refl _) _).alloc (by simp) _)
  exact ⟨(h _ _ _).2, ⟨v2, (h _ _ _).1, og.keep hb, .inl rfl, fun k hk => by simp [Value.ownBlock]⟩, World.ownsRow_nil _ _ _ _, ⟨hb.os, hb.tape, hb.output, hb.size, fun k hk _ => hb.block k hk⟩, fun k hk => (og.1.lt k hk).2, fun k hk => (og.2.1.lt k hk).2⟩
theorem nmV_parts (s : ByteArray) (a : Int) : ∃ (c : Nat) (p : Int) (b : Bool), nmV (nmO s a) = .tuple #[.int .i64 (c : Int), .int .i64 p, .bool b] ∧ (b = true → nmO s a = some ((c : Int), p)) ∧ (b = false → nmO s a = none) ∧ c ≤ 16383 := by
  cases h : nmO s a with
  | none => exact ⟨0, 0, false, rfl, fun h => absurd h (by decide), fun _ => rfl, by omega⟩
  | some y =>
    obtain ⟨n, k⟩ := y
    have := nmO_bd h
    obtain ⟨c, rfl⟩ := Int.eq_ofNat_of_zero_le this.1
    exact ⟨c, k, true, rfl, fun _ => rfl, fun h => absurd h (by decide), by omega⟩
theorem grown_high {w V V' : World} {r r' : Option Nat} (h : w.grownBy V r) (hg : V.grownBy V' r') (hr : ∀ g, r' = some g → w.heap.size ≤ g) : w.grownBy V' r :=
  ⟨hg.os.trans h.os, hg.tape.trans h.tape, hg.output.trans h.output, Nat.le_trans h.size hg.size, fun k hk hne => (hg.block k (Nat.lt_of_lt_of_le hk h.size) (fun e => by have := hr k e.symm; omega)).trans (h.block k hk hne)⟩
/-- The graph has been laid into the answer's box. -/
theorem LI.out {w W : World} {B : Nat} {v1 v2 u2 pv : Value} {ns : List Nd} {es : List Ed} {px : List Int} (hi : LI w B v1 v2 ns es pv px W) (hgb : W.heap[w.heap.size]? = some (.cells #[v1, u2] 32 (0, 0))) :
    let G := (W.setCell ⟨w.heap.size + 1, 0, none⟩ v1).setCell ⟨w.heap.size + 1, 1, none⟩ u2
    G.cell? ⟨w.heap.size + 1, 0, none⟩ = some v1 ∧ G.cell? ⟨w.heap.size + 1, 1, none⟩ = some u2 ∧ w.grownBy G v2.ownBlock ∧ OwnGraph G B v1 u2 ns es ∧ (u2.ownBlock = v2.ownBlock ∨ ∃ k, u2.ownBlock = some k ∧ w.heap.size ≤ k) := by
  obtain ⟨u2', h1, og, h3, h4⟩ := hi.gb
  have e : u2' = u2 := by
    rw [h1] at hgb
    simpa using hgb
  subst e
  have hr := set_blk (i := 1) u2' (set_blk (i := 0) v1 hi.rs)
  have hb : ∀ k, k ≠ w.heap.size + 1 → ((W.setCell ⟨w.heap.size + 1, 0, none⟩ v1).setCell ⟨w.heap.size + 1, 1, none⟩ u2').heap[k]? = W.heap[k]? := fun k hk => by
    rw [Below.heap_setCell _ _ _ _ (fun e => hk (by simpa using e)), Below.heap_setCell _ _ _ _ (fun e => hk (by simpa using e))]
  refine ⟨by rw [cell_block hr]; rfl, by rw [cell_block hr]; rfl, ?_, ⟨?_, ?_, og.2.2⟩, ?_⟩
  · exact grown_high (grown_high hi.fr (grown_setN W (w.heap.size + 1) 0 v1) (fun g hg => by cases hg; omega)) (grown_setN _ (w.heap.size + 1) 1 u2') (fun g hg => by cases hg; omega)
  · exact own_blk og.1 (fun k c t f hk e => by rw [hb k (by have := hi.vv.1 k hk; omega)]; exact e)
  · exact own_blk og.2.1 (fun k c t f hk e => by
      rw [hb k (fun e2 => ?_)]
      · exact e
      · rcases h3 with e3 | ⟨k', e3, hk'⟩
        · rw [e3] at hk; have := hi.vv.2 k hk; omega
        · rw [e3] at hk; cases hk; omega)
  · rcases h3 with e3 | ⟨k', e3, hk'⟩
    · exact .inl e3
    · exact .inr ⟨k', e3, by omega⟩
/-- How a call of l4Rows ends. -/
def LrPost (w : World) (B : Nat) (v1 v2 : Value) (ns : List Nd) (es : List Ed) (s : ByteArray) (l at_ : Int) (e : Ending) (w' : World) : Prop :=
  ∃ (u2 : Value) (b : Bool) (es' : List Ed), e = .returned (.tuple #[.agg #[v1, u2], .bool b]) ∧ w.grownBy w' v2.ownBlock ∧ OwnGraph w' B v1 u2 ns es' ∧ es'.length ≤ es.length + s.size ∧ (u2.ownBlock = v2.ownBlock ∨ ∃ k, u2.ownBlock = some k ∧ w.heap.size ≤ k) ∧
    (b = true → ∃ ec, rsO s l (some at_) = some (ec, (s.size : Int)) ∧ es' = es ++ ec) ∧ (b = false → ∀ ec, rsO s l (some at_) ≠ some (ec, (s.size : Int)))
set_option maxRecDepth 100000 in
set_option maxHeartbeats 8000000 in
theorem l4Rows (B : Nat) (v1 v2 : Value) (ns : List Nd) (es : List Ed) (s : ByteArray) (at_ l : Int) (w : World) (hs : s.size ≤ 1048576) (hB : B ≤ w.heap.size) (og : OwnGraph w B v1 v2 ns es) (he : es.length ≤ 1048576) :
    Calls Tryz.prog 62 #[.agg #[v1, v2], .string s, .int .i64 at_, .int .i64 l] w (LrPost w B v1 v2 ns es s l at_) := by
  obtain ⟨iE, jE, zE0, zE1, zE2⟩ := info_parts Tryz.infoEdge
  obtain ⟨x1, y1, rfl⟩ := own_form og.1
  obtain ⟨x2, y2, rfl⟩ := own_form og.2.1
  obtain ⟨W0, hW0⟩ : ∃ W0, W0 = (w.alloc (.cells #[.slice x1 ns.length y1, .slice x2 es.length y2] 32)).alloc (.cells #[.slice none 0 0, .slice none 0 0] 32) := ⟨_, rfl⟩
  have HI0 : Hid (LI w B (.slice x1 ns.length y1) (.slice x2 es.length y2) ns es (.slice none 0 0) [] W0) := by show LI _ _ _ _ _ _ _ _ _; rw [hW0]; exact LI.start w B _ _ ns es og
  have HW0 : Hid (W0 = (w.alloc (.cells #[.slice x1 ns.length y1, .slice x2 es.length y2] 32)).alloc (.cells #[.slice none 0 0, .slice none 0 0] 32)) := hW0
  have HH : Hid (s.size ≤ 1048576 ∧ B ≤ w.heap.size ∧ es.length ≤ 1048576) := ⟨hs, hB, he⟩
  obtain ⟨c, p0, b0, hn0, hn1, hn2, hn3⟩ := nmV_parts s at_
  have HT : Hid ((b0 = true → rsK s l c p0 [] = (rsO s l (some at_)) ∧ 0 ≤ p0 ∧ p0 ≤ s.size) ∧ (b0 = false → (rsO s l (some at_)) = none)) := by
    refine ⟨fun hb => ?_, fun hb => ?_⟩
    · have h1 := hn1 hb
      have h2 := nmO_bd h1
      refine ⟨?_, by omega, by omega⟩
      show _ = (match nmO s at_ with | none => none | some (n, k) => rsK s l n.toNat k [])
      rw [h1]
      simp only [Int.toNat_natCast]
    · show (match nmO s at_ with | none => none | some (n, k) => rsK s l n.toNat k []) = none
      rw [hn2 hb]
  have HN : Hid (nmV (nmO s at_) = .tuple #[.int .i64 (c : Int), .int .i64 p0, .bool b0]) := hn0
  clear hW0 og hs hB he hn0 hn1 hn2
  go_enter Tryz.func62, Tryz.ntmps62
  go_upto_region 1 with fail
  rw [← HW0.out]
  clear HW0
  go_wp2_with fail
  refine (spec_NumAt s at_ _ (by have := HH.out.1; omega)).mono ?_
  rintro e w1 ⟨rfl, b1⟩
  rw [HN.out]
  have HI1 : Hid (LI w B (.slice x1 ns.length y1) (.slice x2 es.length y2) ns es (.slice none 0 0) [] w1) := HI0.out.below b1
  clear b1
  go_wp2_with fail
  go_loopw [2, 11, 12] (fun q2 q11 q12 wr => ∃ (i : Nat) (p : Int) (b : Bool) (ec : List Ed) (pv : Value) (px : List Int), i ≤ c ∧ q12 = .int .i64 i ∧ q2 = .int .i64 p ∧ q11 = .bool b ∧ (b = true → rsK s l (c - i) p ec = rsO s l (some at_) ∧ (ec.length : Int) ≤ p ∧ p ≤ s.size) ∧ (b = false → rsO s l (some at_) = none) ∧ ec.length ≤ s.size ∧ LI w B (.slice x1 ns.length y1) (.slice x2 es.length y2) ns (es ++ ec) pv px wr) (fun _ _ q12 _ => c - (intOf q12).toNat)
  case atStart =>
    refine ⟨0, p0, b0, [], .slice none 0 0, [], by omega, rfl, rfl, rfl, fun hb => ⟨(HT.out.1 hb).1, by have := (HT.out.1 hb).2.1; simpa using this, (HT.out.1 hb).2.2⟩, HT.out.2, by simp, ?_⟩
    rw [List.append_nil]; exact HI1.out
  case round =>
    obtain ⟨i, p, b, ec, pv, px, hi, rfl, rfl, rfl, hbt, hbf, hel, hI⟩ := hrel
    cases b
    · have hbf := hbf rfl
      obtain ⟨u2, hgb, hog, _, _⟩ := hI.gb
      obtain ⟨ua, uc, rfl⟩ := own_form hog.2.1
      have hz := hI.size
      have q0 : wr.cell? ⟨w.heap.size, 0, none⟩ = some (.slice x1 ns.length y1) := by rw [cell_block hgb]; rfl
      have q1 : wr.cell? ⟨w.heap.size, 1, none⟩ = some (.slice ua (es ++ ec).length uc) := by rw [cell_block hgb]; rfl
      have q2 : wr.cell? ⟨w.heap.size + 1, 0, none⟩ = some (.slice none 0 0) := by rw [cell_block hI.rs]; rfl
      have q3 : wr.cell? ⟨w.heap.size + 1, 1, none⟩ = some (.slice none 0 0) := by rw [cell_block hI.rs]; rfl
      have q4 : wr.frozen? ⟨w.heap.size + 1, 0, none⟩ = false := free_block hI.rs
      have q5 : wr.frozen? ⟨w.heap.size + 1, 1, none⟩ = false := free_block hI.rs
      have HO : Hid (LI w B (.slice x1 ns.length y1) (.slice x2 es.length y2) ns (es ++ ec) pv px wr ∧ wr.heap[w.heap.size]? = some (.cells #[.slice x1 ns.length y1, .slice ua (es ++ ec).length uc] 32 (0, 0))) := ⟨hI, hgb⟩
      have HLE : Hid ((es ++ ec).length ≤ es.length + s.size) := by show _ ≤ _; rw [List.length_append]; omega
      obtain ⟨m, hm⟩ : ∃ m, m = (es ++ ec).length := ⟨_, rfl⟩
      rw [← hm] at q1 HO
      clear hI hgb hog hm
      have HF : Hid (rsO s l (some at_) = none) := hbf
      clear hbf hbt
      by_cases hlt : i < c
      all_goals (
        go_wp2_with fail
        obtain ⟨r1, r2, r3, r4, r5⟩ := LI.out HO.out.1 HO.out.2
        obtain ⟨G, hG⟩ : ∃ G, G = (wr.setCell ⟨w.heap.size + 1, 0, none⟩ (.slice x1 ns.length y1)).setCell ⟨w.heap.size + 1, 1, none⟩ (.slice ua m uc) := ⟨_, rfl⟩
        rw [← hG] at r1 r2 r3 r4 ⊢
        refine bodyPost_ret (v := .tuple #[.agg #[.slice x1 ns.length y1, .slice ua m uc], .bool false]) (by simp [results, Tryz.results62, go_sem, r1, r2]) rfl ?_
        refine ⟨_, false, es ++ ec, rfl, r3, r4, HLE.out, r5, ?_, ?_⟩
        · intro h; cases h
        · intro _ e; rw [HF.out]; intro h; cases h)
    · obtain ⟨hT, hp1, hp2⟩ := hbt rfl
      by_cases hlt : i < c
      · obtain ⟨wo, hwo⟩ : ∃ wo, wo = wr := ⟨_, rfl⟩
        subst hwo
        have hci : c - i = (c - (i + 1)) + 1 := by omega
        rw [hci] at hT
        have HTT : Hid (rsK s l (c - (i + 1) + 1) p ec = rsO s l (some at_) ∧ (ec.length : Int) ≤ p ∧ p ≤ s.size ∧ ec.length ≤ s.size) := ⟨hT, hp1, hp2, hel⟩
        have HI : Hid (LI w B (.slice x1 ns.length y1) (.slice x2 es.length y2) ns (es ++ ec) pv px wo) := hI
        obtain ⟨cd, p1, b1, e0, e1, e2, e3⟩ := nmV_parts s p
        have HQ : Hid ((b1 = true → nmO s p = some ((cd : Int), p1)) ∧ (b1 = false → nmO s p = none)) := ⟨e1, e2⟩
        have HNV : Hid (nmV (nmO s p) = .tuple #[.int .i64 (cd : Int), .int .i64 p1, .bool b1]) := e0
        clear hci hT hp1 hp2 hel hI hbt hbf e0 e1 e2
        go_wp2_with fail
        refine (spec_NumAt s p _ (by have := HH.out.1; omega)).mono ?_
        rintro e w2 ⟨rfl, b2⟩
        rw [HNV.out]
        have hzo := HI.out.size
        have HB2 : Hid (Below wo.heap.size wo w2) := ((Below.refl _ _).alloc (Nat.le_refl _) _).trans (b2.mono (by simp))
        have HE2 : Hid (w2.ownsRow wo.heap.size 3 1 (.slice (some ⟨wo.heap.size, 0, none⟩) 0 0) 0 []) := own_keep (own_new0 (new_block _ _) (Nat.le_refl _)) b2
        have HI2 : Hid (LI w B (.slice x1 ns.length y1) (.slice x2 es.length y2) ns (es ++ ec) (.slice (some ⟨wo.heap.size, 0, none⟩) 0 0) [] w2) := HI.out.rowed HB2.out (Nat.le_refl _) HE2.out
        clear b2
        go_upto_if 40 with fail
        go_cut [2, 11, 14] (fun s2 s11 s14 wx => ∃ (p2 : Int) (b2 : Bool) (row : List Int), s2 = .int .i64 p2 ∧ s11 = .bool b2 ∧ LI w B (.slice x1 ns.length y1) (.slice x2 es.length y2) ns (es ++ ec) s14 row wx ∧ (b2 = true → rsK s l (c - (i + 1)) p2 (ec ++ rowE l cd row) = rsO s l (some at_) ∧ (ec.length : Int) + row.length ≤ p2 ∧ p2 ≤ s.size ∧ (cd : Int) ≤ 16383 ∧ ∀ y ∈ row, 0 ≤ y ∧ y ≤ 16383) ∧ (b2 = false → row = [] ∧ rsO s l (some at_) = none))
        case first =>
          cases b1
          · have hq := HQ.out.2 rfl
            have HF : Hid (rsO s l (some at_) = none) := by
              show rsO s l (some at_) = none
              rw [← HTT.out.1, rsK_succ, hq]
            clear hq
            go_wp2_with fail
            go_meet
            exact ⟨p1, false, [], rfl, rfl, HI2.out, fun h => absurd h (by decide), fun _ => ⟨rfl, HF.out⟩⟩
          · have hq := HQ.out.1 rfl
            have hbd := nmO_bd hq
            have HT1 : Hid ((match rwO s p1 with | none => none | some (row, k2) => rsK s l (c - (i + 1)) k2 (ec ++ rowE l cd row)) = rsO s l (some at_) ∧ (ec.length : Int) + 1 ≤ p1 ∧ (cd : Int) ≤ 16383) := by
              refine ⟨?_, by have := HTT.out.2.1; omega, hbd.2.1⟩
              rw [← HTT.out.1, rsK_succ, hq]
              rfl
            clear hq hbd
            go_wp2_with fail
            refine (spec_RowAt s p1 _ HH.out.1).mono ?_
            rintro e w3 ⟨v, rfl, hret, b3⟩
            cases hr : rwO s p1 with
            | none =>
              rw [hr] at hret
              obtain ⟨u, rfl, hu⟩ := hret
              have HL : Hid (LI w B (.slice x1 ns.length y1) (.slice x2 es.length y2) ns (es ++ ec) u [] w3) := HI2.out.rowed b3 (Nat.le_refl _) hu
              have HF : Hid (rsO s l (some at_) = none) := by
                show rsO s l (some at_) = none
                rw [← HT1.out.1, hr]
              clear hu b3 hr
              go_wp2_with fail
              go_meet
              exact ⟨0, false, [], rfl, rfl, HL.out, fun h => absurd h (by decide), fun _ => ⟨rfl, HF.out⟩⟩
            | some z =>
              obtain ⟨row, k2⟩ := z
              rw [hr] at hret
              obtain ⟨u, rfl, hu⟩ := hret
              have HL : Hid (LI w B (.slice x1 ns.length y1) (.slice x2 es.length y2) ns (es ++ ec) u row w3) := HI2.out.rowed b3 (Nat.le_refl _) hu
              have hbd := rwO_bd hr
              have HT3 : Hid (rsK s l (c - (i + 1)) k2 (ec ++ rowE l cd row) = rsO s l (some at_) ∧ (ec.length : Int) + row.length ≤ k2 ∧ k2 ≤ s.size ∧ (cd : Int) ≤ 16383 ∧ ∀ y ∈ row, 0 ≤ y ∧ y ≤ 16383) := by
                refine ⟨?_, by have := HT1.out.2.1; omega, hbd.2.2.1, HT1.out.2.2, hbd.1⟩
                rw [← HT1.out.1, hr]
              clear hu b3 hr hbd
              go_wp2_with fail
              go_meet
              exact ⟨k2, true, row, rfl, rfl, HL.out, fun _ => HT3.out, fun h => absurd h (by decide)⟩
        case rest =>
          obtain ⟨p2, b2, row, rfl, rfl, hL, ht, hf⟩ := hcut
          obtain ⟨ra, rc, rfl⟩ := own_form hL.pd
          generalize wc = w4 at *
          have HL : Hid (LI w B (.slice x1 ns.length y1) (.slice x2 es.length y2) ns (es ++ ec) (.slice ra row.length rc) row w4) := hL
          have HR2 : Hid ((b2 = true → rsK s l (c - (i + 1)) p2 (ec ++ rowE l cd row) = rsO s l (some at_) ∧ (ec.length : Int) + row.length ≤ p2 ∧ p2 ≤ s.size ∧ (cd : Int) ≤ 16383 ∧ ∀ y ∈ row, 0 ≤ y ∧ y ≤ 16383) ∧ (b2 = false → row = [] ∧ rsO s l (some at_) = none)) := ⟨ht, hf⟩
          obtain ⟨m, hm⟩ : ∃ m, m = row.length := ⟨_, rfl⟩
          have HM : Hid (m = row.length) := hm
          rw [← hm] at HL ⊢
          clear hL ht hf hm
          go_wp2_with fail
          go_loopw [15] (fun q wr => ∃ j : Nat, j ≤ m ∧ q = .int .i64 j ∧ LI w B (.slice x1 ns.length y1) (.slice x2 es.length y2) ns (es ++ (ec ++ rowE l cd (row.take j))) (.slice ra m rc) row wr) (fun q _ => m - (intOf q).toNat)
          case atStart => exact ⟨0, by omega, rfl, by simpa [rowE] using HL.out⟩
          case round =>
            obtain ⟨j, hj, rfl, hJ⟩ := hrel
            by_cases hlj : j < m
            · cases b2
              · have := (HR2.out.2 rfl).1
                have := HM.out
                simp_all
              · obtain ⟨wi, hwi⟩ : ∃ wi, wi = wr := ⟨_, rfl⟩
                subst hwi
                have ht := HR2.out.1 rfl
                obtain ⟨y, hy⟩ : ∃ y, row[j]? = some y := ⟨_, List.getElem?_eq_getElem (by rw [← HM.out]; exact hlj)⟩
                have hyb := ht.2.2.2.2 y (List.mem_of_getElem? hy)
                have hcd := ht.2.2.2.1
                have hml : m ≤ 1048576 := by
                  have := HM.out
                  have := HH.out.1
                  have h2 := ht.2.1
                  have h3 := ht.2.2.1
                  omega
                obtain ⟨EL, hEL⟩ : ∃ EL, EL = es ++ (ec ++ rowE l cd (row.take j)) := ⟨_, rfl⟩
                have hle : EL.length ≤ 4194304 := by
                  have := rowE_take_le l cd row j
                  have := HTT.out.2.2.2
                  have := HH.out
                  rw [hEL, List.length_append, List.length_append]; omega
                rw [← hEL] at hJ
                have HEL : Hid (EL = es ++ (ec ++ rowE l cd (row.take j))) := hEL
                rcases row_of_own encI_len (by decide) hJ.pd with ⟨hz, _⟩ | ⟨_, b1, q0, q1, hv1, hb1, E1⟩
                · have hz : row = [] := hz
                  rw [hz] at hy; cases hy
                obtain rfl : ra = some ⟨b1, q0, none⟩ := by injection hv1
                have e0 : wi.cell? ⟨b1, q0 + j, none⟩ = some (.int .i64 y) := cellI E1 hy
                have hSd : Hid (∀ w', Below wi.heap.size wi w' → w'.cell? ⟨b1, q0 + j, none⟩ = some (.int .i64 y)) := fun w' hb => by rw [Below.celz hb _ _ _ hb1]; exact e0
                obtain ⟨u2, hgb, hog, _, _⟩ := hJ.gb
                obtain ⟨ua, uc, rfl⟩ := own_form hog.2.1
                have HJJ : Hid (LI w B (.slice x1 ns.length y1) (.slice x2 es.length y2) ns EL (.slice (some ⟨b1, q0, none⟩) m rc) row wi ∧ wi.heap[w.heap.size]? = some (.cells #[.slice x1 ns.length y1, .slice ua EL.length uc] 32 (0, 0)) ∧ OwnGraph wi B (.slice x1 ns.length y1) (.slice ua EL.length uc) ns EL) := ⟨hJ, hgb, hog⟩
                have HY : Hid (row[j]? = some y) := hy
                have k0 : (0 : Int) ≤ (j : Int) := by omega
                have k1 : (j : Int) < (m : Int) := by omega
                have bd : Below wi.heap.size wi wi.drew := (Below.refl _ _).drew
                have hzi := hJ.size
                clear ht hJ hgb hog hy E1 hv1 e0 hEL
                go_upto_region 13 with fail
                go_cut [16] (fun s16 wx => ∃ C, s16 = .pointer (some ⟨C, 0, none⟩) ∧ Below wi.heap.size wi wx ∧ wi.heap.size ≤ C ∧ wx.heap[C]? = some (.cells #[.int .i64 l, .int .i64 ((cd : Int) / 64), .int .i64 ((cd : Int) % 64), .int .i64 (y / 64), .int .i64 (y % 64)] 72 (0, 0)))
                case first =>
                  refine region_plain (S := fun w' => w'.cell? ⟨b1, q0 + j, none⟩ = some (.int .i64 y)) (by kernel_rfl) (hSd.out _ bd) (fun _ => ?_)
                  refine takeH 0 (.int .i64 l) rfl (by kernel_rfl) (by kernel_rfl) (by kernel_rfl) (Or.inl ⟨by rfl, fun w' hS' => by go_simp⟩) (hSd.out _ bd) ?_
                  simp only [Act.put, List.setIfInBounds_toArray]
                  refine takeH 1 (.int .i64 (cd : Int)) rfl (by kernel_rfl) (by kernel_rfl) (by kernel_rfl) (Or.inl ⟨by rfl, fun w' hS' => by go_simp⟩) (hSd.out _ bd) ?_
                  simp only [Act.put]
                  refine takeH 3 (.slice (some ⟨b1, q0, none⟩) m rc) rfl (by kernel_rfl) (by kernel_rfl) (by kernel_rfl) (Or.inl ⟨by rfl, fun w' hS' => by go_simp⟩) (hSd.out _ bd) ?_
                  simp only [Act.put]
                  refine takeH 4 (.int .i64 (j : Int)) rfl (by kernel_rfl) (by kernel_rfl) (by kernel_rfl) (Or.inl ⟨by rfl, fun w' hS' => by go_simp⟩) (hSd.out _ bd) ?_
                  simp only [Act.put]
                  refine takeH 5 (.pointer (some ⟨b1, q0 + j, none⟩)) rfl (by kernel_rfl) (by kernel_rfl) (by kernel_rfl) (Or.inl ⟨by rfl, fun w' hS' => by go_simp⟩) (hSd.out _ bd) ?_
                  simp only [Act.put]
                  refine takeH 6 (.int .i64 y) rfl (by kernel_rfl) (by kernel_rfl) (by kernel_rfl) (Or.inl ⟨by rfl, fun w' hS' => by go_simp⟩) (hSd.out _ bd) ?_
                  simp only [Act.put]
                  refine wpAnyH_ready (rs := [2, 9]) (by kernel_rfl) (by simp) ?_
                  refine AllReadyH.cons rfl (fun K hK => ?_) ?_
                  · go_simp
                    refine (l4Node (cd : Int) _ (by omega) hcd).mono ?_
                    rintro e wq0 ⟨rfl, hq0⟩
                    have bq0 : Below wi.heap.size wi wq0 := bd.trans (hq0.mono bd.size)
                    try simp only []
                    refine hK.out _ _ (hSd.out _ bq0) (fun _ => ?_)
                    clear hK K
                    refine wpAnyH_ready (rs := [7, 9]) (by kernel_rfl) (by simp) ?_
                    refine AllReadyH.cons rfl (fun K hK => ?_) ?_
                    · go_simp
                      refine (l4Node y _ hyb.1 hyb.2).mono ?_
                      rintro e wq1 ⟨rfl, hq1⟩
                      have bq1 : Below wi.heap.size wi wq1 := bq0.trans (hq1.mono bq0.size)
                      try simp only []
                      refine hK.out _ _ (hSd.out _ bq1) (fun _ => ?_)
                      clear hK K
                      refine takeH 8 (.agg #[.int .i64 l, .int .i64 ((cd : Int) / 64), .int .i64 ((cd : Int) % 64), .int .i64 (y / 64), .int .i64 (y % 64)]) rfl (by kernel_rfl) (by kernel_rfl) (by kernel_rfl) (Or.inl ⟨by rfl, fun w' hS' => by go_simp⟩) (hSd.out _ bq1) ?_
                      simp only [Act.put, List.setIfInBounds_toArray]
                      refine wpAnyH_ready (rs := [9]) (by kernel_rfl) (by simp) ?_
                      refine AllReadyH.cons rfl (fun K hK => ?_) AllReadyH.nil
                      obtain ⟨wz2, ewz2⟩ : ∃ t, t = wq1.alloc (.cells #[.int .i64 0, .int .i64 0, .int .i64 0, .int .i64 0, .int .i64 0] 72) := ⟨_, rfl⟩
                      have bz2 : Below wi.heap.size wi wz2 := by rw [ewz2]; exact bq1.alloc bq1.size _
                      have hz2 : wz2.heap[wq1.heap.size]? = some (.cells #[.int .i64 0, .int .i64 0, .int .i64 0, .int .i64 0, .int .i64 0] 72 (0, 0)) := by rw [ewz2]; exact new_block _ _
                      have hE2 : Hid (wz2 = wq1.alloc (.cells #[.int .i64 0, .int .i64 0, .int .i64 0, .int .i64 0, .int .i64 0] 72)) := ewz2
                      clear ewz2
                      go_simp
                      rw [← hE2.out]
                      refine hK.out _ _ (hSd.out _ bz2) (fun _ => ?_)
                      clear hK K
                      refine wpAnyH_ready (rs := [10]) (by kernel_rfl) (by simp) ?_
                      refine AllReadyH.cons rfl (fun K hK => ?_) AllReadyH.nil
                      have z0 : wz2.cell? ⟨wq1.heap.size, 0, none⟩ = some (.int .i64 0) := by rw [cell_block hz2]; rfl
                      have f0 : wz2.frozen? ⟨wq1.heap.size, 0, none⟩ = false := free_block hz2
                      have z1 : wz2.cell? ⟨wq1.heap.size, 1, none⟩ = some (.int .i64 0) := by rw [cell_block hz2]; rfl
                      have f1 : wz2.frozen? ⟨wq1.heap.size, 1, none⟩ = false := free_block hz2
                      have z2 : wz2.cell? ⟨wq1.heap.size, 2, none⟩ = some (.int .i64 0) := by rw [cell_block hz2]; rfl
                      have f2 : wz2.frozen? ⟨wq1.heap.size, 2, none⟩ = false := free_block hz2
                      have z3 : wz2.cell? ⟨wq1.heap.size, 3, none⟩ = some (.int .i64 0) := by rw [cell_block hz2]; rfl
                      have f3 : wz2.frozen? ⟨wq1.heap.size, 3, none⟩ = false := free_block hz2
                      have z4 : wz2.cell? ⟨wq1.heap.size, 4, none⟩ = some (.int .i64 0) := by rw [cell_block hz2]; rfl
                      have f4 : wz2.frozen? ⟨wq1.heap.size, 4, none⟩ = false := free_block hz2
                      have hCw : wi.heap.size ≤ wq1.heap.size := bq1.size
                      obtain ⟨G, hG⟩ : ∃ G, G = (((((wz2).setCell ⟨wq1.heap.size, 0, none⟩ (.int .i64 (l))).setCell ⟨wq1.heap.size, 1, none⟩ (.int .i64 ((cd : Int) / 64))).setCell ⟨wq1.heap.size, 2, none⟩ (.int .i64 ((cd : Int) % 64))).setCell ⟨wq1.heap.size, 3, none⟩ (.int .i64 (y / 64))).setCell ⟨wq1.heap.size, 4, none⟩ (.int .i64 (y % 64)) := ⟨_, rfl⟩
                      have hGc : G.heap[wq1.heap.size]? = some (.cells #[.int .i64 (l), .int .i64 ((cd : Int) / 64), .int .i64 ((cd : Int) % 64), .int .i64 (y / 64), .int .i64 (y % 64)] 72 (0, 0)) := by rw [hG]; simpa using set_blk (i := 4) (.int .i64 (y % 64)) (set_blk (i := 3) (.int .i64 (y / 64)) (set_blk (i := 2) (.int .i64 ((cd : Int) % 64)) (set_blk (i := 1) (.int .i64 ((cd : Int) / 64)) (set_blk (i := 0) (.int .i64 (l)) (hz2)))))
                      have bG : Below wi.heap.size wi G := by rw [hG]; exact ((((((((((bz2).setCell (p := ⟨wq1.heap.size, 0, none⟩) hCw _)).setCell (p := ⟨wq1.heap.size, 1, none⟩) hCw _)).setCell (p := ⟨wq1.heap.size, 2, none⟩) hCw _)).setCell (p := ⟨wq1.heap.size, 3, none⟩) hCw _)).setCell (p := ⟨wq1.heap.size, 4, none⟩) hCw _)
                      have HG : Hid (G = (((((wz2).setCell ⟨wq1.heap.size, 0, none⟩ (.int .i64 (l))).setCell ⟨wq1.heap.size, 1, none⟩ (.int .i64 ((cd : Int) / 64))).setCell ⟨wq1.heap.size, 2, none⟩ (.int .i64 ((cd : Int) % 64))).setCell ⟨wq1.heap.size, 3, none⟩ (.int .i64 (y / 64))).setCell ⟨wq1.heap.size, 4, none⟩ (.int .i64 (y % 64))) := hG
                      clear hG
                      go_simp
                      rw [← HG.out]
                      refine hK.out _ _ (hSd.out _ bG) (fun _ => ?_)
                      clear hK K
                      refine wpAnyH_done (by kernel_rfl) ?_ _
                      refine ⟨rfl, ?_⟩
                      go_wp2_with fail
                      go_meet
                      exact ⟨wq1.heap.size, rfl, bG, hCw, hGc⟩
                    refine AllReadyH.cons rfl (fun K hK => ?_) AllReadyH.nil
                    obtain ⟨wz1, ewz1⟩ : ∃ t, t = wq0.alloc (.cells #[.int .i64 0, .int .i64 0, .int .i64 0, .int .i64 0, .int .i64 0] 72) := ⟨_, rfl⟩
                    have bz1 : Below wi.heap.size wi wz1 := by rw [ewz1]; exact bq0.alloc bq0.size _
                    have hz1 : wz1.heap[wq0.heap.size]? = some (.cells #[.int .i64 0, .int .i64 0, .int .i64 0, .int .i64 0, .int .i64 0] 72 (0, 0)) := by rw [ewz1]; exact new_block _ _
                    have hE1 : Hid (wz1 = wq0.alloc (.cells #[.int .i64 0, .int .i64 0, .int .i64 0, .int .i64 0, .int .i64 0] 72)) := ewz1
                    clear ewz1
                    go_simp
                    rw [← hE1.out]
                    refine hK.out _ _ (hSd.out _ bz1) (fun _ => ?_)
                    clear hK K
                    refine wpAnyH_ready (rs := [7]) (by kernel_rfl) (by simp) ?_
                    refine AllReadyH.cons rfl (fun K hK => ?_) AllReadyH.nil
                    go_simp
                    refine (l4Node y _ hyb.1 hyb.2).mono ?_
                    rintro e wq2 ⟨rfl, hq2⟩
                    have bq2 : Below wi.heap.size wi wq2 := bz1.trans (hq2.mono bz1.size)
                    have hz2 : wq2.heap[wq0.heap.size]? = some (.cells #[.int .i64 0, .int .i64 0, .int .i64 0, .int .i64 0, .int .i64 0] 72 (0, 0)) := (hq2.block _ (lt_of_block hz1)).trans hz1
                    try simp only []
                    refine hK.out _ _ (hSd.out _ bq2) (fun _ => ?_)
                    clear hK K
                    refine takeH 8 (.agg #[.int .i64 l, .int .i64 ((cd : Int) / 64), .int .i64 ((cd : Int) % 64), .int .i64 (y / 64), .int .i64 (y % 64)]) rfl (by kernel_rfl) (by kernel_rfl) (by kernel_rfl) (Or.inl ⟨by rfl, fun w' hS' => by go_simp⟩) (hSd.out _ bq2) ?_
                    simp only [Act.put, List.setIfInBounds_toArray]
                    refine wpAnyH_ready (rs := [10]) (by kernel_rfl) (by simp) ?_
                    refine AllReadyH.cons rfl (fun K hK => ?_) AllReadyH.nil
                    have z0 : wq2.cell? ⟨wq0.heap.size, 0, none⟩ = some (.int .i64 0) := by rw [cell_block hz2]; rfl
                    have f0 : wq2.frozen? ⟨wq0.heap.size, 0, none⟩ = false := free_block hz2
                    have z1 : wq2.cell? ⟨wq0.heap.size, 1, none⟩ = some (.int .i64 0) := by rw [cell_block hz2]; rfl
                    have f1 : wq2.frozen? ⟨wq0.heap.size, 1, none⟩ = false := free_block hz2
                    have z2 : wq2.cell? ⟨wq0.heap.size, 2, none⟩ = some (.int .i64 0) := by rw [cell_block hz2]; rfl
                    have f2 : wq2.frozen? ⟨wq0.heap.size, 2, none⟩ = false := free_block hz2
                    have z3 : wq2.cell? ⟨wq0.heap.size, 3, none⟩ = some (.int .i64 0) := by rw [cell_block hz2]; rfl
                    have f3 : wq2.frozen? ⟨wq0.heap.size, 3, none⟩ = false := free_block hz2
                    have z4 : wq2.cell? ⟨wq0.heap.size, 4, none⟩ = some (.int .i64 0) := by rw [cell_block hz2]; rfl
                    have f4 : wq2.frozen? ⟨wq0.heap.size, 4, none⟩ = false := free_block hz2
                    have hCw : wi.heap.size ≤ wq0.heap.size := bq0.size
                    obtain ⟨G, hG⟩ : ∃ G, G = (((((wq2).setCell ⟨wq0.heap.size, 0, none⟩ (.int .i64 (l))).setCell ⟨wq0.heap.size, 1, none⟩ (.int .i64 ((cd : Int) / 64))).setCell ⟨wq0.heap.size, 2, none⟩ (.int .i64 ((cd : Int) % 64))).setCell ⟨wq0.heap.size, 3, none⟩ (.int .i64 (y / 64))).setCell ⟨wq0.heap.size, 4, none⟩ (.int .i64 (y % 64)) := ⟨_, rfl⟩
                    have hGc : G.heap[wq0.heap.size]? = some (.cells #[.int .i64 (l), .int .i64 ((cd : Int) / 64), .int .i64 ((cd : Int) % 64), .int .i64 (y / 64), .int .i64 (y % 64)] 72 (0, 0)) := by rw [hG]; simpa using set_blk (i := 4) (.int .i64 (y % 64)) (set_blk (i := 3) (.int .i64 (y / 64)) (set_blk (i := 2) (.int .i64 ((cd : Int) % 64)) (set_blk (i := 1) (.int .i64 ((cd : Int) / 64)) (set_blk (i := 0) (.int .i64 (l)) (hz2)))))
                    have bG : Below wi.heap.size wi G := by rw [hG]; exact ((((((((((bq2).setCell (p := ⟨wq0.heap.size, 0, none⟩) hCw _)).setCell (p := ⟨wq0.heap.size, 1, none⟩) hCw _)).setCell (p := ⟨wq0.heap.size, 2, none⟩) hCw _)).setCell (p := ⟨wq0.heap.size, 3, none⟩) hCw _)).setCell (p := ⟨wq0.heap.size, 4, none⟩) hCw _)
                    have HG : Hid (G = (((((wq2).setCell ⟨wq0.heap.size, 0, none⟩ (.int .i64 (l))).setCell ⟨wq0.heap.size, 1, none⟩ (.int .i64 ((cd : Int) / 64))).setCell ⟨wq0.heap.size, 2, none⟩ (.int .i64 ((cd : Int) % 64))).setCell ⟨wq0.heap.size, 3, none⟩ (.int .i64 (y / 64))).setCell ⟨wq0.heap.size, 4, none⟩ (.int .i64 (y % 64))) := hG
                    clear hG
                    go_simp
                    rw [← HG.out]
                    refine hK.out _ _ (hSd.out _ bG) (fun _ => ?_)
                    clear hK K
                    refine wpAnyH_done (by kernel_rfl) ?_ _
                    refine ⟨rfl, ?_⟩
                    go_wp2_with fail
                    go_meet
                    exact ⟨wq0.heap.size, rfl, bG, hCw, hGc⟩
                  refine AllReadyH.cons rfl (fun K hK => ?_) AllReadyH.nil
                  obtain ⟨wz0, ewz0⟩ : ∃ t, t = (wi.alloc (.cells #[.int .i64 0, .int .i64 0, .int .i64 0, .int .i64 0, .int .i64 0] 72)).drew := ⟨_, rfl⟩
                  have bz0 : Below wi.heap.size wi wz0 := by rw [ewz0]; exact ((Below.refl _ _).alloc (Nat.le_refl _) _).drew
                  have hz0 : wz0.heap[wi.heap.size]? = some (.cells #[.int .i64 0, .int .i64 0, .int .i64 0, .int .i64 0, .int .i64 0] 72 (0, 0)) := by rw [ewz0]; exact new_block wi _
                  have hE0 : Hid (wz0 = (wi.alloc (.cells #[.int .i64 0, .int .i64 0, .int .i64 0, .int .i64 0, .int .i64 0] 72)).drew) := ewz0
                  clear ewz0
                  go_simp
                  rw [← hE0.out]
                  refine hK.out _ _ (hSd.out _ bz0) (fun _ => ?_)
                  clear hK K
                  refine wpAnyH_ready (rs := [2]) (by kernel_rfl) (by simp) ?_
                  refine AllReadyH.cons rfl (fun K hK => ?_) AllReadyH.nil
                  go_simp
                  refine (l4Node (cd : Int) _ (by omega) hcd).mono ?_
                  rintro e wq1 ⟨rfl, hq1⟩
                  have bq1 : Below wi.heap.size wi wq1 := bz0.trans (hq1.mono bz0.size)
                  have hz1 : wq1.heap[wi.heap.size]? = some (.cells #[.int .i64 0, .int .i64 0, .int .i64 0, .int .i64 0, .int .i64 0] 72 (0, 0)) := (hq1.block _ (lt_of_block hz0)).trans hz0
                  try simp only []
                  refine hK.out _ _ (hSd.out _ bq1) (fun _ => ?_)
                  clear hK K
                  refine wpAnyH_ready (rs := [7]) (by kernel_rfl) (by simp) ?_
                  refine AllReadyH.cons rfl (fun K hK => ?_) AllReadyH.nil
                  go_simp
                  refine (l4Node y _ hyb.1 hyb.2).mono ?_
                  rintro e wq2 ⟨rfl, hq2⟩
                  have bq2 : Below wi.heap.size wi wq2 := bq1.trans (hq2.mono bq1.size)
                  have hz2 : wq2.heap[wi.heap.size]? = some (.cells #[.int .i64 0, .int .i64 0, .int .i64 0, .int .i64 0, .int .i64 0] 72 (0, 0)) := (hq2.block _ (lt_of_block hz1)).trans hz1
                  try simp only []
                  refine hK.out _ _ (hSd.out _ bq2) (fun _ => ?_)
                  clear hK K
                  refine takeH 8 (.agg #[.int .i64 l, .int .i64 ((cd : Int) / 64), .int .i64 ((cd : Int) % 64), .int .i64 (y / 64), .int .i64 (y % 64)]) rfl (by kernel_rfl) (by kernel_rfl) (by kernel_rfl) (Or.inl ⟨by rfl, fun w' hS' => by go_simp⟩) (hSd.out _ bq2) ?_
                  simp only [Act.put, List.setIfInBounds_toArray]
                  refine wpAnyH_ready (rs := [10]) (by kernel_rfl) (by simp) ?_
                  refine AllReadyH.cons rfl (fun K hK => ?_) AllReadyH.nil
                  have z0 : wq2.cell? ⟨wi.heap.size, 0, none⟩ = some (.int .i64 0) := by rw [cell_block hz2]; rfl
                  have f0 : wq2.frozen? ⟨wi.heap.size, 0, none⟩ = false := free_block hz2
                  have z1 : wq2.cell? ⟨wi.heap.size, 1, none⟩ = some (.int .i64 0) := by rw [cell_block hz2]; rfl
                  have f1 : wq2.frozen? ⟨wi.heap.size, 1, none⟩ = false := free_block hz2
                  have z2 : wq2.cell? ⟨wi.heap.size, 2, none⟩ = some (.int .i64 0) := by rw [cell_block hz2]; rfl
                  have f2 : wq2.frozen? ⟨wi.heap.size, 2, none⟩ = false := free_block hz2
                  have z3 : wq2.cell? ⟨wi.heap.size, 3, none⟩ = some (.int .i64 0) := by rw [cell_block hz2]; rfl
                  have f3 : wq2.frozen? ⟨wi.heap.size, 3, none⟩ = false := free_block hz2
                  have z4 : wq2.cell? ⟨wi.heap.size, 4, none⟩ = some (.int .i64 0) := by rw [cell_block hz2]; rfl
                  have f4 : wq2.frozen? ⟨wi.heap.size, 4, none⟩ = false := free_block hz2
                  have hCw : wi.heap.size ≤ wi.heap.size := Nat.le_refl _
                  obtain ⟨G, hG⟩ : ∃ G, G = (((((wq2).setCell ⟨wi.heap.size, 0, none⟩ (.int .i64 (l))).setCell ⟨wi.heap.size, 1, none⟩ (.int .i64 ((cd : Int) / 64))).setCell ⟨wi.heap.size, 2, none⟩ (.int .i64 ((cd : Int) % 64))).setCell ⟨wi.heap.size, 3, none⟩ (.int .i64 (y / 64))).setCell ⟨wi.heap.size, 4, none⟩ (.int .i64 (y % 64)) := ⟨_, rfl⟩
                  have hGc : G.heap[wi.heap.size]? = some (.cells #[.int .i64 (l), .int .i64 ((cd : Int) / 64), .int .i64 ((cd : Int) % 64), .int .i64 (y / 64), .int .i64 (y % 64)] 72 (0, 0)) := by rw [hG]; simpa using set_blk (i := 4) (.int .i64 (y % 64)) (set_blk (i := 3) (.int .i64 (y / 64)) (set_blk (i := 2) (.int .i64 ((cd : Int) % 64)) (set_blk (i := 1) (.int .i64 ((cd : Int) / 64)) (set_blk (i := 0) (.int .i64 (l)) (hz2)))))
                  have bG : Below wi.heap.size wi G := by rw [hG]; exact ((((((((((bq2).setCell (p := ⟨wi.heap.size, 0, none⟩) hCw _)).setCell (p := ⟨wi.heap.size, 1, none⟩) hCw _)).setCell (p := ⟨wi.heap.size, 2, none⟩) hCw _)).setCell (p := ⟨wi.heap.size, 3, none⟩) hCw _)).setCell (p := ⟨wi.heap.size, 4, none⟩) hCw _)
                  have HG : Hid (G = (((((wq2).setCell ⟨wi.heap.size, 0, none⟩ (.int .i64 (l))).setCell ⟨wi.heap.size, 1, none⟩ (.int .i64 ((cd : Int) / 64))).setCell ⟨wi.heap.size, 2, none⟩ (.int .i64 ((cd : Int) % 64))).setCell ⟨wi.heap.size, 3, none⟩ (.int .i64 (y / 64))).setCell ⟨wi.heap.size, 4, none⟩ (.int .i64 (y % 64))) := hG
                  clear hG
                  go_simp
                  rw [← HG.out]
                  refine hK.out _ _ (hSd.out _ bG) (fun _ => ?_)
                  clear hK K
                  refine wpAnyH_done (by kernel_rfl) ?_ _
                  refine ⟨rfl, ?_⟩
                  go_wp2_with fail
                  go_meet
                  exact ⟨wi.heap.size, rfl, bG, hCw, hGc⟩
                case rest =>
                  obtain ⟨C, rfl, bx, hC, hcc⟩ := hcut
                  generalize wc = w5 at *
                  have HL5 : Hid (LI w B (.slice x1 ns.length y1) (.slice x2 es.length y2) ns EL (.slice (some ⟨b1, q0, none⟩) m rc) row w5) := HJJ.out.1.below bx
                  have hg5 : w5.heap[w.heap.size]? = some (.cells #[.slice x1 ns.length y1, .slice ua EL.length uc] 32 (0, 0)) := (bx.block _ (by omega)).trans HJJ.out.2.1
                  have ho5 := HJJ.out.2.2.keep bx
                  have d0 : w5.cell? ⟨b1, q0 + j, none⟩ = some (.int .i64 y) := hSd.out _ bx
                  have d1 : w5.cell? ⟨w.heap.size, 1, none⟩ = some (.slice ua EL.length uc) := by rw [cell_block hg5]; rfl
                  have d2 : w5.cell? ⟨C, 0, none⟩ = some (.int .i64 l) := by rw [cell_block hcc]; rfl
                  have d3 : w5.cell? ⟨C, 1, none⟩ = some (.int .i64 ((cd : Int) / 64)) := by rw [cell_block hcc]; rfl
                  have d4 : w5.cell? ⟨C, 2, none⟩ = some (.int .i64 ((cd : Int) % 64)) := by rw [cell_block hcc]; rfl
                  have d5 : w5.cell? ⟨C, 3, none⟩ = some (.int .i64 (y / 64)) := by rw [cell_block hcc]; rfl
                  have d6 : w5.cell? ⟨C, 4, none⟩ = some (.int .i64 (y % 64)) := by rw [cell_block hcc]; rfl
                  have hz5 := HL5.out.size
                  have H5 : Hid (w5.heap[w.heap.size]? = some (.cells #[.slice x1 ns.length y1, .slice ua EL.length uc] 32 (0, 0)) ∧ OwnGraph w5 B (.slice x1 ns.length y1) (.slice ua EL.length uc) ns EL) := ⟨hg5, ho5⟩
                  clear bx hg5 ho5 hcc bd
                  by_cases hc : (cd : Int) < y
                  · go_wp2_with (at_builtin; refine wpList_append_own_at _ rfl _ _ 30 rfl B 72 iE _ 5 40 Tryz.underlying30 jE zE0 zE1 zE2 rfl (by decide) _ _ _ rfl (own_keep H5.out.2.2.1 ((Below.refl _ _).alloc (Nat.le_refl _) _)) ⟨w5.heap.size, 0, none⟩ 1 1 [.int .i64 l, .int .i64 ((cd : Int) / 64), .int .i64 ((cd : Int) % 64), .int .i64 (y / 64), .int .i64 (y % 64)] rfl rfl (new_cells _ _) (fun u hu => by simp at hu; rcases hu with rfl | rfl | rfl | rfl | rfl <;> rfl) (by unfold maxLen; omega) (by omega) (by have := HH.out.2.1; simp; omega) ?_)
                    intro v' w6 hown' hgrow _ hat
                    have hown2 : w6.ownsRow B 72 5 v' (EL.length + 1) (EL.flatMap encEdge ++ encEdge (l, (cd : Int) / 64, (cd : Int) % 64, y / 64, y % 64)) := hown'
                    obtain ⟨⟨f1, f2⟩, hfin⟩ := HL5.out.appE HH.out.2.1 H5.out.1 ((Below.refl _ _).alloc (Nat.le_refl _) (.cells #[.int .i64 l, .int .i64 ((cd : Int) / 64), .int .i64 ((cd : Int) % 64), .int .i64 (y / 64), .int .i64 (y % 64)] 72)) hgrow hown2 (by rw [World.size_alloc]; exact hat)
                    obtain ⟨g', cap', rfl⟩ := ownsRow_succ hown'
                    have HFIN : Hid (LI w B (.slice x1 ns.length y1) (.slice x2 es.length y2) ns (es ++ (ec ++ rowE l cd (row.take (j + 1)))) (.slice (some ⟨b1, q0, none⟩) m rc) row (w6.setCell ⟨w.heap.size, 1, none⟩ (.slice (some ⟨g', 0, none⟩) (EL.length + 1) cap'))) := by
                      show LI _ _ _ _ _ _ _ _ _
                      rw [rowE_step HY.out, if_pos hc, ← List.append_assoc ec, ← List.append_assoc es, ← HEL.out]
                      exact hfin
                    clear hown' hown2 hgrow hat hfin
                    go_wp2_with fail
                    go_roundw
                    case rel => exact ⟨j + 1, by omega, by go_num, HFIN.out⟩
                    case measure => simp [intOf]; omega
                  · have HFIN : Hid (LI w B (.slice x1 ns.length y1) (.slice x2 es.length y2) ns (es ++ (ec ++ rowE l cd (row.take (j + 1)))) (.slice (some ⟨b1, q0, none⟩) m rc) row w5) := by
                      show LI _ _ _ _ _ _ _ _ _
                      rw [rowE_step HY.out, if_neg hc, ← HEL.out]
                      exact HL5.out
                    go_wp2_with fail
                    go_roundw
                    case rel => exact ⟨j + 1, by omega, by go_num, HFIN.out⟩
                    case measure => simp [intOf]; omega
            · have hjm : j = m := by omega
              subst hjm
              have HJ : Hid (LI w B (.slice x1 ns.length y1) (.slice x2 es.length y2) ns (es ++ (ec ++ rowE l cd row)) (.slice ra j rc) row wr) := by
                have := hJ
                rw [List.take_of_length_le (by rw [← HM.out]; exact Nat.le_refl _)] at this
                exact this
              clear hJ
              have HFIN : Hid ((b2 = true → rsK s l (c - (i + 1)) p2 (ec ++ rowE l cd row) = rsO s l (some at_) ∧ ((ec ++ rowE l cd row).length : Int) ≤ p2 ∧ p2 ≤ s.size) ∧ (b2 = false → rsO s l (some at_) = none) ∧ (ec ++ rowE l cd row).length ≤ s.size) := by
                have hre := rowE_le l cd row
                cases b2
                · refine ⟨fun h => absurd h (by decide), fun _ => (HR2.out.2 rfl).2, ?_⟩
                  rw [(HR2.out.2 rfl).1]
                  simpa [rowE] using HTT.out.2.2.2
                · have h1 := HR2.out.1 rfl
                  refine ⟨fun _ => ⟨h1.1, ?_, h1.2.2.1⟩, fun h => absurd h (by decide), ?_⟩
                  · rw [List.length_append]; push_cast; omega
                  · rw [List.length_append]; omega
              cases b2
              all_goals (
                go_wp2_with fail
                go_roundw
                case rel => exact ⟨i + 1, p2, _, ec ++ rowE l cd row, _, _, by omega, by go_num, rfl, rfl, HFIN.out.1, HFIN.out.2.1, HFIN.out.2.2, HJ.out⟩
                case measure => simp [intOf]; omega)
      · have hic : i = c := by omega
        subst hic
        rw [Nat.sub_self] at hT
        have HT2 : Hid (some (ec, p) = rsO s l (some at_)) := hT
        obtain ⟨u2, hgb, hog, _, _⟩ := hI.gb
        obtain ⟨ua, uc, rfl⟩ := own_form hog.2.1
        have hz := hI.size
        have q0 : wr.cell? ⟨w.heap.size, 0, none⟩ = some (.slice x1 ns.length y1) := by rw [cell_block hgb]; rfl
        have q1 : wr.cell? ⟨w.heap.size, 1, none⟩ = some (.slice ua (es ++ ec).length uc) := by rw [cell_block hgb]; rfl
        have q2 : wr.cell? ⟨w.heap.size + 1, 0, none⟩ = some (.slice none 0 0) := by rw [cell_block hI.rs]; rfl
        have q3 : wr.cell? ⟨w.heap.size + 1, 1, none⟩ = some (.slice none 0 0) := by rw [cell_block hI.rs]; rfl
        have q4 : wr.frozen? ⟨w.heap.size + 1, 0, none⟩ = false := free_block hI.rs
        have q5 : wr.frozen? ⟨w.heap.size + 1, 1, none⟩ = false := free_block hI.rs
        have HO : Hid (LI w B (.slice x1 ns.length y1) (.slice x2 es.length y2) ns (es ++ ec) pv px wr ∧ wr.heap[w.heap.size]? = some (.cells #[.slice x1 ns.length y1, .slice ua (es ++ ec).length uc] 32 (0, 0))) := ⟨hI, hgb⟩
        have HLE : Hid ((es ++ ec).length ≤ es.length + s.size) := by show _ ≤ _; rw [List.length_append]; omega
        obtain ⟨m, hm⟩ : ∃ m, m = (es ++ ec).length := ⟨_, rfl⟩
        rw [← hm] at q1 HO
        clear hI hgb hog hm
        clear hbf hT hbt
        by_cases hps : p = (s.size : Int)
        · subst hps
          go_wp2_with fail
          obtain ⟨r1, r2, r3, r4, r5⟩ := LI.out HO.out.1 HO.out.2
          obtain ⟨G, hG⟩ : ∃ G, G = (wr.setCell ⟨w.heap.size + 1, 0, none⟩ (.slice x1 ns.length y1)).setCell ⟨w.heap.size + 1, 1, none⟩ (.slice ua m uc) := ⟨_, rfl⟩
          rw [← hG] at r1 r2 r3 r4 ⊢
          refine bodyPost_ret (v := .tuple #[.agg #[.slice x1 ns.length y1, .slice ua m uc], .bool true]) (by simp [results, Tryz.results62, go_sem, r1, r2]) rfl ?_
          refine ⟨_, true, es ++ ec, rfl, r3, r4, HLE.out, r5, ?_, ?_⟩
          · intro _; exact ⟨ec, HT2.out.symm, rfl⟩
          · intro h; cases h
        · have hps2 : decide (p = (s.size : Int)) = false := decide_eq_false hps
          have HPS : Hid (p ≠ (s.size : Int)) := hps
          go_wp2_with fail
          obtain ⟨r1, r2, r3, r4, r5⟩ := LI.out HO.out.1 HO.out.2
          obtain ⟨G, hG⟩ : ∃ G, G = (wr.setCell ⟨w.heap.size + 1, 0, none⟩ (.slice x1 ns.length y1)).setCell ⟨w.heap.size + 1, 1, none⟩ (.slice ua m uc) := ⟨_, rfl⟩
          rw [← hG] at r1 r2 r3 r4 ⊢
          refine bodyPost_ret (v := .tuple #[.agg #[.slice x1 ns.length y1, .slice ua m uc], .bool false]) (by simp [results, Tryz.results62, go_sem, r1, r2]; exact HPS.out) rfl ?_
          refine ⟨_, false, es ++ ec, rfl, r3, r4, HLE.out, r5, ?_, ?_⟩
          · intro h; cases h
          · intro _ e; rw [← HT2.out]; intro h; simp only [Option.some.injEq, Prod.mk.injEq] at h; exact HPS.out h.2
end Go.Proofs.YtlnpbfeihjfnjabGreatDoor.Lab

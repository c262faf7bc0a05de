/-
  A store read by impl: StoreRead.
-/
import Derived.Test.YtlnpbfeihjfnjabGreatDoorQGrd
import Derived.Test.YtlnpbfeihjfnjabGreatDoorQStf
import Derived.Deep.Cut
namespace Go.Proofs.YtlnpbfeihjfnjabGreatDoor.Lab
open Go.RowKit
set_option linter.unusedVariables false
def srN : Option (List Nd × List Ed) → List Nd
  | none => []
  | some (n, _) => n
def srE : Option (List Nd × List Ed) → List Ed
  | none => []
  | some (_, m) => m
/-- How a call of StoreRead ends. -/
def SrPost (w : World) (xs : List (Int × List UInt8)) (e : Ending) (w' : World) : Prop :=
  ∃ u1 u2, e = .returned (.tuple #[.agg #[u1, u2], .bool (srO xs).isSome]) ∧ OwnGraph w' w.heap.size u1 u2 (srN (srO xs)) (srE (srO xs)) ∧ Below w.heap.size w w'
theorem OwnGraph.nil (w : World) (B : Nat) : OwnGraph w B (.slice none 0 0) (.slice none 0 0) [] [] := ⟨World.ownsRow_nil _ _ _ _, World.ownsRow_nil _ _ _ _, fun k hk => by simp [Value.ownBlock] at hk⟩
/-- A graph under way in a box: the answer's box ahead of it. -/
structure SI (w1 : World) (S : Nat) (ns : List Nd) (es : List Ed) (W : World) : Prop where
  rs : W.heap[S]? = some (.cells #[.slice none 0 0, .slice none 0 0] 32 (0, 0))
  gb : ∃ v1 v2, W.heap[S + 1]? = some (.cells #[v1, v2] 32 (0, 0)) ∧ OwnGraph W (S + 2) v1 v2 ns es
  fr : Below S w1 W
section
variable {w1 W W' : World} {S : Nat} {ns : List Nd} {es : List Ed}
theorem SI.size (hi : SI w1 S ns es W) : S + 2 ≤ W.heap.size := by
  obtain ⟨_, _, h, _⟩ := hi.gb
  have := lt_of_block h; omega
theorem SI.below (hi : SI w1 S ns es W) (hb : Below W.heap.size W W') : SI w1 S ns es W' := by
  obtain ⟨v1, v2, h1, h2⟩ := hi.gb
  have hz := hi.size
  exact ⟨(hb.block S (by omega)).trans hi.rs, ⟨v1, v2, (hb.block _ (by omega)).trans h1, h2.keep hb⟩, hi.fr.trans (hb.mono (by omega))⟩
theorem SI.appN {V w3 : World} {v1 v2 v' : Value} {n1 : List Nd} (hi : SI w1 S ns es W) (hgb : W.heap[S + 1]? = some (.cells #[v1, v2] 32 (0, 0))) (og : OwnGraph W (S + 2) v1 v2 ns es) (hV : Below W.heap.size W V) (hg : V.grownBy w3 v1.ownBlock)
    (ho : w3.ownsRow (S + 2) 69 2 v' (ns.length + n1.length) (ns.flatMap encNode ++ n1.flatMap encNode)) (hat : v'.ownBlock = v1.ownBlock ∨ v'.ownBlock = some V.heap.size) :
    (w3.cell? ⟨S + 1, 0, none⟩ = some v1 ∧ w3.cell? ⟨S + 1, 1, none⟩ = some v2 ∧ w3.frozen? ⟨S + 1, 0, none⟩ = false) ∧ (w3.setCell ⟨S + 1, 0, none⟩ v').heap[S + 1]? = some (.cells #[v', v2] 32 (0, 0)) ∧ OwnGraph (w3.setCell ⟨S + 1, 0, none⟩ v') (S + 2) v' v2 (ns ++ n1) es ∧ SI w1 S (ns ++ n1) es (w3.setCell ⟨S + 1, 0, none⟩ v') := by
  have hz := hi.size
  have hzV := hV.size
  have lo : ∀ k, v1.ownBlock = some k → S + 2 ≤ k := fun k hk => (og.1.lt k hk).1
  have b3 : ∀ k ob, v1.ownBlock ≠ some k → W.heap[k]? = some ob → w3.heap[k]? = some ob := fun k ob hk e =>
    ((hg.block k (by have := (Array.getElem?_eq_some_iff.1 e).1; omega) (fun e2 => hk e2.symm)).trans (hV.block k (Array.getElem?_eq_some_iff.1 e).1)).trans e
  have g3 := b3 _ _ (fun e => by have := lo _ e; omega) hgb
  have b4 : ∀ k ob, k ≠ S + 1 → v1.ownBlock ≠ some k → W.heap[k]? = some ob → (w3.setCell ⟨S + 1, 0, none⟩ v').heap[k]? = some ob := fun k ob h0 hk e => by
    rw [Below.heap_setCell _ _ _ _ (fun e => h0 (by simpa using e))]; exact b3 k ob hk e
  have lo' : ∀ k, v'.ownBlock = some k → S + 2 ≤ k := fun k hk => (ho.lt k hk).1
  have gw : (w3.setCell ⟨S + 1, 0, none⟩ v').heap[S + 1]? = some (.cells #[v', v2] 32 (0, 0)) := by simpa using set_blk (i := 0) v' g3
  have ogn : OwnGraph (w3.setCell ⟨S + 1, 0, none⟩ v') (S + 2) v' v2 (ns ++ n1) es := by
    refine ⟨?_, own_blk og.2.1 (fun k c t f hk e => b4 k _ (by have := (og.2.1.lt k hk).1; omega) (fun e1 => og.2.2 k e1 hk) e), fun k hk => ?_⟩
    · have := own_set ho (p := ⟨S + 1, 0, none⟩) (fun e => by have h9 : S + 2 ≤ S + 1 := lo' _ e; omega) v'
      simpa [List.flatMap_append] using this
    · rcases hat with e | e
      · exact og.2.2 k (e ▸ hk)
      · rw [e] at hk
        have hk := Option.some.inj hk
        intro e2
        have := (og.2.1.lt _ e2).2; omega
  refine ⟨⟨by simp [World.cell?, g3], by simp [World.cell?, g3], by simp [World.frozen?, g3]⟩, gw, ogn, b4 _ _ (by omega) (fun e => by have := lo _ e; omega) hi.rs, ⟨v', v2, gw, ogn⟩, ?_⟩
  have hb3 : Below S w1 w3 := (hi.fr.trans (hV.mono (by omega))).grown hg (by omega) (fun k hk => by have := lo k hk; omega)
  exact hb3.grown (grown_setN w3 (S + 1) 0 v') (by have := hg.size; omega) (fun k hk => by cases hk; omega)
theorem SI.appE {V w3 : World} {v1 v2 v' : Value} {e1 : List Ed} (hi : SI w1 S ns es W) (hgb : W.heap[S + 1]? = some (.cells #[v1, v2] 32 (0, 0))) (og : OwnGraph W (S + 2) v1 v2 ns es) (hV : Below W.heap.size W V) (hg : V.grownBy w3 v2.ownBlock)
    (ho : w3.ownsRow (S + 2) 72 5 v' (es.length + e1.length) (es.flatMap encEdge ++ e1.flatMap encEdge)) (hat : v'.ownBlock = v2.ownBlock ∨ v'.ownBlock = some V.heap.size) :
    (w3.cell? ⟨S + 1, 1, none⟩ = some v2 ∧ w3.frozen? ⟨S + 1, 1, none⟩ = false) ∧ SI w1 S ns (es ++ e1) (w3.setCell ⟨S + 1, 1, none⟩ v') := by
  have hz := hi.size
  have hzV := hV.size
  have lo : ∀ k, v2.ownBlock = some k → S + 2 ≤ k := fun k hk => (og.2.1.lt k hk).1
  have b3 : ∀ k ob, v2.ownBlock ≠ some k → W.heap[k]? = some ob → w3.heap[k]? = some ob := fun k ob hk e =>
    ((hg.block k (by have := (Array.getElem?_eq_some_iff.1 e).1; omega) (fun e2 => hk e2.symm)).trans (hV.block k (Array.getElem?_eq_some_iff.1 e).1)).trans e
  have g3 := b3 _ _ (fun e => by have := lo _ e; omega) hgb
  have b4 : ∀ k ob, k ≠ S + 1 → v2.ownBlock ≠ some k → W.heap[k]? = some ob → (w3.setCell ⟨S + 1, 1, none⟩ v').heap[k]? = some ob := fun k ob h0 hk e => by
    rw [Below.heap_setCell _ _ _ _ (fun e => h0 (by simpa using e))]; exact b3 k ob hk e
  have lo' : ∀ k, v'.ownBlock = some k → S + 2 ≤ k := fun k hk => (ho.lt k hk).1
  have gw : (w3.setCell ⟨S + 1, 1, none⟩ v').heap[S + 1]? = some (.cells #[v1, v'] 32 (0, 0)) := by simpa using set_blk (i := 1) v' g3
  refine ⟨⟨by simp [World.cell?, g3], by simp [World.frozen?, g3]⟩, b4 _ _ (by omega) (fun e => by have := lo _ e; omega) hi.rs, ⟨v1, v', gw, own_blk og.1 (fun k c t f hk e => b4 k _ (by have := (og.1.lt k hk).1; omega) (fun e1 => og.2.2 k hk e1) e), ?_, fun k hk e2 => ?_⟩, ?_⟩
  · have := own_set ho (p := ⟨S + 1, 1, none⟩) (fun e => by have h9 : S + 2 ≤ S + 1 := lo' _ e; omega) v'
    simpa [List.flatMap_append] using this
  · rcases hat with e | e
    · exact og.2.2 k hk (e ▸ e2)
    · rw [e] at e2
      have e2 := Option.some.inj e2
      have := (og.1.lt _ hk).2; omega
  · have hb3 : Below S w1 w3 := (hi.fr.trans (hV.mono (by omega))).grown hg (by omega) (fun k hk => by have := lo k hk; omega)
    exact hb3.grown (grown_setN w3 (S + 1) 1 v') (by have := hg.size; omega) (fun k hk => by cases hk; omega)
end
theorem SI.start (w : World) : SI w w.heap.size [] [] ((w.alloc (.cells #[.slice none 0 0, .slice none 0 0] 32)).alloc (.cells #[.slice none 0 0, .slice none 0 0] 32)) := by
  have h : ∀ {α : Type} (h : Array α) (a b : α), ((h.push a).push b)[h.size]? = some a ∧ ((h.push a).push b)[h.size + 1]? = some b := by
    intro α h a b
    simp only [Array.getElem?_push, Array.size_push]
    refine ⟨?_, ?_⟩ <;> (repeat (first | exact if_pos trivial | rw [if_pos trivial] | rw [if_pos (by omega)] | rw [if_neg (by omega)]))
  exact ⟨(h _ _ _).1, ⟨_, _, (h _ _ _).2, OwnGraph.nil _ _⟩, (((Below.refl _ _).alloc (Nat.le_refl _) _).alloc (by simp) _)⟩
set_option maxRecDepth 8000 in
set_option maxHeartbeats 8000000 in
theorem impl_StoreRead (v : Value) (xs : List (Int × List UInt8)) (w : World) (h : RowAt 2 encSeg w v xs) (hl : xs.length ≤ 1048576) (hlb : lenS xs ≤ 1048576) (hE : Errs w) :
    Calls Tryz.prog 17 #[v] w (SrPost w xs) := by
  obtain ⟨a, cap, rfl⟩ := h.len
  obtain ⟨iN, jN, zN0, zN1, zN2⟩ := info_parts Tryz.infoNode
  obtain ⟨iE, jE, zE0, zE1, zE2⟩ := info_parts Tryz.infoEdge
  have HE : Hid (∀ W, Below w.heap.size w W → Errs W) := fun W hb => hE.keep hb
  obtain ⟨n, hn⟩ : ∃ n, n = xs.length := ⟨_, rfl⟩
  have HN : Hid (n = xs.length ∧ lenS xs ≤ 1048576) := ⟨hn, hlb⟩
  have HR : Hid (∀ W, Below w.heap.size w W → RowAt 2 encSeg W (.slice a n cap) xs) := fun W hb => by rw [hn]; exact h.keep hb
  have H : Hid (RowAt 2 encSeg w (.slice a n cap) xs) := by rw [hn]; exact h
  rw [← hn] at hl ⊢
  clear h hlb hE hn
  obtain ⟨S, hS⟩ : ∃ S, S = w.heap.size := ⟨_, rfl⟩
  obtain ⟨W0, hW0⟩ : ∃ W0, W0 = (w.alloc (.cells #[.slice none 0 0, .slice none 0 0] 32)).alloc (.cells #[.slice none 0 0, .slice none 0 0] 32) := ⟨_, rfl⟩
  have HS0 : Hid (SI w S [] [] W0) := by show SI _ _ _ _ _; rw [hS, hW0]; exact SI.start w
  have HS : Hid (S = w.heap.size) := hS
  have HW0 : Hid (W0 = (w.alloc (.cells #[.slice none 0 0, .slice none 0 0] 32)).alloc (.cells #[.slice none 0 0, .slice none 0 0] 32)) := hW0
  clear hW0 hS
  go_enter Tryz.func17, Tryz.ntmps17
  go_wp2_with fail
  rw [← HW0.out, ← HS.out]
  clear HW0
  go_loopw [11] (fun q wr => ∃ (k : Nat) (ns : List Nd) (es : List Ed), k ≤ n ∧ q = .int .i64 k ∧ rdI (xs.take k) = some (ns, es) ∧ ns.length + es.length ≤ lenS (xs.take k) ∧ SI w S ns es wr) (fun q _ => n - (intOf q).toNat)
  case atStart => exact ⟨0, [], [], by omega, rfl, rfl, Nat.zero_le _, HS0.out⟩
  case round =>
    obtain ⟨k, ns, es, hk, rfl, hrd, hle, hi⟩ := hrel
    have hz := hi.size
    have hle2 : ns.length + es.length ≤ 1048576 := by have := lenS_take_le xs k; have := HN.out.2; omega
    by_cases hlt : k < n
    · rcases H.out with ⟨hz, _⟩ | ⟨_, b1, o1, q1, hv1, hb1, E1⟩
      · have := HN.out.1; rw [hz] at this; simp at this; omega
      obtain rfl : a = some ⟨b1, o1, none⟩ := by injection hv1
      obtain ⟨⟨m0, m1⟩, hx⟩ : ∃ x, xs[k]? = some x := ⟨_, List.getElem?_eq_getElem (by rw [← HN.out.1]; exact hlt)⟩
      have hm1 : m1.length ≤ lenS xs := lenS_mem (List.mem_of_getElem? hx)
      have e0 : wr.cell? ⟨b1, o1 + k * 2, none⟩ = some (.int .i64 m0) := by rw [Below.celz (HS.out ▸ hi.fr) _ _ _ hb1]; exact E1 k _ hx 0 _ rfl
      have e1 : wr.cell? ⟨b1, o1 + k * 2 + 1, none⟩ = some (.string ⟨m1.toArray⟩) := by rw [Below.celz (HS.out ▸ hi.fr) _ _ _ hb1]; exact E1 k _ hx 1 _ rfl
      have z2 : b1 < wr.heap.size := by have := HS.out; omega
      have k0 : (0 : Int) ≤ (k : Int) := by omega
      have k1 : (k : Int) < (n : Int) := by omega
      have HX : Hid (xs[k]? = some (m0, m1)) := hx
      have HRD : Hid (rdI (xs.take k) = some (ns, es) ∧ ns.length + es.length ≤ lenS (xs.take k) ∧ m1.length ≤ lenS xs) := ⟨hrd, hle, hm1⟩
      obtain ⟨W1, hW1⟩ : ∃ W1, W1 = wr.alloc (.cells #[.int .i64 m0, .string ⟨m1.toArray⟩] 52) := ⟨_, rfl⟩
      have hb1w : Below wr.heap.size wr W1 := by rw [hW1]; exact (Below.refl _ _).alloc (Nat.le_refl _) _
      have HI1 : Hid (SI w S ns es W1) := hi.below hb1w
      have y0 : W1.cell? ⟨wr.heap.size, 0, none⟩ = some (.int .i64 m0) := by rw [hW1]; simp [go_sem]
      have y1 : W1.cell? ⟨wr.heap.size, 1, none⟩ = some (.string ⟨m1.toArray⟩) := by rw [hW1]; simp [go_sem]
      have HW1 : Hid (W1 = wr.alloc (.cells #[.int .i64 m0, .string ⟨m1.toArray⟩] 52)) := hW1
      have HC : Hid (Calls Tryz.prog 36 #[.agg #[.int .i64 m0, .string ⟨m1.toArray⟩]] W1 (GfPost W1 m0 ⟨m1.toArray⟩)) := graphOf m0 ⟨m1.toArray⟩ W1 (by rw [size_mk]; have := HN.out.2; omega) (HE.out _ (HS.out ▸ HI1.out.fr)).1
      clear hx hi E1 hv1 hrd hle hm1 hW1 hb1w
      go_wp2_with fail
      rw [← HW1.out]
      clear HW1
      refine HC.out.mono ?_
      rintro e w2 ⟨pv1, pv2, er, n1, e1', rfl, b2, og1, og2, hm⟩
      have HB2 : Hid (Below W1.heap.size W1 w2) := b2
      have HI2 : Hid (SI w S ns es w2) := HI1.out.below b2
      have hz2 := HI2.out.size
      obtain ⟨xa1, xc1, rfl⟩ := own_form og1
      obtain ⟨xa2, xc2, rfl⟩ := own_form og2
      clear y0 y1 e0 e1 z2 b2
      cases hg : gfO ⟨m1.toArray⟩ m0 with
      | none =>
        rw [hg] at hm
        obtain ⟨t, u, rfl⟩ := hm
        have HO : Hid (srO xs = none) := by
          refine srO_none (k := k + 1) ?_
          rw [rdI_step HX.out, HRD.out.1]
          exact gfA_none hg
        obtain ⟨W3, hW3⟩ : ∃ W3, W3 = w2.alloc (.cells #[.slice xa1 n1.length xc1, .slice xa2 e1'.length xc2] 32) := ⟨_, rfl⟩
        have b3 : Below w2.heap.size w2 W3 := by rw [hW3]; exact (Below.refl _ _).alloc (Nat.le_refl _) _
        have HI3 : Hid (SI w S ns es W3) := HI2.out.below b3
        have g3 : W3.cell? ⟨S, 0, none⟩ = some (.slice none 0 0) := by simp [World.cell?, HI3.out.rs]
        have g4 : W3.cell? ⟨S, 1, none⟩ = some (.slice none 0 0) := by simp [World.cell?, HI3.out.rs]
        have g5 : W3.frozen? ⟨S, 0, none⟩ = false := by simp [World.frozen?, HI3.out.rs]
        have g6 : W3.frozen? ⟨S, 1, none⟩ = false := by simp [World.frozen?, HI3.out.rs]
        have HW3 : Hid (W3 = w2.alloc (.cells #[.slice xa1 n1.length xc1, .slice xa2 e1'.length xc2] 32)) := hW3
        have hz3 := HI3.out.size
        clear og1 og2 hg hW3 b3
        go_upto_region 6 with fail
        rw [← HW3.out]
        go_wp2_with fail
        obtain ⟨G, hG⟩ : ∃ G, G = (W3.setCell ⟨S, 0, none⟩ (.slice none 0 0)).setCell ⟨S, 1, none⟩ (.slice none 0 0) := ⟨_, rfl⟩
        have hgs : G.heap[S]? = some (.cells #[.slice none 0 0, .slice none 0 0] 32 (0, 0)) := by
          rw [hG]; simpa using set_blk (i := 1) (.slice none 0 0) (set_blk (i := 0) (.slice none 0 0) HI3.out.rs)
        have q0 : G.cell? ⟨S, 0, none⟩ = some (.slice none 0 0) := by rw [cell_block hgs]; rfl
        have q1 : G.cell? ⟨S, 1, none⟩ = some (.slice none 0 0) := by rw [cell_block hgs]; rfl
        rw [← hG]
        refine bodyPost_ret (v := .tuple #[.agg #[.slice none 0 0, .slice none 0 0], .bool false]) (by simp [results, Tryz.results17, go_sem, q0, q1]) rfl ?_
        refine ⟨_, _, by rw [HO.out]; rfl, by rw [HO.out]; exact OwnGraph.nil _ _, ?_⟩
        rw [hG]
        have a1 := HI3.out.fr.grown (grown_setN W3 S 0 (.slice none 0 0)) (by have := HS.out; omega) (fun k hk => by cases hk; omega)
        have a2 := a1.grown (grown_setN _ S 1 (.slice none 0 0)) (by simp [World.setCell]; omega) (fun k hk => by cases hk; omega)
        rw [← HS.out]; exact a2
      | some z =>
        obtain ⟨n2, e2, kk⟩ := z
        rw [hg] at hm
        obtain ⟨rfl, rfl, rfl⟩ := hm
        have hgb := gfO_bd hg
        rw [size_mk] at hgb
        have HRN : Hid (rdI (xs.take (k + 1)) = some (ns ++ n1, es ++ e1')) := by
          show rdI (xs.take (k + 1)) = some (ns ++ n1, es ++ e1')
          rw [rdI_step HX.out, HRD.out.1]
          exact gfA_some hg
        have HLN : Hid ((ns ++ n1).length + (es ++ e1').length ≤ lenS (xs.take (k + 1))) := by
          show (ns ++ n1).length + (es ++ e1').length ≤ lenS (xs.take (k + 1))
          rw [lenS_step HX.out, List.length_append, List.length_append]
          have := HRD.out.2.1
          simp only
          omega
        have hl3 : ns.length + n1.length ≤ 1048576 ∧ es.length + e1'.length ≤ 1048576 := by
          have h1 := HLN.out
          have h2 := lenS_take_le xs (k + 1)
          have h3 := HN.out.2
          rw [List.length_append, List.length_append] at h1
          omega
        obtain ⟨W3, hW3⟩ : ∃ W3, W3 = w2.alloc (.cells #[.slice xa1 n1.length xc1, .slice xa2 e1'.length xc2] 32) := ⟨_, rfl⟩
        have b3 : Below w2.heap.size w2 W3 := by rw [hW3]; exact (Below.refl _ _).alloc (Nat.le_refl _) _
        have hi3 := HI2.out.below b3
        obtain ⟨v1, v2, hgbA, hogA⟩ := HI1.out.gb
        have hzA := HI1.out.size
        have b13 : Below W1.heap.size W1 W3 := HB2.out.trans (b3.mono HB2.out.size)
        have hgb3 : W3.heap[S + 1]? = some (.cells #[v1, v2] 32 (0, 0)) := (b13.block _ (by omega)).trans hgbA
        have hog3 : OwnGraph W3 (S + 2) v1 v2 ns es := hogA.keep b13
        have HNB : Hid ((∀ k, v1.ownBlock = some k → k < W1.heap.size) ∧ S + 2 ≤ W1.heap.size ∧ W1.heap.size ≤ w2.heap.size) := ⟨fun k hk => (hogA.1.lt k hk).2, hzA, HB2.out.size⟩
        have HOE : Hid (W3.ownsRow W1.heap.size 72 5 (.slice xa2 e1'.length xc2) e1'.length (e1'.flatMap encEdge)) := own_keep og2 b3
        have r1 : RowAt 2 encNode W3 (.slice xa1 n1.length xc1) n1 := row_of_own encNode_len (by decide) (own_keep og1 b3)
        have r2 : RowAt 5 encEdge W3 (.slice xa2 e1'.length xc2) e1' := row_of_own encEdge_len (by decide) (own_keep og2 b3)
        have p0 : W3.cell? ⟨w2.heap.size, 0, none⟩ = some (.slice xa1 n1.length xc1) := by rw [hW3]; simp [go_sem]
        have p1 : W3.cell? ⟨w2.heap.size, 1, none⟩ = some (.slice xa2 e1'.length xc2) := by rw [hW3]; simp [go_sem]
        have p2 : W3.cell? ⟨S + 1, 0, none⟩ = some v1 := by simp [World.cell?, hgb3]
        have HSI3 : Hid (SI w S ns es W3 ∧ W3.heap[S + 1]? = some (.cells #[v1, v2] 32 (0, 0)) ∧ OwnGraph W3 (S + 2) v1 v2 ns es) := ⟨hi3, hgb3, hog3⟩
        have hz3 := hi3.size
        have HP : Hid (W3.heap[w2.heap.size]? = some (.cells #[.slice xa1 n1.length xc1, .slice xa2 e1'.length xc2] 32 (0, 0)) ∧ RowAt 5 encEdge W3 (.slice xa2 e1'.length xc2) e1') := by
          refine ⟨?_, r2⟩
          rw [hW3]; exact new_block _ _
        have HW3 : Hid (W3 = w2.alloc (.cells #[.slice xa1 n1.length xc1, .slice xa2 e1'.length xc2] 32)) := hW3
        have HPN : Hid (∀ k, v1.ownBlock = some k → k ≠ w2.heap.size) := fun k hk e => by have := HNB.out.1 k hk; have := HNB.out.2; omega
        clear hW3 hi3 hgb3 hog3 b3 b13 hgbA hogA hgb og1 og2 hg r2
        go_upto_region 6 with fail
        rw [← HW3.out]
        go_wp2_with (at_builtin; go_must (refine wpList_appRow encNode_len (by decide) encNode_one rfl _ _ 29 rfl Tryz.underlying29 jN zN0 zN1 zN2 rfl (S + 2) v1 _ _ (.slice xa1 n1.length xc1) n1 rfl rfl HSI3.out.2.2.1 r1 (by unfold maxLen; omega) (by omega) (by omega) ?_))
        intro v' w4 hown' hgrow hat
        obtain ⟨⟨f0, f1, f2⟩, hgb4, hog4, hi4⟩ := HSI3.out.1.appN HSI3.out.2.1 HSI3.out.2.2 (Below.refl _ _) hgrow hown' hat
        obtain ⟨xa4, xc4, rfl⟩ := own_form hown'
        obtain ⟨W5, hW5⟩ : ∃ W5, W5 = w4.setCell ⟨S + 1, 0, none⟩ (.slice xa4 (ns.length + n1.length) xc4) := ⟨_, rfl⟩
        have lo1 : ∀ k, v1.ownBlock = some k → S + 2 ≤ k ∧ k < W3.heap.size := HSI3.out.2.2.1.lt
        have HW5 : Hid (W5 = w4.setCell ⟨S + 1, 0, none⟩ (.slice xa4 (ns.length + n1.length) xc4)) := hW5
        rw [← hW5] at hgb4 hog4 hi4
        have hbl : W5.heap[w2.heap.size]? = W3.heap[w2.heap.size]? := by
          have h2 : w2.heap.size < W3.heap.size := lt_of_block HP.out.1
          rw [hW5, Below.heap_setCell _ _ _ _ (by simp; omega)]
          exact hgrow.block _ h2 (fun e => HPN.out _ e.symm rfl)
        have p3 : W5.cell? ⟨w2.heap.size, 1, none⟩ = some (.slice xa2 e1'.length xc2) := by rw [cell_block (hbl.trans HP.out.1)]; rfl
        have p4 : W5.cell? ⟨S + 1, 1, none⟩ = some v2 := by rw [cell_block hgb4]; rfl
        have r5 : RowAt 5 encEdge W5 (.slice xa2 e1'.length xc2) e1' := by
          refine row_of_own encEdge_len (by decide) (own_blk HOE.out (fun k c t f hk e => ?_))
          have hk1 := (HOE.out.lt k hk).1
          have hk2 := HNB.out.2.1
          rw [hW5, Below.heap_setCell _ _ _ _ (by simp; omega)]
          exact (hgrow.block k (lt_of_block e) (fun e2 => by have := HNB.out.1 k e2.symm; omega)).trans e
        clear hown' hgrow hat hW5 p0 p1 p2 r1
        go_upto_region 9 with fail
        rw [← HW5.out]
        go_wp2_with (at_builtin; go_must (refine wpList_appRow encEdge_len (by decide) encEdge_one rfl _ _ 30 rfl Tryz.underlying30 jE zE0 zE1 zE2 rfl (S + 2) v2 _ _ (.slice xa2 e1'.length xc2) e1' rfl rfl hog4.2.1 r5 (by unfold maxLen; omega) (by omega) (by have := hi4.size; omega) ?_))
        intro v' w6 hown' hgrow hat
        obtain ⟨⟨f3, f4⟩, hi6⟩ := hi4.appE hgb4 hog4 (Below.refl _ _) hgrow hown' hat
        obtain ⟨xa6, xc6, rfl⟩ := own_form hown'
        have HI6 : Hid (SI w S (ns ++ n1) (es ++ e1') (w6.setCell ⟨S + 1, 1, none⟩ (.slice xa6 (es.length + e1'.length) xc6))) := hi6
        clear hown' hgrow hat hi4 hog4 hgb4 hi6 p3 p4 r5
        go_wp2_with fail
        go_roundw
        case rel => exact ⟨k + 1, ns ++ n1, es ++ e1', by omega, by go_num, HRN.out, HLN.out, HI6.out⟩
        case measure => simp [intOf]; omega
    · have hkn : k = n := by omega
      subst hkn
      have hrd2 : rdI xs = some (ns, es) := by
        have := hrd
        rw [HN.out.1, List.take_length] at this
        exact this
      obtain ⟨v1, v2, hgb, hog⟩ := hi.gb
      obtain ⟨xa, xc, rfl⟩ := own_form hog.1
      obtain ⟨ya, yc, rfl⟩ := own_form hog.2.1
      have p0 : wr.cell? ⟨S + 1, 0, none⟩ = some (.slice xa ns.length xc) := by rw [cell_block hgb]; rfl
      have p1 : wr.cell? ⟨S + 1, 1, none⟩ = some (.slice ya es.length yc) := by rw [cell_block hgb]; rfl
      have HI : Hid (SI w S ns es wr ∧ wr.heap[S + 1]? = some (.cells #[.slice xa ns.length xc, .slice ya es.length yc] 32 (0, 0)) ∧ OwnGraph wr (S + 2) (.slice xa ns.length xc) (.slice ya es.length yc) ns es) := ⟨hi, hgb, hog⟩
      have HC : Hid (Calls Tryz.prog 8 #[.agg #[.slice xa ns.length xc, .slice ya es.length yc]] wr fun e w' => ∃ u, e = .returned u ∧ w'.ownsRow wr.heap.size 52 2 u (storeL ns es).length ((storeL ns es).flatMap encSeg) ∧ Below wr.heap.size wr w') :=
        impl_StoreOf _ _ ns es wr (row_of_own encNode_len (by decide) hog.1) (row_of_own encEdge_len (by decide) hog.2.1) (by omega) (by omega) (HE.out _ (HS.out ▸ hi.fr))
      have HD : Hid (rdI xs = some (ns, es)) := hrd2
      have hl8 := storeK_le ns es 8
      clear hi hgb hog hrd hrd2 hle
      go_wp2_with fail
      refine HC.out.mono ?_
      rintro e w2 ⟨u, rfl, hu, b2⟩
      have HI2 : Hid (SI w S ns es w2 ∧ w2.heap[S + 1]? = some (.cells #[.slice xa ns.length xc, .slice ya es.length yc] 32 (0, 0)) ∧ OwnGraph w2 (S + 2) (.slice xa ns.length xc) (.slice ya es.length yc) ns es) := ⟨HI.out.1.below b2, (b2.block _ (by omega)).trans HI.out.2.1, HI.out.2.2.keep b2⟩
      have HC2 : Hid (Calls Tryz.prog 37 #[u, .slice a k cap] w2 fun e w' => e = .returned (.bool (eqB (storeL ns es) xs)) ∧ Below w2.heap.size w2 w') :=
        implStoreSame u _ (storeL ns es) xs w2 (row_of_own encSeg_len (by decide) hu) (HR.out _ (HS.out ▸ HI2.out.1.fr)) (by unfold storeL; omega) (by rw [← HN.out.1]; omega)
      clear hu b2 p0 p1
      go_wp2_with fail
      refine HC2.out.mono ?_
      rintro e w3 ⟨rfl, b3⟩
      have hz2 := HI2.out.1.size
      have HI3 : Hid (SI w S ns es w3 ∧ w3.heap[S + 1]? = some (.cells #[.slice xa ns.length xc, .slice ya es.length yc] 32 (0, 0)) ∧ OwnGraph w3 (S + 2) (.slice xa ns.length xc) (.slice ya es.length yc) ns es) := ⟨HI2.out.1.below b3, (b3.block _ (by omega)).trans HI2.out.2.1, HI2.out.2.2.keep b3⟩
      have hz3 := HI3.out.1.size
      have g3 : w3.cell? ⟨S, 0, none⟩ = some (.slice none 0 0) := by rw [cell_block HI3.out.1.rs]; rfl
      have g4 : w3.cell? ⟨S, 1, none⟩ = some (.slice none 0 0) := by rw [cell_block HI3.out.1.rs]; rfl
      have g5 : w3.frozen? ⟨S, 0, none⟩ = false := free_block HI3.out.1.rs
      have g6 : w3.frozen? ⟨S, 1, none⟩ = false := free_block HI3.out.1.rs
      have g7 : w3.cell? ⟨S + 1, 0, none⟩ = some (.slice xa ns.length xc) := by rw [cell_block HI3.out.2.1]; rfl
      have g8 : w3.cell? ⟨S + 1, 1, none⟩ = some (.slice ya es.length yc) := by rw [cell_block HI3.out.2.1]; rfl
      clear b3
      cases hb : eqB (storeL ns es) xs
      · have HO : Hid (srO xs = none) := by
          show srO xs = none
          rw [srO_done HD.out, if_neg (eqB_false.1 hb)]
        clear hb
        go_wp2_with fail
        obtain ⟨G, hG⟩ : ∃ G, G = (w3.setCell ⟨S, 0, none⟩ (.slice none 0 0)).setCell ⟨S, 1, none⟩ (.slice none 0 0) := ⟨_, rfl⟩
        have hgs : G.heap[S]? = some (.cells #[.slice none 0 0, .slice none 0 0] 32 (0, 0)) := by
          rw [hG]; simpa using set_blk (i := 1) (.slice none 0 0) (set_blk (i := 0) (.slice none 0 0) HI3.out.1.rs)
        have q0 : G.cell? ⟨S, 0, none⟩ = some (.slice none 0 0) := by rw [cell_block hgs]; rfl
        have q1 : G.cell? ⟨S, 1, none⟩ = some (.slice none 0 0) := by rw [cell_block hgs]; rfl
        rw [← hG]
        refine bodyPost_ret (v := .tuple #[.agg #[.slice none 0 0, .slice none 0 0], .bool false]) (by simp [results, Tryz.results17, go_sem, q0, q1]) rfl ?_
        refine ⟨_, _, by rw [HO.out]; rfl, by rw [HO.out]; exact OwnGraph.nil _ _, ?_⟩
        rw [hG]
        have a1 := HI3.out.1.fr.grown (grown_setN w3 S 0 (.slice none 0 0)) (by have := HS.out; omega) (fun k hk => by cases hk; omega)
        have a2 := a1.grown (grown_setN _ S 1 (.slice none 0 0)) (by simp [World.setCell]; omega) (fun k hk => by cases hk; omega)
        rw [← HS.out]; exact a2
      · have HO : Hid (srO xs = some (ns, es)) := by
          show srO xs = some (ns, es)
          rw [srO_done HD.out, if_pos (eqB_true.1 hb)]
        clear hb
        go_wp2_with fail
        obtain ⟨G, hG⟩ : ∃ G, G = (w3.setCell ⟨S, 0, none⟩ (.slice xa ns.length xc)).setCell ⟨S, 1, none⟩ (.slice ya es.length yc) := ⟨_, rfl⟩
        have hgs : G.heap[S]? = some (.cells #[.slice xa ns.length xc, .slice ya es.length yc] 32 (0, 0)) := by
          rw [hG]; simpa using set_blk (i := 1) (.slice ya es.length yc) (set_blk (i := 0) (.slice xa ns.length xc) HI3.out.1.rs)
        have q0 : G.cell? ⟨S, 0, none⟩ = some (.slice xa ns.length xc) := by rw [cell_block hgs]; rfl
        have q1 : G.cell? ⟨S, 1, none⟩ = some (.slice ya es.length yc) := by rw [cell_block hgs]; rfl
        have og := HI3.out.2.2
        have ogG : OwnGraph G S (.slice xa ns.length xc) (.slice ya es.length yc) ns es := by
          rw [hG]
          refine ⟨own_mono (own_set (own_set og.1 (fun e => ?_) _) (fun e => ?_) _) (by omega), own_mono (own_set (own_set og.2.1 (fun e => ?_) _) (fun e => ?_) _) (by omega), og.2.2⟩
          · have h9 : S + 2 ≤ S := (og.1.lt _ e).1
            omega
          · have h9 : S + 2 ≤ S := (og.1.lt _ e).1
            omega
          · have h9 : S + 2 ≤ S := (og.2.1.lt _ e).1
            omega
          · have h9 : S + 2 ≤ S := (og.2.1.lt _ e).1
            omega
        rw [← hG]
        refine bodyPost_ret (v := .tuple #[.agg #[.slice xa ns.length xc, .slice ya es.length yc], .bool true]) (by simp [results, Tryz.results17, go_sem, q0, q1]) rfl ?_
        refine ⟨_, _, by rw [HO.out]; rfl, by rw [HO.out, ← HS.out]; exact ogG, ?_⟩
        rw [hG]
        have a1 := HI3.out.1.fr.grown (grown_setN w3 S 0 (.slice xa ns.length xc)) (by have := HS.out; omega) (fun k hk => by cases hk; omega)
        have a2 := a1.grown (grown_setN _ S 1 (.slice ya es.length yc)) (by simp [World.setCell]; omega) (fun k hk => by cases hk; omega)
        rw [← HS.out]; exact a2
end Go.Proofs.YtlnpbfeihjfnjabGreatDoor.Lab

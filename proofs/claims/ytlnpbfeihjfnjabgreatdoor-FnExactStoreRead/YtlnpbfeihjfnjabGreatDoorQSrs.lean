/-
  A store read by the specification: StoreRead. (Its drawn region's walk was written by tools/mksrs.py.)
-/
import Derived.Test.YtlnpbfeihjfnjabGreatDoorQSrr
namespace Go.Proofs.YtlnpbfeihjfnjabGreatDoor.Lab
open Go.RowKit
set_option linter.unusedVariables false
/-- A graph under way in a box, both rows growing, the answer's box ahead. -/
structure QI (w1 : World) (S : Nat) (ns : List Nd) (es : List Ed) (W : World) : Prop where
  rs : W.heap[S]? = some (.cells #[.slice none 0 0, .slice none 0 0] 32 (0, 0))
  gb : ∃ v1 v2, W.heap[S + 3]? = some (.cells #[v1, v2] 32 (0, 0)) ∧ OwnGraph W (S + 1) v1 v2 ns es ∧ ∀ k, (v1.ownBlock = some k ∨ v2.ownBlock = some k) → k ≠ S + 3
  fr : Below S w1 W
theorem QI.size {w1 W : World} {S : Nat} {ns : List Nd} {es : List Ed} (hi : QI w1 S ns es W) : S + 4 ≤ W.heap.size := by
  obtain ⟨_, _, h, _⟩ := hi.gb
  have := lt_of_block h; omega
theorem QI.below {w1 W W' : World} {S : Nat} {ns : List Nd} {es : List Ed} (hi : QI w1 S ns es W) (hb : Below W.heap.size W W') : QI w1 S ns es W' := by
  obtain ⟨v1, v2, h1, h2, h3⟩ := hi.gb
  have hz := hi.size
  exact ⟨(hb.block S (by omega)).trans hi.rs, ⟨v1, v2, (hb.block _ (by omega)).trans h1, h2.keep hb, h3⟩, hi.fr.trans (hb.mono (by omega))⟩
theorem QI.start (w : World) : QI w w.heap.size [] [] ((((w.alloc (.cells #[.slice none 0 0, .slice none 0 0] 32)).alloc (.cells #[] 69)).alloc (.cells #[] 72)).alloc (.cells #[.slice (some ⟨w.heap.size + 1, 0, none⟩) 0 0, .slice (some ⟨w.heap.size + 2, 0, none⟩) 0 0] 32)) := by
  have h : ∀ {α : Type} (h : Array α) (a b c d : α), ((((h.push a).push b).push c).push d)[h.size]? = some a ∧ ((((h.push a).push b).push c).push d)[h.size + 1]? = some b ∧ ((((h.push a).push b).push c).push d)[h.size + 2]? = some c ∧ ((((h.push a).push b).push c).push d)[h.size + 3]? = some d := fun h a b c d => push4 h a b c d
  refine ⟨(h _ _ _ _ _).1, ⟨_, _, (h _ _ _ _ _).2.2.2, ⟨own_new0 (h _ _ _ _ _).2.1 (by omega), own_new0 (h _ _ _ _ _).2.2.1 (by omega), fun k hk e => ?_⟩, fun k hk => ?_⟩, ((((Below.refl _ _).alloc (Nat.le_refl _) _).alloc (by simp) _).alloc (by simp; omega) _).alloc (by simp; omega) _⟩
  · simp [Value.ownBlock] at hk e; omega
  · simp [Value.ownBlock] at hk; omega
/-- What one segment's reading has turned. -/
theorem QI.read {w1 W W' : World} {S : Nat} {ns ns' : List Nd} {es es' : List Ed} {v1 v2 u1 u2 : Value} (hi : QI w1 S ns es W) (hgb : W.heap[S + 3]? = some (.cells #[v1, v2] 32 (0, 0))) (hb : But (fun g => v1.ownBlock = some g ∨ v2.ownBlock = some g) W W') (og : OwnGraph W' (S + 1) u1 u2 ns' es')
    (h1 : u1.ownBlock = v1.ownBlock ∨ ∃ k, u1.ownBlock = some k ∧ W.heap.size ≤ k) (h2 : u2.ownBlock = v2.ownBlock ∨ ∃ k, u2.ownBlock = some k ∧ W.heap.size ≤ k) :
    (W'.heap[S + 3]? = some (.cells #[v1, v2] 32 (0, 0)) ∧ W'.heap[S]? = some (.cells #[.slice none 0 0, .slice none 0 0] 32 (0, 0)) ∧ Below S w1 W') ∧ QI w1 S ns' es' ((W'.setCell ⟨S + 3, 0, none⟩ u1).setCell ⟨S + 3, 1, none⟩ u2) := by
  obtain ⟨a1, a2, g1, og0, hne⟩ := hi.gb
  have e : a1 = v1 ∧ a2 = v2 := by
    rw [g1] at hgb
    simpa using hgb
  obtain ⟨rfl, rfl⟩ := e
  have hz := hi.size
  have lo : ∀ k, (a1.ownBlock = some k ∨ a2.ownBlock = some k) → S + 1 ≤ k := fun k hk => hk.elim (fun h => (og0.1.lt k h).1) (fun h => (og0.2.1.lt k h).1)
  have hg' : W'.heap[S + 3]? = some (.cells #[a1, a2] 32 (0, 0)) := (hb.blk _ (by omega) (fun h => hne _ h rfl)).trans g1
  have hr' : W'.heap[S]? = some (.cells #[.slice none 0 0, .slice none 0 0] 32 (0, 0)) := (hb.blk _ (by omega) (fun h => by have := lo _ h; omega)).trans hi.rs
  have hB' : Below S w1 W' := hb.below hi.fr (by omega) (fun k h => by have := lo k h; omega)
  have hun : ∀ k, (u1.ownBlock = some k ∨ u2.ownBlock = some k) → k ≠ S + 3 := fun k hk => by
    rcases hk with hk | hk
    · rcases h1 with e | ⟨k', e, hk'⟩
      · exact hne k (.inl (e ▸ hk))
      · rw [e] at hk; cases hk; omega
    · rcases h2 with e | ⟨k', e, hk'⟩
      · exact hne k (.inr (e ▸ hk))
      · rw [e] at hk; cases hk; omega
  have hs := set_blk (i := 1) u2 (set_blk (i := 0) u1 hg')
  have hbk : ∀ k, k ≠ S + 3 → ((W'.setCell ⟨S + 3, 0, none⟩ u1).setCell ⟨S + 3, 1, none⟩ u2).heap[k]? = W'.heap[k]? := fun k hk => by
    rw [Below.heap_setCell _ _ _ _ (fun e => hk (by simpa using e)), Below.heap_setCell _ _ _ _ (fun e => hk (by simpa using e))]
  refine ⟨⟨hg', hr', hB'⟩, (hbk S (by omega)).trans hr', ⟨u1, u2, by simpa using hs, ⟨own_blk og.1 (fun k c t f hk e => by rw [hbk k (hun k (.inl hk))]; exact e), own_blk og.2.1 (fun k c t f hk e => by rw [hbk k (hun k (.inr hk))]; exact e), og.2.2⟩, hun⟩, ?_⟩
  have hz' := hb.size
  exact (hB'.grown (grown_setN W' (S + 3) 0 u1) (by have := hi.fr.size; omega) (fun k hk => by cases hk; omega)).grown (grown_setN _ (S + 3) 1 u2) (by simp [World.setCell]; have := hi.fr.size; omega) (fun k hk => by cases hk; omega)
/-- Nothing is laid into the answer's box. -/
theorem outNil {w1 W : World} {S : Nat} (hS : S = w1.heap.size) (hr : W.heap[S]? = some (.cells #[.slice none 0 0, .slice none 0 0] 32 (0, 0))) (hf : Below S w1 W) :
    let G := (W.setCell ⟨S, 0, none⟩ (.slice none 0 0)).setCell ⟨S, 1, none⟩ (.slice none 0 0)
    G.cell? ⟨S, 0, none⟩ = some (.slice none 0 0) ∧ G.cell? ⟨S, 1, none⟩ = some (.slice none 0 0) ∧ Below w1.heap.size w1 G := by
  subst hS
  have hs := set_blk (i := 1) (.slice none 0 0) (set_blk (i := 0) (.slice none 0 0) hr)
  refine ⟨by rw [cell_block hs]; rfl, by rw [cell_block hs]; rfl, ?_⟩
  have := lt_of_block hr
  exact (hf.grown (grown_setN W w1.heap.size 0 (.slice none 0 0)) (by omega) (fun k hk => by cases hk; omega)).grown (grown_setN _ w1.heap.size 1 (.slice none 0 0)) (by simp [World.setCell]; omega) (fun k hk => by cases hk; omega)
theorem srO_fail {xs : List (Int × List UInt8)} {k : Nat} {ns : List Nd} {es : List Ed} {x : Int × List UInt8} (hx : xs[k]? = some x) (hr : rdI (xs.take k) = some (ns, es)) (h : ∀ n1 e1, gfO ⟨x.2.toArray⟩ x.1 ≠ some (n1, e1, (x.2.length : Int))) : srO xs = none := by
  cases hg : gfO ⟨x.2.toArray⟩ x.1 with
  | none => exact srO_none (k := k + 1) (by rw [rdI_step hx, hr]; exact gfA_none hg)
  | some z =>
    obtain ⟨n1, e1, q⟩ := z
    exact srO_end (List.mem_of_getElem? hx) hg (fun e => h n1 e1 (by rw [hg, e]))
set_option maxRecDepth 100000 in
set_option maxHeartbeats 8000000 in
theorem spec_StoreRead (v : Value) (xs : List (Int × List UInt8)) (w : World) (h : RowAt 2 encSeg w v xs) (hl : xs.length ≤ 1048576) (hlb : lenS xs ≤ 1048576) :
    Calls Tryz.prog 15 #[v] w (SrPost w xs) := by
  obtain ⟨a, cap, rfl⟩ := h.len
  obtain ⟨n, hn⟩ : ∃ n, n = xs.length := ⟨_, rfl⟩
  have HN : Hid (n = xs.length ∧ lenS xs ≤ 1048576) := ⟨hn, hlb⟩
  have HR : Hid (∀ W, Below w.heap.size w W → RowAt 2 encSeg W (.slice a n cap) xs) := fun W hb => by rw [hn]; exact h.keep hb
  have H : Hid (RowAt 2 encSeg w (.slice a n cap) xs) := by rw [hn]; exact h
  rw [← hn] at hl ⊢
  clear h hlb hn
  obtain ⟨S, hS⟩ : ∃ S, S = w.heap.size := ⟨_, rfl⟩
  obtain ⟨W0, hW0⟩ : ∃ W0, W0 = (((w.alloc (.cells #[.slice none 0 0, .slice none 0 0] 32)).alloc (.cells #[] 69)).alloc (.cells #[] 72)).alloc (.cells #[.slice (some ⟨w.heap.size + 1, 0, none⟩) 0 0, .slice (some ⟨w.heap.size + 2, 0, none⟩) 0 0] 32) := ⟨_, rfl⟩
  have HS0 : Hid (QI w S [] [] W0) := by show QI _ _ _ _ _; rw [hS, hW0]; exact QI.start w
  have HS : Hid (S = w.heap.size) := hS
  have HW0 : Hid (W0 = (((w.alloc (.cells #[.slice none 0 0, .slice none 0 0] 32)).alloc (.cells #[] 69)).alloc (.cells #[] 72)).alloc (.cells #[.slice (some ⟨w.heap.size + 1, 0, none⟩) 0 0, .slice (some ⟨w.heap.size + 2, 0, none⟩) 0 0] 32)) := hW0
  clear hW0 hS
  have hz0 := HS0.out.size
  have g3 : W0.cell? ⟨S, 0, none⟩ = some (.slice none 0 0) := by rw [cell_block HS0.out.rs]; rfl
  have g4 : W0.cell? ⟨S, 1, none⟩ = some (.slice none 0 0) := by rw [cell_block HS0.out.rs]; rfl
  have g5 : W0.frozen? ⟨S, 0, none⟩ = false := free_block HS0.out.rs
  have g6 : W0.frozen? ⟨S, 1, none⟩ = false := free_block HS0.out.rs
  go_enter Tryz.func15, Tryz.ntmps15
  go_upto_region 2 with fail
  rw [← HW0.out, ← HS.out]
  clear HW0
  by_cases h8 : (8 : Int) < n
  · have HO : Hid (srO xs = none) := srO_long (by have := HN.out.1; omega)
    have HQ : Hid (QI w S [] [] W0) := HS0.out
    go_wp2_with fail
    obtain ⟨r1, r2, r3⟩ := outNil HS.out (HQ.out).rs (HQ.out).fr
    obtain ⟨G, hG⟩ : ∃ G, G = (W0.setCell ⟨S, 0, none⟩ (.slice none 0 0)).setCell ⟨S, 1, none⟩ (.slice none 0 0) := ⟨_, rfl⟩
    rw [← hG] at r1 r2 r3 ⊢
    refine bodyPost_ret (v := .tuple #[.agg #[.slice none 0 0, .slice none 0 0], .bool false]) (by simp [results, Tryz.results15, go_sem, r1, r2]) rfl ?_
    exact ⟨_, _, by rw [HO.out]; rfl, by rw [HO.out]; exact OwnGraph.nil _ _, r3⟩
  · clear g3 g4 g5 g6
    have hn8 : n ≤ 8 := by omega
    go_wp2_with fail
    go_loopw [5] (fun q wr => ∃ (k : Nat) (ns : List Nd) (es : List Ed), k ≤ n ∧ q = .int .i64 k ∧ rdI (xs.take k) = some (ns, es) ∧ ns.length ≤ 127 * k ∧ es.length ≤ 200 ∧ QI w S ns es wr) (fun q _ => n - (intOf q).toNat)
    case atStart => exact ⟨0, [], [], by omega, rfl, rfl, by simp, by simp, HS0.out⟩
    case round =>
      obtain ⟨j, ns, es, hj, rfl, hrd, hln, hle, hI⟩ := hrel
      by_cases hlt : j < n
      · rcases H.out with ⟨hz, _⟩ | ⟨_, b1, o1, q1, hv1, hb1, E1⟩
        · have := HN.out.1; rw [hz] at this; simp at this; omega
        obtain rfl : a = some ⟨b1, o1, none⟩ := by injection hv1
        obtain ⟨⟨m0, m1⟩, hx⟩ : ∃ x, xs[j]? = some x := ⟨_, List.getElem?_eq_getElem (by rw [← HN.out.1]; exact hlt)⟩
        have hm1 : m1.length ≤ lenS xs := lenS_mem (List.mem_of_getElem? hx)
        have HSC : Hid (∀ W, Below S w W → W.cell? ⟨b1, o1 + j * 2, none⟩ = some (.int .i64 m0) ∧ W.cell? ⟨b1, o1 + j * 2 + 1, none⟩ = some (.string ⟨m1.toArray⟩)) := fun W hb => by
          have hb' : Below w.heap.size w W := HS.out ▸ hb
          exact ⟨by rw [Below.celz hb' _ _ _ hb1]; exact E1 j _ hx 0 _ rfl, by rw [Below.celz hb' _ _ _ hb1]; exact E1 j _ hx 1 _ rfl⟩
        have HX : Hid (xs[j]? = some (m0, m1)) := hx
        have HRD : Hid (rdI (xs.take j) = some (ns, es) ∧ ns.length ≤ 127 * j ∧ es.length ≤ 200 ∧ m1.length ≤ 1048576) := ⟨hrd, hln, hle, by have := HN.out.2; omega⟩
        obtain ⟨v1, v2, hgb, hog, hne⟩ := hI.gb
        obtain ⟨xa, xc, rfl⟩ := own_form hog.1
        obtain ⟨ya, yc, rfl⟩ := own_form hog.2.1
        have hz := hI.size
        have t0 : wr.drew.cell? ⟨S + 3, 0, none⟩ = some (.slice xa ns.length xc) := by rw [show wr.drew.cell? ⟨S + 3, 0, none⟩ = wr.cell? ⟨S + 3, 0, none⟩ from rfl, cell_block hgb]; rfl
        have t1 : wr.drew.cell? ⟨S + 3, 1, none⟩ = some (.slice ya es.length yc) := by rw [show wr.drew.cell? ⟨S + 3, 1, none⟩ = wr.cell? ⟨S + 3, 1, none⟩ from rfl, cell_block hgb]; rfl
        have s0 : wr.drew.cell? ⟨b1, o1 + j * 2, none⟩ = some (.int .i64 m0) ∧ wr.drew.cell? ⟨b1, o1 + j * 2 + 1, none⟩ = some (.string ⟨m1.toArray⟩) := HSC.out wr hI.fr
        have bdr : Below wr.heap.size wr wr.drew := (Below.refl _ _).drew
        have HQd : Hid (QI w S ns es wr.drew ∧ wr.drew.heap[S + 3]? = some (.cells #[.slice xa ns.length xc, .slice ya es.length yc] 32 (0, 0)) ∧ OwnGraph wr.drew (S + 1) (.slice xa ns.length xc) (.slice ya es.length yc) ns es) := ⟨hI.below bdr, hgb, hog.keep bdr⟩
        have HC : Hid (Calls Tryz.prog 33 #[.agg #[.slice xa ns.length xc, .slice ya es.length yc], .agg #[.int .i64 m0, .string ⟨m1.toArray⟩]] wr.drew (LdPost wr.drew (S + 1) (.slice xa ns.length xc) (.slice ya es.length yc) ns es m0 ⟨m1.toArray⟩)) :=
          l4Read (S + 1) _ _ ns es m0 ⟨m1.toArray⟩ wr.drew (by rw [size_mk]; have := HN.out.2; omega) (by have := HQd.out.1.size; omega) HQd.out.2.2 (by omega) (by omega)
        have k0 : (0 : Int) ≤ (j : Int) := by omega
        have k1 : (j : Int) < (n : Int) := by omega
        clear hx hrd hln hle hI hgb hog hne E1 hv1 hm1 bdr
        go_upto_region 8 with fail
        refine region_plain (S := fun w' => w'.cell? ⟨b1, o1 + j * 2, none⟩ = some (.int .i64 m0) ∧ w'.cell? ⟨b1, o1 + j * 2 + 1, none⟩ = some (.string ⟨m1.toArray⟩)) (by kernel_rfl) s0 (fun _ => ?_)
        refine takeH 1 (.slice (some ⟨b1, o1, none⟩) n cap) rfl (by kernel_rfl) (by kernel_rfl) (by kernel_rfl) (Or.inl ⟨by rfl, fun w' hS' => by go_simp⟩) s0 ?_
        simp only [Act.put, List.setIfInBounds_toArray]
        refine takeH 2 (.int .i64 (j : Int)) rfl (by kernel_rfl) (by kernel_rfl) (by kernel_rfl) (Or.inl ⟨by rfl, fun w' hS' => by go_simp⟩) s0 ?_
        simp only [Act.put]
        refine takeH 3 (.pointer (some ⟨b1, o1 + j * 2, none⟩)) rfl (by kernel_rfl) (by kernel_rfl) (by kernel_rfl) (Or.inl ⟨by rfl, fun w' hS' => by go_simp⟩) s0 ?_
        simp only [Act.put]
        refine takeH 4 (.agg #[.int .i64 m0, .string ⟨m1.toArray⟩]) rfl (by kernel_rfl) (by kernel_rfl) (by kernel_rfl) (Or.inl ⟨by rfl, fun w' hS' => by go_simp⟩) s0 ?_
        simp only [Act.put]
        refine wpAnyH_ready (rs := [0]) (by kernel_rfl) (by simp) ?_
        refine AllReadyH.cons rfl (fun K hK => ?_) AllReadyH.nil
        go_simp
        refine hK.out _ _ s0 (fun _ => ?_)
        clear hK K
        refine wpAnyH_ready (rs := [5]) (by kernel_rfl) (by simp) ?_
        refine AllReadyH.cons rfl (fun K hK => ?_) AllReadyH.nil
        go_simp
        refine HC.out.mono ?_
        rintro e w3 ⟨u1, u2, b, ns', es', rfl, hbut, og3, hle3, hln3, hu1, hu2, hb1, hb0⟩
        obtain ⟨ua, uc, rfl⟩ := own_form og3.1
        obtain ⟨va, vc, rfl⟩ := own_form og3.2.1
        obtain ⟨⟨hg3, hr3, hB3⟩, hq4⟩ := HQd.out.1.read HQd.out.2.1 hbut og3 hu1 hu2
        have s3 : w3.cell? ⟨b1, o1 + j * 2, none⟩ = some (.int .i64 m0) ∧ w3.cell? ⟨b1, o1 + j * 2 + 1, none⟩ = some (.string ⟨m1.toArray⟩) := HSC.out w3 hB3
        obtain ⟨w4, hw4⟩ : ∃ w4, w4 = (w3.setCell ⟨S + 3, 0, none⟩ (.slice ua ns'.length uc)).setCell ⟨S + 3, 1, none⟩ (.slice va es'.length vc) := ⟨_, rfl⟩
        rw [← hw4] at hq4
        have s4 : w4.cell? ⟨b1, o1 + j * 2, none⟩ = some (.int .i64 m0) ∧ w4.cell? ⟨b1, o1 + j * 2 + 1, none⟩ = some (.string ⟨m1.toArray⟩) := HSC.out w4 hq4.fr
        have f0 : w3.cell? ⟨S + 3, 0, none⟩ = some (.slice xa ns.length xc) := by rw [cell_block hg3]; rfl
        have f1 : w3.cell? ⟨S + 3, 1, none⟩ = some (.slice ya es.length yc) := by rw [cell_block hg3]; rfl
        have f2 : w3.frozen? ⟨S + 3, 0, none⟩ = false := free_block hg3
        have f3 : w3.frozen? ⟨S + 3, 1, none⟩ = false := free_block hg3
        have HG3 : Hid (w3.heap[S + 3]? = some (.cells #[.slice xa ns.length xc, .slice ya es.length yc] 32 (0, 0))) := hg3
        have HQ4 : Hid (QI w S ns' es' w4 ∧ es'.length ≤ es.length + m1.length ∧ ns'.length ≤ ns.length + 127 ∧ (b = true → ∃ n1 e1, gfO ⟨m1.toArray⟩ m0 = some (n1, e1, (m1.length : Int)) ∧ ns' = ns ++ n1 ∧ es' = es ++ e1) ∧ (b = false → ∀ n1 e1, gfO ⟨m1.toArray⟩ m0 ≠ some (n1, e1, (m1.length : Int)))) := by
          rw [size_mk] at hle3 hb1 hb0
          exact ⟨hq4, hle3, hln3, hb1, hb0⟩
        have HW4 : Hid (w4 = (w3.setCell ⟨S + 3, 0, none⟩ (.slice ua ns'.length uc)).setCell ⟨S + 3, 1, none⟩ (.slice va es'.length vc)) := hw4
        clear hbut og3 hle3 hln3 hu1 hu2 hb1 hb0 hg3 hr3 hB3 hq4 hw4
        try simp only []
        refine hK.out _ _ s3 (fun _ => ?_)
        clear hK K
        refine takeH 6 (.tuple #[.agg #[.slice ua ns'.length uc, .slice va es'.length vc], .bool b]) rfl (by kernel_rfl) (by kernel_rfl) (by kernel_rfl) (Or.inl ⟨by rfl, fun w' hS' => by go_simp⟩) s3 ?_
        simp only [Act.put, List.setIfInBounds_toArray]
        refine takeH 7 (.agg #[.slice ua ns'.length uc, .slice va es'.length vc]) rfl (by kernel_rfl) (by kernel_rfl) (by kernel_rfl) (Or.inl ⟨by rfl, fun w' hS' => by go_simp⟩) s3 ?_
        simp only [Act.put]
        refine takeH 8 (.bool b) rfl (by kernel_rfl) (by kernel_rfl) (by kernel_rfl) (Or.inl ⟨by rfl, fun w' hS' => by go_simp⟩) s3 ?_
        simp only [Act.put]
        refine wpAnyH_ready (rs := [9]) (by kernel_rfl) (by simp) ?_
        refine AllReadyH.cons rfl (fun K hK => ?_) AllReadyH.nil
        go_simp
        rw [← HW4.out]
        refine hK.out _ _ s4 (fun _ => ?_)
        clear hK K
        refine takeH 10 (.bool b) rfl (by kernel_rfl) (by kernel_rfl) (by kernel_rfl) (Or.inl ⟨by rfl, fun w' hS' => by go_simp⟩) s4 ?_
        simp only [Act.put]
        refine wpAnyH_done (by kernel_rfl) ?_ _
        refine ⟨rfl, ?_⟩
        have hz4 := HQ4.out.1.size
        have g3 : w4.cell? ⟨S, 0, none⟩ = some (.slice none 0 0) := by rw [cell_block HQ4.out.1.rs]; rfl
        have g4 : w4.cell? ⟨S, 1, none⟩ = some (.slice none 0 0) := by rw [cell_block HQ4.out.1.rs]; rfl
        have g5 : w4.frozen? ⟨S, 0, none⟩ = false := free_block HQ4.out.1.rs
        have g6 : w4.frozen? ⟨S, 1, none⟩ = false := free_block HQ4.out.1.rs
        have g7 : w4.cell? ⟨S + 3, 1, none⟩ = some (.slice va es'.length vc) := by
          have := set_blk (i := 1) (.slice va es'.length vc) (set_blk (i := 0) (.slice ua ns'.length uc) HG3.out)
          rw [HW4.out, cell_block this]; rfl
        clear f0 f1 f2 f3 s3 s4 s0 t0 t1
        cases b
        · have HO : Hid (srO xs = none) := srO_fail HX.out HRD.out.1 (HQ4.out.2.2.2.2 rfl)
          go_wp2_with fail
          obtain ⟨r1, r2, r3⟩ := outNil HS.out (HQ4.out.1).rs (HQ4.out.1).fr
          obtain ⟨G, hG⟩ : ∃ G, G = (w4.setCell ⟨S, 0, none⟩ (.slice none 0 0)).setCell ⟨S, 1, none⟩ (.slice none 0 0) := ⟨_, rfl⟩
          rw [← hG] at r1 r2 r3 ⊢
          refine bodyPost_ret (v := .tuple #[.agg #[.slice none 0 0, .slice none 0 0], .bool false]) (by simp [results, Tryz.results15, go_sem, r1, r2]) rfl ?_
          exact ⟨_, _, by rw [HO.out]; rfl, by rw [HO.out]; exact OwnGraph.nil _ _, r3⟩
        · obtain ⟨n1, e1, hg1, rfl, rfl⟩ := HQ4.out.2.2.2.1 rfl
          have HRN : Hid (rdI (xs.take (j + 1)) = some (ns ++ n1, es ++ e1)) := by
            show rdI (xs.take (j + 1)) = some (ns ++ n1, es ++ e1)
            rw [rdI_step HX.out, HRD.out.1]
            exact gfA_some hg1
          obtain ⟨el, hel⟩ : ∃ el, el = (es ++ e1).length := ⟨_, rfl⟩
          have HEL : Hid (el = (es ++ e1).length) := hel
          rw [← hel] at g7 ⊢
          have hel2 : el ≤ 2097152 := by have := HQ4.out.2.1; have := HRD.out.2.2.1; have := HRD.out.2.2.2; omega
          clear hel hg1
          by_cases h200 : (200 : Int) < el
          · have HO : Hid (srO xs = none) := srO_many HRN.out (by rw [← HEL.out]; omega)
            go_wp2_with fail
            obtain ⟨r1, r2, r3⟩ := outNil HS.out (HQ4.out.1).rs (HQ4.out.1).fr
            obtain ⟨G, hG⟩ : ∃ G, G = (w4.setCell ⟨S, 0, none⟩ (.slice none 0 0)).setCell ⟨S, 1, none⟩ (.slice none 0 0) := ⟨_, rfl⟩
            rw [← hG] at r1 r2 r3 ⊢
            refine bodyPost_ret (v := .tuple #[.agg #[.slice none 0 0, .slice none 0 0], .bool false]) (by simp [results, Tryz.results15, go_sem, r1, r2]) rfl ?_
            exact ⟨_, _, by rw [HO.out]; rfl, by rw [HO.out]; exact OwnGraph.nil _ _, r3⟩
          · go_wp2_with fail
            go_roundw
            case rel => exact ⟨j + 1, ns ++ n1, es ++ e1, by omega, by go_num, HRN.out, by have := HQ4.out.2.2.1; have := HRD.out.2.1; omega, by rw [← HEL.out]; omega, HQ4.out.1⟩
            case measure => simp [intOf]; omega
      · have hjn : j = n := by omega
        subst hjn
        have hrd2 : rdI xs = some (ns, es) := by
          have := hrd
          rw [HN.out.1, List.take_length] at this
          exact this
        obtain ⟨v1, v2, hgb, hog, hne⟩ := hI.gb
        obtain ⟨xa, xc, rfl⟩ := own_form hog.1
        obtain ⟨ya, yc, rfl⟩ := own_form hog.2.1
        have hz := hI.size
        have p0 : wr.cell? ⟨S + 3, 0, none⟩ = some (.slice xa ns.length xc) := by rw [cell_block hgb]; rfl
        have p1 : wr.cell? ⟨S + 3, 1, none⟩ = some (.slice ya es.length yc) := by rw [cell_block hgb]; rfl
        have HI : Hid (QI w S ns es wr ∧ wr.heap[S + 3]? = some (.cells #[.slice xa ns.length xc, .slice ya es.length yc] 32 (0, 0)) ∧ OwnGraph wr (S + 1) (.slice xa ns.length xc) (.slice ya es.length yc) ns es ∧ ns.length ≤ 127 * j ∧ es.length ≤ 200) := ⟨hI, hgb, hog, hln, hle⟩
        have HC : Hid (Calls Tryz.prog 21 #[.agg #[.slice xa ns.length xc, .slice ya es.length yc]] wr fun e w' => e = .returned (.bool (gokB ns es)) ∧ Below wr.heap.size wr w') :=
          spec_GraphOk _ _ ns es wr (row_of_own encNode_len (by decide) hog.1) (row_of_own encEdge_len (by decide) hog.2.1) (by omega) (by omega)
        have HD : Hid (rdI xs = some (ns, es)) := hrd2
        have hl8 := storeK_le ns es 8
        clear hI hgb hog hne hrd hrd2 hln hle
        cases hb : gokB ns es
        · have HO : Hid (srO xs = none) := srO_bad HD.out hb
          rw [hb] at HC
          clear hb
          go_wp2_with fail
          refine HC.out.mono ?_
          rintro e w2 ⟨rfl, b2⟩
          have HQ2 : Hid (QI w S ns es w2) := HI.out.1.below b2
          have g3 : w2.cell? ⟨S, 0, none⟩ = some (.slice none 0 0) := by rw [cell_block HQ2.out.rs]; rfl
          have g4 : w2.cell? ⟨S, 1, none⟩ = some (.slice none 0 0) := by rw [cell_block HQ2.out.rs]; rfl
          have g5 : w2.frozen? ⟨S, 0, none⟩ = false := free_block HQ2.out.rs
          have g6 : w2.frozen? ⟨S, 1, none⟩ = false := free_block HQ2.out.rs
          have hz2 := HQ2.out.size
          clear b2 p0 p1
          go_wp2_with fail
          obtain ⟨r1, r2, r3⟩ := outNil HS.out (HQ2.out).rs (HQ2.out).fr
          obtain ⟨G, hG⟩ : ∃ G, G = (w2.setCell ⟨S, 0, none⟩ (.slice none 0 0)).setCell ⟨S, 1, none⟩ (.slice none 0 0) := ⟨_, rfl⟩
          rw [← hG] at r1 r2 r3 ⊢
          refine bodyPost_ret (v := .tuple #[.agg #[.slice none 0 0, .slice none 0 0], .bool false]) (by simp [results, Tryz.results15, go_sem, r1, r2]) rfl ?_
          exact ⟨_, _, by rw [HO.out]; rfl, by rw [HO.out]; exact OwnGraph.nil _ _, r3⟩
        · have HGK : Hid (gokB ns es = true) := hb
          rw [hb] at HC
          clear hb
          go_wp2_with fail
          refine HC.out.mono ?_
          rintro e w2 ⟨rfl, b2⟩
          have HQ2 : Hid (QI w S ns es w2 ∧ w2.heap[S + 3]? = some (.cells #[.slice xa ns.length xc, .slice ya es.length yc] 32 (0, 0)) ∧ OwnGraph w2 (S + 1) (.slice xa ns.length xc) (.slice ya es.length yc) ns es) := ⟨HI.out.1.below b2, (b2.block _ (by omega)).trans HI.out.2.1, HI.out.2.2.1.keep b2⟩
          have p2 : w2.cell? ⟨S + 3, 0, none⟩ = some (.slice xa ns.length xc) := by rw [cell_block HQ2.out.2.1]; rfl
          have p3 : w2.cell? ⟨S + 3, 1, none⟩ = some (.slice ya es.length yc) := by rw [cell_block HQ2.out.2.1]; rfl
          have hz2 := HQ2.out.1.size
          have HC2 : Hid (Calls Tryz.prog 22 #[.agg #[.slice xa ns.length xc, .slice ya es.length yc]] w2 fun e w' => ∃ u, e = .returned u ∧ w'.ownsRow w2.heap.size 52 2 u (storeL ns es).length ((storeL ns es).flatMap encSeg) ∧ Below w2.heap.size w2 w') :=
            l4Store _ _ ns es w2 (row_of_own encNode_len (by decide) HQ2.out.2.2.1) (row_of_own encEdge_len (by decide) HQ2.out.2.2.2.1) (by have := HI.out.2.2.2.1; omega) (by have := HI.out.2.2.2.2; omega) HGK.out
          clear b2 p0 p1
          go_wp2_with fail
          refine HC2.out.mono ?_
          rintro e w3 ⟨u, rfl, hu, b3⟩
          have HQ3 : Hid (QI w S ns es w3 ∧ w3.heap[S + 3]? = some (.cells #[.slice xa ns.length xc, .slice ya es.length yc] 32 (0, 0)) ∧ OwnGraph w3 (S + 1) (.slice xa ns.length xc) (.slice ya es.length yc) ns es) := ⟨HQ2.out.1.below b3, (b3.block _ (by omega)).trans HQ2.out.2.1, HQ2.out.2.2.keep b3⟩
          have HC3 : Hid (Calls Tryz.prog 34 #[u, .slice a j cap] w3 fun e w' => e = .returned (.bool (eqB (storeL ns es) xs)) ∧ Below w3.heap.size w3 w') :=
            specStoreSame u _ (storeL ns es) xs w3 (row_of_own encSeg_len (by decide) hu) (HR.out _ (HS.out ▸ HQ3.out.1.fr)) (by unfold storeL; omega) (by rw [← HN.out.1]; omega)
          have hz3 := HQ3.out.1.size
          clear hu b3 p2 p3
          go_wp2_with fail
          refine HC3.out.mono ?_
          rintro e w4 ⟨rfl, b4⟩
          have HQ4 : Hid (QI w S ns es w4 ∧ w4.heap[S + 3]? = some (.cells #[.slice xa ns.length xc, .slice ya es.length yc] 32 (0, 0)) ∧ OwnGraph w4 (S + 1) (.slice xa ns.length xc) (.slice ya es.length yc) ns es) := ⟨HQ3.out.1.below b4, (b4.block _ (by omega)).trans HQ3.out.2.1, HQ3.out.2.2.keep b4⟩
          have g3 : w4.cell? ⟨S, 0, none⟩ = some (.slice none 0 0) := by rw [cell_block HQ4.out.1.rs]; rfl
          have g4 : w4.cell? ⟨S, 1, none⟩ = some (.slice none 0 0) := by rw [cell_block HQ4.out.1.rs]; rfl
          have g5 : w4.frozen? ⟨S, 0, none⟩ = false := free_block HQ4.out.1.rs
          have g6 : w4.frozen? ⟨S, 1, none⟩ = false := free_block HQ4.out.1.rs
          have g7 : w4.cell? ⟨S + 3, 0, none⟩ = some (.slice xa ns.length xc) := by rw [cell_block HQ4.out.2.1]; rfl
          have g8 : w4.cell? ⟨S + 3, 1, none⟩ = some (.slice ya es.length yc) := by rw [cell_block HQ4.out.2.1]; rfl
          have hz4 := HQ4.out.1.size
          clear b4
          cases hb : eqB (storeL ns es) xs
          · have HO : Hid (srO xs = none) := by
              show srO xs = none
              rw [srO_done HD.out, if_neg (eqB_false.1 hb)]
            clear hb
            go_wp2_with fail
            obtain ⟨r1, r2, r3⟩ := outNil HS.out (HQ4.out.1).rs (HQ4.out.1).fr
            obtain ⟨G, hG⟩ : ∃ G, G = (w4.setCell ⟨S, 0, none⟩ (.slice none 0 0)).setCell ⟨S, 1, none⟩ (.slice none 0 0) := ⟨_, rfl⟩
            rw [← hG] at r1 r2 r3 ⊢
            refine bodyPost_ret (v := .tuple #[.agg #[.slice none 0 0, .slice none 0 0], .bool false]) (by simp [results, Tryz.results15, go_sem, r1, r2]) rfl ?_
            exact ⟨_, _, by rw [HO.out]; rfl, by rw [HO.out]; exact OwnGraph.nil _ _, r3⟩
          · have HO : Hid (srO xs = some (ns, es)) := by
              show srO xs = some (ns, es)
              rw [srO_done HD.out, if_pos (eqB_true.1 hb)]
            clear hb
            go_wp2_with fail
            obtain ⟨r1, r2, r3, r4⟩ := outG (w := w) (C := S) HQ4.out.2.2 HQ4.out.1.rs (fun k hk => by
              rcases hk with hk | hk
              · have := (HQ4.out.2.2.1.lt k hk).1; omega
              · have := (HQ4.out.2.2.2.1.lt k hk).1; omega)
            obtain ⟨G, hG⟩ : ∃ G, G = (w4.setCell ⟨S, 0, none⟩ (.slice xa ns.length xc)).setCell ⟨S, 1, none⟩ (.slice ya es.length yc) := ⟨_, rfl⟩
            rw [← hG] at r1 r2 r3 r4 ⊢
            refine bodyPost_ret (v := .tuple #[.agg #[.slice xa ns.length xc, .slice ya es.length yc], .bool true]) (by simp [results, Tryz.results15, go_sem, r1, r2]) rfl ?_
            refine ⟨_, _, by rw [HO.out]; rfl, ?_, ?_⟩
            · rw [HO.out, ← HS.out]
              exact ⟨own_mono r4.1 (by omega), own_mono r4.2.1 (by omega), r4.2.2⟩
            · rw [← HS.out]
              exact HQ4.out.1.fr.grown r3 (by have := HS.out; omega) (fun k hk => by cases hk; exact Nat.le_refl _)
end Go.Proofs.YtlnpbfeihjfnjabGreatDoor.Lab

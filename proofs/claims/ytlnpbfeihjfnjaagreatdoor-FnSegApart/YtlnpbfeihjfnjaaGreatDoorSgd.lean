/-
  spec.GraphDo. (Written by tools/mksgd.py.)
-/
import Derived.Test.YtlnpbfeihjfnjaaGreatDoorLdo
import Derived.Test.YtlnpbfeihjfnjaaGreatDoorGok
import Derived.Deep.RegionHeld3
namespace Go.Proofs.YtlnpbfeihjfnjaaGreatDoor.Lab
open Go.RowKit Go.ChangeMaps
set_option linter.unusedVariables false
theorem doN_len (ns : List Nd) (es : List Ed) (k nl nn l al an bl bn : Int) : (doN ns es k nl nn l al an bl bn).length ≤ ns.length + 1 := by
  have h1 := insW_len (nl, nn) ns
  have h2 : (offN (nl, nn) ns).length ≤ ns.length := List.length_filter_le _ _
  unfold doN
  repeat' split
  all_goals omega
theorem doE_len (ns : List Nd) (es : List Ed) (k nl nn l al an bl bn : Int) : (doE ns es k nl nn l al an bl bn).length ≤ es.length + 1 := by
  have h1 := insE_len (l, al, an, bl, bn) es
  have h2 : (offE (l, al, an, bl, bn) es).length ≤ es.length := List.length_filter_le _ _
  have h3 : (offG (nl, nn) es).length ≤ es.length := List.length_filter_le _ _
  unfold doE
  repeat' split
  all_goals omega
noncomputable def gdN (ns : List Nd) (es : List Ed) (k nl nn l al an bl bn : Int) : List Nd := if gokB ns es then doN ns es k nl nn l al an bl bn else []
noncomputable def gdE (ns : List Nd) (es : List Ed) (k nl nn l al an bl bn : Int) : List Ed := if gokB ns es then doE ns es k nl nn l al an bl bn else []
noncomputable def gdC (ns : List Nd) (es : List Ed) (k nl nn l al an bl bn : Int) : Int := if gokB ns es then doC ns es k nl nn l al an bl bn else 1
/-- A variable of a graph that is not yet set. -/
def Box (w : World) (g : Nat) : Prop := g < w.heap.size ∧ w.cell? ⟨g, 0, none⟩ = some (.slice none 0 0) ∧ w.cell? ⟨g, 1, none⟩ = some (.slice none 0 0) ∧ (∀ o, w.frozen? ⟨g, o, none⟩ = false) ∧ ∀ o i, w.cell? ⟨g, o, none⟩ ≠ some (.int .i64 i)
theorem Box.new (w : World) (t : TypeId) : Box (w.alloc (.cells #[.slice none 0 0, .slice none 0 0] t)) w.heap.size := by
  refine ⟨by simp, by simp [go_sem], by simp [go_sem], fun o => by simp [go_sem], fun o i h => ?_⟩
  match o, h with
  | 0, h => simp [go_sem] at h
  | 1, h => simp [go_sem] at h
  | o + 2, h => simp [go_sem] at h
theorem Box.keep {w w' : World} {g : Nat} (h : Box w g) (hb : Below w.heap.size w w') : Box w' g :=
  ⟨Nat.lt_of_lt_of_le h.1 hb.size, (Below.celz hb _ _ _ h.1).trans h.2.1, (Below.celz hb _ _ _ h.1).trans h.2.2.1, fun o => (Below.froz hb _ _ _ h.1).trans (h.2.2.2.1 o), fun o i => by rw [Below.celz hb _ _ _ h.1]; exact h.2.2.2.2 o i⟩
theorem row_but_box {α : Type} {s : Nat} {enc : α → List Value} {w w' : World} {v : Value} {xs : List α} {g : Nat} (h : RowAt s enc w v xs) (hI : ∀ x, ∃ i, (enc x)[0]? = some (.int .i64 i)) (hg : Box w g) (hs : w.heap.size ≤ w'.heap.size) (hb : ∀ k, k < w.heap.size → k ≠ g → w'.heap[k]? = w.heap[k]?) : RowAt s enc w' v xs := by
  rcases h with h | ⟨h0, b, off, cap, hv, hlt, hc⟩
  · exact .inl h
  · refine .inr ⟨h0, b, off, cap, hv, Nat.lt_of_lt_of_le hlt hs, fun j x hx i u hu => ?_⟩
    have hne : b ≠ g := fun e => by
      obtain ⟨i, hi⟩ := hI x
      have := hc j x hx 0 _ hi
      rw [e] at this
      exact hg.2.2.2.2 _ _ this
    rw [World.cell?_of_block (hb b hlt hne)]
    exact hc j x hx i u hu
set_option maxRecDepth 8000 in
set_option maxHeartbeats 20000000 in
theorem spec_GraphDo_walk (a1 a2 : Option Addr) (n m c1 c2 : Nat) (ns : List Nd) (es : List Ed) (k nl nn l al an bl bn : Int) (w : World) (h1 : RowAt 2 encNode w (.slice a1 n c1) ns) (h2 : RowAt 5 encEdge w (.slice a2 m c2) es) (hN : n = ns.length) (hM : m = es.length) (hn : n ≤ 1048576) (hm : m ≤ 1048576) :
    Calls Tryz.prog 29 #[.agg #[.slice a1 n c1, .slice a2 m c2], .agg #[.int .i64 k, .int .i64 nl, .int .i64 nn, .int .i64 l, .int .i64 al, .int .i64 an, .int .i64 bl, .int .i64 bn]] w fun e w' => ∃ u1 u2, e = .returned (.tuple #[.agg #[u1, u2], .int .i64 (gdC ns es k nl nn l al an bl bn)]) ∧ OwnGraph w' w.heap.size u1 u2 (gdN ns es k nl nn l al an bl bn) (gdE ns es k nl nn l al an bl bn) ∧ Below w.heap.size w w' := by
  have H1 : Hid (RowAt 2 encNode w (.slice a1 n c1) ns) := h1
  have H2 : Hid (RowAt 5 encEdge w (.slice a2 m c2) es) := h2
  have HL : Hid (ns.length = n ∧ es.length = m) := ⟨hN.symm, hM.symm⟩
  clear h1 h2 hN hM
  obtain ⟨W0, hW0⟩ : ∃ W0, W0 = ((w.alloc (.cells #[.slice a1 n c1, .slice a2 m c2] 26)).alloc (.cells #[.int .i64 k, .int .i64 nl, .int .i64 nn, .int .i64 l, .int .i64 al, .int .i64 an, .int .i64 bl, .int .i64 bn] 50)).alloc (.cells #[.slice none 0 0, .slice none 0 0] 26) := ⟨_, rfl⟩
  have b0 : Below w.heap.size w W0 := by rw [hW0]; go_grown
  have z0 : W0.heap.size = w.heap.size + 3 := by rw [hW0]; simp
  have G0 : W0.cell? ⟨w.heap.size, 0, none⟩ = some (.slice a1 n c1) := by rw [hW0]; simp [go_sem]
  have G1 : W0.cell? ⟨w.heap.size, 1, none⟩ = some (.slice a2 m c2) := by rw [hW0]; simp [go_sem]
  have F0 : W0.cell? ⟨w.heap.size + 1, 0, none⟩ = some (.int .i64 k) := by rw [hW0]; simp [go_sem]
  have F1 : W0.cell? ⟨w.heap.size + 1, 1, none⟩ = some (.int .i64 nl) := by rw [hW0]; simp [go_sem]
  have F2 : W0.cell? ⟨w.heap.size + 1, 2, none⟩ = some (.int .i64 nn) := by rw [hW0]; simp [go_sem]
  have F3 : W0.cell? ⟨w.heap.size + 1, 3, none⟩ = some (.int .i64 l) := by rw [hW0]; simp [go_sem]
  have F4 : W0.cell? ⟨w.heap.size + 1, 4, none⟩ = some (.int .i64 al) := by rw [hW0]; simp [go_sem]
  have F5 : W0.cell? ⟨w.heap.size + 1, 5, none⟩ = some (.int .i64 an) := by rw [hW0]; simp [go_sem]
  have F6 : W0.cell? ⟨w.heap.size + 1, 6, none⟩ = some (.int .i64 bl) := by rw [hW0]; simp [go_sem]
  have F7 : W0.cell? ⟨w.heap.size + 1, 7, none⟩ = some (.int .i64 bn) := by rw [hW0]; simp [go_sem]
  have Q0 : W0.cell? ⟨w.heap.size + 1 + 1, 0, none⟩ = some (.slice none 0 0) := by rw [hW0]; simp [go_sem]
  have Q1 : W0.cell? ⟨w.heap.size + 1 + 1, 1, none⟩ = some (.slice none 0 0) := by rw [hW0]; simp [go_sem]
  have QF : ∀ o, W0.frozen? ⟨w.heap.size + 1 + 1, o, none⟩ = false := fun o => by rw [hW0]; simp [go_sem]
  have HR : Hid (∀ W, Below (w.heap.size + 2) W0 W → RowAt 2 encNode W (.slice a1 n c1) ns ∧ RowAt 5 encEdge W (.slice a2 m c2) es) := fun W h => ⟨H1.out.keep (b0.trans (h.mono (by omega))), H2.out.keep (b0.trans (h.mono (by omega)))⟩
  have HCS : Hid (∀ W, Below (w.heap.size + 2) W0 W → W.cell? ⟨w.heap.size, 0, none⟩ = some (.slice a1 n c1) ∧ W.cell? ⟨w.heap.size, 1, none⟩ = some (.slice a2 m c2) ∧ W.cell? ⟨w.heap.size + 1, 0, none⟩ = some (.int .i64 k) ∧ W.cell? ⟨w.heap.size + 1, 1, none⟩ = some (.int .i64 nl) ∧ W.cell? ⟨w.heap.size + 1, 2, none⟩ = some (.int .i64 nn) ∧ W.cell? ⟨w.heap.size + 1, 3, none⟩ = some (.int .i64 l) ∧ W.cell? ⟨w.heap.size + 1, 4, none⟩ = some (.int .i64 al) ∧ W.cell? ⟨w.heap.size + 1, 5, none⟩ = some (.int .i64 an) ∧ W.cell? ⟨w.heap.size + 1, 6, none⟩ = some (.int .i64 bl) ∧ W.cell? ⟨w.heap.size + 1, 7, none⟩ = some (.int .i64 bn) ∧ w.heap.size < W.heap.size ∧ w.heap.size + 1 < W.heap.size ∧ w.heap.size + 1 + 1 < W.heap.size) := fun W h => ⟨(Below.celz h _ _ _ (by omega)).trans G0, (Below.celz h _ _ _ (by omega)).trans G1, (Below.celz h _ _ _ (by omega)).trans F0, (Below.celz h _ _ _ (by omega)).trans F1, (Below.celz h _ _ _ (by omega)).trans F2, (Below.celz h _ _ _ (by omega)).trans F3, (Below.celz h _ _ _ (by omega)).trans F4, (Below.celz h _ _ _ (by omega)).trans F5, (Below.celz h _ _ _ (by omega)).trans F6, (Below.celz h _ _ _ (by omega)).trans F7, by have := h.size; omega, by have := h.size; omega, by have := h.size; omega⟩
  have HCR : Hid (∀ W, Below W0.heap.size W0 W → W.cell? ⟨w.heap.size + 1 + 1, 0, none⟩ = some (.slice none 0 0) ∧ W.cell? ⟨w.heap.size + 1 + 1, 1, none⟩ = some (.slice none 0 0) ∧ (∀ o, W.frozen? ⟨w.heap.size + 1 + 1, o, none⟩ = false)) := fun W h => ⟨(Below.celz h _ _ _ (by omega)).trans Q0, (Below.celz h _ _ _ (by omega)).trans Q1, fun o => (Below.froz h _ _ _ (by omega)).trans (QF o)⟩
  have HB0 : Hid (Below w.heap.size w W0) := b0
  have HW0 : Hid (W0 = ((w.alloc (.cells #[.slice a1 n c1, .slice a2 m c2] 26)).alloc (.cells #[.int .i64 k, .int .i64 nl, .int .i64 nn, .int .i64 l, .int .i64 al, .int .i64 an, .int .i64 bl, .int .i64 bn] 50)).alloc (.cells #[.slice none 0 0, .slice none 0 0] 26)) := hW0
  have hz : w.heap.size + 2 ≤ W0.heap.size := by omega
  have HZ3 : Hid (w.heap.size + 3 ≤ W0.heap.size) := by show _ ≤ _; omega
  clear b0 hW0 z0 G0 G1 F0 F1 F2 F3 F4 F5 F6 F7 Q0 Q1 QF
  go_enter Tryz.func29, Tryz.ntmps29
  go_wp2_with fail
  rw [← HW0.out]
  clear HW0
  refine (spec_GraphOk _ _ ns es _ (HR.out _ (Below.refl _ _)).1 (HR.out _ (Below.refl _ _)).2 (by have := HL.out; omega) (by have := HL.out; omega)).mono ?_
  rintro e w1 ⟨rfl, bb⟩
  have HB1 : Hid (Below W0.heap.size W0 w1) := bb
  obtain ⟨g0, g1, p0, p1, p2, p3, p4, p5, p6, p7, y0, y1, y2⟩ := HCS.out _ (HB1.out.mono hz)
  obtain ⟨r0, r1, rf⟩ := HCR.out _ HB1.out
  clear bb
  cases hg : gokB ns es
  · have HE : Hid (gdN ns es k nl nn l al an bl bn = [] ∧ gdE ns es k nl nn l al an bl bn = [] ∧ gdC ns es k nl nn l al an bl bn = 1) := ⟨by rw [gdN, hg]; rfl, by rw [gdE, hg]; rfl, by rw [gdC, hg]; rfl⟩
    go_wp2_with fail
    try simp only [Exit.inBlock, Exit.then]
    refine bodyPost_ret (v := .tuple #[.agg #[.slice none 0 0, .slice none 0 0], .int .i64 (1)]) (by simp [*, results, Tryz.results29, go_sem]) rfl ?_
    rw [HE.out.1, HE.out.2.1, HE.out.2.2]
    have hb := ((HB1.out.mono hz).setCell (p := ⟨w.heap.size + 1 + 1, 0, none⟩) (by simp) (.slice none 0 0)).setCell (p := ⟨w.heap.size + 1 + 1, 1, none⟩) (by simp) (.slice none 0 0)
    exact ⟨_, _, rfl, ⟨World.ownsRow_nil _ _ _ _, World.ownsRow_nil _ _ _ _, fun k hk => by simp [Value.ownBlock] at hk⟩, HB0.out.trans (hb.mono (by omega))⟩
  · have HE : Hid (gdN ns es k nl nn l al an bl bn = doN ns es k nl nn l al an bl bn ∧ gdE ns es k nl nn l al an bl bn = doE ns es k nl nn l al an bl bn ∧ gdC ns es k nl nn l al an bl bn = doC ns es k nl nn l al an bl bn) := ⟨by rw [gdN, hg]; rfl, by rw [gdE, hg]; rfl, by rw [gdC, hg]; rfl⟩
    have HK : Hid (ns.length ≤ 100000 ∧ es.length ≤ 100000) := ⟨Nat.le_trans (nodes_len (gokB_true.1 hg).1) (by decide), Nat.le_trans (edges_len (gokB_true.1 hg).2) (by decide)⟩
    go_wp2_with fail
    have hS : Hid (∀ w', Below (w.heap.size + 2) W0 w' → Below (w.heap.size + 2) W0 w' ∧ w'.cell? ⟨w.heap.size, 0, none⟩ = some (.slice a1 n c1) ∧ w'.cell? ⟨w.heap.size, 1, none⟩ = some (.slice a2 m c2) ∧ w'.cell? ⟨w.heap.size + 1, 0, none⟩ = some (.int .i64 k) ∧ w'.cell? ⟨w.heap.size + 1, 1, none⟩ = some (.int .i64 nl) ∧ w'.cell? ⟨w.heap.size + 1, 2, none⟩ = some (.int .i64 nn) ∧ w'.cell? ⟨w.heap.size + 1, 3, none⟩ = some (.int .i64 l) ∧ w'.cell? ⟨w.heap.size + 1, 4, none⟩ = some (.int .i64 al) ∧ w'.cell? ⟨w.heap.size + 1, 5, none⟩ = some (.int .i64 an) ∧ w'.cell? ⟨w.heap.size + 1, 6, none⟩ = some (.int .i64 bl) ∧ w'.cell? ⟨w.heap.size + 1, 7, none⟩ = some (.int .i64 bn)) := fun w' hn => ⟨hn, (HCS.out _ hn).1, (HCS.out _ hn).2.1, (HCS.out _ hn).2.2.1, (HCS.out _ hn).2.2.2.1, (HCS.out _ hn).2.2.2.2.1, (HCS.out _ hn).2.2.2.2.2.1, (HCS.out _ hn).2.2.2.2.2.2.1, (HCS.out _ hn).2.2.2.2.2.2.2.1, (HCS.out _ hn).2.2.2.2.2.2.2.2.1, (HCS.out _ hn).2.2.2.2.2.2.2.2.2.1⟩
    generalize HDN : doN ns es k nl nn l al an bl bn = dn at *
    generalize HDE : doE ns es k nl nn l al an bl bn = de at *
    generalize HDC : doC ns es k nl nn l al an bl bn = dc at *
    have HDD : Hid (doN ns es k nl nn l al an bl bn = dn ∧ doE ns es k nl nn l al an bl bn = de ∧ doC ns es k nl nn l al an bl bn = dc) := ⟨HDN, HDE, HDC⟩
    clear HDN HDE HDC
    go_region_held3 (fun w' => Below (w.heap.size + 2) W0 w' ∧ w'.cell? ⟨w.heap.size, 0, none⟩ = some (.slice a1 n c1) ∧ w'.cell? ⟨w.heap.size, 1, none⟩ = some (.slice a2 m c2) ∧ w'.cell? ⟨w.heap.size + 1, 0, none⟩ = some (.int .i64 k) ∧ w'.cell? ⟨w.heap.size + 1, 1, none⟩ = some (.int .i64 nl) ∧ w'.cell? ⟨w.heap.size + 1, 2, none⟩ = some (.int .i64 nn) ∧ w'.cell? ⟨w.heap.size + 1, 3, none⟩ = some (.int .i64 l) ∧ w'.cell? ⟨w.heap.size + 1, 4, none⟩ = some (.int .i64 al) ∧ w'.cell? ⟨w.heap.size + 1, 5, none⟩ = some (.int .i64 an) ∧ w'.cell? ⟨w.heap.size + 1, 6, none⟩ = some (.int .i64 bl) ∧ w'.cell? ⟨w.heap.size + 1, 7, none⟩ = some (.int .i64 bn))
      (first | with_reducible exact hS.out _ (Below.drew (Below.mono HB1.out hz)) | with_reducible exact hS.out _ (Below.mono B4 hz) | with_reducible exact hS.out _ (Below.mono B3 hz) | exact hS.out _ (Below.alloc (Below.mono B4 hz) (Nat.le_trans hz (Below.size B4)) _) | exact hS.out _ (Below.alloc (Below.mono B3 hz) (Nat.le_trans hz (Below.size B3)) _) | exact hS.out _ (Below.drew (Below.alloc (Below.mono HB1.out hz) (Nat.le_trans hz (Below.size HB1.out)) _)) | exact hS.out _ (Below.setCell (Below.setCell (Below.alloc (Below.mono B4 hz) (Nat.le_trans hz (Below.size B4)) _) (Nat.le_trans hz (Below.size B4)) _) (Nat.le_trans hz (Below.size B4)) _) | exact hS.out _ (Below.setCell (Below.setCell (Below.mono B4 hz) (Nat.le_trans hz (Below.size B3)) _) (Nat.le_trans hz (Below.size B3)) _) | exact hS.out _ (Below.setCell (Below.setCell (Below.mono B4 hz) (Nat.le_trans hz (Below.size HB1.out)) _) (Nat.le_trans hz (Below.size HB1.out)) _))
      (first | (go_at_call 73; refine (l2Copy _ _ ns es w1.drew (HR.out _ (And.left (by assumption))).1 (HR.out _ (And.left (by assumption))).2 (by have := HK.out; omega) (by have := HK.out; omega)).mono ?_; rintro e w3 ⟨u1, u2, rfl, oc, tc⟩; have tc2 : Below w1.heap.size w1 w3 := keep_below (Below.refl _ w1).drew tc; have B3 : Below W0.heap.size W0 w3 := keep_below3 HB1.out tc2) | (go_at_call 73; refine (l2Copy _ _ ns es ((w1.alloc (.cells #[.slice none 0 0, .slice none 0 0] 26)).drew) (HR.out _ (And.left (by assumption))).1 (HR.out _ (And.left (by assumption))).2 (by have := HK.out; omega) (by have := HK.out; omega)).mono ?_; rintro e w3 ⟨u1, u2, rfl, oc, tc⟩; have tc2 : Below w1.heap.size w1 w3 := keep_below ((Below.refl _ w1).alloc (Nat.le_refl _) _).drew tc; have B3 : Below W0.heap.size W0 w3 := keep_below3 HB1.out tc2; have bx3 : Hid (Box w3 w1.heap.size) := Box.keep (Box.keep (Box.new w1 _) (Below.refl _ _).drew) tc) | (go_at_call 72; refine (l2Do _ _ ns es k nl nn l al an bl bn w3 oc.nodes oc.edges HK.out.1 HK.out.2).mono ?_; rw [HDD.out.1, HDD.out.2.1, HDD.out.2.2]; rintro e w4 ⟨x1, x2, rfl, ox1, ox2, tx⟩; have bx4 : Hid (Box w4 w1.heap.size) := Box.keep bx3.out tx; have B4 : Below W0.heap.size W0 w4 := keep_below3 B3 tx; obtain ⟨k0, k1, k2, k3, k4⟩ := bx4.out; clear k4; obtain ⟨q1, q2, rfl⟩ := ox1.len; obtain ⟨q3, q4, rfl⟩ := ox2.len) | (go_at_call 72; refine (l2Do _ _ ns es k nl nn l al an bl bn w3 oc.nodes oc.edges HK.out.1 HK.out.2).mono ?_; rw [HDD.out.1, HDD.out.2.1, HDD.out.2.2]; rintro e w4 ⟨x1, x2, rfl, ox1, ox2, tx⟩; have B4 : Below W0.heap.size W0 w4 := keep_below3 B3 tx; obtain ⟨q1, q2, rfl⟩ := ox1.len; obtain ⟨q3, q4, rfl⟩ := ox2.len) | (go_at_call 72; refine (l2Do _ _ ns es k nl nn l al an bl bn (w3.alloc (.cells #[.slice none 0 0, .slice none 0 0] 26)) (oc.nodes.keep ((Below.refl _ w3).alloc (Nat.le_refl _) _)) (oc.edges.keep ((Below.refl _ w3).alloc (Nat.le_refl _) _)) HK.out.1 HK.out.2).mono ?_; rw [HDD.out.1, HDD.out.2.1, HDD.out.2.2]; rintro e w4 ⟨x1, x2, rfl, ox1, ox2, tx⟩; have bx4 : Hid (Box w4 w3.heap.size) := Box.keep (Box.new w3 _) tx; have B4 : Below W0.heap.size W0 w4 := keep_below3 (B3.alloc (Below.size B3) _) tx; obtain ⟨k0, k1, k2, k3, k4⟩ := bx4.out; clear k4; obtain ⟨q1, q2, rfl⟩ := ox1.len; obtain ⟨q3, q4, rfl⟩ := ox2.len))
    ·
      obtain ⟨wf, hwf⟩ : ∃ wf, wf = w4.alloc (.cells #[.slice q1 dn.length q2, .slice q3 de.length q4] 26) := ⟨_, rfl⟩
      have e0 : wf.cell? ⟨w4.heap.size, 0, none⟩ = some (.slice q1 dn.length q2) := by rw [hwf]; simp [go_sem]
      have e1 : wf.cell? ⟨w4.heap.size, 1, none⟩ = some (.slice q3 de.length q4) := by rw [hwf]; simp [go_sem]
      have HX : Hid (RowAt 2 encNode wf (.slice q1 dn.length q2) dn ∧ RowAt 5 encEdge wf (.slice q3 de.length q4) de) := ⟨ox1.keep (by rw [hwf]; exact (Below.refl _ _).alloc (Nat.le_refl _) _), ox2.keep (by rw [hwf]; exact (Below.refl _ _).alloc (Nat.le_refl _) _)⟩
      have HBf : Hid (Below W0.heap.size W0 wf) := by show Below _ _ _; rw [hwf]; exact B4.alloc (Below.size B4) _
      rw [← hwf]
      clear hwf hS tc tc2 B3 B4 tx oc ox1 ox2 g0 g1 p0 p1 p2 p3 p4 p5 p6 p7 y0 y1 y2 r0 r1 rf
      obtain ⟨g0, g1, p0, p1, p2, p3, p4, p5, p6, p7, y0, y1, y2⟩ := HCS.out _ (HBf.out.mono hz)
      obtain ⟨r0, r1, rf⟩ := HCR.out _ HBf.out
      go_wp2_with fail
      refine (l2Copy _ _ dn de _ HX.out.1 HX.out.2 (by have := doN_len ns es k nl nn l al an bl bn; rw [HDD.out.1] at this; have := HK.out; omega) (by have := doE_len ns es k nl nn l al an bl bn; rw [HDD.out.2.1] at this; have := HK.out; omega)).mono ?_
      rintro e w6 ⟨u5, u6, rfl, o6, t6⟩
      have HB6 : Hid (Below W0.heap.size W0 w6) := keep_below3 HBf.out t6
      obtain ⟨z1, z2, z3, z4, rfl, rfl⟩ := o6.form
      have HO6 : Hid (OwnGraph w6 wf.heap.size (.slice z1 dn.length z2) (.slice z3 de.length z4) dn de) := o6
      clear g0 g1 p0 p1 p2 p3 p4 p5 p6 p7 y0 y1 y2 r0 r1 rf o6 t6 e0 e1
      obtain ⟨r0, r1, rf⟩ := HCR.out _ HB6.out
      obtain ⟨g0, g1, p0, p1, p2, p3, p4, p5, p6, p7, y0, y1, y2⟩ := HCS.out _ (HB6.out.mono hz)
      go_wp2_with fail
      try simp only [Exit.inBlock, Exit.then]
      refine bodyPost_ret (v := .tuple #[.agg #[.slice z1 dn.length z2, .slice z3 de.length z4], .int .i64 (dc)]) (by simp [*, results, Tryz.results29, go_sem]) rfl ?_
      rw [HE.out.1, HE.out.2.1, HE.out.2.2]
      have hb := ((HB6.out.mono hz).setCell (p := ⟨w.heap.size + 1 + 1, 0, none⟩) (by simp) (.slice z1 dn.length z2)).setCell (p := ⟨w.heap.size + 1 + 1, 1, none⟩) (by simp) (.slice z3 de.length z4)
      have hle : w.heap.size ≤ wf.heap.size := by have := HBf.out.size; omega
      exact ⟨_, _, rfl, ⟨own_mono (ownsRow_setCell_below (ownsRow_setCell_below HO6.out.1 (by have := HBf.out.size; have := HZ3.out; simp; omega) _) (by have := HBf.out.size; have := HZ3.out; simp; omega) _) hle, own_mono (ownsRow_setCell_below (ownsRow_setCell_below HO6.out.2.1 (by have := HBf.out.size; have := HZ3.out; simp; omega) _) (by have := HBf.out.size; have := HZ3.out; simp; omega) _) hle, HO6.out.2.2⟩, HB0.out.trans (hb.mono (by omega))⟩
    ·
      obtain ⟨wf, hwf⟩ : ∃ wf, wf = (w4.setCell ⟨w3.heap.size, 0, none⟩ (.slice q1 dn.length q2)).setCell ⟨w3.heap.size, 1, none⟩ (.slice q3 de.length q4) := ⟨_, rfl⟩
      have e0 : wf.cell? ⟨w3.heap.size, 0, none⟩ = some (.slice q1 dn.length q2) := by rw [hwf]; simp [go_sem, k1]
      have e1 : wf.cell? ⟨w3.heap.size, 1, none⟩ = some (.slice q3 de.length q4) := by rw [hwf]; simp [go_sem, k2]
      have HX : Hid (RowAt 2 encNode wf (.slice q1 dn.length q2) dn ∧ RowAt 5 encEdge wf (.slice q3 de.length q4) de) := ⟨row_but_box ox1 (fun x => ⟨_, rfl⟩) bx4.out (by rw [hwf]; simp) (fun k hk hne => by rw [hwf, Below.heap_setCell _ _ _ _ hne, Below.heap_setCell _ _ _ _ hne]), row_but_box ox2 (fun x => ⟨_, rfl⟩) bx4.out (by rw [hwf]; simp) (fun k hk hne => by rw [hwf, Below.heap_setCell _ _ _ _ hne, Below.heap_setCell _ _ _ _ hne])⟩
      have HBf : Hid (Below W0.heap.size W0 wf) := by show Below _ _ _; rw [hwf]; exact (B4.setCell (Below.size B3) _).setCell (Below.size B3) _
      rw [← hwf]
      clear hwf hS tc tc2 B3 B4 tx oc ox1 ox2 g0 g1 p0 p1 p2 p3 p4 p5 p6 p7 y0 y1 y2 r0 r1 rf
      obtain ⟨g0, g1, p0, p1, p2, p3, p4, p5, p6, p7, y0, y1, y2⟩ := HCS.out _ (HBf.out.mono hz)
      obtain ⟨r0, r1, rf⟩ := HCR.out _ HBf.out
      go_wp2_with fail
      refine (l2Copy _ _ dn de _ HX.out.1 HX.out.2 (by have := doN_len ns es k nl nn l al an bl bn; rw [HDD.out.1] at this; have := HK.out; omega) (by have := doE_len ns es k nl nn l al an bl bn; rw [HDD.out.2.1] at this; have := HK.out; omega)).mono ?_
      rintro e w6 ⟨u5, u6, rfl, o6, t6⟩
      have HB6 : Hid (Below W0.heap.size W0 w6) := keep_below3 HBf.out t6
      obtain ⟨z1, z2, z3, z4, rfl, rfl⟩ := o6.form
      have HO6 : Hid (OwnGraph w6 wf.heap.size (.slice z1 dn.length z2) (.slice z3 de.length z4) dn de) := o6
      clear g0 g1 p0 p1 p2 p3 p4 p5 p6 p7 y0 y1 y2 r0 r1 rf o6 t6 e0 e1
      obtain ⟨r0, r1, rf⟩ := HCR.out _ HB6.out
      obtain ⟨g0, g1, p0, p1, p2, p3, p4, p5, p6, p7, y0, y1, y2⟩ := HCS.out _ (HB6.out.mono hz)
      go_wp2_with fail
      try simp only [Exit.inBlock, Exit.then]
      refine bodyPost_ret (v := .tuple #[.agg #[.slice z1 dn.length z2, .slice z3 de.length z4], .int .i64 (dc)]) (by simp [*, results, Tryz.results29, go_sem]) rfl ?_
      rw [HE.out.1, HE.out.2.1, HE.out.2.2]
      have hb := ((HB6.out.mono hz).setCell (p := ⟨w.heap.size + 1 + 1, 0, none⟩) (by simp) (.slice z1 dn.length z2)).setCell (p := ⟨w.heap.size + 1 + 1, 1, none⟩) (by simp) (.slice z3 de.length z4)
      have hle : w.heap.size ≤ wf.heap.size := by have := HBf.out.size; omega
      exact ⟨_, _, rfl, ⟨own_mono (ownsRow_setCell_below (ownsRow_setCell_below HO6.out.1 (by have := HBf.out.size; have := HZ3.out; simp; omega) _) (by have := HBf.out.size; have := HZ3.out; simp; omega) _) hle, own_mono (ownsRow_setCell_below (ownsRow_setCell_below HO6.out.2.1 (by have := HBf.out.size; have := HZ3.out; simp; omega) _) (by have := HBf.out.size; have := HZ3.out; simp; omega) _) hle, HO6.out.2.2⟩, HB0.out.trans (hb.mono (by omega))⟩
    ·
      obtain ⟨wf, hwf⟩ : ∃ wf, wf = (w4.setCell ⟨w1.heap.size, 0, none⟩ (.slice q1 dn.length q2)).setCell ⟨w1.heap.size, 1, none⟩ (.slice q3 de.length q4) := ⟨_, rfl⟩
      have e0 : wf.cell? ⟨w1.heap.size, 0, none⟩ = some (.slice q1 dn.length q2) := by rw [hwf]; simp [go_sem, k1]
      have e1 : wf.cell? ⟨w1.heap.size, 1, none⟩ = some (.slice q3 de.length q4) := by rw [hwf]; simp [go_sem, k2]
      have HX : Hid (RowAt 2 encNode wf (.slice q1 dn.length q2) dn ∧ RowAt 5 encEdge wf (.slice q3 de.length q4) de) := ⟨row_but_box ox1 (fun x => ⟨_, rfl⟩) bx4.out (by rw [hwf]; simp) (fun k hk hne => by rw [hwf, Below.heap_setCell _ _ _ _ hne, Below.heap_setCell _ _ _ _ hne]), row_but_box ox2 (fun x => ⟨_, rfl⟩) bx4.out (by rw [hwf]; simp) (fun k hk hne => by rw [hwf, Below.heap_setCell _ _ _ _ hne, Below.heap_setCell _ _ _ _ hne])⟩
      have HBf : Hid (Below W0.heap.size W0 wf) := by show Below _ _ _; rw [hwf]; exact (B4.setCell (Below.size HB1.out) _).setCell (Below.size HB1.out) _
      rw [← hwf]
      clear hwf hS tc tc2 B3 B4 tx oc ox1 ox2 g0 g1 p0 p1 p2 p3 p4 p5 p6 p7 y0 y1 y2 r0 r1 rf
      obtain ⟨g0, g1, p0, p1, p2, p3, p4, p5, p6, p7, y0, y1, y2⟩ := HCS.out _ (HBf.out.mono hz)
      obtain ⟨r0, r1, rf⟩ := HCR.out _ HBf.out
      go_wp2_with fail
      refine (l2Copy _ _ dn de _ HX.out.1 HX.out.2 (by have := doN_len ns es k nl nn l al an bl bn; rw [HDD.out.1] at this; have := HK.out; omega) (by have := doE_len ns es k nl nn l al an bl bn; rw [HDD.out.2.1] at this; have := HK.out; omega)).mono ?_
      rintro e w6 ⟨u5, u6, rfl, o6, t6⟩
      have HB6 : Hid (Below W0.heap.size W0 w6) := keep_below3 HBf.out t6
      obtain ⟨z1, z2, z3, z4, rfl, rfl⟩ := o6.form
      have HO6 : Hid (OwnGraph w6 wf.heap.size (.slice z1 dn.length z2) (.slice z3 de.length z4) dn de) := o6
      clear g0 g1 p0 p1 p2 p3 p4 p5 p6 p7 y0 y1 y2 r0 r1 rf o6 t6 e0 e1
      obtain ⟨r0, r1, rf⟩ := HCR.out _ HB6.out
      obtain ⟨g0, g1, p0, p1, p2, p3, p4, p5, p6, p7, y0, y1, y2⟩ := HCS.out _ (HB6.out.mono hz)
      go_wp2_with fail
      try simp only [Exit.inBlock, Exit.then]
      refine bodyPost_ret (v := .tuple #[.agg #[.slice z1 dn.length z2, .slice z3 de.length z4], .int .i64 (dc)]) (by simp [*, results, Tryz.results29, go_sem]) rfl ?_
      rw [HE.out.1, HE.out.2.1, HE.out.2.2]
      have hb := ((HB6.out.mono hz).setCell (p := ⟨w.heap.size + 1 + 1, 0, none⟩) (by simp) (.slice z1 dn.length z2)).setCell (p := ⟨w.heap.size + 1 + 1, 1, none⟩) (by simp) (.slice z3 de.length z4)
      have hle : w.heap.size ≤ wf.heap.size := by have := HBf.out.size; omega
      exact ⟨_, _, rfl, ⟨own_mono (ownsRow_setCell_below (ownsRow_setCell_below HO6.out.1 (by have := HBf.out.size; have := HZ3.out; simp; omega) _) (by have := HBf.out.size; have := HZ3.out; simp; omega) _) hle, own_mono (ownsRow_setCell_below (ownsRow_setCell_below HO6.out.2.1 (by have := HBf.out.size; have := HZ3.out; simp; omega) _) (by have := HBf.out.size; have := HZ3.out; simp; omega) _) hle, HO6.out.2.2⟩, HB0.out.trans (hb.mono (by omega))⟩
theorem spec_GraphDo (v1 v2 : Value) (ns : List Nd) (es : List Ed) (k nl nn l al an bl bn : Int) (w : World) (h1 : RowAt 2 encNode w v1 ns) (h2 : RowAt 5 encEdge w v2 es) (l1 : ns.length ≤ 1048576) (l2 : es.length ≤ 1048576) :
    Calls Tryz.prog 29 #[.agg #[v1, v2], .agg #[.int .i64 k, .int .i64 nl, .int .i64 nn, .int .i64 l, .int .i64 al, .int .i64 an, .int .i64 bl, .int .i64 bn]] w fun e w' => ∃ u1 u2, e = .returned (.tuple #[.agg #[u1, u2], .int .i64 (gdC ns es k nl nn l al an bl bn)]) ∧ OwnGraph w' w.heap.size u1 u2 (gdN ns es k nl nn l al an bl bn) (gdE ns es k nl nn l al an bl bn) ∧ Below w.heap.size w w' := by
  obtain ⟨a1, c1, rfl⟩ := h1.len
  obtain ⟨a2, c2, rfl⟩ := h2.len
  exact spec_GraphDo_walk a1 a2 _ _ c1 c2 ns es k nl nn l al an bl bn w h1 h2 rfl rfl l1 l2
end Go.Proofs.YtlnpbfeihjfnjaaGreatDoor.Lab

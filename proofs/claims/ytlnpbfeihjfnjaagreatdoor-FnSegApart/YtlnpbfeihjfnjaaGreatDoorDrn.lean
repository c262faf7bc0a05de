/-
  What is drawn of nodes and edges: bounded; a code is only read.
-/
import Derived.Test.YtlnpbfeihjfnjaaGreatDoorNod
import Derived.Test.YtlnpbfeihjfnjaaGreatDoorDraw
namespace Go.Proofs.YtlnpbfeihjfnjaaGreatDoor.Lab
open Go.RowKit
set_option linter.unusedVariables false

theorem RdAt.set {w : World} {B len cap : Nat} {a : Option Addr} {zs : List Int} {pos : Int} (h : RdAt w B a len cap zs pos) {p : Addr} (hp : B < p.block) (u : Value) : RdAt (w.setCell p u) B a len cap zs pos :=
  h.below (n := B + 1) ((Below.refl _ _).setCell (by omega) u) (by omega)
theorem RdAt.alloc {w : World} {B len cap : Nat} {a : Option Addr} {zs : List Int} {pos : Int} (h : RdAt w B a len cap zs pos) (o : Obj) : RdAt (w.alloc o) B a len cap zs pos :=
  h.below ((Below.refl _ _).alloc (Nat.le_refl _) o) h.lt
theorem grownBy_setNew {w w' : World} {r : Option Nat} (h : w.grownBy w' r) {p : Addr} (hp : w.heap.size ≤ p.block) (u : Value) : w.grownBy (w'.setCell p u) r :=
  ⟨h.os, h.tape, h.output, by simp [World.setCell]; exact h.size, fun k hk hne => by rw [Below.heap_setCell _ _ _ _ (by omega)]; exact h.block k hk hne⟩
theorem grownBy_below {w w1 w2 : World} {r : Option Nat} (h : w.grownBy w1 r) (k : Below w1.heap.size w1 w2) : w.grownBy w2 r :=
  ⟨k.os.trans h.os, k.tape.trans h.tape, k.output.trans h.output, Nat.le_trans h.size k.size, fun j hj hne => (k.block j (Nat.lt_of_lt_of_le hj h.size)).trans (h.block j hj hne)⟩
theorem grownBy_cells {w w' : World} {B base : Nat} (h : w.grownBy w' (some B)) (hB : B < base) : ∀ b o s, base ≤ b → b < w.heap.size → w'.cell? ⟨b, o, s⟩ = w.cell? ⟨b, o, s⟩ := fun b o s h1 h2 =>
  World.cell?_of_block (a := ⟨b, o, s⟩) (h.block b h2 (by simp; omega))
theorem grownBy_froz {w w' : World} {B base : Nat} (h : w.grownBy w' (some B)) (hB : B < base) : ∀ b o s, base ≤ b → b < w.heap.size → w'.frozen? ⟨b, o, s⟩ = w.frozen? ⟨b, o, s⟩ := fun b o s h1 h2 =>
  World.frozen?_of_block (a := ⟨b, o, s⟩) (h.block b h2 (by simp; omega))
/-- One of a list that is written where it is asked. -/
theorem num_lit (B L len cap : Nat) (a : Option Addr) (zs : List Int) (pos : Int) (xs : List Int) (w : World) (h : RdAt w B a len cap zs pos) (hp : pos ≤ 1000000000) (h1 : 1 ≤ xs.length) (h2 : xs.length ≤ 1000) (hL : w.heap.size = L) :
    Calls Tryz.prog 81 #[.pointer (some ⟨B, 0, none⟩), .slice (some ⟨L, 0, none⟩) xs.length xs.length] (w.alloc (.cells (xs.map (Value.int .i64)).toArray 3)) fun e w' => ∃ v, v ∈ xs ∧ e = .returned (.int .i64 v) ∧ RdAt w' B a len cap zs (pos + 1) ∧ w.grownBy w' (some B) := by
  subst hL
  refine (num B w.heap.size len cap a zs pos xs _ (h.alloc _) hp h1 h2 h.lt (by simp) (fun j hj => ?_)).mono ?_
  · rw [World.cell?_alloc_at _ _ _ _ rfl]
    simp [hj, List.getD_eq_getElem?_getD]
  · rintro e w' ⟨j, hj, rfl, hr, hg⟩
    refine ⟨xs.getD j 0, ?_, rfl, hr, grownBy_trans (World.grownBy_alloc _ _ _) hg⟩
    rw [List.getD_eq_getElem?_getD, List.getElem?_eq_getElem hj]
    exact List.getElem_mem hj
theorem drawn_node {l n : Int} (hl : l ∈ [0, 1, 2, 3, 0, 1, 4, 7]) (hn : n ∈ [0, 1, 2, 3, 40]) : nodeB l n = true := by
  simp at hl hn
  rcases hl with rfl | rfl | rfl | rfl | rfl | rfl | rfl | rfl <;> rcases hn with rfl | rfl | rfl | rfl | rfl <;> decide
set_option maxHeartbeats 400000 in
theorem l2Node (B len cap : Nat) (a : Option Addr) (zs : List Int) (pos : Int) (w : World) (h : RdAt w B a len cap zs pos) (hp : pos ≤ 100000000) :
    Calls Tryz.prog 102 #[.pointer (some ⟨B, 0, none⟩)] w fun e w' => ∃ l n, e = .returned (.agg #[.int .i64 l, .int .i64 n]) ∧ nodeB l n = true ∧ RdAt w' B a len cap zs (pos + 2) ∧ w.grownBy w' (some B) := by
  have hB := h.lt
  have h0 := h.alloc (.cells #[.int .i64 0, .int .i64 0] 46)
  go_enter Tryz.func102, Tryz.ntmps102
  go_wp2_with fail
  refine (num_lit B _ len cap a zs pos [0, 1, 2, 3, 0, 1, 4, 7] _ h0 (by omega) (by decide) (by decide) (by simp)).mono ?_
  rintro e w1 ⟨l, hl, rfl, hr1, hg1⟩
  go_wp2_with fail
  refine (num_lit B _ len cap a zs (pos + 1) [0, 1, 2, 3, 40] _ hr1 (by omega) (by decide) (by decide) rfl).mono ?_
  rintro e w2 ⟨n, hn, rfl, hr2, hg2⟩
  have hok := drawn_node hl hn
  have hg := grownBy_trans hg1 hg2
  have hf := grownBy_froz hg hB
  have hc := grownBy_cells hg hB
  have HR : Hid (RdAt w2 B a len cap zs (pos + 1 + 1) ∧ w.grownBy w2 (some B) ∧ nodeB l n = true) := ⟨hr2, grownBy_trans (World.grownBy_alloc _ _ _) hg, hok⟩
  clear hl hn hr1 hg1 hr2 hg2 hg hok h h0
  go_wp2_with fail
  refine bodyPost_ret (v := .agg #[.int .i64 l, .int .i64 n]) (by simp [*, results, Tryz.results102, go_sem]) rfl ?_
  obtain ⟨k1, k2, k3⟩ := HR.out
  have e2 : pos + 1 + 1 = pos + 2 := by omega
  rw [e2] at k1
  exact ⟨l, n, rfl, k3, (k1.set (by simpa using hB) _).set (by simpa using hB) _, grownBy_setNew (grownBy_setNew k2 (by simp) _) (by simp) _⟩
set_option maxHeartbeats 2000000 in
theorem l2Edge_empty (B len cap : Nat) (a : Option Addr) (zs : List Int) (pos : Int) (w : World) (h : RdAt w B a len cap zs pos) (hp : pos ≤ 10000000) :
    Calls Tryz.prog 103 #[.pointer (some ⟨B, 0, none⟩), .agg #[.slice none 0 0, .slice none 0 0]] w fun e w' => ∃ l al an bl bn, e = .returned (.agg #[.int .i64 l, .int .i64 al, .int .i64 an, .int .i64 bl, .int .i64 bn]) ∧ RdAt w' B a len cap zs (pos + 5) ∧ w.grownBy w' (some B) := by
  have hB := h.lt
  have h0 := (h.alloc (.cells #[.slice none 0 0, .slice none 0 0] 26)).alloc (.cells #[.int .i64 0, .int .i64 0, .int .i64 0, .int .i64 0, .int .i64 0] 48)
  go_enter Tryz.func103, Tryz.ntmps103
  go_wp2_with fail
  refine (l2Node _ _ _ _ _ _ _ h0 (by omega)).mono ?_
  rintro e w1 ⟨al, an, rfl, oka, hr1, hg1⟩
  have h1' := hr1.alloc (.cells #[.int .i64 al, .int .i64 an] 46)
  go_wp2_with fail
  refine (l2Node _ _ _ _ _ _ _ h1' (by omega)).mono ?_
  rintro e w2 ⟨bl, bn, rfl, okb, hr2, hg2⟩
  have z1 : w.heap.size + 2 ≤ w1.heap.size := by have := hg1.size; simp at this; omega
  have z2 : w1.heap.size + 1 ≤ w2.heap.size := by have := hg2.size; simp at this; omega
  have h2' := hr2.alloc (.cells #[.int .i64 bl, .int .i64 bn] 46)
  have hla := (nodeB_true oka).1
  have hlb := (nodeB_true okb).1
  have hm := mix_ok hla hlb false
  -- what lies where, in w2 and its like
  have hcg : w2.cell? ⟨w.heap.size, 0, none⟩ = some (.slice none 0 0) := by
    rw [grownBy_cells hg2 (base := w.heap.size) hB _ _ _ (Nat.le_refl _) (by simp; omega), World.cell?_alloc_past _ _ _ (by omega), grownBy_cells hg1 (base := w.heap.size) hB _ _ _ (Nat.le_refl _) (by simp; omega)]; simp [go_sem]
  have hres : ∀ o, o < 5 → w2.cell? ⟨w.heap.size + 1, o, none⟩ = some (.int .i64 0) := by
    intro o ho
    rw [grownBy_cells hg2 (base := w.heap.size) hB _ _ _ (by omega) (by simp; omega), World.cell?_alloc_past _ _ _ (by omega), grownBy_cells hg1 (base := w.heap.size) hB _ _ _ (by omega) (by simp)]
    have : o = 0 ∨ o = 1 ∨ o = 2 ∨ o = 3 ∨ o = 4 := by omega
    rcases this with rfl | rfl | rfl | rfl | rfl <;> simp [go_sem]
  have hfre : ∀ o, w2.frozen? ⟨w.heap.size + 1, o, none⟩ = false := by
    intro o
    rw [grownBy_froz hg2 (base := w.heap.size) hB _ _ _ (by omega) (by simp; omega), World.frozen?_alloc_past _ _ _ (by omega), grownBy_froz hg1 (base := w.heap.size) hB _ _ _ (by omega) (by simp)]; simp [go_sem]
  have ca : ∀ o v, (#[Value.int .i64 al, .int .i64 an][o]?) = some v → w2.cell? ⟨w1.heap.size, o, none⟩ = some v := by
    intro o v hv
    rw [grownBy_cells hg2 (base := w.heap.size) hB _ _ _ (by omega) (by simp), World.cell?_alloc_at _ _ _ _ rfl]
    exact hv
  have ca0 := ca 0 _ rfl
  have ca1 := ca 1 _ rfl
  have G2 : w.grownBy w2 (some B) := grownBy_trans (grownBy_trans (World.grownBy_alloc _ _ _) (World.grownBy_alloc _ _ _)) (grownBy_trans hg1 (grownBy_trans (World.grownBy_alloc _ _ _) hg2))
  have y0 : w.heap.size < w2.heap.size := by omega
  have y1 : w.heap.size + 1 < w2.heap.size := by omega
  have y2 : w1.heap.size < w2.heap.size := by omega
  clear ca hg1 hg2 hr1 h1' h0 h oka okb
  go_wp2_with (first | (go_at_call 129; refine use (l1Mix _ _ _ _ hla hlb) ?_))
  refine (num_lit B _ len cap a zs (pos + 2 + 2) [0, 0, 0, 1, 2, 4] _ h2' (by omega) (by decide) (by decide) (by simp)).mono ?_
  rintro e w3 ⟨k, hk, rfl, hr3, hg3⟩
  have hokk : okB k = true := by
    simp at hk
    rcases hk with rfl | rfl | rfl | rfl <;> decide
  have z3 : w2.heap.size + 1 ≤ w3.heap.size := by have := hg3.size; simp at this; omega
  replace ca0 : w3.cell? ⟨w1.heap.size, 0, none⟩ = some (.int .i64 al) := by
    rw [grownBy_cells hg3 (base := w.heap.size) hB _ _ _ (by omega) (by simp; omega), World.cell?_alloc_past _ _ _ (by omega)]; exact ca0
  replace ca1 : w3.cell? ⟨w1.heap.size, 1, none⟩ = some (.int .i64 an) := by
    rw [grownBy_cells hg3 (base := w.heap.size) hB _ _ _ (by omega) (by simp; omega), World.cell?_alloc_past _ _ _ (by omega)]; exact ca1
  have cb0 : w3.cell? ⟨w2.heap.size, 0, none⟩ = some (.int .i64 bl) := by
    rw [grownBy_cells hg3 (base := w.heap.size) hB _ _ _ (by omega) (by simp)]; simp [go_sem]
  have cb1 : w3.cell? ⟨w2.heap.size, 1, none⟩ = some (.int .i64 bn) := by
    rw [grownBy_cells hg3 (base := w.heap.size) hB _ _ _ (by omega) (by simp)]; simp [go_sem]
  replace hres : ∀ o, o < 5 → w3.cell? ⟨w.heap.size + 1, o, none⟩ = some (.int .i64 0) := fun o ho => by
    rw [grownBy_cells hg3 (base := w.heap.size) hB _ _ _ (by omega) (by simp; omega), World.cell?_alloc_past _ _ _ (by omega)]; exact hres o ho
  replace hfre : ∀ o, w3.frozen? ⟨w.heap.size + 1, o, none⟩ = false := fun o => by
    rw [grownBy_froz hg3 (base := w.heap.size) hB _ _ _ (by omega) (by simp; omega), World.frozen?_alloc_past _ _ _ (by omega)]; exact hfre o
  have G3 : w.grownBy w3 (some B) := grownBy_trans G2 (grownBy_trans (World.grownBy_alloc _ _ _) hg3)
  have x1 : w.heap.size + 1 < w3.heap.size := by omega
  have x2 : w1.heap.size < w3.heap.size := by omega
  have x3 : w2.heap.size < w3.heap.size := by omega
  have x4 : w1.heap.size < w2.heap.size := by omega
  have x5 : w.heap.size + 1 < w1.heap.size := by omega
  clear hcg G2 hg3 hk h2' hr2 y0 y1 y2
  go_wp2_with (first | (go_at_call 129; refine use (l1Mix _ _ _ _ hm hokk) ?_))
  cases hgt : decide (codeW bl bn < codeW al an)
  · have hd : decide (codeW bl bn < codeW al an) = false := hgt
    refine wp_region_after (by kernel_rfl) (by kernel_rfl) ?_
    intro hne hac
    repeat (go_big_quiet_step (first | (go_at_call_of 39 (Value.agg #[.int .i64 al, .int .i64 an]); exact after_of (l2Code al an _)) | (go_at_call_of 39 (Value.agg #[.int .i64 bl, .int .i64 bn]); exact after_of (l2Code bl bn _))))
    refine wpQuiet_nil ?_
    rintro _ ⟨p, rfl⟩
    have m0 := (hac p _ _ _ x2).trans ca0
    have m1 := (hac p _ _ _ x2).trans ca1
    have n0 := (hac p _ _ _ x3).trans cb0
    have n1 := (hac p _ _ _ x3).trans cb1
    have r0 : ∀ o, o < 5 → p.w.cell? ⟨w.heap.size + 1, o, none⟩ = some (.int .i64 0) := fun o ho => (hac p _ _ _ x1).trans (hres o ho)
    have r1 : ∀ o, p.w.frozen? ⟨w.heap.size + 1, o, none⟩ = false := fun o => (Below.froz p.bel _ _ _ x1).trans (hfre o)
    have r00 := r0 0 (by omega)
    have r01 := r0 1 (by omega)
    have r02 := r0 2 (by omega)
    have r03 := r0 3 (by omega)
    have r04 := r0 4 (by omega)
    have HR : Hid (RdAt p.w B a len cap zs (pos + 5) ∧ w.grownBy p.w (some B)) := ⟨by have := hr3.below p.bel hr3.lt; rwa [show pos + 2 + 2 + 1 = pos + 5 by omega] at this, grownBy_below G3 p.bel⟩
    generalize p.w = wp at *
    clear hac hne hres hfre r0 hr3 G3 ca0 ca1 cb0 cb1 hla hlb
    generalize mixI (mixI al bl false) k false = l at *
    have hRR : B < w.heap.size + 1 := by omega
    go_wp2_with fail
    try simp only [Exit.inBlock, Exit.then]
    refine bodyPost_ret (v := .agg #[.int .i64 l, .int .i64 al, .int .i64 an, .int .i64 bl, .int .i64 bn]) (by simp [*, results, Tryz.results103, go_sem]) rfl ?_
    exact ⟨l, al, an, bl, bn, rfl, ((((HR.out.1.set hRR _).set hRR _).set hRR _).set hRR _).set hRR _, grownBy_setNew (grownBy_setNew (grownBy_setNew (grownBy_setNew (grownBy_setNew HR.out.2 (by simp) _) (by simp) _) (by simp) _) (by simp) _) (by simp) _⟩
  · have hd : decide (codeW bl bn < codeW al an) = true := hgt
    refine wp_region_after (by kernel_rfl) (by kernel_rfl) ?_
    intro hne hac
    repeat (go_big_quiet_step (first | (go_at_call_of 39 (Value.agg #[.int .i64 al, .int .i64 an]); exact after_of (l2Code al an _)) | (go_at_call_of 39 (Value.agg #[.int .i64 bl, .int .i64 bn]); exact after_of (l2Code bl bn _))))
    refine wpQuiet_nil ?_
    rintro _ ⟨p, rfl⟩
    have m0 := (hac p _ _ _ x2).trans ca0
    have m1 := (hac p _ _ _ x2).trans ca1
    have n0 := (hac p _ _ _ x3).trans cb0
    have n1 := (hac p _ _ _ x3).trans cb1
    have r0 : ∀ o, o < 5 → p.w.cell? ⟨w.heap.size + 1, o, none⟩ = some (.int .i64 0) := fun o ho => (hac p _ _ _ x1).trans (hres o ho)
    have r1 : ∀ o, p.w.frozen? ⟨w.heap.size + 1, o, none⟩ = false := fun o => (Below.froz p.bel _ _ _ x1).trans (hfre o)
    have r00 := r0 0 (by omega)
    have r01 := r0 1 (by omega)
    have r02 := r0 2 (by omega)
    have r03 := r0 3 (by omega)
    have r04 := r0 4 (by omega)
    have HR : Hid (RdAt p.w B a len cap zs (pos + 5) ∧ w.grownBy p.w (some B)) := ⟨by have := hr3.below p.bel hr3.lt; rwa [show pos + 2 + 2 + 1 = pos + 5 by omega] at this, grownBy_below G3 p.bel⟩
    generalize p.w = wp at *
    clear hac hne hres hfre r0 hr3 G3 ca0 ca1 cb0 cb1 hla hlb
    generalize mixI (mixI al bl false) k false = l at *
    have hRR : B < w.heap.size + 1 := by omega
    go_wp2_with fail
    try simp only [Exit.inBlock, Exit.then]
    refine bodyPost_ret (v := .agg #[.int .i64 l, .int .i64 bl, .int .i64 bn, .int .i64 al, .int .i64 an]) (by simp [*, results, Tryz.results103, go_sem]) rfl ?_
    exact ⟨l, bl, bn, al, an, rfl, ((((HR.out.1.set hRR _).set hRR _).set hRR _).set hRR _).set hRR _, grownBy_setNew (grownBy_setNew (grownBy_setNew (grownBy_setNew (grownBy_setNew HR.out.2 (by simp) _) (by simp) _) (by simp) _) (by simp) _) (by simp) _⟩
end Go.Proofs.YtlnpbfeihjfnjaaGreatDoor.Lab

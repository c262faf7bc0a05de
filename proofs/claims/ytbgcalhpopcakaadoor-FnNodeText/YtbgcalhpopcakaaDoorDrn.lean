/-
  What is drawn of nodes and edges: bounded; a code is only read.
-/
import Derived.Test.YtbgcalhpopcakaaDoorNod
import Derived.Test.YtbgcalhpopcakaaDoorDraw
namespace Go.Proofs.YtbgcalhpopcakaaDoor.Lab
open Go.RowKit
set_option linter.unusedVariables false

theorem RdAt.set {w : World} {B len cap : Nat} {a : Option Addr} {zs : List Int} {pos : Int} (h : RdAt w B a len cap zs pos) {p : Addr} (hp : B < p.block) (u : Value) : RdAt (w.setCell p u) B a len cap zs pos :=
  h.below (n := B + 1) ((Below.refl _ _).setCell (by omega) u) (by omega)
theorem RdAt.alloc {w : World} {B len cap : Nat} {a : Option Addr} {zs : List Int} {pos : Int} (h : RdAt w B a len cap zs pos) (o : Obj) : RdAt (w.alloc o) B a len cap zs pos :=
  h.below ((Below.refl _ _).alloc (Nat.le_refl _) o) h.lt
theorem grownBy_setNew {w w' : World} {r : Option Nat} (h : w.grownBy w' r) {p : Addr} (hp : w.heap.size ≤ p.block) (u : Value) : w.grownBy (w'.setCell p u) r :=
  ⟨h.os, h.tape, h.output, by simp [World.setCell]; exact h.size, fun k hk hne => by rw [Below.heap_setCell _ _ _ _ (by omega)]; exact h.block k hk hne⟩
theorem grownBy_below {w w1 w2 : World} {r : Option Nat} (h : w.grownBy w1 r) (k : Below w1.heap.size w1 w2) : w.grownBy w2 r :=
  ⟨k.os.trans h.os, k.tape.trans h.tape, k.output.trans h.output, Nat.le_trans h.size k.size, fun j hj hne => (k.block j (Nat.lt_of_lt_of_le hj h.size)).trans (h.block j hj hne)⟩
theorem grownBy_cells {w w' : World} {B base : Nat} (h : w.grownBy w' (some B)) (hB : B < base) : ∀ b o s, base ≤ b → b < w.heap.size → w'.cell? ⟨b, o, s⟩ = w.cell? ⟨b, o, s⟩ := fun b o s h1 h2 =>
  World.cell?_of_block (a := ⟨b, o, s⟩) (h.block b h2 (by simp; omega))
theorem grownBy_froz {w w' : World} {B base : Nat} (h : w.grownBy w' (some B)) (hB : B < base) : ∀ b o s, base ≤ b → b < w.heap.size → w'.frozen? ⟨b, o, s⟩ = w.frozen? ⟨b, o, s⟩ := fun b o s h1 h2 =>
  World.frozen?_of_block (a := ⟨b, o, s⟩) (h.block b h2 (by simp; omega))
/-- One of a list that is written where it is asked. -/
theorem num_lit (B L len cap : Nat) (a : Option Addr) (zs : List Int) (pos : Int) (xs : List Int) (w : World) (h : RdAt w B a len cap zs pos) (hp : pos ≤ 1000000000) (h1 : 1 ≤ xs.length) (h2 : xs.length ≤ 1000) (hL : w.heap.size = L) :
    Calls Tryd.prog 32 #[.pointer (some ⟨B, 0, none⟩), .slice (some ⟨L, 0, none⟩) xs.length xs.length] (w.alloc (.cells (xs.map (Value.int .i64)).toArray 3)) fun e w' => ∃ v, v ∈ xs ∧ e = .returned (.int .i64 v) ∧ RdAt w' B a len cap zs (pos + 1) ∧ w.grownBy w' (some B) := by
  subst hL
  refine (num B w.heap.size len cap a zs pos xs _ (h.alloc _) hp h1 h2 h.lt (by simp) (fun j hj => ?_)).mono ?_
  · rw [World.cell?_alloc_at _ _ _ _ rfl]
    simp [hj, List.getD_eq_getElem?_getD]
  · rintro e w' ⟨j, hj, rfl, hr, hg⟩
    refine ⟨xs.getD j 0, ?_, rfl, hr, grownBy_trans (World.grownBy_alloc _ _ _) hg⟩
    rw [List.getD_eq_getElem?_getD, List.getElem?_eq_getElem hj]
    exact List.getElem_mem hj
theorem drawn_node {l n : Int} (hl : l ∈ [0, 1, 2, 3, 0, 1, 4, 7]) (hn : n ∈ [0, 1, 2, 3, 40]) : nodeB l n = true := by
  simp at hl hn
  rcases hl with rfl | rfl | rfl | rfl | rfl | rfl | rfl | rfl <;> rcases hn with rfl | rfl | rfl | rfl | rfl <;> decide
set_option maxHeartbeats 400000 in
theorem l2Node (B len cap : Nat) (a : Option Addr) (zs : List Int) (pos : Int) (w : World) (h : RdAt w B a len cap zs pos) (hp : pos ≤ 100000000) :
    Calls Tryd.prog 22 #[.pointer (some ⟨B, 0, none⟩)] w fun e w' => ∃ l n, e = .returned (.agg #[.int .i64 l, .int .i64 n]) ∧ nodeB l n = true ∧ RdAt w' B a len cap zs (pos + 2) ∧ w.grownBy w' (some B) := by
  have hB := h.lt
  have h0 := h.alloc (.cells #[.int .i64 0, .int .i64 0] 24)
  go_enter Tryd.func22, Tryd.ntmps22
  go_wp2_with fail
  refine (num_lit B _ len cap a zs pos [0, 1, 2, 3, 0, 1, 4, 7] _ h0 (by omega) (by decide) (by decide) (by simp)).mono ?_
  rintro e w1 ⟨l, hl, rfl, hr1, hg1⟩
  go_wp2_with fail
  refine (num_lit B _ len cap a zs (pos + 1) [0, 1, 2, 3, 40] _ hr1 (by omega) (by decide) (by decide) rfl).mono ?_
  rintro e w2 ⟨n, hn, rfl, hr2, hg2⟩
  have hok := drawn_node hl hn
  have hg := grownBy_trans hg1 hg2
  have hf := grownBy_froz hg hB
  have hc := grownBy_cells hg hB
  have HR : Hid (RdAt w2 B a len cap zs (pos + 1 + 1) ∧ w.grownBy w2 (some B) ∧ nodeB l n = true) := ⟨hr2, grownBy_trans (World.grownBy_alloc _ _ _) hg, hok⟩
  clear hl hn hr1 hg1 hr2 hg2 hg hok h h0
  go_wp2_with fail
  refine bodyPost_ret (v := .agg #[.int .i64 l, .int .i64 n]) (by simp [*, results, Tryd.results22, go_sem]) rfl ?_
  obtain ⟨k1, k2, k3⟩ := HR.out
  have e2 : pos + 1 + 1 = pos + 2 := by omega
  rw [e2] at k1
  exact ⟨l, n, rfl, k3, (k1.set (by simpa using hB) _).set (by simpa using hB) _, grownBy_setNew (grownBy_setNew k2 (by simp) _) (by simp) _⟩
set_option maxHeartbeats 2000000 in
theorem drawNodeOk (a : Option Addr) (len cap : Nat) (zs : List Int) (w : World) (h : CodeAt w a len cap zs) :
    Calls Tryd.prog 15 #[.slice a len cap] w fun e w' => ∃ l n, e = .returned (.agg #[.int .i64 l, .int .i64 n]) ∧ i64In l ∧ i64In n ∧ Below w.heap.size w w' := by
  have h0 : CodeAt (w.alloc (.cells #[.int .i64 0, .int .i64 0] 24)) a len cap zs := h.below ((Below.refl _ _).alloc (Nat.le_refl _) _)
  clear h
  go_enter Tryd.func15, Tryd.ntmps15
  go_wp2_with fail
  refine (l9Open a len cap zs _ h0).mono ?_
  rintro e w1 ⟨rfl, ⟨m, hr1⟩, hb1⟩
  clear h0
  simp only [World.size_alloc] at hr1 hb1
  have g1 : Below w.heap.size w w1 := Below.trans ((Below.refl _ _).alloc (Nat.le_refl _) _) (hb1.mono (by omega))
  have hfr : (w1.frozen? ⟨w.heap.size, 0, none⟩ = false ∧ w1.frozen? ⟨w.heap.size, 1, none⟩ = false) ∧ w1.cell? ⟨w.heap.size, 0, none⟩ = some (.int .i64 0) ∧ w1.cell? ⟨w.heap.size, 1, none⟩ = some (.int .i64 0) := by
    refine ⟨⟨?_, ?_⟩, ?_, ?_⟩
    · rw [Below.froz hb1 _ _ _ (by omega)]; simp [go_sem]
    · rw [Below.froz hb1 _ _ _ (by omega)]; simp [go_sem]
    · rw [Below.celz hb1 _ _ _ (by omega)]; simp [go_sem]
    · rw [Below.celz hb1 _ _ _ (by omega)]; simp [go_sem]
  go_wp2_with fail
  refine (l2Node _ _ _ _ _ _ _ hr1 (by omega)).mono ?_
  rintro e w2 ⟨l, n, rfl, hok, hr2, hg2⟩
  have hfit : i64In l ∧ i64In n := by
    obtain ⟨k1, k2, k3⟩ := nodeB_true hok
    obtain ⟨k4, k5⟩ := okB_true k1
    exact ⟨⟨by omega, by omega⟩, ⟨by omega, by omega⟩⟩
  have hV := hr2.lt
  have b2 : Below (w.heap.size + 1) w1 w2 := below_of_grown hg2 (Nat.le_of_lt hr1.lt)
  have HF : Hid (i64In l ∧ i64In n) := hfit
  clear hok hg2 hb1 hr1 hfit
  have hr2' := hr2.alloc (.cells #[.int .i64 l, .int .i64 n] 24)
  go_wp2_with fail
  refine (pick _ _ _ _ _ _ _ _ hr2' (by omega) (by omega) (by omega)).mono ?_
  rintro e w3 ⟨x, rfl, hx0, hx1, hr3, hg3⟩
  have b3 : Below (w.heap.size + 1) w1 w3 := Below.trans (b2.alloc (by omega) _) (below_of_grown hg3 (by simp; omega))
  have s3 : w2.heap.size < w3.heap.size := Nat.lt_of_lt_of_le (by simp) hg3.size
  have c3 : w3.cell? ⟨w2.heap.size, 0, none⟩ = some (.int .i64 l) := by rw [grownBy_cells hg3 hV _ _ _ (Nat.le_refl _) (by simp)]; simp [go_sem]
  have d3 : w3.cell? ⟨w2.heap.size, 1, none⟩ = some (.int .i64 n) := by rw [grownBy_cells hg3 hV _ _ _ (Nat.le_refl _) (by simp)]; simp [go_sem]
  have f3 : ∀ o, w3.frozen? ⟨w2.heap.size, o, none⟩ = false := fun o => by rw [grownBy_froz hg3 hV _ _ _ (Nat.le_refl _) (by simp)]; simp [go_sem]
  clear hg3 hr2 hr2' b2
  by_cases hx : x = 0
  · subst hx
    go_wp2_with fail
    refine (num_lit _ _ _ _ _ _ _ [-1, 41, 9223372036854775807] _ hr3 (by omega) (by decide) (by decide) rfl).mono ?_
    rintro e w4 ⟨v, hv, rfl, hr4, hg4⟩
    have hfv : i64In v := by
      simp at hv
      unfold i64In
      rcases hv with rfl | rfl | rfl <;> omega
    have b4 : Below (w.heap.size + 1) w1 w4 := b3.trans (below_of_grown hg4 (by omega))
    have s4 : w2.heap.size < w4.heap.size := Nat.lt_of_lt_of_le s3 hg4.size
    have c4 : w4.cell? ⟨w2.heap.size, 0, none⟩ = some (.int .i64 l) := by rw [grownBy_cells hg4 hV _ _ _ (Nat.le_refl _) s3]; exact c3
    have d4 : w4.cell? ⟨w2.heap.size, 1, none⟩ = some (.int .i64 n) := by rw [grownBy_cells hg4 hV _ _ _ (Nat.le_refl _) s3]; exact d3
    have f4 : ∀ o, w4.frozen? ⟨w2.heap.size, o, none⟩ = false := fun o => by rw [grownBy_froz hg4 hV _ _ _ (Nat.le_refl _) s3]; exact f3 o
    have HN : Hid (i64In v) := hfv
    clear hg4 hr3 c3 d3 f3 b3 s3 hv hfv
    go_wp2_with fail
    have hrx := hr4.set (p := ⟨w2.heap.size, 1, none⟩) hV (.int .i64 v)
    have bx : Below (w.heap.size + 1) w1 (w4.setCell ⟨w2.heap.size, 1, none⟩ (.int .i64 v)) := b4.setCell (by simp; omega) _
    have sx : w2.heap.size < (w4.setCell ⟨w2.heap.size, 1, none⟩ (.int .i64 v)).heap.size := by simpa using s4
    have cx : (w4.setCell ⟨w2.heap.size, 1, none⟩ (.int .i64 v)).cell? ⟨w2.heap.size, 0, none⟩ = some (.int .i64 l) := by simp [go_sem, c4]
    have dx : (w4.setCell ⟨w2.heap.size, 1, none⟩ (.int .i64 v)).cell? ⟨w2.heap.size, 1, none⟩ = some (.int .i64 v) := by simp [go_sem, d4]
    have fx : ∀ o, (w4.setCell ⟨w2.heap.size, 1, none⟩ (.int .i64 v)).frozen? ⟨w2.heap.size, o, none⟩ = false := fun o => by simp [go_sem, f4]
    generalize w4.setCell ⟨w2.heap.size, 1, none⟩ (.int .i64 v) = wx at *
    clear b4 c4 d4 f4 s4 hr4
    refine (pick _ _ _ _ _ _ _ _ hrx (by omega) (by omega) (by omega)).mono ?_
    rintro e w5 ⟨y, rfl, hy0, hy1, hr5, hg5⟩
    have b5 : Below (w.heap.size + 1) w1 w5 := bx.trans (below_of_grown hg5 (by omega))
    have s5 : w2.heap.size < w5.heap.size := Nat.lt_of_lt_of_le sx hg5.size
    have c5 : w5.cell? ⟨w2.heap.size, 0, none⟩ = some (.int .i64 l) := by rw [grownBy_cells hg5 hV _ _ _ (Nat.le_refl _) sx]; exact cx
    have d5 : w5.cell? ⟨w2.heap.size, 1, none⟩ = some (.int .i64 v) := by rw [grownBy_cells hg5 hV _ _ _ (Nat.le_refl _) sx]; exact dx
    have f5 : ∀ o, w5.frozen? ⟨w2.heap.size, o, none⟩ = false := fun o => by rw [grownBy_froz hg5 hV _ _ _ (Nat.le_refl _) sx]; exact fx o
    clear hg5 hrx bx sx cx dx fx
    by_cases hy : y = 0
    · subst hy
      go_wp2_with fail
      refine (l1Label _ _ _ _ _ _ _ hr5 (by omega)).mono ?_
      rintro e w6 ⟨u, pos6, rfl, hu, _, hr6, hg6⟩
      have b6 : Below (w.heap.size + 1) w1 w6 := b5.trans (below_of_grown hg6 (by omega))
      have d6 : w6.cell? ⟨w2.heap.size, 1, none⟩ = some (.int .i64 v) := by rw [grownBy_cells hg6 hV _ _ _ (Nat.le_refl _) s5]; exact d5
      have c6 : w6.cell? ⟨w2.heap.size, 0, none⟩ = some (.int .i64 l) := by rw [grownBy_cells hg6 hV _ _ _ (Nat.le_refl _) s5]; exact c5
      have f6 : ∀ o, w6.frozen? ⟨w2.heap.size, o, none⟩ = false := fun o => by rw [grownBy_froz hg6 hV _ _ _ (Nat.le_refl _) s5]; exact f5 o
      have q6 : (w6.frozen? ⟨w.heap.size, 0, none⟩ = false ∧ w6.frozen? ⟨w.heap.size, 1, none⟩ = false) ∧ w6.cell? ⟨w.heap.size, 0, none⟩ = some (.int .i64 0) ∧ w6.cell? ⟨w.heap.size, 1, none⟩ = some (.int .i64 0) := by
        refine ⟨⟨?_, ?_⟩, ?_, ?_⟩
        · rw [Below.froz b6 _ _ _ (by omega)]; exact hfr.1.1
        · rw [Below.froz b6 _ _ _ (by omega)]; exact hfr.1.2
        · rw [Below.celz b6 _ _ _ (by omega)]; exact hfr.2.1
        · rw [Below.celz b6 _ _ _ (by omega)]; exact hfr.2.2
      have HB : Hid (Below w.heap.size w w6) := g1.trans (b6.mono (by omega))
      have HU : Hid (i64In u) := hu
      have hne : w.heap.size < w2.heap.size := by omega
      clear hg6 hr6 b6 b5 c5 d5 f5 hr5 hu hfr
      go_wp2_with fail
      try simp only [Exit.inBlock, Exit.then]
      refine bodyPost_ret (v := .agg #[.int .i64 u, .int .i64 v]) (by simp [*, results, Tryd.results15, go_sem]) rfl ?_
      exact ⟨u, v, rfl, HU.out, HN.out, ((HB.out.setCell (by simp; omega) _).setCell (by simp) _).setCell (by simp) _⟩
    · have hy' : (y == 0) = false := beq_eq_false_iff_ne.2 hy
      have q5 : (w5.frozen? ⟨w.heap.size, 0, none⟩ = false ∧ w5.frozen? ⟨w.heap.size, 1, none⟩ = false) ∧ w5.cell? ⟨w.heap.size, 0, none⟩ = some (.int .i64 0) ∧ w5.cell? ⟨w.heap.size, 1, none⟩ = some (.int .i64 0) := by
        refine ⟨⟨?_, ?_⟩, ?_, ?_⟩
        · rw [Below.froz b5 _ _ _ (by omega)]; exact hfr.1.1
        · rw [Below.froz b5 _ _ _ (by omega)]; exact hfr.1.2
        · rw [Below.celz b5 _ _ _ (by omega)]; exact hfr.2.1
        · rw [Below.celz b5 _ _ _ (by omega)]; exact hfr.2.2
      have HB : Hid (Below w.heap.size w w5) := g1.trans (b5.mono (by omega))
      have hne : w.heap.size < w2.heap.size := by omega
      clear hy b5 hr5 hfr
      go_wp2_with fail
      try simp only [Exit.inBlock, Exit.then]
      refine bodyPost_ret (v := .agg #[.int .i64 l, .int .i64 v]) (by simp [*, results, Tryd.results15, go_sem]) rfl ?_
      exact ⟨l, v, rfl, HF.out.1, HN.out, (HB.out.setCell (by simp) _).setCell (by simp) _⟩
  · have hx' : (x == 0) = false := beq_eq_false_iff_ne.2 hx
    have HN : Hid (i64In n) := HF.out.2
    clear hx
    go_wp2_with fail
    have hrx := hr3
    have bx := b3
    have sx := s3
    have cx := c3
    have dx := d3
    have fx := f3
    clear hr3 b3 s3 c3 d3 f3
    refine (pick _ _ _ _ _ _ _ _ hrx (by omega) (by omega) (by omega)).mono ?_
    rintro e w5 ⟨y, rfl, hy0, hy1, hr5, hg5⟩
    have b5 : Below (w.heap.size + 1) w1 w5 := bx.trans (below_of_grown hg5 (by omega))
    have s5 : w2.heap.size < w5.heap.size := Nat.lt_of_lt_of_le sx hg5.size
    have c5 : w5.cell? ⟨w2.heap.size, 0, none⟩ = some (.int .i64 l) := by rw [grownBy_cells hg5 hV _ _ _ (Nat.le_refl _) sx]; exact cx
    have d5 : w5.cell? ⟨w2.heap.size, 1, none⟩ = some (.int .i64 n) := by rw [grownBy_cells hg5 hV _ _ _ (Nat.le_refl _) sx]; exact dx
    have f5 : ∀ o, w5.frozen? ⟨w2.heap.size, o, none⟩ = false := fun o => by rw [grownBy_froz hg5 hV _ _ _ (Nat.le_refl _) sx]; exact fx o
    clear hg5 hrx bx sx cx dx fx
    by_cases hy : y = 0
    · subst hy
      go_wp2_with fail
      refine (l1Label _ _ _ _ _ _ _ hr5 (by omega)).mono ?_
      rintro e w6 ⟨u, pos6, rfl, hu, _, hr6, hg6⟩
      have b6 : Below (w.heap.size + 1) w1 w6 := b5.trans (below_of_grown hg6 (by omega))
      have d6 : w6.cell? ⟨w2.heap.size, 1, none⟩ = some (.int .i64 n) := by rw [grownBy_cells hg6 hV _ _ _ (Nat.le_refl _) s5]; exact d5
      have c6 : w6.cell? ⟨w2.heap.size, 0, none⟩ = some (.int .i64 l) := by rw [grownBy_cells hg6 hV _ _ _ (Nat.le_refl _) s5]; exact c5
      have f6 : ∀ o, w6.frozen? ⟨w2.heap.size, o, none⟩ = false := fun o => by rw [grownBy_froz hg6 hV _ _ _ (Nat.le_refl _) s5]; exact f5 o
      have q6 : (w6.frozen? ⟨w.heap.size, 0, none⟩ = false ∧ w6.frozen? ⟨w.heap.size, 1, none⟩ = false) ∧ w6.cell? ⟨w.heap.size, 0, none⟩ = some (.int .i64 0) ∧ w6.cell? ⟨w.heap.size, 1, none⟩ = some (.int .i64 0) := by
        refine ⟨⟨?_, ?_⟩, ?_, ?_⟩
        · rw [Below.froz b6 _ _ _ (by omega)]; exact hfr.1.1
        · rw [Below.froz b6 _ _ _ (by omega)]; exact hfr.1.2
        · rw [Below.celz b6 _ _ _ (by omega)]; exact hfr.2.1
        · rw [Below.celz b6 _ _ _ (by omega)]; exact hfr.2.2
      have HB : Hid (Below w.heap.size w w6) := g1.trans (b6.mono (by omega))
      have HU : Hid (i64In u) := hu
      have hne : w.heap.size < w2.heap.size := by omega
      clear hg6 hr6 b6 b5 c5 d5 f5 hr5 hu hfr
      go_wp2_with fail
      try simp only [Exit.inBlock, Exit.then]
      refine bodyPost_ret (v := .agg #[.int .i64 u, .int .i64 n]) (by simp [*, results, Tryd.results15, go_sem]) rfl ?_
      exact ⟨u, n, rfl, HU.out, HN.out, ((HB.out.setCell (by simp; omega) _).setCell (by simp) _).setCell (by simp) _⟩
    · have hy' : (y == 0) = false := beq_eq_false_iff_ne.2 hy
      have q5 : (w5.frozen? ⟨w.heap.size, 0, none⟩ = false ∧ w5.frozen? ⟨w.heap.size, 1, none⟩ = false) ∧ w5.cell? ⟨w.heap.size, 0, none⟩ = some (.int .i64 0) ∧ w5.cell? ⟨w.heap.size, 1, none⟩ = some (.int .i64 0) := by
        refine ⟨⟨?_, ?_⟩, ?_, ?_⟩
        · rw [Below.froz b5 _ _ _ (by omega)]; exact hfr.1.1
        · rw [Below.froz b5 _ _ _ (by omega)]; exact hfr.1.2
        · rw [Below.celz b5 _ _ _ (by omega)]; exact hfr.2.1
        · rw [Below.celz b5 _ _ _ (by omega)]; exact hfr.2.2
      have HB : Hid (Below w.heap.size w w5) := g1.trans (b5.mono (by omega))
      have hne : w.heap.size < w2.heap.size := by omega
      clear hy b5 hr5 hfr
      go_wp2_with fail
      try simp only [Exit.inBlock, Exit.then]
      refine bodyPost_ret (v := .agg #[.int .i64 l, .int .i64 n]) (by simp [*, results, Tryd.results15, go_sem]) rfl ?_
      exact ⟨l, n, rfl, HF.out.1, HN.out, (HB.out.setCell (by simp) _).setCell (by simp) _⟩
end Go.Proofs.YtbgcalhpopcakaaDoor.Lab

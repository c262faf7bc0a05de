/-
  A pool taken in hand: impl.handOf.
-/
import Derived.Test.YtcifjildjiakgaaDoorPlo
import Derived.Test.YtcifjildjiakgaaDoorBwd
import Derived.Test.YtcifjildjiakgaaDoorErr
namespace Go.Proofs.YtcifjildjiakgaaDoor.Lab
open Go.RowKit Go.ChangeMaps Go.Shelf
set_option linter.unusedVariables false
attribute [local go_sem] Oper.semAt_some
/-- A shelf abides what turns blocks that are no cells, behind it. -/
theorem ShelfAt.own {w w' : World} {base S z : Nat} {m : Int} {xs : List (Int × Int)} {row : Option Nat} (h : ShelfAt w base S z m xs) (hg : w.grownBy w' row) (hr : ∀ r, row = some r → S < r ∧ ∃ o : Obj, w.heap[r]? = some o ∧ o.isCells = false) : ShelfAt w' base S z m xs := by
  obtain ⟨M, R, bs, pg, A, H, es, h1, h2, h3, h4, h5, h6⟩ := h
  have cell : ∀ (k : Nat) (c : Array Value) (t : TypeId) (fz : Nat × Nat), w.heap[k]? = some (.cells c t fz) → w'.heap[k]? = w.heap[k]? := fun k c t fz hk => hg.block k (lt_of_block hk) (fun e => by
    obtain ⟨_, o, ho, hc⟩ := hr k e.symm
    rw [hk] at ho
    cases ho
    cases hc)
  refine ⟨M, R, bs, pg, A, H, es, h1.of (cell _ _ _ _ h1), h2, h3, h4.of (fun b hb => cell _ _ _ _ (h4.1 b hb).1), h5.of (hg.block M h5.lt (fun e => ?_)), h6⟩
  have := (hr M e.symm).1
  omega
/-- How a call of handOf ends. -/
def HandPost (w : World) (z : Int) (xs : List (Int × Int)) (e : Ending) (w' : World) : Prop :=
  (poolB z xs = true ∧ ∃ S zn : Nat, (zn : Int) = z ∧ e = .returned (.tuple #[.pointer (some ⟨S, 0, none⟩), .nilIface]) ∧ ShelfAt w' w.heap.size S zn 0 xs ∧ Below w.heap.size w w') ∨
  (poolB z xs = false ∧ ∃ t u, e = .returned (.tuple #[.pointer none, .iface t u]) ∧ Below w.heap.size w w')
theorem hold_alloc {W0 w' : World} {P : Nat} {v : Value} {o : Obj} (h : Below W0.heap.size W0 w' ∧ w'.cell? ⟨P, 0, none⟩ = some v) (hP : P < W0.heap.size) : Below W0.heap.size W0 (w'.alloc o) ∧ (w'.alloc o).cell? ⟨P, 0, none⟩ = some v := by
  have hb := h.1.alloc (o := o) h.1.size
  exact ⟨hb, (Below.celz hb _ _ _ hP).trans ((Below.celz h.1 _ _ _ hP).symm.trans h.2)⟩
theorem hold_drew {W0 w' : World} {P : Nat} {v : Value} (h : Below W0.heap.size W0 w' ∧ w'.cell? ⟨P, 0, none⟩ = some v) : Below W0.heap.size W0 w'.drew ∧ w'.drew.cell? ⟨P, 0, none⟩ = some v := ⟨h.1.drew, h.2⟩
theorem hold_set {W0 w' : World} {P : Nat} {v u : Value} {p : Addr} (h : Below W0.heap.size W0 w' ∧ w'.cell? ⟨P, 0, none⟩ = some v) (hP : P < W0.heap.size) (hp : W0.heap.size ≤ p.block) : Below W0.heap.size W0 (w'.setCell p u) ∧ (w'.setCell p u).cell? ⟨P, 0, none⟩ = some v := by
  have hb := h.1.setCell hp u
  exact ⟨hb, (Below.celz hb _ _ _ hP).trans ((Below.celz h.1 _ _ _ hP).symm.trans h.2)⟩
theorem hold_call {W0 w' w3 : World} {P : Nat} {v : Value} (h : Below W0.heap.size W0 w' ∧ w'.cell? ⟨P, 0, none⟩ = some v) (hP : P < W0.heap.size) (b3 : Below w'.heap.size w' w3) : Below W0.heap.size W0 w3 ∧ w3.cell? ⟨P, 0, none⟩ = some v := by
  have hb := h.1.trans (b3.mono h.1.size)
  exact ⟨hb, (Below.celz hb _ _ _ hP).trans ((Below.celz h.1 _ _ _ hP).symm.trans h.2)⟩
theorem hand_res {tmps : Array Value} {w : World} {U1 U2 : Nat} {v1 v2 : Value} (h1 : tmps[2]? = some (.pointer (some ⟨U1, 0, none⟩))) (h2 : tmps[3]? = some (.pointer (some ⟨U2, 0, none⟩))) (c1 : w.cell? ⟨U1, 0, none⟩ = some v1) (c2 : w.cell? ⟨U2, 0, none⟩ = some v2) :
    (results Tryd.f17 tmps).run Tryd.prog w = .ok (.tuple #[v1, v2]) w := by
  simp [results, Tryd.results17, h1, h2, go_sem, c1, c2]
/-- How a hand in the making stands between two rounds: these pages have come, the last of the pool first. -/
def HandI (w : World) (base S zn Hb Bs : Nat) (v : Value) (t : TypeId) (u : Value) (pre : List (Int × Int × Int)) (W : World) : Prop :=
  ShelfAt W base S zn 0 (pre.map Prod.snd).reverse ∧ W.heap[Hb]? = some (.cells #[.pointer (some ⟨S, 0, none⟩)] 44 (0, 0)) ∧ W.heap[w.heap.size + 1]? = some (.cells #[.pointer none] 44 (0, 0)) ∧ W.heap[w.heap.size + 1 + 1]? = some (.cells #[.nilIface] 46 (0, 0)) ∧
    W.heap[Bs]? = some (.cells #[v] 23 (0, 0)) ∧ Below w.heap.size w W ∧ W.cell? ⟨0, 0, none⟩ = some (.iface t u) ∧ (∀ x ∈ pre.map Prod.snd, pageB x.1 x.2 = true) ∧ (pre.map Prod.snd).Nodup
theorem HandI.start {w W0 Wf : World} {S M R Hb zn N cap : Nat} {a : Option Addr} {t : TypeId} {u : Value} (b0 : Below w.heap.size w W0) (s0 : W0.heap.size = w.heap.size + 3) (hu1 : W0.heap[w.heap.size + 1]? = some (.cells #[.pointer none] 44 (0, 0))) (hu2 : W0.heap[w.heap.size + 1 + 1]? = some (.cells #[.nilIface] 46 (0, 0)))
    (hg : w.cell? ⟨0, 0, none⟩ = some (.iface t u)) (hgl : 0 < w.heap.size) (hbel : Below W0.heap.size W0 Wf) (hh : Wf.heap[S]? = some (.cells #[.int .i64 (zn : Int), .map (some M), ptr R, .int .i64 0] 62 (0, 0))) (hm : Wf.heap[M]? = some (.map #[] 0)) (hpl : PlAt Wf R (0, 0) R R)
    (hHb : Wf.heap[Hb]? = some (.cells #[.pointer (some ⟨S, 0, none⟩)] 44 (0, 0))) (hM : W0.heap.size ≤ M) (hMS : M < S) (hR : W0.heap.size ≤ R) (hHbb : W0.heap.size ≤ Hb) :
    HandI w W0.heap.size S zn Hb Wf.heap.size (.slice a N cap) t u [] (Wf.alloc (.cells #[.slice a N cap] 23)) := by
  have bw : Below w.heap.size w (Wf.alloc (.cells #[.slice a N cap] 23)) := (b0.trans (hbel.mono (by omega))).alloc (by have := hbel.size; omega) _
  have old : ∀ k, k < Wf.heap.size → (Wf.alloc (.cells #[.slice a N cap] 23)).heap[k]? = Wf.heap[k]? := fun k hk => heap_alloc_old _ _ hk
  have hs := hbel.size
  refine ⟨?_, by rw [old _ (lt_of_block hHb)]; exact hHb, by rw [old _ (by omega), hbel.block _ (by omega)]; exact hu1, by rw [old _ (by omega), hbel.block _ (by omega)]; exact hu2, new_block _ _, bw, (Below.celz bw _ _ _ hgl).trans hg, by simp, by simp⟩
  refine ⟨M, R, [], fun _ => (0, 0), fun _ => R, fun _ => R, [], ?_, by omega, ⟨hM, hMS⟩, ⟨fun b hb => ?_, ⟨rfl, rfl⟩, by simp⟩, MapP.made (by rw [old _ (lt_of_block hm)]; exact hm), by simp, by simp, by simp⟩
  · unfold HandAt; rw [old _ (lt_of_block hh)]; exact hh
  · simp at hb
    subst hb
    exact ⟨hpl.heap (old _ hpl.lt), hR⟩
theorem HandI.own {w : World} {base S zn Hb Bs B : Nat} {v : Value} {t : TypeId} {u : Value} (hS : S < B) (hw : w.heap.size ≤ B) : OwnFrom B (HandI w base S zn Hb Bs v t u) := fun pre W W' row h hg hr => by
  obtain ⟨h1, h2, h3, h4, h5, h6, h7, h8⟩ := h
  have cell : ∀ (k : Nat) (c : Array Value) (t : TypeId) (fz : Nat × Nat), W.heap[k]? = some (.cells c t fz) → W'.heap[k]? = some (.cells c t fz) := fun k c t fz hk => (hg.block k (lt_of_block hk) (fun e => by
    obtain ⟨_, o, ho, hc⟩ := hr k e.symm
    rw [hk] at ho
    cases ho
    cases hc)).trans hk
  have b6 : Below w.heap.size W W' := (Below.refl _ _).grown hg (Nat.le_trans (Nat.le_refl _) h6.size) (fun k e => by have := (hr k e).1; omega)
  exact ⟨h1.own hg (fun r e => ⟨by have := (hr r e).1; omega, (hr r e).2⟩), cell _ _ _ _ h2, cell _ _ _ _ h3, cell _ _ _ _ h4, cell _ _ _ _ h5, h6.trans b6, cell_kept h7 hg (fun r e => (hr r e).2), h8⟩
/-- How a hand in the making ends where a page is not right or comes twice. -/
def HandX (w : World) (t : TypeId) (u : Value) (c : Code) (pre : List (Int × Int × Int)) (W : World) : Prop :=
  c = .ret ∧ W.heap[w.heap.size + 1]? = some (.cells #[.pointer none] 44 (0, 0)) ∧ W.heap[w.heap.size + 1 + 1]? = some (.cells #[.iface t u] 46 (0, 0)) ∧ Below w.heap.size w W ∧ ¬ ((∀ x ∈ pre.map Prod.snd, pageB x.1 x.2 = true) ∧ (pre.map Prod.snd).Nodup)
theorem HandX.own {w : World} {B : Nat} {t : TypeId} {u : Value} {c : Code} (hw : w.heap.size ≤ B) : OwnFrom B (HandX w t u c) := fun pre W W' row h hg hr => by
  obtain ⟨h1, h3, h4, h6, h8⟩ := h
  have cell : ∀ (k : Nat) (c : Array Value) (t : TypeId) (fz : Nat × Nat), W.heap[k]? = some (.cells c t fz) → W'.heap[k]? = some (.cells c t fz) := fun k c t fz hk => (hg.block k (lt_of_block hk) (fun e => by
    obtain ⟨_, o, ho, hc⟩ := hr k e.symm
    rw [hk] at ho
    cases ho
    cases hc)).trans hk
  exact ⟨h1, cell _ _ _ _ h3, cell _ _ _ _ h4, h6.trans ((Below.refl _ _).grown hg h6.size (fun k e => by have := (hr k e).1; omega)), h8⟩
/-- What a round has left, where it returns. -/
def RelT (w : World) (t : TypeId) (u : Value) (B : Nat) (W w5 : World) : Prop :=
  Below w.heap.size w w5 ∧ w5.heap[w.heap.size + 1]? = some (.cells #[.pointer none] 44 (0, 0)) ∧ w5.heap[w.heap.size + 1 + 1]? = some (.cells #[.nilIface] 46 (0, 0)) ∧ w5.cell? ⟨0, 0, none⟩ = some (.iface t u) ∧ KeepsFrom B W w5
theorem KeepsFrom.of_fr {S B : Nat} {W w5 w6 : World} (b5 : Below W.heap.size W w5) (b6 : w5.heap.size ≤ w6.heap.size) (f6 : Fr S w5 w6) (hS : S < B) : KeepsFrom B W w6 :=
  ⟨Nat.le_trans b5.size b6, fun k o hk h1 h2 => f6 k o (by rw [b5.block k (lt_of_block h1)]; exact h1) (fun c t fz e => by rw [e] at h2; cases h2) (fun e cl e' => by omega)⟩
theorem HandI.left {w : World} {base S zn Hb Bs B : Nat} {v : Value} {t : TypeId} {u : Value} {pre : List (Int × Int × Int)} {W w5 w6 : World} (h : HandI w base S zn Hb Bs v t u pre W) (b5 : Below W.heap.size W w5) (b6 : Below base w5 w6) (f6 : Fr S w5 w6) (hwb : w.heap.size ≤ base) (hS : S < B) (hgl : 0 < w.heap.size) : RelT w t u B W w6 := by
  obtain ⟨h1, h2, h3, h4, h5, h6, h7, h8, h9⟩ := h
  have keep : ∀ (k : Nat) (c : Array Value) (t : TypeId) (fz : Nat × Nat), W.heap[k]? = some (.cells c t fz) → t ≠ 68 → t ≠ 62 → w6.heap[k]? = some (.cells c t fz) := fun k c t fz hk n1 n2 => f6.cells (by rw [b5.block k (lt_of_block hk)]; exact hk) n1 n2
  have bw : Below w.heap.size w w6 := (h6.trans (b5.mono h6.size)).trans (b6.mono hwb)
  exact ⟨bw, keep _ _ _ _ h3 (by decide) (by decide), keep _ _ _ _ h4 (by decide) (by decide), (Below.celz bw _ _ _ hgl).trans ((Below.celz h6 _ _ _ hgl).symm.trans h7), KeepsFrom.of_fr b5 b6.size f6 hS⟩
theorem HandI.next {w : World} {base S zn Hb Bs B : Nat} {v : Value} {t : TypeId} {u : Value} {pre : List (Int × Int × Int)} {ix x0 x1 : Int} {W w5 w6 : World} (h : HandI w base S zn Hb Bs v t u pre W) (b5 : Below W.heap.size W w5) (sh : ShelfAt w6 base S zn 0 (useL zn (pre.map Prod.snd).reverse (x0, x1))) (b6 : Below base w5 w6) (f6 : Fr S w5 w6) (hwb : w.heap.size ≤ base) (hS : S < B) (hgl : 0 < w.heap.size)
    (hp : pageB x0 x1 = true) (hx : (x0, x1) ∉ (pre.map Prod.snd).reverse) (hl : (pre.map Prod.snd).reverse.length + 1 ≤ zn) : HandI w base S zn Hb Bs v t u (pre ++ [(ix, x0, x1)]) w6 ∧ KeepsFrom B W w6 ∧ KpB Bs w.heap.size W w6 := by
  have hu : useL zn (pre.map Prod.snd).reverse (x0, x1) = ((pre ++ [(ix, x0, x1)]).map Prod.snd).reverse := by
    unfold useL
    rw [filt_none hx, List.take_of_length_le (by simpa using hl)]
    simp
  rw [hu] at sh
  obtain ⟨r1, r2, r3, r4, r5⟩ := HandI.left h b5 b6 f6 hwb hS hgl
  obtain ⟨h1, h2, h3, h4, h5, h6, h7, h8, h9⟩ := h
  have keep : ∀ (k : Nat) (c : Array Value) (t : TypeId) (fz : Nat × Nat), W.heap[k]? = some (.cells c t fz) → t ≠ 68 → t ≠ 62 → w6.heap[k]? = some (.cells c t fz) := fun k c t fz hk n1 n2 => f6.cells (by rw [b5.block k (lt_of_block hk)]; exact hk) n1 n2
  have hBs := keep _ _ _ _ h5 (by decide) (by decide)
  refine ⟨⟨sh, keep _ _ _ _ h2 (by decide) (by decide), r2, r3, hBs, r1, r4, fun y hy => ?_, ?_⟩, r5, by rw [hBs, h5], (b5.mono h6.size).trans (b6.mono hwb)⟩
  · rw [List.map_append, List.mem_append] at hy
    rcases hy with hy | hy
    · exact h8 y hy
    · simp at hy; subst hy; exact hp
  · rw [List.map_append, List.nodup_append]
    refine ⟨h9, by simp, fun y hy z hz e => ?_⟩
    simp at hz
    subst hz e
    exact hx (List.mem_reverse.2 hy)
/-- What lies behind the making of a hand. -/
def MadeH (W0 Wf : World) (z : Int) (v4 e26 e27 e30 : Value) : Prop :=
  ∃ S M R Hb : Nat, v4 = .pointer (some ⟨Hb, 0, none⟩) ∧ e26 = .map (some M) ∧ e27 = .pointer (some ⟨R, 0, none⟩) ∧ e30 = .pointer (some ⟨S, 0, none⟩) ∧ Wf.heap[S]? = some (.cells #[.int .i64 z, .map (some M), ptr R, .int .i64 0] 62 (0, 0)) ∧ Wf.heap[M]? = some (.map #[] 0) ∧ PlAt Wf R (0, 0) R R ∧ Wf.heap[Hb]? = some (.cells #[.pointer (some ⟨S, 0, none⟩)] 44 (0, 0)) ∧
    W0.heap.size ≤ M ∧ M < S ∧ W0.heap.size ≤ R ∧ W0.heap.size ≤ Hb ∧ Below W0.heap.size W0 Wf
set_option maxRecDepth 100000 in
set_option maxHeartbeats 8000000 in
theorem handOf_walk (z : Int) (a : Option Addr) (N cap : Nat) (xs : List (Int × Int)) (w : World) (HR : Hid (RowAt 2 encPage w (.slice a N cap) xs)) (HN : Hid (N = xs.length)) (hN : N ≤ 1048576) (hf : FormAt w) :
    Calls Tryd.prog 17 #[.agg #[.int .i64 z, .slice a N cap]] w (HandPost w z xs) := by
  obtain ⟨t, u, hg⟩ := hf
  have hgl : 0 < w.heap.size := FormAt.lt ⟨t, u, hg⟩
  obtain ⟨W0, hW0⟩ : ∃ W0, W0 = ((w.alloc (.cells #[.int .i64 z, .slice a N cap] 25)).alloc (.cells #[.pointer none] 44)).alloc (.cells #[.nilIface] 46) := ⟨_, rfl⟩
  have s0 : W0.heap.size = w.heap.size + 3 := by rw [hW0]; simp
  have b0 : Below w.heap.size w W0 := by rw [hW0]; go_grown
  have p0 : W0.cell? ⟨w.heap.size, 0, none⟩ = some (.int .i64 z) := by rw [hW0]; simp [go_sem]
  have p1 : W0.cell? ⟨w.heap.size, 1, none⟩ = some (.slice a N cap) := by rw [hW0]; simp [go_sem]
  have hu1 : W0.heap[w.heap.size + 1]? = some (.cells #[.pointer none] 44 (0, 0)) := by rw [hW0, heap_alloc_old _ _ (by simp)]; exact new_at (by simp)
  have hu2 : W0.heap[w.heap.size + 1 + 1]? = some (.cells #[.nilIface] 46 (0, 0)) := by rw [hW0]; exact new_at (by simp)
  have g0 : W0.cell? ⟨0, 0, none⟩ = some (.iface t u) := (Below.celz b0 _ _ _ hgl).trans hg
  have u1 : W0.cell? ⟨w.heap.size + 1, 0, none⟩ = some (.pointer none) := by rw [cell_block hu1]; rfl
  have u2 : W0.cell? ⟨w.heap.size + 1 + 1, 0, none⟩ = some .nilIface := by rw [cell_block hu2]; rfl
  have f1 : W0.frozen? ⟨w.heap.size + 1, 0, none⟩ = false := free_block hu1
  have f2 : W0.frozen? ⟨w.heap.size + 1 + 1, 0, none⟩ = false := free_block hu2
  have HB0 : Hid (Below w.heap.size w W0 ∧ W0.heap.size = w.heap.size + 3 ∧ W0.heap[w.heap.size + 1]? = some (.cells #[.pointer none] 44 (0, 0)) ∧ W0.heap[w.heap.size + 1 + 1]? = some (.cells #[.nilIface] 46 (0, 0))) := ⟨b0, s0, hu1, hu2⟩
  refine (callsIn_wide (n := 6)).1 ?_
  refine callsIn_of_wp_marks Tryd.func17 rfl trivial ?_ rfl
  refine wpIn_wide.2 ?_
  simp only [Tryd.ntmps17, List.size_toArray, List.length_cons, List.length_nil, Nat.reduceAdd, Nat.reduceSub, Array.replicate_succ, Array.replicate_zero, List.push_toArray, List.append_toArray, List.nil_append, List.cons_append]
  by_cases hok : 0 ≤ z ∧ z ≤ 12 ∧ (N : Int) ≤ z
  rotate_left
  · have HNO : Hid (poolB z xs = false) := poolB_false.2 (fun h => hok ⟨h.1, h.2.1, by rw [HN.out]; exact h.2.2.1⟩)
    by_cases hz : 0 ≤ z
    · by_cases hz2 : z ≤ 12
      · have hz3 : ¬ (N : Int) ≤ z := fun h => hok ⟨hz, hz2, h⟩
        clear hok
        go_wp2_with fail
        simp only [← hW0]
        clear hW0 b0 hu1 hu2
        go_region_held3 (fun w' => w'.cell? ⟨0, 0, none⟩ = some (.iface t u))
          (first | exact g0 | assumption | simp [go_sem, *]) (fail)
        all_goals (
          rename_i hHeld
          clear hHeld
          have R : Hid (Below w.heap.size w ((W0.setCell ⟨w.heap.size + 1, 0, none⟩ (.pointer none)).setCell ⟨w.heap.size + 1 + 1, 0, none⟩ (.iface t u)).drew) := ((HB0.out.1.setCell (by simp) _).setCell (by simp; omega) _).drew
          have v1 : ((W0.setCell ⟨w.heap.size + 1, 0, none⟩ (.pointer none)).setCell ⟨w.heap.size + 1 + 1, 0, none⟩ (.iface t u)).drew.cell? ⟨w.heap.size + 1, 0, none⟩ = some (.pointer none) := by simp [go_sem, u1]
          have v2 : ((W0.setCell ⟨w.heap.size + 1, 0, none⟩ (.pointer none)).setCell ⟨w.heap.size + 1 + 1, 0, none⟩ (.iface t u)).drew.cell? ⟨w.heap.size + 1 + 1, 0, none⟩ = some (.iface t u) := by simp [go_sem, u2]
          generalize ((W0.setCell ⟨w.heap.size + 1, 0, none⟩ (.pointer none)).setCell ⟨w.heap.size + 1 + 1, 0, none⟩ (.iface t u)).drew = W2 at *
          go_wp2_with fail
          exact ⟨_, hand_res rfl rfl v1 v2, .inr ⟨HNO.out, t, u, rfl, R.out⟩⟩)
      · clear hok
        go_wp2_with fail
        simp only [← hW0]
        clear hW0 b0 hu1 hu2
        go_region_held3 (fun w' => w'.cell? ⟨0, 0, none⟩ = some (.iface t u))
          (first | exact g0 | assumption | simp [go_sem, *]) (fail)
        all_goals (
          rename_i hHeld
          clear hHeld
          have R : Hid (Below w.heap.size w ((W0.setCell ⟨w.heap.size + 1, 0, none⟩ (.pointer none)).setCell ⟨w.heap.size + 1 + 1, 0, none⟩ (.iface t u)).drew) := ((HB0.out.1.setCell (by simp) _).setCell (by simp; omega) _).drew
          have v1 : ((W0.setCell ⟨w.heap.size + 1, 0, none⟩ (.pointer none)).setCell ⟨w.heap.size + 1 + 1, 0, none⟩ (.iface t u)).drew.cell? ⟨w.heap.size + 1, 0, none⟩ = some (.pointer none) := by simp [go_sem, u1]
          have v2 : ((W0.setCell ⟨w.heap.size + 1, 0, none⟩ (.pointer none)).setCell ⟨w.heap.size + 1 + 1, 0, none⟩ (.iface t u)).drew.cell? ⟨w.heap.size + 1 + 1, 0, none⟩ = some (.iface t u) := by simp [go_sem, u2]
          generalize ((W0.setCell ⟨w.heap.size + 1, 0, none⟩ (.pointer none)).setCell ⟨w.heap.size + 1 + 1, 0, none⟩ (.iface t u)).drew = W2 at *
          go_wp2_with fail
          exact ⟨_, hand_res rfl rfl v1 v2, .inr ⟨HNO.out, t, u, rfl, R.out⟩⟩)
    · clear hok
      go_wp2_with fail
      simp only [← hW0]
      clear hW0 b0 hu1 hu2
      go_region_held3 (fun w' => w'.cell? ⟨0, 0, none⟩ = some (.iface t u))
        (first | exact g0 | assumption | simp [go_sem, *]) (fail)
      all_goals (
        rename_i hHeld
        clear hHeld
        have R : Hid (Below w.heap.size w ((W0.setCell ⟨w.heap.size + 1, 0, none⟩ (.pointer none)).setCell ⟨w.heap.size + 1 + 1, 0, none⟩ (.iface t u)).drew) := ((HB0.out.1.setCell (by simp) _).setCell (by simp; omega) _).drew
        have v1 : ((W0.setCell ⟨w.heap.size + 1, 0, none⟩ (.pointer none)).setCell ⟨w.heap.size + 1 + 1, 0, none⟩ (.iface t u)).drew.cell? ⟨w.heap.size + 1, 0, none⟩ = some (.pointer none) := by simp [go_sem, u1]
        have v2 : ((W0.setCell ⟨w.heap.size + 1, 0, none⟩ (.pointer none)).setCell ⟨w.heap.size + 1 + 1, 0, none⟩ (.iface t u)).drew.cell? ⟨w.heap.size + 1 + 1, 0, none⟩ = some (.iface t u) := by simp [go_sem, u2]
        generalize ((W0.setCell ⟨w.heap.size + 1, 0, none⟩ (.pointer none)).setCell ⟨w.heap.size + 1 + 1, 0, none⟩ (.iface t u)).drew = W2 at *
        go_wp2_with fail
        exact ⟨_, hand_res rfl rfl v1 v2, .inr ⟨HNO.out, t, u, rfl, R.out⟩⟩)
  obtain ⟨hz, hz2, hz3⟩ := hok
  go_wp2_with fail
  simp only [← hW0]
  clear hW0 b0 hu1 hu2 u1 u2 f1 f2
  have mk : ∀ (t : TypeId) (w' : World), (Instr.makeMap t none).run Tryd.prog w' = .ok (.map (some w'.heap.size)) (w'.alloc (.map #[] 0)) := run_makeMap
  have hlt : w.heap.size < W0.heap.size := by omega
  clear s0
  rename_i K hK
  have REST : ∀ (v4 e7 e8 e9 e10 e11 e12 e13 e14 e15 e16 e17 e18 e19 e20 e21 e22 e23 e24 e25 e26 e27 e28 e29 e30 : Value) (Wf : World), MadeH W0 Wf z v4 e26 e27 e30 → K { tmps := #[.agg #[.int .i64 z, .slice a N cap], .pointer (some ⟨w.heap.size, 0, none⟩), .pointer (some ⟨w.heap.size + 1, 0, none⟩), .pointer (some ⟨w.heap.size + 1 + 1, 0, none⟩), v4, undef, undef, e7, e8, e9, e10, e11, e12, e13, e14, e15, e16, e17, e18, e19, e20, e21, e22, e23, e24, e25, e26, e27, e28, e29, e30, undef, undef, undef, undef, undef, undef, undef, undef, undef, undef, undef, undef, undef, undef, undef, undef, undef], defers := [] } Wf := by
    rintro v4 e7 e8 e9 e10 e11 e12 e13 e14 e15 e16 e17 e18 e19 e20 e21 e22 e23 e24 e25 e26 e27 e28 e29 e30 Wf ⟨S, M, R, Hb, rfl, rfl, rfl, rfl, hh, hm, hpl, hHb, hM, hMS, hR, hHbb, hbel⟩
    apply hK
    clear hK
    obtain ⟨zn, rfl⟩ := Int.eq_ofNat_of_zero_le hz
    obtain ⟨b0, s0, hu1, hu2⟩ := HB0.out
    have q1 : Wf.cell? ⟨w.heap.size, 1, none⟩ = some (.slice a N cap) := (Below.celz hbel _ _ _ hlt).trans p1
    have HI0 : Hid (HandI w W0.heap.size S zn Hb (Wf.heap.size) (.slice a N cap) t u [] (Wf.alloc (.cells #[.slice a N cap] 23))) := HandI.start b0 s0 hu1 hu2 hg hgl hbel hh hm hpl hHb hM hMS hR hHbb
    have hSl : S < Wf.heap.size := lt_of_block hh
    have hHl : Hb < Wf.heap.size := lt_of_block hHb
    have hsz : w.heap.size + 3 ≤ Wf.heap.size := by have := hbel.size; omega
    have HRW : Hid (RowAt 2 encPage (Wf.alloc (.cells #[.slice a N cap] 23)) (.slice a N cap) xs ∧ ∀ b o c l, Value.slice a N cap = .slice (some ⟨b, o, none⟩) l c → xs.length ≠ 0 → b < w.heap.size) := by
      refine ⟨HR.out.keep (((b0.trans (hbel.mono (by omega))).alloc (by omega) _)), fun b o c l hv hx => ?_⟩
      rcases HR.out with ⟨hz, _⟩ | ⟨_, b1, o1, c1, hv1, hb1, _⟩
      · rw [hz] at hx; exact absurd rfl hx
      · rw [hv] at hv1
        simp only [Value.slice.injEq, Option.some.injEq, Addr.mk.injEq] at hv1
        omega
    clear hh hm hpl hHb hM hMS hR hHbb hbel b0 s0 hu1 hu2
    go_wp2_with fail
    refine (backward a N cap _).mono ?_
    rintro e w4 ⟨rfl, rfl⟩
    go_wp2_with fail
    obtain ⟨Wg, hWg⟩ : ∃ Wg, Wg = Wf.alloc (.cells #[.slice a N cap] 23) := ⟨_, rfl⟩
    have hg1 : Wf.heap.size < Wg.heap.size := by rw [hWg]; simp
    have hBs : Wg.heap[Wf.heap.size]? = some (.cells #[.slice a N cap] 23 (0, 0)) := by rw [hWg]; exact new_block _ _
    rw [← hWg] at HI0 HRW ⊢
    clear hWg
    refine (wpIn_wide (n := 6)).1 ?_
    refine wpIn_rangeFunc_ownH (α := Int × Int × Int) (F := Fence.wide) (n := 6) rfl (by omega) (gf := 27) (lb := #[.pointer (some ⟨Wf.heap.size, 0, none⟩)]) rfl trivial (enters_of Tryd.func27 (by kernel_rfl) rfl) (encs := encB) (Kp := KpB Wf.heap.size w.heap.size)
      (bwd_stops Fence.wide 5 trivial rfl (by omega) Wf.heap.size w.heap.size (.slice a N cap) xs (by rw [← HN.out]; exact hN) Wg (by omega) hBs HRW.out.1 HRW.out.2) KpB.trans (KpB.put (by omega) (by omega)) (Below.refl _ _) (fun _ => rfl)
      (HandI w W0.heap.size S zn Hb Wf.heap.size (.slice a N cap) t u) (HandX w t u) (HandI.own (by omega) (by omega)) (fun c => HandX.own (by omega)) HI0.out
      (fun x a' W => ∃ Bx, W.heap[Bx]? = some (.cells #[.int .i64 x.2.1, .int .i64 x.2.2] 41 (0, 0)) ∧ a' = { tmps := #[.agg #[.int .i64 (zn : Int), .slice a N cap], .pointer (some ⟨w.heap.size, 0, none⟩), .pointer (some ⟨w.heap.size + 1, 0, none⟩), .pointer (some ⟨w.heap.size + 1 + 1, 0, none⟩), .pointer (some ⟨Hb, 0, none⟩), undef, .pointer (some ⟨Bx, 0, none⟩), e7, e8, e9, e10, e11, e12, e13, e14, e15, e16, e17, e18, e19, e20, e21, e22, e23, e24, e25, .map (some M), .pointer (some ⟨R, 0, none⟩), e28, e29, .pointer (some ⟨S, 0, none⟩), .pointer (some ⟨w.heap.size, 1, none⟩), .slice a N cap, .func (.func 27) #[] #[.pointer (some ⟨Wf.heap.size, 0, none⟩)], .int .i64 x.1, .agg #[.int .i64 x.2.1, .int .i64 x.2.2], undef, undef, undef, undef, undef, undef, undef, undef, undef, undef, undef, undef], defers := [] })
      (fun x a' => fun _ W W' row hs hg hr => by
        obtain ⟨Bx, hb, ha⟩ := hs
        exact ⟨Bx, (hg.block Bx (lt_of_block hb) (fun e => by
          obtain ⟨_, o, ho, hc⟩ := hr Bx e.symm
          rw [hb] at ho
          cases ho
          cases hc)).trans hb, ha⟩) ?assign ?body ?done ?stop
    case assign =>
      rintro l pre ⟨ix, x0, x1⟩ W K hi hK
      simp only [encB]
      gi_wp2
      exact hK _ _ ((KeepsOthers.alloc _ _).from _) ⟨heap_alloc_old _ _ (lt_of_block hi.2.2.2.2.1), (Below.refl _ W).alloc hi.2.2.2.2.2.1.size _⟩ ((HandI.own (B := Wg.heap.size) (by omega) (by omega)).alloc _ hi) ⟨W.heap.size, new_block _ _, rfl⟩
    case body =>
      rintro l pre ⟨ix, x0, x1⟩ a' W hl ⟨r, hr⟩ hi ⟨Bx, hBx, rfl⟩ hlen
      dsimp only at hBx
      obtain ⟨i1, i2, i3, i4, i5, i6, i7, i8, i9⟩ := hi
      have k0 : W.cell? ⟨Bx, 0, none⟩ = some (.int .i64 x0) := by rw [cell_block hBx]; rfl
      have k1 : W.cell? ⟨Bx, 1, none⟩ = some (.int .i64 x1) := by rw [cell_block hBx]; rfl
      have kH : W.cell? ⟨Hb, 0, none⟩ = some (.pointer (some ⟨S, 0, none⟩)) := by rw [cell_block i2]; rfl
      have HIW : Hid (HandI w W0.heap.size S zn Hb Wf.heap.size (.slice a N cap) t u pre W) := ⟨i1, i2, i3, i4, i5, i6, i7, i8, i9⟩
      have h4 : 1 ≤ 6 - 1 - 1 := by omega
      have hmx : Tryd.prog.follows .mixedOrders = true := by kernel_rfl
      have hfu : Fence.wide.fn 25 := trivial
      have hfp : Fence.wide.fn 24 := trivial
      gi_wp2_with fail
      rename_i K2 hK2
      have RT : ∀ (f36 f37 f38 f39 f40 f41 f42 f43 f44 : Value) (w5 : World), RelT w t u Wg.heap.size W w5 → ¬ ((∀ x ∈ (pre ++ [(ix, x0, x1)]).map Prod.snd, pageB x.1 x.2 = true) ∧ ((pre ++ [(ix, x0, x1)]).map Prod.snd).Nodup) → K2 { tmps := #[.agg #[.int .i64 (zn : Int), .slice a N cap], .pointer (some ⟨w.heap.size, 0, none⟩), .pointer (some ⟨w.heap.size + 1, 0, none⟩), .pointer (some ⟨w.heap.size + 1 + 1, 0, none⟩), .pointer (some ⟨Hb, 0, none⟩), undef, .pointer (some ⟨Bx, 0, none⟩), e7, e8, e9, e10, e11, e12, e13, e14, e15, e16, e17, e18, e19, e20, e21, e22, e23, e24, e25, .map (some M), .pointer (some ⟨R, 0, none⟩), e28, e29, .pointer (some ⟨S, 0, none⟩), .pointer (some ⟨w.heap.size, 1, none⟩), .slice a N cap, .func (.func 27) #[] #[.pointer (some ⟨Wf.heap.size, 0, none⟩)], .int .i64 ix, .agg #[.int .i64 x0, .int .i64 x1], f36, f37, f38, f39, f40, f41, f42, f43, f44, .bool true, undef, undef], defers := [] } w5 := by
        intro f36 f37 f38 f39 f40 f41 f42 f43 f44 w5 hrel hno
        obtain ⟨r1, r2, r3, r4, r5⟩ := hrel
        have HF : Hid (RelT w t u Wg.heap.size W w5 ∧ ¬ ((∀ x ∈ (pre ++ [(ix, x0, x1)]).map Prod.snd, pageB x.1 x.2 = true) ∧ ((pre ++ [(ix, x0, x1)]).map Prod.snd).Nodup)) := ⟨⟨r1, r2, r3, r4, r5⟩, hno⟩
        have u1 : w5.cell? ⟨w.heap.size + 1, 0, none⟩ = some (.pointer none) := by rw [cell_block r2]; rfl
        have u2 : w5.cell? ⟨w.heap.size + 1 + 1, 0, none⟩ = some .nilIface := by rw [cell_block r3]; rfl
        have f1 : w5.frozen? ⟨w.heap.size + 1, 0, none⟩ = false := free_block r2
        have f2 : w5.frozen? ⟨w.heap.size + 1 + 1, 0, none⟩ = false := free_block r3
        apply hK2
        clear hK2 i1 i2 i3 i4 i5 i6 i7 i8 i9 k0 k1 kH hBx r1 r2 r3 r5 hno
        gi_wp2_with fail
        gi_region_with_o (fail)
        all_goals (
          gi_wp2_with fail
          obtain ⟨⟨r1, r2, r3, _, r5⟩, hno⟩ := HF.out
          refine ⟨r5.trans ((((KeepsOthers.setCell _ _ _).trans (KeepsOthers.setCell _ _ _)).trans (KeepsOthers.drew _)).from _), rfl, ?_, ?_, ((r1.setCell (by simp) _).setCell (by simp; omega) _).drew, hno⟩
          · show (World.setCell _ _ _).heap[_]? = _
            rw [Below.heap_setCell _ _ _ _ (by simp), set_block _ r2]; rfl
          · show (World.setCell _ _ _).heap[_]? = _
            rw [set_block _ (by rw [Below.heap_setCell _ _ _ _ (by simp)]; exact r3)]; rfl)
      have RF : ∀ (f36 f37 f38 f39 f40 f41 f42 f43 f44 : Value) (w5 : World), HandI w W0.heap.size S zn Hb Wf.heap.size (.slice a N cap) t u (pre ++ [(ix, x0, x1)]) w5 → KeepsFrom Wg.heap.size W w5 → KpB Wf.heap.size w.heap.size W w5 → K2 { tmps := #[.agg #[.int .i64 (zn : Int), .slice a N cap], .pointer (some ⟨w.heap.size, 0, none⟩), .pointer (some ⟨w.heap.size + 1, 0, none⟩), .pointer (some ⟨w.heap.size + 1 + 1, 0, none⟩), .pointer (some ⟨Hb, 0, none⟩), undef, .pointer (some ⟨Bx, 0, none⟩), e7, e8, e9, e10, e11, e12, e13, e14, e15, e16, e17, e18, e19, e20, e21, e22, e23, e24, e25, .map (some M), .pointer (some ⟨R, 0, none⟩), e28, e29, .pointer (some ⟨S, 0, none⟩), .pointer (some ⟨w.heap.size, 1, none⟩), .slice a N cap, .func (.func 27) #[] #[.pointer (some ⟨Wf.heap.size, 0, none⟩)], .int .i64 ix, .agg #[.int .i64 x0, .int .i64 x1], f36, f37, f38, f39, f40, f41, f42, f43, f44, .bool false, undef, undef], defers := [] } w5 := by
        intro f36 f37 f38 f39 f40 f41 f42 f43 f44 w5 hi hk hkp
        apply hK2
        clear hK2 i1 i2 i3 i4 i5 i6 i7 i8 i9 k0 k1 kH hBx
        gi_wp2_with fail
        exact ⟨hk, hkp, hi⟩
      have HRT : Hid (∀ (f36 f37 f38 f39 f40 f41 f42 f43 f44 : Value) (w5 : World), RelT w t u Wg.heap.size W w5 → ¬ ((∀ x ∈ (pre ++ [(ix, x0, x1)]).map Prod.snd, pageB x.1 x.2 = true) ∧ ((pre ++ [(ix, x0, x1)]).map Prod.snd).Nodup) → K2 { tmps := #[.agg #[.int .i64 (zn : Int), .slice a N cap], .pointer (some ⟨w.heap.size, 0, none⟩), .pointer (some ⟨w.heap.size + 1, 0, none⟩), .pointer (some ⟨w.heap.size + 1 + 1, 0, none⟩), .pointer (some ⟨Hb, 0, none⟩), undef, .pointer (some ⟨Bx, 0, none⟩), e7, e8, e9, e10, e11, e12, e13, e14, e15, e16, e17, e18, e19, e20, e21, e22, e23, e24, e25, .map (some M), .pointer (some ⟨R, 0, none⟩), e28, e29, .pointer (some ⟨S, 0, none⟩), .pointer (some ⟨w.heap.size, 1, none⟩), .slice a N cap, .func (.func 27) #[] #[.pointer (some ⟨Wf.heap.size, 0, none⟩)], .int .i64 ix, .agg #[.int .i64 x0, .int .i64 x1], f36, f37, f38, f39, f40, f41, f42, f43, f44, .bool true, undef, undef], defers := [] } w5) := RT
      have HRF : Hid (∀ (f36 f37 f38 f39 f40 f41 f42 f43 f44 : Value) (w5 : World), HandI w W0.heap.size S zn Hb Wf.heap.size (.slice a N cap) t u (pre ++ [(ix, x0, x1)]) w5 → KeepsFrom Wg.heap.size W w5 → KpB Wf.heap.size w.heap.size W w5 → K2 { tmps := #[.agg #[.int .i64 (zn : Int), .slice a N cap], .pointer (some ⟨w.heap.size, 0, none⟩), .pointer (some ⟨w.heap.size + 1, 0, none⟩), .pointer (some ⟨w.heap.size + 1 + 1, 0, none⟩), .pointer (some ⟨Hb, 0, none⟩), undef, .pointer (some ⟨Bx, 0, none⟩), e7, e8, e9, e10, e11, e12, e13, e14, e15, e16, e17, e18, e19, e20, e21, e22, e23, e24, e25, .map (some M), .pointer (some ⟨R, 0, none⟩), e28, e29, .pointer (some ⟨S, 0, none⟩), .pointer (some ⟨w.heap.size, 1, none⟩), .slice a N cap, .func (.func 27) #[] #[.pointer (some ⟨Wf.heap.size, 0, none⟩)], .int .i64 ix, .agg #[.int .i64 x0, .int .i64 x1], f36, f37, f38, f39, f40, f41, f42, f43, f44, .bool false, undef, undef], defers := [] } w5) := RF
      have sBx := lt_of_block hBx
      have sHb := lt_of_block i2
      have hl0 : (pre.map Prod.snd).reverse.length ≤ zn := by have := HN.out; simp; omega
      have hl1 : (pre.map Prod.snd).reverse.length + 1 ≤ zn := by have := HN.out; simp; omega
      have HLL : Hid ((pre.map Prod.snd).reverse.length ≤ zn ∧ (pre.map Prod.snd).reverse.length + 1 ≤ zn ∧ zn ≤ 1000) := ⟨hl0, hl1, by omega⟩
      have HFX : Hid (w.heap.size ≤ W0.heap.size ∧ S < Wg.heap.size ∧ w.heap.size + 3 ≤ W0.heap.size) := ⟨by omega, by omega, by have := HB0.out.2.1; omega⟩
      clear RT RF hK2 i3 i4 i5 i6 i7 hBx hl0 hl1
      cases hp : pageB x0 x1
      · have HBAD : Hid (¬ ((∀ x ∈ (pre ++ [(ix, x0, x1)]).map Prod.snd, pageB x.1 x.2 = true) ∧ ((pre ++ [(ix, x0, x1)]).map Prod.snd).Nodup)) := fun h => by
          have := h.1 (x0, x1) (by simp)
          rw [hp] at this; cases this
        clear i1 i2 i8 i9
        gi_region_with_o (first | (refine ⟨trivial, ?_⟩; gi_at_call 24; refine (CallsIn.inRound l (callsIn_wide.2 (impl_PageOk x0 x1 _))).mono ?_; rw [hp]; rintro e w5 ⟨rfl, b5'⟩; have b5 : Below W.heap.size W w5 := ((Below.refl W.heap.size W).drew).trans b5'; clear b5') | (gi_at_call 24; refine (CallsIn.inRound l (callsIn_wide.2 (impl_PageOk x0 x1 _))).mono ?_; rw [hp]; rintro e w5 ⟨rfl, b5'⟩; have b5 : Below W.heap.size W w5 := ((Below.refl W.heap.size W).drew).trans b5'; clear b5'))
        all_goals exact HRT.out _ _ _ _ _ _ _ _ _ _ (HandI.left HIW.out b5 (Below.refl _ _) (Fr.refl _ _) HFX.out.1 HFX.out.2.1 hgl) HBAD.out
      · by_cases hx : (x0, x1) ∈ (pre.map Prod.snd).reverse
        · have HBAD : Hid (¬ ((∀ x ∈ (pre ++ [(ix, x0, x1)]).map Prod.snd, pageB x.1 x.2 = true) ∧ ((pre ++ [(ix, x0, x1)]).map Prod.snd).Nodup)) := fun h => by
            have h2 := h.2
            rw [List.map_append, List.nodup_append] at h2
            exact h2.2.2 _ (List.mem_reverse.1 hx) _ (by simp) rfl
          have HX : Hid ((x0, x1) ∈ (pre.map Prod.snd).reverse ∧ ShelfAt W W0.heap.size S zn 0 (pre.map Prod.snd).reverse) := ⟨hx, i1⟩
          clear i1 i2 i8 i9 hx
          gi_region_with_o (first
            | (refine ⟨trivial, ?_⟩; gi_at_call 24; refine (CallsIn.inRound l (callsIn_wide.2 (impl_PageOk x0 x1 _))).mono ?_; rw [hp]; rintro e w5 ⟨rfl, b5'⟩; have b5 : Below W.heap.size W w5 := ((Below.refl W.heap.size W).drew).trans b5'; clear b5'; have j0 := (Below.celz b5 _ 0 none sBx).trans k0; have j1 := (Below.celz b5 _ 1 none sBx).trans k1; have jH := (Below.celz b5 _ 0 none sHb).trans kH)
            | (gi_at_call 24; refine (CallsIn.inRound l (callsIn_wide.2 (impl_PageOk x0 x1 _))).mono ?_; rw [hp]; rintro e w5 ⟨rfl, b5'⟩; have b5 : Below W.heap.size W w5 := ((Below.refl W.heap.size W).drew).trans b5'; clear b5'; have j0 := (Below.celz b5 _ 0 none sBx).trans k0; have j1 := (Below.celz b5 _ 1 none sBx).trans k1; have jH := (Below.celz b5 _ 0 none sHb).trans kH)
            | (refine ⟨trivial, ?_⟩; gi_at_call 25; refine (CallsIn.inRound l (callsIn_wide.2 (use_hit W0.heap.size S zn 0 (pre.map Prod.snd).reverse x0 x1 _ (HX.out.2.keep b5) HX.out.1 HLL.out.2.2 HLL.out.1))).mono ?_; rintro e w6 ⟨rfl, sh6, b6, f6⟩)
            | (gi_at_call 25; refine (CallsIn.inRound l (callsIn_wide.2 (use_hit W0.heap.size S zn 0 (pre.map Prod.snd).reverse x0 x1 _ (HX.out.2.keep b5) HX.out.1 HLL.out.2.2 HLL.out.1))).mono ?_; rintro e w6 ⟨rfl, sh6, b6, f6⟩))
          all_goals exact HRT.out _ _ _ _ _ _ _ _ _ _ (HandI.left HIW.out b5 b6 f6 HFX.out.1 HFX.out.2.1 hgl) HBAD.out
        · have HX : Hid ((x0, x1) ∉ (pre.map Prod.snd).reverse ∧ ShelfAt W W0.heap.size S zn 0 (pre.map Prod.snd).reverse) := ⟨hx, i1⟩
          clear i1 i2 i8 i9 hx
          gi_region_with_o (first
            | (refine ⟨trivial, ?_⟩; gi_at_call 24; refine (CallsIn.inRound l (callsIn_wide.2 (impl_PageOk x0 x1 _))).mono ?_; rw [hp]; rintro e w5 ⟨rfl, b5'⟩; have b5 : Below W.heap.size W w5 := ((Below.refl W.heap.size W).drew).trans b5'; clear b5'; have j0 := (Below.celz b5 _ 0 none sBx).trans k0; have j1 := (Below.celz b5 _ 1 none sBx).trans k1; have jH := (Below.celz b5 _ 0 none sHb).trans kH)
            | (gi_at_call 24; refine (CallsIn.inRound l (callsIn_wide.2 (impl_PageOk x0 x1 _))).mono ?_; rw [hp]; rintro e w5 ⟨rfl, b5'⟩; have b5 : Below W.heap.size W w5 := ((Below.refl W.heap.size W).drew).trans b5'; clear b5'; have j0 := (Below.celz b5 _ 0 none sBx).trans k0; have j1 := (Below.celz b5 _ 1 none sBx).trans k1; have jH := (Below.celz b5 _ 0 none sHb).trans kH)
            | (refine ⟨trivial, ?_⟩; gi_at_call 25; refine (CallsIn.inRound l (callsIn_wide.2 (use_miss W0.heap.size S zn 0 (pre.map Prod.snd).reverse x0 x1 _ (HX.out.2.keep b5) HX.out.1 HLL.out.2.2 HLL.out.1))).mono ?_; rintro e w6 ⟨rfl, sh6, b6, f6⟩)
            | (gi_at_call 25; refine (CallsIn.inRound l (callsIn_wide.2 (use_miss W0.heap.size S zn 0 (pre.map Prod.snd).reverse x0 x1 _ (HX.out.2.keep b5) HX.out.1 HLL.out.2.2 HLL.out.1))).mono ?_; rintro e w6 ⟨rfl, sh6, b6, f6⟩))
          all_goals (
            obtain ⟨n1, n2, n3⟩ := HandI.next (B := Wg.heap.size) (ix := ix) HIW.out b5 sh6 b6 f6 HFX.out.1 HFX.out.2.1 hgl hp HX.out.1 HLL.out.2.1
            exact HRF.out _ _ _ _ _ _ _ _ _ _ n1 n2 n3)
    case done =>
      rintro D ys W hD hS hi hKD
      obtain ⟨i1, i2, i3, i4, i5, i6, i7, i8, i9⟩ := hi
      have hys : (ys.map Prod.snd).reverse = xs := by rw [hS, List.reverse_reverse]
      have HOK : Hid (poolB (zn : Int) xs = true) := poolB_true.2 ⟨by omega, hz2, by rw [← HN.out]; exact hz3, fun x hx => i8 x (by rw [hS]; exact List.mem_reverse.2 hx), by
        have := i9
        rw [hS] at this
        exact (List.reverse_perm xs).nodup_iff.1 this⟩
      rw [hys] at i1
      have kH : W.cell? ⟨Hb, 0, none⟩ = some (.pointer (some ⟨S, 0, none⟩)) := by rw [cell_block i2]; rfl
      have u1 : W.cell? ⟨w.heap.size + 1, 0, none⟩ = some (.pointer none) := by rw [cell_block i3]; rfl
      have u2 : W.cell? ⟨w.heap.size + 1 + 1, 0, none⟩ = some .nilIface := by rw [cell_block i4]; rfl
      have f1 : W.frozen? ⟨w.heap.size + 1, 0, none⟩ = false := free_block i3
      have f2 : W.frozen? ⟨w.heap.size + 1 + 1, 0, none⟩ = false := free_block i4
      have hs3 := HB0.out.2.1
      have HWW : Hid (ShelfAt W W0.heap.size S zn 0 xs ∧ Below w.heap.size w W ∧ W.heap[w.heap.size + 1]? = some (.cells #[.pointer none] 44 (0, 0)) ∧ W.heap[w.heap.size + 1 + 1]? = some (.cells #[.nilIface] 46 (0, 0)) ∧ W.heap[D]? = some (.deferred (some [])) ∧ W0.heap.size = w.heap.size + 3) := ⟨i1, i6, i3, i4, hKD, hs3⟩
      clear i1 i2 i3 i4 i5 i6 i7 i8 i9 hKD hs3 hys
      go_wp2_with fail
      obtain ⟨j1, j2, j3, j4, j5, j6⟩ := HWW.out
      have y3 : ((W.setCell ⟨w.heap.size + 1, 0, none⟩ (.pointer (some ⟨S, 0, none⟩))).setCell ⟨w.heap.size + 1 + 1, 0, none⟩ .nilIface).heap[w.heap.size + 1]? = some (.cells #[.pointer (some ⟨S, 0, none⟩)] 44 (0, 0)) := by
        rw [Below.heap_setCell _ _ _ _ (by simp), set_block _ j3]; rfl
      have y4 : ((W.setCell ⟨w.heap.size + 1, 0, none⟩ (.pointer (some ⟨S, 0, none⟩))).setCell ⟨w.heap.size + 1 + 1, 0, none⟩ .nilIface).heap[w.heap.size + 1 + 1]? = some (.cells #[.nilIface] 46 (0, 0)) := by
        rw [set_block _ (by rw [Below.heap_setCell _ _ _ _ (by simp)]; exact j4)]; rfl
      have y5 : ((W.setCell ⟨w.heap.size + 1, 0, none⟩ (.pointer (some ⟨S, 0, none⟩))).setCell ⟨w.heap.size + 1 + 1, 0, none⟩ .nilIface).heap[D]? = some (.deferred (some [])) := by
        rw [heap_sets (by simp; omega) (by simp; omega)]; exact j5
      have y1 : ShelfAt ((W.setCell ⟨w.heap.size + 1, 0, none⟩ (.pointer (some ⟨S, 0, none⟩))).setCell ⟨w.heap.size + 1 + 1, 0, none⟩ .nilIface) W0.heap.size S zn 0 xs :=
        j1.of (fun k hk _ => heap_sets (by simp; omega) (by simp; omega))
      have y2 : Below w.heap.size w ((W.setCell ⟨w.heap.size + 1, 0, none⟩ (.pointer (some ⟨S, 0, none⟩))).setCell ⟨w.heap.size + 1 + 1, 0, none⟩ .nilIface) := (j2.setCell (by simp) _).setCell (by simp; omega) _
      generalize ((W.setCell ⟨w.heap.size + 1, 0, none⟩ (.pointer (some ⟨S, 0, none⟩))).setCell ⟨w.heap.size + 1 + 1, 0, none⟩ .nilIface) = Wx at *
      have d1 : (Wx.putObj D (.deferred none)).cell? ⟨w.heap.size + 1, 0, none⟩ = some (.pointer (some ⟨S, 0, none⟩)) := by rw [cell_block ((World.putObj_heap_other (by omega)).trans y3)]; rfl
      have d2 : (Wx.putObj D (.deferred none)).cell? ⟨w.heap.size + 1 + 1, 0, none⟩ = some .nilIface := by rw [cell_block ((World.putObj_heap_other (by omega)).trans y4)]; rfl
      refine ⟨by simp, .inl ⟨_, _, rfl, run_takeDeferred y5, ?_⟩⟩
      exact ⟨_, hand_res rfl rfl d1 d2, .inl ⟨HOK.out, S, zn, rfl, rfl, (y1.own (grownBy_putObj' Wx D _) (fun r e => by cases e; exact ⟨by omega, _, y5, rfl⟩)).mono (by omega), y2.trans (belowK_b (w := Wg) (by omega) Wx D _ _ hD y5 rfl rfl)⟩⟩
    case stop =>
      rintro D c pre W hD ⟨k, hk, hpre⟩ ⟨rfl, x3, x4, x6, x8⟩ hKD
      have HNO : Hid (poolB (zn : Int) xs = false) := poolB_false.2 (fun hok => x8 ⟨fun x hx => hok.2.2.2.1 x (by
          rw [hpre] at hx
          exact List.mem_reverse.1 (List.mem_of_mem_take hx)), by
          rw [hpre]
          exact ((List.reverse_perm xs).nodup_iff.2 hok.2.2.2.2).sublist (List.take_sublist _ _)⟩)
      refine wpIn_wide.2 ?_
      go_wp2_with fail
      have d1 : (W.putObj D (.deferred none)).cell? ⟨w.heap.size + 1, 0, none⟩ = some (.pointer none) := by rw [cell_block ((World.putObj_heap_other (by omega)).trans x3)]; rfl
      have d2 : (W.putObj D (.deferred none)).cell? ⟨w.heap.size + 1 + 1, 0, none⟩ = some (.iface t u) := by rw [cell_block ((World.putObj_heap_other (by omega)).trans x4)]; rfl
      refine ⟨by simp, .inl ⟨_, _, rfl, run_takeDeferred hKD, ?_⟩⟩
      exact ⟨_, hand_res rfl rfl d1 d2, .inr ⟨HNO.out, t, u, rfl, x6.trans (belowK_b (w := Wg) (by omega) W D _ _ hD hKD rfl rfl)⟩⟩
  clear hK
  have S1 : Below W0.heap.size W0 W0 ∧ W0.cell? ⟨w.heap.size, 0, none⟩ = some (.int .i64 z) := ⟨Below.refl _ _, p0⟩
  have S0 : Below W0.heap.size W0 W0.drew ∧ W0.drew.cell? ⟨w.heap.size, 0, none⟩ = some (.int .i64 z) := ⟨(Below.refl _ _).drew, p0⟩
  have HREST : Hid (∀ (v4 e7 e8 e9 e10 e11 e12 e13 e14 e15 e16 e17 e18 e19 e20 e21 e22 e23 e24 e25 e26 e27 e28 e29 e30 : Value) (Wf : World), MadeH W0 Wf z v4 e26 e27 e30 → K { tmps := #[.agg #[.int .i64 z, .slice a N cap], .pointer (some ⟨w.heap.size, 0, none⟩), .pointer (some ⟨w.heap.size + 1, 0, none⟩), .pointer (some ⟨w.heap.size + 1 + 1, 0, none⟩), v4, undef, undef, e7, e8, e9, e10, e11, e12, e13, e14, e15, e16, e17, e18, e19, e20, e21, e22, e23, e24, e25, e26, e27, e28, e29, e30, undef, undef, undef, undef, undef, undef, undef, undef, undef, undef, undef, undef, undef, undef, undef, undef, undef], defers := [] } Wf) := REST
  clear REST
  go_region_held3 (fun w' => Below W0.heap.size W0 w' ∧ w'.cell? ⟨w.heap.size, 0, none⟩ = some (.int .i64 z))
    (first | exact S0 | assumption | exact B3 | (repeat (first | exact B3 | exact S0 | exact S1 | (refine hold_drew ?_) | (refine hold_alloc ?_ hlt) | (refine hold_set ?_ hlt (by first | (simp; done) | (simp; omega))))))
    (first | (go_at_call 22; refine (newRing _).mono ?_; rintro e w3 ⟨rfl, pl3, z3, b3⟩; have hc3 := Below.celz b3; have hf3 := Below.froz b3; have B3 := hold_call (W0 := W0) (P := w.heap.size) (v := .int .i64 z) (by assumption) hlt b3))
  all_goals (
    rename_i hHeld
    have hbel := hHeld.1
    clear hHeld
    refine HREST.out _ _ _ _ _ _ _ _ _ _ _ _ _ _ _ _ _ _ _ _ _ _ _ _ _ _ ?_
    clear hc3 hf3 B3 S0 S1 mk HREST
    have z3' := z3
    simp at z3'
    unfold PlAt ptr at pl3
    have a3 : ∀ k, k < w3.heap.size → ∀ o, (w3.alloc o).heap[k]? = w3.heap[k]? := fun k hk o => heap_alloc_old _ _ hk
    refine ⟨_, _, _, _, rfl, rfl, rfl, rfl, ?h1, ?h2, ?h3, ?h4, ?h5, ?h6, ?h7, ?h8, hbel⟩
    case h5 => omega
    case h6 => omega
    case h7 => omega
    case h8 => omega
    case h1 => unfold ptr; first | exact new_at (by simp [z3']) | (rw [heap_alloc_old _ _ (by simp [z3'])]; exact new_at (by simp [z3']))
    case h3 =>
      unfold PlAt ptr
      repeat (first | exact pl3 | (simpa using pl3; done) | (rw [heap_alloc_old _ _ (by simp [z3']; try omega)]) | (rw [Below.heap_setCell _ _ _ _ (by simp; try omega)]))
    case h2 =>
      repeat (first | exact new_at (by simp [z3']) | (rw [heap_alloc_old _ _ (by simp [z3']; try omega)]) | (rw [Below.heap_setCell _ _ _ _ (by simp; try omega)]) | (rw [b3.block _ (by simp; try omega)]) | exact (heap_alloc_old _ _ (by simp)).trans (new_at (by simp)))
    case h4 =>
      repeat (first | exact new_at (by simp [z3']) | (rw [heap_alloc_old _ _ (by simp [z3']; try omega)]) | exact set_block (cur := #[.pointer none]) _ (by rw [b3.block _ (by simp; try omega)]; first | exact new_at (by simp) | exact (heap_alloc_old _ _ (by simp)).trans (new_at (by simp)))))
theorem handOf (z : Int) (v : Value) (xs : List (Int × Int)) (w : World) (hr : RowAt 2 encPage w v xs) (hN : xs.length ≤ 1048576) (hf : FormAt w) :
    Calls Tryd.prog 17 #[.agg #[.int .i64 z, v]] w (HandPost w z xs) := by
  obtain ⟨a, cap, rfl⟩ := hr.len
  exact handOf_walk z a xs.length cap xs w hr rfl hN hf
end Go.Proofs.YtcifjildjiakgaaDoor.Lab

/-
  What is drawn of graphs: spec.l2Graph. (Written by tools/mkdgg.py.)
-/
import Derived.Test.YtlnpbfeihjfnjaaGreatDoorDop
import Derived.Test.YtlnpbfeihjfnjaaGreatDoorSgd
namespace Go.Proofs.YtlnpbfeihjfnjaaGreatDoor.Lab
open Go.RowKit Go.ChangeMaps
set_option linter.unusedVariables false
theorem mem_insW {x z : Nd} : ∀ {ys : List Nd}, z ∈ insW x ys → z = x ∨ z ∈ ys
  | [], h => by simp [insW] at h; exact .inl h
  | y :: ys, h => by
    unfold insW at h
    split at h
    · rcases List.mem_cons.1 h with rfl | h
      · exact .inr (List.mem_cons_self ..)
      · rcases mem_insW h with h | h
        · exact .inl h
        · exact .inr (List.mem_cons_of_mem _ h)
    · rcases List.mem_cons.1 h with h | h
      · exact .inl h
      · exact .inr h
theorem doN_ok {ns : List Nd} {es : List Ed} {k nl nn l al an bl bn : Int} (h : ∀ x ∈ ns, okB x.1 = true) : ∀ x ∈ doN ns es k nl nn l al an bl bn, okB x.1 = true := by
  intro x hx
  unfold doN at hx
  split at hx
  · exact h x hx
  · rename_i hop
    split at hx
    · exact h x hx
    · split at hx
      · rename_i hk
        rcases mem_insW hx with rfl | hx
        · subst hk
          unfold opI at hop
          cases ha : aloneN nl nn l al an bl bn with
          | true =>
            simp only [aloneN, Bool.and_eq_true] at ha
            exact (nodeB_true ha.1).1
          | false => rw [ha] at hop; simp at hop
        · exact h x hx
      · split at hx
        · exact h x hx
        · split at hx
          · exact h x hx
          · exact h x (List.mem_filter.1 hx).1
/-- No row of numbers lies in a box of two slices. -/
theorem row_set_box {α : Type} {s : Nat} {enc : α → List Value} (he : ∀ x, ∃ i j r, enc x = .int .i64 i :: .int .i64 j :: r) {w : World} {v : Value} {xs : List α} {P t : Nat} {y1 y2 : Option Addr} {n1 n2 m1 m2 : Nat} (h : RowAt s enc w v xs) (hb : w.heap[P]? = some (.cells #[.slice y1 n1 m1, .slice y2 n2 m2] t (0, 0))) (i : Nat) (u : Value) : RowAt s enc (w.setCell ⟨P, i, none⟩ u) v xs := by
  rcases h with h | ⟨h0, b, off, c, rfl, hlt, hc⟩
  · exact .inl h
  · refine .inr ⟨h0, b, off, c, rfl, by simpa using hlt, fun j x hx i' u' hu => ?_⟩
    have hne : b ≠ P := fun e => by
      subst e
      obtain ⟨p, q, r, hq⟩ := he x
      have c0 := hc j x hx 0 (.int .i64 p) (by rw [hq]; rfl)
      simp only [Nat.add_zero] at c0
      rw [cell_block hb] at c0
      match off + j * s, c0 with
      | 0, c0 => simp at c0
      | 1, c0 => simp at c0
      | n + 2, c0 => simp at c0
    rw [World.cell?_of_block (Below.heap_setCell _ _ _ _ (by simpa using hne))]
    exact hc j x hx i' u' hu
set_option maxRecDepth 8000 in
set_option maxHeartbeats 8000000 in
theorem l2Graph (B len cap : Nat) (a : Option Addr) (zs : List Int) (pos : Int) (w : World) (h : RdAt w B a len cap zs pos) (hp : pos ≤ 100000) :
    Calls Tryz.prog 49 #[.pointer (some ⟨B, 0, none⟩)] w fun e w' => ∃ u1 u2 ns es q, e = .returned (.agg #[u1, u2]) ∧ OwnGraph w' w.heap.size u1 u2 ns es ∧ ns.length ≤ 60 ∧ es.length ≤ 60 ∧ (∀ x ∈ ns, okB x.1 = true) ∧ q ≤ pos + 2000 ∧ RdAt w' B a len cap zs q ∧ w.grownBy w' (some B) := by
  have hB := h.lt
  go_enter Tryz.func49, Tryz.ntmps49
  go_wp2_with fail
  generalize hW : ((w.alloc (.cells #[.slice none 0 0, .slice none 0 0] 26)).alloc (.cells #[.slice none 0 0, .slice none 0 0] 26)) = w0
  have GG : Hid (w.grownBy w0 (some B)) := by show World.grownBy _ _ _; rw [← hW]; exact grownBy_trans (grownBy_trans (grownBy_refl _ _) (World.grownBy_alloc _ _ _)) (World.grownBy_alloc _ _ _)
  have RD : Hid (RdAt w0 B a len cap zs (pos)) := by show RdAt _ _ _ _ _ _ _; rw [← hW]; exact ((h).alloc _).alloc _
  have BK0 : Hid (w0.heap[w.heap.size]? = some (.cells #[.slice none 0 0, .slice none 0 0] 26 (0, 0))) := by show _ = _; rw [← hW]; rw [heap_alloc_old _ _ (by simp)]; exact newC (by simp)
  have BK1 : Hid (w0.heap[w.heap.size + 1]? = some (.cells #[.slice none 0 0, .slice none 0 0] 26 (0, 0))) := by show _ = _; rw [← hW]; exact newC (by simp)
  have Z0 : w0.heap.size = w.heap.size + 1 + 1 := by rw [← hW]; simp
  clear hW
  clear h
  refine (num_lit B _ len cap a zs _ [12, 24, 36, 48, 60, 5, 0] _ RD.out (by omega) (by decide) (by decide) Z0).mono ?_
  rintro e w1 ⟨k, hk, rfl, hr1, hg1⟩
  have nGG : Hid (w.grownBy w1 (some B)) := grownBy_trans GG.out hg1
  have nRD : Hid (RdAt w1 B a len cap zs (pos + 1)) := hr1
  have nBK0 : Hid (w1.heap[w.heap.size]? = some (.cells #[.slice none 0 0, .slice none 0 0] 26 (0, 0))) := by show _ = _; rw [hg1.block (w.heap.size) (lt_of_block BK0.out) (by simp; omega)]; exact BK0.out
  have nBK1 : Hid (w1.heap[w.heap.size + 1]? = some (.cells #[.slice none 0 0, .slice none 0 0] 26 (0, 0))) := by show _ = _; rw [hg1.block (w.heap.size + 1) (lt_of_block BK1.out) (by simp; omega)]; exact BK1.out
  clear GG RD BK0 BK1
  have GG := nGG
  have RD := nRD
  clear nGG nRD
  have BK0 := nBK0
  clear nBK0
  have BK1 := nBK1
  clear nBK1
  clear hg1 hr1
  have hk60 : 0 ≤ k ∧ k ≤ 60 := by simp at hk; omega
  clear hk Z0
  obtain ⟨c, rfl⟩ := Int.eq_ofNat_of_zero_le hk60.1
  have hc60 : c ≤ 60 := by omega
  clear hk60
  have c0_0 : w1.cell? ⟨w.heap.size, 0, none⟩ = some (.slice none 0 0) := by rw [cell_block BK0.out]; rfl
  have c0_1 : w1.cell? ⟨w.heap.size, 1, none⟩ = some (.slice none 0 0) := by rw [cell_block BK0.out]; rfl
  have l0 : w.heap.size < w1.heap.size := lt_of_block BK0.out
  have f0 : ∀ o, w1.frozen? ⟨w.heap.size, o, none⟩ = false := fun o => free_block BK0.out
  have c1_0 : w1.cell? ⟨w.heap.size + 1, 0, none⟩ = some (.slice none 0 0) := by rw [cell_block BK1.out]; rfl
  have c1_1 : w1.cell? ⟨w.heap.size + 1, 1, none⟩ = some (.slice none 0 0) := by rw [cell_block BK1.out]; rfl
  have l1 : w.heap.size + 1 < w1.heap.size := lt_of_block BK1.out
  have f1 : ∀ o, w1.frozen? ⟨w.heap.size + 1, o, none⟩ = false := fun o => free_block BK1.out
  go_wp2_with fail
  clear c0_0 c0_1 l0 f0 c1_0 c1_1 l1 f1
  go_loopw [4] (fun i wr => ∃ (j : Nat) (x1 x2 : Option Addr) (c1 c2 : Nat) (ns : List Nd) (es : List Ed) (q : Int), i = .int .i64 j ∧ j ≤ c ∧ ns.length ≤ c - j ∧ es.length ≤ c - j ∧ (∀ x ∈ ns, okB x.1 = true) ∧ q ≤ pos + 1 + 20 * ((c : Int) - j) ∧ RdAt wr B a len cap zs q ∧ w.grownBy wr (some B) ∧ wr.heap[w.heap.size]? = some (.cells #[.slice none 0 0, .slice none 0 0] 26 (0, 0)) ∧ wr.heap[w.heap.size + 1]? = some (.cells #[.slice x1 ns.length c1, .slice x2 es.length c2] 26 (0, 0)) ∧ RowAt 2 encNode wr (.slice x1 ns.length c1) ns ∧ RowAt 5 encEdge wr (.slice x2 es.length c2) es) (fun i _ => (intOf i).toNat)
  case atStart => exact ⟨c, none, none, 0, 0, [], [], pos + 1, rfl, Nat.le_refl _, by simp, by simp, by simp, by omega, RD.out, GG.out, BK0.out, BK1.out, .inl ⟨rfl, _, _, rfl⟩, .inl ⟨rfl, _, _, rfl⟩⟩
  case round =>
    obtain ⟨j, x1, x2, c1, c2, ns, es, q, rfl, hjc, hln, hle, hok, hq, hrd, hgg, hb0, hb1, hr1, hr2⟩ := hrel
    clear GG RD BK0 BK1
    have HOK : Hid (∀ x ∈ ns, okB x.1 = true) := hok
    have HROW : Hid (RowAt 2 encNode wr (.slice x1 ns.length c1) ns ∧ RowAt 5 encEdge wr (.slice x2 es.length c2) es) := ⟨hr1, hr2⟩
    have GG : Hid (w.grownBy wr (some B)) := hgg
    have RD : Hid (RdAt wr B a len cap zs q) := hrd
    have BK0 : Hid (wr.heap[w.heap.size]? = some (.cells #[.slice none 0 0, .slice none 0 0] 26 (0, 0))) := hb0
    have BK1 : Hid (wr.heap[w.heap.size + 1]? = some (.cells #[.slice x1 ns.length c1, .slice x2 es.length c2] 26 (0, 0))) := hb1
    clear hok hrd hgg hb0 hb1 hr1 hr2
    by_cases hj0 : 0 < j
    · have hj0' : (0 : Int) < (j : Int) := by omega
      have c0_0 : wr.cell? ⟨w.heap.size, 0, none⟩ = some (.slice none 0 0) := by rw [cell_block BK0.out]; rfl
      have c0_1 : wr.cell? ⟨w.heap.size, 1, none⟩ = some (.slice none 0 0) := by rw [cell_block BK0.out]; rfl
      have l0 : w.heap.size < wr.heap.size := lt_of_block BK0.out
      have f0 : ∀ o, wr.frozen? ⟨w.heap.size, o, none⟩ = false := fun o => free_block BK0.out
      have c1_0 : wr.cell? ⟨w.heap.size + 1, 0, none⟩ = some (.slice x1 ns.length c1) := by rw [cell_block BK1.out]; rfl
      have c1_1 : wr.cell? ⟨w.heap.size + 1, 1, none⟩ = some (.slice x2 es.length c2) := by rw [cell_block BK1.out]; rfl
      have l1 : w.heap.size + 1 < wr.heap.size := lt_of_block BK1.out
      have f1 : ∀ o, wr.frozen? ⟨w.heap.size + 1, o, none⟩ = false := fun o => free_block BK1.out
      go_wp2_with fail
      clear c0_0 c0_1 l0 f0 c1_0 c1_1 l1 f1
      have c1_0 : wr.cell? ⟨w.heap.size + 1, 0, none⟩ = some (.slice x1 ns.length c1) := by rw [cell_block BK1.out]; rfl
      have c1_1 : wr.cell? ⟨w.heap.size + 1, 1, none⟩ = some (.slice x2 es.length c2) := by rw [cell_block BK1.out]; rfl
      have l1 : w.heap.size + 1 < wr.heap.size := lt_of_block BK1.out
      have f1 : ∀ o, wr.frozen? ⟨w.heap.size + 1, o, none⟩ = false := fun o => free_block BK1.out
      go_region_with (first
        | (go_at_call 68; refine (l2Op B len cap c1 c2 a x1 x2 zs q ns es wr.drew RD.out (by omega) (HROW.out.1.keep ((Below.refl _ _).drew)) (HROW.out.2.keep ((Below.refl _ _).drew)) HOK.out (by omega) (by omega)).mono ?_; rintro e w2 ⟨k, nl, nn, l, al, an, bl, bn, q1, rfl, hq1, hr1, hg1'⟩; have hg1 := gr_drew hg1'; have R2 : Hid (RowAt 2 encNode w2 (.slice x1 ns.length c1) ns ∧ RowAt 5 encEdge w2 (.slice x2 es.length c2) es) := ⟨row_gr (by decide) encNode_two HROW.out.1 RD.out hg1, row_gr (by decide) encEdge_two HROW.out.2 RD.out hg1⟩; have g0 : w2.cell? ⟨w.heap.size + 1, 0, none⟩ = some (.slice x1 ns.length c1) := (by rw [World.cell?_of_block (hg1.block (w.heap.size + 1) (lt_of_block BK1.out) (by simp; omega))]; exact c1_0); have g1 : w2.cell? ⟨w.heap.size + 1, 1, none⟩ = some (.slice x2 es.length c2) := (by rw [World.cell?_of_block (hg1.block (w.heap.size + 1) (lt_of_block BK1.out) (by simp; omega))]; exact c1_1); have gl : w.heap.size + 1 < w2.heap.size := Nat.lt_of_lt_of_le (lt_of_block BK1.out) hg1.size; have gf : ∀ o, w2.frozen? ⟨w.heap.size + 1, o, none⟩ = false := (fun o => by rw [World.frozen?_of_block (hg1.block (w.heap.size + 1) (lt_of_block BK1.out) (by simp; omega))]; exact f1 o))
        | (go_at_call 72; refine (l2Do _ _ ns es k nl nn l al an bl bn w2 R2.out.1 R2.out.2 (by omega) (by omega)).mono ?_; rintro e w3 ⟨u1, u2, rfl, ou1, ou2, bel⟩; obtain ⟨y1, d1, rfl⟩ := ou1.len; obtain ⟨y2, d2, rfl⟩ := ou2.len; have m0 := (Below.celz bel _ _ _ gl).trans g0; have m1 := (Below.celz bel _ _ _ gl).trans g1; have ml : w.heap.size + 1 < w3.heap.size := Nat.lt_of_lt_of_le gl bel.size; have mf : ∀ o, w3.frozen? ⟨w.heap.size + 1, o, none⟩ = false := (fun o => (Below.froz bel _ _ _ gl).trans (gf o)); have R3 : Hid (RowAt 2 encNode w3 (.slice y1 (doN ns es k nl nn l al an bl bn).length d1) (doN ns es k nl nn l al an bl bn) ∧ RowAt 5 encEdge w3 (.slice y2 (doE ns es k nl nn l al an bl bn).length d2) (doE ns es k nl nn l al an bl bn)) := ⟨ou1, ou2⟩))
      clear c1_0 c1_1 l1 f1
      all_goals (
        have hdn := doN_len ns es k nl nn l al an bl bn
        have hde := doE_len ns es k nl nn l al an bl bn
        have HDK : Hid (∀ x ∈ doN ns es k nl nn l al an bl bn, okB x.1 = true) := doN_ok HOK.out
        clear g0 g1 gl gf m0 m1 ml mf ou1 ou2 hg1' R2
        generalize doN ns es k nl nn l al an bl bn = ns2 at *
        generalize doE ns es k nl nn l al an bl bn = es2 at *
        have nGG : Hid (w.grownBy w2 (some B)) := grownBy_trans GG.out hg1
        have nRD : Hid (RdAt w2 B a len cap zs (q1)) := hr1
        have nBK0 : Hid (w2.heap[w.heap.size]? = some (.cells #[.slice none 0 0, .slice none 0 0] 26 (0, 0))) := by show _ = _; rw [hg1.block (w.heap.size) (lt_of_block BK0.out) (by simp; omega)]; exact BK0.out
        have nBK1 : Hid (w2.heap[w.heap.size + 1]? = some (.cells #[.slice x1 ns.length c1, .slice x2 es.length c2] 26 (0, 0))) := by show _ = _; rw [hg1.block (w.heap.size + 1) (lt_of_block BK1.out) (by simp; omega)]; exact BK1.out
        clear GG RD BK0 BK1
        have GG := nGG
        have RD := nRD
        clear nGG nRD
        have BK0 := nBK0
        clear nBK0
        have BK1 := nBK1
        clear nBK1
        clear hg1 hr1
        have hgb : w2.grownBy w3 (some B) := grownBy_below (grownBy_refl _ _) bel
        have rdb := RD.out.below bel RD.out.lt
        have nGG : Hid (w.grownBy w3 (some B)) := grownBy_trans GG.out hgb
        have nRD : Hid (RdAt w3 B a len cap zs (q1)) := rdb
        have nBK0 : Hid (w3.heap[w.heap.size]? = some (.cells #[.slice none 0 0, .slice none 0 0] 26 (0, 0))) := by show _ = _; rw [hgb.block (w.heap.size) (lt_of_block BK0.out) (by simp; omega)]; exact BK0.out
        have nBK1 : Hid (w3.heap[w.heap.size + 1]? = some (.cells #[.slice x1 ns.length c1, .slice x2 es.length c2] 26 (0, 0))) := by show _ = _; rw [hgb.block (w.heap.size + 1) (lt_of_block BK1.out) (by simp; omega)]; exact BK1.out
        clear GG RD BK0 BK1
        have GG := nGG
        have RD := nRD
        clear nGG nRD
        have BK0 := nBK0
        clear nBK0
        have BK1 := nBK1
        clear nBK1
        clear hgb rdb
        clear bel
        have R4 : Hid (RowAt 2 encNode ((w3.setCell ⟨w.heap.size + 1, 0, none⟩ (.slice y1 ns2.length d1)).setCell ⟨w.heap.size + 1, 1, none⟩ (.slice y2 es2.length d2)) (.slice y1 ns2.length d1) ns2 ∧ RowAt 5 encEdge ((w3.setCell ⟨w.heap.size + 1, 0, none⟩ (.slice y1 ns2.length d1)).setCell ⟨w.heap.size + 1, 1, none⟩ (.slice y2 es2.length d2)) (.slice y2 es2.length d2) es2) := ⟨row_set_box encNode_two (row_set_box encNode_two R3.out.1 BK1.out 0 _) (set_block _ BK1.out) 1 _, row_set_box encEdge_two (row_set_box encEdge_two R3.out.2 BK1.out 0 _) (set_block _ BK1.out) 1 _⟩
        clear R3 HROW
        skip
        generalize hW4 : (w3.setCell ⟨w.heap.size + 1, 0, none⟩ (.slice y1 ns2.length d1)).setCell ⟨w.heap.size + 1, 1, none⟩ (.slice y2 es2.length d2) = w4 at R4 ⊢
        have GG4 : Hid (w.grownBy w4 (some B)) := by show World.grownBy _ _ _; rw [← hW4]; exact grownBy_setNew (grownBy_setNew GG.out (by simp) _) (by simp) _
        have RD4 : Hid (RdAt w4 B a len cap zs q1) := by show RdAt _ _ _ _ _ _ _; rw [← hW4]; exact (RD.out.set (by simp; omega) _).set (by simp; omega) _
        have BK40 : Hid (w4.heap[w.heap.size]? = some (.cells #[.slice none 0 0, .slice none 0 0] 26 (0, 0))) := by show _ = _; rw [← hW4, Below.heap_setCell _ _ _ _ (by simp), Below.heap_setCell _ _ _ _ (by simp)]; exact BK0.out
        have BK41 : Hid (w4.heap[w.heap.size + 1]? = some (.cells #[.slice y1 ns2.length d1, .slice y2 es2.length d2] 26 (0, 0))) := by show _ = _; rw [← hW4]; exact set_block _ (set_block _ BK1.out)
        clear hW4 GG RD BK0 BK1
        go_wp2_with fail
        go_roundw
        case rel => exact ⟨j - 1, y1, y2, d1, d2, ns2, es2, q1, by go_num, by omega, by omega, by omega, HDK.out, by omega, RD4.out, GG4.out, BK40.out, BK41.out, R4.out.1, R4.out.2⟩
        case measure => simp [intOf] <;> omega)
    · have hj0' : ¬ (0 : Int) < (j : Int) := by omega
      have c0_0 : wr.cell? ⟨w.heap.size, 0, none⟩ = some (.slice none 0 0) := by rw [cell_block BK0.out]; rfl
      have c0_1 : wr.cell? ⟨w.heap.size, 1, none⟩ = some (.slice none 0 0) := by rw [cell_block BK0.out]; rfl
      have l0 : w.heap.size < wr.heap.size := lt_of_block BK0.out
      have f0 : ∀ o, wr.frozen? ⟨w.heap.size, o, none⟩ = false := fun o => free_block BK0.out
      have c1_0 : wr.cell? ⟨w.heap.size + 1, 0, none⟩ = some (.slice x1 ns.length c1) := by rw [cell_block BK1.out]; rfl
      have c1_1 : wr.cell? ⟨w.heap.size + 1, 1, none⟩ = some (.slice x2 es.length c2) := by rw [cell_block BK1.out]; rfl
      have l1 : w.heap.size + 1 < wr.heap.size := lt_of_block BK1.out
      have f1 : ∀ o, wr.frozen? ⟨w.heap.size + 1, o, none⟩ = false := fun o => free_block BK1.out
      go_wp2_with fail
      clear c0_0 c0_1 l0 f0 c1_0 c1_1 l1 f1
      refine (l2Copy _ _ ns es wr HROW.out.1 HROW.out.2 (by omega) (by omega)).mono ?_
      rintro e w5 ⟨u1, u2, rfl, og, bel⟩
      obtain ⟨y1, d1, y2, d2, rfl, rfl⟩ := og.form
      have hsz := GG.out.size
      have hl0 : w.heap.size < wr.heap.size := lt_of_block BK0.out
      have HO : Hid (OwnGraph w5 wr.heap.size (.slice y1 ns.length d1) (.slice y2 es.length d2) ns es) := og
      clear og HROW
      have hgb : wr.grownBy w5 (some B) := grownBy_below (grownBy_refl _ _) bel
      have rdb := RD.out.below bel RD.out.lt
      have nGG : Hid (w.grownBy w5 (some B)) := grownBy_trans GG.out hgb
      have nRD : Hid (RdAt w5 B a len cap zs (q)) := rdb
      have nBK0 : Hid (w5.heap[w.heap.size]? = some (.cells #[.slice none 0 0, .slice none 0 0] 26 (0, 0))) := by show _ = _; rw [hgb.block (w.heap.size) (lt_of_block BK0.out) (by simp; omega)]; exact BK0.out
      have nBK1 : Hid (w5.heap[w.heap.size + 1]? = some (.cells #[.slice x1 ns.length c1, .slice x2 es.length c2] 26 (0, 0))) := by show _ = _; rw [hgb.block (w.heap.size + 1) (lt_of_block BK1.out) (by simp; omega)]; exact BK1.out
      clear GG RD BK0 BK1
      have GG := nGG
      have RD := nRD
      clear nGG nRD
      have BK0 := nBK0
      clear nBK0
      have BK1 := nBK1
      clear nBK1
      clear hgb rdb
      clear bel
      clear BK1
      have c0_0 : w5.cell? ⟨w.heap.size, 0, none⟩ = some (.slice none 0 0) := by rw [cell_block BK0.out]; rfl
      have c0_1 : w5.cell? ⟨w.heap.size, 1, none⟩ = some (.slice none 0 0) := by rw [cell_block BK0.out]; rfl
      have l0 : w.heap.size < w5.heap.size := lt_of_block BK0.out
      have f0 : ∀ o, w5.frozen? ⟨w.heap.size, o, none⟩ = false := fun o => free_block BK0.out
      go_wp2_with fail
      clear c0_0 c0_1 l0 f0
      refine bodyPost_ret (v := .agg #[.slice y1 ns.length d1, .slice y2 es.length d2]) (by simp [*, cell_block BK0.out, results, Tryz.results49, go_sem]) rfl ?_
      refine ⟨_, _, ns, es, q, rfl, ⟨?_, ?_, HO.out.2.2⟩, by omega, by omega, HOK.out, by omega, (RD.out.set (by simpa using hB) _).set (by simpa using hB) _, grownBy_setNew (grownBy_setNew GG.out (by simp) _) (by simp) _⟩
      · have hne : ∀ p : Addr, p.block = w.heap.size → (Value.slice y1 ns.length d1).ownBlock ≠ some p.block := fun p hp e => by have := (HO.out.1.lt _ e).1; omega
        exact own_mono (own_set (own_set HO.out.1 (hne _ rfl) _) (hne _ rfl) _) (by omega)
      · have hne : ∀ p : Addr, p.block = w.heap.size → (Value.slice y2 es.length d2).ownBlock ≠ some p.block := fun p hp e => by have := (HO.out.2.1.lt _ e).1; omega
        exact own_mono (own_set (own_set HO.out.2.1 (hne _ rfl) _) (hne _ rfl) _) (by omega)
end Go.Proofs.YtlnpbfeihjfnjaaGreatDoor.Lab

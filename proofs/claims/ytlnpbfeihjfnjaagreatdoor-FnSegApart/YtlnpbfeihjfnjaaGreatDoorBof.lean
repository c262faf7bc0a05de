/-
  Contract of impl.bookOf: a right graph's book, or an error.
-/
import Derived.Test.YtlnpbfeihjfnjaaGreatDoorBpl
import Derived.Carry
namespace Go.Proofs.YtlnpbfeihjfnjaaGreatDoor.Lab
open Go.RowKit Go.ChangeMaps
set_option linter.unusedVariables false
/-- A fresh book. -/
theorem bookNew {w : World} {b mn me t : Nat} (h : w.heap[b]? = some (.cells #[.map (some mn), .map (some me), .int .i64 0, .int .i64 0, .int .i64 0, .int .i64 0, .int .i64 0, .int .i64 0, .int .i64 0, .int .i64 0, .int .i64 0, .int .i64 0, .int .i64 0, .int .i64 0, .int .i64 0, .int .i64 0, .int .i64 0, .int .i64 0] t (0, 0)))
    (h1 : w.heap[mn]? = some (.map #[] 0)) (h2 : w.heap[me]? = some (.map #[] 0)) (n1 : b ≠ mn) (n2 : b ≠ me) (n3 : mn ≠ me) : BookAt w b mn me [] [] (fun _ => 0) (fun _ => 0) := by
  refine ⟨by simp [World.cell?, h], by simp [World.cell?, h], fun i hi => ?_, fun i hi => ?_, fun o => by simp [World.frozen?, h], MapAt.made h1, MapAt.made h2, n1, n2, n3⟩
  · have : i = 0 ∨ i = 1 ∨ i = 2 ∨ i = 3 ∨ i = 4 ∨ i = 5 ∨ i = 6 ∨ i = 7 := by omega
    rcases this with rfl | rfl | rfl | rfl | rfl | rfl | rfl | rfl <;> simp [World.cell?, h]
  · have : i = 0 ∨ i = 1 ∨ i = 2 ∨ i = 3 ∨ i = 4 ∨ i = 5 ∨ i = 6 ∨ i = 7 := by omega
    rcases this with rfl | rfl | rfl | rfl | rfl | rfl | rfl | rfl <;> simp [World.cell?, h]
theorem node_ahead {ns : List Nd} {k : Nat} {x : Nd} (h : NodesOk ns) (hx : ns[k]? = some x) : lastC cod ns k < cod x := by
  have h0 := cod_ok' (h.1 k x hx)
  cases k with
  | zero => simp only [lastC]; omega
  | succ j =>
    have hj := all_get hx
    obtain ⟨y, hy⟩ : ∃ y, ns[j]? = some y := ⟨_, List.getElem?_eq_getElem (by omega)⟩
    have : lastC cod ns (j + 1) = cod y := by simp [lastC, hy]
    rw [this]
    exact h.2.1 j y x hy hx
theorem edge_ahead {ns : List Nd} {es : List Ed} {k : Nat} {x : Ed} (h : EdgesOk ns es) (hx : es[k]? = some x) : lastC eco es k < eco x := by
  have h0 := eco_nat (h.1 k x hx).1
  cases k with
  | zero => simp only [lastC]; omega
  | succ j =>
    have hj := all_get hx
    obtain ⟨y, hy⟩ : ∃ y, es[j]? = some y := ⟨_, List.getElem?_eq_getElem (by omega)⟩
    have : lastC eco es (j + 1) = eco y := by simp [lastC, hy]
    rw [this]
    exact (eco_lt (h.1 j y hy).1 (h.1 _ x hx).1).1 (h.2.1 j y x hy hx)
theorem lastC_ge {α : Type} (f : α → Int) (h : ∀ x, -1 ≤ f x) (xs : List α) : ∀ k, -1 ≤ lastC f xs k
  | 0 => by simp [lastC]
  | k + 1 => by
    show -1 ≤ ((xs[k]?).map f).getD (-1)
    cases hx : xs[k]? with
    | none => simp
    | some x => simpa using h x
theorem eco_ge (x : Ed) : -1 ≤ eco x := by
  cases h : edB x
  · unfold edB at h; simp [eco, ecodeI, h]
  · have := eco_nat h; omega
/-- The first k nodes are in the book. -/
structure NB (W0 wr : World) (B b mn me : Nat) (ns : List Nd) (k : Nat) : Prop where
  bel : Below B W0 wr
  bk : BookAt wr b mn me (nEnts (ns.take k)) [] (nCnt (ns.take k)) (eCnt [])
  to : NodesTo ns k
  le : ∀ a, okB a = true → cntNode a (ns.take k) ≤ 5
/-- The first k edges are in the book. -/
structure EK (W0 wr : World) (B b mn me : Nat) (ns : List Nd) (es : List Ed) (k : Nat) : Prop where
  bel : Below B W0 wr
  bk : BookAt wr b mn me (nEnts ns) (eEnts (es.take k)) (nCnt ns) (eCnt (es.take k))
  to : EdgesTo ns es k
  le : ∀ a, okB a = true → cntEdge a (es.take k) ≤ 7
set_option maxRecDepth 8000 in
set_option maxHeartbeats 20000000 in
theorem bookOf_walk (a1 a2 : Option Addr) (n m c1 c2 : Nat) (ns : List Nd) (es : List Ed) (w : World) (H1 : Hid (RowAt 2 encNode w (.slice a1 n c1) ns)) (H2 : Hid (RowAt 5 encEdge w (.slice a2 m c2) es)) (HN0 : Hid (n = ns.length)) (HN1 : Hid (m = es.length)) (hn0 : n ≤ 1048576) (hm0 : m ≤ 1048576)
    (t0 : TypeId) (v0 : Value) (hE : Hid (w.cell? ⟨0, 0, none⟩ = some (.iface t0 v0) ∧ ErrAt w 1 ∧ ErrAt w 3 ∧ ErrAt w 2)) :
    Calls Tryz.prog 51 #[.agg #[.slice a1 n c1, .slice a2 m c2]] w fun e w' =>
      (GOk ns es ∧ Below w.heap.size w w' ∧ ∃ b mn me, e = .returned (.tuple #[.pointer (some ⟨b, 0, none⟩), .nilIface]) ∧ BookAt w' b mn me (nEnts ns) (eEnts es) (nCnt ns) (eCnt es) ∧ w.heap.size ≤ b ∧ w.heap.size ≤ mn ∧ w.heap.size ≤ me)
      ∨ (¬ GOk ns es ∧ e = .returned (.tuple #[.pointer none, .iface t0 v0]) ∧ Below w.heap.size w w') := by
  have mk : ∀ (t : TypeId) (w' : World), (Instr.makeMap t none).run Tryz.prog w' = .ok (.map (some w'.heap.size)) (w'.alloc (.map #[] 0)) := run_makeMap
  go_enter Tryz.func51, Tryz.ntmps51
  go_wp2_with fail
  clear mk
  obtain ⟨mn, hmn⟩ : ∃ mn, mn = w.heap.size + 1 := ⟨_, rfl⟩
  obtain ⟨me, hme⟩ : ∃ me, me = mn + 1 := ⟨_, rfl⟩
  obtain ⟨b, hb⟩ : ∃ b, b = me + 1 := ⟨_, rfl⟩
  simp only [← hmn, ← hme, ← hb]
  generalize hW0 : ((((w.alloc (Obj.cells #[Value.slice a1 n c1, Value.slice a2 m c2] 26)).alloc (Obj.map #[] 0)).alloc (Obj.map #[] 0)).alloc (Obj.cells #[.map (some mn), .map (some me), .int .i64 0, .int .i64 0, .int .i64 0, .int .i64 0, .int .i64 0, .int .i64 0, .int .i64 0, .int .i64 0, .int .i64 0, .int .i64 0, .int .i64 0, .int .i64 0, .int .i64 0, .int .i64 0, .int .i64 0, .int .i64 0] 135)) = W0
  have b0 : Below w.heap.size w W0 := by rw [← hW0]; go_grown
  have hs0 : W0.heap.size = w.heap.size + 4 := by rw [← hW0]; simp
  have G0 : W0.cell? ⟨w.heap.size, 0, none⟩ = some (.slice a1 n c1) := by rw [← hW0]; simp [go_sem]
  have G1 : W0.cell? ⟨w.heap.size, 1, none⟩ = some (.slice a2 m c2) := by rw [← hW0]; simp [go_sem]
  have K0 : BookAt W0 b mn me [] [] (fun _ => 0) (fun _ => 0) := by
    refine bookNew (t := 135) ?_ ?_ ?_ (by omega) (by omega) (by omega)
    · rw [← hW0]
      show ((((w.heap.push _).push _).push _).push _)[b]? = _
      rw [Array.getElem?_push, if_pos (by simp; omega)]
    · rw [← hW0]
      show ((((w.heap.push _).push _).push _).push _)[mn]? = _
      rw [Array.getElem?_push, if_neg (by simp; omega), Array.getElem?_push, if_neg (by simp; omega), Array.getElem?_push, if_pos (by simp; omega)]
    · rw [← hW0]
      show ((((w.heap.push _).push _).push _).push _)[me]? = _
      rw [Array.getElem?_push, if_neg (by simp; omega), Array.getElem?_push, if_pos (by simp; omega)]
  clear hW0
  have d1 : w.heap.size + 1 ≤ mn := by omega
  have d2 : w.heap.size + 1 ≤ me := by omega
  have d3 : w.heap.size + 1 ≤ b := by omega
  have d4 : b < w.heap.size + 4 := by omega
  clear hb hme hmn
  have KB : Hid (NB W0 W0 (w.heap.size + 1) b mn me ns 0) := ⟨Below.refl _ _, K0, ⟨fun i x hi => by omega, fun i x y hi => by omega⟩, fun a _ => by simp [cntNode]⟩
  clear K0
  go_loopw [5, 19] (fun u i wr => ∃ k : Nat, k ≤ n ∧ i = .int .i64 k ∧ u = .int .i64 (lastC cod ns k) ∧ Hid (NB W0 wr (w.heap.size + 1) b mn me ns k)) (fun _ i _ => n - (intOf i).toNat)
  case atStart => exact ⟨0, by omega, rfl, rfl, KB⟩
  case round =>
    obtain ⟨k, hk, rfl, rfl, HB⟩ := hrel
    have z0 : w.heap.size + 4 ≤ wr.heap.size := by have := HB.out.bel.size; omega
    by_cases hlt : k < n
    · rcases H1.out with ⟨hz, _⟩ | ⟨_, b1, o1, q1, hv1, hb1, E1⟩
      · rw [hz] at HN0; have := HN0.out; simp at this; omega
      obtain rfl : a1 = some ⟨b1, o1, none⟩ := by injection hv1
      obtain ⟨⟨m0, m1⟩, hx⟩ : ∃ x, ns[k]? = some x := ⟨_, List.getElem?_eq_getElem (by rw [← HN0.out]; exact hlt)⟩
      have EE : ∀ j x i u, ns[j]? = some x → (encNode x)[i]? = some u → wr.cell? ⟨b1, o1 + j * 2 + i, none⟩ = some u := fun j x i u h1 h2 => by rw [Below.celz HB.out.bel _ _ _ (by omega), Below.celz b0 _ _ _ (by omega)]; exact E1 j x h1 i u h2
      have e0 := EE k _ 0 _ hx rfl
      have e1 := EE k _ 1 _ hx rfl
      simp only [Nat.add_zero] at e0
      have HX : Hid (ns[k]? = some (m0, m1)) := hx
      have z2 : b1 < wr.heap.size := by omega
      have k0 : (0 : Int) ≤ (k : Int) := by omega
      have k1 : (k : Int) < (n : Int) := by omega
      clear hx E1 hv1 EE
      go_wp2_with fail
      refine (impl_NodeCode m0 m1 _).mono ?_
      rintro e w1 ⟨rfl, bel⟩
      have bw : Below wr.heap.size wr w1 := Below.trans ((Below.refl _ _).alloc (Nat.le_refl _) _) (bel.mono (by simp))
      have x0 : w1.cell? ⟨wr.heap.size, 0, none⟩ = some (.int .i64 m0) := by rw [Below.celz bel _ _ _ (by simp)]; simp [go_sem]
      have x1 : w1.cell? ⟨wr.heap.size, 1, none⟩ = some (.int .i64 m1) := by rw [Below.celz bel _ _ _ (by simp)]; simp [go_sem]
      have H5 : Hid (Below (w.heap.size + 1) W0 w1 ∧ BookAt w1 b mn me (nEnts (ns.take k)) [] (nCnt (ns.take k)) (eCnt [])) := ⟨HB.out.bel.trans (bw.mono (by omega)), HB.out.bk.keep bw⟩
      have z3 : wr.heap.size < w1.heap.size := by have := bel.size; simp at this; omega
      clear bel bw e0 e1
      have HL : Hid (w.cell? ⟨0, 0, none⟩ = some (.iface t0 v0)) := hE.out.1
      have eF : w1.cell? ⟨0, 0, none⟩ = some (.iface t0 v0) := by rw [Below.celz H5.out.1 _ _ _ (by have := cell_lt HL.out; omega), Below.celz b0 _ _ _ (cell_lt HL.out)]; exact HL.out
      have HW : Hid (Below w.heap.size w w1) := b0.trans (H5.out.1.mono (by omega))
      by_cases hc : codeI m0 m1 ≤ lastC cod ns k
      · have HF : Hid (¬ GOk ns es) := fun h => by have := node_ahead h.1 HX.out; simp only [cod] at this; omega
        go_wp2_with fail
        go_region
        go_wp2_with fail
        try simp only [Exit.inBlock, Exit.then]
        refine bodyPost_ret (v := .tuple #[.pointer none, .iface t0 v0]) (by simp [*, results, Tryz.results51, go_sem]) rfl ?_
        exact .inr ⟨HF.out, rfl, HW.out.drew⟩
      · have hok : nodeB m0 m1 = true := cod_ok (x := (m0, m1)) (by have := lastC_ge cod (fun x => (codeI_bd x.1 x.2).1) ns k; show -1 < codeI m0 m1; omega)
        obtain ⟨l, rfl, hl8⟩ : ∃ l : Nat, m0 = l ∧ l < 8 := by have := okB_true (nodeB_true hok).1; exact ⟨m0.toNat, by omega, by omega⟩
        have hlk : Hid (lkp (nEnts (ns.take k)) (codeI l m1) = none) := lkp_none_of_last (g := nVal) (by rw [← HN0.out]; exact hk) HB.out.to.2 (by omega)
        have HC : Hid (lastC cod ns k < codeI l m1) := by show lastC cod ns k < codeI l m1; omega
        have HO : Hid (nodeB l m1 = true) := hok
        clear hok
        go_wp2_with fail
        refine (putNode b mn me l m1 _ [] _ (eCnt []) w1 hl8 H5.out.2 (nodeVals _) (by simp [nCnt]) (hE.out.2.1.keep HW.out) (hE.out.2.2.1.keep HW.out)).mono ?_
        rintro e w2 (⟨_, h5, rfl, hbk, htwo⟩ | ⟨hno, ⟨t, v, rfl⟩, hbel2⟩)
        · have HNB : Hid (NB W0 w2 (w.heap.size + 1) b mn me ns (k + 1)) := by
            refine ⟨htwo.bel _ _ H5.out.1 d3 d1 (by omega), by rw [nEnts_step HX.out, ← nCnt_step HX.out]; exact hbk, nodesTo_step HB.out.to HX.out HO.out (fun y hk0 hy => ?_), fun a ha => ?_⟩
            · have : lastC cod ns k = cod y := by cases k with | zero => omega | succ j => simp at hy; simp [lastC, hy]
              have h6 := HC.out
              rw [this] at h6; exact h6
            · rw [cntNode_step HX.out]
              have h6 := HB.out.le a ha
              by_cases hal : (l : Int) = a
              · subst hal; simp only [nCnt] at h5; simp; omega
              · have : ((l : Int) == a) = false := beq_eq_false_iff_ne.2 hal
                simp [this]; exact h6
          have HL2 : Hid (lastC cod ns (k + 1) = codeI l m1) := by show lastC cod ns (k + 1) = codeI l m1; simp [lastC, HX.out, cod]
          clear hbk htwo h5 x0 x1
          go_wp2_with fail
          go_roundw
          case rel => exact ⟨k + 1, by omega, by go_num, by rw [HL2.out], HNB⟩
          case measure => simp [intOf]; omega
        · have HF : Hid (¬ GOk ns es) := fun h => by
            have h6 := h.1.2.2 l (nodeB_true HO.out).1
            have h7 := cntNode_take_le l ns (k + 1)
            rw [cntNode_step HX.out] at h7
            simp at h7
            exact hno ⟨hlk.out, by simp only [nCnt]; omega⟩
          have eF2 : w2.cell? ⟨0, 0, none⟩ = some (.iface t0 v0) := by rw [Below.celz hbel2 _ _ _ (cell_lt eF)]; exact eF
          have HW2 : Hid (Below w.heap.size w w2) := HW.out.trans (hbel2.mono HW.out.size)
          clear hbel2 hno
          go_wp2_with fail
          go_region
          go_wp2_with fail
          try simp only [Exit.inBlock, Exit.then]
          refine bodyPost_ret (v := .tuple #[.pointer none, .iface t0 v0]) (by simp [*, results, Tryz.results51, go_sem]) rfl ?_
          exact .inr ⟨HF.out, rfl, HW2.out.drew⟩
    · have hkn : k = n := by omega
      have g1 : wr.cell? ⟨w.heap.size, 1, none⟩ = some (.slice a2 m c2) := by rw [Below.celz HB.out.bel _ _ _ (by omega)]; exact G1
      have tk : ns.take k = ns := by rw [hkn, HN0.out]; exact List.take_length
      have HK : Hid (NodesOk ns) := ⟨fun i x hx => HB.out.to.1 i x (by have := all_get hx; have := HN0.out; omega) hx, fun i x y hx hy => HB.out.to.2 i x y (by have := all_get hy; have := HN0.out; omega) hx hy, fun a ha => by have := HB.out.le a ha; rw [tk] at this; exact this⟩
      have KE : Hid (EK W0 wr (w.heap.size + 1) b mn me ns es 0) := ⟨HB.out.bel, by have := HB.out.bk; rw [tk] at this; exact this, ⟨fun i x hi => by omega, fun i x y hi => by omega⟩, fun a _ => by simp [cntEdge]⟩
      clear tk HB G0
      subst hkn
      go_wp2_with fail
      go_loopw [5, 40] (fun u i wr => ∃ k : Nat, k ≤ m ∧ i = .int .i64 k ∧ u = .int .i64 (lastC eco es k) ∧ Hid (EK W0 wr (w.heap.size + 1) b mn me ns es k)) (fun _ i _ => m - (intOf i).toNat)
      case atStart => exact ⟨0, by omega, rfl, rfl, KE⟩
      case round =>
        clear KE g1 z0
        obtain ⟨k, hk, rfl, rfl, HB⟩ := hrel
        have z0 : w.heap.size + 4 ≤ wr.heap.size := by have := HB.out.bel.size; omega
        by_cases hlt : k < m
        · rcases H2.out with ⟨hz, _⟩ | ⟨_, b1, o1, q1, hv1, hb1, E1⟩
          · rw [hz] at HN1; have := HN1.out; simp at this; omega
          obtain rfl : a2 = some ⟨b1, o1, none⟩ := by injection hv1
          obtain ⟨⟨l0, al, an, bl, bn⟩, hx⟩ : ∃ x, es[k]? = some x := ⟨_, List.getElem?_eq_getElem (by rw [← HN1.out]; exact hlt)⟩
          have EE : ∀ j x i u, es[j]? = some x → (encEdge x)[i]? = some u → wr.cell? ⟨b1, o1 + j * 5 + i, none⟩ = some u := fun j x i u h1 h2 => by rw [Below.celz HB.out.bel _ _ _ (by omega), Below.celz b0 _ _ _ (by omega)]; exact E1 j x h1 i u h2
          have e0 := EE k _ 0 _ hx rfl
          have e1 := EE k _ 1 _ hx rfl
          have e2 := EE k _ 2 _ hx rfl
          have e3 := EE k _ 3 _ hx rfl
          have e4 := EE k _ 4 _ hx rfl
          simp only [Nat.add_zero] at e0
          have HX : Hid (es[k]? = some (l0, al, an, bl, bn)) := hx
          have z2 : b1 < wr.heap.size := by omega
          have k0 : (0 : Int) ≤ (k : Int) := by omega
          have k1 : (k : Int) < (m : Int) := by omega
          clear hx E1 hv1 EE
          go_wp2_with fail
          refine (impl_edgeCode l0 al an bl bn _).mono ?_
          rintro e w1 ⟨rfl, bel⟩
          have bw : Below wr.heap.size wr w1 := Below.trans ((Below.refl _ _).alloc (Nat.le_refl _) _) (bel.mono (by simp))
          have x0 : w1.cell? ⟨wr.heap.size, 0, none⟩ = some (.int .i64 l0) := by rw [Below.celz bel _ _ _ (by simp)]; simp [go_sem]
          have x1 : w1.cell? ⟨wr.heap.size, 1, none⟩ = some (.int .i64 al) := by rw [Below.celz bel _ _ _ (by simp)]; simp [go_sem]
          have x2 : w1.cell? ⟨wr.heap.size, 2, none⟩ = some (.int .i64 an) := by rw [Below.celz bel _ _ _ (by simp)]; simp [go_sem]
          have x3 : w1.cell? ⟨wr.heap.size, 3, none⟩ = some (.int .i64 bl) := by rw [Below.celz bel _ _ _ (by simp)]; simp [go_sem]
          have x4 : w1.cell? ⟨wr.heap.size, 4, none⟩ = some (.int .i64 bn) := by rw [Below.celz bel _ _ _ (by simp)]; simp [go_sem]
          have H5 : Hid (Below (w.heap.size + 1) W0 w1 ∧ BookAt w1 b mn me (nEnts ns) (eEnts (es.take k)) (nCnt ns) (eCnt (es.take k))) := ⟨HB.out.bel.trans (bw.mono (by omega)), HB.out.bk.keep bw⟩
          have z3 : wr.heap.size < w1.heap.size := by have := bel.size; simp at this; omega
          clear bel bw e0 e1 e2 e3 e4
          have HL : Hid (w.cell? ⟨0, 0, none⟩ = some (.iface t0 v0)) := hE.out.1
          have eF : w1.cell? ⟨0, 0, none⟩ = some (.iface t0 v0) := by rw [Below.celz H5.out.1 _ _ _ (by have := cell_lt HL.out; omega), Below.celz b0 _ _ _ (cell_lt HL.out)]; exact HL.out
          have HW : Hid (Below w.heap.size w w1) := b0.trans (H5.out.1.mono (by omega))
          by_cases hc : ecodeI l0 al an bl bn ≤ lastC eco es k
          · have HF : Hid (¬ GOk ns es) := fun h => by have := edge_ahead h.2 HX.out; simp only [eco] at this; omega
            go_wp2_with fail
            go_region
            go_wp2_with fail
            try simp only [Exit.inBlock, Exit.then]
            refine bodyPost_ret (v := .tuple #[.pointer none, .iface t0 v0]) (by simp [*, results, Tryz.results51, go_sem]) rfl ?_
            exact .inr ⟨HF.out, rfl, HW.out.drew⟩
          · have hok : edB (l0, al, an, bl, bn) = true := eco_ok (by have := lastC_ge eco eco_ge es k; show -1 < ecodeI l0 al an bl bn; omega)
            obtain ⟨l, rfl, hl8⟩ : ∃ l : Nat, l0 = l ∧ l < 8 := by have := okB_true (edB_ok hok); simp only at this; exact ⟨l0.toNat, by omega, by omega⟩
            have hlk : Hid (lkp (eEnts (es.take k)) (ecodeI l al an bl bn) = none) := lkp_none_of_last (g := eVal) (by rw [← HN1.out]; exact hk) (fun i x y hi hx hy => (eco_lt (HB.out.to.1 i x (by omega) hx).1 (HB.out.to.1 (i + 1) y (by omega) hy).1).1 (HB.out.to.2 i x y hi hx hy)) (by omega)
            have HC : Hid (lastC eco es k < ecodeI l al an bl bn) := by show lastC eco es k < ecodeI l al an bl bn; omega
            have HO : Hid (edB ((l : Int), al, an, bl, bn) = true) := hok
            clear hok
            go_wp2_with fail
            refine (putEdge b mn me l al an bl bn _ _ _ _ w1 hl8 H5.out.2 (nodeVals _) (edgeVals _) (by simp [eCnt]) (hE.out.2.1.keep HW.out) (hE.out.2.2.1.keep HW.out) (hE.out.2.2.2.keep HW.out)).mono ?_
            rintro e w2 (⟨⟨_, h7, h8, h5⟩, rfl, hbk, htwo⟩ | ⟨hno, ⟨t, v, rfl⟩, hbel2⟩)
            · have HNB : Hid (EK W0 w2 (w.heap.size + 1) b mn me ns es (k + 1)) := by
                refine ⟨htwo.bel _ _ H5.out.1 d3 d2 (by omega), by rw [eEnts_step HX.out, ← eCnt_step HX.out]; exact hbk, edgesTo_step HB.out.to HX.out ⟨HO.out, (mem_iff_lkp (x := (al, an)) (edB_parts HO.out).1).1 h7, (mem_iff_lkp (x := (bl, bn)) (edB_parts HO.out).2).1 h8⟩ (fun y hk0 hy => ?_), fun a ha => ?_⟩
                · have : lastC eco es k = eco y := by cases k with | zero => omega | succ j => simp at hy; simp [lastC, hy]
                  have h6 := HC.out
                  rw [this] at h6
                  exact (eco_lt (HB.out.to.1 (k - 1) y (by omega) hy).1 HO.out).2 h6
                · rw [cntEdge_step HX.out]
                  have h6 := HB.out.le a ha
                  by_cases hal : (l : Int) = a
                  · subst hal; simp only [eCnt] at h5; simp; omega
                  · have : ((l : Int) == a) = false := beq_eq_false_iff_ne.2 hal
                    simp [this]; exact h6
              have HL2 : Hid (lastC eco es (k + 1) = ecodeI l al an bl bn) := by show lastC eco es (k + 1) = ecodeI l al an bl bn; simp [lastC, HX.out, eco]
              clear hbk htwo h5 h7 h8 x0 x1 x2 x3 x4
              go_wp2_with fail
              go_roundw
              case rel => exact ⟨k + 1, by omega, by go_num, by rw [HL2.out], HNB⟩
              case measure => simp [intOf]; omega
            · have HF : Hid (¬ GOk ns es) := fun h => by
                have h6 := h.2.2.2 l (edB_ok HO.out)
                have h7 := cntEdge_take_le l es (k + 1)
                have h8 := h.2.1 k _ HX.out
                rw [cntEdge_step HX.out] at h7
                simp at h7
                exact hno ⟨hlk.out, (mem_iff_lkp (x := (al, an)) (edB_parts HO.out).1).2 h8.2.1, (mem_iff_lkp (x := (bl, bn)) (edB_parts HO.out).2).2 h8.2.2, by simp only [eCnt]; omega⟩
              have eF2 : w2.cell? ⟨0, 0, none⟩ = some (.iface t0 v0) := by rw [Below.celz hbel2 _ _ _ (cell_lt eF)]; exact eF
              have HW2 : Hid (Below w.heap.size w w2) := HW.out.trans (hbel2.mono HW.out.size)
              clear hbel2 hno
              go_wp2_with fail
              go_region
              go_wp2_with fail
              try simp only [Exit.inBlock, Exit.then]
              refine bodyPost_ret (v := .tuple #[.pointer none, .iface t0 v0]) (by simp [*, results, Tryz.results51, go_sem]) rfl ?_
              exact .inr ⟨HF.out, rfl, HW2.out.drew⟩
        · have hkm : k = m := by omega
          have tk : es.take k = es := by rw [hkm, HN1.out]; exact List.take_length
          have HG : Hid (GOk ns es) := ⟨HK.out, fun i x hx => HB.out.to.1 i x (by have := all_get hx; have := HN1.out; omega) hx, fun i x y hx hy => HB.out.to.2 i x y (by have := all_get hy; have := HN1.out; omega) hx hy, fun a ha => by have := HB.out.le a ha; rw [tk] at this; exact this⟩
          have HZ : Hid (BookAt wr b mn me (nEnts ns) (eEnts es) (nCnt ns) (eCnt es)) := by have := HB.out.bk; rw [tk] at this; exact this
          have HW : Hid (Below w.heap.size w wr) := b0.trans (HB.out.bel.mono (by omega))
          clear tk HB
          go_wp2_with fail
          try simp only [Exit.inBlock, Exit.then]
          refine bodyPost_ret (v := .tuple #[.pointer (some ⟨b, 0, none⟩), .nilIface]) (by simp [*, results, Tryz.results51, go_sem]) rfl ?_
          exact .inl ⟨HG.out, HW.out, b, mn, me, rfl, HZ.out, by omega, by omega, by omega⟩
end Go.Proofs.YtlnpbfeihjfnjaaGreatDoor.Lab

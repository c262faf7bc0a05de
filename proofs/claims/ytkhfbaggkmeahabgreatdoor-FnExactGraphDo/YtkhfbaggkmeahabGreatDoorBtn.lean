/-
  impl's book: a node taken out, and its edges.
-/
import Derived.Test.YtkhfbaggkmeahabGreatDoorBot
namespace Go.Proofs.YtkhfbaggkmeahabGreatDoor.Lab
open Go.RowKit Go.ChangeMaps
set_option linter.unusedVariables false
theorem eco_inj {x y : Ed} (hx : edB x = true) (h : eco x = eco y) : x = y := by
  have hy : edB y = true := by
    cases hb : edB y
    · have h1 := eco_nat hx
      have : eco y = -1 := by unfold edB at hb; simp [eco, ecodeI, hb]
      omega
    · rfl
  rw [eco_eq hx, eco_eq hy] at h
  have a3 := cod_ok' (x := (x.2.1, x.2.2.1)) (edB_parts hx).1
  have a4 := cod_ok' (x := (x.2.2.2.1, x.2.2.2.2)) (edB_parts hx).2
  have b3 := cod_ok' (x := (y.2.1, y.2.2.1)) (edB_parts hy).1
  have b4 := cod_ok' (x := (y.2.2.2.1, y.2.2.2.2)) (edB_parts hy).2
  have a1 := codeI_bd x.2.1 x.2.2.1
  have a2 := codeI_bd x.2.2.2.1 x.2.2.2.2
  have b1 := codeI_bd y.2.1 y.2.2.1
  have b2 := codeI_bd y.2.2.2.1 y.2.2.2.2
  have hA : cod (x.2.1, x.2.2.1) = cod (y.2.1, y.2.2.1) := by simp only [cod] at *; omega
  have hB : cod (x.2.2.2.1, x.2.2.2.2) = cod (y.2.2.2.1, y.2.2.2.2) := by simp only [cod] at *; omega
  have e1 := Prod.mk.inj (cod_inj (x := (x.2.1, x.2.2.1)) (edB_parts hx).1 hA)
  have e2 := Prod.mk.inj (cod_inj (x := (x.2.2.2.1, x.2.2.2.2)) (edB_parts hx).2 hB)
  have e0 : x.1 = y.1 := by simp only [cod] at *; omega
  obtain ⟨x1, x2, x3, x4, x5⟩ := x
  obtain ⟨y1, y2, y3, y4, y5⟩ := y
  simp_all
theorem butK_edges (x : Ed) (xs : List Ed) : butK (eco x) (eEnts xs) = eEnts (xs.filter (fun y => !(eco y == eco x))) := by
  unfold butK eEnts
  rw [List.filter_map]
  rfl
theorem BookAt.ofBlk {w w' : World} {b mn me : Nat} {ns es : List (Int × Value)} {cn ce : Nat → Int} (h : BookAt w b mn me ns es cn ce) (h1 : w'.heap[b]? = w.heap[b]?) (h2 : w'.heap[mn]? = w.heap[mn]?) (h3 : w'.heap[me]? = w.heap[me]?) : BookAt w' b mn me ns es cn ce :=
  ⟨(cell_of_blk h1).trans h.n0, (cell_of_blk h1).trans h.e0, fun i hi => (cell_of_blk h1).trans (h.nc i hi), fun i hi => (cell_of_blk h1).trans (h.ec i hi), fun o => (froz_of_blk h1).trans (h.fr o), h.nm.other h2, h.em.other h3, h.ne1, h.ne2, h.ne3⟩
/-- Edges gone through in whatever order, those at the node taken out. -/
structure TakeInv (n : Nd) (es : List Ed) (L : List (Int × Value)) (xs : List Ed) (cf : Nat → Int) : Prop where
  sub : ∀ x ∈ xs, x ∈ es
  got : ∀ x ∈ es, otherI x n = none → x ∈ xs
  left : ∀ x ∈ xs, otherI x n = none ∨ (eco x, eVal x) ∈ L
  nd : (xs.map eco).Nodup
  len : xs.length ≤ 56
  cnt : ∀ i, i < 8 → (L.length : Int) ≤ cf i + 100000 ∧ cf i ≤ 1000
theorem TakeInv.pass {n : Nd} {es xs : List Ed} {L1 L2 : List (Int × Value)} {x : Ed} {cf : Nat → Int} (h : TakeInv n es (L1 ++ (eco x, eVal x) :: L2) xs cf) (ho : otherI x n = none) : TakeInv n es (L1 ++ L2) xs cf := by
  refine ⟨h.sub, h.got, fun y hy => ?_, h.nd, h.len, fun i hi => by have := h.cnt i hi; simp at this ⊢; omega⟩
  rcases h.left y hy with hm | hm
  · exact .inl hm
  · rcases List.mem_append.1 hm with hm | hm
    · exact .inr (List.mem_append.2 (.inl hm))
    · rcases List.mem_cons.1 hm with e | hm
      · have : y = x := eVal_inj (by simp at e; exact e.2)
        subst this
        exact .inl ho
      · exact .inr (List.mem_append.2 (.inr hm))
theorem TakeInv.take {n : Nd} {es xs : List Ed} {L1 L2 : List (Int × Value)} {x : Ed} {cf : Nat → Int} {k : Nat} (h : TakeInv n es (L1 ++ (eco x, eVal x) :: L2) xs cf) (hes : ∀ y ∈ es, edB y = true) (ho : ¬ otherI x n = none) :
    TakeInv n es (butK (eco x) (L1 ++ L2)) (xs.filter (fun y => !(eco y == eco x))) (upd cf k (cf k - 1)) := by
  have hlen : (butK (eco x) (L1 ++ L2)).length ≤ (L1 ++ L2).length := List.length_filter_le _ _
  refine ⟨fun y hy => h.sub y (List.mem_filter.1 hy).1, fun y hy hn => List.mem_filter.2 ⟨h.got y hy hn, ?_⟩, fun y hy => ?_, List.Nodup.sublist (List.Sublist.map _ List.filter_sublist) h.nd, Nat.le_trans (List.length_filter_le _ _) h.len, fun i hi => ?_⟩
  · have : ¬ eco y = eco x := fun e => by have := eco_inj (hes y hy) e; subst this; exact ho hn
    simpa using this
  · obtain ⟨hy1, hy2⟩ := List.mem_filter.1 hy
    have hne : ¬ eco y = eco x := by simpa using hy2
    rcases h.left y hy1 with hm | hm
    · exact .inl hm
    · refine .inr (List.mem_filter.2 ⟨?_, by simpa using hne⟩)
      rcases List.mem_append.1 hm with hm | hm
      · exact List.mem_append.2 (.inl hm)
      · rcases List.mem_cons.1 hm with e | hm
        · have : y = x := eVal_inj (by simp at e; exact e.2)
          subst this
          exact absurd rfl hne
        · exact List.mem_append.2 (.inr hm)
  · have := h.cnt i hi
    simp only [List.length_append, List.length_cons] at this hlen
    unfold upd
    split
    · rename_i e; subst e; omega
    · omega
/-- What is left in the book behind a node taken out. -/
def Taken (w : World) (b mn me : Nat) (c : Int) (n : Nd) (ns : List (Int × Value)) (es : List Ed) : Prop :=
  ∃ (xs : List Ed) (cn ce : Nat → Int), (∀ x, x ∈ xs ↔ x ∈ es ∧ otherI x n = none) ∧ (xs.map eco).Nodup ∧ xs.length ≤ 56 ∧ BookAt w b mn me (butK c ns) (eEnts xs) cn ce
set_option maxRecDepth 8000 in
set_option maxHeartbeats 8000000 in
theorem takeNode (b mn me k : Nat) (nn : Int) (ns : List (Int × Value)) (es : List Ed) (cn ce : Nat → Int) (w : World) (hk : k < 8) (h : BookAt w b mn me ns (eEnts es) cn ce) (hv : NodeVals ns) (he : ∀ x ∈ es, edB x = true) (hnd : (es.map eco).Nodup) (hl : es.length ≤ 56)
    (hce : ∀ i, i < 8 → 0 ≤ ce i ∧ ce i ≤ 1000) (hc0 : 0 ≤ cn k) (hc1 : cn k ≤ 1000) (t3 : TypeId) (v3 : Value) (g3 : w.cell? ⟨2, 0, none⟩ = some (.iface t3 v3))
    (B0 : Nat) (w00 : World) (hB : Below B0 w00 w) (hb0 : B0 ≤ b) (hmn0 : B0 ≤ mn) (hme0 : B0 ≤ me) :
    Calls Tryz.prog 129 #[.pointer (some ⟨b, 0, none⟩), .agg #[.int .i64 k, .int .i64 nn]] w fun e w' =>
      ((lkp ns (codeI k nn)).isSome = true ∧ e = .returned .nilIface ∧ Taken w' b mn me (codeI k nn) (k, nn) ns es ∧ Below B0 w00 w')
      ∨ (lkp ns (codeI k nn) = none ∧ e = .returned (.iface t3 v3) ∧ Below w.heap.size w w') := by
  have hbl := cell_lt h.n0
  have hml := h.em.lt
  have hnl := h.nm.lt
  have HEB : Hid (∀ x ∈ es, edB x = true) := he
  have HND : Hid ((es.map eco).Nodup ∧ es.length ≤ 56 ∧ ∀ i, i < 8 → 0 ≤ ce i ∧ ce i ≤ 1000) := ⟨hnd, hl, hce⟩
  have bb : Below w.heap.size w (w.alloc (Obj.cells #[Value.int IntKind.i64 ↑k, Value.int IntKind.i64 nn] 28)) := (Below.refl _ _).alloc (Nat.le_refl _) _
  have l3 := cell_lt g3
  have hne1 := h.ne1
  have hne2 := h.ne2
  have hne3 := h.ne3
  have HB00 : Hid (Below B0 w00 w ∧ B0 ≤ b ∧ B0 ≤ mn ∧ B0 ≤ me) := ⟨hB, hb0, hmn0, hme0⟩
  clear hB he hnd hl hce
  go_enter Tryz.func129, Tryz.ntmps129
  go_wp2_with fail
  refine (hasNode b mn k nn ns _ (h.keep bb).n0 (by simp; omega) (h.keep bb).nm hv).mono ?_
  rintro e W1 ⟨rfl, bel⟩
  have B1 : Below w.heap.size w W1 := bb.trans (bel.mono (by simp))
  have s1 : w.heap.size < W1.heap.size := by have := bel.size; simp at this; omega
  have c0 : W1.cell? ⟨w.heap.size, 0, none⟩ = some (.int .i64 k) := by rw [Below.celz bel _ _ _ (by simp)]; simp [go_sem]
  have c1 : W1.cell? ⟨w.heap.size, 1, none⟩ = some (.int .i64 nn) := by rw [Below.celz bel _ _ _ (by simp)]; simp [go_sem]
  have H1 : Hid (BookAt W1 b mn me ns (eEnts es) cn ce) := h.keep B1
  have p1 := H1.out.e0
  have e3 : W1.cell? ⟨2, 0, none⟩ = some (.iface t3 v3) := (Below.celz B1 _ _ _ l3).trans g3
  have HB1 : Hid (Below w.heap.size w W1) := B1
  have i0 : (0 : Int) ≤ k := by omega
  have i1 : (k : Int) < 8 := by omega
  clear bel bb g3 h B1
  cases hn : lkp ns (codeI k nn) with
  | none =>
    have HN : Hid (lkp ns (codeI k nn) = none) := hn
    clear hn
    simp only [Option.isSome_none]
    go_wp2_with fail
    go_ret
    exact .inr ⟨HN.out, rfl, HB1.out⟩
  | some v =>
    have HN : Hid (lkp ns (codeI k nn) = some v) := hn
    clear hn
    simp only [Option.isSome_some]
    have C0 : Hid (W1.cell? ⟨w.heap.size, 0, none⟩ = some (.int .i64 k) ∧ W1.cell? ⟨w.heap.size, 1, none⟩ = some (.int .i64 nn)) := ⟨c0, c1⟩
    have HME : Hid (MapAt W1 me (eEnts es)) := H1.out.em
    clear c0 c1 e3
    go_wp2_with (at_range; refine wpList_rangeM _ rfl _ 96 rfl 3 30 und_me me (eEnts es) rfl HME.out ?_; intro w0 hrg0 hs0 hb0x)
    go_frame
    have HA : Hid (Below W1.heap.size W1 w0) := hb0x _ _ (Below.refl _ _) (Nat.le_refl _)
    obtain ⟨R, hR⟩ : ∃ R, R = W1.heap.size := ⟨_, rfl⟩
    rw [← hR] at hrg0 ⊢
    have HRG0 : Hid (RangeAt w0 R me (eEnts es) (eEnts es)) := hrg0
    have HBK0 : Hid (BookAt w0 b mn me ns (eEnts es) cn ce) := H1.out.keep HA.out
    have HST : Hid (TakeInv (k, nn) es (eEnts es) es ce) := ⟨fun x hx => hx, fun x hx _ => hx, fun x hx => .inr (List.mem_map.2 ⟨x, hx, rfl⟩), HND.out.1, HND.out.2.1, fun i hi => by have := HND.out.2.2 i hi; have := HND.out.2.1; simp [eEnts]; omega⟩
    have rr0 : w.heap.size < R := by omega
    have rr1 : b < R := by omega
    have rr2 : mn < R := by omega
    have rr3 : me < R := by omega
    have hz0 : R < w0.heap.size := by omega
    have HRR : Hid (R = W1.heap.size) := hR
    have HBE : Hid (Below B0 w00 w0 ∧ w0.cell? ⟨w.heap.size, 0, none⟩ = some (.int .i64 k) ∧ w0.cell? ⟨w.heap.size, 1, none⟩ = some (.int .i64 nn)) := by
      refine ⟨?_, (Below.celz HA.out _ _ _ (by omega)).trans C0.out.1, (Below.celz HA.out _ _ _ (by omega)).trans C0.out.2⟩
      have q1 : Below B0 w00 W1 := HB00.out.1.trans (HB1.out.mono (by omega))
      exact q1.trans (HA.out.mono (by omega))
    clear hrg0 hb0x p1 hs0 hR
    go_loopw [20] (fun _ wr => ∃ (L : List (Int × Value)) (xs : List Ed) (cf : Nat → Int), RangeAt wr R me (eEnts xs) L ∧ BookAt wr b mn me ns (eEnts xs) cn cf ∧ TakeInv (k, nn) es L xs cf ∧ (Below B0 w00 wr ∧ wr.cell? ⟨w.heap.size, 0, none⟩ = some (.int .i64 k) ∧ wr.cell? ⟨w.heap.size, 1, none⟩ = some (.int .i64 nn)) ∧ R < wr.heap.size) (fun _ wr => wr.rangeLeft me R)
    case atStart => exact ⟨eEnts es, es, ce, HRG0.out, HBK0.out, HST.out, HBE.out, hz0⟩
    case round =>
      clear HA HBK0 HRG0 HST HBE hz0
      obtain ⟨L, xs, cf, hrg, hbk, hinv, hcc, hsz⟩ := hrel
      have HI : Hid (TakeInv (k, nn) es L xs cf) := hinv
      have HB : Hid (BookAt wr b mn me ns (eEnts xs) cn cf) := hbk
      have HC : Hid (Below B0 w00 wr ∧ wr.cell? ⟨w.heap.size, 0, none⟩ = some (.int .i64 k) ∧ wr.cell? ⟨w.heap.size, 1, none⟩ = some (.int .i64 nn)) := hcc
      have hLL := hrg.left
      have HRG : Hid (RangeAt wr R me (eEnts xs) L) := hrg
      clear hinv hbk hrg hcc
      go_wp2_with (at_next; refine wpList_nextM _ rfl _ rfl R me (eEnts xs) L rfl HRG.out ?_ ?_)
      · intro hL
        subst hL
        have HXS : Hid ((∀ x, x ∈ xs ↔ x ∈ es ∧ otherI x (k, nn) = none) ∧ (xs.map eco).Nodup ∧ xs.length ≤ 56) := ⟨fun x => ⟨fun hx => ⟨HI.out.sub x hx, by rcases HI.out.left x hx with h | h; exact h; simp at h⟩, fun hx => HI.out.got x hx.1 hx.2⟩, HI.out.nd, HI.out.len⟩
        have p0 := HB.out.n0
        have a0 := HC.out.2.1
        have a1 := HC.out.2.2
        have z1 : w.heap.size < wr.heap.size := by omega
        have z2 : b < wr.heap.size := by omega
        have z3 : mn < wr.heap.size := by omega
        have z4 : ¬ w.heap.size = mn := by omega
        clear hLL
        go_wp2_with fail
        have hS : Hid (∀ w' : World, (∀ o s, w'.cell? ⟨b, o, s⟩ = wr.cell? ⟨b, o, s⟩) → (∀ o s, w'.cell? ⟨w.heap.size, o, s⟩ = wr.cell? ⟨w.heap.size, o, s⟩) → w'.cell? ⟨b, 0, none⟩ = some (.map (some mn)) ∧ w'.cell? ⟨w.heap.size, 0, none⟩ = some (.int .i64 k) ∧ w'.cell? ⟨w.heap.size, 1, none⟩ = some (.int .i64 nn)) :=
          fun w' x y => ⟨(x _ _).trans p0, (y _ _).trans a0, (y _ _).trans a1⟩
        go_region_held3 (fun w' => w'.cell? ⟨b, 0, none⟩ = some (.map (some mn)) ∧ w'.cell? ⟨w.heap.size, 0, none⟩ = some (.int .i64 k) ∧ w'.cell? ⟨w.heap.size, 1, none⟩ = some (.int .i64 nn))
          (first | exact ⟨p0, a0, a1⟩ | assumption | with_reducible exact hS.out _ (fun _ _ => Below.celz B3 _ _ _ (by omega)) (fun _ _ => Below.celz B3 _ _ _ (by omega)) | with_reducible exact hS.out _ (fun _ _ => (T4.cell _ _ _ (by omega) (by assumption)).trans (Below.celz B3 _ _ _ (by omega))) (fun _ _ => (T4.cell _ _ _ (by omega) (by omega)).trans (Below.celz B3 _ _ _ (by omega))))
          (first | (go_at_call_of 10 (Value.agg #[.int .i64 k, .int .i64 nn]); refine (impl_NodeCode k nn _).mono ?_; rintro e wx ⟨rfl, be1⟩; have B3 : Below wr.heap.size wr wx := keep_below (Below.refl _ _).drew be1; have s3 := B3.size; obtain ⟨w4, q1, q2, q3, q4⟩ := ((HB.out.keep B3).nm).drop (t2 := 3) und_mn und_int (codeI k nn); have T4 := One.ofGrown q3))
        all_goals (
          rename_i hHeld
          have H4 := (HB.out.keep B3).nput q2 T4
          have c4 := H4.nc k hk
          have f4 := H4.fr (2 + k)
          have b4 := hHeld.2.1
          have V := H4.nset hk (cn k - 1)
          have U : Below B0 w00 (w4.setCell ⟨b, 2 + k, none⟩ (.int .i64 (cn k - 1))).drew := ((T4.bel B0 w00 (HC.out.1.trans (B3.mono (by have := HB00.out.2.1; omega))) HB00.out.2.2.1 (by have := HB00.out.2.1; omega)).setCell HB00.out.2.1 _).drew
          have HH : Hid (Taken (w4.setCell ⟨b, 2 + k, none⟩ (.int .i64 (cn k - 1))).drew b mn me (codeI k nn) (k, nn) ns es ∧ Below B0 w00 (w4.setCell ⟨b, 2 + k, none⟩ (.int .i64 (cn k - 1))).drew) := ⟨⟨xs, _, _, HXS.out.1, HXS.out.2.1, HXS.out.2.2, V.drew⟩, U⟩
          clear H4 U V q2 q3 q4 T4 be1 B3 hHeld q1 hS p0 a0 a1
          go_wp2_with fail
          go_region
          go_wp2_with fail
          go_ret
          exact .inl ⟨by rw [HN.out]; rfl, rfl, HH.out⟩)
      · intro L1 p1 p2 L2 w1 hL hrg1 hg1 hs1 hp hen
        obtain ⟨⟨l, al, an, bl, bn⟩, hx, hpe⟩ := List.mem_map.1 hp
        obtain ⟨rfl, rfl⟩ := Prod.mk.inj hpe
        clear hpe
        have hen1 := hen w1 rfl rfl
        simp only [eVal] at hen1
        have hw1 : ∀ j, j < wr.heap.size → j ≠ R → w1.heap[j]? = wr.heap[j]? := fun j hj hne => hg1.block _ hj (fun e => hne (Option.some.inj e))
        have hxe := HEB.out _ (HI.out.sub _ hx)
        obtain ⟨kl, rfl, hkl⟩ : ∃ kl : Nat, l = (kl : Int) ∧ kl < 8 := by
          have := okB_true (edB_ok hxe)
          exact ⟨l.toNat, by simp only at this; omega, by simp only at this; omega⟩
        have a0 : w1.cell? ⟨w.heap.size, 0, none⟩ = some (.int .i64 k) := by rw [cell_of_blk (hw1 _ (by omega) (by omega))]; exact HC.out.2.1
        have a1 : w1.cell? ⟨w.heap.size, 1, none⟩ = some (.int .i64 nn) := by rw [cell_of_blk (hw1 _ (by omega) (by omega))]; exact HC.out.2.2
        have HK1 : Hid (BookAt w1 b mn me ns (eEnts xs) cn cf) := HB.out.ofBlk (hw1 _ (by omega) (by omega)) (hw1 _ (by omega) (by omega)) (hw1 _ (by omega) (by omega))
        have HRG1 : Hid (RangeAt w1 R me (eEnts xs) (L1 ++ L2)) := hrg1
        have HD1 : Hid (Below B0 w00 w1) := HC.out.1.grown hg1 (by have := HB00.out.2.1; omega) (fun g hg => by cases hg; have := HB00.out.2.1; omega)
        have HX : Hid ((↑kl, al, an, bl, bn) ∈ xs) := hx
        have HLL : Hid (L = L1 ++ (eco (↑kl, al, an, bl, bn), eVal (↑kl, al, an, bl, bn)) :: L2) := hL
        have zz : R < w1.heap.size := by omega
        have zz1 : w.heap.size < w1.heap.size := by omega
        have zz2 : b < w1.heap.size := by omega
        have j0 : (0 : Int) ≤ (kl : Int) := by omega
        have j1 : (kl : Int) < 8 := by omega
        clear hen hw1 hrg1 hg1 hp hx hL hs1 hxe
        go_wp2_with fail
        refine (otherEnd kl al an bl bn k nn _).mono ?_
        rintro e w2 ⟨rfl, b2⟩
        have b12 : Below w1.heap.size w1 w2 := ((Below.refl _ _).alloc (Nat.le_refl _) _).trans (b2.mono (by simp))
        have s2 : w1.heap.size < w2.heap.size := by have := b2.size; simp at this; omega
        have x0 : w2.cell? ⟨w1.heap.size, 0, none⟩ = some (.int .i64 kl) := by rw [Below.celz b2 _ _ _ (by simp)]; simp [go_sem]
        have HK2 : Hid (BookAt w2 b mn me ns (eEnts xs) cn cf) := HK1.out.keep b12
        have HRG2 : Hid (RangeAt w2 R me (eEnts xs) (L1 ++ L2)) := HRG1.out.of (b12.block _ (by omega)) (b12.block _ (by omega))
        have HD2 : Hid (Below B0 w00 w2) := HD1.out.trans (b12.mono (by have := HB00.out.2.1; omega))
        have HA2 : Hid (w2.cell? ⟨w.heap.size, 0, none⟩ = some (.int .i64 k) ∧ w2.cell? ⟨w.heap.size, 1, none⟩ = some (.int .i64 nn)) := ⟨(Below.celz b12 _ _ _ (by omega)).trans a0, (Below.celz b12 _ _ _ (by omega)).trans a1⟩
        clear b2 b12 HK1 HRG1 hen1 a0 a1 HD1
        cases ho : otherI (↑kl, al, an, bl, bn) (k, nn) with
        | none =>
          have HI2 : Hid (TakeInv (k, nn) es (L1 ++ L2) xs cf) := by have h0 := HI.out; rw [HLL.out] at h0; exact h0.pass ho
          simp only [othV, Option.getD_none, Option.isSome_none]
          go_wp2_with fail
          go_roundw
          case rel =>
            have bb : ∀ o, Below w2.heap.size w2 (w2.alloc o) := fun o => (Below.refl _ _).alloc (Nat.le_refl _) _
            exact ⟨L1 ++ L2, xs, cf, HRG2.out.of ((bb _).block _ (by omega)) ((bb _).block _ (by omega)), HK2.out.keep (bb _), HI2.out, ⟨HD2.out.trans ((bb _).mono (by have := HB00.out.2.1; omega)), (Below.celz (bb _) _ _ _ (by omega)).trans HA2.out.1, (Below.celz (bb _) _ _ _ (by omega)).trans HA2.out.2⟩, by simp; omega⟩
          case measure =>
            have bb : ∀ o, Below w2.heap.size w2 (w2.alloc o) := fun o => (Below.refl _ _).alloc (Nat.le_refl _) _
            rw [(HRG2.out.of ((bb _).block _ (by omega)) ((bb _).block _ (by omega))).left, hLL, HLL.out]
            simp
        | some o =>
          obtain ⟨o0, o1⟩ := o
          have HI2 : Hid (TakeInv (k, nn) es (butK (eco (↑kl, al, an, bl, bn)) (L1 ++ L2)) (xs.filter (fun y => !(eco y == eco (↑kl, al, an, bl, bn)))) (upd cf kl (cf kl - 1))) := by have h0 := HI.out; rw [HLL.out] at h0; exact h0.take HEB.out (by rw [ho]; simp)
          have cb0 : -100000 ≤ cf kl := by have := (HI.out.cnt kl hkl).1; omega
          have cb1 : cf kl ≤ 1000 := (HI.out.cnt kl hkl).2
          simp only [othV, Option.getD_some, Option.isSome_some]
          clear ho
          have bb : Below w2.heap.size w2 (w2.alloc (Obj.cells #[Value.int IntKind.i64 o0, Value.int IntKind.i64 o1] 28)) := (Below.refl _ _).alloc (Nat.le_refl _) _
          obtain ⟨w3, hw3⟩ : ∃ w3, w3 = w2.alloc (Obj.cells #[Value.int IntKind.i64 o0, Value.int IntKind.i64 o1] 28) := ⟨_, rfl⟩
          rw [← hw3] at bb
          have HK3 : Hid (BookAt w3 b mn me ns (eEnts xs) cn cf) := HK2.out.keep bb
          have HRG3 : Hid (RangeAt w3 R me (eEnts xs) (L1 ++ L2)) := HRG2.out.of (bb.block _ (by omega)) (bb.block _ (by omega))
          have HD3 : Hid (Below B0 w00 w3) := HD2.out.trans (bb.mono (by have := HB00.out.2.1; omega))
          have HA3 : Hid (w3.cell? ⟨w.heap.size, 0, none⟩ = some (.int .i64 k) ∧ w3.cell? ⟨w.heap.size, 1, none⟩ = some (.int .i64 nn)) := ⟨(Below.celz bb _ _ _ (by omega)).trans HA2.out.1, (Below.celz bb _ _ _ (by omega)).trans HA2.out.2⟩
          have x3 : w3.cell? ⟨w1.heap.size, 0, none⟩ = some (.int .i64 kl) := (Below.celz bb _ _ _ (by omega)).trans x0
          have p3 := HK3.out.e0
          have s3 : w2.heap.size ≤ w3.heap.size := bb.size
          obtain ⟨w4, q1, q2, q3, q4⟩ := HRG3.out.drop (t2 := 3) und_me und_int (eco (↑kl, al, an, bl, bn))
          have hw4 : ∀ j, j < w3.heap.size → j ≠ me → w4.heap[j]? = w3.heap[j]? := fun j hj hne => q3.block _ hj (fun e => hne (Option.some.inj e))
          rw [butK_edges] at q2
          have HK4 : Hid (BookAt w4 b mn me ns (eEnts (xs.filter (fun y => !(eco y == eco (↑kl, al, an, bl, bn))))) cn cf) := HK3.out.eput q2.map (One.ofGrown q3)
          have HRG4 : Hid (RangeAt w4 R me (eEnts (xs.filter (fun y => !(eco y == eco (↑kl, al, an, bl, bn))))) (butK (eco (↑kl, al, an, bl, bn)) (L1 ++ L2))) := q2
          have HD4 : Hid (Below B0 w00 w4) := HD3.out.grown q3 (by have := HB00.out.2.1; omega) (fun g hg => by cases hg; exact HB00.out.2.2.2)
          have HA4 : Hid (w4.cell? ⟨w.heap.size, 0, none⟩ = some (.int .i64 k) ∧ w4.cell? ⟨w.heap.size, 1, none⟩ = some (.int .i64 nn)) := ⟨(cell_of_blk (hw4 _ (by omega) (by omega))).trans HA3.out.1, (cell_of_blk (hw4 _ (by omega) (by omega))).trans HA3.out.2⟩
          have x4 : w4.cell? ⟨w1.heap.size, 0, none⟩ = some (.int .i64 kl) := (cell_of_blk (hw4 _ (by omega) (by omega))).trans x3
          have c4 := HK4.out.ec kl hkl
          have f4 := HK4.out.fr (10 + kl)
          have HFIN : Hid (RangeAt ((w4.setCell ⟨b, 10 + kl, none⟩ (.int .i64 (cf kl - 1))).drew) R me (eEnts (xs.filter (fun y => !(eco y == eco (↑kl, al, an, bl, bn))))) (butK (eco (↑kl, al, an, bl, bn)) (L1 ++ L2)) ∧ BookAt ((w4.setCell ⟨b, 10 + kl, none⟩ (.int .i64 (cf kl - 1))).drew) b mn me ns (eEnts (xs.filter (fun y => !(eco y == eco (↑kl, al, an, bl, bn))))) cn (upd cf kl (cf kl - 1)) ∧ (Below B0 w00 ((w4.setCell ⟨b, 10 + kl, none⟩ (.int .i64 (cf kl - 1))).drew) ∧ ((w4.setCell ⟨b, 10 + kl, none⟩ (.int .i64 (cf kl - 1))).drew).cell? ⟨w.heap.size, 0, none⟩ = some (.int .i64 k) ∧ ((w4.setCell ⟨b, 10 + kl, none⟩ (.int .i64 (cf kl - 1))).drew).cell? ⟨w.heap.size, 1, none⟩ = some (.int .i64 nn)) ∧ R < ((w4.setCell ⟨b, 10 + kl, none⟩ (.int .i64 (cf kl - 1))).drew).heap.size) := by
            have hh : ∀ j, j ≠ b → ((w4.setCell ⟨b, 10 + kl, none⟩ (.int .i64 (cf kl - 1))).drew).heap[j]? = w4.heap[j]? := fun j hj => heap_setCell_ne _ _ _ _ hj
            exact ⟨HRG4.out.of (hh _ (by omega)) (hh _ (by omega)), (HK4.out.eset hkl _).drew, ⟨(HD4.out.setCell HB00.out.2.1 _).drew, (cell_of_blk (hh _ (by omega))).trans HA4.out.1, (cell_of_blk (hh _ (by omega))).trans HA4.out.2⟩, by show R < (w4.setCell ⟨b, 10 + kl, none⟩ (.int .i64 (cf kl - 1))).heap.size; simp; omega⟩
          have q1' : ∀ ty : TypeId, (Builtin.delete_ #[96, 3] ty #[.map (some me), .int .i64 (eco (↑kl, al, an, bl, bn))]).run Tryz.prog (w2.alloc (Obj.cells #[Value.int IntKind.i64 o0, Value.int IntKind.i64 o1] 28)) = .ok (.tuple #[]) w4 := by rw [← hw3]; exact q1
          rw [hw3] at p3
          clear bb HK3 HRG3 HD3 HA3 x3 q1 q2 q3 q4 hw4 HK4 HRG4 HD4 HA4 x0 HK2 HRG2 HD2 HA2 hw3
          go_wp2_with fail
          go_region
          go_wp2_with fail
          go_roundw
          case rel => exact ⟨_, _, _, HFIN.out.1, HFIN.out.2.1, HI2.out, HFIN.out.2.2⟩
          case measure =>
            rw [HFIN.out.1.left, hLL, HLL.out]
            have : (butK (eco (↑kl, al, an, bl, bn)) (L1 ++ L2)).length ≤ (L1 ++ L2).length := List.length_filter_le _ _
            simp at this ⊢
            omega
end Go.Proofs.YtkhfbaggkmeahabGreatDoor.Lab

/-
  Contracts of impl's functions on who is near whom. (Written by tools/mknea.py.)
-/
import Derived.Test.YtkhfbaggkmeahaaGreatDoorIno
import Derived.Test.YtkhfbaggkmeahaaGreatDoorMrk
import Derived.Deep.RegionHeld3
import Derived.Deep.DrawnRows
namespace Go.Proofs.YtkhfbaggkmeahaaGreatDoor.Lab
open Go.RowKit Go.ChangeMaps
set_option linter.unusedVariables false
/-- What otherEnd answers. -/
theorem new_at' {w : World} {o : Obj} {S : Nat} (h : S = w.heap.size) : (w.alloc o).heap[S]? = some o := by subst h; exact new_block w o
def othV (o : Option Nd) : Value := .tuple #[.agg #[.int .i64 (o.getD (0, 0)).1, .int .i64 (o.getD (0, 0)).2], .bool o.isSome]
set_option maxRecDepth 8000 in
set_option maxHeartbeats 4000000 in
theorem otherEnd (l al an bl bn nl nn : Int) (w : World) :
    Calls Tryz.prog 63 #[.agg #[.int .i64 l, .int .i64 al, .int .i64 an, .int .i64 bl, .int .i64 bn], .agg #[.int .i64 nl, .int .i64 nn]] w fun e w' => e = .returned (othV (otherI (l, al, an, bl, bn) (nl, nn))) ∧ Below w.heap.size w w' := by
  have b0 : Hid (∀ o1 o2 o3, Below w.heap.size w (((w.alloc o1).alloc o2).alloc o3)) := fun o1 o2 o3 => by go_grown
  by_cases hA : nl = al ∧ nn = an
  · obtain ⟨rfl, rfl⟩ := hA
    have HO : Hid (otherI (l, nl, nn, bl, bn) (nl, nn) = some (bl, bn)) := by show otherI (l, nl, nn, bl, bn) (nl, nn) = some (bl, bn); simp [otherI]
    go_enter Tryz.func63, Tryz.ntmps63
    go_wp2_with fail
    refine bodyPost_ret (v := .tuple #[.agg #[.int .i64 bl, .int .i64 bn], .bool true]) (by simp [*, results, Tryz.results63, go_sem]) rfl ⟨by rw [HO.out]; rfl, ?_⟩
    go_grown
  · have HA : Hid (¬ (nl = al ∧ nn = an)) := hA
    by_cases hB : nl = bl ∧ nn = bn
    · obtain ⟨rfl, rfl⟩ := hB
      have HO : Hid (otherI (l, al, an, nl, nn) (nl, nn) = some (al, an)) := by show otherI (l, al, an, nl, nn) (nl, nn) = some (al, an); simp [otherI, Prod.mk.injEq, hA]
      by_cases h1 : nl = al
      · subst h1
        have d1 : (nn == an) = false := beq_eq_false_iff_ne.2 (fun e => hA ⟨rfl, e⟩)
        clear hA
        go_enter Tryz.func63, Tryz.ntmps63
        go_wp2_with fail
        refine bodyPost_ret (v := .tuple #[.agg #[.int .i64 nl, .int .i64 an], .bool true]) (by simp [*, results, Tryz.results63, go_sem]) rfl ⟨by rw [HO.out]; rfl, ?_⟩
        go_grown
      · have d1 : (nl == al) = false := beq_eq_false_iff_ne.2 h1
        clear hA h1
        go_enter Tryz.func63, Tryz.ntmps63
        go_wp2_with fail
        refine bodyPost_ret (v := .tuple #[.agg #[.int .i64 al, .int .i64 an], .bool true]) (by simp [*, results, Tryz.results63, go_sem]) rfl ⟨by rw [HO.out]; rfl, ?_⟩
        go_grown
    · have HO : Hid (otherI (l, al, an, bl, bn) (nl, nn) = none) := by show otherI (l, al, an, bl, bn) (nl, nn) = none; simp [otherI, Prod.mk.injEq, hA, hB]
      by_cases h1 : nl = al
      · subst h1
        have d1 : (nn == an) = false := beq_eq_false_iff_ne.2 (fun e => hA ⟨rfl, e⟩)
        clear hA
        by_cases h2 : nl = bl
        · subst h2
          have d2 : (nn == bn) = false := beq_eq_false_iff_ne.2 (fun e => hB ⟨rfl, e⟩)
          clear hB
          go_enter Tryz.func63, Tryz.ntmps63
          go_wp2_with fail
          refine bodyPost_ret (v := .tuple #[.agg #[.int .i64 0, .int .i64 0], .bool false]) (by simp [*, results, Tryz.results63, go_sem]) rfl ⟨by rw [HO.out]; rfl, ?_⟩
          go_grown
        · have d2 : (nl == bl) = false := beq_eq_false_iff_ne.2 h2
          clear hB h2
          go_enter Tryz.func63, Tryz.ntmps63
          go_wp2_with fail
          refine bodyPost_ret (v := .tuple #[.agg #[.int .i64 0, .int .i64 0], .bool false]) (by simp [*, results, Tryz.results63, go_sem]) rfl ⟨by rw [HO.out]; rfl, ?_⟩
          go_grown
      · have d1 : (nl == al) = false := beq_eq_false_iff_ne.2 h1
        clear hA h1
        by_cases h2 : nl = bl
        · subst h2
          have d2 : (nn == bn) = false := beq_eq_false_iff_ne.2 (fun e => hB ⟨rfl, e⟩)
          clear hB
          go_enter Tryz.func63, Tryz.ntmps63
          go_wp2_with fail
          refine bodyPost_ret (v := .tuple #[.agg #[.int .i64 0, .int .i64 0], .bool false]) (by simp [*, results, Tryz.results63, go_sem]) rfl ⟨by rw [HO.out]; rfl, ?_⟩
          go_grown
        · have d2 : (nl == bl) = false := beq_eq_false_iff_ne.2 h2
          clear hB h2
          go_enter Tryz.func63, Tryz.ntmps63
          go_wp2_with fail
          refine bodyPost_ret (v := .tuple #[.agg #[.int .i64 0, .int .i64 0], .bool false]) (by simp [*, results, Tryz.results63, go_sem]) rfl ⟨by rw [HO.out]; rfl, ?_⟩
          go_grown
theorem RangeAt.left {w : World} {r b : Nat} {es L : List (Int × Value)} (h : RangeAt w r b es L) : w.rangeLeft b r = L.length := by
  obtain ⟨ents, clock, since, seen, c0, h1, h2, h3, h4, h5, h6, h7, h8⟩ := h
  have := congrArg List.length h8
  simp only [World.rangeLeft, h1, h4]
  simpa using this
theorem eVal_inj {x y : Ed} (h : eVal x = eVal y) : x = y := by
  obtain ⟨a, b, c, d, e⟩ := x
  obtain ⟨a', b', c', d', e'⟩ := y
  simp [eVal] at h
  simp [h]
/-- What the map of near ones holds while edges are gone through in whatever order. -/
structure NearInv (n : Nd) (es : List Ed) (L : List (Int × Value)) (os : List Nd) : Prop where
  fro : ∀ o ∈ os, ∃ x ∈ es, otherI x n = some o
  got : ∀ x ∈ es, ∀ o, otherI x n = some o → (eco x, eVal x) ∈ L ∨ o ∈ os
  nd : (os.map cod).Nodup
  len : os.length + L.length ≤ es.length
theorem NearInv.start (n : Nd) (es : List Ed) : NearInv n es (eEnts es) [] :=
  ⟨fun o ho => by simp at ho, fun x hx o _ => .inl (List.mem_map.2 ⟨x, hx, rfl⟩), by simp, by simp [eEnts]⟩
theorem NearInv.pass {n : Nd} {es : List Ed} {L1 L2 : List (Int × Value)} {os : List Nd} {x : Ed} (h : NearInv n es (L1 ++ (eco x, eVal x) :: L2) os) (ho : ∀ o, otherI x n = some o → o ∈ os) : NearInv n es (L1 ++ L2) os := by
  refine ⟨h.fro, fun y hy o hyo => ?_, h.nd, by have := h.len; simp at this ⊢; omega⟩
  rcases h.got y hy o hyo with hm | hm
  · rcases List.mem_append.1 hm with hm | hm
    · exact .inl (List.mem_append.2 (.inl hm))
    · rcases List.mem_cons.1 hm with e | hm
      · have : y = x := eVal_inj (by simp at e; exact e.2)
        subst this
        exact .inr (ho o hyo)
      · exact .inl (List.mem_append.2 (.inr hm))
  · exact .inr hm
theorem NearInv.take {n : Nd} {es : List Ed} {L1 L2 : List (Int × Value)} {os : List Nd} {x : Ed} {o : Nd} (h : NearInv n es (L1 ++ (eco x, eVal x) :: L2) os) (hx : x ∈ es) (ho : otherI x n = some o) (hn : ∀ y ∈ os, cod y ≠ cod o) : NearInv n es (L1 ++ L2) (os ++ [o]) := by
  have h1 : NearInv n es (L1 ++ L2) (os ++ [o]) := by
    refine ⟨fun q hq => ?_, fun y hy q hyq => ?_, ?_, by have := h.len; simp at this ⊢; omega⟩
    · rcases List.mem_append.1 hq with hq | hq
      · exact h.fro q hq
      · simp at hq; subst hq; exact ⟨x, hx, ho⟩
    · rcases h.got y hy q hyq with hm | hm
      · rcases List.mem_append.1 hm with hm | hm
        · exact .inl (List.mem_append.2 (.inl hm))
        · rcases List.mem_cons.1 hm with e | hm
          · have : y = x := eVal_inj (by simp at e; exact e.2)
            subst this
            rw [ho] at hyq
            cases hyq
            exact .inr (by simp)
          · exact .inl (List.mem_append.2 (.inr hm))
      · exact .inr (List.mem_append.2 (.inl hm))
    · rw [List.map_append, List.nodup_append]
      refine ⟨h.nd, by simp, fun a ha b hb => ?_⟩
      simp at hb
      subst hb
      obtain ⟨y, hy, rfl⟩ := List.mem_map.1 ha
      exact hn y hy
  exact h1
theorem lkp_some_node {os : List Nd} {o : Nd} {v : Value} (hok : ∀ y ∈ os, nodeB y.1 y.2 = true) (h : lkp (nEnts os) (cod o) = some v) : o ∈ os ∧ v = nVal o := by
  rcases lkp_map cod nVal (cod o) os with ⟨h1, _⟩ | ⟨y, h1, h2, h3⟩
  · rw [nEnts, h1] at h; cases h
  · have : y = o := cod_inj (hok y h1) h2
    subst this
    rw [nEnts, h3] at h
    cases h
    exact ⟨h1, rfl⟩
set_option maxRecDepth 8000 in
set_option maxHeartbeats 8000000 in
theorem near (b mn me : Nat) (nl nn : Int) (ns : List Nd) (es : List Ed) (cn ce : Nat → Int) (w : World) (h : BookAt w b mn me (nEnts ns) (eEnts es) cn ce) (he : ∀ x ∈ es, edB x = true) (hl : es.length ≤ 56) :
    Calls Tryz.prog 41 #[.pointer (some ⟨b, 0, none⟩), .agg #[.int .i64 nl, .int .i64 nn]] w fun e w' => ∃ v, e = .returned v ∧ w'.ownsRow w.heap.size 28 2 v (nearF (nl, nn) es).length ((nearF (nl, nn) es).flatMap encNode) ∧ Below w.heap.size w w' := by
  have mk : ∀ (t : TypeId) (w' : World), (Instr.makeMap t none).run Tryz.prog w' = .ok (.map (some w'.heap.size)) (w'.alloc (.map #[] 0)) := run_makeMap
  have hbl := cell_lt h.n0
  have hml := h.em.lt
  have HEB : Hid (∀ x ∈ es, edB x = true) := he
  obtain ⟨W1, hW1⟩ : ∃ W1, W1 = (w.alloc (.cells #[.int .i64 nl, .int .i64 nn] 28)).alloc (.map #[] 0) := ⟨_, rfl⟩
  have b1 : Below w.heap.size w W1 := by rw [hW1]; go_grown
  have z1 : W1.heap.size = w.heap.size + 2 := by rw [hW1]; simp
  have c0 : W1.cell? ⟨w.heap.size, 0, none⟩ = some (.int .i64 nl) := by rw [hW1]; simp [go_sem]
  have c1 : W1.cell? ⟨w.heap.size, 1, none⟩ = some (.int .i64 nn) := by rw [hW1]; simp [go_sem]
  have hnb : W1.heap[w.heap.size + 1]? = some (.map #[] 0) := by rw [hW1]; exact new_at' (by simp)
  have p1 : W1.cell? ⟨b, 1, none⟩ = some (.map (some me)) := (Below.celz b1 _ _ _ hbl).trans h.e0
  have HME : Hid (MapAt W1 me (eEnts es)) := h.em.keep b1
  have HW1 : Hid (W1 = (w.alloc (.cells #[.int .i64 nl, .int .i64 nn] 28)).alloc (.map #[] 0)) := hW1
  have HB1 : Hid (Below w.heap.size w W1) := b1
  have C0 : Hid (W1.cell? ⟨w.heap.size, 0, none⟩ = some (.int .i64 nl) ∧ W1.cell? ⟨w.heap.size, 1, none⟩ = some (.int .i64 nn)) := ⟨c0, c1⟩
  have e0 := h.e0
  clear h he b1 c0 c1 hW1
  go_enter Tryz.func41, Tryz.ntmps41
  go_wp2_with (at_range; rw [← HW1.out]; refine wpList_rangeM _ rfl _ 86 rfl 3 30 und_me me (eEnts es) rfl HME.out ?_; intro w0 hrg0 hs0 hb0)
  go_frame
  have HA : Hid (Below W1.heap.size W1 w0) := hb0 _ _ (Below.refl _ _) (Nat.le_refl _)
  have hr : W1.heap.size = w.heap.size + 2 := z1
  rw [hr] at hrg0 ⊢
  have HNB : Hid (MapAt w0 (w.heap.size + 1) (nEnts [])) := (MapAt.made hnb).keep HA.out
  have HRG0 : Hid (RangeAt w0 (w.heap.size + 2) me (eEnts es) (eEnts es)) := hrg0
  have HST : Hid (NearInv (nl, nn) es (eEnts es) []) := NearInv.start _ _
  clear hrg0 hb0 hnb p1 e0 mk hs0
  go_loopw [17] (fun _ wr => ∃ (L : List (Int × Value)) (os : List Nd), RangeAt wr (w.heap.size + 2) me (eEnts es) L ∧ MapAt wr (w.heap.size + 1) (nEnts os) ∧ NearInv (nl, nn) es L os ∧ Below (w.heap.size + 1) W1 wr) (fun _ wr => wr.rangeLeft me (w.heap.size + 2))
  case atStart => exact ⟨eEnts es, [], HRG0.out, HNB.out, HST.out, HA.out.mono (by omega)⟩
  case round =>
    clear HA HNB HRG0 HST
    obtain ⟨L, os, hrg, hnm, hinv, hbel⟩ := hrel
    have HI : Hid (NearInv (nl, nn) es L os) := hinv
    have HB : Hid (Below (w.heap.size + 1) W1 wr) := hbel
    have hsz := hbel.size
    have HOKS : Hid (∀ o ∈ os, nodeB o.1 o.2 = true) := fun o ho => by obtain ⟨x, hx, e⟩ := hinv.fro o ho; exact otherI_ok (HEB.out x hx) e
    have hLL := hrg.left
    have hrl := hrg.lt
    have HRG : Hid (RangeAt wr (w.heap.size + 2) me (eEnts es) L) := hrg
    have HNM : Hid (MapAt wr (w.heap.size + 1) (nEnts os)) := hnm
    clear hinv hbel hrg hnm
    go_wp2_with (at_next; refine wpList_nextM _ rfl _ rfl (w.heap.size + 2) me (eEnts es) L rfl HRG.out ?_ ?_)
    · intro hL
      subst hL
      go_wp2_with fail
      refine (inOrderN (w.heap.size + 1) os _ HNM.out HOKS.out HI.out.nd (by have := HI.out.len; simp at this; omega)).mono ?_
      rintro e w5 ⟨v, rs, rfl, ha, hm, hlen, hown, hb5⟩
      have hrs : rs = nearF (nl, nn) es := asc_ext ha (nearF_asc HEB.out) (fun z => by
        rw [hm, nearF_mem HEB.out]
        refine ⟨fun hz => HI.out.fro z hz, fun ⟨x, hx, hxz⟩ => ?_⟩
        rcases HI.out.got x hx z hxz with h | h
        · simp at h
        · exact h)
      subst hrs
      have HF : Hid (w5.ownsRow w.heap.size 28 2 v (nearF (nl, nn) es).length ((nearF (nl, nn) es).flatMap encNode) ∧ Below w.heap.size w w5) := ⟨own_mono hown (by omega), (HB1.out.trans (HB.out.mono (by omega))).trans (hb5.mono (by omega))⟩
      clear hown hb5 ha hm hlen
      go_wp2_with fail
      go_ret
      exact ⟨_, rfl, HF.out⟩
    · intro L1 p1 p2 L2 w1 hL hrg1 hg1 hs1 hp hen
      obtain ⟨⟨l, al, an, bl, bn⟩, hx, hpe⟩ := List.mem_map.1 hp
      obtain ⟨rfl, rfl⟩ := Prod.mk.inj hpe
      clear hpe
      have hen1 := hen w1 rfl rfl
      simp only [eVal] at hen1
      have hw1 : Below (w.heap.size + 1) W1 w1 := HB.out.grown hg1 (by omega) (fun g hg => by cases hg; omega)
      have a0 : w1.cell? ⟨w.heap.size, 0, none⟩ = some (.int .i64 nl) := by rw [Below.celz hw1 _ _ _ (by omega)]; exact C0.out.1
      have a1 : w1.cell? ⟨w.heap.size, 1, none⟩ = some (.int .i64 nn) := by rw [Below.celz hw1 _ _ _ (by omega)]; exact C0.out.2
      have HNM1 : Hid (MapAt w1 (w.heap.size + 1) (nEnts os)) := HNM.out.of (hg1.block _ (by omega) (fun e => by have := Option.some.inj e; omega))
      have HRG1 : Hid (RangeAt w1 (w.heap.size + 2) me (eEnts es) (L1 ++ L2)) := hrg1
      have HW1' : Hid (Below (w.heap.size + 1) W1 w1) := hw1
      have HX : Hid ((l, al, an, bl, bn) ∈ es) := hx
      have HLL : Hid (L = L1 ++ (eco (l, al, an, bl, bn), eVal (l, al, an, bl, bn)) :: L2) := hL
      have zz : w.heap.size < w1.heap.size := by omega
      have hrl1 : w.heap.size + 2 < w1.heap.size := by omega
      have hrl2 : me < w1.heap.size := by omega
      clear hen hw1 hrg1 hg1 hp hx hL hs1 hrl hsz
      go_wp2_with fail
      refine (otherEnd l al an bl bn nl nn _).mono ?_
      rintro e w2 ⟨rfl, b2⟩
      have b12 : Below w1.heap.size w1 w2 := ((Below.refl _ _).alloc (Nat.le_refl _) _).trans (b2.mono (by simp))
      have s2 : w1.heap.size ≤ w2.heap.size := b12.size
      have HW2 : Hid (Below (w.heap.size + 1) W1 w2) := HW1'.out.trans (b12.mono (by omega))
      have HNM2 : Hid (MapAt w2 (w.heap.size + 1) (nEnts os)) := HNM1.out.keep b12
      have HRG2 : Hid (RangeAt w2 (w.heap.size + 2) me (eEnts es) (L1 ++ L2)) := HRG1.out.of (b12.block _ (by omega)) (b12.block _ (by omega))
      clear b2 b12 HW1' HNM1 HRG1 hen1 a0 a1
      cases ho : otherI (l, al, an, bl, bn) (nl, nn) with
      | none =>
        have HI2 : Hid (NearInv (nl, nn) es (L1 ++ L2) os) := by have h0 := HI.out; rw [HLL.out] at h0; exact h0.pass (fun o e => by rw [ho] at e; cases e)
        simp only [othV, Option.getD_none, Option.isSome_none]
        go_wp2_with fail
        go_roundw
        case rel =>
          have bb : ∀ o, Below w2.heap.size w2 (w2.alloc o) := fun o => (Below.refl _ _).alloc (Nat.le_refl _) _
          exact ⟨L1 ++ L2, os, HRG2.out.of ((bb _).block _ (by omega)) ((bb _).block _ (by omega)), HNM2.out.keep (bb _), HI2.out, HW2.out.trans ((bb _).mono (by omega))⟩
        case measure =>
          have bb : ∀ o, Below w2.heap.size w2 (w2.alloc o) := fun o => (Below.refl _ _).alloc (Nat.le_refl _) _
          rw [(HRG2.out.of ((bb _).block _ (by omega)) ((bb _).block _ (by omega))).left, hLL, HLL.out]
          simp
      | some o =>
        obtain ⟨o0, o1⟩ := o
        simp only [othV, Option.getD_some, Option.isSome_some]
        have HO : Hid (otherI (l, al, an, bl, bn) (nl, nn) = some (o0, o1)) := ho
        have hoB := otherI_ok (HEB.out _ HX.out) ho
        clear ho
        go_wp2_with fail
        generalize hW3 : w2.alloc (Obj.cells #[Value.int IntKind.i64 o0, Value.int IntKind.i64 o1] 28) = w3
        have b23 : Below w2.heap.size w2 w3 := by rw [← hW3]; exact (Below.refl _ _).alloc (Nat.le_refl _) _
        have z3 : w3.heap.size = w2.heap.size + 1 := by rw [← hW3]; simp
        have f0 : w3.cell? ⟨w2.heap.size, 0, none⟩ = some (.int .i64 o0) := by rw [← hW3]; simp [go_sem]
        have f1 : w3.cell? ⟨w2.heap.size, 1, none⟩ = some (.int .i64 o1) := by rw [← hW3]; simp [go_sem]
        have HW3 : Hid (Below (w.heap.size + 1) W1 w3) := HW2.out.trans (b23.mono (by omega))
        have HNM3 : Hid (MapAt w3 (w.heap.size + 1) (nEnts os)) := HNM2.out.keep b23
        have HRG3 : Hid (RangeAt w3 (w.heap.size + 2) me (eEnts es) (L1 ++ L2)) := HRG2.out.of (b23.block _ (by omega)) (b23.block _ (by omega))
        clear hW3 b23 HW2 HNM2 HRG2
        obtain ⟨V, hV⟩ : ∃ V, V = w2.heap.size := ⟨_, rfl⟩
        rw [← hV] at f0 f1 z3 ⊢
        have v1 : w.heap.size + 2 < V := by omega
        have v2 : me < V := by omega
        clear hV s2
        have hMs : ∀ w4, Below w3.heap.size w3 w4 → ∃ os', (∃ w5, (Instr.mapUpdate 85 (.map (some (w.heap.size + 1))) (.int .i64 (codeI o0 o1)) (.agg #[.int .i64 o0, .int .i64 o1])).run Tryz.prog w4 = .ok () w5 ∧ MapAt w5 (w.heap.size + 1) (nEnts os') ∧ w4.grownBy w5 (some (w.heap.size + 1))) ∧ NearInv (nl, nn) es (L1 ++ L2) os' := fun w4 h4 => by
          have h0 := HI.out
          rw [HLL.out] at h0
          cases hk : lkp (nEnts os) (cod (o0, o1)) with
          | none =>
            refine ⟨os ++ [(o0, o1)], ?_, h0.take HX.out HO.out (fun y hy e => ?_)⟩
            · obtain ⟨w5, q1, q2, q3⟩ := (HNM3.out.keep h4).push und_mn und_int hk (.agg #[.int .i64 o0, .int .i64 o1])
              exact ⟨w5, q1, by simpa [nEnts, nVal, cod] using q2, q3⟩
            · exact lkp_none_not hk (cod y, nVal y) (List.mem_map.2 ⟨y, hy, rfl⟩) e
          | some v =>
            obtain ⟨hm, rfl⟩ := lkp_some_node HOKS.out hk
            refine ⟨os, ?_, h0.pass (fun q hq => by rw [HO.out] at hq; cases hq; exact hm)⟩
            obtain ⟨w5, q1, q2, q3⟩ := (HNM3.out.keep h4).again und_mn und_int hk
            exact ⟨w5, q1, q2, q3⟩
        have HMs : Hid (∀ w4, Below w3.heap.size w3 w4 → ∃ os', (∃ w5, (Instr.mapUpdate 85 (.map (some (w.heap.size + 1))) (.int .i64 (codeI o0 o1)) (.agg #[.int .i64 o0, .int .i64 o1])).run Tryz.prog w4 = .ok () w5 ∧ MapAt w5 (w.heap.size + 1) (nEnts os') ∧ w4.grownBy w5 (some (w.heap.size + 1))) ∧ NearInv (nl, nn) es (L1 ++ L2) os') := hMs
        clear hMs
        go_region_held3 (fun w' => w'.cell? ⟨V, 0, none⟩ = some (.int .i64 o0) ∧ w'.cell? ⟨V, 1, none⟩ = some (.int .i64 o1))
          (first | exact ⟨f0, f1⟩ | assumption | exact ⟨(Below.celz B4 _ _ _ (by omega)).trans f0, (Below.celz B4 _ _ _ (by omega)).trans f1⟩ | exact ⟨(T5.cell _ _ _ (by omega) (by omega)).trans ((Below.celz B4 _ _ _ (by omega)).trans f0), (T5.cell _ _ _ (by omega) (by omega)).trans ((Below.celz B4 _ _ _ (by omega)).trans f1)⟩)
          (first | (go_at_call_of 47 (Value.agg #[.int .i64 o0, .int .i64 o1]); refine (impl_NodeCode o0 o1 _).mono ?_; rintro e w4 ⟨rfl, be1⟩; have B4 : Below w3.heap.size w3 w4 := keep_below (Below.refl _ _).drew be1; have s4 := B4.size; obtain ⟨os', ⟨w5, q1, q2, q3⟩, q4⟩ := HMs.out w4 B4; have T5 := One.ofGrown q3))
        all_goals (
          have hkeep : ∀ k, k < w3.heap.size → k ≠ w.heap.size + 1 → w5.heap[k]? = w3.heap[k]? := fun k hk hne => (T5.blk k (by omega) hne).trans (B4.block k hk)
          have R : Hid (RangeAt w5 (w.heap.size + 2) me (eEnts es) (L1 ++ L2) ∧ MapAt w5 (w.heap.size + 1) (nEnts os') ∧ NearInv (nl, nn) es (L1 ++ L2) os' ∧ Below (w.heap.size + 1) W1 w5) :=
            ⟨HRG3.out.of (hkeep _ (by omega) (by omega)) (hkeep _ (by omega) (by omega)), q2, q4, T5.bel _ _ (HW3.out.trans (B4.mono (by omega))) (by omega) (by omega)⟩
          clear hkeep q1 q2 q3 q4 T5 B4 be1
          go_wp2_with fail
          go_roundw
          case rel => exact ⟨L1 ++ L2, os', R.out⟩
          case measure => rw [R.out.1.left, hLL, HLL.out]; simp)
/-- Who is near a node in a graph; nobody, if the graph is not right. -/
noncomputable def nearG (n : Nd) (ns : List Nd) (es : List Ed) : List Nd := if gokB ns es then nearF n es else []
theorem nearG_len (n : Nd) (ns : List Nd) (es : List Ed) : (nearG n ns es).length ≤ es.length := by
  unfold nearG; split
  · exact nearF_le _ _
  · simp
theorem gok_edges {ns : List Nd} {es : List Ed} (h : GOk ns es) : ∀ x ∈ es, edB x = true := fun x hx => by
  obtain ⟨i, hi⟩ := mem_at hx
  exact (h.2.1 i x hi).1
set_option maxHeartbeats 4000000 in
theorem impl_GraphNear (v1 v2 : Value) (l n : Int) (ns : List Nd) (es : List Ed) (w : World) (h1 : RowAt 2 encNode w v1 ns) (h2 : RowAt 5 encEdge w v2 es) (l1 : ns.length ≤ 1048576) (l2 : es.length ≤ 1048576) (hE : Errs w) :
    Calls Tryz.prog 19 #[.agg #[v1, v2], .agg #[.int .i64 l, .int .i64 n]] w fun e w' => ∃ v, e = .returned v ∧ w'.ownsRow w.heap.size 28 2 v (nearG (l, n) ns es).length ((nearG (l, n) ns es).flatMap encNode) ∧ Below w.heap.size w w' := by
  obtain ⟨a1, c1, rfl⟩ := h1.len
  obtain ⟨a2, c2, rfl⟩ := h2.len
  have b0 : Below w.heap.size w ((w.alloc (.cells #[.slice a1 ns.length c1, .slice a2 es.length c2] 26)).alloc (.cells #[.int .i64 l, .int .i64 n] 28)) := by go_grown
  obtain ⟨t0, v0, hC⟩ := bookOf _ _ ns es _ (h1.keep b0) (h2.keep b0) l1 l2 (hE.keep b0)
  have HB0 : Hid (Below w.heap.size w ((w.alloc (.cells #[.slice a1 ns.length c1, .slice a2 es.length c2] 26)).alloc (.cells #[.int .i64 l, .int .i64 n] 28))) := b0
  clear h1 h2 hE b0
  go_enter Tryz.func19, Tryz.ntmps19
  go_wp2_with fail
  refine hC.mono ?_
  rintro e w1 (⟨hg, bel, b, mn, me, rfl, hbk, _⟩ | ⟨hg, rfl, bel⟩)
  · have HB : Hid (Below w.heap.size w w1) := HB0.out.trans (bel.mono HB0.out.size)
    have f0 : w1.cell? ⟨w.heap.size + 1, 0, none⟩ = some (.int .i64 l) := by rw [Below.celz bel _ _ _ (by simp)]; simp [go_sem]
    have f1 : w1.cell? ⟨w.heap.size + 1, 1, none⟩ = some (.int .i64 n) := by rw [Below.celz bel _ _ _ (by simp)]; simp [go_sem]
    have HK : Hid (BookAt w1 b mn me (nEnts ns) (eEnts es) (nCnt ns) (eCnt es)) := hbk
    have HG : Hid (nearG (l, n) ns es = nearF (l, n) es) := by show nearG (l, n) ns es = nearF (l, n) es; rw [nearG, gokB_true.2 hg]; rfl
    clear bel hC hbk
    go_wp2_with fail
    refine (near b mn me l n ns es _ _ _ HK.out (gok_edges hg) (edges_len hg.2)).mono ?_
    rintro e w2 ⟨v, rfl, hown, hb2⟩
    have HF : Hid (w2.ownsRow w.heap.size 28 2 v (nearF (l, n) es).length ((nearF (l, n) es).flatMap encNode) ∧ Below w.heap.size w w2) := ⟨own_mono hown HB.out.size, keep_below HB.out hb2⟩
    clear hown hb2 f0 f1
    go_wp2_with fail
    go_ret
    rw [HG.out]
    exact ⟨_, rfl, HF.out⟩
  · have HB : Hid (Below w.heap.size w w1) := HB0.out.trans (bel.mono HB0.out.size)
    have HG : Hid (nearG (l, n) ns es = []) := by show nearG (l, n) ns es = []; rw [nearG, gokB_false.2 hg]; rfl
    clear bel hC
    go_wp2_with fail
    go_ret
    rw [HG.out]
    exact ⟨_, rfl, World.ownsRow_nil _ _ _ _, HB.out⟩
end Go.Proofs.YtkhfbaggkmeahaaGreatDoor.Lab

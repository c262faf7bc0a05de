/-
  Contract of impl.inOrder, for edges; (*impl.book).graph.
-/
import Derived.Test.YtkhfbaggkmeahabGreatDoorIno
import Derived.Test.YtkhfbaggkmeahabGreatDoorBtn
namespace Go.Proofs.YtkhfbaggkmeahabGreatDoor.Lab
open Go.RowKit Go.ChangeMaps Go.Maps Go.Shelf
set_option linter.unusedVariables false
theorem eco_bd (x : Ed) : -1 ≤ eco x ∧ eco x ≤ 3000000 := by
  cases h : edB x
  · unfold edB at h; simp [eco, ecodeI, h]
  · rw [eco_eq h]
    have a1 := codeI_bd x.2.1 x.2.2.1
    have a2 := codeI_bd x.2.2.2.1 x.2.2.2.2
    have a3 := cod_ok' (x := (x.2.1, x.2.2.1)) (edB_parts h).1
    have a4 := cod_ok' (x := (x.2.2.2.1, x.2.2.2.2)) (edB_parts h).2
    have := okB_true (edB_ok h)
    simp only [cod] at *
    omega
/-- Edges in the order of their numbers. -/
def AscE (xs : List Ed) : Prop := xs.Pairwise (fun a b => eco a < eco b)
/-- A list of edges in order, by their numbers sorted. -/
theorem sorted_edges {os rs : List Ed} {ss : List Int} (hok : ∀ o ∈ os, edB o = true) (hp : ss.Perm (os.map eco)) (hnd : (os.map eco).Nodup) (hr : rs.map eco = ss.mergeSort (fun x y => decide (x ≤ y))) (hm : ∀ r ∈ rs, r ∈ os) : AscE rs ∧ ∀ z, z ∈ rs ↔ z ∈ os := by
  have hs : (ss.mergeSort (fun x y => decide (x ≤ y))).Pairwise (fun a b => (decide (a ≤ b)) = true) := List.pairwise_mergeSort (le := fun x y : Int => decide (x ≤ y)) (fun a b c h1 h2 => by simp at h1 h2 ⊢; omega) (fun a b => by simp; omega) ss
  have hpm : (ss.mergeSort (fun x y => decide (x ≤ y))).Perm (os.map eco) := (List.mergeSort_perm ss _).trans hp
  have hn : (rs.map eco).Nodup := by rw [hr]; exact hpm.nodup_iff.2 hnd
  refine ⟨?_, fun z => ⟨hm z, fun hz => ?_⟩⟩
  · rw [← hr] at hs
    have h1 : rs.Pairwise (fun a b => eco a ≤ eco b) := by
      have := List.pairwise_map.1 hs
      exact this.imp (fun h => by simpa using h)
    have h2 : rs.Pairwise (fun a b => eco a ≠ eco b) := List.pairwise_map.1 hn
    exact (h1.and h2).imp (fun h => by omega)
  · have : eco z ∈ rs.map eco := by rw [hr]; exact hpm.mem_iff.2 (List.mem_map.2 ⟨z, hz, rfl⟩)
    obtain ⟨y, hy, e⟩ := List.mem_map.1 this
    have : y = z := eco_inj (hok y (hm y hy)) e
    rw [← this]; exact hy
theorem keysE (b : Nat) (W : World) : Calls Tryz.prog 77 #[.map (some b)] W fun e w' => e = .returned (.func (.func 86) #[] #[.pointer (some ⟨W.heap.size, 0, none⟩)]) ∧ w' = W.alloc (.cells #[.map (some b)] 96) :=
  callsIn_wide.1 (AnyZI.keys_in Tryz.keysE Fence.wide 5 trivial rfl (some b) W)
theorem sortedE (b Bm : Nat) (es : List (Int × Value)) (W : World) (h : MapAt W b es) (hwf : ∀ p ∈ es, (Lit.int .i64 p.1).wf = true) (hl : es.length ≤ 1048576) (hB : Bm < W.heap.size) (hm : W.cell? ⟨Bm, 0, none⟩ = some (.map (some b))) :
    Calls Tryz.prog 75 #[.func (.func 86) #[] #[.pointer (some ⟨Bm, 0, none⟩)]] W fun e w' => ∃ (v : Value) (ss : List Int), e = .returned v ∧ ss.Perm (es.map (·.1)) ∧
      w'.ownsRow W.heap.size 3 1 v ss.length ((ss.mergeSort (fun x y => decide (x ≤ y))).map (Value.int .i64)) ∧ Below W.heap.size W w' := by
  obtain ⟨D0, hown, hperm, hsize⟩ := h.owns (P := Tryz.prog) (k := 3) und_int hwf (by unfold maxLen; omega)
  have hseq : SeqGives Fence.wide 2 Tryz.prog 86 #[.pointer (some ⟨Bm, 0, none⟩)] encZ (fun ss => ss.Perm (intKeys D0)) (Maps.size D0) W :=
    AnyZI.keys_gives (ρ := Tryz.keysE_ren) { Tryz.keysE with } Fence.wide _ trivial rfl (by omega) Bm b es.length D0 _ hB hm hown
  have cS := AnyZI.sorted_in Tryz.sortedN Fence.wide 5 trivial trivial trivial trivial rfl (by omega) (Tryz.sorts _) (enters_of Tryz.func84 (by kernel_rfl) rfl) 86 #[.pointer (some ⟨Bm, 0, none⟩)] trivial (enters_of Tryz.func86 (by kernel_rfl) rfl) _ _ (by rw [hsize]; unfold maxLen; omega) (by rw [hsize]; omega) _ hseq
  change CallsIn _ _ Tryz.prog 75 _ _ _ at cS
  exact (callsIn_wide.1 cS).mono fun e w' ⟨v, ss, h1, h2, h3, _, h5⟩ => ⟨v, ss, h1, h2.trans hperm, h3, h5⟩
/-- The node with a number. -/
def edgeOf (os : List Ed) (c : Int) : Ed := (os.find? (fun o => eco o == c)).getD (0, 0, 0, 0, 0)
theorem edgeOf_in {os : List Ed} {c : Int} (h : c ∈ os.map eco) : edgeOf os c ∈ os ∧ eco (edgeOf os c) = c := by
  obtain ⟨o, ho, e⟩ := List.mem_map.1 h
  cases hf : os.find? (fun o => eco o == c) with
  | none =>
    have := List.find?_eq_none.1 hf o ho
    simp [e] at this
  | some q =>
    have h1 := List.mem_of_find?_eq_some hf
    have h2 := List.find?_some hf
    simp only [edgeOf, hf, Option.getD_some]
    exact ⟨h1, by simpa using h2⟩
theorem lkp_edgeOf {os : List Ed} {c : Int} (hok : ∀ o ∈ os, edB o = true) (h : c ∈ os.map eco) : lkp (eEnts os) c = some (eVal (edgeOf os c)) := by
  obtain ⟨h1, h2⟩ := edgeOf_in h
  rcases lkp_map eco eVal c os with ⟨_, k2⟩ | ⟨y, k1, k2, k3⟩
  · exact absurd h2 (k2 _ h1)
  · have : y = edgeOf os c := eco_inj (hok y k1) (by rw [k2, h2])
    rw [eEnts, k3, this]
set_option maxRecDepth 8000 in
set_option maxHeartbeats 4000000 in
theorem inOrderE (b : Nat) (os : List Ed) (w : World) (h : MapAt w b (eEnts os)) (hok : ∀ o ∈ os, edB o = true) (hnd : (os.map eco).Nodup) (hl : os.length ≤ 100000) :
    Calls Tryz.prog 58 #[.map (some b)] w fun e w' => ∃ v rs, e = .returned v ∧ AscE rs ∧ (∀ z, z ∈ rs ↔ z ∈ os) ∧ rs.length = os.length ∧ w'.ownsRow w.heap.size 30 5 v rs.length (rs.flatMap encEdge) ∧ Below w.heap.size w w' := by
  obtain ⟨iN, jN, zN0, zN1, zN2⟩ := info_parts Tryz.infoEdge
  have hlt := h.lt
  have HM : Hid (MapAt w b (eEnts os)) := h
  have HOK : Hid ((∀ o ∈ os, edB o = true) ∧ (os.map eco).Nodup) := ⟨hok, hnd⟩
  have hwf : Hid (∀ p ∈ eEnts os, (Lit.int .i64 p.1).wf = true) := fun p hp => by
    obtain ⟨x, hx, rfl⟩ := List.mem_map.1 hp
    have := eco_bd x
    exact WalkArith.wf_i64 (by simp only; omega)
  clear h hok hnd
  go_enter Tryz.func58, Tryz.ntmps58
  go_wp2_with fail
  refine (keysE b _).mono ?_
  rintro e w1 ⟨rfl, hw1⟩
  have b1 : Below w.heap.size w w1 := by rw [hw1]; exact (Below.refl _ _).alloc (Nat.le_refl _) _
  have c1 : w1.cell? ⟨w.heap.size, 0, none⟩ = some (.map (some b)) := by rw [hw1]; simp [go_sem]
  have s1 : w1.heap.size = w.heap.size + 1 := by rw [hw1]; simp
  have HB1 : Hid (Below w.heap.size w w1) := b1
  have C1 : Hid (w1.cell? ⟨w.heap.size, 0, none⟩ = some (.map (some b))) := c1
  clear hw1 b1 c1
  go_wp2_with fail
  refine (sortedE b w.heap.size (eEnts os) _ (HM.out.keep HB1.out) hwf.out (by simp [eEnts]; omega) (by omega) C1.out).mono ?_
  rintro e w2 ⟨v, ss, rfl, hp, own, bel⟩
  have hlen : ss.length = os.length := by have := hp.length_eq; simpa [eEnts] using this
  have hpc : ss.Perm (os.map eco) := by
    have e1 : (eEnts os).map (·.1) = os.map eco := by simp [eEnts, List.map_map, Function.comp_def]
    rw [e1] at hp; exact hp
  obtain ⟨sl, hsl⟩ : ∃ sl, sl = ss.mergeSort (fun x y => decide (x ≤ y)) := ⟨_, rfl⟩
  rw [← hsl] at own
  have hslen : sl.length = ss.length := by rw [hsl]; exact List.length_mergeSort _
  have hslm : ∀ c ∈ sl, c ∈ os.map eco := fun c hc => hpc.mem_iff.1 (by rw [hsl] at hc; exact (List.mergeSort_perm ss _).mem_iff.1 hc)
  have HSL : Hid (∀ c ∈ sl, c ∈ os.map eco) := hslm
  obtain ⟨rs, hrs⟩ : ∃ rs, rs = sl.map (edgeOf os) := ⟨_, rfl⟩
  have hrl : rs.length = ss.length := by rw [hrs, List.length_map, hslen]
  have HRS : Hid (AscE rs ∧ (∀ z, z ∈ rs ↔ z ∈ os)) := sorted_edges HOK.out.1 hpc HOK.out.2 (by
    rw [hrs, List.map_map, ← hsl]
    have : sl.map (eco ∘ edgeOf os) = sl.map id := List.map_congr_left (fun c hc => (edgeOf_in (hslm c hc)).2)
    rw [this, List.map_id]) (fun r hr => by
    rw [hrs] at hr
    obtain ⟨c, hc, rfl⟩ := List.mem_map.1 hr
    exact (edgeOf_in (hslm c hc)).1)
  have HRG : Hid (∀ k c, sl[k]? = some c → rs[k]? = some (edgeOf os c)) := fun k c hc => by rw [hrs, List.getElem?_map, hc]; rfl
  have HW2 : Hid (Below w.heap.size w w2) := HB1.out.trans (bel.mono (by omega))
  have HM2 : Hid (MapAt w2 b (eEnts os)) := HM.out.keep HW2.out
  have s2 : w.heap.size ≤ w2.heap.size := HW2.out.size
  obtain ⟨va, vc, rfl⟩ := own_form own
  have HOW : Hid (w2.ownsRow w1.heap.size 3 1 (.slice va ss.length vc) ss.length (sl.map (Value.int .i64))) := own
  clear own hpc hsl hslm hrs bel hp
  obtain ⟨n, hn⟩ : ∃ n, n = ss.length := ⟨_, rfl⟩
  have hn5 : n ≤ 100000 := by omega
  have HN : Hid (n = ss.length) := hn
  rw [← hn]
  clear hn
  go_wp2_with fail
  go_loopw [3, 10] (fun v i wr => ∃ k : Nat, k ≤ n ∧ i = .int .i64 k ∧ Below w2.heap.size w2 wr ∧ wr.ownsRow w2.heap.size 30 5 v k ((rs.take k).flatMap encEdge)) (fun _ i _ => n - (intOf i).toNat)
  case atStart => exact ⟨0, by omega, rfl, Below.refl _ _, World.ownsRow_nil _ _ _ _⟩
  case round =>
    obtain ⟨k, hk, rfl, hbel, hown⟩ := hrel
    by_cases hlt2 : k < n
    · have hks : k < sl.length := by have := HN.out; omega
      obtain ⟨c, hc⟩ : ∃ c, sl[k]? = some c := ⟨_, List.getElem?_eq_getElem hks⟩
      have hcm := HSL.out c (List.mem_of_getElem? hc)
      obtain ⟨m0, m1, m2, m3, m4, hnode⟩ : ∃ m0 m1 m2 m3 m4, edgeOf os c = (m0, m1, m2, m3, m4) := ⟨_, _, _, _, _, rfl⟩
      have HX : Hid (rs[k]? = some (m0, m1, m2, m3, m4)) := by have := HRG.out k c hc; rw [hnode] at this; exact this
      obtain ⟨g, hva, e0⟩ : ∃ g, va = some ⟨g, 0, none⟩ ∧ wr.cell? ⟨g, k, none⟩ = some (.int .i64 c) := by
        obtain ⟨q1, ⟨q2, q3⟩ | ⟨g, cp, cur, qv, qb, qg, q4, q5, q6, q7⟩⟩ := HOW.out
        · have := HN.out; omega
        · refine ⟨g, by injection qv, ?_⟩
          rw [Below.celz hbel _ _ _ (lt_of_block qg), cell_block qg]
          have h1 := congrArg (fun l => l[k]?) q7
          simp only [List.getElem?_map, hc, Option.map_some, List.getElem?_take] at h1
          split at h1
          · simpa using h1
          · cases h1
      subst hva
      have hlook : (Instr.lookup 96 (.map (some b)) (.int .i64 c) false).run Tryz.prog wr = .ok (.agg #[.int .i64 m0, .int .i64 m1, .int .i64 m2, .int .i64 m3, .int .i64 m4]) wr := by
        rw [(HM2.out.keep hbel).get und_me und_int (zero_edge wr) c, lkp_edgeOf HOK.out.1 hcm, hnode]
        rfl
      have k0 : (0 : Int) ≤ (k : Int) := by omega
      have k1 : (k : Int) < (n : Int) := by omega
      have hsz := hbel.size
      have HB : Hid (Below w2.heap.size w2 wr) := hbel
      obtain ⟨xa, xc, rfl⟩ := own_form hown
      have lt0 := fun g hg => (hown.lt g hg).1
      have LT : Hid (∀ g, (Value.slice xa k xc).ownBlock = some g → w2.heap.size ≤ g) := lt0
      have z1 : g < wr.heap.size := by have := World.block_lt_of_cell? _ _ e0; simpa using this
      clear hc hcm hnode hbel lt0
      go_wp2_with (at_builtin; refine wpList_append_own _ rfl _ _ 24 rfl w2.heap.size 30 iN _ 5 40 Tryz.underlying24 jN zN0 zN1 zN2 rfl (by decide) _ _ _ rfl (hown.alloc _) ⟨wr.heap.size, 0, none⟩ 1 1 [.int .i64 m0, .int .i64 m1, .int .i64 m2, .int .i64 m3, .int .i64 m4] rfl rfl ?c1 ?c2 ?c3 ?c4 ?c5 ?_)
      case c1 =>
        intro j u hj
        match j, hj with
        | 0, hj => simp at hj; subst hj; simp [Addr.add]
        | 1, hj => simp at hj; subst hj; simp [Addr.add]
        | 2, hj => simp at hj; subst hj; simp [Addr.add]
        | 3, hj => simp at hj; subst hj; simp [Addr.add]
        | 4, hj => simp at hj; subst hj; simp [Addr.add]
      case c2 => intro u hu; simp at hu; rcases hu with rfl | rfl | rfl | rfl | rfl <;> rfl
      case c3 => unfold maxLen; omega
      case c4 => omega
      case c5 => simp; omega
      · intro v' w3 hown' hgrow _
        have htk : rs.take (k + 1) = rs.take k ++ [(m0, m1, m2, m3, m4)] := by rw [List.take_add_one, HX.out]; rfl
        have R : Hid (Below w2.heap.size w2 w3 ∧ w3.ownsRow w2.heap.size 30 5 v' (k + 1) ((rs.take (k + 1)).flatMap encEdge)) :=
          ⟨(HB.out.alloc (by omega) _).grown hgrow (by simp; omega) LT.out, by rw [htk]; simpa [List.flatMap_append, encEdge] using hown'⟩
        clear hown' hgrow hown htk hlook
        go_wp2_with fail
        go_roundw
        case rel => exact ⟨k + 1, by omega, by go_num, R.out⟩
        case measure => simp [intOf]; omega
    · have hkn : k = n := by omega
      have htk : rs.take k = rs := by rw [hkn, HN.out, ← hrl]; exact List.take_length
      rw [htk] at hown
      subst hkn
      go_wp2_with fail
      go_ret
      exact ⟨_, rs, rfl, HRS.out.1, HRS.out.2, by omega, by rw [hrl, ← HN.out]; exact own_mono hown s2, HW2.out.trans (hbel.mono s2)⟩
/-- A graph of rows of its own, in order, that holds these. -/
def GraphOut (w : World) (base : Nat) (v : Value) (os : List Nd) (xs : List Ed) : Prop :=
  ∃ u1 u2 rs ds, v = .agg #[u1, u2] ∧ Asc rs ∧ (∀ z, z ∈ rs ↔ z ∈ os) ∧ AscE ds ∧ (∀ z, z ∈ ds ↔ z ∈ xs) ∧ OwnGraph w base u1 u2 rs ds
set_option maxRecDepth 8000 in
set_option maxHeartbeats 8000000 in
theorem bookGraph (b mn me : Nat) (os : List Nd) (xs : List Ed) (cn ce : Nat → Int) (w : World) (h : BookAt w b mn me (nEnts os) (eEnts xs) cn ce) (ho : (∀ o ∈ os, nodeB o.1 o.2 = true) ∧ (os.map cod).Nodup ∧ os.length ≤ 100000) (hx : (∀ x ∈ xs, edB x = true) ∧ (xs.map eco).Nodup ∧ xs.length ≤ 100000) :
    Calls Tryz.prog 24 #[.pointer (some ⟨b, 0, none⟩)] w fun e w' => ∃ v, e = .returned v ∧ GraphOut w' w.heap.size v os xs ∧ Below w.heap.size w w' := by
  have hbl := cell_lt h.n0
  obtain ⟨W0, hW0⟩ : ∃ W0, W0 = w.alloc (.cells #[.slice none 0 0, .slice none 0 0] 26) := ⟨_, rfl⟩
  have b0 : Below w.heap.size w W0 := by rw [hW0]; go_grown
  have z0 : W0.heap.size = w.heap.size + 1 := by rw [hW0]; simp
  have Q0 : W0.cell? ⟨w.heap.size, 0, none⟩ = some (.slice none 0 0) := by rw [hW0]; simp [go_sem]
  have Q1 : W0.cell? ⟨w.heap.size, 1, none⟩ = some (.slice none 0 0) := by rw [hW0]; simp [go_sem]
  have QF : ∀ o, W0.frozen? ⟨w.heap.size, o, none⟩ = false := fun o => by rw [hW0]; simp [go_sem]
  have HB0 : Hid (Below w.heap.size w W0) := b0
  have HW0 : Hid (W0 = w.alloc (.cells #[.slice none 0 0, .slice none 0 0] 26)) := hW0
  have HBK : Hid (BookAt W0 b mn me (nEnts os) (eEnts xs) cn ce) := h.keep b0
  have HKW : Hid (∀ W, Below w.heap.size W0 W → BookAt W b mn me (nEnts os) (eEnts xs) cn ce) := fun W hb => h.keep (b0.trans hb)
  have HO : Hid ((∀ o ∈ os, nodeB o.1 o.2 = true) ∧ (os.map cod).Nodup ∧ os.length ≤ 100000) := ho
  have HX : Hid ((∀ x ∈ xs, edB x = true) ∧ (xs.map eco).Nodup ∧ xs.length ≤ 100000) := hx
  have z1 : w.heap.size < W0.heap.size := by omega
  have z3 : w.heap.size ≤ W0.heap.size := by omega
  have p0 := HBK.out.n0
  have p1 := HBK.out.e0
  clear h b0 hW0 z0 ho hx
  go_enter Tryz.func24, Tryz.ntmps24
  go_wp2_with fail
  rw [← HW0.out]
  clear HW0
  have hS : Hid (∀ w', Below w.heap.size W0 w' → Below w.heap.size W0 w' ∧ w'.cell? ⟨b, 0, none⟩ = some (.map (some mn)) ∧ w'.cell? ⟨b, 1, none⟩ = some (.map (some me))) := fun w' hn => ⟨hn, (Below.celz hn _ _ _ (by omega)).trans p0, (Below.celz hn _ _ _ (by omega)).trans p1⟩
  go_region_held3 (fun w' => Below w.heap.size W0 w' ∧ w'.cell? ⟨b, 0, none⟩ = some (.map (some mn)) ∧ w'.cell? ⟨b, 1, none⟩ = some (.map (some me)))
    (first | with_reducible exact hS.out _ (Below.refl _ _).drew | assumption | with_reducible exact hS.out _ (Below.mono B7 z3) | with_reducible exact hS.out _ (Below.mono B3 z3) | with_reducible exact hS.out _ (Below.setCell (Below.setCell (Below.mono B7 z3) (Nat.le_refl _) _) (Nat.le_refl _) _))
    (first
      | (go_at_call_of 57 (Value.map (some mn)); refine (inOrderN mn os _ (HKW.out _ (And.left (by assumption))).nm HO.out.1 HO.out.2.1 HO.out.2.2).mono ?_; rintro e w3 ⟨v3, rs, rfl, ha3, hm3, hl3, ho3, hb3⟩; have B3 : Below W0.heap.size W0 w3 := keep_below (Below.refl _ _).drew hb3; obtain ⟨x3, y3, rfl⟩ := own_form ho3)
      | (go_at_call_of 58 (Value.map (some me)); refine (inOrderE me xs _ (HKW.out _ (And.left (by assumption))).em HX.out.1 HX.out.2.1 HX.out.2.2).mono ?_; rintro e w7 ⟨v7, ds, rfl, ha7, hm7, hl7, ho7, hb7⟩; have B7 : Below W0.heap.size W0 w7 := keep_below B3 hb7; obtain ⟨x7, y7, rfl⟩ := own_form ho7; have q70 : w7.cell? ⟨w.heap.size, 0, none⟩ = some (.slice none 0 0) := (Below.celz B7 _ _ _ z1).trans Q0; have q71 : w7.cell? ⟨w.heap.size, 1, none⟩ = some (.slice none 0 0) := (Below.celz B7 _ _ _ z1).trans Q1; have qf7 : ∀ o, w7.frozen? ⟨w.heap.size, o, none⟩ = false := fun o => (Below.froz B7 _ _ _ z1).trans (QF o)))
  all_goals (
    have HZ : Hid (OwnGraph w7 W0.heap.size (.slice x3 rs.length y3) (.slice x7 ds.length y7) rs ds ∧ Asc rs ∧ (∀ z, z ∈ rs ↔ z ∈ os) ∧ AscE ds ∧ (∀ z, z ∈ ds ↔ z ∈ xs)) := by
      have o7 := own_mono ho7 B3.size
      refine ⟨⟨own_keep ho3 hb7, o7, fun k hk e => ?_⟩, ha3, hm3, ha7, hm7⟩
      have h1 := (ho3.lt k hk).2
      have h2 := (ho7.lt k e).1
      omega
    have HB7 : Hid (Below W0.heap.size W0 w7) := B7
    have s7 : w.heap.size < w7.heap.size := by have := B7.size; omega
    clear ho3 ho7 B3 B7 hb3 hb7 ha3 ha7 hm3 hm7
    go_wp2_with fail
    refine bodyPost_ret (v := .agg #[.slice x3 rs.length y3, .slice x7 ds.length y7]) (by simp [*, results, Tryz.results24, go_sem]) rfl ?_
    obtain ⟨⟨f1, f2, f3⟩, f4⟩ := HZ.out
    refine ⟨_, rfl, ⟨_, _, rs, ds, rfl, f4.1, f4.2.1, f4.2.2.1, f4.2.2.2, ⟨?_, ?_, f3⟩⟩, ?_⟩
    · exact own_mono (ownsRow_setCell_below (ownsRow_setCell_below f1 (by simp; omega) _) (by simp; omega) _) (by omega)
    · exact own_mono (ownsRow_setCell_below (ownsRow_setCell_below f2 (by simp; omega) _) (by simp; omega) _) (by omega)
    · exact HB0.out.trans (((HB7.out.mono (by omega)).setCell (by simp) _).setCell (by simp) _))
end Go.Proofs.YtkhfbaggkmeahabGreatDoor.Lab

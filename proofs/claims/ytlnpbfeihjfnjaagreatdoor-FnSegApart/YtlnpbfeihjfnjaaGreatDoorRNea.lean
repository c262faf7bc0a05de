/-
  Maps as the kit owns them; impl.inOrder for nodes.
  Contracts of impl's functions on who is near whom. (Written by tools/mknea.py.)
-/
import Derived.Test.YtlnpbfeihjfnjaaGreatDoorRRd
import Derived.Test.YtlnpbfeihjfnjaaGreatDoorMap
import Derived.Test.YtlnpbfeihjfnjaaGreatDoorRSgp
import Derived.Test.YtlnpbfeihjfnjaaGreatDoorGki
import Derived.Test.YtlnpbfeihjfnjaaGreatDoorMrk
import Derived.Deep.RegionHeld3
import Derived.Deep.DrawnRows
namespace Go.Proofs.YtlnpbfeihjfnjaaGreatDoor.Lab
open Go.RowKit Go.ChangeMaps Go.Maps Go.Sort Go.Shelf
set_option linter.unusedVariables false
def vI : Value → Int
  | .int _ a => a
  | _ => 0
/-- A key's number. -/
def litI : Lit → Int
  | .int _ a => a
  | _ => 0
theorem intKeys_eq {H : Type} (es : List (Lit × DataW H)) : intKeys (.map es) = es.map (fun q => litI q.1) := by
  refine List.map_congr_left (fun q _ => ?_)
  cases q.1 <;> rfl
theorem insert_perm {H : Type} (x : Lit × DataW H) : ∀ l : List (Lit × DataW H), (DataW.insert x l).Perm (x :: l)
  | [] => List.Perm.refl _
  | y :: l => by
    unfold DataW.insert
    split
    · exact List.Perm.refl _
    · exact ((insert_perm x l).cons y).trans (List.Perm.swap x y l)
theorem foldr_perm {H : Type} : ∀ l : List (Lit × DataW H), (l.foldr DataW.insert []).Perm l
  | [] => List.Perm.refl _
  | x :: l => by
    simp only [List.foldr_cons]
    exact (insert_perm x _).trans ((foldr_perm l).cons x)
/-- A map with told entries, in the kit's words. -/
theorem MapAt.owns {P : Program} {w : World} {b : Nat} {es : List (Int × Value)} {k : TypeId} (h : MapAt w b es) (hk : P.underlying k = some (.int .i64)) (hwf : ∀ p ∈ es, (Lit.int .i64 p.1).wf = true) (hl : es.length ≤ maxLen) :
    ∃ D0 : DataW Unit, w.ownsMap P k (fun _ => some (.nil, [])) b es.length D0 ∧ (intKeys D0).Perm (es.map (·.1)) ∧ Maps.size D0 = es.length := by
  obtain ⟨ents, clock, h1, h2, h3⟩ := h
  have hlen : ents.toList.length = es.length := by have := congrArg List.length h2; simpa using this
  have hlen' : ents.size = es.length := by simpa using hlen
  have hrd : ∀ x ∈ ents.toList, ∃ p ∈ es, x.key = .int .i64 p.1 ∧ Go.WideElems.rd P k (fun _ => some ((.nil : DataW Unit), [])) x = some (.int .i64 p.1, .nil) := fun x hx => by
    have hm : (x.key, x.val) ∈ es.map (fun p => (Value.int .i64 p.1, p.2)) := by rw [← h2]; exact List.mem_map.2 ⟨x, hx, rfl⟩
    obtain ⟨p, hp, he⟩ := List.mem_map.1 hm
    simp only [Prod.mk.injEq] at he
    refine ⟨p, hp, he.1.symm, ?_⟩
    simp [Go.WideElems.rd, ← he.1, keyOf_int_mk hk (hwf p hp)]
  have hkeys : (ents.toList.map (Go.WideElems.rg P k (fun _ => some ((.nil : DataW Unit), [])))).map (fun q => litI q.1) = es.map (·.1) := by
    have e1 : ents.toList.map (fun x => vI x.key) = es.map (·.1) := by
      have := congrArg (List.map (fun q : Value × Value => vI q.1)) h2
      simpa [List.map_map, Function.comp_def, vI] using this
    rw [← e1, List.map_map]
    refine List.map_congr_left (fun x hx => ?_)
    obtain ⟨p, hp, he, hr⟩ := hrd x hx
    simp only [Function.comp, Go.WideElems.rg_of hr, he]
    rfl
  refine ⟨.map ((ents.toList.map (Go.WideElems.rg P k (fun _ => some ((.nil : DataW Unit), [])))).foldr DataW.insert []), ⟨ents, clock, h1, ⟨by omega, h3, fun x hx => by obtain ⟨p, _, _, hr⟩ := hrd x hx; exact ⟨_, hr⟩⟩, by omega, rfl⟩, ?_, ?_⟩
  · rw [← hkeys, intKeys_eq]
    exact (foldr_perm _).map _
  · have := (foldr_perm (ents.toList.map (Go.WideElems.rg P k (fun _ => some ((.nil : DataW Unit), []))))).length_eq
    simp only [Maps.size, List.length_map] at this ⊢
    omega
end Go.Proofs.YtlnpbfeihjfnjaaGreatDoor.Lab
namespace Go.Proofs.YtlnpbfeihjfnjaaGreatDoor.Lab
open Go.RowKit Go.ChangeMaps Go.Maps Go.Shelf
set_option linter.unusedVariables false
theorem Tryz.sorts (m : Nat) : AnyZI.SortsIn Tryz.prog Tryz.sortedN_ren Fence.wide m :=
  ⟨fun blk off cap ss W hH hblk hsz => callsIn_wide.2 (AnyM.slices_Sort_int Tryz.sortN blk off cap ss W hH hblk hsz), fun p cap W => callsIn_wide.2 (AnyM.slices_Sort_int_none Tryz.sortN p cap W)⟩
theorem keysN (b : Nat) (W : World) : Calls Tryz.prog 132 #[.map (some b)] W fun e w' => e = .returned (.func (.func 149) #[] #[.pointer (some ⟨W.heap.size, 0, none⟩)]) ∧ w' = W.alloc (.cells #[.map (some b)] 131) :=
  callsIn_wide.1 (AnyZI.keys_in Tryz.keysN Fence.wide 5 trivial rfl (some b) W)
theorem sortedN (b Bm : Nat) (es : List (Int × Value)) (W : World) (h : MapAt W b es) (hwf : ∀ p ∈ es, (Lit.int .i64 p.1).wf = true) (hl : es.length ≤ 1048576) (hB : Bm < W.heap.size) (hm : W.cell? ⟨Bm, 0, none⟩ = some (.map (some b))) :
    Calls Tryz.prog 58 #[.func (.func 149) #[] #[.pointer (some ⟨Bm, 0, none⟩)]] W fun e w' => ∃ (v : Value) (ss : List Int), e = .returned v ∧ ss.Perm (es.map (·.1)) ∧
      w'.ownsRow W.heap.size 3 1 v ss.length ((ss.mergeSort (fun x y => decide (x ≤ y))).map (Value.int .i64)) ∧ Below W.heap.size W w' := by
  obtain ⟨D0, hown, hperm, hsize⟩ := h.owns (P := Tryz.prog) (k := 3) und_int hwf (by unfold maxLen; omega)
  have hseq : SeqGives Fence.wide 2 Tryz.prog 149 #[.pointer (some ⟨Bm, 0, none⟩)] encZ (fun ss => ss.Perm (intKeys D0)) (Maps.size D0) W :=
    AnyZI.keys_gives (ρ := Tryz.keysN_ren) { Tryz.keysN with } Fence.wide _ trivial rfl (by omega) Bm b es.length D0 _ hB hm hown
  have cS := AnyZI.sorted_in Tryz.sortedN Fence.wide 5 trivial trivial trivial trivial rfl (by omega) (Tryz.sorts _) (enters_of Tryz.func93 (by kernel_rfl) rfl) 149 #[.pointer (some ⟨Bm, 0, none⟩)] trivial (enters_of Tryz.func149 (by kernel_rfl) rfl) _ _ (by rw [hsize]; unfold maxLen; omega) (by rw [hsize]; omega) _ hseq
  change CallsIn _ _ Tryz.prog 58 _ _ _ at cS
  exact (callsIn_wide.1 cS).mono fun e w' ⟨v, ss, h1, h2, h3, _, h5⟩ => ⟨v, ss, h1, h2.trans hperm, h3, h5⟩
/-- The node with a number. -/
def nodeOf (os : List Nd) (c : Int) : Nd := (os.find? (fun o => cod o == c)).getD (0, 0)
theorem nodeOf_in {os : List Nd} {c : Int} (h : c ∈ os.map cod) : nodeOf os c ∈ os ∧ cod (nodeOf os c) = c := by
  obtain ⟨o, ho, e⟩ := List.mem_map.1 h
  cases hf : os.find? (fun o => cod o == c) with
  | none =>
    have := List.find?_eq_none.1 hf o ho
    simp [e] at this
  | some q =>
    have h1 := List.mem_of_find?_eq_some hf
    have h2 := List.find?_some hf
    simp only [nodeOf, hf, Option.getD_some]
    exact ⟨h1, by simpa using h2⟩
theorem lkp_nodeOf {os : List Nd} {c : Int} (hok : ∀ o ∈ os, nodeB o.1 o.2 = true) (h : c ∈ os.map cod) : lkp (nEnts os) c = some (nVal (nodeOf os c)) := by
  obtain ⟨h1, h2⟩ := nodeOf_in h
  rcases lkp_map cod nVal c os with ⟨_, k2⟩ | ⟨y, k1, k2, k3⟩
  · exact absurd h2 (k2 _ h1)
  · have : y = nodeOf os c := cod_inj (hok y k1) (by rw [k2, h2])
    rw [nEnts, k3, this]
set_option maxRecDepth 8000 in
set_option maxHeartbeats 4000000 in
theorem inOrderN (b : Nat) (os : List Nd) (w : World) (h : MapAt w b (nEnts os)) (hok : ∀ o ∈ os, nodeB o.1 o.2 = true) (hnd : (os.map cod).Nodup) (hl : os.length ≤ 100000) :
    Calls Tryz.prog 107 #[.map (some b)] w fun e w' => ∃ v rs, e = .returned v ∧ Asc rs ∧ (∀ z, z ∈ rs ↔ z ∈ os) ∧ rs.length = os.length ∧ w'.ownsRow w.heap.size 46 2 v rs.length (rs.flatMap encNode) ∧ Below w.heap.size w w' := by
  obtain ⟨iN, jN, zN0, zN1, zN2⟩ := info_parts Tryz.infoNode
  have hlt := h.lt
  have HM : Hid (MapAt w b (nEnts os)) := h
  have HOK : Hid ((∀ o ∈ os, nodeB o.1 o.2 = true) ∧ (os.map cod).Nodup) := ⟨hok, hnd⟩
  have hwf : Hid (∀ p ∈ nEnts os, (Lit.int .i64 p.1).wf = true) := fun p hp => by
    obtain ⟨x, hx, rfl⟩ := List.mem_map.1 hp
    have := codeI_bd x.1 x.2
    exact WalkArith.wf_i64 (by simp only [cod]; omega)
  clear h hok hnd
  go_enter Tryz.func107, Tryz.ntmps107
  go_wp2_with fail
  refine (keysN b _).mono ?_
  rintro e w1 ⟨rfl, hw1⟩
  have b1 : Below w.heap.size w w1 := by rw [hw1]; exact (Below.refl _ _).alloc (Nat.le_refl _) _
  have c1 : w1.cell? ⟨w.heap.size, 0, none⟩ = some (.map (some b)) := by rw [hw1]; simp [go_sem]
  have s1 : w1.heap.size = w.heap.size + 1 := by rw [hw1]; simp
  have HB1 : Hid (Below w.heap.size w w1) := b1
  have C1 : Hid (w1.cell? ⟨w.heap.size, 0, none⟩ = some (.map (some b))) := c1
  clear hw1 b1 c1
  go_wp2_with fail
  refine (sortedN b w.heap.size (nEnts os) _ (HM.out.keep HB1.out) hwf.out (by simp [nEnts]; omega) (by omega) C1.out).mono ?_
  rintro e w2 ⟨v, ss, rfl, hp, own, bel⟩
  have hlen : ss.length = os.length := by have := hp.length_eq; simpa [nEnts] using this
  have hpc : ss.Perm (os.map cod) := by
    have e1 : (nEnts os).map (·.1) = os.map cod := by simp [nEnts, List.map_map, Function.comp_def]
    rw [e1] at hp; exact hp
  obtain ⟨sl, hsl⟩ : ∃ sl, sl = ss.mergeSort (fun x y => decide (x ≤ y)) := ⟨_, rfl⟩
  rw [← hsl] at own
  have hslen : sl.length = ss.length := by rw [hsl]; exact List.length_mergeSort _
  have hslm : ∀ c ∈ sl, c ∈ os.map cod := fun c hc => hpc.mem_iff.1 (by rw [hsl] at hc; exact (List.mergeSort_perm ss _).mem_iff.1 hc)
  have HSL : Hid (∀ c ∈ sl, c ∈ os.map cod) := hslm
  obtain ⟨rs, hrs⟩ : ∃ rs, rs = sl.map (nodeOf os) := ⟨_, rfl⟩
  have hrl : rs.length = ss.length := by rw [hrs, List.length_map, hslen]
  have HRS : Hid (Asc rs ∧ (∀ z, z ∈ rs ↔ z ∈ os)) := sorted_nodes HOK.out.1 hpc HOK.out.2 (by
    rw [hrs, List.map_map, ← hsl]
    have : sl.map (cod ∘ nodeOf os) = sl.map id := List.map_congr_left (fun c hc => (nodeOf_in (hslm c hc)).2)
    rw [this, List.map_id]) (fun r hr => by
    rw [hrs] at hr
    obtain ⟨c, hc, rfl⟩ := List.mem_map.1 hr
    exact (nodeOf_in (hslm c hc)).1)
  have HRG : Hid (∀ k c, sl[k]? = some c → rs[k]? = some (nodeOf os c)) := fun k c hc => by rw [hrs, List.getElem?_map, hc]; rfl
  have HW2 : Hid (Below w.heap.size w w2) := HB1.out.trans (bel.mono (by omega))
  have HM2 : Hid (MapAt w2 b (nEnts os)) := HM.out.keep HW2.out
  have s2 : w.heap.size ≤ w2.heap.size := HW2.out.size
  obtain ⟨va, vc, rfl⟩ := own_form own
  have HOW : Hid (w2.ownsRow w1.heap.size 3 1 (.slice va ss.length vc) ss.length (sl.map (Value.int .i64))) := own
  clear own hpc hsl hslm hrs bel hp
  obtain ⟨n, hn⟩ : ∃ n, n = ss.length := ⟨_, rfl⟩
  have hn5 : n ≤ 100000 := by omega
  have HN : Hid (n = ss.length) := hn
  rw [← hn]
  clear hn
  go_wp2_with fail
  go_loopw [3, 10] (fun v i wr => ∃ k : Nat, k ≤ n ∧ i = .int .i64 k ∧ Below w2.heap.size w2 wr ∧ wr.ownsRow w2.heap.size 46 2 v k ((rs.take k).flatMap encNode)) (fun _ i _ => n - (intOf i).toNat)
  case atStart => exact ⟨0, by omega, rfl, Below.refl _ _, World.ownsRow_nil _ _ _ _⟩
  case round =>
    obtain ⟨k, hk, rfl, hbel, hown⟩ := hrel
    by_cases hlt2 : k < n
    · have hks : k < sl.length := by have := HN.out; omega
      obtain ⟨c, hc⟩ : ∃ c, sl[k]? = some c := ⟨_, List.getElem?_eq_getElem hks⟩
      have hcm := HSL.out c (List.mem_of_getElem? hc)
      obtain ⟨m0, m1, hnode⟩ : ∃ m0 m1, nodeOf os c = (m0, m1) := ⟨_, _, rfl⟩
      have HX : Hid (rs[k]? = some (m0, m1)) := by have := HRG.out k c hc; rw [hnode] at this; exact this
      obtain ⟨g, hva, e0⟩ : ∃ g, va = some ⟨g, 0, none⟩ ∧ wr.cell? ⟨g, k, none⟩ = some (.int .i64 c) := by
        obtain ⟨q1, ⟨q2, q3⟩ | ⟨g, cp, cur, qv, qb, qg, q4, q5, q6, q7⟩⟩ := HOW.out
        · have := HN.out; omega
        · refine ⟨g, by injection qv, ?_⟩
          rw [Below.celz hbel _ _ _ (lt_of_block qg), cell_block qg]
          have h1 := congrArg (fun l => l[k]?) q7
          simp only [List.getElem?_map, hc, Option.map_some, List.getElem?_take] at h1
          split at h1
          · simpa using h1
          · cases h1
      subst hva
      have hlook : (Instr.lookup 131 (.map (some b)) (.int .i64 c) false).run Tryz.prog wr = .ok (.agg #[.int .i64 m0, .int .i64 m1]) wr := by
        rw [(HM2.out.keep hbel).get und_mn und_int (zero_node wr) c, lkp_nodeOf HOK.out.1 hcm, hnode]
        rfl
      have k0 : (0 : Int) ≤ (k : Int) := by omega
      have k1 : (k : Int) < (n : Int) := by omega
      have hsz := hbel.size
      have HB : Hid (Below w2.heap.size w2 wr) := hbel
      obtain ⟨xa, xc, rfl⟩ := own_form hown
      have lt0 := fun g hg => (hown.lt g hg).1
      have LT : Hid (∀ g, (Value.slice xa k xc).ownBlock = some g → w2.heap.size ≤ g) := lt0
      have z1 : g < wr.heap.size := by have := World.block_lt_of_cell? _ _ e0; simpa using this
      clear hc hcm hnode hbel lt0
      go_wp2_with (at_builtin; refine wpList_append_own _ rfl _ _ 23 rfl w2.heap.size 46 iN _ 2 16 Tryz.underlying23 jN zN0 zN1 zN2 rfl (by decide) _ _ _ rfl (hown.alloc _) ⟨wr.heap.size, 0, none⟩ 1 1 [.int .i64 m0, .int .i64 m1] rfl rfl ?c1 ?c2 ?c3 ?c4 ?c5 ?_)
      case c1 =>
        intro j u hj
        match j, hj with
        | 0, hj => simp at hj; subst hj; simp [Addr.add]
        | 1, hj => simp at hj; subst hj; simp [Addr.add]
      case c2 => intro u hu; simp at hu; rcases hu with rfl | rfl <;> rfl
      case c3 => unfold maxLen; omega
      case c4 => omega
      case c5 => simp; omega
      · intro v' w3 hown' hgrow _
        have htk : rs.take (k + 1) = rs.take k ++ [(m0, m1)] := by rw [List.take_add_one, HX.out]; rfl
        have R : Hid (Below w2.heap.size w2 w3 ∧ w3.ownsRow w2.heap.size 46 2 v' (k + 1) ((rs.take (k + 1)).flatMap encNode)) :=
          ⟨(HB.out.alloc (by omega) _).grown hgrow (by simp; omega) LT.out, by rw [htk]; simpa [List.flatMap_append, encNode] using hown'⟩
        clear hown' hgrow hown htk hlook
        go_wp2_with fail
        go_roundw
        case rel => exact ⟨k + 1, by omega, by go_num, R.out⟩
        case measure => simp [intOf]; omega
    · have hkn : k = n := by omega
      have htk : rs.take k = rs := by rw [hkn, HN.out, ← hrl]; exact List.take_length
      rw [htk] at hown
      subst hkn
      go_wp2_with fail
      go_ret
      exact ⟨_, rs, rfl, HRS.out.1, HRS.out.2, by omega, by rw [hrl, ← HN.out]; exact own_mono hown s2, HW2.out.trans (hbel.mono s2)⟩
end Go.Proofs.YtlnpbfeihjfnjaaGreatDoor.Lab
namespace Go.Proofs.YtlnpbfeihjfnjaaGreatDoor.Lab
open Go.RowKit Go.ChangeMaps
set_option linter.unusedVariables false
theorem new_at' {w : World} {o : Obj} {S : Nat} (h : S = w.heap.size) : (w.alloc o).heap[S]? = some o := by subst h; exact new_block w o
/-- What otherEnd answers. -/
def othV (o : Option Nd) : Value := .tuple #[.agg #[.int .i64 (o.getD (0, 0)).1, .int .i64 (o.getD (0, 0)).2], .bool o.isSome]
set_option maxRecDepth 8000 in
set_option maxHeartbeats 4000000 in
theorem otherEnd (l al an bl bn nl nn : Int) (w : World) :
    Calls Tryz.prog 181 #[.agg #[.int .i64 l, .int .i64 al, .int .i64 an, .int .i64 bl, .int .i64 bn], .agg #[.int .i64 nl, .int .i64 nn]] w fun e w' => e = .returned (othV (otherI (l, al, an, bl, bn) (nl, nn))) ∧ Below w.heap.size w w' := by
  have b0 : Hid (∀ o1 o2 o3, Below w.heap.size w (((w.alloc o1).alloc o2).alloc o3)) := fun o1 o2 o3 => by go_grown
  by_cases hA : nl = al ∧ nn = an
  · obtain ⟨rfl, rfl⟩ := hA
    have HO : Hid (otherI (l, nl, nn, bl, bn) (nl, nn) = some (bl, bn)) := by show otherI (l, nl, nn, bl, bn) (nl, nn) = some (bl, bn); simp [otherI]
    go_enter Tryz.func181, Tryz.ntmps181
    go_wp2_with fail
    refine bodyPost_ret (v := .tuple #[.agg #[.int .i64 bl, .int .i64 bn], .bool true]) (by simp [*, results, Tryz.results181, go_sem]) rfl ⟨by rw [HO.out]; rfl, ?_⟩
    go_grown
  · have HA : Hid (¬ (nl = al ∧ nn = an)) := hA
    by_cases hB : nl = bl ∧ nn = bn
    · obtain ⟨rfl, rfl⟩ := hB
      have HO : Hid (otherI (l, al, an, nl, nn) (nl, nn) = some (al, an)) := by show otherI (l, al, an, nl, nn) (nl, nn) = some (al, an); simp [otherI, Prod.mk.injEq, hA]
      by_cases h1 : nl = al
      · subst h1
        have d1 : (nn == an) = false := beq_eq_false_iff_ne.2 (fun e => hA ⟨rfl, e⟩)
        clear hA
        go_enter Tryz.func181, Tryz.ntmps181
        go_wp2_with fail
        refine bodyPost_ret (v := .tuple #[.agg #[.int .i64 nl, .int .i64 an], .bool true]) (by simp [*, results, Tryz.results181, go_sem]) rfl ⟨by rw [HO.out]; rfl, ?_⟩
        go_grown
      · have d1 : (nl == al) = false := beq_eq_false_iff_ne.2 h1
        clear hA h1
        go_enter Tryz.func181, Tryz.ntmps181
        go_wp2_with fail
        refine bodyPost_ret (v := .tuple #[.agg #[.int .i64 al, .int .i64 an], .bool true]) (by simp [*, results, Tryz.results181, go_sem]) rfl ⟨by rw [HO.out]; rfl, ?_⟩
        go_grown
    · have HO : Hid (otherI (l, al, an, bl, bn) (nl, nn) = none) := by show otherI (l, al, an, bl, bn) (nl, nn) = none; simp [otherI, Prod.mk.injEq, hA, hB]
      by_cases h1 : nl = al
      · subst h1
        have d1 : (nn == an) = false := beq_eq_false_iff_ne.2 (fun e => hA ⟨rfl, e⟩)
        clear hA
        by_cases h2 : nl = bl
        · subst h2
          have d2 : (nn == bn) = false := beq_eq_false_iff_ne.2 (fun e => hB ⟨rfl, e⟩)
          clear hB
          go_enter Tryz.func181, Tryz.ntmps181
          go_wp2_with fail
          refine bodyPost_ret (v := .tuple #[.agg #[.int .i64 0, .int .i64 0], .bool false]) (by simp [*, results, Tryz.results181, go_sem]) rfl ⟨by rw [HO.out]; rfl, ?_⟩
          go_grown
        · have d2 : (nl == bl) = false := beq_eq_false_iff_ne.2 h2
          clear hB h2
          go_enter Tryz.func181, Tryz.ntmps181
          go_wp2_with fail
          refine bodyPost_ret (v := .tuple #[.agg #[.int .i64 0, .int .i64 0], .bool false]) (by simp [*, results, Tryz.results181, go_sem]) rfl ⟨by rw [HO.out]; rfl, ?_⟩
          go_grown
      · have d1 : (nl == al) = false := beq_eq_false_iff_ne.2 h1
        clear hA h1
        by_cases h2 : nl = bl
        · subst h2
          have d2 : (nn == bn) = false := beq_eq_false_iff_ne.2 (fun e => hB ⟨rfl, e⟩)
          clear hB
          go_enter Tryz.func181, Tryz.ntmps181
          go_wp2_with fail
          refine bodyPost_ret (v := .tuple #[.agg #[.int .i64 0, .int .i64 0], .bool false]) (by simp [*, results, Tryz.results181, go_sem]) rfl ⟨by rw [HO.out]; rfl, ?_⟩
          go_grown
        · have d2 : (nl == bl) = false := beq_eq_false_iff_ne.2 h2
          clear hB h2
          go_enter Tryz.func181, Tryz.ntmps181
          go_wp2_with fail
          refine bodyPost_ret (v := .tuple #[.agg #[.int .i64 0, .int .i64 0], .bool false]) (by simp [*, results, Tryz.results181, go_sem]) rfl ⟨by rw [HO.out]; rfl, ?_⟩
          go_grown
theorem RangeAt.left {w : World} {r b : Nat} {es L : List (Int × Value)} (h : RangeAt w r b es L) : w.rangeLeft b r = L.length := by
  obtain ⟨ents, clock, since, seen, c0, h1, h2, h3, h4, h5, h6, h7, h8⟩ := h
  have := congrArg List.length h8
  simp only [World.rangeLeft, h1, h4]
  simpa using this
theorem eVal_inj {x y : Ed} (h : eVal x = eVal y) : x = y := by
  obtain ⟨a, b, c, d, e⟩ := x
  obtain ⟨a', b', c', d', e'⟩ := y
  simp [eVal] at h
  simp [h]
end Go.Proofs.YtlnpbfeihjfnjaaGreatDoor.Lab

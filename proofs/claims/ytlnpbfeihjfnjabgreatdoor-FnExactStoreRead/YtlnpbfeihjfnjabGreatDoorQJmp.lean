/-
  Maps from numbers to rows of numbers: a row that a key keeps grows. No function of the program in sight.
-/
import Derived.Test.YtlnpbfeihjfnjabGreatDoorQMap
import Derived.Test.YtlnpbfeihjfnjabGreatDoorQIts
import Derived.Test.YtlnpbfeihjfnjabGreatDoorQRgr
namespace Go.Proofs.YtlnpbfeihjfnjabGreatDoor.Lab
open Go.RowKit Go.ChangeMaps
set_option linter.unusedVariables false
def setK (es : List (Int × Value)) (key : Int) (val : Value) : List (Int × Value) := es.map (fun p => if p.1 = key then (key, val) else p)
theorem lkp_mem : ∀ {es : List (Int × Value)} {k : Int} {v : Value}, lkp es k = some v → (k, v) ∈ es
  | [], k, v, h => by cases h
  | p :: es, k, v, h => by
    simp only [lkp] at h
    split at h
    · rename_i hk
      cases h
      rw [hk]; exact List.mem_cons_self ..
    · exact List.mem_cons_of_mem _ (lkp_mem h)
theorem lkp_none_mem {es : List (Int × Value)} {k : Int} (h : lkp es k = none) : k ∉ es.map (·.1) := fun hm => by
  obtain ⟨p, hp, e⟩ := List.mem_map.1 hm
  exact lkp_none_not h p hp e
theorem MapAt.set {P : Program} {w : World} {b : Nat} {es : List (Int × Value)} {t k e : TypeId} (h : MapAt w b es) (ht : P.underlying t = some (.map k e)) (hk : P.underlying k = some (.int .i64)) {key : Int} {val0 : Value} (hn : lkp es key = some val0) (val : Value) :
    ∃ w', (Instr.mapUpdate t (.map (some b)) (.int .i64 key) val).run P w = .ok () w' ∧ MapAt w' b (setK es key val) ∧ w.grownBy w' (some b) := by
  obtain ⟨ents, clock, h1, h2, h0⟩ := h
  obtain ⟨r, hf, ⟨h4, rfl⟩ | ⟨j, v, h4, rfl⟩⟩ := findNow_int key ents.toList es 0 h2
  · rw [hn] at h4; cases h4
  · rw [hn] at h4
    obtain rfl := Option.some.inj h4
    obtain ⟨en, he, _, hek, hev⟩ := findNow_at key ents.toList es 0 j val0 h2 hf
    have he0 : ents.toList[j]? = some en := by simpa using he
    have he' : ents[j]? = some en := by simpa using he
    have h3 : (Instr.findKey k (.int .i64 key) ents.toList).run P w = .ok (some (j, val0)) w := by simp [Instr.findKey, run_underlying hk, hf]
    have hst : (Instr.keyThatStays (.int .i64 key) (.int .i64 key)).run P w = .ok (.int .i64 key) w := MapKept.run_keyThatStays (d := .int .i64) rfl
    refine ⟨setBlock w b (.map (ents.modify j (fun e => { e with key := .int .i64 key, val := val })) clock), ?_, ⟨_, clock, heap_setBlock_same h1 _, ?_, ?_⟩, ⟨rfl, rfl, rfl, by simp [setBlock], fun i _ hi => heap_setBlock_other h1 _ (fun e => hi (by rw [e]))⟩⟩
    · simp [Instr.mapUpdate, run_underlying ht, MapKept.run_getObj_map h1, run_checkKey hk, h3, he', hek, hst, MapKept.run_setObj_map _ h1, Result.andThen, setBlock]
    · apply List.ext_getElem?
      intro i
      have hi2 := congrArg (fun l => l[i]?) h2
      simp only [List.getElem?_map] at hi2
      simp only [List.getElem?_map, Array.getElem?_toList, Array.getElem?_modify, setK]
      by_cases hij : j = i
      · subst hij
        rw [he0] at hi2
        cases hes : es[j]? with
        | none => rw [hes] at hi2; cases hi2
        | some p =>
          rw [hes] at hi2
          simp only [Option.map_some, Option.some.injEq, Prod.mk.injEq] at hi2
          have hp : p.1 = key := by have := hi2.1; rw [hek] at this; simpa using this.symm
          simp [he', hp]
      · rw [if_neg hij]
        cases hes : es[i]? with
        | none =>
          rw [hes] at hi2
          simp only [Option.map_none, Option.map_eq_none_iff, Array.getElem?_toList] at hi2
          simp [hi2]
        | some p =>
          rw [hes] at hi2
          obtain ⟨x, hx, hxe⟩ := Option.map_eq_some_iff.1 hi2
          simp only [Prod.mk.injEq] at hxe
          have hp : ¬ p.1 = key := fun hpk => by
            obtain ⟨l1, l2⟩ := List.getElem?_eq_some_iff.1 hx
            obtain ⟨l3, l4⟩ := List.getElem?_eq_some_iff.1 he0
            have hnd := List.pairwise_iff_getElem.1 h0.2.2
            have hk1 : x.key = .int .i64 key := by rw [hxe.1, hpk]
            rcases Nat.lt_or_gt_of_ne hij with h | h
            · have := hnd j i (by simpa using l3) (by simpa using l1) h
              simp only [List.getElem_map] at this
              rw [l2, l4, hk1, hek] at this; exact this rfl
            · have := hnd i j (by simpa using l1) (by simpa using l3) h
              simp only [List.getElem_map] at this
              rw [l2, l4, hk1, hek] at this; exact this rfl
          rw [Array.getElem?_toList] at hx
          simp [hx, hp, hxe.1, hxe.2]
    · refine MapKept.stamped_modify h0 j _ (fun _ _ => rfl) (fun e hem hje => ?_)
      rw [he'] at hje
      cases hje
      exact hek.symm
/-- A map that keeps rows of numbers: each key's row is f's; rows lie apart. -/
structure JAt (w : World) (J : Nat) (f : Int → List Int) (kv : List (Int × Value)) : Prop where
  map : MapAt w J kv
  nd : (kv.map (·.1)).Nodup
  row : ∀ p ∈ kv, w.ownsRow (J + 1) 3 1 p.2 (f p.1).length ((f p.1).flatMap encI)
  dom : ∀ c, c ∈ kv.map (·.1) ↔ f c ≠ []
  ap : kv.Pairwise (fun p q => ∀ g, p.2.ownBlock = some g → q.2.ownBlock ≠ some g)
def addF (f : Int → List Int) (c x : Int) : Int → List Int := fun d => if d = c then f c ++ [x] else f d
theorem JAt.keep {w w' : World} {J : Nat} {f : Int → List Int} {kv : List (Int × Value)} (h : JAt w J f kv) (hb : Below w.heap.size w w') : JAt w' J f kv :=
  ⟨h.map.keep hb, h.nd, fun p hp => own_keep (h.row p hp) hb, h.dom, h.ap⟩
theorem ap_of {kv : List (Int × Value)} (hnd : (kv.map (·.1)).Nodup) (hap : kv.Pairwise (fun p q => ∀ g, p.2.ownBlock = some g → q.2.ownBlock ≠ some g)) {p q : Int × Value} (hp : p ∈ kv) (hq : q ∈ kv) (hne : p.1 ≠ q.1) : ∀ g, p.2.ownBlock = some g → q.2.ownBlock ≠ some g := by
  obtain ⟨i, hi, rfl⟩ := List.getElem_of_mem hp
  obtain ⟨j, hj, rfl⟩ := List.getElem_of_mem hq
  have hij : i ≠ j := fun e => hne (by subst e; rfl)
  rcases Nat.lt_or_gt_of_ne hij with h | h
  · exact List.pairwise_iff_getElem.1 hap i j hi hj h
  · intro g h1 h2
    exact List.pairwise_iff_getElem.1 hap j i hj hi h g h2 h1
theorem JAt.get {w : World} {J : Nat} {f : Int → List Int} {kv : List (Int × Value)} (h : JAt w J f kv) (c : Int) :
    ∃ v, (lkp kv c).getD (.slice none 0 0) = v ∧ w.ownsRow (J + 1) 3 1 v (f c).length ((f c).flatMap encI) ∧ ∀ p ∈ kv, p.1 ≠ c → ∀ g, v.ownBlock = some g → p.2.ownBlock ≠ some g := by
  cases hl : lkp kv c with
  | none =>
    have hf : f c = [] := by
      cases hc : f c with
      | nil => rfl
      | cons a l => exact absurd ((h.dom c).2 (by rw [hc]; simp)) (lkp_none_mem hl)
    exact ⟨_, rfl, by rw [hf]; exact World.ownsRow_nil _ _ _ _, fun p _ _ g hg => by simp [Value.ownBlock] at hg⟩
  | some v =>
    have hm := lkp_mem hl
    exact ⟨v, rfl, h.row _ hm, fun p hp hne g hg => ap_of h.nd h.ap hm hp (fun e => hne e.symm) g hg⟩
theorem setK_keys {kv : List (Int × Value)} (c : Int) (v : Value) : (setK kv c v).map (·.1) = kv.map (·.1) := by
  unfold setK
  rw [List.map_map]
  refine List.map_congr_left (fun p hp => ?_)
  simp only [Function.comp]
  split
  · rename_i h; exact h.symm
  · rfl
theorem JAt.put {P : Program} {w w1 w3 : World} {J : Nat} {f : Int → List Int} {kv : List (Int × Value)} {t k e : TypeId} (h : JAt w J f kv) (ht : P.underlying t = some (.map k e)) (hk : P.underlying k = some (.int .i64)) (c x : Int) {v v' : Value} (hv : (lkp kv c).getD (.slice none 0 0) = v)
    (hb1 : Below w.heap.size w w1) (hg : w1.grownBy w3 v.ownBlock) (ho : w3.ownsRow (J + 1) 3 1 v' ((f c).length + 1) ((f c).flatMap encI ++ [.int .i64 x])) (hat : v'.ownBlock = v.ownBlock ∨ ∃ k, v'.ownBlock = some k ∧ w.heap.size ≤ k) :
    ∃ w' kv', (Instr.mapUpdate t (.map (some J)) (.int .i64 c) v').run P w3 = .ok () w' ∧ w3.grownBy w' (some J) ∧ JAt w' J (addF f c x) kv' := by
  obtain ⟨v0, hv0, hown, hapv⟩ := h.get c
  rw [hv] at hv0
  subst hv0
  have hJ := h.map.lt
  have hlow := fun g hg => (hown.lt g hg).1
  have hm3 : MapAt w3 J kv := (h.map.keep hb1).of (hg.block J (Nat.lt_of_lt_of_le hJ hb1.size) (fun e => by have := hlow J e.symm; omega))
  have hne' : ∀ g, v'.ownBlock = some g → g ≠ J := fun g hg => by have := (ho.lt g hg).1; omega
  have oth : ∀ p ∈ kv, p.1 ≠ c → w3.ownsRow (J + 1) 3 1 p.2 (f p.1).length ((f p.1).flatMap encI) := fun p hp hpc =>
    own_gr (own_keep (h.row p hp) hb1) hg (fun k h1 h2 => hapv p hp hpc k h2 h1)
  have apn : ∀ p ∈ kv, p.1 ≠ c → ∀ g, v'.ownBlock = some g → p.2.ownBlock ≠ some g := fun p hp hpc g hg hpg => by
    rcases hat with e | ⟨j, e, hj⟩
    · exact hapv p hp hpc g (by rw [← e]; exact hg) hpg
    · rw [e] at hg; cases hg
      have := ((h.row p hp).lt _ hpg).2; omega
  have kept : ∀ {w' : World}, w3.grownBy w' (some J) → (∀ p ∈ kv, p.1 ≠ c → w'.ownsRow (J + 1) 3 1 p.2 (addF f c x p.1).length ((addF f c x p.1).flatMap encI)) ∧ w'.ownsRow (J + 1) 3 1 v' (addF f c x c).length ((addF f c x c).flatMap encI) := fun hg' => by
    refine ⟨fun p hp hpc => ?_, ?_⟩
    · have h1 : addF f c x p.1 = f p.1 := by unfold addF; rw [if_neg hpc]
      rw [h1]
      exact own_gr (oth p hp hpc) hg' (fun k h1 h2 => by cases h2; have := ((oth p hp hpc).lt _ h1).1; omega)
    · have h1 : addF f c x c = f c ++ [x] := by unfold addF; rw [if_pos rfl]
      rw [h1, List.length_append, List.flatMap_append]
      have := own_gr ho hg' (fun k h1 h2 => by cases h2; exact hne' _ h1 rfl)
      simpa [encI] using this
  cases hl : lkp kv c with
  | none =>
    obtain ⟨w', r1, r2, r3⟩ := hm3.push ht hk hl v'
    obtain ⟨k1, k2⟩ := kept r3
    have hnc := lkp_none_mem hl
    have hpc : ∀ p ∈ kv, p.1 ≠ c := fun p hp e => hnc (List.mem_map.2 ⟨p, hp, e⟩)
    refine ⟨w', kv ++ [(c, v')], r1, r3, r2, ?_, ?_, ?_, ?_⟩
    · rw [List.map_append]
      refine List.nodup_append.2 ⟨h.nd, by simp, fun a ha b hb => ?_⟩
      simp at hb
      subst hb
      exact fun e => hnc (e ▸ ha)
    · intro p hp
      rcases List.mem_append.1 hp with hp | hp
      · exact k1 p hp (hpc p hp)
      · simp at hp; subst hp; exact k2
    · intro d
      rw [List.map_append, List.mem_append]
      unfold addF
      by_cases hd : d = c
      · subst hd; simp
      · rw [if_neg hd, h.dom]; simp [hd]
    · refine List.pairwise_append.2 ⟨h.ap, by simp, fun p hp q hq => ?_⟩
      simp at hq
      subst hq
      exact fun g h1 h2 => apn p hp (hpc p hp) g h2 h1
  | some v0 =>
    obtain ⟨w', r1, r2, r3⟩ := hm3.set ht hk hl v'
    obtain ⟨k1, k2⟩ := kept r3
    refine ⟨w', setK kv c v', r1, r3, r2, by rw [setK_keys]; exact h.nd, ?_, ?_, ?_⟩
    · intro p hp
      obtain ⟨q, hq, rfl⟩ := List.mem_map.1 hp
      split
      · exact k2
      · rename_i hqc; exact k1 q hq hqc
    · intro d
      rw [setK_keys]
      unfold addF
      by_cases hd : d = c
      · subst hd
        have : d ∈ kv.map (·.1) := List.mem_map.2 ⟨_, lkp_mem hl, rfl⟩
        simp [this]
      · rw [if_neg hd, h.dom]
    · unfold setK
      rw [List.pairwise_map]
      have hmm := h.ap
      have hnd := List.pairwise_map.1 h.nd
      refine (List.Pairwise.and hmm hnd).imp_of_mem ?_
      intro p q hp hq hpq g h1 h2
      obtain ⟨h3, h4⟩ := hpq
      by_cases hpc : p.1 = c
      · have hqc : ¬ q.1 = c := fun e => h4 (hpc.trans e.symm)
        rw [if_pos hpc] at h1
        rw [if_neg hqc] at h2
        exact apn q hq hqc g h1 h2
      · rw [if_neg hpc] at h1
        by_cases hqc : q.1 = c
        · rw [if_pos hqc] at h2
          exact apn p hp hpc g h2 h1
        · rw [if_neg hqc] at h2
          exact h3 g h1 h2
end Go.Proofs.YtlnpbfeihjfnjabGreatDoor.Lab

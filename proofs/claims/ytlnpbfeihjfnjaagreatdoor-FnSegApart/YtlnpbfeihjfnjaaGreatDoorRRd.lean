/-
  A label's bytes read back, in plain words: the edges that the rows tell are the label's own; so bytes tell labels' parts apart.
  DERIVED: THE SHELF's CONTRACTS AT THIS DUMP, IN PLAIN WORDS (tools/lay-plain.mjs out of 'YtlnpbfeihjfnjaaGreatDoorSrt.lean', which tools/lay-shelf.mjs wrote): THE SAME DECLARATIONS UNDER THE SAME NAMES: 'import', 'namespace', 'open', 'def', 'theorem' AND NOTHING ELSE: no command of the shelf's: FOR A HAND-IN. Each laying: the table of numbers ('.._ren') and one theorem, a field a fact of the dump's own or the kernel's comparison; each contract: ONE APPLICATION.
  Readers of lists of numbers in the laws: eqIntS, markIntS, heldIntS; wpInts.
-/
import Derived.Test.YtlnpbfeihjfnjaaGreatDoorRGrp
import Derived.Shelf.SlIterI.Nil
import Derived.Shelf.SortM.Plain
import Derived.Shelf.SortM.SortNone
import Derived.Ground.GgzProg
import Derived.Ground.SlgmProg
import Derived.Test.YtlnpbfeihjfnjaaGreatDoorProg
import Derived.Test.YtlnpbfeihjfnjaaGreatDoorPlain
import Derived.Test.YtlnpbfeihjfnjaaGreatDoorRows
import Derived.WalkKit
import Derived.WalkSpells
import Derived.WalkLawsBesides
import Derived.Deep.QuietTactic
import Derived.BigQuiet
namespace Go.Proofs.YtlnpbfeihjfnjaaGreatDoor.Lab
open Go.RowKit
set_option linter.unusedVariables false
theorem putIn_ne' (acc : List Nd) (o : Nd) : putIn acc o ≠ [] := by
  intro h
  unfold putIn at h
  split at h
  · next hm => rw [h] at hm; simp at hm
  · have hm : o ∈ insN o acc := mem_insN.2 (.inl rfl)
    rw [h] at hm
    simp at hm
theorem onlyF_ne' {es : List Ed} (h : es ≠ []) : onlyF es ≠ [] := by
  have H : ∀ (t : List Ed) (acc : List Nd), acc ≠ [] → t.foldl onlyStep acc ≠ [] := by
    intro t
    induction t with
    | nil => intro acc ha; exact ha
    | cons x t ih => intro acc _; exact ih _ (putIn_ne' _ _)
  cases es with
  | nil => exact absurd rfl h
  | cons x t => exact H t _ (putIn_ne' _ _)
theorem asc_key_ext {α : Type} (f : α → Int) : ∀ {xs ys : List α}, xs.Pairwise (fun a b => f a < f b) → ys.Pairwise (fun a b => f a < f b) → (∀ z, z ∈ xs ↔ z ∈ ys) → xs = ys
  | [], [], _, _, _ => rfl
  | [], y :: ys, _, _, h => by have := (h y).2 (List.mem_cons_self ..); cases this
  | x :: xs, [], _, _, h => by have := (h x).1 (List.mem_cons_self ..); cases this
  | x :: xs, y :: ys, hx, hy, h => by
    obtain ⟨h1, h2⟩ := List.pairwise_cons.1 hx
    obtain ⟨h3, h4⟩ := List.pairwise_cons.1 hy
    have e : x = y := by
      rcases List.mem_cons.1 ((h x).1 (List.mem_cons_self ..)) with e | hm
      · exact e
      · rcases List.mem_cons.1 ((h y).2 (List.mem_cons_self ..)) with e | hm2
        · exact e.symm
        · have := h3 x hm; have := h1 y hm2; omega
    subst e
    congr 1
    refine asc_key_ext f h2 h4 (fun z => ⟨fun hz => ?_, fun hz => ?_⟩)
    · rcases List.mem_cons.1 ((h z).1 (List.mem_cons_of_mem _ hz)) with e | hm
      · subst e; have := h1 z hz; omega
      · exact hm
    · rcases List.mem_cons.1 ((h z).2 (List.mem_cons_of_mem _ hz)) with e | hm
      · subst e; have := h3 z hz; omega
      · exact hm
theorem cod_back {n : Nd} (h : nodeB n.1 n.2 = true) : cod n / 64 = n.1 ∧ cod n % 64 = n.2 := by
  have e : cod n = 64 * n.1 + n.2 := by unfold cod codeI; rw [if_pos h]
  have b := nodeB_true h
  rw [e]
  omega
theorem rowE_eq {a : Int} {n : Nd} {ms : List Nd} (hn : nodeB n.1 n.2 = true) (hm : ∀ m ∈ ms, nodeB m.1 m.2 = true) : rowE a (cod n) (ms.map cod) = (ms.filter (fun m => decide (cod n < cod m))).map (fun m => (a, n.1, n.2, m.1, m.2)) := by
  unfold rowE
  rw [List.filter_map, List.map_map]
  refine List.map_congr_left (fun m hmm => ?_)
  have h1 := cod_back hn
  have h2 := cod_back (hm m (List.mem_filter.1 hmm).1)
  simp only [Function.comp]
  rw [h1.1, h1.2, h2.1, h2.2]
/-- The edges that the rows tell are the label's own. -/
theorem edges_back {ee : List Ed} {a : Int} (h : One1 ee) (ha : ∀ x ∈ ee, x.1 = a) : (onlyF ee).flatMap (fun n => rowE a (cod n) ((nearF n ee).map cod)) = ee := by
  have hon := onlyF_ok h.1
  have hnear : ∀ n m, m ∈ nearF n ee → nodeB m.1 m.2 = true := fun n m hm => by
    obtain ⟨y, hy, ho⟩ := (nearF_mem h.1 m).1 hm
    have e1 : otherI y n = if n = eA y then some (eB y) else if n = eB y then some (eA y) else none := rfl
    rw [e1] at ho
    have hy2 := ends_ok (h.1 y hy)
    split at ho
    · have := Option.some.inj ho; subst this; exact hy2.2.1
    · split at ho
      · have := Option.some.inj ho; subst this; exact hy2.1
      · cases ho
  have hrow : ∀ n ∈ onlyF ee, rowE a (cod n) ((nearF n ee).map cod) = ((nearF n ee).filter (fun m => decide (cod n < cod m))).map (fun m => (a, n.1, n.2, m.1, m.2)) := fun n hn => rowE_eq (hon n hn) (fun m hm => hnear n m hm)
  have hin : ∀ n m, n ∈ onlyF ee → m ∈ nearF n ee → cod n < cod m → (a, n.1, n.2, m.1, m.2) ∈ ee := fun n m hn hm hlt => by
    obtain ⟨y, hy, ho⟩ := (nearF_mem h.1 m).1 hm
    have e1 : otherI y n = if n = eA y then some (eB y) else if n = eB y then some (eA y) else none := rfl
    rw [e1] at ho
    have hy2 := ends_ok (h.1 y hy)
    split at ho
    · rename_i h1
      have h2 := Option.some.inj ho
      have e : (a, n.1, n.2, m.1, m.2) = y := by
        rw [h1, ← h2, ← ha y hy]; rfl
      rw [e]; exact hy
    · split at ho
      · rename_i _ h1
        have h2 := Option.some.inj ho
        rw [h1, ← h2] at hlt
        omega
      · cases ho
  refine asc_key_ext eco ?_ h.2.1 (fun z => ?_)
  · rw [List.pairwise_flatMap]
    refine ⟨fun n hn => ?_, ?_⟩
    · rw [hrow n hn, List.pairwise_map]
      refine List.Pairwise.imp_of_mem ?_ ((nearF_asc (n := n) h.1).filter _)
      intro m1 m2 h1 h2 hlt
      obtain ⟨h1a, h1b⟩ := List.mem_filter.1 h1
      obtain ⟨h2a, h2b⟩ := List.mem_filter.1 h2
      have x1 := h.1 _ (hin n m1 hn h1a (of_decide_eq_true h1b))
      have x2 := h.1 _ (hin n m2 hn h2a (of_decide_eq_true h2b))
      rw [eco_eq x1, eco_eq x2]
      have hlt : cod m1 < cod m2 := hlt
      show (a * 512 + cod (n.1, n.2)) * 512 + cod (m1.1, m1.2) < (a * 512 + cod (n.1, n.2)) * 512 + cod (m2.1, m2.2)
      have e1 : ((m1.1, m1.2) : Nd) = m1 := rfl
      have e2 : ((m2.1, m2.2) : Nd) = m2 := rfl
      rw [e1, e2]; omega
    · refine List.Pairwise.imp_of_mem ?_ (onlyF_asc h.1)
      intro n1 n2 hn1 hn2 hlt x hx y hy
      rw [hrow n1 hn1] at hx
      rw [hrow n2 hn2] at hy
      obtain ⟨m1, hm1, rfl⟩ := List.mem_map.1 hx
      obtain ⟨m2, hm2, rfl⟩ := List.mem_map.1 hy
      obtain ⟨h1a, h1b⟩ := List.mem_filter.1 hm1
      obtain ⟨h2a, h2b⟩ := List.mem_filter.1 hm2
      have x1 := h.1 _ (hin n1 m1 hn1 h1a (of_decide_eq_true h1b))
      have x2 := h.1 _ (hin n2 m2 hn2 h2a (of_decide_eq_true h2b))
      rw [eco_eq x1, eco_eq x2]
      have hlt : cod n1 < cod n2 := hlt
      show (a * 512 + cod (n1.1, n1.2)) * 512 + cod (m1.1, m1.2) < (a * 512 + cod (n2.1, n2.2)) * 512 + cod (m2.1, m2.2)
      have e1 : ((n1.1, n1.2) : Nd) = n1 := rfl
      have e2 : ((n2.1, n2.2) : Nd) = n2 := rfl
      have b1 := cod_bd (m1.1, m1.2)
      have b2 := cod_bd (m2.1, m2.2)
      rw [e1, e2]; omega
  · rw [List.mem_flatMap]
    constructor
    · rintro ⟨n, hn, hz⟩
      rw [hrow n hn] at hz
      obtain ⟨m, hm, rfl⟩ := List.mem_map.1 hz
      obtain ⟨h1a, h1b⟩ := List.mem_filter.1 hm
      exact hin n m hn h1a (of_decide_eq_true h1b)
    · intro hz
      have he := ends_ok (h.1 z hz)
      have hn : eA z ∈ onlyF ee := (onlyF_mem h.1 _).2 ⟨z, hz, .inl rfl⟩
      refine ⟨eA z, hn, ?_⟩
      rw [hrow _ hn]
      refine List.mem_map.2 ⟨eB z, List.mem_filter.2 ⟨(nearF_mem h.1 _).2 ⟨z, hz, ?_⟩, decide_eq_true he.2.2⟩, ?_⟩
      · show (if eA z = eA z then some (eB z) else _) = some (eB z)
        rw [if_pos rfl]
      · rw [← ha z hz]; rfl
theorem segL_nil {ns : List Nd} {es : List Ed} (h : GOk ns es) {a : Int} : segL a ns es = [] ↔ numsL a ns = [] ∧ ofE a es = [] := by
  have hne : segK a ns es (onlyF (ofE a es)).length ≠ [] := by
    unfold segK
    intro hh
    simp only [List.append_eq_nil_iff] at hh
    have h2 := (pkL_nil _).1 hh.1.2
    have h3 := onlyF_len (es := ofE a es) ((ofE_one h a).1.1)
    have h4 := (ofE_one h a).2
    omega
  unfold segL
  constructor
  · intro hh
    split at hh
    · rename_i hc
      refine ⟨hc.1, ?_⟩
      by_cases e : ofE a es = []
      · exact e
      · exact absurd hc.2 (onlyF_ne' e)
    · exact absurd hh hne
  · rintro ⟨h1, h2⟩
    rw [if_pos ⟨h1, by rw [h2]; rfl⟩]
/-- Bytes tell labels' parts apart. -/
theorem segL_inj {ns ms : List Nd} {es fs : List Ed} (h : GOk ns es) (k : GOk ms fs) {a : Int} (he : segL a ns es = segL a ms fs) : numsL a ns = numsL a ms ∧ ofE a es = ofE a fs := by
  by_cases hn : segL a ns es = []
  · have h1 := (segL_nil h).1 hn
    have h2 := (segL_nil k).1 (he ▸ hn)
    exact ⟨h1.1.trans h2.1.symm, h1.2.trans h2.2.symm⟩
  · have g1 := gf_seg h a hn
    have g2 := gf_seg k a (he ▸ hn)
    rw [← he, g1] at g2
    simp only [Option.some.injEq, Prod.mk.injEq] at g2
    refine ⟨?_, ?_⟩
    · have := congrArg (List.map (fun x : Nd => x.2)) g2.1
      simpa [List.map_map, Function.comp_def] using this
    · have e1 := edges_back (a := a) (ofE_one h a).1 (fun x hx => by have := (List.mem_filter.1 hx).2; simpa using this)
      have e2 := edges_back (a := a) (ofE_one k a).1 (fun x hx => by have := (List.mem_filter.1 hx).2; simpa using this)
      rw [← e1, ← e2]
      exact g2.2.1
theorem bytes_eq (l m : List UInt8) : (({ data := l.toArray } : ByteArray) == { data := m.toArray }) = decide (l = m) := by
  have e : (({ data := l.toArray } : ByteArray) == { data := m.toArray }) = (l.toArray == m.toArray) := by first | rfl | simp [BEq.beq, instBEqByteArray.beq]
  rw [e]
  by_cases h : l = m
  · subst h; simp
  · rw [decide_eq_false h, beq_eq_false_iff_ne]
    intro e2
    exact h (by simpa using e2)
end Go.Proofs.YtlnpbfeihjfnjaaGreatDoor.Lab
namespace Go.Proofs
open Go.Shelf
def Tryz.keysN_ren : Go.Shelf.Ren := ⟨fun | 7 => 132 | 10 => 149 | n => n, fun | 23 => 131 | 26 => 3 | 3 => 46 | 28 => 94 | 0 => 0 | 27 => 93 | 33 => 43 | 4 => 4 | n => n, fun | n => n⟩
theorem Tryz.keysN : Go.Proofs.SlLaysZI.n7 Tryz.prog Tryz.keysN_ren := {
  mixed := by kernel_rfl
  f7 := ⟨Tryz.f132.name, by decide, Tryz.func132.trans (congrArg some (by kernel_rfl))⟩
  f10 := ⟨Tryz.f149.name, by decide, Tryz.func149.trans (congrArg some (by kernel_rfl))⟩
  t0 := Tryz.underlying0
  a0 := Tryz.isAgg0
  z0 := Tryz.sizeOf0
  v0 := Tryz.zeroValue0
  t4 := Tryz.underlying4
  a4 := Tryz.isAgg4
  z4 := Tryz.sizeOf4
  v4 := Tryz.zeroValue4
  t23 := Tryz.underlying131
  a23 := Tryz.isAgg131
  z23 := Tryz.sizeOf131
  v23 := Tryz.zeroValue131
  t26 := Tryz.underlying3
  a26 := Tryz.isAgg3
  z26 := Tryz.sizeOf3
  v26 := Tryz.zeroValue3
  t27 := Tryz.underlying93
  a27 := Tryz.isAgg93
  z27 := Tryz.sizeOf93
  v27 := Tryz.zeroValue93
  t28 := Tryz.underlying94
  a28 := Tryz.isAgg94
  z28 := Tryz.sizeOf94
  v28 := Tryz.zeroValue94
  t33 := Tryz.underlying43
  a33 := Tryz.isAgg43
  z33 := Tryz.sizeOf43
  v33 := Tryz.zeroValue43 }
def Tryz.keysE_ren : Go.Shelf.Ren := ⟨fun | 7 => 133 | 10 => 150 | n => n, fun | 23 => 132 | 26 => 3 | 3 => 48 | 28 => 94 | 0 => 0 | 27 => 93 | 33 => 43 | 4 => 4 | n => n, fun | n => n⟩
theorem Tryz.keysE : Go.Proofs.SlLaysZI.n7 Tryz.prog Tryz.keysE_ren := {
  mixed := by kernel_rfl
  f7 := ⟨Tryz.f133.name, by decide, Tryz.func133.trans (congrArg some (by kernel_rfl))⟩
  f10 := ⟨Tryz.f150.name, by decide, Tryz.func150.trans (congrArg some (by kernel_rfl))⟩
  t0 := Tryz.underlying0
  a0 := Tryz.isAgg0
  z0 := Tryz.sizeOf0
  v0 := Tryz.zeroValue0
  t4 := Tryz.underlying4
  a4 := Tryz.isAgg4
  z4 := Tryz.sizeOf4
  v4 := Tryz.zeroValue4
  t23 := Tryz.underlying132
  a23 := Tryz.isAgg132
  z23 := Tryz.sizeOf132
  v23 := Tryz.zeroValue132
  t26 := Tryz.underlying3
  a26 := Tryz.isAgg3
  z26 := Tryz.sizeOf3
  v26 := Tryz.zeroValue3
  t27 := Tryz.underlying93
  a27 := Tryz.isAgg93
  z27 := Tryz.sizeOf93
  v27 := Tryz.zeroValue93
  t28 := Tryz.underlying94
  a28 := Tryz.isAgg94
  z28 := Tryz.sizeOf94
  v28 := Tryz.zeroValue94
  t33 := Tryz.underlying43
  a33 := Tryz.isAgg43
  z33 := Tryz.sizeOf43
  v33 := Tryz.zeroValue43 }
def Tryz.keysJ_ren : Go.Shelf.Ren := ⟨fun | 7 => 59 | 10 => 94 | n => n, fun | 23 => 83 | 26 => 3 | 3 => 81 | 28 => 94 | 0 => 0 | 27 => 93 | 33 => 43 | 4 => 4 | n => n, fun | n => n⟩
theorem Tryz.keysJ : Go.Proofs.SlLaysZI.n7 Tryz.prog Tryz.keysJ_ren := {
  mixed := by kernel_rfl
  f7 := ⟨Tryz.f59.name, by decide, Tryz.func59.trans (congrArg some (by kernel_rfl))⟩
  f10 := ⟨Tryz.f94.name, by decide, Tryz.func94.trans (congrArg some (by kernel_rfl))⟩
  t0 := Tryz.underlying0
  a0 := Tryz.isAgg0
  z0 := Tryz.sizeOf0
  v0 := Tryz.zeroValue0
  t4 := Tryz.underlying4
  a4 := Tryz.isAgg4
  z4 := Tryz.sizeOf4
  v4 := Tryz.zeroValue4
  t23 := Tryz.underlying83
  a23 := Tryz.isAgg83
  z23 := Tryz.sizeOf83
  v23 := Tryz.zeroValue83
  t26 := Tryz.underlying3
  a26 := Tryz.isAgg3
  z26 := Tryz.sizeOf3
  v26 := Tryz.zeroValue3
  t27 := Tryz.underlying93
  a27 := Tryz.isAgg93
  z27 := Tryz.sizeOf93
  v27 := Tryz.zeroValue93
  t28 := Tryz.underlying94
  a28 := Tryz.isAgg94
  z28 := Tryz.sizeOf94
  v28 := Tryz.zeroValue94
  t33 := Tryz.underlying43
  a33 := Tryz.isAgg43
  z33 := Tryz.sizeOf43
  v33 := Tryz.zeroValue43 }
def Tryz.sortedN_ren : Go.Shelf.Ren := ⟨fun | 6 => 58 | 8 => 92 | 9 => 93 | 11 => 125 | 13 => 127 | 12 => 126 | 23 => 147 | 24 => 148 | 14 => 138 | 15 => 139 | 16 => 140 | 17 => 141 | 18 => 142 | 19 => 143 | 20 => 144 | 21 => 145 | 22 => 146 | 25 => 151 | 26 => 152 | 27 => 153 | 28 => 154 | 29 => 155 | 30 => 156 | 31 => 157 | n => n, fun | 26 => 3 | 28 => 94 | 24 => 81 | 0 => 0 | 3 => 3 | 37 => 169 | 48 => 190 | 50 => 192 | 4 => 4 | 40 => 183 | 39 => 182 | 45 => 187 | 5 => 5 | 9 => 9 | 51 => 204 | 55 => 208 | 57 => 210 | 58 => 211 | 33 => 43 | n => n, fun | n => n⟩
theorem Tryz.sortedN : Go.Proofs.SlLaysZI.n6 Tryz.prog Tryz.sortedN_ren := {
  mixed := by kernel_rfl
  f6 := ⟨Tryz.f58.name, by decide, Tryz.func58.trans (congrArg some (by kernel_rfl))⟩
  f8 := ⟨Tryz.f92.name, by decide, Tryz.func92.trans (congrArg some (by kernel_rfl))⟩
  f11 := ⟨Tryz.f125.name, by decide, Tryz.func125.trans (congrArg some (by kernel_rfl))⟩
  t0 := Tryz.underlying0
  a0 := Tryz.isAgg0
  z0 := Tryz.sizeOf0
  v0 := Tryz.zeroValue0
  t24 := Tryz.underlying81
  a24 := Tryz.isAgg81
  z24 := Tryz.sizeOf81
  v24 := Tryz.zeroValue81
  t26 := Tryz.underlying3
  a26 := Tryz.isAgg3
  z26 := Tryz.sizeOf3
  v26 := Tryz.zeroValue3
  t28 := Tryz.underlying94
  a28 := Tryz.isAgg94
  z28 := Tryz.sizeOf94
  v28 := Tryz.zeroValue94
  i26 := by kernel_rfl }
def Tryz.sortN_ren : Go.Shelf.Ren := ⟨fun | 5 => 93 | 8 => 127 | 7 => 126 | 19 => 147 | 20 => 148 | 10 => 138 | 11 => 139 | 12 => 140 | 13 => 141 | 14 => 142 | 15 => 143 | 16 => 144 | 17 => 145 | 18 => 146 | 30 => 151 | 31 => 152 | 32 => 153 | 33 => 154 | 34 => 155 | 35 => 156 | 40 => 157 | n => n, fun | 23 => 81 | 25 => 3 | 3 => 3 | 32 => 169 | 22 => 81 | 0 => 0 | 44 => 190 | 46 => 192 | 4 => 4 | 36 => 183 | 35 => 182 | 41 => 187 | 5 => 5 | 9 => 9 | 53 => 204 | 57 => 208 | 63 => 210 | 64 => 211 | n => n, fun | n => n⟩
theorem Tryz.sortN : Go.Proofs.SlLaysM.n5 Tryz.prog Tryz.sortN_ren := {
  mixed := by kernel_rfl
  f5 := ⟨Tryz.f93.name, by decide, Tryz.func93.trans (congrArg some (by kernel_rfl))⟩
  f7 := ⟨Tryz.f126.name, by decide, Tryz.func126.trans (congrArg some (by kernel_rfl))⟩
  f8 := Tryz.func127.trans (congrArg some (by kernel_rfl))
  f10 := ⟨Tryz.f138.name, by decide, Tryz.func138.trans (congrArg some (by kernel_rfl))⟩
  f11 := ⟨Tryz.f139.name, by decide, Tryz.func139.trans (congrArg some (by kernel_rfl))⟩
  f12 := ⟨Tryz.f140.name, by decide, Tryz.func140.trans (congrArg some (by kernel_rfl))⟩
  f13 := ⟨Tryz.f141.name, by decide, Tryz.func141.trans (congrArg some (by kernel_rfl))⟩
  f14 := ⟨Tryz.f142.name, by decide, Tryz.func142.trans (congrArg some (by kernel_rfl))⟩
  f15 := ⟨Tryz.f143.name, by decide, Tryz.func143.trans (congrArg some (by kernel_rfl))⟩
  f16 := ⟨Tryz.f144.name, by decide, Tryz.func144.trans (congrArg some (by kernel_rfl))⟩
  f17 := ⟨Tryz.f145.name, by decide, Tryz.func145.trans (congrArg some (by kernel_rfl))⟩
  f18 := ⟨Tryz.f146.name, by decide, Tryz.func146.trans (congrArg some (by kernel_rfl))⟩
  f19 := Tryz.func147.trans (congrArg some (by kernel_rfl))
  f20 := Tryz.func148.trans (congrArg some (by kernel_rfl))
  f30 := ⟨Tryz.f151.name, by decide, Tryz.func151.trans (congrArg some (by kernel_rfl))⟩
  f31 := Tryz.func152.trans (congrArg some (by kernel_rfl))
  f32 := Tryz.func153.trans (congrArg some (by kernel_rfl))
  f33 := ⟨Tryz.f154.name, by decide, Tryz.func154.trans (congrArg some (by kernel_rfl))⟩
  f34 := ⟨Tryz.f155.name, by decide, Tryz.func155.trans (congrArg some (by kernel_rfl))⟩
  f35 := ⟨Tryz.f156.name, by decide, Tryz.func156.trans (congrArg some (by kernel_rfl))⟩
  f40 := ⟨Tryz.f157.name, by decide, Tryz.func157.trans (congrArg some (by kernel_rfl))⟩
  t0 := Tryz.underlying0
  a0 := Tryz.isAgg0
  z0 := Tryz.sizeOf0
  v0 := Tryz.zeroValue0
  t3 := Tryz.underlying3
  a3 := Tryz.isAgg3
  z3 := Tryz.sizeOf3
  v3 := Tryz.zeroValue3
  t4 := Tryz.underlying4
  a4 := Tryz.isAgg4
  z4 := Tryz.sizeOf4
  v4 := Tryz.zeroValue4
  t5 := Tryz.underlying5
  a5 := Tryz.isAgg5
  z5 := Tryz.sizeOf5
  v5 := Tryz.zeroValue5
  t9 := Tryz.underlying9
  a9 := Tryz.isAgg9
  z9 := Tryz.sizeOf9
  v9 := Tryz.zeroValue9
  t22 := Tryz.underlying81
  a22 := Tryz.isAgg81
  z22 := Tryz.sizeOf81
  v22 := Tryz.zeroValue81
  t23 := Tryz.underlying81
  a23 := Tryz.isAgg81
  z23 := Tryz.sizeOf81
  v23 := Tryz.zeroValue81
  t25 := Tryz.underlying3
  a25 := Tryz.isAgg3
  z25 := Tryz.sizeOf3
  v25 := Tryz.zeroValue3
  t32 := Tryz.underlying169
  a32 := Tryz.isAgg169
  z32 := Tryz.sizeOf169
  v32 := Tryz.zeroValue169
  t35 := Tryz.underlying182
  a35 := Tryz.isAgg182
  z35 := Tryz.sizeOf182
  v35 := Tryz.zeroValue182
  t36 := Tryz.underlying183
  a36 := Tryz.isAgg183
  z36 := Tryz.sizeOf183
  v36 := Tryz.zeroValue183
  t41 := Tryz.underlying187
  a41 := Tryz.isAgg187
  z41 := Tryz.sizeOf187
  v41 := Tryz.zeroValue187
  t44 := Tryz.underlying190
  a44 := Tryz.isAgg190
  z44 := Tryz.sizeOf190
  v44 := Tryz.zeroValue190
  t46 := Tryz.underlying192
  a46 := Tryz.isAgg192
  z46 := Tryz.sizeOf192
  v46 := Tryz.zeroValue192
  t53 := Tryz.underlying204
  a53 := Tryz.isAgg204
  z53 := Tryz.sizeOf204
  v53 := Tryz.zeroValue204
  t57 := Tryz.underlying208
  a57 := Tryz.isAgg208
  z57 := Tryz.sizeOf208
  v57 := Tryz.zeroValue208
  t63 := Tryz.underlying210
  a63 := Tryz.isAgg210
  z63 := Tryz.sizeOf210
  v63 := Tryz.zeroValue210
  t64 := Tryz.underlying211
  a64 := Tryz.isAgg211
  z64 := Tryz.sizeOf211
  v64 := Tryz.zeroValue211 }
end Go.Proofs
namespace Go.Proofs.YtlnpbfeihjfnjaaGreatDoor.Lab
open Go.RowKit
set_option linter.unusedVariables false

/-- A slice value reads as a list of numbers. -/
def Reads (w : World) (v : Value) (l : List Int) : Prop :=
  (l = [] ∧ ∃ a cap, v = .slice a 0 cap) ∨
  (0 < l.length ∧ ∃ b off cap, v = .slice (some ⟨b, off, none⟩) l.length cap ∧ ∀ j, j < l.length → w.cell? ⟨b, off + j, none⟩ = some (.int .i64 (l.getD j 0)))
theorem Reads.drewN {w : World} {v : Value} {l : List Int} (h : Reads w v l) (n : Nat) : Reads (w.drewN n) v l := by
  rcases h with h | ⟨h0, b, off, cap, hv, hc⟩
  · exact .inl h
  · exact .inr ⟨h0, b, off, cap, hv, fun j hj => by rw [World.cell?_drewN]; exact hc j hj⟩
theorem reads_own {w : World} {base e : Nat} {v : Value} {l : List Int} (h : w.ownsRow base e 1 v l.length (l.map (Value.int .i64))) : Reads w v l := by
  have hk := h
  obtain ⟨_, h | ⟨g, cap, cur, hv, hb, hg, hn, hm, hs, ht⟩⟩ := h
  · exact .inl ⟨List.length_eq_zero_iff.1 h.2, _, _, h.1⟩
  · by_cases h0 : l.length = 0
    · exact .inl ⟨List.length_eq_zero_iff.1 h0, _, _, by rw [hv, h0]⟩
    · refine .inr ⟨by omega, g, 0, cap, hv, fun j hj => ?_⟩
      rw [hv] at hk
      have := hk.cellAt j (by omega)
      rw [Nat.zero_add, this]
      simp [hj]
theorem own_heap {w w' : World} {base e size : Nat} {v : Value} {n : Nat} {xs : List Value} (h : w.ownsRow base e size v n xs) (hk : ∀ k, v.ownBlock = some k → w'.heap[k]? = w.heap[k]?) : w'.ownsRow base e size v n xs := by
  obtain ⟨h1, h | ⟨g, cap, cur, rfl, hb, hg, hr⟩⟩ := h
  · exact ⟨h1, .inl h⟩
  · exact ⟨h1, .inr ⟨g, cap, cur, rfl, hb, by rw [hk g rfl]; exact hg, hr⟩⟩
theorem own_below {w w' : World} {base e size : Nat} {v : Value} {n : Nat} {xs : List Value} (h : w.ownsRow base e size v n xs) (hb : Below w.heap.size w w') : w'.ownsRow base e size v n xs :=
  own_heap h (fun k hk => hb.block k (h.lt k hk).2)
theorem own_drewN {w : World} {base e size : Nat} {v : Value} {n : Nat} {xs : List Value} (h : w.ownsRow base e size v n xs) (m : Nat) : (w.drewN m).ownsRow base e size v n xs :=
  own_heap h (fun k _ => by rw [World.heap_drewN])
theorem list_eq_of {l m : List Int} (h : l.length = m.length) (hj : ∀ j, j < l.length → l.getD j 0 = m.getD j 0) : l = m := by
  apply List.ext_getElem h
  intro j h1 h2
  have := hj j h1
  simpa [List.getD, h1, h2] using this

def ints (l : List Int) : List Value := l.map (Value.int .i64)
theorem ints_length (l : List Int) : (ints l).length = l.length := by simp [ints]
/-- A row that the call owns, and one number more. -/
theorem row_push {B e : Nat} {w wr w1 : World} {v v' : Value} {l : List Int} {x : Int}
    (hB : B ≤ wr.heap.size) (hown : wr.ownsRow B e 1 v l.length (ints l)) (hnx : Below B w wr) (o : Obj)
    (hown' : w1.ownsRow B e 1 v' (l.length + 1) (ints l ++ [.int .i64 x])) (hgrow : (wr.alloc o).grownBy w1 v.ownBlock) :
    w1.ownsRow B e 1 v' (l ++ [x]).length (ints (l ++ [x])) ∧ Below B w w1 := by
  constructor
  · simpa [ints] using hown'
  · exact (hnx.alloc hB o).grown hgrow (by simp; omega) (fun g hg => (hown.lt g hg).1)
/-- The numbers k, k + 1, .. -/
def upFrom (k : Int) : Nat → List Int
  | 0 => []
  | n + 1 => upFrom k n ++ [k + n]
theorem upFrom_length (k : Int) (n : Nat) : (upFrom k n).length = n := by
  induction n with
  | zero => rfl
  | succ n ih => simp [upFrom, ih]
theorem upFrom_getD (k : Int) (n j : Nat) (h : j < n) : (upFrom k n).getD j 0 = k + j := by
  induction n with
  | zero => omega
  | succ n ih =>
    simp only [upFrom, List.getD_eq_getElem?_getD, List.getElem?_append, upFrom_length]
    by_cases hj : j < n
    · rw [if_pos hj]
      have := ih hj
      rw [List.getD_eq_getElem?_getD] at this
      exact this
    · have : j = n := by omega
      subst this
      simp
theorem reads_up {w : World} {base e n : Nat} {v : Value} {k0 : Int} (h : w.ownsRow base e 1 v n ((upFrom k0 n).map (Value.int .i64))) : Reads w v (upFrom k0 n) :=
  reads_own (by rw [upFrom_length]; exact h)
end Go.Proofs.YtlnpbfeihjfnjaaGreatDoor.Lab

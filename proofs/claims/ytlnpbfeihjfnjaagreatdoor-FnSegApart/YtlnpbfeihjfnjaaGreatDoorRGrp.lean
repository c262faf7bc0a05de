/-
  A store read, in plain words: what is read of a label's bytes and of a whole store, and that a store is read to its end if and only if it is a right graph's.
-/
import Derived.Test.YtlnpbfeihjfnjaaGreatDoorRRpl
import Derived.Test.YtlnpbfeihjfnjaaGreatDoorRSgp
namespace Go.Proofs.YtlnpbfeihjfnjaaGreatDoor.Lab
open Go.RowKit
set_option linter.unusedVariables false
/-- The edges that one node's row tells: those to the nodes behind it. -/
def rowE (l c : Int) (row : List Int) : List Ed := (row.filter (fun e => decide (c < e))).map (fun e => (l, c / 64, c % 64, e / 64, e % 64))
theorem rowE_step {l c : Int} {row : List Int} {j : Nat} {e : Int} (h : row[j]? = some e) : rowE l c (row.take (j + 1)) = if c < e then rowE l c (row.take j) ++ [(l, c / 64, c % 64, e / 64, e % 64)] else rowE l c (row.take j) := by
  unfold rowE
  rw [List.take_add_one, h, List.filter_append]
  by_cases hc : c < e <;> simp [hc]
theorem rowE_le (l c : Int) (row : List Int) : (rowE l c row).length ≤ row.length := by
  unfold rowE; rw [List.length_map]; exact List.length_filter_le _ _
theorem rowE_take_le (l c : Int) (row : List Int) (j : Nat) : (rowE l c (row.take j)).length ≤ j := Nat.le_trans (rowE_le _ _ _) (by simp; omega)
/-- So many nodes' rows, read from a place on. -/
def rsK (s : ByteArray) (l : Int) : Nat → Int → List Ed → Option (List Ed × Int)
  | 0, k, acc => some (acc, k)
  | c + 1, k, acc => match nmO s k with
    | none => none
    | some (code, k1) => match rwO s k1 with
      | none => none
      | some (row, k2) => rsK s l c k2 (acc ++ rowE l code row)
theorem rsK_succ {s : ByteArray} {l : Int} {c : Nat} {k : Int} {acc : List Ed} : rsK s l (c + 1) k acc = match nmO s k with
    | none => none
    | some (code, k1) => match rwO s k1 with
      | none => none
      | some (row, k2) => rsK s l c k2 (acc ++ rowE l code row) := rfl
/-- What one label's bytes tell, and where they end. -/
def gfO (s : ByteArray) (l : Int) : Option (List Nd × List Ed × Int) := match rwO s 0 with
  | none => none
  | some (nums, k) => match nmO s k with
    | none => none
    | some (n, k1) => match rsK s l n.toNat k1 [] with
      | none => none
      | some (es, k2) => some (nums.map (fun x => (l, x)), es, k2)
theorem rwK_bd {s : ByteArray} : ∀ (c : Nat) (k last : Int) (acc : List Int) {xs : List Int} {k' : Int}, -1 ≤ last → k ≤ s.size → (∀ x ∈ acc, 0 ≤ x ∧ x ≤ 16383) → rwK s c k last acc = some (xs, k') → (∀ x ∈ xs, 0 ≤ x ∧ x ≤ 16383) ∧ k + c ≤ k' ∧ k' ≤ s.size := by
  intro c
  induction c with
  | zero => intro k last acc xs k' h1 h2 h3 h; simp only [rwK, Option.some.injEq, Prod.mk.injEq] at h; obtain ⟨rfl, rfl⟩ := h; exact ⟨h3, by simp, h2⟩
  | succ c ih =>
    intro k last acc xs k' h1 h2 h3 h
    rw [rwK_succ] at h
    cases hq : nmO s k with
    | none => rw [hq] at h; cases h
    | some y =>
      obtain ⟨g, k1⟩ := y
      rw [hq] at h
      simp only at h
      have b := nmO_bd hq
      split at h
      · cases h
      · have := ih _ _ _ (by omega) (by omega) (fun x hx => by
          rcases List.mem_append.1 hx with hx | hx
          · exact h3 x hx
          · simp at hx; omega) h
        refine ⟨this.1, ?_, this.2.2⟩
        have := this.2.1
        push_cast
        omega
/-- What a row's bytes can be. -/
theorem rwO_bd {s : ByteArray} {a k : Int} {xs : List Int} (h : rwO s a = some (xs, k)) : (∀ x ∈ xs, 0 ≤ x ∧ x ≤ 16383) ∧ a + 1 + xs.length ≤ k ∧ k ≤ s.size ∧ xs.length ≤ 127 ∧ 0 ≤ a := by
  unfold rwO at h
  cases hq : nmO s a with
  | none => rw [hq] at h; cases h
  | some y =>
    obtain ⟨n, k1⟩ := y
    rw [hq] at h
    simp only at h
    have b := nmO_bd hq
    split at h
    · cases h
    · have h1 := rwK_bd _ _ _ _ (by omega) (by omega) (by simp) h
      have h2 := rwK_len _ _ _ _ h
      simp at h2
      refine ⟨h1.1, ?_, h1.2.2, by omega, by omega⟩
      have := h1.2.1
      omega
theorem rsK_bd {s : ByteArray} {l : Int} : ∀ (c : Nat) (k : Int) (acc : List Ed) {es : List Ed} {k' : Int}, k ≤ s.size → rsK s l c k acc = some (es, k') → (es.length : Int) + k ≤ acc.length + k' ∧ k' ≤ s.size := by
  intro c
  induction c with
  | zero => intro k acc es k' h0 h; simp only [rsK, Option.some.injEq, Prod.mk.injEq] at h; obtain ⟨rfl, rfl⟩ := h; exact ⟨by omega, h0⟩
  | succ c ih =>
    intro k acc es k' h0 h
    rw [rsK_succ] at h
    cases hq : nmO s k with
    | none => rw [hq] at h; cases h
    | some y =>
      obtain ⟨code, k1⟩ := y
      rw [hq] at h
      simp only at h
      have b := nmO_bd hq
      cases hr : rwO s k1 with
      | none => rw [hr] at h; cases h
      | some z =>
        obtain ⟨row, k2⟩ := z
        rw [hr] at h
        simp only at h
        have d := rwO_bd hr
        have := ih _ _ (by omega) h
        have e := rowE_le l code row
        rw [List.length_append] at this
        omega
theorem gfO_bd {s : ByteArray} {l : Int} {ns : List Nd} {es : List Ed} {k : Int} (h : gfO s l = some (ns, es, k)) : ns.length + es.length ≤ s.size ∧ ns.length ≤ 127 := by
  unfold gfO at h
  cases hr : rwO s 0 with
  | none => rw [hr] at h; cases h
  | some z =>
    obtain ⟨nums, k1⟩ := z
    rw [hr] at h
    simp only at h
    have d := rwO_bd hr
    cases hq : nmO s k1 with
    | none => rw [hq] at h; cases h
    | some y =>
      obtain ⟨n, k2⟩ := y
      rw [hq] at h
      simp only at h
      have b := nmO_bd hq
      cases hs : rsK s l n.toNat k2 [] with
      | none => rw [hs] at h; cases h
      | some u =>
        obtain ⟨e1, k3⟩ := u
        rw [hs] at h
        simp only [Option.some.injEq, Prod.mk.injEq] at h
        obtain ⟨rfl, rfl, rfl⟩ := h
        have := rsK_bd _ _ _ (by omega) hs
        simp at this ⊢
        omega
/-- One label's bytes, read behind what has been read. -/
def gfA (st : Option (List Nd × List Ed)) (x : Int × List UInt8) : Option (List Nd × List Ed) := match st with
  | none => none
  | some (ns, es) => match gfO ⟨x.2.toArray⟩ x.1 with
    | none => none
    | some (n1, e1, _) => some (ns ++ n1, es ++ e1)
def rdI (xs : List (Int × List UInt8)) : Option (List Nd × List Ed) := xs.foldl gfA (some ([], []))
/-- What is read of a store: the graph whose store it is. -/
noncomputable def srO (xs : List (Int × List UInt8)) : Option (List Nd × List Ed) := match rdI xs with
  | none => none
  | some (ns, es) => if storeL ns es = xs then some (ns, es) else none
theorem rdI_step {xs : List (Int × List UInt8)} {k : Nat} {x : Int × List UInt8} (h : xs[k]? = some x) : rdI (xs.take (k + 1)) = gfA (rdI (xs.take k)) x := by
  unfold rdI
  rw [List.take_add_one, h, List.foldl_append]
  rfl
theorem fold_none : ∀ (xs : List (Int × List UInt8)), xs.foldl gfA none = none
  | [] => rfl
  | x :: xs => by rw [List.foldl_cons]; exact fold_none xs
theorem rdI_split (xs : List (Int × List UInt8)) (k : Nat) : rdI xs = (xs.drop k).foldl gfA (rdI (xs.take k)) := by
  unfold rdI
  rw [← List.foldl_append, List.take_append_drop]
theorem rdI_none {xs : List (Int × List UInt8)} {k : Nat} (h : rdI (xs.take k) = none) : rdI xs = none := by
  rw [rdI_split xs k, h, fold_none]
theorem srO_none {xs : List (Int × List UInt8)} {k : Nat} (h : rdI (xs.take k) = none) : srO xs = none := by
  unfold srO; rw [rdI_none h]
theorem fold_mono : ∀ (xs : List (Int × List UInt8)) {ns ns' : List Nd} {es es' : List Ed}, xs.foldl gfA (some (ns, es)) = some (ns', es') → es.length ≤ es'.length
  | [], ns, ns', es, es', h => by simp only [List.foldl_nil, Option.some.injEq, Prod.mk.injEq] at h; obtain ⟨rfl, rfl⟩ := h; exact Nat.le_refl _
  | x :: xs, ns, ns', es, es', h => by
    rw [List.foldl_cons] at h
    cases hg : gfO ⟨x.2.toArray⟩ x.1 with
    | none =>
      have : gfA (some (ns, es)) x = none := by show (match gfO ⟨x.2.toArray⟩ x.1 with | none => none | some (n1, e1, _) => some (ns ++ n1, es ++ e1)) = none; rw [hg]
      rw [this, fold_none] at h; cases h
    | some y =>
      obtain ⟨n1, e1, k⟩ := y
      have : gfA (some (ns, es)) x = some (ns ++ n1, es ++ e1) := by show (match gfO ⟨x.2.toArray⟩ x.1 with | none => none | some (n1, e1, _) => some (ns ++ n1, es ++ e1)) = _; rw [hg]
      rw [this] at h
      have := fold_mono xs h
      simp at this; omega
theorem gfA_none {ns : List Nd} {es : List Ed} {x : Int × List UInt8} (h : gfO ⟨x.2.toArray⟩ x.1 = none) : gfA (some (ns, es)) x = none := by
  show (match gfO ⟨x.2.toArray⟩ x.1 with | none => none | some (n1, e1, _) => some (ns ++ n1, es ++ e1)) = none; rw [h]
theorem gfA_some {ns n1 : List Nd} {es e1 : List Ed} {x : Int × List UInt8} {k : Int} (h : gfO ⟨x.2.toArray⟩ x.1 = some (n1, e1, k)) : gfA (some (ns, es)) x = some (ns ++ n1, es ++ e1) := by
  show (match gfO ⟨x.2.toArray⟩ x.1 with | none => none | some (n1, e1, _) => some (ns ++ n1, es ++ e1)) = _; rw [h]
theorem srO_parts {xs : List (Int × List UInt8)} {ns : List Nd} {es : List Ed} (h : srO xs = some (ns, es)) : rdI xs = some (ns, es) ∧ storeL ns es = xs := by
  unfold srO at h
  cases hr : rdI xs with
  | none => rw [hr] at h; cases h
  | some y =>
    obtain ⟨n1, e1⟩ := y
    rw [hr] at h
    simp only at h
    split at h
    · rename_i hs
      simp only [Option.some.injEq, Prod.mk.injEq] at h
      obtain ⟨rfl, rfl⟩ := h
      exact ⟨rfl, hs⟩
    · cases h
/-- What is read of a right graph's bytes ends where they end. -/
theorem rsK_end (a : Int) (P : List UInt8) (ee : List Ed) (hee : One1 ee) (hl : ee.length ≤ 100) : ∀ (on : List Nd) (acc : List Ed), (∀ n ∈ on, nodeB n.1 n.2 = true) →
    rsK ⟨(P ++ on.flatMap (rowOf ee)).toArray⟩ a on.length (P.length : Int) acc = some (acc ++ on.flatMap (fun n => rowE a (cod n) ((nearF n ee).map cod)), ((P ++ on.flatMap (rowOf ee)).length : Int)) := by
  have HH : ∀ (on : List Nd) (P : List UInt8) (acc : List Ed), (∀ n ∈ on, nodeB n.1 n.2 = true) →
      rsK ⟨(P ++ on.flatMap (rowOf ee)).toArray⟩ a on.length (P.length : Int) acc = some (acc ++ on.flatMap (fun n => rowE a (cod n) ((nearF n ee).map cod)), ((P ++ on.flatMap (rowOf ee)).length : Int)) := by
    intro on
    induction on with
    | nil => intro P acc h; simp [rsK]
    | cons n on ih =>
      intro P acc h
      have hn := h n (List.mem_cons_self ..)
      have c0 := cod_ok' hn
      have c1 := cod_bd n
      have hup : upB ((nearF n ee).map cod) = true := by
        rw [← joinL_near hee hn]
        refine upB_of (joinL_asc _ hee) (fun x hx => ?_) ?_
        · obtain ⟨y, hy, hz⟩ := List.mem_filterMap.1 hx
          have e1 := ends_ok (hee.1 y hy)
          have b1 := cod_ok' e1.1
          have b2 := cod_ok' e1.2.1
          have b3 := cod_bd (eA y)
          have b4 := cod_bd (eB y)
          unfold othC at hz
          split at hz
          · have := Option.some.inj hz; omega
          · split at hz
            · have := Option.some.inj hz; omega
            · cases hz
        · exact Nat.le_trans (List.length_filterMap_le _ _) (by omega)
      have hsp : P ++ (n :: on).flatMap (rowOf ee) = P ++ pkL (cod n) ++ (rowL ((nearF n ee).map cod) ++ on.flatMap (rowOf ee)) := by
        rw [List.flatMap_cons]; simp [rowOf, List.append_assoc]
      have hsp2 : P ++ (n :: on).flatMap (rowOf ee) = (P ++ pkL (cod n)) ++ rowL ((nearF n ee).map cod) ++ on.flatMap (rowOf ee) := by
        rw [hsp]; simp [List.append_assoc]
      have hsp3 : P ++ (n :: on).flatMap (rowOf ee) = (P ++ pkL (cod n) ++ rowL ((nearF n ee).map cod)) ++ on.flatMap (rowOf ee) := by
        rw [hsp]; simp [List.append_assoc]
      have k1 := nm_at P (rowL ((nearF n ee).map cod) ++ on.flatMap (rowOf ee)) (n := cod n) (by omega) (by omega)
      have k2 := rw_at (P ++ pkL (cod n)) (on.flatMap (rowOf ee)) hup
      have k3 := ih (P ++ pkL (cod n) ++ rowL ((nearF n ee).map cod)) (acc ++ rowE a (cod n) ((nearF n ee).map cod)) (fun y hy => h y (List.mem_cons_of_mem _ hy))
      rw [← hsp] at k1
      rw [← hsp2] at k2
      rw [← hsp3] at k3
      rw [List.length_cons, rsK_succ, k1]
      simp only
      rw [show ((P.length : Int) + (pkL (cod n)).length) = ((P ++ pkL (cod n)).length : Int) by simp, k2]
      simp only
      rw [show (((P ++ pkL (cod n)).length : Int) + (rowL ((nearF n ee).map cod)).length) = ((P ++ pkL (cod n) ++ rowL ((nearF n ee).map cod)).length : Int) by simp [Int.add_assoc], k3]
      rw [List.flatMap_cons (f := fun n => rowE a (cod n) ((nearF n ee).map cod))]
      simp [List.append_assoc]
  exact fun on acc h => HH on P acc h
theorem cod_ge {n : Nd} (h : nodeB n.1 n.2 = true) : 0 ≤ cod n := by have := cod_ok' h; omega
/-- A label's bytes of a right graph are read to their end. -/
theorem gf_seg {ns : List Nd} {es : List Ed} (h : GOk ns es) (a : Int) (hne : segL a ns es ≠ []) :
    gfO ⟨(segL a ns es).toArray⟩ a = some ((numsL a ns).map (fun x => (a, x)), (onlyF (ofE a es)).flatMap (fun n => rowE a (cod n) ((nearF n (ofE a es)).map cod)), ((segL a ns es).length : Int)) := by
  obtain ⟨ho, hl⟩ := ofE_one h a
  obtain ⟨f1, f2, f3⟩ := numsL_facts h a
  have hup : upB (numsL a ns) = true := upB_of f1 (fun x hx => by have := f2 x hx; omega) (by omega)
  have hol := onlyF_len ho.1
  have he : segL a ns es = segK a ns es (onlyF (ofE a es)).length := by
    unfold segL at hne ⊢
    split
    · rename_i hc; rw [if_pos hc] at hne; exact absurd rfl hne
    · rfl
  have e2 : segK a ns es (onlyF (ofE a es)).length = rowL (numsL a ns) ++ pkL (onlyF (ofE a es)).length ++ (onlyF (ofE a es)).flatMap (rowOf (ofE a es)) := by
    unfold segK; rw [List.take_length]
  rw [he, e2]
  have k1 := rw_at [] (pkL (onlyF (ofE a es)).length ++ (onlyF (ofE a es)).flatMap (rowOf (ofE a es))) hup
  have k2 := nm_at (rowL (numsL a ns)) ((onlyF (ofE a es)).flatMap (rowOf (ofE a es))) (n := ((onlyF (ofE a es)).length : Int)) (by omega) (by omega)
  have k3 := rsK_end a (rowL (numsL a ns) ++ pkL (onlyF (ofE a es)).length) (ofE a es) ho (by omega) (onlyF (ofE a es)) [] (onlyF_ok ho.1)
  rw [List.nil_append, ← List.append_assoc] at k1
  simp only [List.length_nil] at k1
  unfold gfO
  rw [show ((0 : Nat) : Int) = 0 from rfl] at k1
  rw [k1]
  simp only
  rw [Int.zero_add, k2]
  simp only
  rw [show (((rowL (numsL a ns)).length : Int) + (pkL ((onlyF (ofE a es)).length : Int)).length) = ((rowL (numsL a ns) ++ pkL ((onlyF (ofE a es)).length : Int)).length : Int) by simp, Int.toNat_natCast, k3]
  simp only [List.nil_append]
theorem storeL_in {ns : List Nd} {es : List Ed} {x : Int × List UInt8} (h : x ∈ storeL ns es) : gokB ns es = true ∧ x.2 = segL x.1 ns es ∧ x.2 ≠ [] := by
  unfold storeL storeK at h
  obtain ⟨k, hk, hx⟩ := List.mem_filterMap.1 h
  unfold segAt at hx
  split at hx
  · cases hx
  · rename_i hne
    have := Option.some.inj hx
    subst this
    have hg : gokB ns es = true := by
      cases hb : gokB ns es
      · exact absurd (segB_bad hb _) hne
      · rfl
    exact ⟨hg, by rw [← segB_ok hg], hne⟩
/-- Bytes that are not read to their end are no right graph's. -/
theorem srO_end {xs : List (Int × List UInt8)} {x : Int × List UInt8} {n1 : List Nd} {e1 : List Ed} {k : Int} (hx : x ∈ xs) (hg : gfO ⟨x.2.toArray⟩ x.1 = some (n1, e1, k)) (hk : k ≠ (x.2.length : Int)) : srO xs = none := by
  cases hs : srO xs with
  | none => rfl
  | some y =>
    obtain ⟨ns, es⟩ := y
    obtain ⟨h1, h2⟩ := srO_parts hs
    rw [← h2] at hx
    obtain ⟨g1, g2, g3⟩ := storeL_in hx
    rw [g2] at hg hk g3
    rw [gf_seg (gokB_true.1 g1) x.1 g3] at hg
    simp only [Option.some.injEq, Prod.mk.injEq] at hg
    exact absurd hg.2.2.symm hk
theorem srO_long {xs : List (Int × List UInt8)} (h : 8 < xs.length) : srO xs = none := by
  cases hs : srO xs with
  | none => rfl
  | some y =>
    obtain ⟨ns, es⟩ := y
    obtain ⟨h1, h2⟩ := srO_parts hs
    have := storeK_le ns es 8
    unfold storeL at h2
    rw [h2] at this
    omega
theorem gok_empty : gokB [] [] = true :=
  gokB_true.2 ⟨nodesOk_iff.2 ⟨by simp, List.Pairwise.nil, fun a _ => by simp [cntNode]⟩, edgesOk_iff.2 ⟨by simp, List.Pairwise.nil, fun a _ => by simp [cntEdge]⟩⟩
theorem srO_gok {xs : List (Int × List UInt8)} {ns : List Nd} {es : List Ed} (h : srO xs = some (ns, es)) : gokB ns es = true := by
  obtain ⟨h1, h2⟩ := srO_parts h
  cases hb : gokB ns es
  · rw [storeL_bad hb] at h2
    subst h2
    have h1 : some (([] : List Nd), ([] : List Ed)) = some (ns, es) := h1
    simp only [Option.some.injEq, Prod.mk.injEq] at h1
    obtain ⟨rfl, rfl⟩ := h1
    rw [gok_empty] at hb; cases hb
  · rfl
/-- Too many edges are no right graph's. -/
theorem srO_many {xs : List (Int × List UInt8)} {k : Nat} {ns : List Nd} {es : List Ed} (h : rdI (xs.take k) = some (ns, es)) (hl : 200 < es.length) : srO xs = none := by
  cases hs : srO xs with
  | none => rfl
  | some y =>
    obtain ⟨n2, e2⟩ := y
    have hg := srO_gok hs
    obtain ⟨h1, h2⟩ := srO_parts hs
    rw [rdI_split xs k, h] at h1
    have := fold_mono _ h1
    have := edges_len (gokB_true.1 hg).2
    omega
theorem srO_done {xs : List (Int × List UInt8)} {ns : List Nd} {es : List Ed} (h : rdI xs = some (ns, es)) : srO xs = if storeL ns es = xs then some (ns, es) else none := by
  unfold srO; rw [h]
theorem srO_bad {xs : List (Int × List UInt8)} {ns : List Nd} {es : List Ed} (h : rdI xs = some (ns, es)) (hb : gokB ns es = false) : srO xs = none := by
  cases hs : srO xs with
  | none => rfl
  | some y =>
    obtain ⟨n2, e2⟩ := y
    have hg := srO_gok hs
    obtain ⟨h1, h2⟩ := srO_parts hs
    rw [h] at h1
    simp only [Option.some.injEq, Prod.mk.injEq] at h1
    obtain ⟨rfl, rfl⟩ := h1
    rw [hb] at hg; cases hg
/-- How many bytes a store holds. -/
def lenS (xs : List (Int × List UInt8)) : Nat := (xs.map (fun x => x.2.length)).sum
theorem lenS_step {xs : List (Int × List UInt8)} {k : Nat} {x : Int × List UInt8} (h : xs[k]? = some x) : lenS (xs.take (k + 1)) = lenS (xs.take k) + x.2.length := by
  unfold lenS
  rw [List.take_add_one, h]
  simp
theorem lenS_take_le (xs : List (Int × List UInt8)) (k : Nat) : lenS (xs.take k) ≤ lenS xs := by
  have : lenS xs = lenS (xs.take k) + lenS (xs.drop k) := by
    unfold lenS
    rw [← List.sum_append, ← List.map_append, List.take_append_drop]
  omega
theorem lenS_mem {xs : List (Int × List UInt8)} {x : Int × List UInt8} (h : x ∈ xs) : x.2.length ≤ lenS xs := by
  obtain ⟨k, hk⟩ := List.mem_iff_getElem?.1 h
  have h1 := lenS_step hk
  have h2 := lenS_take_le xs (k + 1)
  omega
end Go.Proofs.YtlnpbfeihjfnjaaGreatDoor.Lab

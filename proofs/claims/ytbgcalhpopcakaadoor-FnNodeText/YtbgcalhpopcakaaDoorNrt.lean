/-
  Nodes read from texts: NodeRead of both.
-/
import Derived.Test.YtbgcalhpopcakaaDoorNdt
import Derived.Test.YtbgcalhpopcakaaDoorCts
import Derived.Test.YtbgcalhpopcakaaDoorNum9
import Derived.Test.YtbgcalhpopcakaaDoorDoor
import Derived.Deep.RegionHeld3
namespace Go.Proofs.YtbgcalhpopcakaaDoor.Lab
open Go.RowKit
set_option linter.unusedVariables false
def dl (m : Nat) : List UInt8 := if m < 10 then [UInt8.ofNat (48 + m)] else [UInt8.ofNat (48 + m / 10), UInt8.ofNat (48 + m % 10)]
theorem dec_dl {m : Nat} (h : m < 100) : Lib.decDigits m = dl m := by
  unfold dl
  split
  · rename_i h1; exact Lib.decDigits_one h1
  · rename_i h1; exact Lib.decDigits_two h1 h
theorem nd_all : ∀ k : Fin 8, ∀ m : Fin 41, cutS 46 (txtL k.val ++ [46] ++ dl m.val) [] = [txtL k.val, dl m.val] ∧ readV (txtL k.val) = k.val ∧ readB (txtL k.val) = true ∧ numO (dl m.val) = some (m.val : Int) := by decide +kernel
theorem ndt_list {l n : Int} (h : nodeB l n = true) : ∃ k : Fin 8, ∃ m : Fin 41, l = (k.val : Int) ∧ n = (m.val : Int) ∧ (ndt l n).data.toList = txtL k.val ++ [46] ++ dl m.val ∧ (textOf l).data.toList = txtL k.val := by
  obtain ⟨h1, h2, h3⟩ := nodeB_true h
  obtain ⟨k, rfl⟩ := fin8 h1
  obtain ⟨j, rfl⟩ := Int.eq_ofNat_of_zero_le h2
  have ht : textOf (k.val : Int) = ⟨(txtL k.val).toArray⟩ := by simp [textOf, h1]
  refine ⟨k, ⟨j, by omega⟩, rfl, rfl, ?_, by rw [ht]⟩
  rw [ndt, h, if_pos rfl, ht, show ((j : Int)).toNat = j by simp, dec_dl (by omega)]
  simp
/-- What is read: the node of which this is the text, or nothing. -/
def NdIs (s : ByteArray) (l n : Int) (b : Bool) : Prop := (b = true ∧ nodeB l n = true ∧ ndt l n = s) ∨ (b = false ∧ l = 0 ∧ n = 0 ∧ ∀ l' n', nodeB l' n' = true → ndt l' n' ≠ s)
theorem ndt_inj {l n l' n' : Int} (h : nodeB l n = true) (h' : nodeB l' n' = true) (e : ndt l n = ndt l' n') : l = l' ∧ n = n' := by
  obtain ⟨k, m, rfl, rfl, e1, _⟩ := ndt_list h
  obtain ⟨k', m', rfl, rfl, e2, _⟩ := ndt_list h'
  have a := nd_all k m
  have b := nd_all k' m'
  rw [e, e2] at e1
  have hc : [txtL k.val, dl m.val] = [txtL k'.val, dl m'.val] := by rw [← a.1, ← b.1, e1]
  injection hc with hc1 hc2
  injection hc2 with hc2
  refine ⟨?_, ?_⟩
  · rw [← a.2.1, ← b.2.1, hc1]
  · have := a.2.2.2
    rw [hc2, b.2.2.2] at this
    exact (Option.some.inj this).symm
theorem NdIs.uniq {s : ByteArray} {l n l' n' : Int} {b b' : Bool} (h : NdIs s l n b) (h' : NdIs s l' n' b') : l = l' ∧ n = n' ∧ b = b' := by
  rcases h with ⟨rfl, h1, h2⟩ | ⟨rfl, rfl, rfl, h1⟩
  · rcases h' with ⟨rfl, k1, k2⟩ | ⟨rfl, rfl, rfl, k1⟩
    · have := ndt_inj h1 k1 (h2.trans k2.symm)
      exact ⟨this.1, this.2, rfl⟩
    · exact absurd h2 (k1 _ _ h1)
  · rcases h' with ⟨rfl, k1, k2⟩ | ⟨rfl, rfl, rfl, k1⟩
    · exact absurd k2 (h1 _ _ k1)
    · exact ⟨rfl, rfl, rfl⟩
theorem numO_lists {l : List UInt8} {n : Int} (h : numO l = some n) : numV l = n ∧ numB l = true := by unfold numV numB; rw [h]; exact ⟨rfl, rfl⟩
/-- What is read of a node's text is that node, if it is one. -/
theorem nd_of_ndt {l n lx nx : Int} {b : Bool} (h : NdIs (ndt l n) lx nx b) : b = nodeB l n ∧ (b = true → lx = l ∧ nx = n) := by
  cases hq : nodeB l n with
  | true =>
    have h2 : NdIs (ndt l n) l n true := .inl ⟨rfl, hq, rfl⟩
    obtain ⟨rfl, rfl, rfl⟩ := h.uniq h2
    exact ⟨rfl, fun _ => ⟨rfl, rfl⟩⟩
  | false =>
    rcases h with ⟨rfl, h1, h2⟩ | ⟨rfl, _⟩
    · exfalso
      obtain ⟨k, m, _, _, e, _⟩ := ndt_list h1
      have e2 : ndt l n = ⟨#[]⟩ := by rw [ndt, hq]; rfl
      rw [h2, e2] at e
      simp at e
    · exact ⟨rfl, fun h => nomatch h⟩
/-- The pieces of a node's text. -/
theorem nd_pieces {s : ByteArray} {l n : Int} (h : nodeB l n = true) (e : ndt l n = s) : ∃ p q, cutB 46 s = [p, q] ∧ readV p.data.toList = l ∧ readB p.data.toList = true ∧ numV q.data.toList = n ∧ numB q.data.toList = true := by
  obtain ⟨k, m, rfl, rfl, e1, _⟩ := ndt_list h
  obtain ⟨a1, a2, a3, a4⟩ := nd_all k m
  have := numO_lists a4
  refine ⟨⟨(txtL k.val).toArray⟩, ⟨(dl m.val).toArray⟩, ?_, a2, a3, this.1, this.2⟩
  rw [← e]; unfold cutB; rw [e1, a1]; rfl
theorem cutS_len (c : UInt8) : ∀ (l acc : List UInt8), ∀ x ∈ cutS c l acc, x.length ≤ acc.length + l.length
  | [], acc, x, hx => by simp [cutS] at hx; subst hx; simp
  | y :: l, acc, x, hx => by
    unfold cutS at hx
    split at hx
    · rcases List.mem_cons.1 hx with rfl | hx
      · omega
      · have := cutS_len c l [] x hx; simp at this ⊢; omega
    · have := cutS_len c l (acc ++ [y]) x hx
      simp at this ⊢; omega
theorem cutB_size {c : UInt8} {s r : ByteArray} (h : r ∈ cutB c s) : r.size ≤ s.size := by
  unfold cutB at h
  obtain ⟨l, hl, rfl⟩ := List.mem_map.1 h
  have := cutS_len c _ _ l hl
  show l.toArray.size ≤ _
  simpa using this
set_option maxRecDepth 16000 in
set_option maxHeartbeats 4000000 in
theorem spec_NodeRead (s : ByteArray) (w : World) (hs : s.size ≤ 1048576) :
    Calls Tryd.prog 10 #[.string s] w fun e w' => ∃ l n b, e = .returned (.tuple #[.agg #[.int .i64 l, .int .i64 n], .bool b]) ∧ NdIs s l n b ∧ Below w.heap.size w w' := by
  go_enter Tryd.func10, Tryd.ntmps10
  go_wp2_with fail
  refine (spec_l9Cut s 46 _ hs).mono ?_
  rintro e w1 ⟨v, rfl, ho, hb⟩
  have HB1 : Hid (Below w.heap.size w w1) := ((Below.refl _ _).alloc (Nat.le_refl _) _).trans (hb.mono (by simp))
  have c0 : w1.cell? ⟨w.heap.size, 0, none⟩ = some (.int .i64 0) := by rw [Below.celz hb _ _ _ (by simp)]; simp [go_sem]
  have c1 : w1.cell? ⟨w.heap.size, 1, none⟩ = some (.int .i64 0) := by rw [Below.celz hb _ _ _ (by simp)]; simp [go_sem]
  have cf : ∀ o, w1.frozen? ⟨w.heap.size, o, none⟩ = false := fun o => by rw [Below.froz hb _ _ _ (by simp)]; simp [go_sem]
  have z1 : w.heap.size < w1.heap.size := by have := hb.size; simp at this; omega
  obtain ⟨x0, y0, rfl⟩ := own_form ho
  have hrow : RowAt 1 encStr w1 (.slice x0 (cutB 46 s).length y0) (cutB 46 s) := row_of_own encStr_len (by decide) ho
  have HP : Hid (∀ l n, nodeB l n = true → ndt l n = s → ∃ p q, cutB 46 s = [p, q] ∧ readV p.data.toList = l ∧ readB p.data.toList = true ∧ numV q.data.toList = n ∧ numB q.data.toList = true) := fun l n h e => nd_pieces h e
  have HSZ : Hid (∀ r ∈ cutB 46 s, r.size ≤ 1048576) := fun r hr => Nat.le_trans (cutB_size hr) hs
  clear hb ho
  generalize hrs : cutB 46 s = rs at *
  have HRS : Hid (s = ⟨#[]⟩ → rs.length = 1) := fun e => by rw [← hrs, e]; rfl
  clear hrs
  have HR : Hid (RowAt 1 encStr w1 (.slice x0 rs.length y0) rs) := hrow
  clear hrow
  have FIN : ∀ W, Below w.heap.size w W → (∀ l' n', nodeB l' n' = true → ndt l' n' ≠ s) → ∃ l n b, Ending.returned (Value.tuple #[.agg #[.int .i64 0, .int .i64 0], .bool false]) = .returned (.tuple #[.agg #[.int .i64 l, .int .i64 n], .bool b]) ∧ NdIs s l n b ∧ Below w.heap.size w ((W.setCell ⟨w.heap.size, 0, none⟩ (.int .i64 0)).setCell ⟨w.heap.size, 1, none⟩ (.int .i64 0)) :=
    fun W hW hno => ⟨0, 0, false, rfl, .inr ⟨rfl, rfl, rfl, hno⟩, (hW.setCell (by simp) _).setCell (by simp) _⟩
  have HFIN : Hid (∀ W, Below w.heap.size w W → (∀ l' n', nodeB l' n' = true → ndt l' n' ≠ s) → ∃ l n b, Ending.returned (Value.tuple #[.agg #[.int .i64 0, .int .i64 0], .bool false]) = .returned (.tuple #[.agg #[.int .i64 l, .int .i64 n], .bool b]) ∧ NdIs s l n b ∧ Below w.heap.size w ((W.setCell ⟨w.heap.size, 0, none⟩ (.int .i64 0)).setCell ⟨w.heap.size, 1, none⟩ (.int .i64 0))) := FIN
  clear FIN
  by_cases h2 : rs.length = 2
  · obtain ⟨p, q, rfl⟩ : ∃ p q, rs = [p, q] := by
      match rs, h2 with
      | [p, q], _ => exact ⟨p, q, rfl⟩
    clear h2
    rcases HR.out with ⟨hz, _⟩ | ⟨_, b, off, cap, hv, hlt, hc⟩
    · cases hz
    simp only [Value.slice.injEq] at hv
    obtain ⟨rfl, -, rfl⟩ := hv
    have e0 : w1.cell? ⟨b, off, none⟩ = some (.string p) := by have := hc 0 p rfl 0 _ rfl; simpa using this
    have e1 : w1.cell? ⟨b, off + 1, none⟩ = some (.string q) := by have := hc 1 q rfl 0 _ rfl; simpa using this
    clear hc HR
    simp only [List.length_cons, List.length_nil, Nat.zero_add, Nat.reduceAdd]
    go_wp2_with fail
    refine (spec_LabelRead p _).mono ?_
    rintro e w2 ⟨rfl, hb⟩
    have HB2 : Hid (Below w.heap.size w w2) := HB1.out.trans (hb.mono (by omega))
    have d0 : w2.cell? ⟨w.heap.size, 0, none⟩ = some (.int .i64 0) := (Below.celz hb _ _ _ z1).trans c0
    have d1 : w2.cell? ⟨w.heap.size, 1, none⟩ = some (.int .i64 0) := (Below.celz hb _ _ _ z1).trans c1
    have df : ∀ o, w2.frozen? ⟨w.heap.size, o, none⟩ = false := fun o => (Below.froz hb _ _ _ z1).trans (cf o)
    have z2 : w.heap.size < w2.heap.size := by have := hb.size; omega
    have e2 : w2.cell? ⟨b, off + 1, none⟩ = some (.string q) := (Below.celz hb _ _ _ hlt).trans e1
    have z3 : b < w2.heap.size := by have := hb.size; omega
    clear hb c0 c1 cf e0 e1 z1 hlt HB1
    obtain ⟨la, hla⟩ : ∃ la, la = readV p.data.toList := ⟨_, rfl⟩
    obtain ⟨ba, hba⟩ : ∃ ba, ba = readB p.data.toList := ⟨_, rfl⟩
    rw [← hla, ← hba]
    have HLA : Hid (la = readV p.data.toList ∧ ba = readB p.data.toList) := ⟨hla, hba⟩
    clear hla hba
    go_wp2_with fail
    refine (spec_l9Num q _ (HSZ.out q (by simp))).mono ?_
    rintro e w3 ⟨rfl, hb⟩
    have HB3 : Hid (Below w.heap.size w w3) := HB2.out.trans (hb.mono (by omega))
    have c0 : w3.cell? ⟨w.heap.size, 0, none⟩ = some (.int .i64 0) := (Below.celz hb _ _ _ z2).trans d0
    have c1 : w3.cell? ⟨w.heap.size, 1, none⟩ = some (.int .i64 0) := (Below.celz hb _ _ _ z2).trans d1
    have cf : ∀ o, w3.frozen? ⟨w.heap.size, o, none⟩ = false := fun o => (Below.froz hb _ _ _ z2).trans (df o)
    have z1 : w.heap.size < w3.heap.size := by have := hb.size; omega
    clear hb d0 d1 df e2 z2 z3 HB2
    obtain ⟨na, hna⟩ : ∃ la, la = numV q.data.toList := ⟨_, rfl⟩
    obtain ⟨nb, hnb⟩ : ∃ ba, ba = numB q.data.toList := ⟨_, rfl⟩
    rw [← hna, ← hnb]
    have HNA : Hid (na = numV q.data.toList ∧ nb = numB q.data.toList) := ⟨hna, hnb⟩
    clear hna hnb
    have HPP : Hid (∀ l n, nodeB l n = true → ndt l n = s → ba = true ∧ nb = true ∧ l = la ∧ n = na) := fun l n h e => by
      obtain ⟨p', q', hpq, k1, k2, k3, k4⟩ := HP.out l n h e
      injection hpq with hp hpq
      injection hpq with hq
      subst hp hq
      rw [HLA.out.1, HLA.out.2, HNA.out.1, HNA.out.2]
      exact ⟨k2, k4, k1.symm, k3.symm⟩
    clear HP HSZ HLA HNA
    cases ba
    · have hno : Hid (∀ l' n', nodeB l' n' = true → ndt l' n' ≠ s) := fun l' n' h e => by have := (HPP.out l' n' h e).1; cases this
      clear HPP
      go_wp2_with fail
      refine bodyPost_ret (v := .tuple #[.agg #[.int .i64 0, .int .i64 0], .bool false]) (by simp [*, results, Tryd.results10, go_sem]) rfl ?_
      exact ⟨0, 0, false, rfl, .inr ⟨rfl, rfl, rfl, hno.out⟩, ((HB3.out.setCell (by simp) _).setCell (by simp) _).alloc (by simp; omega) _⟩
    · cases nb
      · have hno : Hid (∀ l' n', nodeB l' n' = true → ndt l' n' ≠ s) := fun l' n' h e => by have := (HPP.out l' n' h e).2.1; cases this
        clear HPP
        go_wp2_with fail
        refine bodyPost_ret (v := .tuple #[.agg #[.int .i64 0, .int .i64 0], .bool false]) (by simp [*, results, Tryd.results10, go_sem]) rfl ?_
        exact ⟨0, 0, false, rfl, .inr ⟨rfl, rfl, rfl, hno.out⟩, ((HB3.out.setCell (by simp) _).setCell (by simp) _).alloc (by simp; omega) _⟩
      · obtain ⟨P, hP⟩ : ∃ P, P = w3.heap.size := ⟨_, rfl⟩
        have e0 : (w3.alloc (.cells #[.int .i64 la, .int .i64 na] 24)).cell? ⟨P, 0, none⟩ = some (.int .i64 la) := by rw [hP]; simp [go_sem]
        have e1 : (w3.alloc (.cells #[.int .i64 la, .int .i64 na] 24)).cell? ⟨P, 1, none⟩ = some (.int .i64 na) := by rw [hP]; simp [go_sem]
        have d0 : (w3.alloc (.cells #[.int .i64 la, .int .i64 na] 24)).cell? ⟨w.heap.size, 0, none⟩ = some (.int .i64 0) := by rw [World.cell?_alloc_past _ _ _ (by omega)]; exact c0
        have d1 : (w3.alloc (.cells #[.int .i64 la, .int .i64 na] 24)).cell? ⟨w.heap.size, 1, none⟩ = some (.int .i64 0) := by rw [World.cell?_alloc_past _ _ _ (by omega)]; exact c1
        have df : ∀ o, (w3.alloc (.cells #[.int .i64 la, .int .i64 na] 24)).frozen? ⟨w.heap.size, o, none⟩ = false := fun o => by rw [World.frozen?_alloc_past _ _ _ (by omega)]; exact cf o
        have k1 : w.heap.size < (w3.alloc (.cells #[.int .i64 la, .int .i64 na] 24)).heap.size := by simp; omega
        have k2 : P < (w3.alloc (.cells #[.int .i64 la, .int .i64 na] 24)).heap.size := by rw [hP]; simp
        have k3 : w.heap.size < P := by omega
        have HB4 : Hid (Below w.heap.size w (w3.alloc (.cells #[.int .i64 la, .int .i64 na] 24))) := HB3.out.alloc (Nat.le_of_lt z1) _
        go_wp2_with fail
        rw [← hP]
        generalize w3.alloc (.cells #[.int .i64 la, .int .i64 na] 24) = w4 at *
        clear hP c0 c1 cf z1 HB3
        refine (spec_NodeText la na _).mono ?_
        rintro e w5 ⟨rfl, hb⟩
        have HB5 : Hid (Below w.heap.size w w5) := HB4.out.trans (hb.mono (Nat.le_of_lt k1))
        have c0 := (Below.celz hb _ _ _ k1).trans d0
        have c1 := (Below.celz hb _ _ _ k1).trans d1
        have cf : ∀ o, w5.frozen? ⟨w.heap.size, o, none⟩ = false := fun o => (Below.froz hb _ _ _ k1).trans (df o)
        have f0 := (Below.celz hb _ _ _ k2).trans e0
        have f1 := (Below.celz hb _ _ _ k2).trans e1
        have z1 : w.heap.size < w5.heap.size := by have := hb.size; omega
        have z2 : P < w5.heap.size := by have := hb.size; omega
        clear hb d0 d1 df e0 e1 k1 k2 HB4
        have hq : ((ndt la na).toList == s.toList) = decide (ndt la na = s) := by
          rw [ByteArray.toList_eq, ByteArray.toList_eq, Bool.eq_iff_iff]
          simp only [beq_iff_eq, decide_eq_true_eq]
          exact ⟨fun h => ByteArray.ext (Array.toList_inj.1 h), fun h => by rw [h]⟩
        by_cases heq : ndt la na = s ∧ nodeB la na = true
        · have HE : Hid (nodeB la na = true ∧ ndt la na = s) := ⟨heq.2, heq.1⟩
          have hq' : ((ndt la na).toList == s.toList) = true := by rw [hq]; simpa using heq.1
          generalize hgg : ndt la na = tk at hq' ⊢
          clear hgg
          clear hq heq HPP
          go_wp2_with fail
          refine bodyPost_ret (v := .tuple #[.agg #[.int .i64 la, .int .i64 na], .bool true]) (by simp [*, results, Tryd.results10, go_sem]) rfl ?_
          exact ⟨la, na, true, rfl, .inl ⟨rfl, HE.out.1, HE.out.2⟩, (HB5.out.setCell (by simp) _).setCell (by simp) _⟩
        · have hnq : ¬ ndt la na = s := fun e => by
            cases hn : nodeB la na with
            | true => exact heq ⟨e, hn⟩
            | false =>
              rw [ndt, hn] at e
              have := HRS.out e.symm
              simp at this
          have hno : Hid (∀ l' n', nodeB l' n' = true → ndt l' n' ≠ s) := fun l' n' h e => by
            obtain ⟨-, -, rfl, rfl⟩ := HPP.out l' n' h e
            exact hnq e
          have hq' : ((ndt la na).toList == s.toList) = false := by rw [hq]; simpa using hnq
          generalize hgg : ndt la na = tk at hq' ⊢
          clear hgg hq heq hnq HPP
          go_wp2_with fail
          refine bodyPost_ret (v := .tuple #[.agg #[.int .i64 0, .int .i64 0], .bool false]) (by simp [*, results, Tryd.results10, go_sem]) rfl ?_
          exact ⟨0, 0, false, rfl, .inr ⟨rfl, rfl, rfl, hno.out⟩, (HB5.out.setCell (by simp) _).setCell (by simp) _⟩
  · have hno : Hid (∀ l' n', nodeB l' n' = true → ndt l' n' ≠ s) := fun l' n' h e => by
      obtain ⟨p, q, hpq, _⟩ := HP.out l' n' h e
      rw [hpq] at h2; exact h2 rfl
    have h2b : ((rs.length : Int) == 2) = false := by simp only [beq_eq_false_iff_ne, ne_eq]; omega
    have h2c : ((rs.length : Int) != 2) = true := by simp only [bne_iff_ne, ne_eq]; omega
    clear h2 HP HR
    go_wp2_with fail
    refine bodyPost_ret (v := .tuple #[.agg #[.int .i64 0, .int .i64 0], .bool false]) (by simp [*, results, Tryd.results10, go_sem]) rfl ?_
    exact HFIN.out _ HB1.out hno.out
theorem below_dn (w : World) (k : Nat) : Below w.heap.size w (w.drewN k) := by have := below_gk w k #[]; rwa [Go.Sort.grow_empty] at this
theorem index_hit (c : UInt8) : ∀ s : List UInt8, 0 ≤ Lib.index s [c] → s.take (Lib.index s [c]).toNat ++ [c] ++ s.drop ((Lib.index s [c]).toNat + 1) = s
  | [], h => by simp [Lib.index] at h
  | b :: l, h => by
    by_cases hb : c = b
    · subst hb
      have : Lib.index (c :: l) [c] = 0 := by simp [Lib.index]
      rw [this]; simp
    · have hp : ([c] : List UInt8).isPrefixOf (b :: l) = false := by simp [List.isPrefixOf, hb]
      unfold Lib.index at h ⊢
      rw [hp] at h ⊢
      simp only [Bool.false_eq_true, if_false] at h ⊢
      have hg := Lib.index_ge l [c]
      by_cases hm : Lib.index l [c] = -1
      · rw [hm] at h; simp at h
      · have e : (Lib.index l [c] == -1) = false := by simpa using hm
        rw [e] at h ⊢
        simp only [Bool.false_eq_true, if_false] at h ⊢
        have ih := index_hit c l (by omega)
        have e2 : (Lib.index l [c] + 1).toNat = (Lib.index l [c]).toNat + 1 := by omega
        rw [e2]
        simpa using ih
theorem cut_all : ∀ k : Fin 8, ∀ m : Fin 41, Lib.cut (txtL k.val ++ [46] ++ dl m.val) [46] = (txtL k.val, dl m.val, true) := by decide +kernel
theorem readO {l : List UInt8} (h : readB l = true) : ∃ k : Fin 8, readV l = k.val ∧ txtL k.val = l := by
  unfold readB at h
  have key : ∀ n k, readN l n = some k → k < n ∧ txtL k = l := by
    intro n
    induction n with
    | zero => intro k h; simp [readN] at h
    | succ n ih =>
      intro k h
      simp only [readN] at h
      cases hn : readN l n with
      | some j =>
        rw [hn] at h
        have hk : j = k := Option.some.inj h
        have := ih j hn
        exact ⟨by omega, by rw [← hk]; exact this.2⟩
      | none =>
        rw [hn] at h
        simp only at h
        split at h
        · rename_i ht
          have hk : n = k := Option.some.inj h
          exact ⟨by omega, by rw [← hk]; exact ht⟩
        · cases h
  unfold readV
  cases hr : readN l 8 with
  | none => rw [hr] at h; cases h
  | some k =>
    obtain ⟨h1, h2⟩ := key 8 k hr
    exact ⟨⟨k, h1⟩, rfl, h2⟩
/-- What the pieces ahead of and behind the first full stop tell. -/
theorem cut_sound {s : ByteArray} {a d : List UInt8} {f : Bool} (hc : Lib.cut s.data.toList [46] = (a, d, f)) (h1 : readB a = true) (h2 : numB d = true) (h3 : nodeB (readV a) (numV d) = true) : ndt (readV a) (numV d) = s := by
  obtain ⟨k, hk, hk2⟩ := readO h1
  obtain ⟨g1, g2, g3⟩ := nodeB_true h3
  have hno : numO d = some (numV d) := by
    unfold numB at h2
    obtain ⟨n, hn⟩ := Option.isSome_iff_exists.1 h2
    rw [hn, (numO_lists hn).1]
  obtain ⟨j, hj⟩ := Int.eq_ofNat_of_zero_le g2
  have hd : Lib.decDigits j = d := by
    have := (numO_ok hno).2
    rw [hj, Lib.itoa_nonneg] at this
    exact this
  have hs : s.data.toList = a ++ [46] ++ d := by
    unfold Lib.cut at hc
    by_cases hi : 0 ≤ Lib.index s.data.toList [46]
    · rw [if_pos hi] at hc
      have := index_hit 46 _ hi
      injection hc with e1 e2
      injection e2 with e2 e3
      rw [← e1, ← e2]
      exact this.symm
    · rw [if_neg hi] at hc
      injection hc with e1 e2
      injection e2 with e2 e3
      rw [← e2] at hno
      cases hno
  obtain ⟨k2, m2, e1, e2, e3, _⟩ := ndt_list h3
  apply ByteArray.ext
  apply Array.toList_inj.1
  rw [e3, hs, ← hk2]
  have ek : k2 = k := Fin.ext (by omega)
  have em : m2.val = j := by omega
  rw [ek, em, ← hd, dec_dl (by omega)]
theorem cut_full {s : ByteArray} {a d : List UInt8} {f : Bool} (hc : Lib.cut s.data.toList [46] = (a, d, f)) {l n : Int} (h : nodeB l n = true) (e : ndt l n = s) : readB a = true ∧ numB d = true ∧ readV a = l ∧ numV d = n := by
  obtain ⟨k, m, rfl, rfl, e1, _⟩ := ndt_list h
  rw [← e, e1, cut_all k m] at hc
  injection hc with h1 h2
  injection h2 with h2 h3
  have a4 := nd_all k m
  have := numO_lists a4.2.2.2
  rw [← h1, ← h2]
  exact ⟨a4.2.2.1, this.2, a4.2.1, this.1⟩
theorem cut_size (s : List UInt8) : (Lib.cut s [46]).1.length ≤ s.length ∧ (Lib.cut s [46]).2.1.length ≤ s.length := by
  unfold Lib.cut
  split
  · exact ⟨by simp only [List.length_take]; omega, by simp⟩
  · simp
set_option maxRecDepth 16000 in
set_option maxHeartbeats 4000000 in
theorem impl_NodeRead (s : ByteArray) (w : World) (hs : s.size ≤ 1048576) (ht : Table w) (hml : ∃ m, w.cell? ⟨1, 0, none⟩ = some (.int .i64 m)) (hsy : ∃ u v, w.cell? ⟨3, 0, none⟩ = some (.iface u v)) (hra : ∃ u v, w.cell? ⟨4, 0, none⟩ = some (.iface u v)) (htab : Lib.TabIs Tryd.prog w "internal/strconv.uint64pow10" .u64 Lib.pow10Tab) :
    Calls Tryd.prog 8 #[.string s] w fun e w' => ∃ l n b, e = .returned (.tuple #[.agg #[.int .i64 l, .int .i64 n], .bool b]) ∧ NdIs s l n b ∧ Below w.heap.size w w' := by
  have HV : Hid (∀ W, Below w.heap.size w W → Table W ∧ (∃ u v, W.cell? ⟨3, 0, none⟩ = some (.iface u v)) ∧ (∃ u v, W.cell? ⟨4, 0, none⟩ = some (.iface u v)) ∧ Lib.TabIs Tryd.prog W "internal/strconv.uint64pow10" .u64 Lib.pow10Tab) := fun W h => by
    refine ⟨ht.later h, ?_, ?_, ?_⟩
    · obtain ⟨u, v, hc⟩ := hsy
      exact ⟨u, v, (h.cell (World.block_lt_of_cell? _ _ hc)).trans hc⟩
    · obtain ⟨u, v, hc⟩ := hra
      exact ⟨u, v, (h.cell (World.block_lt_of_cell? _ _ hc)).trans hc⟩
    · have hg : Tryd.prog.globalNamed "internal/strconv.uint64pow10" = some 2 := by kernel_rfl
      obtain ⟨_, _, hh⟩ := heap_of_var hg htab
      exact var?_below h hg (lt_of_block hh) htab
  obtain ⟨mx, hmx⟩ := hml
  have hmx' : (w.alloc (.cells #[.int .i64 0, .int .i64 0] 24)).cell? ⟨1, 0, none⟩ = some (.int .i64 mx) := by
    rw [World.cell?_alloc_past _ _ _ (World.block_lt_of_cell? _ _ hmx)]; exact hmx
  have b0 := (Below.refl w.heap.size w).alloc (Nat.le_refl _) (.cells #[.int .i64 0, .int .i64 0] 24)
  have HZ := cut_size s.data.toList
  obtain ⟨⟨ta, td, tf⟩, hcut⟩ : ∃ x, Lib.cut s.data.toList [46] = x := ⟨_, rfl⟩
  have HC := Tryd.strings_Cut s ⟨#[46]⟩ mx (w.alloc (.cells #[.int .i64 0, .int .i64 0] 24)) (by omega) hmx'
  have e46 : (⟨#[46]⟩ : ByteArray).data.toList = [46] := rfl
  rw [e46, hcut] at HC
  rw [hcut] at HZ
  dsimp only at HC HZ
  obtain ⟨p, hp⟩ : ∃ p : ByteArray, p = ⟨ta.toArray⟩ := ⟨_, rfl⟩
  obtain ⟨q, hq⟩ : ∃ p : ByteArray, p = ⟨td.toArray⟩ := ⟨_, rfl⟩
  rw [← hp, ← hq] at HC
  have hpl : p.data.toList = ta := by rw [hp]
  have hql : q.data.toList = td := by rw [hq]
  have hpz : p.size ≤ 1048576 := by have h1 : p.size = ta.length := by rw [hp]; exact List.size_toArray
                                    have h2 : s.data.toList.length = s.size := by simp
                                    omega
  have hqz : q.size ≤ 1048576 := by have h1 : q.size = td.length := by rw [hq]; exact List.size_toArray
                                    have h2 : s.data.toList.length = s.size := by simp
                                    omega
  have HPS : Hid (readB p.data.toList = true → numB q.data.toList = true → nodeB (readV p.data.toList) (numV q.data.toList) = true → ndt (readV p.data.toList) (numV q.data.toList) = s) := by rw [hpl, hql]; exact cut_sound hcut
  have HPF : Hid (∀ l n, nodeB l n = true → ndt l n = s → readB p.data.toList = true ∧ numB q.data.toList = true ∧ readV p.data.toList = l ∧ numV q.data.toList = n) := fun l n h e => by rw [hpl, hql]; exact cut_full hcut h e
  have HCC : Hid (Calls Tryd.prog 18 #[.string s, .string ⟨#[46]⟩] (w.alloc (.cells #[.int .i64 0, .int .i64 0] 24)) fun e w' => e = .returned (.tuple #[.string p, .string q, .bool tf]) ∧ ∃ n, w' = (w.alloc (.cells #[.int .i64 0, .int .i64 0] 24)).drewN n) := HC
  clear HC HZ hp hq hpl hql hcut hmx hmx' ht hsy hra htab
  have C0 : (w.alloc (.cells #[.int .i64 0, .int .i64 0] 24)).cell? ⟨w.heap.size, 0, none⟩ = some (.int .i64 0) := by simp [go_sem]
  have C1 : (w.alloc (.cells #[.int .i64 0, .int .i64 0] 24)).cell? ⟨w.heap.size, 1, none⟩ = some (.int .i64 0) := by simp [go_sem]
  have CF : ∀ o, (w.alloc (.cells #[.int .i64 0, .int .i64 0] 24)).frozen? ⟨w.heap.size, o, none⟩ = false := fun o => by simp [go_sem]
  have Z0 : w.heap.size < (w.alloc (.cells #[.int .i64 0, .int .i64 0] 24)).heap.size := by simp
  generalize hW0 : w.alloc (.cells #[.int .i64 0, .int .i64 0] 24) = W0 at *
  have HW0 : Hid (w.alloc (.cells #[.int .i64 0, .int .i64 0] 24) = W0) := hW0
  have HB0 : Hid (Below w.heap.size w W0) := b0
  clear hW0 b0
  go_enter Tryd.func8, Tryd.ntmps8
  go_wp2_with fail
  rw [HW0.out]
  clear HW0
  refine HCC.out.mono ?_
  rintro e w1 ⟨rfl, k, rfl⟩
  have hb : Below w.heap.size w (W0.drewN k) := HB0.out.trans ((below_dn W0 k).mono (Nat.le_of_lt Z0))
  have c0 : (W0.drewN k).cell? ⟨w.heap.size, 0, none⟩ = some (.int .i64 0) := (Below.celz (below_dn W0 k) _ _ _ Z0).trans C0
  have c1 : (W0.drewN k).cell? ⟨w.heap.size, 1, none⟩ = some (.int .i64 0) := (Below.celz (below_dn W0 k) _ _ _ Z0).trans C1
  have cf : ∀ o, (W0.drewN k).frozen? ⟨w.heap.size, o, none⟩ = false := fun o => (Below.froz (below_dn W0 k) _ _ _ Z0).trans (CF o)
  have z1 : w.heap.size < (W0.drewN k).heap.size := by rw [World.heap_drewN]; exact Z0
  have HB1 : Hid (Below w.heap.size w (W0.drewN k)) := hb
  generalize W0.drewN k = w1 at *
  clear hb C0 C1 CF Z0 HB0 HCC
  go_wp2_with fail
  refine (impl_LabelRead p _ (HV.out _ HB1.out).1).mono ?_
  rintro e w2 ⟨rfl, rfl⟩
  obtain ⟨la, hla⟩ : ∃ la, la = readV p.data.toList := ⟨_, rfl⟩
  obtain ⟨ba, hba⟩ : ∃ ba, ba = readB p.data.toList := ⟨_, rfl⟩
  rw [← hla, ← hba]
  rw [← hla, ← hba] at HPS HPF
  clear hla hba
  go_wp2_with fail
  refine (impl_numRead q _ hqz (HV.out _ HB1.out).2.1 (HV.out _ HB1.out).2.2.1 (HV.out _ HB1.out).2.2.2).mono ?_
  rintro e w3 ⟨rfl, hb⟩
  have HB3 : Hid (Below w.heap.size w w3) := HB1.out.trans (hb.mono (by omega))
  have d0 : w3.cell? ⟨w.heap.size, 0, none⟩ = some (.int .i64 0) := (Below.celz hb _ _ _ z1).trans c0
  have d1 : w3.cell? ⟨w.heap.size, 1, none⟩ = some (.int .i64 0) := (Below.celz hb _ _ _ z1).trans c1
  have df : ∀ o, w3.frozen? ⟨w.heap.size, o, none⟩ = false := fun o => (Below.froz hb _ _ _ z1).trans (cf o)
  have z2 : w.heap.size < w3.heap.size := by have := hb.size; omega
  clear hb c0 c1 cf z1 HB1 hpz hqz
  obtain ⟨na, hna⟩ : ∃ la, la = numV q.data.toList := ⟨_, rfl⟩
  obtain ⟨nb, hnb⟩ : ∃ ba, ba = numB q.data.toList := ⟨_, rfl⟩
  rw [← hna, ← hnb]
  rw [← hna, ← hnb] at HPS HPF
  clear hna hnb
  cases ba
  · have hno : Hid (∀ l' n', nodeB l' n' = true → ndt l' n' ≠ s) := fun l' n' h e => by have := (HPF.out l' n' h e).1; cases this
    clear HPF HPS
    go_wp2_with fail
    refine bodyPost_ret (v := .tuple #[.agg #[.int .i64 0, .int .i64 0], .bool false]) (by simp [*, results, Tryd.results8, go_sem]) rfl ?_
    exact ⟨0, 0, false, rfl, .inr ⟨rfl, rfl, rfl, hno.out⟩, ((HB3.out.setCell (by simp) _).setCell (by simp) _).alloc (by simp; omega) _⟩
  · cases nb
    · have hno : Hid (∀ l' n', nodeB l' n' = true → ndt l' n' ≠ s) := fun l' n' h e => by have := (HPF.out l' n' h e).2.1; cases this
      clear HPF HPS
      go_wp2_with fail
      refine bodyPost_ret (v := .tuple #[.agg #[.int .i64 0, .int .i64 0], .bool false]) (by simp [*, results, Tryd.results8, go_sem]) rfl ?_
      exact ⟨0, 0, false, rfl, .inr ⟨rfl, rfl, rfl, hno.out⟩, ((HB3.out.setCell (by simp) _).setCell (by simp) _).alloc (by simp; omega) _⟩
    · obtain ⟨P, hP⟩ : ∃ P, P = w3.heap.size := ⟨_, rfl⟩
      have e0 : (w3.alloc (.cells #[.int .i64 la, .int .i64 na] 24)).cell? ⟨P, 0, none⟩ = some (.int .i64 la) := by rw [hP]; simp [go_sem]
      have e1 : (w3.alloc (.cells #[.int .i64 la, .int .i64 na] 24)).cell? ⟨P, 1, none⟩ = some (.int .i64 na) := by rw [hP]; simp [go_sem]
      have c0 : (w3.alloc (.cells #[.int .i64 la, .int .i64 na] 24)).cell? ⟨w.heap.size, 0, none⟩ = some (.int .i64 0) := by rw [World.cell?_alloc_past _ _ _ (by omega)]; exact d0
      have c1 : (w3.alloc (.cells #[.int .i64 la, .int .i64 na] 24)).cell? ⟨w.heap.size, 1, none⟩ = some (.int .i64 0) := by rw [World.cell?_alloc_past _ _ _ (by omega)]; exact d1
      have cf : ∀ o, (w3.alloc (.cells #[.int .i64 la, .int .i64 na] 24)).frozen? ⟨w.heap.size, o, none⟩ = false := fun o => by rw [World.frozen?_alloc_past _ _ _ (by omega)]; exact df o
      have k1 : w.heap.size < (w3.alloc (.cells #[.int .i64 la, .int .i64 na] 24)).heap.size := by simp; omega
      have k2 : P < (w3.alloc (.cells #[.int .i64 la, .int .i64 na] 24)).heap.size := by rw [hP]; simp
      have k3 : w.heap.size < P := by omega
      have HB4 : Hid (Below w.heap.size w (w3.alloc (.cells #[.int .i64 la, .int .i64 na] 24))) := HB3.out.alloc (Nat.le_of_lt z2) _
      go_wp2_with fail
      rw [← hP]
      generalize w3.alloc (.cells #[.int .i64 la, .int .i64 na] 24) = w4 at *
      clear hP d0 d1 df z2 HB3
      refine (impl_NodeOk la na _).mono ?_
      rintro e w5 ⟨rfl, hb⟩
      have HB5 : Hid (Below w.heap.size w w5) := HB4.out.trans (hb.mono (Nat.le_of_lt k1))
      have d0 := (Below.celz hb _ _ _ k1).trans c0
      have d1 := (Below.celz hb _ _ _ k1).trans c1
      have df : ∀ o, w5.frozen? ⟨w.heap.size, o, none⟩ = false := fun o => (Below.froz hb _ _ _ k1).trans (cf o)
      have f0 := (Below.celz hb _ _ _ k2).trans e0
      have f1 := (Below.celz hb _ _ _ k2).trans e1
      have z1 : w.heap.size < w5.heap.size := by have := hb.size; omega
      have z2 : P < w5.heap.size := by have := hb.size; omega
      clear hb c0 c1 cf e0 e1 k1 k2 HB4
      cases hok : nodeB la na
      · have hno : Hid (∀ l' n', nodeB l' n' = true → ndt l' n' ≠ s) := fun l' n' h e => by
          obtain ⟨-, -, rfl, rfl⟩ := HPF.out l' n' h e
          rw [hok] at h; cases h
        clear HPF HPS hok
        go_wp2_with fail
        refine bodyPost_ret (v := .tuple #[.agg #[.int .i64 0, .int .i64 0], .bool false]) (by simp [*, results, Tryd.results8, go_sem]) rfl ?_
        exact ⟨0, 0, false, rfl, .inr ⟨rfl, rfl, rfl, hno.out⟩, (HB5.out.setCell (by simp) _).setCell (by simp) _⟩
      · have hyes : Hid (NdIs s la na true) := .inl ⟨rfl, hok, HPS.out trivial trivial hok⟩
        clear HPF HPS hok
        go_wp2_with fail
        refine bodyPost_ret (v := .tuple #[.agg #[.int .i64 la, .int .i64 na], .bool true]) (by simp [*, results, Tryd.results8, go_sem]) rfl ?_
        exact ⟨la, na, true, rfl, hyes.out, (HB5.out.setCell (by simp) _).setCell (by simp) _⟩
end Go.Proofs.YtbgcalhpopcakaaDoor.Lab

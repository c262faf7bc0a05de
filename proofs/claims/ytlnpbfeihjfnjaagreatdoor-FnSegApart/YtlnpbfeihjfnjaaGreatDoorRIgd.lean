/-
  What is done to a graph, by the program: the deeds behind the interface, GraphDo. (Written by tools/mkigd.py.)
-/
import Derived.Test.YtlnpbfeihjfnjaaGreatDoorRBis
namespace Go.Proofs.YtlnpbfeihjfnjaaGreatDoor.Lab
open Go.RowKit Go.ChangeMaps
set_option linter.unusedVariables false
set_option maxRecDepth 8000 in
theorem do_nodePut (b : Nat) (x0 x1 : Int) (w : World) (Q : Value → World → Prop) (H : ∀ w1, Below w.heap.size w w1 → Calls Tryz.prog 86 #[.pointer (some ⟨b, 0, none⟩), .agg #[.int .i64 x0, .int .i64 x1]] w1 fun e w' => ∃ v, e = .returned v ∧ Q v w') :
    Calls Tryz.prog 176 #[.agg #[.int .i64 x0, .int .i64 x1], .pointer (some ⟨b, 0, none⟩)] w fun e w' => ∃ v, e = .returned v ∧ Q v w' := by
  have H2 : Hid (∀ o, Calls Tryz.prog 86 #[.pointer (some ⟨b, 0, none⟩), .agg #[.int .i64 x0, .int .i64 x1]] (w.alloc o) fun e w' => ∃ v, e = .returned v ∧ Q v w') := fun o => H _ ((Below.refl _ _).alloc (Nat.le_refl _) _)
  clear H
  go_enter Tryz.func176, Tryz.ntmps176
  go_wp2_with fail
  refine (H2.out _).mono ?_
  rintro e w1 ⟨v, rfl, hq⟩
  have HQ : Hid (Q v w1) := hq
  clear hq H2
  go_wp2_with fail
  go_ret
  exact ⟨_, rfl, HQ.out⟩
set_option maxRecDepth 8000 in
theorem do_nodeGone (b : Nat) (x0 x1 : Int) (w : World) (Q : Value → World → Prop) (H : ∀ w1, Below w.heap.size w w1 → Calls Tryz.prog 180 #[.pointer (some ⟨b, 0, none⟩), .agg #[.int .i64 x0, .int .i64 x1]] w1 fun e w' => ∃ v, e = .returned v ∧ Q v w') :
    Calls Tryz.prog 178 #[.agg #[.int .i64 x0, .int .i64 x1], .pointer (some ⟨b, 0, none⟩)] w fun e w' => ∃ v, e = .returned v ∧ Q v w' := by
  have H2 : Hid (∀ o, Calls Tryz.prog 180 #[.pointer (some ⟨b, 0, none⟩), .agg #[.int .i64 x0, .int .i64 x1]] (w.alloc o) fun e w' => ∃ v, e = .returned v ∧ Q v w') := fun o => H _ ((Below.refl _ _).alloc (Nat.le_refl _) _)
  clear H
  go_enter Tryz.func178, Tryz.ntmps178
  go_wp2_with fail
  refine (H2.out _).mono ?_
  rintro e w1 ⟨v, rfl, hq⟩
  have HQ : Hid (Q v w1) := hq
  clear hq H2
  go_wp2_with fail
  go_ret
  exact ⟨_, rfl, HQ.out⟩
set_option maxRecDepth 8000 in
theorem do_edgePut (b : Nat) (x0 x1 x2 x3 x4 : Int) (w : World) (Q : Value → World → Prop) (H : ∀ w1, Below w.heap.size w w1 → Calls Tryz.prog 88 #[.pointer (some ⟨b, 0, none⟩), .agg #[.int .i64 x0, .int .i64 x1, .int .i64 x2, .int .i64 x3, .int .i64 x4]] w1 fun e w' => ∃ v, e = .returned v ∧ Q v w') :
    Calls Tryz.prog 182 #[.agg #[.int .i64 x0, .int .i64 x1, .int .i64 x2, .int .i64 x3, .int .i64 x4], .pointer (some ⟨b, 0, none⟩)] w fun e w' => ∃ v, e = .returned v ∧ Q v w' := by
  have H2 : Hid (∀ o, Calls Tryz.prog 88 #[.pointer (some ⟨b, 0, none⟩), .agg #[.int .i64 x0, .int .i64 x1, .int .i64 x2, .int .i64 x3, .int .i64 x4]] (w.alloc o) fun e w' => ∃ v, e = .returned v ∧ Q v w') := fun o => H _ ((Below.refl _ _).alloc (Nat.le_refl _) _)
  clear H
  go_enter Tryz.func182, Tryz.ntmps182
  go_wp2_with fail
  refine (H2.out _).mono ?_
  rintro e w1 ⟨v, rfl, hq⟩
  have HQ : Hid (Q v w1) := hq
  clear hq H2
  go_wp2_with fail
  go_ret
  exact ⟨_, rfl, HQ.out⟩
set_option maxRecDepth 8000 in
theorem do_edgeCut (b : Nat) (x0 x1 x2 x3 x4 : Int) (w : World) (Q : Value → World → Prop) (H : ∀ w1, Below w.heap.size w w1 → Calls Tryz.prog 186 #[.pointer (some ⟨b, 0, none⟩), .agg #[.int .i64 x0, .int .i64 x1, .int .i64 x2, .int .i64 x3, .int .i64 x4]] w1 fun e w' => ∃ v, e = .returned v ∧ Q v w') :
    Calls Tryz.prog 184 #[.agg #[.int .i64 x0, .int .i64 x1, .int .i64 x2, .int .i64 x3, .int .i64 x4], .pointer (some ⟨b, 0, none⟩)] w fun e w' => ∃ v, e = .returned v ∧ Q v w' := by
  have H2 : Hid (∀ o, Calls Tryz.prog 186 #[.pointer (some ⟨b, 0, none⟩), .agg #[.int .i64 x0, .int .i64 x1, .int .i64 x2, .int .i64 x3, .int .i64 x4]] (w.alloc o) fun e w' => ∃ v, e = .returned v ∧ Q v w') := fun o => H _ ((Below.refl _ _).alloc (Nat.le_refl _) _)
  clear H
  go_enter Tryz.func184, Tryz.ntmps184
  go_wp2_with fail
  refine (H2.out _).mono ?_
  rintro e w1 ⟨v, rfl, hq⟩
  have HQ : Hid (Q v w1) := hq
  clear hq H2
  go_wp2_with fail
  go_ret
  exact ⟨_, rfl, HQ.out⟩
/-- How it ended: the error, and its number. -/
def EndIs (aF aT aN aU : Addr) (v : Value) (c : Int) : Prop := v = .nilIface ∧ c = 0 ∨ ∃ a, v = .iface 213 (.pointer (some a)) ∧ (a = aF ∧ c = 1 ∨ a = aT ∧ c = 2 ∨ a = aN ∧ c = 3 ∨ a = aU ∧ c = 4)
theorem goCode_any {aF aT aN aU : Addr} {v : Value} {c : Int} (h : EndIs aF aT aN aU v c) (w : World) (hF : Four w aF aT aN aU) : Calls Tryz.prog 69 #[v] w fun e w' => e = .returned (.int .i64 c) ∧ Below w.heap.size w w' := by
  rcases h with ⟨rfl, rfl⟩ | ⟨a, rfl, h⟩
  · exact goCode_nil w
  · have hc : codeOf a aT aN aU = c := by
      unfold codeOf
      rcases h with ⟨rfl, rfl⟩ | ⟨rfl, rfl⟩ | ⟨rfl, rfl⟩ | ⟨rfl, rfl⟩
      · rw [if_neg hF.ft, if_neg hF.fn, if_neg hF.fu]
      · rw [if_pos rfl]
      · rw [if_neg (Ne.symm hF.tn), if_pos rfl]
      · rw [if_neg (Ne.symm hF.tu), if_neg (Ne.symm hF.nu), if_pos rfl]
    rw [← hc]
    refine goCode_sent a aF aT aN aU w hF ?_
    rcases h with ⟨rfl, _⟩ | ⟨rfl, _⟩ | ⟨rfl, _⟩ | ⟨rfl, _⟩
    · exact hF.f.2
    · exact hF.t.2
    · exact hF.n.2
    · exact hF.u.2
/-- What stands behind a deed. -/
def PostDo (W0 w' : World) (b mn me : Nat) (ns : List Nd) (es : List Ed) (k nl nn l al an bl bn : Int) (aF aT aN aU : Addr) (v : Value) : Prop :=
  ∃ os xs cn ce c, EndIs aF aT aN aU v c ∧ BookAt w' b mn me (nEnts os) (eEnts xs) cn ce ∧ Res ns es k nl nn l al an bl bn os xs c ∧ Below W0.heap.size W0 w'
theorem doC_of {ns : List Nd} {es : List Ed} {k nl nn l al an bl bn : Int} (h : ¬ opI k nl nn l al an bl bn < 0) : doC ns es k nl nn l al an bl bn = endsI ns es k nl nn l al an bl bn := by unfold doC; rw [if_neg h]
theorem nat_label {l : Int} (h : okB l = true) : ∃ kl : Nat, l = (kl : Int) ∧ kl < 8 := by
  have := okB_true h
  exact ⟨l.toNat, by omega, by omega⟩
section
variable {W0 w2 : World} {b mn me : Nat} {ns : List Nd} {es : List Ed} {aF aT aN aU : Addr}
theorem post_nodePut {nl nn l al an bl bn : Int} (hg : GOk ns es) (hbk : BookAt w2 b mn me (nEnts ns) (eEnts es) (nCnt ns) (eCnt es)) (hB : Below W0.heap.size W0 w2) (h0 : W0.heap.size ≤ b) (h1 : W0.heap.size ≤ mn) (h2 : W0.heap.size ≤ me) (hF : Four w2 aF aT aN aU) (ha : aloneN nl nn l al an bl bn = true) :
    Calls Tryz.prog 176 #[.agg #[.int .i64 nl, .int .i64 nn], .pointer (some ⟨b, 0, none⟩)] w2 fun e w' => ∃ v, e = .returned v ∧ PostDo W0 w' b mn me ns es 1 nl nn l al an bl bn aF aT aN aU v := by
  have hn : nodeB nl nn = true := by unfold aloneN at ha; simp at ha; exact ha.1
  obtain ⟨kl, rfl, hkl⟩ := nat_label (nodeB_true hn).1
  have hop := opI_node (k := 1) (.inl rfl) ha
  refine do_nodePut b kl nn w2 _ (fun w3 b3 => ?_)
  have hB3 : Below W0.heap.size W0 w3 := hB.trans (b3.mono hB.size)
  have hF3 := hF.keep b3
  refine (putNodeC b mn me kl nn (nEnts ns) (eEnts es) (nCnt ns) (eCnt es) w3 hkl (hbk.keep b3) (nodeVals ns) (by simp [nCnt]) _ _ hF3.t.1 _ _ hF3.u.1).mono ?_
  rintro e w' (⟨q1, q2, rfl, q4, q5⟩ | ⟨⟨v, q1⟩, rfl, q3⟩ | ⟨q1, q2, rfl, q4⟩)
  · have hm : ¬ ((kl : Int), nn) ∈ ns := fun h => by have := (mem_iff_lkp (x := ((kl : Int), nn)) hn).2 h; rw [show cod ((kl : Int), nn) = codeI kl nn from rfl, q1] at this; simp at this
    have hc : ¬ 5 ≤ cntNode kl ns := by simp only [nCnt] at q2; omega
    exact ⟨_, rfl, _, _, _, _, 0, .inl ⟨rfl, rfl⟩, (by simpa [nEnts, cod, nVal] using q4), res_put hg ha hm hc, q5.bel _ _ hB3 h0 h1 hB3.size⟩
  · have hm : ((kl : Int), nn) ∈ ns := (mem_iff_lkp (x := ((kl : Int), nn)) hn).1 (by rw [show cod ((kl : Int), nn) = codeI kl nn from rfl, q1]; rfl)
    exact ⟨_, rfl, ns, es, _, _, 2, .inr ⟨_, rfl, .inr (.inl ⟨rfl, rfl⟩)⟩, (hbk.keep b3).keep q3, res_same hg (by rw [doC_of hop]; simp [endsI, hm]) (by decide), hB3.trans (q3.mono hB3.size)⟩
  · have hm : ¬ ((kl : Int), nn) ∈ ns := fun h => by have := (mem_iff_lkp (x := ((kl : Int), nn)) hn).2 h; rw [show cod ((kl : Int), nn) = codeI kl nn from rfl, q1] at this; simp at this
    have hc : 5 ≤ cntNode kl ns := by simp only [nCnt] at q2; omega
    exact ⟨_, rfl, ns, es, _, _, 4, .inr ⟨_, rfl, .inr (.inr (.inr ⟨rfl, rfl⟩))⟩, (hbk.keep b3).keep q4, res_same hg (by rw [doC_of hop]; simp [endsI, hm, hc]) (by decide), hB3.trans (q4.mono hB3.size)⟩
theorem post_nodeGone {nl nn l al an bl bn : Int} (hg : GOk ns es) (hbk : BookAt w2 b mn me (nEnts ns) (eEnts es) (nCnt ns) (eCnt es)) (hB : Below W0.heap.size W0 w2) (h0 : W0.heap.size ≤ b) (h1 : W0.heap.size ≤ mn) (h2 : W0.heap.size ≤ me) (hF : Four w2 aF aT aN aU) (ha : aloneN nl nn l al an bl bn = true) :
    Calls Tryz.prog 178 #[.agg #[.int .i64 nl, .int .i64 nn], .pointer (some ⟨b, 0, none⟩)] w2 fun e w' => ∃ v, e = .returned v ∧ PostDo W0 w' b mn me ns es 4 nl nn l al an bl bn aF aT aN aU v := by
  have hn : nodeB nl nn = true := by unfold aloneN at ha; simp at ha; exact ha.1
  obtain ⟨kl, rfl, hkl⟩ := nat_label (nodeB_true hn).1
  have hop := opI_node (k := 4) (.inr rfl) ha
  have hp := gok_parts hg
  refine do_nodeGone b kl nn w2 _ (fun w3 b3 => ?_)
  have hB3 : Below W0.heap.size W0 w3 := hB.trans (b3.mono hB.size)
  have hF3 := hF.keep b3
  have hcl : (cntNode kl ns : Nat) ≤ ns.length := List.countP_le_length
  have hce : ∀ i : Nat, (cntEdge i es : Nat) ≤ es.length := fun i => List.countP_le_length
  refine (takeNode b mn me kl nn (nEnts ns) es (nCnt ns) (eCnt es) w3 hkl (hbk.keep b3) (nodeVals ns) hp.2.2.1 (nodup_ascE hp.2.2.2.1) hp.2.2.2.2.2 (fun i _ => ⟨by simp [eCnt], by have := hce i; have := hp.2.2.2.2.2; simp only [eCnt]; omega⟩) (by simp [nCnt]) (by have := hp.2.2.2.2.1; simp only [nCnt]; omega) _ _ hF3.n.1 W0.heap.size W0 hB3 h0 h1 h2).mono ?_
  rintro e w' (⟨q1, rfl, ⟨xs, cn, ce, q3, q4, q5, q6⟩, q7⟩ | ⟨q1, rfl, q3⟩)
  · have hm : ((kl : Int), nn) ∈ ns := (mem_iff_lkp (x := ((kl : Int), nn)) hn).1 q1
    exact ⟨_, rfl, _, _, _, _, 0, .inl ⟨rfl, rfl⟩, (by rw [← butK_nodes]; exact q6), res_gone hg ha hm q3 q4 q5, q7⟩
  · have hm : ¬ ((kl : Int), nn) ∈ ns := fun h => by have := (mem_iff_lkp (x := ((kl : Int), nn)) hn).2 h; rw [show cod ((kl : Int), nn) = codeI kl nn from rfl, q1] at this; simp at this
    exact ⟨_, rfl, ns, es, _, _, 3, .inr ⟨_, rfl, .inr (.inr (.inl ⟨rfl, rfl⟩))⟩, (hbk.keep b3).keep q3, res_same hg (by rw [doC_of hop]; simp [endsI, hm]) (by decide), hB3.trans (q3.mono hB3.size)⟩
set_option maxHeartbeats 1000000 in
theorem post_edgePut {nl nn l al an bl bn : Int} (hg : GOk ns es) (hbk : BookAt w2 b mn me (nEnts ns) (eEnts es) (nCnt ns) (eCnt es)) (hB : Below W0.heap.size W0 w2) (h0 : W0.heap.size ≤ b) (h1 : W0.heap.size ≤ mn) (h2 : W0.heap.size ≤ me) (hF : Four w2 aF aT aN aU) (ha : aloneE nl nn l al an bl bn = true) :
    Calls Tryz.prog 182 #[.agg #[.int .i64 l, .int .i64 al, .int .i64 an, .int .i64 bl, .int .i64 bn], .pointer (some ⟨b, 0, none⟩)] w2 fun e w' => ∃ v, e = .returned v ∧ PostDo W0 w' b mn me ns es 2 nl nn l al an bl bn aF aT aN aU v := by
  have hn : edB (l, al, an, bl, bn) = true := by unfold aloneE at ha; simp at ha; exact ha.1
  obtain ⟨kl, rfl, hkl⟩ := nat_label (edB_ok hn)
  have hop := opI_edge (k := 2) (.inl rfl) ha
  have hA : (lkp (nEnts ns) (codeI al an)).isSome = true ↔ (al, an) ∈ ns := mem_iff_lkp (x := (al, an)) (edB_parts hn).1
  have hA2 : (lkp (nEnts ns) (codeI bl bn)).isSome = true ↔ (bl, bn) ∈ ns := mem_iff_lkp (x := (bl, bn)) (edB_parts hn).2
  have hE : (lkp (eEnts es) (eco ((kl : Int), al, an, bl, bn))).isSome = true ↔ ((kl : Int), al, an, bl, bn) ∈ es := mem_iff_lkpE hn
  rw [show eco ((kl : Int), al, an, bl, bn) = ecodeI kl al an bl bn from rfl] at hE
  refine do_edgePut b kl al an bl bn w2 _ (fun w3 b3 => ?_)
  have hB3 : Below W0.heap.size W0 w3 := hB.trans (b3.mono hB.size)
  have hF3 := hF.keep b3
  refine (putEdgeC b mn me kl al an bl bn (nEnts ns) (eEnts es) (nCnt ns) (eCnt es) w3 hkl (hbk.keep b3) (nodeVals ns) (edgeVals es) (by simp [eCnt]) _ _ hF3.t.1 _ _ hF3.u.1 _ _ hF3.n.1).mono ?_
  rintro e w' (⟨⟨q1, qa, qb, q2⟩, rfl, q4, q5⟩ | ⟨⟨v, q1⟩, rfl, q3⟩ | ⟨q1, q2, rfl, q4⟩ | ⟨⟨q1, qa, qb, q2⟩, rfl, q4⟩)
  · have hm : ¬ ((kl : Int), al, an, bl, bn) ∈ es := fun h => by have := hE.2 h; rw [q1] at this; simp at this
    have hc : ¬ 7 ≤ cntEdge kl es := by simp only [eCnt] at q2; omega
    exact ⟨_, rfl, _, _, _, _, 0, .inl ⟨rfl, rfl⟩, (by simpa [eEnts, eco, eVal] using q4), res_join hg ha hm ⟨hA.1 qa, hA2.1 qb⟩ hc, q5.bel _ _ hB3 h0 h2 hB3.size⟩
  · have hm : ((kl : Int), al, an, bl, bn) ∈ es := hE.1 (by rw [q1]; rfl)
    exact ⟨_, rfl, ns, es, _, _, 2, .inr ⟨_, rfl, .inr (.inl ⟨rfl, rfl⟩)⟩, (hbk.keep b3).keep q3, res_same hg (by rw [doC_of hop]; simp [endsI, hm]) (by decide), hB3.trans (q3.mono hB3.size)⟩
  · have hm : ¬ ((kl : Int), al, an, bl, bn) ∈ es := fun h => by have := hE.2 h; rw [q1] at this; simp at this
    have hab : ¬ ((al, an) ∈ ns ∧ (bl, bn) ∈ ns) := fun h => q2 ⟨hA.2 h.1, hA2.2 h.2⟩
    have hends : endsI ns es 2 kl nn kl al an bl bn = endsI ns es 2 kl nn kl al an bl bn := rfl
    refine ⟨_, rfl, ns, es, _, _, 3, .inr ⟨_, rfl, .inr (.inr (.inl ⟨rfl, rfl⟩))⟩, (hbk.keep b3).keep q4, res_same hg ?_ (by decide), hB3.trans (q4.mono hB3.size)⟩
    rw [doC_of hop]
    unfold endsI
    rw [if_neg (by decide), if_pos rfl, if_neg hm, if_pos hab]
  · have hm : ¬ ((kl : Int), al, an, bl, bn) ∈ es := fun h => by have := hE.2 h; rw [q1] at this; simp at this
    have hc : 7 ≤ cntEdge kl es := by simp only [eCnt] at q2; omega
    refine ⟨_, rfl, ns, es, _, _, 4, .inr ⟨_, rfl, .inr (.inr (.inr ⟨rfl, rfl⟩))⟩, (hbk.keep b3).keep q4, res_same hg ?_ (by decide), hB3.trans (q4.mono hB3.size)⟩
    rw [doC_of hop]
    unfold endsI
    rw [if_neg (by decide), if_pos rfl, if_neg hm, if_neg (fun h => h ⟨hA.1 qa, hA2.1 qb⟩), if_pos hc]
set_option maxHeartbeats 1000000 in
theorem post_edgeCut {nl nn l al an bl bn : Int} (hg : GOk ns es) (hbk : BookAt w2 b mn me (nEnts ns) (eEnts es) (nCnt ns) (eCnt es)) (hB : Below W0.heap.size W0 w2) (h0 : W0.heap.size ≤ b) (h1 : W0.heap.size ≤ mn) (h2 : W0.heap.size ≤ me) (hF : Four w2 aF aT aN aU) (ha : aloneE nl nn l al an bl bn = true) :
    Calls Tryz.prog 184 #[.agg #[.int .i64 l, .int .i64 al, .int .i64 an, .int .i64 bl, .int .i64 bn], .pointer (some ⟨b, 0, none⟩)] w2 fun e w' => ∃ v, e = .returned v ∧ PostDo W0 w' b mn me ns es 3 nl nn l al an bl bn aF aT aN aU v := by
  have hn : edB (l, al, an, bl, bn) = true := by unfold aloneE at ha; simp at ha; exact ha.1
  obtain ⟨kl, rfl, hkl⟩ := nat_label (edB_ok hn)
  have hop := opI_edge (k := 3) (.inr rfl) ha
  have hp := gok_parts hg
  have hE : (lkp (eEnts es) (eco ((kl : Int), al, an, bl, bn))).isSome = true ↔ ((kl : Int), al, an, bl, bn) ∈ es := mem_iff_lkpE hn
  rw [show eco ((kl : Int), al, an, bl, bn) = ecodeI kl al an bl bn from rfl] at hE
  have hce : (cntEdge kl es : Nat) ≤ es.length := List.countP_le_length
  refine do_edgeCut b kl al an bl bn w2 _ (fun w3 b3 => ?_)
  have hB3 : Below W0.heap.size W0 w3 := hB.trans (b3.mono hB.size)
  have hF3 := hF.keep b3
  refine (takeEdge b mn me kl al an bl bn (nEnts ns) (eEnts es) (nCnt ns) (eCnt es) w3 hkl (hbk.keep b3) (edgeVals es) (by simp [eCnt]) (by have := hp.2.2.2.2.2; simp only [eCnt]; omega) _ _ hF3.n.1).mono ?_
  rintro e w' (⟨q1, rfl, q4, q5⟩ | ⟨q1, rfl, q3⟩)
  · have hm : ((kl : Int), al, an, bl, bn) ∈ es := hE.1 q1
    exact ⟨_, rfl, _, _, _, _, 0, .inl ⟨rfl, rfl⟩, (by rw [← butK_edges]; exact q4), res_cut hg ha hm, q5.bel _ _ hB3 h0 h2 hB3.size⟩
  · have hm : ¬ ((kl : Int), al, an, bl, bn) ∈ es := fun h => by have := hE.2 h; rw [q1] at this; simp at this
    exact ⟨_, rfl, ns, es, _, _, 3, .inr ⟨_, rfl, .inr (.inr (.inl ⟨rfl, rfl⟩))⟩, (hbk.keep b3).keep q3, res_same hg (by rw [doC_of hop]; simp [endsI, hm]) (by decide), hB3.trans (q3.mono hB3.size)⟩
end
theorem gd_of {w : World} {base : Nat} {v : Value} {ns : List Nd} {es : List Ed} {k nl nn l al an bl bn : Int} {os : List Nd} {xs : List Ed} {c : Int} (hg : gokB ns es = true) (hr : Res ns es k nl nn l al an bl bn os xs c) (h : GraphOut w base v os xs) :
    ∃ u1 u2, v = .agg #[u1, u2] ∧ OwnGraph w base u1 u2 (gdN ns es k nl nn l al an bl bn) (gdE ns es k nl nn l al an bl bn) ∧ gdC ns es k nl nn l al an bl bn = c := by
  obtain ⟨u1, u2, rs, ds, rfl, h1, h2, h3, h4, h5⟩ := h
  have e1 : rs = gdN ns es k nl nn l al an bl bn := by
    unfold gdN; rw [if_pos hg]
    exact asc_ext h1 hr.na (fun z => by rw [h2, hr.n])
  have e2 : ds = gdE ns es k nl nn l al an bl bn := by
    unfold gdE; rw [if_pos hg]
    exact ascE_ext h3 hr.ea (fun z => by rw [h4, hr.e])
  subst e1
  subst e2
  exact ⟨_, _, rfl, h5, by unfold gdC; rw [if_pos hg]; exact hr.c⟩
set_option maxRecDepth 8000 in
set_option maxHeartbeats 8000000 in
theorem impl_GraphDo (v1 v2 : Value) (ns : List Nd) (es : List Ed) (k nl nn l al an bl bn : Int) (w : World) (h1 : RowAt 2 encNode w v1 ns) (h2 : RowAt 5 encEdge w v2 es) (l1 : ns.length ≤ 1048576) (l2 : es.length ≤ 1048576) (aF aT aN aU : Addr) (hF : Four w aF aT aN aU) :
    Calls Tryz.prog 28 #[.agg #[v1, v2], .agg #[.int .i64 k, .int .i64 nl, .int .i64 nn, .int .i64 l, .int .i64 al, .int .i64 an, .int .i64 bl, .int .i64 bn]] w fun e w' => ∃ u1 u2, e = .returned (.tuple #[.agg #[u1, u2], .int .i64 (gdC ns es k nl nn l al an bl bn)]) ∧ OwnGraph w' w.heap.size u1 u2 (gdN ns es k nl nn l al an bl bn) (gdE ns es k nl nn l al an bl bn) ∧ Below w.heap.size w w' := by
  obtain ⟨a1, c1, rfl⟩ := h1.len
  obtain ⟨a2, c2, rfl⟩ := h2.len
  obtain ⟨W0, hW0⟩ : ∃ W0, W0 = ((w.alloc (.cells #[.slice a1 ns.length c1, .slice a2 es.length c2] 26)).alloc (.cells #[.int .i64 k, .int .i64 nl, .int .i64 nn, .int .i64 l, .int .i64 al, .int .i64 an, .int .i64 bl, .int .i64 bn] 50)).alloc (.cells #[.slice none 0 0, .slice none 0 0] 26) := ⟨_, rfl⟩
  have b0 : Below w.heap.size w W0 := by rw [hW0]; go_grown
  have z0 : W0.heap.size = w.heap.size + 3 := by rw [hW0]; simp
  have hcs : ∀ o, W0.cell? ⟨w.heap.size + 1, o, none⟩ = #[Value.int .i64 k, .int .i64 nl, .int .i64 nn, .int .i64 l, .int .i64 al, .int .i64 an, .int .i64 bl, .int .i64 bn][o]? := fun o => by rw [hW0, World.cell?_alloc_past _ _ _ (by simp)]; exact World.cell?_alloc_at _ _ _ _ (by simp)
  have hgs : ∀ o, W0.cell? ⟨w.heap.size, o, none⟩ = #[Value.slice a1 ns.length c1, .slice a2 es.length c2][o]? := fun o => by rw [hW0, World.cell?_alloc_past _ _ _ (by simp; omega), World.cell?_alloc_past _ _ _ (by simp)]; exact World.cell?_alloc_at _ _ _ _ rfl
  have q0 := hcs 0
  have q1 := hcs 1
  have q2 := hcs 2
  have q3 := hcs 3
  have q4 := hcs 4
  have q5 := hcs 5
  have q6 := hcs 6
  have q7 := hcs 7
  have g0 := hgs 0
  have g1 := hgs 1
  simp at q0 q1 q2 q3 q4 q5 q6 q7 g0 g1
  have y0 : W0.cell? ⟨w.heap.size + 2, 0, none⟩ = some (.slice none 0 0) := by rw [hW0]; simp [go_sem]
  have y1 : W0.cell? ⟨w.heap.size + 2, 1, none⟩ = some (.slice none 0 0) := by rw [hW0]; simp [go_sem]
  have yF : ∀ o, W0.frozen? ⟨w.heap.size + 2, o, none⟩ = false := fun o => by rw [hW0]; simp [go_sem]
  have HY : Hid (W0.cell? ⟨w.heap.size + 2, 0, none⟩ = some (.slice none 0 0) ∧ W0.cell? ⟨w.heap.size + 2, 1, none⟩ = some (.slice none 0 0) ∧ (∀ o, W0.frozen? ⟨w.heap.size + 2, o, none⟩ = false)) := ⟨y0, y1, yF⟩
  have hF0 : Four W0 aF aT aN aU := hF.keep b0
  have H4 : Hid (Four W0 aF aT aN aU) := hF0
  have HB0 : Hid (Below w.heap.size w W0) := b0
  have HW0 : Hid (W0 = ((w.alloc (.cells #[.slice a1 ns.length c1, .slice a2 es.length c2] 26)).alloc (.cells #[.int .i64 k, .int .i64 nl, .int .i64 nn, .int .i64 l, .int .i64 al, .int .i64 an, .int .i64 bl, .int .i64 bn] 50)).alloc (.cells #[.slice none 0 0, .slice none 0 0] 26)) := hW0
  have hC := bookOf_walk a1 a2 _ _ c1 c2 ns es W0 (h1.keep b0) (h2.keep b0) rfl rfl l1 l2 213 (.pointer (some aF)) ⟨hF0.f.1, hF0.t.err, hF0.u.err, hF0.n.err⟩
  have z1 : w.heap.size < W0.heap.size := by omega
  have z2 : w.heap.size + 1 < W0.heap.size := by omega
  have z3 : w.heap.size + 2 < W0.heap.size := by omega
  clear h1 h2 hF b0 hW0 hcs hgs hF0 y0 y1 yF
  go_enter Tryz.func28, Tryz.ntmps28
  go_wp2_with fail
  rw [← HW0.out]
  refine hC.mono ?_
  clear hC HW0 g0 g1
  rintro e w1 (⟨hg, bel, b, mn, me, rfl, hbk, hb0, hb1, hb2⟩ | ⟨hg, rfl, bel⟩)
  · have HG : Hid (GOk ns es) := hg
    have HBK : Hid (BookAt w1 b mn me (nEnts ns) (eEnts es) (nCnt ns) (eCnt es)) := hbk
    have HB1 : Hid (Below W0.heap.size W0 w1) := bel
    have H41 : Hid (Four w1 aF aT aN aU) := H4.out.keep bel
    have HY1 : Hid (w1.cell? ⟨w.heap.size + 2, 0, none⟩ = some (.slice none 0 0) ∧ w1.cell? ⟨w.heap.size + 2, 1, none⟩ = some (.slice none 0 0) ∧ (∀ o, w1.frozen? ⟨w.heap.size + 2, o, none⟩ = false)) := ⟨(Below.celz bel _ _ _ z3).trans HY.out.1, (Below.celz bel _ _ _ z3).trans HY.out.2.1, fun o => (Below.froz bel _ _ _ z3).trans (HY.out.2.2 o)⟩
    have u0 := (Below.celz bel _ _ _ z2).trans q0
    have u1 := (Below.celz bel _ _ _ z2).trans q1
    have u2 := (Below.celz bel _ _ _ z2).trans q2
    have u3 := (Below.celz bel _ _ _ z2).trans q3
    have u4 := (Below.celz bel _ _ _ z2).trans q4
    have u5 := (Below.celz bel _ _ _ z2).trans q5
    have u6 := (Below.celz bel _ _ _ z2).trans q6
    have u7 := (Below.celz bel _ _ _ z2).trans q7
    have s1 := bel.size
    clear hg hbk bel q0 q1 q2 q3 q4 q5 q6 q7
    go_wp2_with fail
    refine (deedOf k nl nn l al an bl bn (.iface 213 (.pointer (some aF))) w1 H41.out.f.1 (cell_lt H41.out.f.1) ⟨_, _, rfl⟩).mono ?_
    rintro e w2 ⟨d, er, rfl, bel, hd⟩
    have HB2 : Hid (Below w1.heap.size w1 w2) := bel
    have HBK2 : Hid (BookAt w2 b mn me (nEnts ns) (eEnts es) (nCnt ns) (eCnt es)) := HBK.out.keep bel
    have H42 : Hid (Four w2 aF aT aN aU) := H41.out.keep bel
    have HY2 : Hid (w2.cell? ⟨w.heap.size + 2, 0, none⟩ = some (.slice none 0 0) ∧ w2.cell? ⟨w.heap.size + 2, 1, none⟩ = some (.slice none 0 0) ∧ (∀ o, w2.frozen? ⟨w.heap.size + 2, o, none⟩ = false)) := ⟨(Below.celz bel _ _ _ (by omega)).trans HY1.out.1, (Below.celz bel _ _ _ (by omega)).trans HY1.out.2.1, fun o => (Below.froz bel _ _ _ (by omega)).trans (HY1.out.2.2 o)⟩
    have HW2 : Hid (Below w.heap.size w w2 ∧ Below W0.heap.size W0 w2) := ⟨HB0.out.trans ((HB1.out.trans (bel.mono s1)).mono (by omega)), HB1.out.trans (bel.mono s1)⟩
    have s2 := bel.size
    clear bel HBK H41 HY1 HB1 HB2 u0 u1 u2 u3 u4 u5 u6 u7
    rcases hd with ⟨rfl, rfl, ha, rfl⟩ | ⟨rfl, rfl, ha, rfl⟩ | ⟨rfl, rfl, ha, rfl⟩ | ⟨rfl, rfl, ha, rfl⟩ | ⟨rfl, ho, rfl⟩
    · have HA : Hid (aloneN nl nn l al an bl bn = true) := ha
      clear ha
      go_wp2_with fail
      refine (post_nodePut HG.out HBK2.out HW2.out.2 hb0 hb1 hb2 H42.out HA.out).mono ?_
      rintro e w5 ⟨v, rfl, os, xs, cn, ce, c, hE5, hK5, hR5, hB5⟩
      clear HBK2 H42 HY2
      have HY5 : Hid (w5.cell? ⟨w.heap.size + 2, 0, none⟩ = some (.slice none 0 0) ∧ w5.cell? ⟨w.heap.size + 2, 1, none⟩ = some (.slice none 0 0) ∧ (∀ o, w5.frozen? ⟨w.heap.size + 2, o, none⟩ = false)) := ⟨(Below.celz hB5 _ _ _ z3).trans HY.out.1, (Below.celz hB5 _ _ _ z3).trans HY.out.2.1, fun o => (Below.froz hB5 _ _ _ z3).trans (HY.out.2.2 o)⟩
      have H45 : Hid (Four w5 aF aT aN aU) := H4.out.keep hB5
      have HE5 : Hid (EndIs aF aT aN aU v c) := hE5
      have HK5 : Hid (BookAt w5 b mn me (nEnts os) (eEnts xs) cn ce) := hK5
      have HR5 : Hid (Res ns es 1 nl nn l al an bl bn os xs c) := hR5
      have HB5 : Hid (Below W0.heap.size W0 w5) := hB5
      clear hE5 hK5 hR5 hB5
      go_wp2_with fail
      refine (bookGraph b mn me os xs cn ce _ HK5.out HR5.out.inb.1 HR5.out.inb.2).mono ?_
      rintro e w6 ⟨gv, rfl, hgo, bel6⟩
      obtain ⟨g1, g2, rfl, hown, hcd⟩ := gd_of (gokB_true.2 HG.out) HR5.out hgo
      have HO6 : Hid (OwnGraph w6 w5.heap.size g1 g2 (gdN ns es 1 nl nn l al an bl bn) (gdE ns es 1 nl nn l al an bl bn)) := hown
      have HCD : Hid (gdC ns es 1 nl nn l al an bl bn = c) := hcd
      have HB6 : Hid (Below W0.heap.size W0 w6 ∧ W0.heap.size ≤ w5.heap.size) := ⟨HB5.out.trans (bel6.mono HB5.out.size), HB5.out.size⟩
      have H46 : Hid (Four w6 aF aT aN aU) := H45.out.keep bel6
      clear hgo hown hcd bel6 HK5 H45 HY5
      obtain ⟨m1, m2, m3, m4, rfl, rfl⟩ := HO6.out.form
      go_wp2_with fail
      refine (goCode_any HE5.out _ H46.out).mono ?_
      rintro e w7 ⟨rfl, bel7⟩
      have HB7 : Hid (Below W0.heap.size W0 w7) := HB6.out.1.trans (bel7.mono HB6.out.1.size)
      have HO7 : Hid (OwnGraph w7 w5.heap.size (.slice m1 (gdN ns es 1 nl nn l al an bl bn).length m2) (.slice m3 (gdE ns es 1 nl nn l al an bl bn).length m4) (gdN ns es 1 nl nn l al an bl bn) (gdE ns es 1 nl nn l al an bl bn)) := HO6.out.keep bel7
      have r0 := (Below.celz HB7.out _ _ _ z3).trans HY.out.1
      have r1 := (Below.celz HB7.out _ _ _ z3).trans HY.out.2.1
      have rf := fun o => (Below.froz HB7.out _ _ _ z3).trans (HY.out.2.2 o)
      clear bel7 HO6
      go_wp2_with fail
      try simp only [Exit.inBlock, Exit.then]
      refine bodyPost_ret (v := .tuple #[.agg #[.slice m1 (gdN ns es 1 nl nn l al an bl bn).length m2, .slice m3 (gdE ns es 1 nl nn l al an bl bn).length m4], .int .i64 c]) (by simp [*, results, Tryz.results28, go_sem]) rfl ?_
      have hsz7 := HB7.out.size
      have hsz5 := HB6.out.2
      obtain ⟨f1, f2, f3⟩ := HO7.out
      refine ⟨_, _, by rw [HCD.out], ⟨own_mono (ownsRow_setCell_below (ownsRow_setCell_below f1 (by simp; omega) _) (by simp; omega) _) (by omega), own_mono (ownsRow_setCell_below (ownsRow_setCell_below f2 (by simp; omega) _) (by simp; omega) _) (by omega), f3⟩, ?_⟩
      exact HB0.out.trans (((HB7.out.mono (by omega)).setCell (by show w.heap.size ≤ w.heap.size + 2; omega) _).setCell (by show w.heap.size ≤ w.heap.size + 2; omega) _)
    · have HA : Hid (aloneN nl nn l al an bl bn = true) := ha
      clear ha
      go_wp2_with fail
      refine (post_nodeGone HG.out HBK2.out HW2.out.2 hb0 hb1 hb2 H42.out HA.out).mono ?_
      rintro e w5 ⟨v, rfl, os, xs, cn, ce, c, hE5, hK5, hR5, hB5⟩
      clear HBK2 H42 HY2
      have HY5 : Hid (w5.cell? ⟨w.heap.size + 2, 0, none⟩ = some (.slice none 0 0) ∧ w5.cell? ⟨w.heap.size + 2, 1, none⟩ = some (.slice none 0 0) ∧ (∀ o, w5.frozen? ⟨w.heap.size + 2, o, none⟩ = false)) := ⟨(Below.celz hB5 _ _ _ z3).trans HY.out.1, (Below.celz hB5 _ _ _ z3).trans HY.out.2.1, fun o => (Below.froz hB5 _ _ _ z3).trans (HY.out.2.2 o)⟩
      have H45 : Hid (Four w5 aF aT aN aU) := H4.out.keep hB5
      have HE5 : Hid (EndIs aF aT aN aU v c) := hE5
      have HK5 : Hid (BookAt w5 b mn me (nEnts os) (eEnts xs) cn ce) := hK5
      have HR5 : Hid (Res ns es 4 nl nn l al an bl bn os xs c) := hR5
      have HB5 : Hid (Below W0.heap.size W0 w5) := hB5
      clear hE5 hK5 hR5 hB5
      go_wp2_with fail
      refine (bookGraph b mn me os xs cn ce _ HK5.out HR5.out.inb.1 HR5.out.inb.2).mono ?_
      rintro e w6 ⟨gv, rfl, hgo, bel6⟩
      obtain ⟨g1, g2, rfl, hown, hcd⟩ := gd_of (gokB_true.2 HG.out) HR5.out hgo
      have HO6 : Hid (OwnGraph w6 w5.heap.size g1 g2 (gdN ns es 4 nl nn l al an bl bn) (gdE ns es 4 nl nn l al an bl bn)) := hown
      have HCD : Hid (gdC ns es 4 nl nn l al an bl bn = c) := hcd
      have HB6 : Hid (Below W0.heap.size W0 w6 ∧ W0.heap.size ≤ w5.heap.size) := ⟨HB5.out.trans (bel6.mono HB5.out.size), HB5.out.size⟩
      have H46 : Hid (Four w6 aF aT aN aU) := H45.out.keep bel6
      clear hgo hown hcd bel6 HK5 H45 HY5
      obtain ⟨m1, m2, m3, m4, rfl, rfl⟩ := HO6.out.form
      go_wp2_with fail
      refine (goCode_any HE5.out _ H46.out).mono ?_
      rintro e w7 ⟨rfl, bel7⟩
      have HB7 : Hid (Below W0.heap.size W0 w7) := HB6.out.1.trans (bel7.mono HB6.out.1.size)
      have HO7 : Hid (OwnGraph w7 w5.heap.size (.slice m1 (gdN ns es 4 nl nn l al an bl bn).length m2) (.slice m3 (gdE ns es 4 nl nn l al an bl bn).length m4) (gdN ns es 4 nl nn l al an bl bn) (gdE ns es 4 nl nn l al an bl bn)) := HO6.out.keep bel7
      have r0 := (Below.celz HB7.out _ _ _ z3).trans HY.out.1
      have r1 := (Below.celz HB7.out _ _ _ z3).trans HY.out.2.1
      have rf := fun o => (Below.froz HB7.out _ _ _ z3).trans (HY.out.2.2 o)
      clear bel7 HO6
      go_wp2_with fail
      try simp only [Exit.inBlock, Exit.then]
      refine bodyPost_ret (v := .tuple #[.agg #[.slice m1 (gdN ns es 4 nl nn l al an bl bn).length m2, .slice m3 (gdE ns es 4 nl nn l al an bl bn).length m4], .int .i64 c]) (by simp [*, results, Tryz.results28, go_sem]) rfl ?_
      have hsz7 := HB7.out.size
      have hsz5 := HB6.out.2
      obtain ⟨f1, f2, f3⟩ := HO7.out
      refine ⟨_, _, by rw [HCD.out], ⟨own_mono (ownsRow_setCell_below (ownsRow_setCell_below f1 (by simp; omega) _) (by simp; omega) _) (by omega), own_mono (ownsRow_setCell_below (ownsRow_setCell_below f2 (by simp; omega) _) (by simp; omega) _) (by omega), f3⟩, ?_⟩
      exact HB0.out.trans (((HB7.out.mono (by omega)).setCell (by show w.heap.size ≤ w.heap.size + 2; omega) _).setCell (by show w.heap.size ≤ w.heap.size + 2; omega) _)
    · have HA : Hid (aloneE nl nn l al an bl bn = true) := ha
      clear ha
      go_wp2_with fail
      refine (post_edgePut HG.out HBK2.out HW2.out.2 hb0 hb1 hb2 H42.out HA.out).mono ?_
      rintro e w5 ⟨v, rfl, os, xs, cn, ce, c, hE5, hK5, hR5, hB5⟩
      clear HBK2 H42 HY2
      have HY5 : Hid (w5.cell? ⟨w.heap.size + 2, 0, none⟩ = some (.slice none 0 0) ∧ w5.cell? ⟨w.heap.size + 2, 1, none⟩ = some (.slice none 0 0) ∧ (∀ o, w5.frozen? ⟨w.heap.size + 2, o, none⟩ = false)) := ⟨(Below.celz hB5 _ _ _ z3).trans HY.out.1, (Below.celz hB5 _ _ _ z3).trans HY.out.2.1, fun o => (Below.froz hB5 _ _ _ z3).trans (HY.out.2.2 o)⟩
      have H45 : Hid (Four w5 aF aT aN aU) := H4.out.keep hB5
      have HE5 : Hid (EndIs aF aT aN aU v c) := hE5
      have HK5 : Hid (BookAt w5 b mn me (nEnts os) (eEnts xs) cn ce) := hK5
      have HR5 : Hid (Res ns es 2 nl nn l al an bl bn os xs c) := hR5
      have HB5 : Hid (Below W0.heap.size W0 w5) := hB5
      clear hE5 hK5 hR5 hB5
      go_wp2_with fail
      refine (bookGraph b mn me os xs cn ce _ HK5.out HR5.out.inb.1 HR5.out.inb.2).mono ?_
      rintro e w6 ⟨gv, rfl, hgo, bel6⟩
      obtain ⟨g1, g2, rfl, hown, hcd⟩ := gd_of (gokB_true.2 HG.out) HR5.out hgo
      have HO6 : Hid (OwnGraph w6 w5.heap.size g1 g2 (gdN ns es 2 nl nn l al an bl bn) (gdE ns es 2 nl nn l al an bl bn)) := hown
      have HCD : Hid (gdC ns es 2 nl nn l al an bl bn = c) := hcd
      have HB6 : Hid (Below W0.heap.size W0 w6 ∧ W0.heap.size ≤ w5.heap.size) := ⟨HB5.out.trans (bel6.mono HB5.out.size), HB5.out.size⟩
      have H46 : Hid (Four w6 aF aT aN aU) := H45.out.keep bel6
      clear hgo hown hcd bel6 HK5 H45 HY5
      obtain ⟨m1, m2, m3, m4, rfl, rfl⟩ := HO6.out.form
      go_wp2_with fail
      refine (goCode_any HE5.out _ H46.out).mono ?_
      rintro e w7 ⟨rfl, bel7⟩
      have HB7 : Hid (Below W0.heap.size W0 w7) := HB6.out.1.trans (bel7.mono HB6.out.1.size)
      have HO7 : Hid (OwnGraph w7 w5.heap.size (.slice m1 (gdN ns es 2 nl nn l al an bl bn).length m2) (.slice m3 (gdE ns es 2 nl nn l al an bl bn).length m4) (gdN ns es 2 nl nn l al an bl bn) (gdE ns es 2 nl nn l al an bl bn)) := HO6.out.keep bel7
      have r0 := (Below.celz HB7.out _ _ _ z3).trans HY.out.1
      have r1 := (Below.celz HB7.out _ _ _ z3).trans HY.out.2.1
      have rf := fun o => (Below.froz HB7.out _ _ _ z3).trans (HY.out.2.2 o)
      clear bel7 HO6
      go_wp2_with fail
      try simp only [Exit.inBlock, Exit.then]
      refine bodyPost_ret (v := .tuple #[.agg #[.slice m1 (gdN ns es 2 nl nn l al an bl bn).length m2, .slice m3 (gdE ns es 2 nl nn l al an bl bn).length m4], .int .i64 c]) (by simp [*, results, Tryz.results28, go_sem]) rfl ?_
      have hsz7 := HB7.out.size
      have hsz5 := HB6.out.2
      obtain ⟨f1, f2, f3⟩ := HO7.out
      refine ⟨_, _, by rw [HCD.out], ⟨own_mono (ownsRow_setCell_below (ownsRow_setCell_below f1 (by simp; omega) _) (by simp; omega) _) (by omega), own_mono (ownsRow_setCell_below (ownsRow_setCell_below f2 (by simp; omega) _) (by simp; omega) _) (by omega), f3⟩, ?_⟩
      exact HB0.out.trans (((HB7.out.mono (by omega)).setCell (by show w.heap.size ≤ w.heap.size + 2; omega) _).setCell (by show w.heap.size ≤ w.heap.size + 2; omega) _)
    · have HA : Hid (aloneE nl nn l al an bl bn = true) := ha
      clear ha
      go_wp2_with fail
      refine (post_edgeCut HG.out HBK2.out HW2.out.2 hb0 hb1 hb2 H42.out HA.out).mono ?_
      rintro e w5 ⟨v, rfl, os, xs, cn, ce, c, hE5, hK5, hR5, hB5⟩
      clear HBK2 H42 HY2
      have HY5 : Hid (w5.cell? ⟨w.heap.size + 2, 0, none⟩ = some (.slice none 0 0) ∧ w5.cell? ⟨w.heap.size + 2, 1, none⟩ = some (.slice none 0 0) ∧ (∀ o, w5.frozen? ⟨w.heap.size + 2, o, none⟩ = false)) := ⟨(Below.celz hB5 _ _ _ z3).trans HY.out.1, (Below.celz hB5 _ _ _ z3).trans HY.out.2.1, fun o => (Below.froz hB5 _ _ _ z3).trans (HY.out.2.2 o)⟩
      have H45 : Hid (Four w5 aF aT aN aU) := H4.out.keep hB5
      have HE5 : Hid (EndIs aF aT aN aU v c) := hE5
      have HK5 : Hid (BookAt w5 b mn me (nEnts os) (eEnts xs) cn ce) := hK5
      have HR5 : Hid (Res ns es 3 nl nn l al an bl bn os xs c) := hR5
      have HB5 : Hid (Below W0.heap.size W0 w5) := hB5
      clear hE5 hK5 hR5 hB5
      go_wp2_with fail
      refine (bookGraph b mn me os xs cn ce _ HK5.out HR5.out.inb.1 HR5.out.inb.2).mono ?_
      rintro e w6 ⟨gv, rfl, hgo, bel6⟩
      obtain ⟨g1, g2, rfl, hown, hcd⟩ := gd_of (gokB_true.2 HG.out) HR5.out hgo
      have HO6 : Hid (OwnGraph w6 w5.heap.size g1 g2 (gdN ns es 3 nl nn l al an bl bn) (gdE ns es 3 nl nn l al an bl bn)) := hown
      have HCD : Hid (gdC ns es 3 nl nn l al an bl bn = c) := hcd
      have HB6 : Hid (Below W0.heap.size W0 w6 ∧ W0.heap.size ≤ w5.heap.size) := ⟨HB5.out.trans (bel6.mono HB5.out.size), HB5.out.size⟩
      have H46 : Hid (Four w6 aF aT aN aU) := H45.out.keep bel6
      clear hgo hown hcd bel6 HK5 H45 HY5
      obtain ⟨m1, m2, m3, m4, rfl, rfl⟩ := HO6.out.form
      go_wp2_with fail
      refine (goCode_any HE5.out _ H46.out).mono ?_
      rintro e w7 ⟨rfl, bel7⟩
      have HB7 : Hid (Below W0.heap.size W0 w7) := HB6.out.1.trans (bel7.mono HB6.out.1.size)
      have HO7 : Hid (OwnGraph w7 w5.heap.size (.slice m1 (gdN ns es 3 nl nn l al an bl bn).length m2) (.slice m3 (gdE ns es 3 nl nn l al an bl bn).length m4) (gdN ns es 3 nl nn l al an bl bn) (gdE ns es 3 nl nn l al an bl bn)) := HO6.out.keep bel7
      have r0 := (Below.celz HB7.out _ _ _ z3).trans HY.out.1
      have r1 := (Below.celz HB7.out _ _ _ z3).trans HY.out.2.1
      have rf := fun o => (Below.froz HB7.out _ _ _ z3).trans (HY.out.2.2 o)
      clear bel7 HO6
      go_wp2_with fail
      try simp only [Exit.inBlock, Exit.then]
      refine bodyPost_ret (v := .tuple #[.agg #[.slice m1 (gdN ns es 3 nl nn l al an bl bn).length m2, .slice m3 (gdE ns es 3 nl nn l al an bl bn).length m4], .int .i64 c]) (by simp [*, results, Tryz.results28, go_sem]) rfl ?_
      have hsz7 := HB7.out.size
      have hsz5 := HB6.out.2
      obtain ⟨f1, f2, f3⟩ := HO7.out
      refine ⟨_, _, by rw [HCD.out], ⟨own_mono (ownsRow_setCell_below (ownsRow_setCell_below f1 (by simp; omega) _) (by simp; omega) _) (by omega), own_mono (ownsRow_setCell_below (ownsRow_setCell_below f2 (by simp; omega) _) (by simp; omega) _) (by omega), f3⟩, ?_⟩
      exact HB0.out.trans (((HB7.out.mono (by omega)).setCell (by show w.heap.size ≤ w.heap.size + 2; omega) _).setCell (by show w.heap.size ≤ w.heap.size + 2; omega) _)
    · have HO : Hid (opI k nl nn l al an bl bn = -1) := ho
      obtain ⟨v, hv⟩ : ∃ v, v = Value.iface 213 (.pointer (some aF)) := ⟨_, rfl⟩
      obtain ⟨w5, hw5⟩ : ∃ w5, w5 = w2 := ⟨_, rfl⟩
      obtain ⟨c, hc⟩ : ∃ c : Int, c = 1 := ⟨_, rfl⟩
      obtain ⟨os, hos⟩ : ∃ os, os = ns := ⟨_, rfl⟩
      obtain ⟨xs, hxs⟩ : ∃ xs, xs = es := ⟨_, rfl⟩
      obtain ⟨cn, hcn⟩ : ∃ cn, cn = nCnt ns := ⟨_, rfl⟩
      obtain ⟨ce, hce⟩ : ∃ ce, ce = eCnt es := ⟨_, rfl⟩
      have hE5 : EndIs aF aT aN aU v c := .inr ⟨aF, hv, .inl ⟨rfl, hc⟩⟩
      have hK5 : BookAt w5 b mn me (nEnts os) (eEnts xs) cn ce := by rw [hw5, hos, hxs, hcn, hce]; exact HBK2.out
      have hR5 : Res ns es k nl nn l al an bl bn os xs c := by rw [hos, hxs]; exact res_same HG.out (by unfold doC; rw [if_pos (by rw [HO.out]; decide), hc]) (by rw [hc]; decide)
      have hB5 : Below W0.heap.size W0 w5 := by rw [hw5]; exact HW2.out.2
      go_wp2_with fail
      rw [← hw5, ← hv]
      clear HBK2 H42 HY2 HO ho hos hxs hcn hce hw5 hc hv
      have HY5 : Hid (w5.cell? ⟨w.heap.size + 2, 0, none⟩ = some (.slice none 0 0) ∧ w5.cell? ⟨w.heap.size + 2, 1, none⟩ = some (.slice none 0 0) ∧ (∀ o, w5.frozen? ⟨w.heap.size + 2, o, none⟩ = false)) := ⟨(Below.celz hB5 _ _ _ z3).trans HY.out.1, (Below.celz hB5 _ _ _ z3).trans HY.out.2.1, fun o => (Below.froz hB5 _ _ _ z3).trans (HY.out.2.2 o)⟩
      have H45 : Hid (Four w5 aF aT aN aU) := H4.out.keep hB5
      have HE5 : Hid (EndIs aF aT aN aU v c) := hE5
      have HK5 : Hid (BookAt w5 b mn me (nEnts os) (eEnts xs) cn ce) := hK5
      have HR5 : Hid (Res ns es k nl nn l al an bl bn os xs c) := hR5
      have HB5 : Hid (Below W0.heap.size W0 w5) := hB5
      clear hE5 hK5 hR5 hB5
      go_wp2_with fail
      refine (bookGraph b mn me os xs cn ce _ HK5.out HR5.out.inb.1 HR5.out.inb.2).mono ?_
      rintro e w6 ⟨gv, rfl, hgo, bel6⟩
      obtain ⟨g1, g2, rfl, hown, hcd⟩ := gd_of (gokB_true.2 HG.out) HR5.out hgo
      have HO6 : Hid (OwnGraph w6 w5.heap.size g1 g2 (gdN ns es k nl nn l al an bl bn) (gdE ns es k nl nn l al an bl bn)) := hown
      have HCD : Hid (gdC ns es k nl nn l al an bl bn = c) := hcd
      have HB6 : Hid (Below W0.heap.size W0 w6 ∧ W0.heap.size ≤ w5.heap.size) := ⟨HB5.out.trans (bel6.mono HB5.out.size), HB5.out.size⟩
      have H46 : Hid (Four w6 aF aT aN aU) := H45.out.keep bel6
      clear hgo hown hcd bel6 HK5 H45 HY5
      obtain ⟨m1, m2, m3, m4, rfl, rfl⟩ := HO6.out.form
      go_wp2_with fail
      refine (goCode_any HE5.out _ H46.out).mono ?_
      rintro e w7 ⟨rfl, bel7⟩
      have HB7 : Hid (Below W0.heap.size W0 w7) := HB6.out.1.trans (bel7.mono HB6.out.1.size)
      have HO7 : Hid (OwnGraph w7 w5.heap.size (.slice m1 (gdN ns es k nl nn l al an bl bn).length m2) (.slice m3 (gdE ns es k nl nn l al an bl bn).length m4) (gdN ns es k nl nn l al an bl bn) (gdE ns es k nl nn l al an bl bn)) := HO6.out.keep bel7
      have r0 := (Below.celz HB7.out _ _ _ z3).trans HY.out.1
      have r1 := (Below.celz HB7.out _ _ _ z3).trans HY.out.2.1
      have rf := fun o => (Below.froz HB7.out _ _ _ z3).trans (HY.out.2.2 o)
      clear bel7 HO6
      go_wp2_with fail
      try simp only [Exit.inBlock, Exit.then]
      refine bodyPost_ret (v := .tuple #[.agg #[.slice m1 (gdN ns es k nl nn l al an bl bn).length m2, .slice m3 (gdE ns es k nl nn l al an bl bn).length m4], .int .i64 c]) (by simp [*, results, Tryz.results28, go_sem]) rfl ?_
      have hsz7 := HB7.out.size
      have hsz5 := HB6.out.2
      obtain ⟨f1, f2, f3⟩ := HO7.out
      refine ⟨_, _, by rw [HCD.out], ⟨own_mono (ownsRow_setCell_below (ownsRow_setCell_below f1 (by simp; omega) _) (by simp; omega) _) (by omega), own_mono (ownsRow_setCell_below (ownsRow_setCell_below f2 (by simp; omega) _) (by simp; omega) _) (by omega), f3⟩, ?_⟩
      exact HB0.out.trans (((HB7.out.mono (by omega)).setCell (by show w.heap.size ≤ w.heap.size + 2; omega) _).setCell (by show w.heap.size ≤ w.heap.size + 2; omega) _)
  · have HG : Hid (gokB ns es = false) := gokB_false.2 hg
    have HB1 : Hid (Below W0.heap.size W0 w1) := bel
    have H41 : Hid (Four w1 aF aT aN aU) := H4.out.keep bel
    clear hg bel q0 q1 q2 q3 q4 q5 q6 q7
    go_wp2_with fail
    refine (goCode_any (c := 1) (.inr ⟨aF, rfl, .inl ⟨rfl, rfl⟩⟩) _ H41.out).mono ?_
    rintro e w7 ⟨rfl, bel7⟩
    have HB7 : Hid (Below W0.heap.size W0 w7) := HB1.out.trans (bel7.mono HB1.out.size)
    have r0 := (Below.celz HB7.out _ _ _ z3).trans HY.out.1
    have r1 := (Below.celz HB7.out _ _ _ z3).trans HY.out.2.1
    have rf := fun o => (Below.froz HB7.out _ _ _ z3).trans (HY.out.2.2 o)
    clear bel7
    go_wp2_with fail
    try simp only [Exit.inBlock, Exit.then]
    refine bodyPost_ret (v := .tuple #[.agg #[.slice none 0 0, .slice none 0 0], .int .i64 1]) (by simp [*, results, Tryz.results28, go_sem]) rfl ?_
    have e1 : gdN ns es k nl nn l al an bl bn = [] := by unfold gdN; rw [HG.out]; rfl
    have e2 : gdE ns es k nl nn l al an bl bn = [] := by unfold gdE; rw [HG.out]; rfl
    have e3 : gdC ns es k nl nn l al an bl bn = 1 := by unfold gdC; rw [HG.out]; rfl
    rw [e1, e2, e3]
    refine ⟨_, _, rfl, ⟨World.ownsRow_nil _ _ _ _, World.ownsRow_nil _ _ _ _, fun k hk => by simp [Value.ownBlock] at hk⟩, ?_⟩
    exact HB0.out.trans (((HB7.out.mono (by omega)).setCell (by show w.heap.size ≤ w.heap.size + 2; omega) _).setCell (by show w.heap.size ≤ w.heap.size + 2; omega) _)
end Go.Proofs.YtlnpbfeihjfnjaaGreatDoor.Lab

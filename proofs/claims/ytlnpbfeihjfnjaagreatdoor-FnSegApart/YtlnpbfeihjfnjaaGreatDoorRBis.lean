/-
  What is done to a graph, in plain words: the book's content and the specification's rows are one.
  errors.Is over the package's four error variables; impl.goCode.
-/
import Derived.Test.YtlnpbfeihjfnjaaGreatDoorRIne
import Derived.Test.YtlnpbfeihjfnjaaGreatDoorRSgp
import Derived.Test.YtlnpbfeihjfnjaaGreatDoorSgd
import Derived.Test.YtlnpbfeihjfnjaaGreatDoorGki
import Derived.LaidEql
import Derived.Stop.Asserts
namespace Go.Proofs.YtlnpbfeihjfnjaaGreatDoor.Lab
open Go.RowKit Go.ChangeMaps
set_option linter.unusedVariables false
theorem insW_eq {x : Nd} (hx : nodeB x.1 x.2 = true) : ∀ {ns : List Nd}, (∀ y ∈ ns, nodeB y.1 y.2 = true) → insW x ns = insN x ns
  | [], _ => rfl
  | y :: ys, h => by
    unfold insW insN codW cod
    rw [codeW_ok hx, codeW_ok (h y (List.mem_cons_self ..)), insW_eq hx (fun z hz => h z (List.mem_cons_of_mem _ hz))]
theorem mem_insE {x z : Ed} : ∀ {ys : List Ed}, z ∈ insE x ys ↔ z = x ∨ z ∈ ys
  | [] => by simp [insE]
  | y :: ys => by
    unfold insE
    split
    · simp only [List.mem_cons, mem_insE]
      constructor
      · rintro (h | h | h) <;> simp [h]
      · rintro (h | h | h) <;> simp [h]
    · simp
theorem asc_insE {x : Ed} (hx : edB x = true) : ∀ {ys : List Ed}, AscE ys → (∀ y ∈ ys, edB y = true ∧ y ≠ x) → AscE (insE x ys)
  | [], _, _ => by simp [insE, AscE]
  | y :: ys, h, hne => by
    obtain ⟨h1, h2⟩ := List.pairwise_cons.1 h
    obtain ⟨hy, hyx⟩ := hne y (List.mem_cons_self ..)
    unfold insE
    split
    · rename_i hlt
      have hlt := (eco_lt hy hx).1 hlt
      refine List.pairwise_cons.2 ⟨fun z hz => ?_, asc_insE hx h2 (fun z hz => hne z (List.mem_cons_of_mem _ hz))⟩
      rcases mem_insE.1 hz with rfl | hz
      · exact hlt
      · exact h1 z hz
    · rename_i hlt
      have h3 : ¬ eco y < eco x := fun h => hlt ((eco_lt hy hx).2 h)
      have h4 : eco y ≠ eco x := fun h => hyx (eco_inj hy h)
      have : eco x < eco y := by omega
      refine List.pairwise_cons.2 ⟨fun z hz => ?_, h⟩
      rcases List.mem_cons.1 hz with rfl | hz
      · exact this
      · have := h1 z hz; omega
theorem ascE_ext : ∀ {xs ys : List Ed}, AscE xs → AscE ys → (∀ z, z ∈ xs ↔ z ∈ ys) → xs = ys
  | [], [], _, _, _ => rfl
  | [], y :: ys, _, _, h => by have := (h y).2 (List.mem_cons_self ..); cases this
  | x :: xs, [], _, _, h => by have := (h x).1 (List.mem_cons_self ..); cases this
  | x :: xs, y :: ys, hx, hy, h => by
    obtain ⟨h1, h2⟩ := List.pairwise_cons.1 hx
    obtain ⟨h3, h4⟩ := List.pairwise_cons.1 hy
    have e : x = y := by
      rcases List.mem_cons.1 ((h x).1 (List.mem_cons_self ..)) with e | hm
      · exact e
      · rcases List.mem_cons.1 ((h y).2 (List.mem_cons_self ..)) with e | hm2
        · exact e.symm
        · have := h3 x hm; have := h1 y hm2; omega
    subst e
    congr 1
    refine ascE_ext h2 h4 (fun z => ⟨fun hz => ?_, fun hz => ?_⟩)
    · rcases List.mem_cons.1 ((h z).1 (List.mem_cons_of_mem _ hz)) with e | hm
      · subst e; have := h1 z hz; omega
      · exact hm
    · rcases List.mem_cons.1 ((h z).2 (List.mem_cons_of_mem _ hz)) with e | hm
      · subst e; have := h3 z hz; omega
      · exact hm
theorem mem_iff_lkpE {xs : List Ed} {x : Ed} (hx : edB x = true) : (lkp (eEnts xs) (eco x)).isSome = true ↔ x ∈ xs := by
  rcases lkp_map eco eVal (eco x) xs with ⟨h1, h2⟩ | ⟨y, h1, h2, h3⟩
  · rw [eEnts, h1]
    simp
    exact fun h => h2 x h rfl
  · rw [eEnts, h3]
    simp
    rw [eco_inj hx h2.symm]; exact h1
theorem butK_nodes (x : Nd) (xs : List Nd) : butK (cod x) (nEnts xs) = nEnts (xs.filter (fun y => !(cod y == cod x))) := by
  unfold butK nEnts
  rw [List.filter_map]
  rfl
/-- A book's nodes and edges: right, each once. -/
def InBook (os : List Nd) (xs : List Ed) : Prop := ((∀ o ∈ os, nodeB o.1 o.2 = true) ∧ (os.map cod).Nodup ∧ os.length ≤ 100000) ∧ ((∀ x ∈ xs, edB x = true) ∧ (xs.map eco).Nodup ∧ xs.length ≤ 100000)
theorem nodup_asc {ns : List Nd} (h : Asc ns) : (ns.map cod).Nodup := by
  rw [List.Nodup, List.pairwise_map]
  exact h.imp (fun h => by omega)
theorem nodup_ascE {es : List Ed} (h : AscE es) : (es.map eco).Nodup := by
  rw [List.Nodup, List.pairwise_map]
  exact h.imp (fun h => by omega)
/-- What a right graph is, at hand. -/
theorem gok_parts {ns : List Nd} {es : List Ed} (h : GOk ns es) : (∀ x ∈ ns, nodeB x.1 x.2 = true) ∧ Asc ns ∧ (∀ x ∈ es, edB x = true) ∧ AscE es ∧ ns.length ≤ 40 ∧ es.length ≤ 56 := by
  have h1 := nodesOk_iff.1 h.1
  have h2 := edgesOk_iff.1 h.2
  exact ⟨h1.1, h1.2.1, fun x hx => (h2.1 x hx).1, h2.2.1, nodes_len h.1, edges_len h.2⟩
theorem gok_inBook {ns : List Nd} {es : List Ed} (h : GOk ns es) : InBook ns es := by
  obtain ⟨h1, h2, h3, h4, h5, h6⟩ := gok_parts h
  exact ⟨⟨h1, nodup_asc h2, by omega⟩, ⟨h3, nodup_ascE h4, by omega⟩⟩
/-- The book's content is what the specification makes of it. -/
structure Res (ns : List Nd) (es : List Ed) (k nl nn l al an bl bn : Int) (os : List Nd) (xs : List Ed) (c : Int) : Prop where
  inb : InBook os xs
  n : ∀ z, z ∈ doN ns es k nl nn l al an bl bn ↔ z ∈ os
  na : Asc (doN ns es k nl nn l al an bl bn)
  e : ∀ z, z ∈ doE ns es k nl nn l al an bl bn ↔ z ∈ xs
  ea : AscE (doE ns es k nl nn l al an bl bn)
  c : doC ns es k nl nn l al an bl bn = c
/-- Nothing was done. -/
theorem res_same {ns : List Nd} {es : List Ed} (h : GOk ns es) {k nl nn l al an bl bn c : Int} (hc : doC ns es k nl nn l al an bl bn = c) (h0 : c ≠ 0) : Res ns es k nl nn l al an bl bn ns es c := by
  obtain ⟨h1, h2, h3, h4, h5, h6⟩ := gok_parts h
  have e1 : doN ns es k nl nn l al an bl bn = ns := by
    unfold doC at hc; unfold doN
    split
    · rfl
    · rename_i ho; rw [if_neg ho] at hc; rw [if_pos (by rw [hc]; exact h0)]
  have e2 : doE ns es k nl nn l al an bl bn = es := by
    unfold doC at hc; unfold doE
    split
    · rfl
    · rename_i ho; rw [if_neg ho] at hc; rw [if_pos (by rw [hc]; exact h0)]
  exact ⟨gok_inBook h, fun z => by rw [e1], by rw [e1]; exact h2, fun z => by rw [e2], by rw [e2]; exact h4, hc⟩
theorem opI_node {k nl nn l al an bl bn : Int} (hk : k = 1 ∨ k = 4) (h : aloneN nl nn l al an bl bn = true) : ¬ opI k nl nn l al an bl bn < 0 := by
  have h1 : nodeB nl nn = true := by unfold aloneN at h; simp at h; exact h.1
  have := okB_true (nodeB_true h1).1
  have h2 : opI k nl nn l al an bl bn = nl := by rcases hk with rfl | rfl <;> simp [opI, h]
  omega
theorem opI_edge {k nl nn l al an bl bn : Int} (hk : k = 2 ∨ k = 3) (h : aloneE nl nn l al an bl bn = true) : ¬ opI k nl nn l al an bl bn < 0 := by
  have h1 : edgeB l al an bl bn = true := by unfold aloneE at h; simp at h; exact h.1
  have := okB_true (edgeB_true h1).1
  have h2 : opI k nl nn l al an bl bn = l := by rcases hk with rfl | rfl <;> simp [opI, h]
  omega
/-- A node put in. -/
theorem res_put {ns : List Nd} {es : List Ed} (h : GOk ns es) {nl nn l al an bl bn : Int} (ha : aloneN nl nn l al an bl bn = true) (hm : ¬ (nl, nn) ∈ ns) (hc : ¬ 5 ≤ cntNode nl ns) : Res ns es 1 nl nn l al an bl bn (ns ++ [(nl, nn)]) es 0 := by
  obtain ⟨h1, h2, h3, h4, h5, h6⟩ := gok_parts h
  have ho := opI_node (k := 1) (.inl rfl) ha
  have hn : nodeB nl nn = true := by unfold aloneN at ha; simp at ha; exact ha.1
  have he : endsI ns es 1 nl nn l al an bl bn = 0 := by simp [endsI, hm, hc]
  have e1 : doN ns es 1 nl nn l al an bl bn = insN (nl, nn) ns := by unfold doN; rw [if_neg ho, if_neg (by rw [he]; simp), if_pos rfl, insW_eq hn h1]
  have e2 : doE ns es 1 nl nn l al an bl bn = es := by unfold doE; rw [if_neg ho, if_neg (by rw [he]; simp), if_pos rfl]
  have hne : ∀ y ∈ ns, cod y ≠ cod (nl, nn) := fun y hy e => hm (by rw [← cod_inj (h1 y hy) e]; exact hy)
  refine ⟨⟨⟨fun o hi => ?_, ?_, by simp; omega⟩, (gok_inBook h).2⟩, fun z => ?_, ?_, fun z => by rw [e2], by rw [e2]; exact h4, ?_⟩
  · rcases List.mem_append.1 hi with hi | hi
    · exact h1 o hi
    · simp at hi; subst hi; exact hn
  · rw [List.map_append, List.nodup_append]
    refine ⟨nodup_asc h2, by simp, fun a ha b hb => ?_⟩
    simp at hb
    subst hb
    obtain ⟨y, hy, rfl⟩ := List.mem_map.1 ha
    exact hne y hy
  · rw [e1, mem_insN, List.mem_append]; simp; exact or_comm
  · rw [e1]; exact asc_insN h2 hne
  · unfold doC; rw [if_neg ho, he]
/-- An edge put in. -/
theorem res_join {ns : List Nd} {es : List Ed} (h : GOk ns es) {nl nn l al an bl bn : Int} (ha : aloneE nl nn l al an bl bn = true) (hm : ¬ (l, al, an, bl, bn) ∈ es) (hA : (al, an) ∈ ns ∧ (bl, bn) ∈ ns) (hc : ¬ 7 ≤ cntEdge l es) : Res ns es 2 nl nn l al an bl bn ns (es ++ [(l, al, an, bl, bn)]) 0 := by
  obtain ⟨h1, h2, h3, h4, h5, h6⟩ := gok_parts h
  have ho := opI_edge (k := 2) (.inl rfl) ha
  have hn : edB (l, al, an, bl, bn) = true := by unfold aloneE at ha; simp at ha; exact ha.1
  have he : endsI ns es 2 nl nn l al an bl bn = 0 := by simp [endsI, hm, hc, hA]
  have e1 : doN ns es 2 nl nn l al an bl bn = ns := by unfold doN; rw [if_neg ho, if_neg (by rw [he]; simp), if_neg (by decide), if_pos rfl]
  have e2 : doE ns es 2 nl nn l al an bl bn = insE (l, al, an, bl, bn) es := by unfold doE; rw [if_neg ho, if_neg (by rw [he]; simp), if_neg (by decide), if_pos rfl]
  have hne : ∀ y ∈ es, edB y = true ∧ y ≠ (l, al, an, bl, bn) := fun y hy => ⟨h3 y hy, fun e => hm (by rw [← e]; exact hy)⟩
  refine ⟨⟨(gok_inBook h).1, ⟨fun o hi => ?_, ?_, by simp; omega⟩⟩, fun z => by rw [e1], by rw [e1]; exact h2, fun z => ?_, ?_, ?_⟩
  · rcases List.mem_append.1 hi with hi | hi
    · exact h3 o hi
    · simp at hi; subst hi; exact hn
  · rw [List.map_append, List.nodup_append]
    refine ⟨nodup_ascE h4, by simp, fun a ha b hb => ?_⟩
    simp at hb
    subst hb
    obtain ⟨y, hy, rfl⟩ := List.mem_map.1 ha
    exact fun e => (hne y hy).2 (eco_inj (h3 y hy) e)
  · rw [e2, mem_insE, List.mem_append]; simp; exact or_comm
  · rw [e2]; exact asc_insE hn h4 hne
  · unfold doC; rw [if_neg ho, he]
/-- An edge taken out. -/
theorem res_cut {ns : List Nd} {es : List Ed} (h : GOk ns es) {nl nn l al an bl bn : Int} (ha : aloneE nl nn l al an bl bn = true) (hm : (l, al, an, bl, bn) ∈ es) : Res ns es 3 nl nn l al an bl bn ns (es.filter (fun y => !(eco y == eco (l, al, an, bl, bn)))) 0 := by
  obtain ⟨h1, h2, h3, h4, h5, h6⟩ := gok_parts h
  have ho := opI_edge (k := 3) (.inr rfl) ha
  have hn : edB (l, al, an, bl, bn) = true := by unfold aloneE at ha; simp at ha; exact ha.1
  have he : endsI ns es 3 nl nn l al an bl bn = 0 := by simp [endsI, hm]
  have e1 : doN ns es 3 nl nn l al an bl bn = ns := by unfold doN; rw [if_neg ho, if_neg (by rw [he]; simp), if_neg (by decide), if_neg (by decide), if_pos rfl]
  have e2 : doE ns es 3 nl nn l al an bl bn = es.filter (fun y => !(eco y == eco (l, al, an, bl, bn))) := by
    unfold doE
    rw [if_neg ho, if_neg (by rw [he]; simp), if_neg (by decide), if_neg (by decide), if_pos rfl, offE]
    refine List.filter_congr (fun y hy => ?_)
    congr 1
    rw [Bool.eq_iff_iff]
    simp only [eqB, decide_eq_true_eq, beq_iff_eq]
    exact ⟨fun e => by rw [e], fun e => eco_inj (h3 y hy) e⟩
  refine ⟨⟨(gok_inBook h).1, ⟨fun o hi => h3 o (List.mem_filter.1 hi).1, List.Nodup.sublist (List.Sublist.map _ List.filter_sublist) (nodup_ascE h4), Nat.le_trans (List.length_filter_le _ _) (by omega)⟩⟩, fun z => by rw [e1], by rw [e1]; exact h2, fun z => by rw [e2], by rw [e2]; exact h4.filter _, ?_⟩
  unfold doC; rw [if_neg ho, he]
/-- A node taken out, and its edges. -/
theorem res_gone {ns : List Nd} {es : List Ed} (h : GOk ns es) {nl nn l al an bl bn : Int} (ha : aloneN nl nn l al an bl bn = true) (hm : (nl, nn) ∈ ns) {xs : List Ed} (hx : ∀ x, x ∈ xs ↔ x ∈ es ∧ otherI x (nl, nn) = none) (hnd : (xs.map eco).Nodup) (hxl : xs.length ≤ 56) : Res ns es 4 nl nn l al an bl bn (ns.filter (fun y => !(cod y == cod (nl, nn)))) xs 0 := by
  obtain ⟨h1, h2, h3, h4, h5, h6⟩ := gok_parts h
  have ho := opI_node (k := 4) (.inr rfl) ha
  have hn : nodeB nl nn = true := by unfold aloneN at ha; simp at ha; exact ha.1
  have he : endsI ns es 4 nl nn l al an bl bn = 0 := by simp [endsI, hm]
  have e1 : doN ns es 4 nl nn l al an bl bn = ns.filter (fun y => !(cod y == cod (nl, nn))) := by
    unfold doN
    rw [if_neg ho, if_neg (by rw [he]; simp), if_neg (by decide), if_neg (by decide), if_neg (by decide), offN]
    refine List.filter_congr (fun y hy => ?_)
    congr 1
    rw [Bool.eq_iff_iff]
    simp only [eqB, decide_eq_true_eq, beq_iff_eq]
    exact ⟨fun e => by rw [e], fun e => cod_inj (h1 y hy) e⟩
  have e2 : doE ns es 4 nl nn l al an bl bn = offG (nl, nn) es := by unfold doE; rw [if_neg ho, if_neg (by rw [he]; simp), if_neg (by decide), if_neg (by decide), if_neg (by decide)]
  have hg : ∀ x : Ed, hasG (nl, nn) x = false ↔ otherI x (nl, nn) = none := fun x => by
    unfold hasG otherI
    rw [Bool.or_eq_false_iff]
    simp only [eqB, decide_eq_false_iff_not]
    constructor
    · rintro ⟨q1, q2⟩; rw [if_neg (fun e => q1 e.symm), if_neg (fun e => q2 e.symm)]
    · intro q
      split at q
      · cases q
      · split at q
        · cases q
        · rename_i a b; exact ⟨fun e => a e.symm, fun e => b e.symm⟩
  refine ⟨⟨⟨fun o hi => h1 o (List.mem_filter.1 hi).1, List.Nodup.sublist (List.Sublist.map _ List.filter_sublist) (nodup_asc h2), Nat.le_trans (List.length_filter_le _ _) (by omega)⟩, ⟨fun x hi => h3 x ((hx x).1 hi).1, hnd, by omega⟩⟩, fun z => by rw [e1], by rw [e1]; exact h2.filter _, fun z => ?_, by rw [e2]; exact h4.filter _, ?_⟩
  · rw [e2, hx, offG, List.mem_filter, ← hg z]; simp
  · unfold doC; rw [if_neg ho, he]
theorem gd_len (ns : List Nd) (es : List Ed) (k nl nn l al an bl bn : Int) : (gdN ns es k nl nn l al an bl bn).length ≤ 100 ∧ (gdE ns es k nl nn l al an bl bn).length ≤ 100 := by
  cases hg : gokB ns es
  · simp [gdN, gdE, hg]
  · have h := gok_parts (gokB_true.1 hg)
    have h1 := doN_len ns es k nl nn l al an bl bn
    have h2 := doE_len ns es k nl nn l al an bl bn
    simp only [gdN, gdE, hg, if_true]
    omega
end Go.Proofs.YtlnpbfeihjfnjaaGreatDoor.Lab
namespace Go.Proofs.YtlnpbfeihjfnjaaGreatDoor.Lab
open Go.RowKit Go.Extern.Stop Go.Stop Go.Extern
set_option linter.unusedVariables false
/-- A package variable holds a sentinel of its own. -/
def SentAt (w : World) (g : Nat) (a : Addr) : Prop := w.cell? ⟨g, 0, none⟩ = some (.iface 213 (.pointer (some a))) ∧ ∃ c t, w.heap[a.block]? = some (.cells c t (0, 0))
theorem SentAt.keep {w w' : World} {g : Nat} {a : Addr} (h : SentAt w g a) (hb : Below w.heap.size w w') : SentAt w' g a := by
  obtain ⟨h1, c, t, h2⟩ := h
  exact ⟨by rw [hb.cell (p := ⟨g, 0, none⟩) (cell_lt h1)]; exact h1, c, t, by rw [hb.block _ (lt_of_block h2)]; exact h2⟩
/-- The four are unlike. -/
structure Four (w : World) (aF aT aN aU : Addr) : Prop where
  f : SentAt w 0 aF
  t : SentAt w 1 aT
  n : SentAt w 2 aN
  u : SentAt w 3 aU
  ft : aF ≠ aT
  fn : aF ≠ aN
  fu : aF ≠ aU
  tn : aT ≠ aN
  tu : aT ≠ aU
  nu : aN ≠ aU
theorem Four.keep {w w' : World} {aF aT aN aU : Addr} (h : Four w aF aT aN aU) (hb : Below w.heap.size w w') : Four w' aF aT aN aU :=
  ⟨h.f.keep hb, h.t.keep hb, h.n.keep hb, h.u.keep hb, h.ft, h.fn, h.fu, h.tn, h.tu, h.nu⟩
theorem SentAt.err {w : World} {g : Nat} {a : Addr} (h : SentAt w g a) : ErrAt w g := ⟨_, _, h.1⟩
theorem Four.errs {w : World} {aF aT aN aU : Addr} (h : Four w aF aT aN aU) : Errs w := ⟨h.f.err, h.t.err, h.u.err, h.n.err⟩
theorem isTypeOf (v : Value) (w : World) : (Extern.ReflectliteType.typeOf #[.iface 213 v]).run Tryz.prog w = .ok (.iface 194 (.agg #[.pointer (some ⟨4, 213, none⟩)])) w := by kernel_rfl
def compE : Array Value → Sem Value := Extern.ReflectliteType.method fun t => do Go.Extern.Rtype.noPackHeld "Comparable" t; pure (.bool (← typeInfo t).comparable)
theorem isComparable (w : World) : (compE #[.agg #[.pointer (some ⟨4, 213, none⟩)]]).run Tryz.prog w = .ok (.bool true) w := by kernel_rfl
theorem isMethodComparable (v : Value) (w : World) : (Go.method 248 194 v "Comparable").run Tryz.prog w = .ok (190, v) w := by kernel_rfl
theorem isComp : (Tryz.prog.info? 213).map (·.comparable) = some true := by kernel_rfl
theorem isSize : (Tryz.prog.info? 236).map (·.size) = some 1 := by kernel_rfl
theorem noIsE (v : Value) (xT : TypeId) (w : World) : (Instr.typeAssert (.iface 213 v) xT 196 true).run Tryz.prog w = .ok (.tuple #[.nilIface, .bool false]) w := run_typeAssert_lacksB Tryz.underlying196 (by kernel_rfl) (by kernel_rfl) v xT w
theorem noUnwrapE (v : Value) (xT : TypeId) (w : World) : (Instr.typeAssert (.iface 213 v) xT 199 true).run Tryz.prog w = .ok (.tuple #[.nilIface, .bool false]) w := run_typeAssert_lacksB Tryz.underlying199 (by kernel_rfl) (by kernel_rfl) v xT w
theorem noUnwrapsE (v : Value) (xT : TypeId) (w : World) : (Instr.typeAssert (.iface 213 v) xT 201 true).run Tryz.prog w = .ok (.tuple #[.nilIface, .bool false]) w := run_typeAssert_lacksB Tryz.underlying201 (by kernel_rfl) (by kernel_rfl) v xT w
/-- errors.Is(x, x). -/
theorem is_same (a : Addr) (w : World) :
    Calls Tryz.prog 104 #[.iface 213 (.pointer (some a)), .iface 213 (.pointer (some a))] w fun e w' => e = .returned (.bool true) ∧ w' = w := by
  obtain ⟨i, hi, hcmp⟩ := Option.map_eq_some_iff.1 isComp
  obtain ⟨j, hj, hjs⟩ := Option.map_eq_some_iff.1 isSize
  have h8 := @run_callFunc_extern Tryz.prog 130 _ Extern.ReflectliteType.typeOf Tryz.func130 (by kernel_rfl) (by kernel_rfl) (by kernel_rfl) (by kernel_rfl)
  have h32 := @run_callFunc_extern Tryz.prog 190 _ compE Tryz.func190 (by kernel_rfl) (by kernel_rfl) (by kernel_rfl) (by kernel_rfl)
  have tT := isTypeOf
  have cT := isComparable
  have mR := isMethodComparable
  have heq := run_eql_iface_ptr_same (P := Tryz.prog) w a Tryz.underlying62 Tryz.underlying213 hi hcmp hj
  go_enter Tryz.func104, Tryz.ntmps104
  go_wp2
  refine wp_loop_rounds 1 ?_
  rw [rounds_succ]
  go_wp2
  go_ret
  exact ⟨rfl, rfl⟩
/-- errors.Is(x, y), two of them. -/
theorem is_other (a b : Addr) (ca cb : Array Value) (ta tb : TypeId) (w : World) (hne : a ≠ b) (ha : w.heap[a.block]? = some (.cells ca ta (0, 0))) (hb : w.heap[b.block]? = some (.cells cb tb (0, 0))) :
    Calls Tryz.prog 104 #[.iface 213 (.pointer (some a)), .iface 213 (.pointer (some b))] w fun e w' => e = .returned (.bool false) ∧ w' = w := by
  obtain ⟨i, hi, hcmp⟩ := Option.map_eq_some_iff.1 isComp
  obtain ⟨j, hj, hjs⟩ := Option.map_eq_some_iff.1 isSize
  have h8 := @run_callFunc_extern Tryz.prog 130 _ Extern.ReflectliteType.typeOf Tryz.func130 (by kernel_rfl) (by kernel_rfl) (by kernel_rfl) (by kernel_rfl)
  have h32 := @run_callFunc_extern Tryz.prog 190 _ compE Tryz.func190 (by kernel_rfl) (by kernel_rfl) (by kernel_rfl) (by kernel_rfl)
  have tT := isTypeOf
  have cT := isComparable
  have mR := isMethodComparable
  have nE := noIsE
  have uE := noUnwrapE
  have vE := noUnwrapsE
  have heq := run_eql_iface_ptr_other (P := Tryz.prog) w Tryz.underlying62 Tryz.underlying213 hi hcmp hj (by rw [hjs]; decide) hne ha hb
  go_enter Tryz.func104, Tryz.ntmps104
  go_wp2
  refine wp_loop_rounds 1 ?_
  rw [rounds_succ]
  go_wp2
  go_ret
  exact ⟨rfl, rfl⟩
theorem is_both (a b : Addr) (w : World) (ha : ∃ c t, w.heap[a.block]? = some (.cells c t (0, 0))) (hb : ∃ c t, w.heap[b.block]? = some (.cells c t (0, 0))) :
    Calls Tryz.prog 104 #[.iface 213 (.pointer (some a)), .iface 213 (.pointer (some b))] w fun e w' => e = .returned (.bool (decide (a = b))) ∧ w' = w := by
  obtain ⟨c, t, ha⟩ := ha
  obtain ⟨c', t', hb⟩ := hb
  by_cases h : a = b
  · subst h
    refine (is_same a w).mono ?_
    rintro e w' ⟨rfl, h2⟩
    exact ⟨by simp, h2⟩
  · refine (is_other a b c c' t t' w h ha hb).mono ?_
    rintro e w' ⟨rfl, h2⟩
    exact ⟨by simp [h], h2⟩
/-- How something ends, as a number. -/
theorem goCode_nil (w : World) : Calls Tryz.prog 69 #[.nilIface] w fun e w' => e = .returned (.int .i64 0) ∧ Below w.heap.size w w' := by
  go_enter Tryz.func69, Tryz.ntmps69
  go_wp2_with fail
  go_ret
  exact ⟨rfl, Below.refl _ _⟩
/-- The sentinel's number: which of the three it is, else 1. -/
def codeOf (a aT aN aU : Addr) : Int := if a = aT then 2 else if a = aN then 3 else if a = aU then 4 else 1
set_option maxRecDepth 8000 in
theorem goCode_sent (a aF aT aN aU : Addr) (w : World) (h : Four w aF aT aN aU) (ha : ∃ c t, w.heap[a.block]? = some (.cells c t (0, 0))) : Calls Tryz.prog 69 #[.iface 213 (.pointer (some a))] w fun e w' => e = .returned (.int .i64 (codeOf a aT aN aU)) ∧ Below w.heap.size w w' := by
  have gT := h.t.1
  have gN := h.n.1
  have gU := h.u.1
  have kT := h.t.2
  have kN := h.n.2
  have kU := h.u.2
  have KK : Hid ((∃ c t, w.heap[a.block]? = some (.cells c t (0, 0))) ∧ (∃ c t, w.heap[aT.block]? = some (.cells c t (0, 0))) ∧ (∃ c t, w.heap[aN.block]? = some (.cells c t (0, 0))) ∧ (∃ c t, w.heap[aU.block]? = some (.cells c t (0, 0)))) := ⟨ha, kT, kN, kU⟩
  clear h ha kT kN kU
  go_enter Tryz.func69, Tryz.ntmps69
  go_wp2_with fail
  refine (is_both a aT w KK.out.1 KK.out.2.1).mono ?_
  rintro e w' ⟨rfl, hw⟩
  subst hw
  by_cases h1 : a = aT
  · have d1 : decide (a = aT) = true := decide_eq_true h1
    have HC : Hid (codeOf a aT aN aU = 2) := by show codeOf a aT aN aU = 2; simp [codeOf, h1]
    rw [d1]
    clear h1 d1
    go_wp2_with fail
    go_ret
    exact ⟨by rw [HC.out]; rfl, Below.refl _ _⟩
  have d1 : decide (a = aT) = false := decide_eq_false h1
  rw [d1]
  clear d1
  have H1 : Hid (¬ a = aT) := h1
  clear h1
  go_wp2_with fail
  refine (is_both a aN _ KK.out.1 KK.out.2.2.1).mono ?_
  rintro e w' ⟨rfl, hw⟩
  subst hw
  by_cases h2 : a = aN
  · have d2 : decide (a = aN) = true := decide_eq_true h2
    have HC : Hid (codeOf a aT aN aU = 3) := by show codeOf a aT aN aU = 3; rw [codeOf, if_neg H1.out, if_pos h2]
    rw [d2]
    clear h2 d2
    go_wp2_with fail
    go_ret
    exact ⟨by rw [HC.out]; rfl, Below.refl _ _⟩
  have d2 : decide (a = aN) = false := decide_eq_false h2
  rw [d2]
  clear d2
  have H2 : Hid (¬ a = aN) := h2
  clear h2
  go_wp2_with fail
  refine (is_both a aU _ KK.out.1 KK.out.2.2.2).mono ?_
  rintro e w' ⟨rfl, hw⟩
  subst hw
  by_cases h3 : a = aU
  · have d3 : decide (a = aU) = true := decide_eq_true h3
    have HC : Hid (codeOf a aT aN aU = 4) := by show codeOf a aT aN aU = 4; rw [codeOf, if_neg H1.out, if_neg H2.out, if_pos h3]
    rw [d3]
    clear h3 d3
    go_wp2_with fail
    go_ret
    exact ⟨by rw [HC.out]; rfl, Below.refl _ _⟩
  have d3 : decide (a = aU) = false := decide_eq_false h3
  have HC : Hid (codeOf a aT aN aU = 1) := by show codeOf a aT aN aU = 1; rw [codeOf, if_neg H1.out, if_neg H2.out, if_neg h3]
  rw [d3]
  clear h3 d3
  go_wp2_with fail
  go_ret
  exact ⟨by rw [HC.out]; rfl, Below.refl _ _⟩
end Go.Proofs.YtlnpbfeihjfnjaaGreatDoor.Lab

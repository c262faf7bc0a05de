/-
  Readers of lists of numbers in the laws: eqIntS, markIntS, heldIntS; wpInts.
  Maps as the kit owns them; impl.inOrder for nodes.
  A builder's write, which leaves what is no row of bytes. (Written by tools/mkblk.py, out of Bld.)
-/
import Derived.Test.YtlnpbfeihjfnjabGreatDoorQIts
import Derived.Test.YtlnpbfeihjfnjabGreatDoorRows
import Derived.WalkKit
import Derived.WalkSpells
import Derived.WalkLawsBesides
import Derived.Deep.QuietTactic
import Derived.BigQuiet
import Derived.Test.YtlnpbfeihjfnjabGreatDoorQSrt
import Derived.Test.YtlnpbfeihjfnjabGreatDoorQMap
import Derived.Test.YtlnpbfeihjfnjabGreatDoorQGpl
import Derived.Test.YtlnpbfeihjfnjabGreatDoorQVie
import Derived.Test.YtlnpbfeihjfnjabGreatDoorQBld
namespace Go.Proofs.YtlnpbfeihjfnjabGreatDoor.Lab
open Go.RowKit
set_option linter.unusedVariables false

/-- A slice value reads as a list of numbers. -/
def Reads (w : World) (v : Value) (l : List Int) : Prop :=
  (l = [] ∧ ∃ a cap, v = .slice a 0 cap) ∨
  (0 < l.length ∧ ∃ b off cap, v = .slice (some ⟨b, off, none⟩) l.length cap ∧ ∀ j, j < l.length → w.cell? ⟨b, off + j, none⟩ = some (.int .i64 (l.getD j 0)))
theorem Reads.drewN {w : World} {v : Value} {l : List Int} (h : Reads w v l) (n : Nat) : Reads (w.drewN n) v l := by
  rcases h with h | ⟨h0, b, off, cap, hv, hc⟩
  · exact .inl h
  · exact .inr ⟨h0, b, off, cap, hv, fun j hj => by rw [World.cell?_drewN]; exact hc j hj⟩
theorem reads_own {w : World} {base e : Nat} {v : Value} {l : List Int} (h : w.ownsRow base e 1 v l.length (l.map (Value.int .i64))) : Reads w v l := by
  have hk := h
  obtain ⟨_, h | ⟨g, cap, cur, hv, hb, hg, hn, hm, hs, ht⟩⟩ := h
  · exact .inl ⟨List.length_eq_zero_iff.1 h.2, _, _, h.1⟩
  · by_cases h0 : l.length = 0
    · exact .inl ⟨List.length_eq_zero_iff.1 h0, _, _, by rw [hv, h0]⟩
    · refine .inr ⟨by omega, g, 0, cap, hv, fun j hj => ?_⟩
      rw [hv] at hk
      have := hk.cellAt j (by omega)
      rw [Nat.zero_add, this]
      simp [hj]
theorem own_heap {w w' : World} {base e size : Nat} {v : Value} {n : Nat} {xs : List Value} (h : w.ownsRow base e size v n xs) (hk : ∀ k, v.ownBlock = some k → w'.heap[k]? = w.heap[k]?) : w'.ownsRow base e size v n xs := by
  obtain ⟨h1, h | ⟨g, cap, cur, rfl, hb, hg, hr⟩⟩ := h
  · exact ⟨h1, .inl h⟩
  · exact ⟨h1, .inr ⟨g, cap, cur, rfl, hb, by rw [hk g rfl]; exact hg, hr⟩⟩
theorem own_below {w w' : World} {base e size : Nat} {v : Value} {n : Nat} {xs : List Value} (h : w.ownsRow base e size v n xs) (hb : Below w.heap.size w w') : w'.ownsRow base e size v n xs :=
  own_heap h (fun k hk => hb.block k (h.lt k hk).2)
theorem own_drewN {w : World} {base e size : Nat} {v : Value} {n : Nat} {xs : List Value} (h : w.ownsRow base e size v n xs) (m : Nat) : (w.drewN m).ownsRow base e size v n xs :=
  own_heap h (fun k _ => by rw [World.heap_drewN])
theorem list_eq_of {l m : List Int} (h : l.length = m.length) (hj : ∀ j, j < l.length → l.getD j 0 = m.getD j 0) : l = m := by
  apply List.ext_getElem h
  intro j h1 h2
  have := hj j h1
  simpa [List.getD, h1, h2] using this

def ints (l : List Int) : List Value := l.map (Value.int .i64)
theorem ints_length (l : List Int) : (ints l).length = l.length := by simp [ints]
/-- A row that the call owns, and one number more. -/
theorem row_push {B e : Nat} {w wr w1 : World} {v v' : Value} {l : List Int} {x : Int}
    (hB : B ≤ wr.heap.size) (hown : wr.ownsRow B e 1 v l.length (ints l)) (hnx : Below B w wr) (o : Obj)
    (hown' : w1.ownsRow B e 1 v' (l.length + 1) (ints l ++ [.int .i64 x])) (hgrow : (wr.alloc o).grownBy w1 v.ownBlock) :
    w1.ownsRow B e 1 v' (l ++ [x]).length (ints (l ++ [x])) ∧ Below B w w1 := by
  constructor
  · simpa [ints] using hown'
  · exact (hnx.alloc hB o).grown hgrow (by simp; omega) (fun g hg => (hown.lt g hg).1)
/-- The numbers k, k + 1, .. -/
def upFrom (k : Int) : Nat → List Int
  | 0 => []
  | n + 1 => upFrom k n ++ [k + n]
theorem upFrom_length (k : Int) (n : Nat) : (upFrom k n).length = n := by
  induction n with
  | zero => rfl
  | succ n ih => simp [upFrom, ih]
theorem upFrom_getD (k : Int) (n j : Nat) (h : j < n) : (upFrom k n).getD j 0 = k + j := by
  induction n with
  | zero => omega
  | succ n ih =>
    simp only [upFrom, List.getD_eq_getElem?_getD, List.getElem?_append, upFrom_length]
    by_cases hj : j < n
    · rw [if_pos hj]
      have := ih hj
      rw [List.getD_eq_getElem?_getD] at this
      exact this
    · have : j = n := by omega
      subst this
      simp
theorem reads_up {w : World} {base e n : Nat} {v : Value} {k0 : Int} (h : w.ownsRow base e 1 v n ((upFrom k0 n).map (Value.int .i64))) : Reads w v (upFrom k0 n) :=
  reads_own (by rw [upFrom_length]; exact h)
end Go.Proofs.YtlnpbfeihjfnjabGreatDoor.Lab
namespace Go.Proofs.YtlnpbfeihjfnjabGreatDoor.Lab
open Go.RowKit Go.ChangeMaps Go.Maps Go.Sort Go.Shelf
set_option linter.unusedVariables false
def vI : Value → Int
  | .int _ a => a
  | _ => 0
/-- A key's number. -/
def litI : Lit → Int
  | .int _ a => a
  | _ => 0
theorem intKeys_eq {H : Type} (es : List (Lit × DataW H)) : intKeys (.map es) = es.map (fun q => litI q.1) := by
  refine List.map_congr_left (fun q _ => ?_)
  cases q.1 <;> rfl
theorem insert_perm {H : Type} (x : Lit × DataW H) : ∀ l : List (Lit × DataW H), (DataW.insert x l).Perm (x :: l)
  | [] => List.Perm.refl _
  | y :: l => by
    unfold DataW.insert
    split
    · exact List.Perm.refl _
    · exact ((insert_perm x l).cons y).trans (List.Perm.swap x y l)
theorem foldr_perm {H : Type} : ∀ l : List (Lit × DataW H), (l.foldr DataW.insert []).Perm l
  | [] => List.Perm.refl _
  | x :: l => by
    simp only [List.foldr_cons]
    exact (insert_perm x _).trans ((foldr_perm l).cons x)
/-- A map with told entries, in the kit's words. -/
theorem MapAt.owns {P : Program} {w : World} {b : Nat} {es : List (Int × Value)} {k : TypeId} (h : MapAt w b es) (hk : P.underlying k = some (.int .i64)) (hwf : ∀ p ∈ es, (Lit.int .i64 p.1).wf = true) (hl : es.length ≤ maxLen) :
    ∃ D0 : DataW Unit, w.ownsMap P k (fun _ => some (.nil, [])) b es.length D0 ∧ (intKeys D0).Perm (es.map (·.1)) ∧ Maps.size D0 = es.length := by
  obtain ⟨ents, clock, h1, h2, h3⟩ := h
  have hlen : ents.toList.length = es.length := by have := congrArg List.length h2; simpa using this
  have hlen' : ents.size = es.length := by simpa using hlen
  have hrd : ∀ x ∈ ents.toList, ∃ p ∈ es, x.key = .int .i64 p.1 ∧ Go.WideElems.rd P k (fun _ => some ((.nil : DataW Unit), [])) x = some (.int .i64 p.1, .nil) := fun x hx => by
    have hm : (x.key, x.val) ∈ es.map (fun p => (Value.int .i64 p.1, p.2)) := by rw [← h2]; exact List.mem_map.2 ⟨x, hx, rfl⟩
    obtain ⟨p, hp, he⟩ := List.mem_map.1 hm
    simp only [Prod.mk.injEq] at he
    refine ⟨p, hp, he.1.symm, ?_⟩
    simp [Go.WideElems.rd, ← he.1, keyOf_int_mk hk (hwf p hp)]
  have hkeys : (ents.toList.map (Go.WideElems.rg P k (fun _ => some ((.nil : DataW Unit), [])))).map (fun q => litI q.1) = es.map (·.1) := by
    have e1 : ents.toList.map (fun x => vI x.key) = es.map (·.1) := by
      have := congrArg (List.map (fun q : Value × Value => vI q.1)) h2
      simpa [List.map_map, Function.comp_def, vI] using this
    rw [← e1, List.map_map]
    refine List.map_congr_left (fun x hx => ?_)
    obtain ⟨p, hp, he, hr⟩ := hrd x hx
    simp only [Function.comp, Go.WideElems.rg_of hr, he]
    rfl
  refine ⟨.map ((ents.toList.map (Go.WideElems.rg P k (fun _ => some ((.nil : DataW Unit), [])))).foldr DataW.insert []), ⟨ents, clock, h1, ⟨by omega, h3, fun x hx => by obtain ⟨p, _, _, hr⟩ := hrd x hx; exact ⟨_, hr⟩⟩, by omega, rfl⟩, ?_, ?_⟩
  · rw [← hkeys, intKeys_eq]
    exact (foldr_perm _).map _
  · have := (foldr_perm (ents.toList.map (Go.WideElems.rg P k (fun _ => some ((.nil : DataW Unit), []))))).length_eq
    simp only [Maps.size, List.length_map] at this ⊢
    omega
end Go.Proofs.YtlnpbfeihjfnjabGreatDoor.Lab
namespace Go.Proofs.YtlnpbfeihjfnjabGreatDoor.Lab
open Go.RowKit Go.ChangeMaps Go.Maps Go.Shelf
set_option linter.unusedVariables false
theorem Tryz.sorts (m : Nat) : AnyZI.SortsIn Tryz.prog Tryz.sortedN_ren Fence.wide m :=
  ⟨fun blk off cap ss W hH hblk hsz => callsIn_wide.2 (AnyM.slices_Sort_int Tryz.sortN blk off cap ss W hH hblk hsz), fun p cap W => callsIn_wide.2 (AnyM.slices_Sort_int_none Tryz.sortN p cap W)⟩
/-- The node with a number. -/
def nodeOf (os : List Nd) (c : Int) : Nd := (os.find? (fun o => cod o == c)).getD (0, 0)
theorem nodeOf_in {os : List Nd} {c : Int} (h : c ∈ os.map cod) : nodeOf os c ∈ os ∧ cod (nodeOf os c) = c := by
  obtain ⟨o, ho, e⟩ := List.mem_map.1 h
  cases hf : os.find? (fun o => cod o == c) with
  | none =>
    have := List.find?_eq_none.1 hf o ho
    simp [e] at this
  | some q =>
    have h1 := List.mem_of_find?_eq_some hf
    have h2 := List.find?_some hf
    simp only [nodeOf, hf, Option.getD_some]
    exact ⟨h1, by simpa using h2⟩
theorem lkp_nodeOf {os : List Nd} {c : Int} (hok : ∀ o ∈ os, nodeB o.1 o.2 = true) (h : c ∈ os.map cod) : lkp (nEnts os) c = some (nVal (nodeOf os c)) := by
  obtain ⟨h1, h2⟩ := nodeOf_in h
  rcases lkp_map cod nVal c os with ⟨_, k2⟩ | ⟨y, k1, k2, k3⟩
  · exact absurd h2 (k2 _ h1)
  · have : y = nodeOf os c := cod_inj (hok y k1) (by rw [k2, h2])
    rw [nEnts, k3, this]
end Go.Proofs.YtlnpbfeihjfnjabGreatDoor.Lab
namespace Go.Proofs.YtlnpbfeihjfnjabGreatDoor.Lab
open Go.RowKit Go.Shelf
set_option linter.unusedVariables false
/-- A row that is no row of bytes stands. -/
theorem own_others {w w' : World} {base e size n b : Nat} {v : Value} {xs : List Value} (h : w.ownsRow base e size v n xs) (hk : Lib.OthersKept 5 (some b) w w') (he : e ≠ 5) (hb : ∀ g, v.ownBlock = some g → g ≠ b) : w'.ownsRow base e size v n xs := by
  obtain ⟨h1, h | ⟨g, cap, cur, rfl, hbb, hg, hr⟩⟩ := h
  · exact ⟨h1, .inl h⟩
  · exact ⟨h1, .inr ⟨g, cap, cur, rfl, hbb, hk g _ hg (fun e => hb g (by simp [Value.ownBlock]) (by cases e; rfl)) (fun c fz hc => by cases hc; exact he rfl), hr⟩⟩
set_option maxHeartbeats 1000000 in
set_option maxRecDepth 100000 in
theorem bl_check_k (B b : Nat) (bs : List Value) (w : World) (h : Lib.IsBuilder 88 5 B b bs w) :
    Calls Tryz.prog 76 #[.pointer (some ⟨b, 0, none⟩)] w fun e w' => e = .returned (.tuple #[]) ∧ Lib.BuilderAt 88 5 B b (.pointer (some ⟨b, 0, none⟩)) bs w' ∧ Below B w w' ∧ KeepsOthers w w' ∧ Lib.OthersKept 5 (some b) w w' := by
  rcases h with h | h
  · refine (check_fresh b w h.cell0 h.shape h.frozen0).mono ?_
    rintro e w' ⟨rfl, rfl⟩
    exact ⟨rfl, h.used _, (Below.refl B w).setCell (p := ⟨b, 0, none⟩) h.1 _, keeps_set _ _ _, (Lib.OthersKept.refl _ _ _).setCell ⟨b, 0, none⟩ rfl _⟩
  · refine (check_used b w h.cell0).mono ?_
    rintro e w' ⟨rfl, rfl⟩
    exact ⟨rfl, h, Below.refl B _, KeepsOthers.refl _, Lib.OthersKept.refl _ _ _⟩
set_option maxHeartbeats 1000000 in
set_option maxRecDepth 100000 in
theorem bl_write_k (B b : Nat) (l : List UInt8) (s : List UInt8) (w : World) (h : Lib.IsBuilder 88 5 B b (Lib.byteCells l) w) (hlen : l.length + s.length ≤ 1000000000) (hBw : B ≤ w.heap.size) :
    Calls Tryz.prog 53 #[.pointer (some ⟨b, 0, none⟩), .string ⟨s.toArray⟩] w fun e w' => (∃ v, e = .returned v) ∧ Lib.IsBuilder 88 5 B b (Lib.byteCells (l ++ s)) w' ∧ Below B w w' ∧ KeepsOthers w w' ∧ Lib.OthersKept 5 (some b) w w' := by
  obtain ⟨i0, hi, hz0, hz1, hz2⟩ := info_parts Tryz.infoU8
  have hz : (ByteArray.mk s.toArray).size = s.length := by simp [ByteArray.size]
  have hll : (Lib.byteCells l).length = l.length := Lib.byteCells_length l
  go_enter Tryz.func53, Tryz.ntmps53
  go_wp2_with fail
  refine (bl_check_k B b _ _ h).mono ?_
  rintro e w1 ⟨rfl, h1, hb1, hk1, ho1⟩
  obtain ⟨hB, v, hbk, hown, hne⟩ := h1
  have c0 : w1.cell? ⟨b, 0, none⟩ = some (.pointer (some ⟨b, 0, none⟩)) := by rw [Lib.cell_of_heap hbk]; rfl
  have c1 : w1.cell? ⟨b, 1, none⟩ = some v := by rw [Lib.cell_of_heap hbk]; rfl
  have s1 := hb1.size
  go_wp2_with (at_builtin; refine Lib.wpList_append_own_string _ rfl _ _ 86 9 rfl B 5 i0 Tryz.underlying86 Tryz.underlying9 hi hz0 hz1 hz2 _ _ _ rfl hown ⟨s.toArray⟩ rfl ?c3 ?c4 ?c5 ?_)
  case c3 => unfold maxLen; omega
  case c4 => omega
  case c5 => omega
  intro v' w2 hown' hgrow _
  have hlt : b < w1.heap.size := lt_of_block hbk
  have hb2 : w2.heap[b]? = some (.cells #[.pointer (some ⟨b, 0, none⟩), v] 88 (0, 0)) := by
    rw [hgrow.block b hlt (fun e => hne e.symm)]; exact hbk
  have d0 : w2.cell? ⟨b, 0, none⟩ = some (.pointer (some ⟨b, 0, none⟩)) := by rw [Lib.cell_of_heap hb2]; rfl
  have d1 : w2.cell? ⟨b, 1, none⟩ = some v := by rw [Lib.cell_of_heap hb2]; rfl
  have f1 : w2.frozen? ⟨b, 1, none⟩ = false := Lib.frozen_of_heap hb2 1
  have bel2 : Below B w w2 := hb1.grown hgrow (by omega) (fun k hk => (hown.lt k hk).1)
  have kp2 : KeepsOthers w1 w2 := ⟨hgrow.size, fun k o hk ho => by
    rw [hgrow.block k (Array.getElem?_eq_some_iff.1 hk).1 (fun e => ?_)]
    · exact hk
    · obtain ⟨_, hx | ⟨g, cap, cur, rfl, _, hg, _⟩⟩ := hown
      · rw [hx.1] at e; simp [Value.ownBlock] at e
      · simp [Value.ownBlock] at e; subst e
        rw [hg] at hk; cases hk; cases ho⟩
  have ok2 : Lib.OthersKept 5 (some b) w w2 := ho1.grown hgrow (fun g hg => by
    obtain ⟨_, hx | ⟨g', cap, cur, rfl, _, hgg, _⟩⟩ := hown
    · rw [hx.1] at hg; simp [Value.ownBlock] at hg
    · simp [Value.ownBlock] at hg; subst hg; exact ⟨_, _, hgg⟩)
  have hput : Lib.BuilderAt 88 5 B b (.pointer (some ⟨b, 0, none⟩)) (Lib.byteCells (l ++ s)) (w2.setCell ⟨b, 1, none⟩ v') := by
    refine Lib.BuilderAt.put (T := 88) (e := 5) hB hb2 (bs' := Lib.byteCells (l ++ s)) ?_ (by decide)
    have e1 : Lib.byteCells (l ++ s) = Lib.byteCells l ++ Lib.strCells ⟨s.toArray⟩ := by rw [Lib.byteCells_append]; rfl
    have e2 : (Lib.byteCells (l ++ s)).length = l.length + s.length := by rw [Lib.byteCells_length]; simp
    rw [e2, e1]; exact hown'
  obtain ⟨ao, n', cap, rfl⟩ : ∃ ao n' cap, v' = .slice ao n' cap := by
    rcases hown'.2 with ⟨hv, _⟩ | ⟨g, cap, cur, hv, _⟩
    · exact ⟨_, _, _, hv⟩
    · exact ⟨_, _, _, hv⟩
  have HF : Hid (Lib.BuilderAt 88 5 B b (.pointer (some ⟨b, 0, none⟩)) (Lib.byteCells (l ++ s)) (w2.setCell ⟨b, 1, none⟩ (.slice ao n' cap)) ∧ Below B w w2 ∧ KeepsOthers w w2 ∧ B ≤ b ∧ Lib.OthersKept 5 (some b) w w2) := ⟨hput, bel2, hk1.trans kp2, hB, ok2⟩
  clear hput bel2 kp2 ok2 ho1 hk1 hb1 hown hown' hgrow hbk hb2 h
  go_wp2
  go_ret2
  exact ⟨⟨_, rfl⟩, .inr HF.out.1, HF.out.2.1.setCell (p := ⟨b, 1, none⟩) HF.out.2.2.2.1 _, HF.out.2.2.1.trans (keeps_set _ _ _), HF.out.2.2.2.2.setCell ⟨b, 1, none⟩ rfl _⟩
end Go.Proofs.YtlnpbfeihjfnjabGreatDoor.Lab

/-
  Maps as the kit owns them; impl.inOrder for nodes.
-/
import Derived.Test.YtlnpbfeihjfnjabGreatDoorSrt
import Derived.Test.YtlnpbfeihjfnjabGreatDoorMap
import Derived.Test.YtlnpbfeihjfnjabGreatDoorRd
import Derived.Test.YtlnpbfeihjfnjabGreatDoorNpl
import Derived.Test.YtlnpbfeihjfnjabGreatDoorGki
namespace Go.Proofs.YtlnpbfeihjfnjabGreatDoor.Lab
open Go.RowKit Go.ChangeMaps Go.Maps Go.Sort Go.Shelf
set_option linter.unusedVariables false
def vI : Value → Int
  | .int _ a => a
  | _ => 0
/-- A key's number. -/
def litI : Lit → Int
  | .int _ a => a
  | _ => 0
theorem intKeys_eq {H : Type} (es : List (Lit × DataW H)) : intKeys (.map es) = es.map (fun q => litI q.1) := by
  refine List.map_congr_left (fun q _ => ?_)
  cases q.1 <;> rfl
theorem insert_perm {H : Type} (x : Lit × DataW H) : ∀ l : List (Lit × DataW H), (DataW.insert x l).Perm (x :: l)
  | [] => List.Perm.refl _
  | y :: l => by
    unfold DataW.insert
    split
    · exact List.Perm.refl _
    · exact ((insert_perm x l).cons y).trans (List.Perm.swap x y l)
theorem foldr_perm {H : Type} : ∀ l : List (Lit × DataW H), (l.foldr DataW.insert []).Perm l
  | [] => List.Perm.refl _
  | x :: l => by
    simp only [List.foldr_cons]
    exact (insert_perm x _).trans ((foldr_perm l).cons x)
/-- A map with told entries, in the kit's words. -/
theorem MapAt.owns {P : Program} {w : World} {b : Nat} {es : List (Int × Value)} {k : TypeId} (h : MapAt w b es) (hk : P.underlying k = some (.int .i64)) (hwf : ∀ p ∈ es, (Lit.int .i64 p.1).wf = true) (hl : es.length ≤ maxLen) :
    ∃ D0 : DataW Unit, w.ownsMap P k (fun _ => some (.nil, [])) b es.length D0 ∧ (intKeys D0).Perm (es.map (·.1)) ∧ Maps.size D0 = es.length := by
  obtain ⟨ents, clock, h1, h2, h3⟩ := h
  have hlen : ents.toList.length = es.length := by have := congrArg List.length h2; simpa using this
  have hlen' : ents.size = es.length := by simpa using hlen
  have hrd : ∀ x ∈ ents.toList, ∃ p ∈ es, x.key = .int .i64 p.1 ∧ Go.WideElems.rd P k (fun _ => some ((.nil : DataW Unit), [])) x = some (.int .i64 p.1, .nil) := fun x hx => by
    have hm : (x.key, x.val) ∈ es.map (fun p => (Value.int .i64 p.1, p.2)) := by rw [← h2]; exact List.mem_map.2 ⟨x, hx, rfl⟩
    obtain ⟨p, hp, he⟩ := List.mem_map.1 hm
    simp only [Prod.mk.injEq] at he
    refine ⟨p, hp, he.1.symm, ?_⟩
    simp [Go.WideElems.rd, ← he.1, keyOf_int_mk hk (hwf p hp)]
  have hkeys : (ents.toList.map (Go.WideElems.rg P k (fun _ => some ((.nil : DataW Unit), [])))).map (fun q => litI q.1) = es.map (·.1) := by
    have e1 : ents.toList.map (fun x => vI x.key) = es.map (·.1) := by
      have := congrArg (List.map (fun q : Value × Value => vI q.1)) h2
      simpa [List.map_map, Function.comp_def, vI] using this
    rw [← e1, List.map_map]
    refine List.map_congr_left (fun x hx => ?_)
    obtain ⟨p, hp, he, hr⟩ := hrd x hx
    simp only [Function.comp, Go.WideElems.rg_of hr, he]
    rfl
  refine ⟨.map ((ents.toList.map (Go.WideElems.rg P k (fun _ => some ((.nil : DataW Unit), [])))).foldr DataW.insert []), ⟨ents, clock, h1, ⟨by omega, h3, fun x hx => by obtain ⟨p, _, _, hr⟩ := hrd x hx; exact ⟨_, hr⟩⟩, by omega, rfl⟩, ?_, ?_⟩
  · rw [← hkeys, intKeys_eq]
    exact (foldr_perm _).map _
  · have := (foldr_perm (ents.toList.map (Go.WideElems.rg P k (fun _ => some ((.nil : DataW Unit), []))))).length_eq
    simp only [Maps.size, List.length_map] at this ⊢
    omega
end Go.Proofs.YtlnpbfeihjfnjabGreatDoor.Lab
namespace Go.Proofs.YtlnpbfeihjfnjabGreatDoor.Lab
open Go.RowKit Go.ChangeMaps Go.Maps Go.Shelf
set_option linter.unusedVariables false
theorem Tryz.sorts (m : Nat) : AnyZI.SortsIn Tryz.prog Tryz.sortedN_ren Fence.wide m :=
  ⟨fun blk off cap ss W hH hblk hsz => callsIn_wide.2 (AnyM.slices_Sort_int Tryz.sortN blk off cap ss W hH hblk hsz), fun p cap W => callsIn_wide.2 (AnyM.slices_Sort_int_none Tryz.sortN p cap W)⟩
/-- The node with a number. -/
def nodeOf (os : List Nd) (c : Int) : Nd := (os.find? (fun o => cod o == c)).getD (0, 0)
theorem nodeOf_in {os : List Nd} {c : Int} (h : c ∈ os.map cod) : nodeOf os c ∈ os ∧ cod (nodeOf os c) = c := by
  obtain ⟨o, ho, e⟩ := List.mem_map.1 h
  cases hf : os.find? (fun o => cod o == c) with
  | none =>
    have := List.find?_eq_none.1 hf o ho
    simp [e] at this
  | some q =>
    have h1 := List.mem_of_find?_eq_some hf
    have h2 := List.find?_some hf
    simp only [nodeOf, hf, Option.getD_some]
    exact ⟨h1, by simpa using h2⟩
theorem lkp_nodeOf {os : List Nd} {c : Int} (hok : ∀ o ∈ os, nodeB o.1 o.2 = true) (h : c ∈ os.map cod) : lkp (nEnts os) c = some (nVal (nodeOf os c)) := by
  obtain ⟨h1, h2⟩ := nodeOf_in h
  rcases lkp_map cod nVal c os with ⟨_, k2⟩ | ⟨y, k1, k2, k3⟩
  · exact absurd h2 (k2 _ h1)
  · have : y = nodeOf os c := cod_inj (hok y k1) (by rw [k2, h2])
    rw [nEnts, k3, this]
end Go.Proofs.YtlnpbfeihjfnjabGreatDoor.Lab

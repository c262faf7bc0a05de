/-
  Contracts of impl's functions on who is near whom. (Written by tools/mknea.py.)
-/
import Derived.Test.YtlnpbfeihjfnjaaGreatDoorIno
import Derived.Test.YtlnpbfeihjfnjaaGreatDoorMrk
import Derived.Deep.RegionHeld3
import Derived.Deep.DrawnRows
namespace Go.Proofs.YtlnpbfeihjfnjaaGreatDoor.Lab
open Go.RowKit Go.ChangeMaps
set_option linter.unusedVariables false
theorem new_at' {w : World} {o : Obj} {S : Nat} (h : S = w.heap.size) : (w.alloc o).heap[S]? = some o := by subst h; exact new_block w o
/-- What otherEnd answers. -/
def othV (o : Option Nd) : Value := .tuple #[.agg #[.int .i64 (o.getD (0, 0)).1, .int .i64 (o.getD (0, 0)).2], .bool o.isSome]
set_option maxRecDepth 8000 in
set_option maxHeartbeats 4000000 in
theorem otherEnd (l al an bl bn nl nn : Int) (w : World) :
    Calls Tryz.prog 181 #[.agg #[.int .i64 l, .int .i64 al, .int .i64 an, .int .i64 bl, .int .i64 bn], .agg #[.int .i64 nl, .int .i64 nn]] w fun e w' => e = .returned (othV (otherI (l, al, an, bl, bn) (nl, nn))) ∧ Below w.heap.size w w' := by
  have b0 : Hid (∀ o1 o2 o3, Below w.heap.size w (((w.alloc o1).alloc o2).alloc o3)) := fun o1 o2 o3 => by go_grown
  by_cases hA : nl = al ∧ nn = an
  · obtain ⟨rfl, rfl⟩ := hA
    have HO : Hid (otherI (l, nl, nn, bl, bn) (nl, nn) = some (bl, bn)) := by show otherI (l, nl, nn, bl, bn) (nl, nn) = some (bl, bn); simp [otherI]
    go_enter Tryz.func181, Tryz.ntmps181
    go_wp2_with fail
    refine bodyPost_ret (v := .tuple #[.agg #[.int .i64 bl, .int .i64 bn], .bool true]) (by simp [*, results, Tryz.results181, go_sem]) rfl ⟨by rw [HO.out]; rfl, ?_⟩
    go_grown
  · have HA : Hid (¬ (nl = al ∧ nn = an)) := hA
    by_cases hB : nl = bl ∧ nn = bn
    · obtain ⟨rfl, rfl⟩ := hB
      have HO : Hid (otherI (l, al, an, nl, nn) (nl, nn) = some (al, an)) := by show otherI (l, al, an, nl, nn) (nl, nn) = some (al, an); simp [otherI, Prod.mk.injEq, hA]
      by_cases h1 : nl = al
      · subst h1
        have d1 : (nn == an) = false := beq_eq_false_iff_ne.2 (fun e => hA ⟨rfl, e⟩)
        clear hA
        go_enter Tryz.func181, Tryz.ntmps181
        go_wp2_with fail
        refine bodyPost_ret (v := .tuple #[.agg #[.int .i64 nl, .int .i64 an], .bool true]) (by simp [*, results, Tryz.results181, go_sem]) rfl ⟨by rw [HO.out]; rfl, ?_⟩
        go_grown
      · have d1 : (nl == al) = false := beq_eq_false_iff_ne.2 h1
        clear hA h1
        go_enter Tryz.func181, Tryz.ntmps181
        go_wp2_with fail
        refine bodyPost_ret (v := .tuple #[.agg #[.int .i64 al, .int .i64 an], .bool true]) (by simp [*, results, Tryz.results181, go_sem]) rfl ⟨by rw [HO.out]; rfl, ?_⟩
        go_grown
    · have HO : Hid (otherI (l, al, an, bl, bn) (nl, nn) = none) := by show otherI (l, al, an, bl, bn) (nl, nn) = none; simp [otherI, Prod.mk.injEq, hA, hB]
      by_cases h1 : nl = al
      · subst h1
        have d1 : (nn == an) = false := beq_eq_false_iff_ne.2 (fun e => hA ⟨rfl, e⟩)
        clear hA
        by_cases h2 : nl = bl
        · subst h2
          have d2 : (nn == bn) = false := beq_eq_false_iff_ne.2 (fun e => hB ⟨rfl, e⟩)
          clear hB
          go_enter Tryz.func181, Tryz.ntmps181
          go_wp2_with fail
          refine bodyPost_ret (v := .tuple #[.agg #[.int .i64 0, .int .i64 0], .bool false]) (by simp [*, results, Tryz.results181, go_sem]) rfl ⟨by rw [HO.out]; rfl, ?_⟩
          go_grown
        · have d2 : (nl == bl) = false := beq_eq_false_iff_ne.2 h2
          clear hB h2
          go_enter Tryz.func181, Tryz.ntmps181
          go_wp2_with fail
          refine bodyPost_ret (v := .tuple #[.agg #[.int .i64 0, .int .i64 0], .bool false]) (by simp [*, results, Tryz.results181, go_sem]) rfl ⟨by rw [HO.out]; rfl, ?_⟩
          go_grown
      · have d1 : (nl == al) = false := beq_eq_false_iff_ne.2 h1
        clear hA h1
        by_cases h2 : nl = bl
        · subst h2
          have d2 : (nn == bn) = false := beq_eq_false_iff_ne.2 (fun e => hB ⟨rfl, e⟩)
          clear hB
          go_enter Tryz.func181, Tryz.ntmps181
          go_wp2_with fail
          refine bodyPost_ret (v := .tuple #[.agg #[.int .i64 0, .int .i64 0], .bool false]) (by simp [*, results, Tryz.results181, go_sem]) rfl ⟨by rw [HO.out]; rfl, ?_⟩
          go_grown
        · have d2 : (nl == bl) = false := beq_eq_false_iff_ne.2 h2
          clear hB h2
          go_enter Tryz.func181, Tryz.ntmps181
          go_wp2_with fail
          refine bodyPost_ret (v := .tuple #[.agg #[.int .i64 0, .int .i64 0], .bool false]) (by simp [*, results, Tryz.results181, go_sem]) rfl ⟨by rw [HO.out]; rfl, ?_⟩
          go_grown
theorem RangeAt.left {w : World} {r b : Nat} {es L : List (Int × Value)} (h : RangeAt w r b es L) : w.rangeLeft b r = L.length := by
  obtain ⟨ents, clock, since, seen, c0, h1, h2, h3, h4, h5, h6, h7, h8⟩ := h
  have := congrArg List.length h8
  simp only [World.rangeLeft, h1, h4]
  simpa using this
theorem eVal_inj {x y : Ed} (h : eVal x = eVal y) : x = y := by
  obtain ⟨a, b, c, d, e⟩ := x
  obtain ⟨a', b', c', d', e'⟩ := y
  simp [eVal] at h
  simp [h]
end Go.Proofs.YtlnpbfeihjfnjaaGreatDoor.Lab

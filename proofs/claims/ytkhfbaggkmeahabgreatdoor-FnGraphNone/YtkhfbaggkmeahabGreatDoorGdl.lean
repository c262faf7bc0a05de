/-
  GraphDo and OpLabel over graphs that lie somewhere: for the laws of operations.
-/
import Derived.Test.YtkhfbaggkmeahabGreatDoorGdq
import Derived.Test.YtkhfbaggkmeahabGreatDoorGlw
namespace Go.Proofs.YtkhfbaggkmeahabGreatDoor.Lab
open Go.RowKit
set_option linter.unusedVariables false
theorem grat_own {w : World} {base : Nat} {u1 u2 : Value} {ns : List Nd} {es : List Ed} (h : OwnGraph w base u1 u2 ns es) (hl : ns.length ≤ 100 ∧ es.length ≤ 100) : GrAt w u1 u2 ns es := ⟨h.nodes, h.edges, by omega, by omega⟩
theorem gdo_impl (v1 v2 : Value) (ns : List Nd) (es : List Ed) (k nl nn l al an bl bn : Int) (w : World) (h : GrAt w v1 v2 ns es) {aF aT aN aU : Addr} (hF : Four w aF aT aN aU) :
    Calls Tryz.prog 7 #[.agg #[v1, v2], .agg #[.int .i64 k, .int .i64 nl, .int .i64 nn, .int .i64 l, .int .i64 al, .int .i64 an, .int .i64 bl, .int .i64 bn]] w fun e w' => ∃ u1 u2, e = .returned (.tuple #[.agg #[u1, u2], .int .i64 (gdC ns es k nl nn l al an bl bn)]) ∧ GrAt w' u1 u2 (gdN ns es k nl nn l al an bl bn) (gdE ns es k nl nn l al an bl bn) ∧ Below w.heap.size w w' :=
  (impl_GraphDo v1 v2 ns es k nl nn l al an bl bn w h.1 h.2.1 h.lens.1 h.lens.2 aF aT aN aU hF).mono fun e w' ⟨u1, u2, h1, h2, h3⟩ => ⟨u1, u2, h1, grat_own h2 (gd_len ns es k nl nn l al an bl bn), h3⟩
theorem gdo_spec (v1 v2 : Value) (ns : List Nd) (es : List Ed) (k nl nn l al an bl bn : Int) (w : World) (h : GrAt w v1 v2 ns es) :
    Calls Tryz.prog 8 #[.agg #[v1, v2], .agg #[.int .i64 k, .int .i64 nl, .int .i64 nn, .int .i64 l, .int .i64 al, .int .i64 an, .int .i64 bl, .int .i64 bn]] w fun e w' => ∃ u1 u2, e = .returned (.tuple #[.agg #[u1, u2], .int .i64 (gdC ns es k nl nn l al an bl bn)]) ∧ GrAt w' u1 u2 (gdN ns es k nl nn l al an bl bn) (gdE ns es k nl nn l al an bl bn) ∧ Below w.heap.size w w' :=
  (spec_GraphDo v1 v2 ns es k nl nn l al an bl bn w h.1 h.2.1 h.lens.1 h.lens.2).mono fun e w' ⟨u1, u2, h1, h2, h3⟩ => ⟨u1, u2, h1, grat_own h2 (gd_len ns es k nl nn l al an bl bn), h3⟩
theorem eco_label {x y : Ed} (hx : edB x = true) (hy : edB y = true) (h : eco x < eco y) : x.1 ≤ y.1 := by
  rw [eco_eq hx, eco_eq hy] at h
  have a3 := cod_ok' (x := (x.2.1, x.2.2.1)) (edB_parts hx).1
  have a4 := cod_ok' (x := (x.2.2.2.1, x.2.2.2.2)) (edB_parts hx).2
  have b1 := codeI_bd y.2.1 y.2.2.1
  have b2 := codeI_bd y.2.2.2.1 y.2.2.2.2
  simp only [cod] at *
  omega
end Go.Proofs.YtkhfbaggkmeahabGreatDoor.Lab

/-
  How much a store holds, all its bytes together: szSegS again, told of the sum.
  Rows of parts of a store that are our own: kept, turned, apart.
  Arguments of the laws, opened: a node, an edge, an op, by value.
  A slice's reading, as a list.
-/
import Derived.Test.YtlnpbfeihjfnjabGreatDoorQSrd
import Derived.Test.YtlnpbfeihjfnjabGreatDoorQSeg
import Derived.Test.YtlnpbfeihjfnjabGreatDoorQSvw
import Derived.Test.YtlnpbfeihjfnjabGreatDoorQMrk
import Derived.Test.YtlnpbfeihjfnjabGreatDoorQBop
import Derived.Test.YtlnpbfeihjfnjabGreatDoorQIts
import Derived.Test.YtlnpbfeihjfnjabGreatDoorRows
import Derived.WalkKit
import Derived.ProofKit
import Derived.OpenShut
import Derived.Deep.Strs
import Derived.Deep.Slices
namespace Go.Proofs.YtlnpbfeihjfnjabGreatDoor.Lab
open Go.RowKit
set_option linter.unusedVariables false
theorem srO_len (xs : List (Int × List UInt8)) : (srN (srO xs)).length ≤ 40 ∧ (srE (srO xs)).length ≤ 56 := by
  cases h : srO xs with
  | none => exact ⟨by simp [srN], by simp [srE]⟩
  | some y =>
    obtain ⟨ns, es⟩ := y
    have hg := gokB_true.1 (srO_gok h)
    exact ⟨nodes_len hg.1, edges_len hg.2⟩
set_option maxHeartbeats 2000000 in
theorem szSegT_some (b off cap : Nat) (xs : List (Int × List UInt8)) (left : Int) (w : World) (h0 : 0 ≤ left) (h1 : left ≤ 1048576) (hl : (xs.length : Int) ≤ left) (hb : b < w.heap.size) (hsm : ∀ x ∈ xs, x.2.length ≤ 9223372036854775807)
    (hc : ∀ j x, xs[j]? = some x → ∀ i u, (encSeg x)[i]? = some u → w.cell? ⟨b, off + j * 2 + i, none⟩ = some u) :
    Calls Tryz.prog 14 #[.slice (some ⟨b, off, none⟩) xs.length cap, .int .i64 left] w fun e w' => (∃ r : Int, e = .returned (.int .i64 r) ∧ -1 ≤ r ∧ r ≤ left - xs.length ∧ (0 ≤ r → (xs.length : Int) + lenS xs + r ≤ left)) ∧ Below w.heap.size w w' := by
  have HC : Hid (∀ j x, xs[j]? = some x → ∀ i u, (encSeg x)[i]? = some u → w.cell? ⟨b, off + j * 2 + i, none⟩ = some u) := hc
  have HM : Hid (∀ x ∈ xs, x.2.length ≤ 9223372036854775807) := hsm
  clear hc hsm
  obtain ⟨n, hn⟩ : ∃ n, n = xs.length := ⟨_, rfl⟩
  have HN : Hid (n = xs.length) := hn
  rw [← hn] at hl ⊢
  clear hn
  go_enter Tryz.func14, Tryz.ntmps14
  go_wp2_with fail
  go_loopw [1, 5] (fun l i wr => ∃ k : Nat, ∃ r : Int, k ≤ n ∧ i = .int .i64 k ∧ l = .int .i64 r ∧ 0 ≤ r ∧ r ≤ left - n ∧ Below w.heap.size w wr ∧ (lenS (xs.take k) : Int) + r = left - n) (fun _ i _ => n - (intOf i).toNat)
  case atStart => exact ⟨0, left - n, by omega, rfl, rfl, by omega, by omega, Below.refl _ _, by simp [lenS]⟩
  case round =>
    obtain ⟨k, r, hk, rfl, rfl, hr0, hr1, hbel, hq⟩ := hrel
    have HQ : Hid ((lenS (xs.take k) : Int) + r = left - n) := hq
    clear hq
    by_cases hlt : k < n
    · obtain ⟨⟨m0, m1⟩, hx⟩ : ∃ x, xs[k]? = some x := ⟨_, List.getElem?_eq_getElem (by rw [← HN.out]; exact hlt)⟩
      have e0 : wr.cell? ⟨b, off + k * 2, none⟩ = some (.int .i64 m0) := by rw [hbel.cell (p := ⟨b, off + k * 2, none⟩) hb]; exact HC.out k _ hx 0 _ rfl
      have e1 : wr.cell? ⟨b, off + k * 2 + 1, none⟩ = some (.string ⟨m1.toArray⟩) := by rw [hbel.cell (p := ⟨b, off + k * 2 + 1, none⟩) hb]; exact HC.out k _ hx 1 _ rfl
      have HX : Hid (xs[k]? = some (m0, m1)) := hx
      have HL : Hid (m1.length ≤ 9223372036854775807) := HM.out _ (List.mem_of_getElem? hx)
      have HB : Hid (Below w.heap.size w wr) := hbel
      have k0 : (0 : Int) ≤ (k : Int) := by omega
      have k1 : (k : Int) < (n : Int) := by omega
      clear hx hbel
      by_cases hs : (m1.length : Int) ≤ r
      · go_wp2_with fail
        refine (szSeg m0 m1 r _ hr0 (by omega) HL.out).mono ?_
        rintro e w1 ⟨rfl, b1⟩
        rw [if_pos hs]
        have HB1 : Hid (Below w.heap.size w w1) := HB.out.trans (b1.mono HB.out.size)
        have r2 : 0 ≤ r - m1.length := by omega
        clear b1 HB
        go_wp2_with fail
        go_roundw
        case rel =>
          refine ⟨k + 1, r - m1.length, by omega, by go_num, rfl, by omega, by omega, HB1.out, ?_⟩
          rw [lenS_step HX.out]
          have := HQ.out
          simp only
          push_cast
          omega
        case measure => simp [intOf]; omega
      · go_wp2_with fail
        refine (szSeg m0 m1 r _ hr0 (by omega) HL.out).mono ?_
        rintro e w1 ⟨rfl, b1⟩
        rw [if_neg (by omega)]
        have HB1 : Hid (Below w.heap.size w w1) := HB.out.trans (b1.mono HB.out.size)
        clear b1 HB
        go_wp2_with fail
        go_ret
        exact ⟨⟨-1, rfl, by omega, by omega, fun h => by omega⟩, HB1.out⟩
    · have hkn : k = n := by omega
      subst hkn
      go_wp2_with fail
      go_ret
      refine ⟨⟨r, rfl, by omega, hr1, fun _ => ?_⟩, hbel⟩
      have h := HQ.out
      have hk := HN.out
      rw [HN.out, List.take_length] at h
      omega
theorem szSegT (v : Value) (xs : List (Int × List UInt8)) (left : Int) (w : World) (h : RowAt 2 encSeg w v xs) (h0 : 0 ≤ left) (h1 : left ≤ 1048576) (hn : xs.length ≤ 9223372036854775807) (hsm : ∀ x ∈ xs, x.2.length ≤ 9223372036854775807) :
    Calls Tryz.prog 14 #[v, .int .i64 left] w fun e w' => (∃ r : Int, e = .returned (.int .i64 r) ∧ -1 ≤ r ∧ r ≤ left ∧ (0 ≤ r → (xs.length : Int) + lenS xs + r ≤ left)) ∧ Below w.heap.size w w' := by
  obtain ⟨a, cap, hv⟩ := h.len
  by_cases hl : left < (xs.length : Int)
  · subst hv
    exact (szSegS_none a _ cap left w h0 h1 hn hl).mono (fun e w' h => ⟨⟨-1, h.1, by omega, by omega, fun h => by omega⟩, by rw [h.2]; exact Below.refl _ _⟩)
  · rcases h with ⟨rfl, a1, c1, rfl⟩ | ⟨p1, b1, o1, c1, rfl, l1, e1⟩
    · exact (szSegS_zero a1 c1 left w h0 h1).mono (fun e w' h => ⟨⟨left, h.1, by omega, by omega, fun _ => by simp [lenS]⟩, by rw [h.2]; exact Below.refl _ _⟩)
    · exact (szSegT_some b1 o1 c1 xs left w h0 h1 (by omega) l1 hsm e1).mono (fun e w' ⟨⟨r, h1, h2, h3, h4⟩, hb⟩ => ⟨⟨r, h1, h2, by omega, fun hr => h4 hr⟩, hb⟩)
end Go.Proofs.YtlnpbfeihjfnjabGreatDoor.Lab
namespace Go.Proofs.YtlnpbfeihjfnjabGreatDoor.Lab
open Go.RowKit
set_option linter.unusedVariables false
def OwnSeg (w : World) (B : Nat) (v : Value) (xs : List (Int × List UInt8)) : Prop := w.ownsRow B 52 2 v xs.length (xs.flatMap encSeg)
theorem OwnSeg.keep {w w' : World} {B : Nat} {v : Value} {xs : List (Int × List UInt8)} (h : OwnSeg w B v xs) (hb : Below w.heap.size w w') : OwnSeg w' B v xs := own_keep h hb
theorem OwnSeg.row {w : World} {B : Nat} {v : Value} {xs : List (Int × List UInt8)} (h : OwnSeg w B v xs) : RowAt 2 encSeg w v xs := row_of_own encSeg_len (by decide) h
theorem OwnSeg.lt {w : World} {B : Nat} {v : Value} {xs : List (Int × List UInt8)} (h : OwnSeg w B v xs) : ∀ k, v.ownBlock = some k → B ≤ k ∧ k < w.heap.size := World.ownsRow.lt h
theorem OwnSeg.but {p : Nat → Prop} {w w' : World} {B : Nat} {v : Value} {xs : List (Int × List UInt8)} (h : OwnSeg w B v xs) (hb : But p w w') (hne : ∀ k, v.ownBlock = some k → ¬ p k) : OwnSeg w' B v xs := hb.own h hne
theorem But.one {w w' : World} {r : Option Nat} (h : w.grownBy w' r) : But (fun g => r = some g) w w' :=
  ⟨h.os, h.tape, h.output, h.size, fun k hk hp => h.block k hk (fun e => hp e.symm)⟩
theorem eqSeg_same (v1 v2 : Value) (xs : List (Int × List UInt8)) (w : World) (h1 : RowAt 2 encSeg w v1 xs) (h2 : RowAt 2 encSeg w v2 xs) (hb : xs.length ≤ 1048576) :
    Calls Tryz.prog 9 #[v1, v2] w fun e w' => e = .returned (.bool true) ∧ Below w.heap.size w w' := by
  have C := eqSegS v1 v2 xs xs w h1 h2 hb hb
  rw [eqB_true.2 rfl] at C
  exact C
end Go.Proofs.YtlnpbfeihjfnjabGreatDoor.Lab
namespace Go.Proofs.YtlnpbfeihjfnjabGreatDoor.Lab
open Go.RowKit Go.ChangeShapes Go.WideShapes
set_option linter.unusedVariables false
theorem in_of_wf {a : Int} (h : (Lit.int .i64 a).wf = true) : i64In a := by
  have := Go.bounds_i64 h
  exact ⟨by omega, by omega⟩
theorem Tryz.cellsInt : Tryz.prog.cellsOf 3 = 1 := by kernel_rfl
theorem Tryz.cellsNode : Tryz.prog.cellsOf 77 = 2 := by kernel_rfl
set_option maxRecDepth 20000 in
/-- A node's two cells, out of its reading. -/
theorem node_cells {H : Type} {enc : TypeId × Value → H} {W : World} {sp : Nat → Bool} {held : Bool} {fuel : Nat} {c0 c1 : Value} {x : DataW H × List MemPlace} (h : DataW.trod enc Tryz.prog W 0 sp held fuel 77 [c0, c1] = some x) :
    ∃ l n, c0 = .int .i64 l ∧ c1 = .int .i64 n ∧ i64In l ∧ i64In n := by
  obtain ⟨y0, y1, m, hx, _, hy0, hy1⟩ := trod_struct2 Tryz.underlying77 h
  obtain ⟨l, e0, _, wl⟩ := DataW.trod_int Tryz.underlying3 hy0
  obtain ⟨n, e1, _, wn⟩ := DataW.trod_int Tryz.underlying3 hy1
  simp [Tryz.cellsInt] at e0 e1
  exact ⟨l, n, e0, e1, in_of_wf wl, in_of_wf wn⟩
set_option maxRecDepth 20000 in
theorem open_node {H : Type} {enc : TypeId × Value → H} {W : World} {r : Reach} {base : Nat} {sp : Nat → Bool} {v : Value} {d : DataW H} {ps : List MemPlace} (hval : Value.okWide Tryz.prog W r base 77 v)
    (h : DataW.Trod enc Tryz.prog W 0 sp true 77 v d ps) : ∃ l n, v = .agg #[.int .i64 l, .int .i64 n] ∧ i64In l ∧ i64In n := by
  obtain ⟨cs, rfl, hsz⟩ := okWide_struct Tryz.underlying77 hval
  rw [Tryz.cellsNode] at hsz
  obtain ⟨k⟩ := cs
  match k, hsz with
  | [c0, c1], _ =>
    obtain ⟨fuel, hf⟩ := h
    obtain ⟨l, n, rfl, rfl, h1, h2⟩ := node_cells hf
    exact ⟨l, n, rfl, h1, h2⟩
theorem Tryz.cellsEdge : Tryz.prog.cellsOf 80 = 5 := by kernel_rfl
set_option maxRecDepth 20000 in
/-- An edge's five cells, out of its reading. -/
theorem edge_cells {H : Type} {enc : TypeId × Value → H} {W : World} {sp : Nat → Bool} {held : Bool} {fuel : Nat} {c0 c1 c2 c3 c4 : Value} {x : DataW H × List MemPlace} (h : DataW.trod enc Tryz.prog W 0 sp held fuel 80 [c0, c1, c2, c3, c4] = some x) :
    ∃ l al an bl bn, c0 = .int .i64 l ∧ c1 = .int .i64 al ∧ c2 = .int .i64 an ∧ c3 = .int .i64 bl ∧ c4 = .int .i64 bn ∧ i64In l ∧ (i64In al ∧ i64In an) ∧ i64In bl ∧ i64In bn := by
  obtain ⟨y0, y1, y2, m, hx, _, hy0, hy1, hy2⟩ := Go.Deep.trod_struct3 Tryz.underlying80 h
  obtain ⟨l, e0, _, wl⟩ := DataW.trod_int Tryz.underlying3 hy0
  simp [Tryz.cellsInt, Tryz.cellsNode] at e0 hy1 hy2
  obtain ⟨al, an, e1, e2, a1, a2⟩ := node_cells hy1
  obtain ⟨bl, bn, e3, e4, b1, b2⟩ := node_cells hy2
  exact ⟨l, al, an, bl, bn, e0, e1, e2, e3, e4, in_of_wf wl, ⟨a1, a2⟩, b1, b2⟩
set_option maxRecDepth 20000 in
theorem open_edge {H : Type} {enc : TypeId × Value → H} {W : World} {r : Reach} {base : Nat} {sp : Nat → Bool} {v : Value} {d : DataW H} {ps : List MemPlace} (hval : Value.okWide Tryz.prog W r base 80 v)
    (h : DataW.Trod enc Tryz.prog W 0 sp true 80 v d ps) : ∃ l al an bl bn, v = .agg #[.int .i64 l, .int .i64 al, .int .i64 an, .int .i64 bl, .int .i64 bn] ∧ i64In l ∧ (i64In al ∧ i64In an) ∧ i64In bl ∧ i64In bn := by
  obtain ⟨cs, rfl, hsz⟩ := okWide_struct Tryz.underlying80 hval
  rw [Tryz.cellsEdge] at hsz
  obtain ⟨k⟩ := cs
  match k, hsz with
  | [c0, c1, c2, c3, c4], _ =>
    obtain ⟨fuel, hf⟩ := h
    obtain ⟨l, al, an, bl, bn, rfl, rfl, rfl, rfl, rfl, h1⟩ := edge_cells hf
    exact ⟨l, al, an, bl, bn, rfl, h1⟩
end Go.Proofs.YtlnpbfeihjfnjabGreatDoor.Lab
namespace Go.Proofs.YtlnpbfeihjfnjabGreatDoor.Lab
open Go.RowKit Go.ChangeShapes Go.WideShapes
set_option linter.unusedVariables false
theorem cellLt {w : World} {p : Addr} {v : Value} (h : w.cell? p = some v) : p.block < w.heap.size := by
  rcases Nat.lt_or_ge p.block w.heap.size with h' | h'
  · exact h'
  · simp [World.cell?, Array.getElem?_eq_none h'] at h
theorem addr_at (b off k : Nat) : (⟨b, off, none⟩ : Addr).add k = ⟨b, off + k, none⟩ := by
  unfold Addr.add
  split <;> simp_all
/-- A slice's reading, as a list. -/
theorem row_of_reading {α : Type} {s : Nat} {e2 : α → List Value} {good : α → Prop} {H : Type} {enc : TypeId × Value → H} {P : Program} {W : World} {sp : Nat → Bool} {held : Bool} {t e : TypeId} {fuel : Nat} {cs : List Value} {x : DataW H × List MemPlace} (hs : 0 < s)
    (ht : P.underlying t = some (.slice e)) (ce : P.cellsOf e = s) (hone : ∀ n cs' y, cs'.length = s → DataW.trod enc P W 0 sp held n e cs' = some y → ∃ z : α, cs' = e2 z ∧ good z)
    (h : DataW.trod enc P W 0 sp held fuel t cs = some x) : ∃ v ys, cs = [v] ∧ RowAt s e2 W v ys ∧ (∀ y ∈ ys, good y) ∧ ys.length ≤ maxLen := by
  rcases Go.Deep.open_slice ht h with ⟨h0, _⟩ | ⟨a, len, cap, m, n, D, Pl, rfl, hb, hl, hm, hmm, rfl, hx⟩
  · exact ⟨_, [], h0, .inl ⟨rfl, _, _, rfl⟩, by simp, by simp [maxLen]⟩
  · have hlm : len ≤ m := by rw [hmm]; split <;> omega
    have each : ∀ i : Fin len, ∃ z : α, good z ∧ ∀ k u, (e2 z)[k]? = some u → W.cell? (a.add (i.val * s + k)) = some u := by
      intro i
      obtain ⟨cs', h1, h2⟩ := hx i.val (by have := i.isLt; omega)
      rw [ce] at h1
      obtain ⟨_, hlen, hcell⟩ := World.cells?_some h1
      obtain ⟨z, rfl, hg⟩ := hone n cs' _ hlen h2
      refine ⟨z, hg, fun k u hu => ?_⟩
      have hk : k < s := by
        obtain ⟨h3, _⟩ := List.getElem?_eq_some_iff.1 hu
        omega
      have := hcell k hk
      rw [hu] at this
      rw [Go.Deep.add_add] at this; exact this
    obtain ⟨f, hf⟩ := Classical.axiomOfChoice each
    refine ⟨_, List.ofFn f, rfl, ?_, fun y hy => ?_, by simp; omega⟩
    · by_cases h0 : len = 0
      · subst h0; exact .inl ⟨by simp, _, _, rfl⟩
      · obtain ⟨b, off, spot⟩ := a
        obtain ⟨cs', h1, h2⟩ := hx 0 (by omega)
        rw [ce] at h1
        obtain ⟨_, hlen, hcell⟩ := World.cells?_some h1
        have hc0 := hcell 0 hs
        have hlt0 : 0 < cs'.length := by omega
        rw [List.getElem?_eq_getElem hlt0] at hc0
        have hspot : spot = none := by simpa [Addr.add] using World.cell?_spot hc0
        subst hspot
        have hbl : b < W.heap.size := by simpa [Addr.add] using cellLt hc0
        refine .inr ⟨by simp; omega, b, off, cap, by simp, hbl, fun j y hy i u hu => ?_⟩
        rw [List.getElem?_ofFn] at hy
        split at hy
        · cases hy
          have := (hf ⟨j, by assumption⟩).2 i u hu
          rw [addr_at] at this
          rw [Nat.add_assoc]; exact this
        · cases hy
    · rw [List.mem_ofFn] at hy
      obtain ⟨i, rfl⟩ := hy
      exact (hf i).1
end Go.Proofs.YtlnpbfeihjfnjabGreatDoor.Lab

/-
  What is seen of a graph: impl.GraphView and spec.GraphView. (Written by tools/mkvie.py.)
-/
import Derived.Test.YtlnpbfeihjfnjaaGreatDoorMrk
import Derived.Test.YtlnpbfeihjfnjaaGreatDoorGki
import Derived.Deep.AppendLies
import Derived.Deep.RegionHeld3
import Derived.Deep.RegionLaw
import Derived.Deep.DrawnRows
namespace Go.Proofs.YtlnpbfeihjfnjaaGreatDoor.Lab
open Go.RowKit Go.ChangeMaps
set_option linter.unusedVariables false
attribute [local go_sem ↓] Go.wp_at_zero Go.wp_at_succ
/-- The nodes, the edges that one sees. -/
def viewN (c : Int) (ns : List Nd) : List Nd := ns.filter (fun x => underB x.1 c)
def viewE (c : Int) (es : List Ed) : List Ed := es.filter (fun x => underB x.1 c)
noncomputable def seenN (c : Int) (ns : List Nd) (es : List Ed) : List Nd := if gokB ns es then viewN c ns else []
noncomputable def seenE (c : Int) (ns : List Nd) (es : List Ed) : List Ed := if gokB ns es then viewE c es else []
theorem viewN_le (c : Int) (xs : List Nd) : (viewN c xs).length ≤ xs.length := List.length_filter_le _ _
theorem viewN_in {c : Int} {xs : List Nd} {k : Nat} {x : Nd} (h : xs[k]? = some x) (hu : underB x.1 c = true) : viewN c (xs.take (k + 1)) = viewN c (xs.take k) ++ [x] := by
  unfold viewN
  rw [List.take_add_one, h, List.filter_append]
  simp [hu]
theorem viewN_out {c : Int} {xs : List Nd} {k : Nat} {x : Nd} (h : xs[k]? = some x) (hu : underB x.1 c = false) : viewN c (xs.take (k + 1)) = viewN c (xs.take k) := by
  unfold viewN
  rw [List.take_add_one, h, List.filter_append]
  simp [hu]
/-- One more has been appended to a row that is kept in a struct. -/
theorem appNode {c : Int} {xs : List Nd} {k : Nat} {x : Nd} {w1 : World} {base : Nat} {v' : Value} (h : xs[k]? = some x) (hu : underB x.1 c = true)
    (ho : w1.ownsRow base 46 2 v' ((viewN c (xs.take k)).length + 1) ((viewN c (xs.take k)).flatMap encNode ++ encNode x)) : w1.ownsRow base 46 2 v' (viewN c (xs.take (k + 1))).length ((viewN c (xs.take (k + 1))).flatMap encNode) := by
  rw [viewN_in h hu]
  simpa [List.flatMap_append] using ho
theorem viewE_le (c : Int) (xs : List Ed) : (viewE c xs).length ≤ xs.length := List.length_filter_le _ _
theorem viewE_in {c : Int} {xs : List Ed} {k : Nat} {x : Ed} (h : xs[k]? = some x) (hu : underB x.1 c = true) : viewE c (xs.take (k + 1)) = viewE c (xs.take k) ++ [x] := by
  unfold viewE
  rw [List.take_add_one, h, List.filter_append]
  simp [hu]
theorem viewE_out {c : Int} {xs : List Ed} {k : Nat} {x : Ed} (h : xs[k]? = some x) (hu : underB x.1 c = false) : viewE c (xs.take (k + 1)) = viewE c (xs.take k) := by
  unfold viewE
  rw [List.take_add_one, h, List.filter_append]
  simp [hu]
/-- One more has been appended to a row that is kept in a struct. -/
theorem appEdge {c : Int} {xs : List Ed} {k : Nat} {x : Ed} {w1 : World} {base : Nat} {v' : Value} (h : xs[k]? = some x) (hu : underB x.1 c = true)
    (ho : w1.ownsRow base 48 5 v' ((viewE c (xs.take k)).length + 1) ((viewE c (xs.take k)).flatMap encEdge ++ encEdge x)) : w1.ownsRow base 48 5 v' (viewE c (xs.take (k + 1))).length ((viewE c (xs.take (k + 1))).flatMap encEdge) := by
  rw [viewE_in h hu]
  simpa [List.flatMap_append] using ho
theorem seen_len1 (c : Int) (ns : List Nd) (es : List Ed) : (seenN c ns es).length ≤ ns.length := by
  unfold seenN; split
  · exact viewN_le _ _
  · simp
theorem seen_len2 (c : Int) (ns : List Nd) (es : List Ed) : (seenE c ns es).length ≤ es.length := by
  unfold seenE; split
  · exact viewE_le _ _
  · simp
theorem new_at {w : World} {o : Obj} {S : Nat} (h : S = w.heap.size) : (w.alloc o).heap[S]? = some o := by subst h; exact new_block w o
/-- A block that another row's growing leaves as it is. -/
theorem grown_blk {w w' : World} {r : Option Nat} {S : Nat} (h : w.grownBy w' r) (hS : S < w.heap.size) (hne : r ≠ some S) : w'.heap[S]? = w.heap[S]? := h.block S hS (fun e => hne e.symm)
/-- A row that is kept in a cell of a struct has grown, and the new row has been stored there. -/
theorem app_step {base S j e size tg : Nat} {W0 wr w1 w3 : World} {v v' : Value} {cur : Array Value} {n : Nat} {xs : List Value} (hB : Below base W0 wr) (hb1 : Below wr.heap.size wr w1) (hbs : base ≤ wr.heap.size) (hblk : wr.heap[S]? = some (.cells cur tg (0, 0))) (hlow : ∀ g, v.ownBlock = some g → base ≤ g) (hS : base ≤ S) (hap : v.ownBlock ≠ some S) (hgrow : w1.grownBy w3 v.ownBlock) (hown : w3.ownsRow base e size v' n xs) (hap' : v'.ownBlock ≠ some S) :
    Below base W0 (w3.setCell ⟨S, j, none⟩ v') ∧ (w3.setCell ⟨S, j, none⟩ v').heap[S]? = some (.cells (cur.setIfInBounds j v') tg (0, 0)) ∧ (w3.setCell ⟨S, j, none⟩ v').ownsRow base e size v' n xs ∧ ∀ k, k < wr.heap.size → v.ownBlock ≠ some k → k ≠ S → (w3.setCell ⟨S, j, none⟩ v').heap[k]? = wr.heap[k]? := by
  have h1 := hb1.size
  have keep : ∀ k, k < wr.heap.size → v.ownBlock ≠ some k → w3.heap[k]? = wr.heap[k]? := fun k hk hne => (grown_blk hgrow (by omega) hne).trans (hb1.block k hk)
  refine ⟨((hB.trans (hb1.mono hbs)).grown hgrow (by omega) (fun g hg => hlow g hg)).setCell hS _, set_block _ ((keep S (lt_of_block hblk) hap).trans hblk), own_set hown hap' _, fun k hk hne hkS => ?_⟩
  rw [Below.heap_setCell _ _ _ _ hkS]
  exact keep k hk hne
theorem viewN_bad {c : Int} (h : okB c = false) (ns : List Nd) : viewN c ns = [] := by simp [viewN, underB, h]
theorem viewE_bad {c : Int} (h : okB c = false) (es : List Ed) : viewE c es = [] := by simp [viewE, underB, h]
set_option maxRecDepth 8000 in
set_option maxHeartbeats 8000000 in
theorem impl_GraphView_walk (a1 a2 : Option Addr) (n m c1 c2 : Nat) (c : Int) (ns : List Nd) (es : List Ed) (w : World) (h1 : RowAt 2 encNode w (.slice a1 n c1) ns) (h2 : RowAt 5 encEdge w (.slice a2 m c2) es) (hN : n = ns.length) (hM : m = es.length) (hn : n ≤ 1048576) (hm : m ≤ 1048576) (hE : Errs w) :
    Calls Tryz.prog 26 #[.agg #[.slice a1 n c1, .slice a2 m c2], .int .i64 c] w fun e w' => ∃ u1 u2, e = .returned (.agg #[u1, u2]) ∧ OwnGraph w' w.heap.size u1 u2 (seenN c ns es) (seenE c ns es) ∧ Below w.heap.size w w' := by
  have H1 : Hid (RowAt 2 encNode w (.slice a1 n c1) ns) := h1
  have H2 : Hid (RowAt 5 encEdge w (.slice a2 m c2) es) := h2
  have HN0 : Hid (n = ns.length) := hN
  have HN1 : Hid (m = es.length) := hM
  have HE : Hid (Errs w) := hE
  clear h1 h2 hN hM hE
  obtain ⟨iN, jN, zN0, zN1, zN2⟩ := info_parts Tryz.infoNode
  obtain ⟨iE, jE, zE0, zE1, zE2⟩ := info_parts Tryz.infoEdge
  have b0 : Hid (∀ o1 o2, Below w.heap.size w ((w.alloc o1).alloc o2)) := fun o1 o2 => by go_grown
  go_enter Tryz.func26, Tryz.ntmps26
  go_wp2_with fail
  refine (impl_GraphOk _ _ ns es _ (H1.out.keep (b0.out _ _)) (H2.out.keep (b0.out _ _)) (by rw [← HN0.out]; exact hn) (by rw [← HN1.out]; exact hm) (HE.out.keep (b0.out _ _))).mono ?_
  rintro e w1 ⟨rfl, bel⟩
  have B1 : Below w.heap.size w w1 := (b0.out _ _).trans (bel.mono (by simp; omega))
  have g0 : w1.cell? ⟨w.heap.size, 0, none⟩ = some (.slice a1 n c1) := by rw [Below.celz bel _ _ _ (by simp; omega)]; simp [go_sem]
  have g1 : w1.cell? ⟨w.heap.size, 1, none⟩ = some (.slice a2 m c2) := by rw [Below.celz bel _ _ _ (by simp; omega)]; simp [go_sem]
  have q0 : w1.cell? ⟨w.heap.size + 1, 0, none⟩ = some (.slice none 0 0) := by rw [Below.celz bel _ _ _ (by simp)]; simp [go_sem]
  have q1 : w1.cell? ⟨w.heap.size + 1, 1, none⟩ = some (.slice none 0 0) := by rw [Below.celz bel _ _ _ (by simp)]; simp [go_sem]
  have qf : ∀ o, w1.frozen? ⟨w.heap.size + 1, o, none⟩ = false := fun o => by rw [Below.froz bel _ _ _ (by simp)]; simp [go_sem]
  have s1 : w.heap.size + 2 ≤ w1.heap.size := by have := bel.size; simp at this; omega
  clear bel
  cases hg : gokB ns es
  · have HS : Hid (seenN c ns es = [] ∧ seenE c ns es = []) := ⟨by simp [seenN, hg], by simp [seenE, hg]⟩
    have HB1 : Hid (Below w.heap.size w w1) := B1
    clear B1
    go_wp2_with fail
    refine bodyPost_ret (v := .agg #[.slice none 0 0, .slice none 0 0]) (by simp [*, results, Tryz.results26, go_sem]) rfl ?_
    refine ⟨_, _, rfl, ?_, (HB1.out.setCell (by simp) _).setCell (by simp) _⟩
    rw [HS.out.1, HS.out.2]
    exact ⟨World.ownsRow_nil _ _ _ _, World.ownsRow_nil _ _ _ _, fun k hk => by simp [Value.ownBlock] at hk⟩
  · have HG : Hid (seenN c ns es = viewN c ns ∧ seenE c ns es = viewE c es) := ⟨by simp [seenN, hg], by simp [seenE, hg]⟩
    clear hg
    obtain ⟨S, hS⟩ : ∃ S, S = w1.heap.size := ⟨_, rfl⟩
    obtain ⟨W0, hW0⟩ : ∃ W0, W0 = w1.alloc (.cells #[.slice none 0 0, .slice none 0 0] 26) := ⟨_, rfl⟩
    have k0 : Below S w1 W0 := by rw [hW0, hS]; exact (Below.refl _ _).alloc (Nat.le_refl _) _
    have z0 : W0.heap.size = S + 1 := by rw [hW0, hS]; simp
    have t0 : W0.heap[S]? = some (.cells #[.slice none 0 0, .slice none 0 0] 26 (0, 0)) := by rw [hW0, hS]; exact new_block _ _
    have G0 : W0.cell? ⟨w.heap.size, 0, none⟩ = some (.slice a1 n c1) := by rw [Below.celz k0 _ _ _ (by omega)]; exact g0
    have G1 : W0.cell? ⟨w.heap.size, 1, none⟩ = some (.slice a2 m c2) := by rw [Below.celz k0 _ _ _ (by omega)]; exact g1
    have Q0 : W0.cell? ⟨w.heap.size + 1, 0, none⟩ = some (.slice none 0 0) := by rw [Below.celz k0 _ _ _ (by omega)]; exact q0
    have Q1 : W0.cell? ⟨w.heap.size + 1, 1, none⟩ = some (.slice none 0 0) := by rw [Below.celz k0 _ _ _ (by omega)]; exact q1
    have QF : ∀ o, W0.frozen? ⟨w.heap.size + 1, o, none⟩ = false := fun o => by rw [Below.froz k0 _ _ _ (by omega)]; exact qf o
    have BW : Hid (Below w.heap.size w W0) := B1.trans (k0.mono (by omega))
    have HS : Hid (S = w1.heap.size) := hS
    have HW0 : Hid (W0 = w1.alloc (.cells #[.slice none 0 0, .slice none 0 0] 26)) := hW0
    have x0 : w.heap.size < w1.heap.size := by omega
    have x1 : w.heap.size + 1 < w1.heap.size := by omega
    clear hS hW0 k0 B1
    go_wp2_with fail
    rw [← HW0.out, ← HS.out]
    have s2 : w.heap.size + 2 ≤ S := by rw [HS.out]; exact s1
    clear HW0 q0 q1 qf g0 g1 HS s1 x0 x1
    go_loopw [17] (fun i wr => ∃ (k : Nat) (v : Value), k ≤ n ∧ i = .int .i64 k ∧ Below S W0 wr ∧ wr.heap[S]? = some (.cells #[v, .slice none 0 0] 26 (0, 0)) ∧ wr.ownsRow (S + 1) 46 2 v (viewN c (ns.take k)).length ((viewN c (ns.take k)).flatMap encNode)) (fun i _ => n - (intOf i).toNat)
    case atStart => exact ⟨0, _, by omega, rfl, Below.refl _ _, t0, World.ownsRow_nil _ _ _ _⟩
    case round =>
      obtain ⟨k, v, hk, rfl, hbel, hblk, hown⟩ := hrel
      have hsz := hbel.size
      by_cases hlt : k < n
      · rcases H1.out with ⟨hz, _⟩ | ⟨_, b1, o1, q1, hv1, hb1, E1⟩
        · rw [hz] at HN0; have := HN0.out; simp at this; omega
        obtain rfl : a1 = some ⟨b1, o1, none⟩ := by injection hv1
        obtain ⟨⟨m0, m1⟩, hx⟩ : ∃ x, ns[k]? = some x := ⟨_, List.getElem?_eq_getElem (by rw [← HN0.out]; exact hlt)⟩
        have e0 : wr.cell? ⟨b1, o1 + k * 2, none⟩ = some (.int .i64 m0) := by rw [Below.celz hbel _ _ _ (by omega), Below.celz BW.out _ _ _ hb1]; exact E1 k _ hx 0 _ rfl
        have e1 : wr.cell? ⟨b1, o1 + k * 2 + 1, none⟩ = some (.int .i64 m1) := by rw [Below.celz hbel _ _ _ (by omega), Below.celz BW.out _ _ _ hb1]; exact E1 k _ hx 1 _ rfl
        have hle : (viewN c (ns.take k)).length ≤ k := Nat.le_trans (viewN_le _ _) (by simp; omega)
        have z2 : b1 < wr.heap.size := by omega
        have z3 : S < wr.heap.size := by omega
        have k0 : (0 : Int) ≤ (k : Int) := by omega
        have k1 : (k : Int) < (n : Int) := by omega
        have HX : Hid (ns[k]? = some (m0, m1)) := hx
        have HB : Hid (Below S W0 wr) := hbel
        clear hx hbel E1 hv1
        cases hu : underB m0 c
        · have HV : Hid (viewN c (ns.take (k + 1)) = viewN c (ns.take k)) := viewN_out HX.out hu
          have HO : Hid (wr.heap[S]? = some (.cells #[v, .slice none 0 0] 26 (0, 0)) ∧ wr.ownsRow (S + 1) 46 2 v (viewN c (ns.take k)).length ((viewN c (ns.take k)).flatMap encNode)) := ⟨hblk, hown⟩
          clear hblk hown
          have lu := impl_LabelUnder m0 c
          rw [hu] at lu
          have LU : Hid (∀ w, Calls Tryz.prog 31 #[.int .i64 m0, .int .i64 c] w fun e w' => e = .returned (.bool false) ∧ w' = w) := lu
          clear lu
          go_wp2_with (go_at_call 31; refine use (LU.out _) ?_)
          go_roundw
          case rel =>
            have bb : ∀ o, Below wr.heap.size wr (wr.alloc o) := fun o => (Below.refl _ _).alloc (Nat.le_refl _) _
            refine ⟨k + 1, v, by omega, by go_num, HB.out.trans ((bb _).mono (by omega)), by rw [(bb _).block S z3]; exact HO.out.1, by rw [HV.out]; exact own_keep HO.out.2 (bb _)⟩
          case measure => simp [intOf]; omega
        · have lu := impl_LabelUnder m0 c
          rw [hu] at lu
          have LU : Hid (∀ w, Calls Tryz.prog 31 #[.int .i64 m0, .int .i64 c] w fun e w' => e = .returned (.bool true) ∧ w' = w) := lu
          clear lu
          have g2 : wr.cell? ⟨S, 0, none⟩ = some v := by rw [cell_block hblk]; rfl
          have hf : wr.frozen? ⟨S, 0, none⟩ = false := free_block hblk
          have HK : Hid (wr.heap[S]? = some (.cells #[v, .slice none 0 0] 26 (0, 0))) := hblk
          obtain ⟨xa, xc, rfl⟩ := own_form hown
          have lt0 := fun g hg => (hown.lt g hg).1
          have LT : Hid (∀ g, (Value.slice xa (viewN c (ns.take k)).length xc).ownBlock = some g → S + 1 ≤ g) := lt0
          clear hblk lt0
          go_wp2_with (first
            | (go_at_call 31; refine use (LU.out _) ?_)
            | (at_builtin; refine wpList_append_own _ rfl _ _ 23 rfl (S + 1) 46 iN _ 2 16 Tryz.underlying23 jN zN0 zN1 zN2 rfl (by decide) _ _ _ rfl ((hown.alloc _).alloc _) ⟨wr.heap.size + 1, 0, none⟩ 1 1 [.int .i64 m0, .int .i64 m1] rfl rfl ?c1 ?c2 ?c3 ?c4 ?c5 ?_))
          case c1 =>
            intro j u hj
            match j, hj with
            | 0, hj => simp at hj; subst hj; simp [Addr.add]
            | 1, hj => simp at hj; subst hj; simp [Addr.add]
          case c2 => intro u hu; simp at hu; rcases hu with rfl | rfl <;> rfl
          case c3 => unfold maxLen; omega
          case c4 => omega
          case c5 => simp; omega
          · intro v' w3 hown' hgrow _
            have blk3 : w3.heap[S]? = some (.cells #[.slice xa (viewN c (ns.take k)).length xc, .slice none 0 0] 26 (0, 0)) := by
              rw [grown_blk hgrow (by simp; omega) (fun h => by have := LT.out _ h; omega), Below.heap_alloc _ _ _ (by simp; omega), Below.heap_alloc _ _ _ z3]; exact HK.out
            have bel3 : Below S W0 w3 := ((HB.out.alloc (by omega) _).alloc (by simp; omega) _).grown hgrow (by simp; omega) (fun g hg => by have := LT.out g hg; omega)
            have own3 := appNode HX.out hu hown'
            obtain ⟨ya, yc, rfl⟩ := own_form hown'
            have g3 : w3.cell? ⟨S, 0, none⟩ = some (.slice xa (viewN c (ns.take k)).length xc) := by rw [cell_block blk3]; rfl
            have f3 : w3.frozen? ⟨S, 0, none⟩ = false := free_block blk3
            have R : Hid (Below S W0 (w3.setCell ⟨S, 0, none⟩ (.slice ya ((viewN c (ns.take k)).length + 1) yc)) ∧ (w3.setCell ⟨S, 0, none⟩ (.slice ya ((viewN c (ns.take k)).length + 1) yc)).heap[S]? = some (.cells #[.slice ya ((viewN c (ns.take k)).length + 1) yc, .slice none 0 0] 26 (0, 0)) ∧ (w3.setCell ⟨S, 0, none⟩ (.slice ya ((viewN c (ns.take k)).length + 1) yc)).ownsRow (S + 1) 46 2 (.slice ya ((viewN c (ns.take k)).length + 1) yc) (viewN c (ns.take (k + 1))).length ((viewN c (ns.take (k + 1))).flatMap encNode)) :=
              ⟨bel3.setCell (by simp) _, set_block _ blk3, ownsRow_setCell_below own3 (by simp) _⟩
            have z4 : S < w3.heap.size := lt_of_block blk3
            clear hown' hgrow hown blk3 bel3 own3 g2 hf e0 e1
            go_wp2_with fail
            go_roundw
            case rel => exact ⟨k + 1, _, by omega, by go_num, R.out⟩
            case measure => simp [intOf]; omega
      · have hkn : n = k := by omega
        subst hkn
        obtain ⟨xa, xc, rfl⟩ := own_form hown
        have HV1 : Hid (viewN c (ns.take n) = viewN c ns) := by show viewN c (ns.take n) = viewN c ns; rw [HN0.out, List.take_length]
        generalize hp : (viewN c (ns.take n)).length = p1 at *
        have HP1 : Hid ((viewN c (ns.take n)).length = p1) := hp
        clear hp
        have g2 : wr.cell? ⟨w.heap.size, 1, none⟩ = some (.slice a2 m c2) := by rw [Below.celz hbel _ _ _ (by omega)]; exact G1
        have z3 : w.heap.size < wr.heap.size := by omega
        have HA : Hid (Below S W0 wr ∧ wr.heap[S]? = some (.cells #[.slice xa p1 xc, .slice none 0 0] 26 (0, 0)) ∧ wr.ownsRow (S + 1) 46 2 (.slice xa p1 xc) p1 ((viewN c (ns.take n)).flatMap encNode)) := ⟨hbel, hblk, hown⟩
        obtain ⟨B, hB⟩ : ∃ B, B = wr.heap.size := ⟨_, rfl⟩
        have HBB : Hid (B = wr.heap.size) := hB
        have hSB : Hid (S + 1 ≤ B) := by show S + 1 ≤ B; rw [hB]; exact lt_of_block hblk
        clear hbel hblk hown hB t0
        go_wp2_with fail
        go_loopw [35] (fun i wr => ∃ (k : Nat) (u : Value), k ≤ m ∧ i = .int .i64 k ∧ Below S W0 wr ∧ wr.heap[S]? = some (.cells #[.slice xa p1 xc, u] 26 (0, 0)) ∧ wr.ownsRow (S + 1) 46 2 (.slice xa p1 xc) p1 ((viewN c (ns.take n)).flatMap encNode) ∧ wr.ownsRow B 48 5 u (viewE c (es.take k)).length ((viewE c (es.take k)).flatMap encEdge) ∧ B ≤ wr.heap.size ∧ ∀ g, (Value.slice xa p1 xc).ownBlock = some g → g < B) (fun i _ => m - (intOf i).toNat)
        case atStart => exact ⟨0, _, by omega, rfl, HA.out.1, HA.out.2.1, HA.out.2.2, World.ownsRow_nil _ _ _ _, by rw [HBB.out]; exact Nat.le_refl _, fun g hg => by rw [HBB.out]; exact (HA.out.2.2.lt g hg).2⟩
        case round =>
          clear HA HBB g2 z3
          obtain ⟨k, u, hk, rfl, hbel, hblk, howN, hown, hBw, hap⟩ := hrel
          have hsz := hbel.size
          have HAP : Hid (∀ g, (Value.slice xa p1 xc).ownBlock = some g → g < B) := hap
          clear hap
          by_cases hlt : k < m
          · rcases H2.out with ⟨hz, _⟩ | ⟨_, b2, o2, q2, hv2, hb2, E2⟩
            · rw [hz] at HN1; have := HN1.out; simp at this; omega
            obtain rfl : a2 = some ⟨b2, o2, none⟩ := by injection hv2
            obtain ⟨⟨m0, m1, m2, m3, m4⟩, hx⟩ : ∃ x, es[k]? = some x := ⟨_, List.getElem?_eq_getElem (by rw [← HN1.out]; exact hlt)⟩
            have e0 : wr.cell? ⟨b2, o2 + k * 5, none⟩ = some (.int .i64 m0) := by rw [Below.celz hbel _ _ _ (by omega), Below.celz BW.out _ _ _ hb2]; exact E2 k _ hx 0 _ rfl
            have e1 : wr.cell? ⟨b2, o2 + k * 5 + 1, none⟩ = some (.int .i64 m1) := by rw [Below.celz hbel _ _ _ (by omega), Below.celz BW.out _ _ _ hb2]; exact E2 k _ hx 1 _ rfl
            have e2 : wr.cell? ⟨b2, o2 + k * 5 + 2, none⟩ = some (.int .i64 m2) := by rw [Below.celz hbel _ _ _ (by omega), Below.celz BW.out _ _ _ hb2]; exact E2 k _ hx 2 _ rfl
            have e3 : wr.cell? ⟨b2, o2 + k * 5 + 3, none⟩ = some (.int .i64 m3) := by rw [Below.celz hbel _ _ _ (by omega), Below.celz BW.out _ _ _ hb2]; exact E2 k _ hx 3 _ rfl
            have e4 : wr.cell? ⟨b2, o2 + k * 5 + 4, none⟩ = some (.int .i64 m4) := by rw [Below.celz hbel _ _ _ (by omega), Below.celz BW.out _ _ _ hb2]; exact E2 k _ hx 4 _ rfl
            have hle : (viewE c (es.take k)).length ≤ k := Nat.le_trans (viewE_le _ _) (by simp; omega)
            have z2 : b2 < wr.heap.size := by omega
            have z3 : S < wr.heap.size := by omega
            have k0 : (0 : Int) ≤ (k : Int) := by omega
            have k1 : (k : Int) < (m : Int) := by omega
            have HX : Hid (es[k]? = some (m0, m1, m2, m3, m4)) := hx
            have HB : Hid (Below S W0 wr) := hbel
            clear hx hbel E2 hv2
            cases hu : underB m0 c
            · have HV : Hid (viewE c (es.take (k + 1)) = viewE c (es.take k)) := viewE_out HX.out hu
              have HO : Hid (wr.heap[S]? = some (.cells #[.slice xa p1 xc, u] 26 (0, 0)) ∧ wr.ownsRow (S + 1) 46 2 (.slice xa p1 xc) p1 ((viewN c (ns.take n)).flatMap encNode) ∧ wr.ownsRow B 48 5 u (viewE c (es.take k)).length ((viewE c (es.take k)).flatMap encEdge)) := ⟨hblk, howN, hown⟩
              clear hblk hown howN
              have lu := impl_LabelUnder m0 c
              rw [hu] at lu
              have LU : Hid (∀ w, Calls Tryz.prog 31 #[.int .i64 m0, .int .i64 c] w fun e w' => e = .returned (.bool false) ∧ w' = w) := lu
              clear lu
              go_wp2_with (go_at_call 31; refine use (LU.out _) ?_)
              go_roundw
              case rel =>
                have bb : ∀ o, Below wr.heap.size wr (wr.alloc o) := fun o => (Below.refl _ _).alloc (Nat.le_refl _) _
                refine ⟨k + 1, u, by omega, by go_num, HB.out.trans ((bb _).mono (by omega)), by rw [(bb _).block S z3]; exact HO.out.1, own_keep HO.out.2.1 (bb _), by rw [HV.out]; exact own_keep HO.out.2.2 (bb _), by simp; omega, HAP.out⟩
              case measure => simp [intOf]; omega
            · have lu := impl_LabelUnder m0 c
              rw [hu] at lu
              have LU : Hid (∀ w, Calls Tryz.prog 31 #[.int .i64 m0, .int .i64 c] w fun e w' => e = .returned (.bool true) ∧ w' = w) := lu
              clear lu
              have g2 : wr.cell? ⟨S, 1, none⟩ = some u := by rw [cell_block hblk]; rfl
              have hf : wr.frozen? ⟨S, 1, none⟩ = false := free_block hblk
              have HK : Hid (wr.heap[S]? = some (.cells #[.slice xa p1 xc, u] 26 (0, 0)) ∧ wr.ownsRow (S + 1) 46 2 (.slice xa p1 xc) p1 ((viewN c (ns.take n)).flatMap encNode)) := ⟨hblk, howN⟩
              obtain ⟨ua, uc, rfl⟩ := own_form hown
              have lt0 := fun g hg => (hown.lt g hg).1
              have LT : Hid (∀ g, (Value.slice ua (viewE c (es.take k)).length uc).ownBlock = some g → B ≤ g) := lt0
              clear hblk lt0 howN
              go_wp2_with (first
                | (go_at_call 31; refine use (LU.out _) ?_)
                | (at_builtin; refine wpList_append_own _ rfl _ _ 24 rfl B 48 iE _ 5 40 Tryz.underlying24 jE zE0 zE1 zE2 rfl (by decide) _ _ _ rfl ((hown.alloc _).alloc _) ⟨wr.heap.size + 1, 0, none⟩ 1 1 [.int .i64 m0, .int .i64 m1, .int .i64 m2, .int .i64 m3, .int .i64 m4] rfl rfl ?c1 ?c2 ?c3 ?c4 ?c5 ?_))
              case c1 =>
                intro j u hj
                match j, hj with
                | 0, hj => simp at hj; subst hj; simp [Addr.add]
                | 1, hj => simp at hj; subst hj; simp [Addr.add]
                | 2, hj => simp at hj; subst hj; simp [Addr.add]
                | 3, hj => simp at hj; subst hj; simp [Addr.add]
                | 4, hj => simp at hj; subst hj; simp [Addr.add]
              case c2 => intro u hu; simp at hu; rcases hu with rfl | rfl | rfl | rfl | rfl <;> rfl
              case c3 => unfold maxLen; omega
              case c4 => omega
              case c5 => simp; omega
              · intro v' w3 hown' hgrow _
                have blk3 : w3.heap[S]? = some (.cells #[.slice xa p1 xc, .slice ua (viewE c (es.take k)).length uc] 26 (0, 0)) := by
                  rw [grown_blk hgrow (by simp; omega) (fun h => by have := LT.out _ h; have := hSB.out; omega), Below.heap_alloc _ _ _ (by simp; omega), Below.heap_alloc _ _ _ z3]; exact HK.out.1
                have bel3 : Below S W0 w3 := ((HB.out.alloc (by omega) _).alloc (by simp; omega) _).grown hgrow (by simp; omega) (fun g hg => by have := LT.out g hg; have := hSB.out; omega)
                have own3 := appEdge HX.out hu hown'
                have ownN := own_grown ((HK.out.2.alloc _).alloc _) hgrow (fun g hg h => by have := LT.out g h; have := HAP.out g hg; omega)
                obtain ⟨ya, yc, rfl⟩ := own_form hown'
                have g3 : w3.cell? ⟨S, 1, none⟩ = some (.slice ua (viewE c (es.take k)).length uc) := by rw [cell_block blk3]; rfl
                have f3 : w3.frozen? ⟨S, 1, none⟩ = false := free_block blk3
                have hB3 : B ≤ w3.heap.size := by have := hgrow.size; simp at this; omega
                have R : Hid (Below S W0 (w3.setCell ⟨S, 1, none⟩ (.slice ya ((viewE c (es.take k)).length + 1) yc)) ∧ (w3.setCell ⟨S, 1, none⟩ (.slice ya ((viewE c (es.take k)).length + 1) yc)).heap[S]? = some (.cells #[.slice xa p1 xc, .slice ya ((viewE c (es.take k)).length + 1) yc] 26 (0, 0)) ∧ (w3.setCell ⟨S, 1, none⟩ (.slice ya ((viewE c (es.take k)).length + 1) yc)).ownsRow (S + 1) 46 2 (.slice xa p1 xc) p1 ((viewN c (ns.take n)).flatMap encNode) ∧ (w3.setCell ⟨S, 1, none⟩ (.slice ya ((viewE c (es.take k)).length + 1) yc)).ownsRow B 48 5 (.slice ya ((viewE c (es.take k)).length + 1) yc) (viewE c (es.take (k + 1))).length ((viewE c (es.take (k + 1))).flatMap encEdge) ∧ B ≤ (w3.setCell ⟨S, 1, none⟩ (.slice ya ((viewE c (es.take k)).length + 1) yc)).heap.size ∧ ∀ g, (Value.slice xa p1 xc).ownBlock = some g → g < B) :=
                  ⟨bel3.setCell (by simp) _, set_block _ blk3, ownsRow_setCell_below ownN (by simp) _, ownsRow_setCell_below own3 (by have := hSB.out; simp; omega) _, by simpa using hB3, HAP.out⟩
                have z4 : S < w3.heap.size := lt_of_block blk3
                clear hown' hgrow hown blk3 bel3 own3 g2 hf e0 e1 e2 e3 e4 ownN hB3
                go_wp2_with fail
                go_roundw
                case rel => exact ⟨k + 1, _, by omega, by go_num, R.out⟩
                case measure => simp [intOf]; omega
          · have hkm : m = k := by omega
            subst hkm
            obtain ⟨ua, uc, rfl⟩ := own_form hown
            have HV2 : Hid (viewE c (es.take m) = viewE c es) := by show viewE c (es.take m) = viewE c es; rw [HN1.out, List.take_length]
            have g2 : wr.cell? ⟨S, 0, none⟩ = some (.slice xa p1 xc) := by rw [cell_block hblk]; rfl
            have g3 : wr.cell? ⟨S, 1, none⟩ = some (.slice ua (viewE c (es.take m)).length uc) := by rw [cell_block hblk]; rfl
            have y0 : wr.cell? ⟨w.heap.size + 1, 0, none⟩ = some (.slice none 0 0) := by rw [Below.celz hbel _ _ _ (by omega)]; exact Q0
            have y1 : wr.cell? ⟨w.heap.size + 1, 1, none⟩ = some (.slice none 0 0) := by rw [Below.celz hbel _ _ _ (by omega)]; exact Q1
            have yf : ∀ o, wr.frozen? ⟨w.heap.size + 1, o, none⟩ = false := fun o => by rw [Below.froz hbel _ _ _ (by omega)]; exact QF o
            have HF : Hid (Below w.heap.size w wr ∧ wr.ownsRow (S + 1) 46 2 (.slice xa p1 xc) p1 ((viewN c (ns.take n)).flatMap encNode) ∧ wr.ownsRow B 48 5 (.slice ua (viewE c (es.take m)).length uc) (viewE c (es.take m)).length ((viewE c (es.take m)).flatMap encEdge)) := ⟨BW.out.trans (hbel.mono (by omega)), howN, hown⟩
            have z3 : S < wr.heap.size := by omega
            clear hbel hblk howN hown
            go_wp2_with fail
            try simp only [Exit.inBlock, Exit.then]
            refine bodyPost_ret (v := .agg #[.slice xa p1 xc, .slice ua (viewE c (es.take m)).length uc]) (by simp [*, results, Tryz.results26, go_sem]) rfl ?_
            obtain ⟨f1, f2, f3⟩ := HF.out
            refine ⟨_, _, rfl, ⟨?_, ?_, fun g hg h => ?_⟩, (f1.setCell (by simp) _).setCell (by simp) _⟩
            · have := own_mono (base' := w.heap.size) (ownsRow_setCell_below (ownsRow_setCell_below f2 (a := ⟨w.heap.size + 1, 0, none⟩) (by simp; omega) (.slice xa p1 xc)) (a := ⟨w.heap.size + 1, 1, none⟩) (by simp; omega) (.slice ua (viewE c (es.take m)).length uc)) (by omega)
              rw [HG.out.1, ← HV1.out, HP1.out]; exact this
            · have := own_mono (base' := w.heap.size) (ownsRow_setCell_below (ownsRow_setCell_below f3 (a := ⟨w.heap.size + 1, 0, none⟩) (by have := hSB.out; simp; omega) (.slice xa p1 xc)) (a := ⟨w.heap.size + 1, 1, none⟩) (by have := hSB.out; simp; omega) (.slice ua (viewE c (es.take m)).length uc)) (by have := hSB.out; omega)
              rw [HG.out.2, ← HV2.out]; exact this
            · have := HAP.out g hg; have := (f3.lt g h).1; omega
theorem impl_GraphView (v1 v2 : Value) (c : Int) (ns : List Nd) (es : List Ed) (w : World) (h1 : RowAt 2 encNode w v1 ns) (h2 : RowAt 5 encEdge w v2 es) (l1 : ns.length ≤ 1048576) (l2 : es.length ≤ 1048576) (hE : Errs w) :
    Calls Tryz.prog 26 #[.agg #[v1, v2], .int .i64 c] w fun e w' => ∃ u1 u2, e = .returned (.agg #[u1, u2]) ∧ OwnGraph w' w.heap.size u1 u2 (seenN c ns es) (seenE c ns es) ∧ Below w.heap.size w w' := by
  obtain ⟨a1, c1, rfl⟩ := h1.len
  obtain ⟨a2, c2, rfl⟩ := h2.len
  exact impl_GraphView_walk a1 a2 _ _ c1 c2 c ns es w h1 h2 rfl rfl l1 l2 hE
end Go.Proofs.YtlnpbfeihjfnjaaGreatDoor.Lab

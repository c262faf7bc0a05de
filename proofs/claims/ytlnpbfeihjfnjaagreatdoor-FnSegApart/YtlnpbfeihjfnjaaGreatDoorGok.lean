/-
  What a right graph is, in plain words; spec.GraphOk answers that. (Written by tools/mkgok.py.)
-/
import Derived.Test.YtlnpbfeihjfnjaaGreatDoorSpg
namespace Go.Proofs.YtlnpbfeihjfnjaaGreatDoor.Lab
open Go.RowKit
set_option linter.unusedVariables false
abbrev Nd := Int × Int
abbrev Ed := Int × Int × Int × Int × Int
def edB (x : Ed) : Bool := edgeB x.1 x.2.1 x.2.2.1 x.2.2.2.1 x.2.2.2.2
def leB (x y : Ed) : Bool := lessB x.1 x.2.1 x.2.2.1 x.2.2.2.1 x.2.2.2.2 y.1 y.2.1 y.2.2.1 y.2.2.2.1 y.2.2.2.2
def NodesOk (ns : List Nd) : Prop :=
  (∀ (i : Nat) (x : Nd), ns[i]? = some x → nodeB x.1 x.2 = true) ∧ (∀ (i : Nat) (x y : Nd), ns[i]? = some x → ns[i + 1]? = some y → codeI x.1 x.2 < codeI y.1 y.2) ∧ ∀ a, okB a = true → cntNode a ns ≤ 5
def EdgesOk (ns : List Nd) (es : List Ed) : Prop :=
  (∀ (i : Nat) (x : Ed), es[i]? = some x → edB x = true ∧ (x.2.1, x.2.2.1) ∈ ns ∧ (x.2.2.2.1, x.2.2.2.2) ∈ ns) ∧ (∀ (i : Nat) (x y : Ed), es[i]? = some x → es[i + 1]? = some y → leB x y = true) ∧ ∀ a, okB a = true → cntEdge a es ≤ 7
def GOk (ns : List Nd) (es : List Ed) : Prop := NodesOk ns ∧ EdgesOk ns es
noncomputable def gokB (ns : List Nd) (es : List Ed) : Bool := @decide (GOk ns es) (Classical.propDecidable _)
theorem gokB_true {ns : List Nd} {es : List Ed} : gokB ns es = true ↔ GOk ns es := by unfold gokB; exact @decide_eq_true_iff _ (Classical.propDecidable _)
theorem gokB_false {ns : List Nd} {es : List Ed} : gokB ns es = false ↔ ¬ GOk ns es := by unfold gokB; exact @decide_eq_false_iff_not _ (Classical.propDecidable _)
theorem mem_at {α : Type} {x : α} {xs : List α} (h : x ∈ xs) : ∃ i : Nat, xs[i]? = some x := by
  obtain ⟨i, hi, h⟩ := List.getElem_of_mem h
  exact ⟨i, by rw [List.getElem?_eq_getElem hi, h]⟩
/-- Of eight labels at most five each: at most forty. -/
theorem eight_sum : ∀ (xs : List Nd), (∀ x ∈ xs, okB x.1 = true) → xs.length = cntNode 0 xs + cntNode 1 xs + cntNode 2 xs + cntNode 3 xs + cntNode 4 xs + cntNode 5 xs + cntNode 6 xs + cntNode 7 xs
  | [], _ => by simp [cntNode]
  | x :: xs, h => by
    have ih := eight_sum xs (fun y hy => h y (List.mem_cons_of_mem _ hy))
    have hx := eight (h x (List.mem_cons_self ..))
    simp only [cntNode, List.countP_cons, List.length_cons] at ih ⊢
    rcases hx with e | e | e | e | e | e | e | e <;> rw [e] <;> simp <;> omega
theorem eight_sumE : ∀ (xs : List Ed), (∀ x ∈ xs, okB x.1 = true) → xs.length = cntEdge 0 xs + cntEdge 1 xs + cntEdge 2 xs + cntEdge 3 xs + cntEdge 4 xs + cntEdge 5 xs + cntEdge 6 xs + cntEdge 7 xs
  | [], _ => by simp [cntEdge]
  | x :: xs, h => by
    have ih := eight_sumE xs (fun y hy => h y (List.mem_cons_of_mem _ hy))
    have hx := eight (h x (List.mem_cons_self ..))
    simp only [cntEdge, List.countP_cons, List.length_cons] at ih ⊢
    rcases hx with e | e | e | e | e | e | e | e <;> rw [e] <;> simp <;> omega
theorem edB_ok {x : Ed} (h : edB x = true) : okB x.1 = true := by
  simp only [edB, edgeB, Bool.and_eq_true] at h
  exact (under_true h.2).2.1
theorem nodes_len {ns : List Nd} (h : NodesOk ns) : ns.length ≤ 40 := by
  have hs := eight_sum ns (fun x hx => by obtain ⟨i, hi⟩ := mem_at hx; exact (nodeB_true (h.1 i x hi)).1)
  have c := h.2.2
  have := c 0 rfl; have := c 1 rfl; have := c 2 rfl; have := c 3 rfl; have := c 4 rfl; have := c 5 rfl; have := c 6 rfl; have := c 7 rfl
  omega
theorem edges_len {ns : List Nd} {es : List Ed} (h : EdgesOk ns es) : es.length ≤ 56 := by
  have hs := eight_sumE es (fun x hx => by obtain ⟨i, hi⟩ := mem_at hx; exact edB_ok (h.1 i x hi).1)
  have c := h.2.2
  have := c 0 rfl; have := c 1 rfl; have := c 2 rfl; have := c 3 rfl; have := c 4 rfl; have := c 5 rfl; have := c 6 rfl; have := c 7 rfl
  omega
/-- The first k nodes are right, and in order. -/
def NodesTo (ns : List Nd) (k : Nat) : Prop := (∀ (i : Nat) (x : Nd), i < k → ns[i]? = some x → nodeB x.1 x.2 = true) ∧ ∀ (i : Nat) (x y : Nd), i + 1 < k → ns[i]? = some x → ns[i + 1]? = some y → codeI x.1 x.2 < codeI y.1 y.2
theorem nodesTo_step {ns : List Nd} {k : Nat} {x : Nd} (h : NodesTo ns k) (hx : ns[k]? = some x) (hok : nodeB x.1 x.2 = true) (ho : ∀ y, 0 < k → ns[k - 1]? = some y → codeI y.1 y.2 < codeI x.1 x.2) : NodesTo ns (k + 1) := by
  refine ⟨fun i z hi hz => ?_, fun i z y hi hz hy => ?_⟩
  · rcases Nat.lt_succ_iff_lt_or_eq.1 hi with hi | rfl
    · exact h.1 i z hi hz
    · rw [hx] at hz; cases hz; exact hok
  · by_cases hi2 : i + 1 < k
    · exact h.2 i z y hi2 hz hy
    · have : i + 1 = k := by omega
      subst this
      rw [hx] at hy; cases hy
      exact ho z (by omega) (by simpa using hz)
/-- The first k edges are right, their nodes there, and in order. -/
def EdgesTo (ns : List Nd) (es : List Ed) (k : Nat) : Prop := (∀ (i : Nat) (x : Ed), i < k → es[i]? = some x → edB x = true ∧ (x.2.1, x.2.2.1) ∈ ns ∧ (x.2.2.2.1, x.2.2.2.2) ∈ ns) ∧ ∀ (i : Nat) (x y : Ed), i + 1 < k → es[i]? = some x → es[i + 1]? = some y → leB x y = true
theorem edgesTo_step {ns : List Nd} {es : List Ed} {k : Nat} {x : Ed} (h : EdgesTo ns es k) (hx : es[k]? = some x) (hok : edB x = true ∧ (x.2.1, x.2.2.1) ∈ ns ∧ (x.2.2.2.1, x.2.2.2.2) ∈ ns) (ho : ∀ y, 0 < k → es[k - 1]? = some y → leB y x = true) : EdgesTo ns es (k + 1) := by
  refine ⟨fun i z hi hz => ?_, fun i z y hi hz hy => ?_⟩
  · rcases Nat.lt_succ_iff_lt_or_eq.1 hi with hi | rfl
    · exact h.1 i z hi hz
    · rw [hx] at hz; cases hz; exact hok
  · by_cases hi2 : i + 1 < k
    · exact h.2 i z y hi2 hz hy
    · have : i + 1 = k := by omega
      subst this
      rw [hx] at hy; cases hy
      exact ho z (by omega) (by simpa using hz)
theorem all_get {α : Type} {xs : List α} {i : Nat} {x : α} (h : xs[i]? = some x) : i < xs.length := by
  obtain ⟨h1, _⟩ := List.getElem?_eq_some_iff.1 h; exact h1
set_option maxHeartbeats 20000000 in
theorem spec_GraphOk_walk (a1 a2 : Option Addr) (n m c1 c2 : Nat) (ns : List Nd) (es : List Ed) (w : World) (H1 : Hid (RowAt 2 encNode w (.slice a1 n c1) ns)) (H2 : Hid (RowAt 5 encEdge w (.slice a2 m c2) es)) (HN0 : Hid (n = ns.length)) (HN1 : Hid (m = es.length)) (hn0 : n ≤ 1048576) (hm0 : m ≤ 1048576) :
    Calls Tryz.prog 14 #[.agg #[.slice a1 n c1, .slice a2 m c2]] w fun e w' => e = .returned (.bool (gokB ns es)) ∧ Below w.heap.size w w' := by
  obtain ⟨W0, hW0⟩ : ∃ W0, W0 = w.alloc (.cells #[.slice a1 n c1, .slice a2 m c2] 26) := ⟨_, rfl⟩
  have b0 : Below w.heap.size w W0 := by rw [hW0]; go_grown
  have hW : W0.heap.size = w.heap.size + 1 := by rw [hW0]; simp
  have G0 : W0.cell? ⟨w.heap.size, 0, none⟩ = some (.slice a1 n c1) := by rw [hW0]; simp [go_sem]
  have G1 : W0.cell? ⟨w.heap.size, 1, none⟩ = some (.slice a2 m c2) := by rw [hW0]; simp [go_sem]
  go_enter Tryz.func14, Tryz.ntmps14
  go_wp2_with fail
  simp only [← hW0]
  clear hW0
  go_loopw [3] (fun i wr => ∃ k : Nat, k ≤ n ∧ i = .int .i64 k ∧ Below W0.heap.size W0 wr ∧ NodesTo ns k ∧ k ≤ 40) (fun i _ => n - (intOf i).toNat)
  case atStart => exact ⟨0, by omega, rfl, Below.refl _ _, ⟨fun i x hi => by omega, fun i x y hi => by omega⟩, by omega⟩
  case round =>
    obtain ⟨k, hk, rfl, hbel, hto, hk40⟩ := hrel
    have HT : Hid (NodesTo ns k) := hto
    clear hto
    have g0 : wr.cell? ⟨w.heap.size, 0, none⟩ = some (.slice a1 n c1) := by rw [Below.celz hbel _ _ _ (by omega)]; exact G0
    have z0 : w.heap.size < wr.heap.size := by have := hbel.size; omega
    by_cases hlt : k < n
    · rcases H1.out with ⟨hz, _⟩ | ⟨_, b1, o1, q1, hv1, hb1, E1⟩
      · rw [hz] at HN0; have := HN0.out; simp at this; omega
      obtain rfl : a1 = some ⟨b1, o1, none⟩ := by injection hv1
      obtain ⟨⟨m0, m1⟩, hx⟩ : ∃ x, ns[k]? = some x := ⟨_, List.getElem?_eq_getElem (by rw [← HN0.out]; exact hlt)⟩
      have EE : ∀ j x i u, ns[j]? = some x → (encNode x)[i]? = some u → wr.cell? ⟨b1, o1 + j * 2 + i, none⟩ = some u := fun j x i u h1 h2 => by rw [Below.celz hbel _ _ _ (by omega), Below.celz b0 _ _ _ (by omega)]; exact E1 j x h1 i u h2
      have e0 := EE k _ 0 _ hx rfl
      have e1 := EE k _ 1 _ hx rfl
      simp only [Nat.add_zero] at e0
      have HX : Hid (ns[k]? = some (m0, m1)) := hx
      have z2 : b1 < wr.heap.size := by omega
      have k0 : (0 : Int) ≤ (k : Int) := by omega
      have k1 : (k : Int) < (n : Int) := by omega
      have HB : Hid (Below W0.heap.size W0 wr) := hbel
      have HEE : Hid (∀ j x i u, ns[j]? = some x → (encNode x)[i]? = some u → wr.cell? ⟨b1, o1 + j * 2 + i, none⟩ = some u) := EE
      clear hx hbel E1 hv1 EE
      cases hn : nodeB m0 m1
      · have HF : Hid (¬ GOk ns es) := fun h => by have := h.1.1 k _ HX.out; simp only at this; rw [hn] at this; cases this
        go_wp2_with fail
        refine wp_region_after (by kernel_rfl) (by kernel_rfl) ?_
        intro hne hac
        repeat (go_big_quiet_step (first | (go_at_call_of 38 (Value.agg #[.int .i64 m0, .int .i64 m1]); exact after_at (x := nodeB m0 m1) (y := false) hn (spec_NodeOk m0 m1 _))))
        refine wpQuiet_nil ?_
        rintro _ ⟨p, rfl⟩
        have hbq : Hid (Below W0.heap.size W0 p.w) := HB.out.trans (p.bel.mono (by have := HB.out.size; first | omega | (simp; omega)))
        clear hac hne
        generalize p.w = wq at *
        go_wp2_with fail
        go_ret
        exact ⟨by rw [gokB_false.2 HF.out]; rfl, b0.trans (hbq.out.mono (by omega))⟩
      · by_cases hk0 : 0 < k
        · obtain ⟨⟨y0, y1⟩, hy⟩ : ∃ x, ns[k - 1]? = some x := ⟨_, List.getElem?_eq_getElem (by rw [← HN0.out]; omega)⟩
          have f0 := HEE.out (k - 1) _ 0 _ hy rfl
          have f1 := HEE.out (k - 1) _ 1 _ hy rfl
          simp only [Nat.add_zero] at f0
          have HY : Hid (ns[k - 1]? = some (y0, y1)) := hy
          have hoy : nodeB y0 y1 = true := HT.out.1 (k - 1) _ (by omega) hy
          have hcx := codeW_ok hn
          have hcy := codeW_ok hoy
          have HC : Hid (codeW m0 m1 = codeI m0 m1 ∧ codeW y0 y1 = codeI y0 y1) := ⟨hcx, hcy⟩
          clear hy hoy hcx hcy
          have i0 : ((k : Int) - 1).toNat = k - 1 := by omega
          have i1 : (0 : Int) ≤ (k : Int) - 1 := by omega
          have i2 : (k : Int) - 1 < (n : Int) := by omega
          have i3 : (0 : Int) < (k : Int) := by omega
          have i4 : 0 < k := hk0
          have i5 : decide (0 < k) = true := by simp; omega
          have i6 : decide ((0 : Int) < (k : Int)) = true := by simp; omega
          cases hc : decide (codeW m0 m1 ≤ codeW y0 y1)
          · by_cases h40 : 40 ≤ k
            · have HF : Hid (¬ GOk ns es) := fun h => by have := nodes_len h.1; have := HN0.out; omega
              have h41 : decide ((40 : Int) ≤ (k : Int)) = true := by simp; omega
              go_wp2_with fail
              refine wp_region_after (by kernel_rfl) (by kernel_rfl) ?_
              intro hne hac
              repeat (go_big_quiet_step (first | (go_at_call_of 38 (Value.agg #[.int .i64 m0, .int .i64 m1]); exact after_at (x := nodeB m0 m1) (y := true) hn (spec_NodeOk m0 m1 _)) | (go_at_call_of 39 (Value.agg #[.int .i64 m0, .int .i64 m1]); exact after_of (l2Code m0 m1 _)) | (go_at_call_of 39 (Value.agg #[.int .i64 y0, .int .i64 y1]); exact after_of (l2Code y0 y1 _))))
              refine wpQuiet_nil ?_
              rintro _ ⟨p, rfl⟩
              have hbq : Hid (Below W0.heap.size W0 p.w) := HB.out.trans (p.bel.mono (by have := HB.out.size; first | omega | (simp; omega)))
              clear hac hne
              generalize p.w = wq at *
              go_wp2_with fail
              go_ret
              exact ⟨by rw [gokB_false.2 HF.out]; rfl, b0.trans (hbq.out.mono (by omega))⟩
            · have h41 : decide ((40 : Int) ≤ (k : Int)) = false := by simp; omega
              have HS : Hid (NodesTo ns (k + 1)) := nodesTo_step HT.out HX.out hn (fun y _ hy => by rw [HY.out] at hy; cases hy; simp only; rw [← HC.out.1, ← HC.out.2]; simpa using hc)
              go_wp2_with fail
              refine wp_region_after (by kernel_rfl) (by kernel_rfl) ?_
              intro hne hac
              repeat (go_big_quiet_step (first | (go_at_call_of 38 (Value.agg #[.int .i64 m0, .int .i64 m1]); exact after_at (x := nodeB m0 m1) (y := true) hn (spec_NodeOk m0 m1 _)) | (go_at_call_of 39 (Value.agg #[.int .i64 m0, .int .i64 m1]); exact after_of (l2Code m0 m1 _)) | (go_at_call_of 39 (Value.agg #[.int .i64 y0, .int .i64 y1]); exact after_of (l2Code y0 y1 _))))
              refine wpQuiet_nil ?_
              rintro _ ⟨p, rfl⟩
              have hbq : Hid (Below W0.heap.size W0 p.w) := HB.out.trans (p.bel.mono (by have := HB.out.size; first | omega | (simp; omega)))
              clear hac hne
              generalize p.w = wq at *
              go_wp2_with fail
              go_roundw
              case rel => exact ⟨k + 1, by omega, by go_num, hbq.out, HS.out, by omega⟩
              case measure => simp [intOf]; omega
          · have HF : Hid (¬ GOk ns es) := fun h => by have h3 := h.1.2.1 (k - 1) _ _ HY.out (by rw [Nat.sub_add_cancel (by omega)]; exact HX.out); simp only at h3; rw [← HC.out.1, ← HC.out.2] at h3; have h4 := of_decide_eq_true hc; omega
            go_wp2_with fail
            refine wp_region_after (by kernel_rfl) (by kernel_rfl) ?_
            intro hne hac
            repeat (go_big_quiet_step (first | (go_at_call_of 38 (Value.agg #[.int .i64 m0, .int .i64 m1]); exact after_at (x := nodeB m0 m1) (y := true) hn (spec_NodeOk m0 m1 _)) | (go_at_call_of 39 (Value.agg #[.int .i64 m0, .int .i64 m1]); exact after_of (l2Code m0 m1 _)) | (go_at_call_of 39 (Value.agg #[.int .i64 y0, .int .i64 y1]); exact after_of (l2Code y0 y1 _))))
            refine wpQuiet_nil ?_
            rintro _ ⟨p, rfl⟩
            have hbq : Hid (Below W0.heap.size W0 p.w) := HB.out.trans (p.bel.mono (by have := HB.out.size; first | omega | (simp; omega)))
            clear hac hne
            generalize p.w = wq at *
            go_wp2_with fail
            go_ret
            exact ⟨by rw [gokB_false.2 HF.out]; rfl, b0.trans (hbq.out.mono (by omega))⟩
        · have HS : Hid (NodesTo ns (k + 1)) := nodesTo_step HT.out HX.out hn (fun y h _ => by omega)
          have h41 : decide ((40 : Int) ≤ (k : Int)) = false := by simp; omega
          have i5 : decide (0 < k) = false := by simp; omega
          have i6 : decide ((0 : Int) < (k : Int)) = false := by simp; omega
          go_wp2_with fail
          refine wp_region_after (by kernel_rfl) (by kernel_rfl) ?_
          intro hne hac
          repeat (go_big_quiet_step (first | (go_at_call_of 38 (Value.agg #[.int .i64 m0, .int .i64 m1]); exact after_at (x := nodeB m0 m1) (y := true) hn (spec_NodeOk m0 m1 _))))
          refine wpQuiet_nil ?_
          rintro _ ⟨p, rfl⟩
          have hbq : Hid (Below W0.heap.size W0 p.w) := HB.out.trans (p.bel.mono (by have := HB.out.size; first | omega | (simp; omega)))
          clear hac hne
          generalize p.w = wq at *
          go_wp2_with fail
          go_roundw
          case rel => exact ⟨k + 1, by omega, by go_num, hbq.out, HS.out, by omega⟩
          case measure => simp [intOf]; omega
    · have hkn : n = k := by omega
      subst hkn
      have HT1 : Hid (NodesTo ns n) := HT.out
      have HBB : Hid (Below W0.heap.size W0 wr) := hbel
      clear HT hlt
      go_wp2_with fail
      clear g0 z0 hbel
      go_loopw [4] (fun i wr => ∃ k : Nat, k ≤ m ∧ i = .int .i64 k ∧ Below W0.heap.size W0 wr ∧ EdgesTo ns es k ∧ k ≤ 56) (fun i _ => m - (intOf i).toNat)
      case atStart => exact ⟨0, by omega, rfl, HBB.out, ⟨fun i x hi => by omega, fun i x y hi => by omega⟩, by omega⟩
      case round =>
        obtain ⟨k, hk, rfl, hbel, hto, hk56⟩ := hrel
        have HT : Hid (EdgesTo ns es k) := hto
        clear hto
        have g0 : wr.cell? ⟨w.heap.size, 0, none⟩ = some (.slice a1 n c1) := by rw [Below.celz hbel _ _ _ (by omega)]; exact G0
        have g1 : wr.cell? ⟨w.heap.size, 1, none⟩ = some (.slice a2 m c2) := by rw [Below.celz hbel _ _ _ (by omega)]; exact G1
        have z0 : w.heap.size < wr.heap.size := by have := hbel.size; omega
        have z1 : w.heap.size < wr.heap.size + 1 := by omega
        by_cases hlt : k < m
        · rcases H2.out with ⟨hz, _⟩ | ⟨_, b2, o2, q2, hv2, hb2, E2⟩
          · rw [hz] at HN1; have := HN1.out; simp at this; omega
          obtain rfl : a2 = some ⟨b2, o2, none⟩ := by injection hv2
          obtain ⟨⟨m0, m1, m2, m3, m4⟩, hx⟩ : ∃ x, es[k]? = some x := ⟨_, List.getElem?_eq_getElem (by rw [← HN1.out]; exact hlt)⟩
          have EE : ∀ j x i u, es[j]? = some x → (encEdge x)[i]? = some u → wr.cell? ⟨b2, o2 + j * 5 + i, none⟩ = some u := fun j x i u h1 h2 => by rw [Below.celz hbel _ _ _ (by omega), Below.celz b0 _ _ _ (by omega)]; exact E2 j x h1 i u h2
          have e0 := EE k _ 0 _ hx rfl
          have e1 := EE k _ 1 _ hx rfl
          have e2 := EE k _ 2 _ hx rfl
          have e3 := EE k _ 3 _ hx rfl
          have e4 := EE k _ 4 _ hx rfl
          simp only [Nat.add_zero] at e0
          have HX : Hid (es[k]? = some (m0, m1, m2, m3, m4)) := hx
          have z2 : b2 < wr.heap.size := by omega
          have z3 : b2 < wr.heap.size + 1 := by omega
          have k0 : (0 : Int) ≤ (k : Int) := by omega
          have k1 : (k : Int) < (m : Int) := by omega
          have HB : Hid (Below W0.heap.size W0 wr) := hbel
          have HEE : Hid (∀ j x i u, es[j]? = some x → (encEdge x)[i]? = some u → wr.cell? ⟨b2, o2 + j * 5 + i, none⟩ = some u) := EE
          have HB1 : Hid (Below W0.heap.size W0 (wr.alloc (.cells #[.int .i64 m0, .int .i64 m1, .int .i64 m2, .int .i64 m3, .int .i64 m4] 48))) := HB.out.alloc HB.out.size _
          have tA : Hid (∀ p : After (wr.alloc (.cells #[.int .i64 m0, .int .i64 m1, .int .i64 m2, .int .i64 m3, .int .i64 m4] 48)), Calls Tryz.prog 42 #[.agg #[.slice a1 n c1, .slice (some ⟨b2, o2, none⟩) m c2], .agg #[.int .i64 m1, .int .i64 m2]] p.w fun e w' => e = .returned (.int .i64 (atN ns (m1, m2) 0)) ∧ Below p.w.heap.size p.w w') := fun p => l2At a1 _ n m c1 c2 ns m1 m2 _ (((H1.out.keep b0).keep HB1.out).keep p.bel) HN0.out hn0
          have tB : Hid (∀ p : After (wr.alloc (.cells #[.int .i64 m0, .int .i64 m1, .int .i64 m2, .int .i64 m3, .int .i64 m4] 48)), Calls Tryz.prog 42 #[.agg #[.slice a1 n c1, .slice (some ⟨b2, o2, none⟩) m c2], .agg #[.int .i64 m3, .int .i64 m4]] p.w fun e w' => e = .returned (.int .i64 (atN ns (m3, m4) 0)) ∧ Below p.w.heap.size p.w w') := fun p => l2At a1 _ n m c1 c2 ns m3 m4 _ (((H1.out.keep b0).keep HB1.out).keep p.bel) HN0.out hn0
          clear hx hbel E2 hv2 EE
          cases hn : edgeB m0 m1 m2 m3 m4
          · have HF : Hid (¬ GOk ns es) := fun h => by have := (h.2.1 k _ HX.out).1; simp only [edB] at this; rw [hn] at this; cases this
            go_wp2_with fail
            refine wp_region_after (by kernel_rfl) (by kernel_rfl) ?_
            intro hne hac
            repeat (go_big_quiet_step (first | (go_at_call_of 40 (Value.agg #[.int .i64 m0, .int .i64 m1, .int .i64 m2, .int .i64 m3, .int .i64 m4]); exact after_at (x := edgeB m0 m1 m2 m3 m4) (y := false) hn (spec_EdgeOk m0 m1 m2 m3 m4 _))))
            refine wpQuiet_nil ?_
            rintro _ ⟨p, rfl⟩
            have hbq : Hid (Below W0.heap.size W0 p.w) := HB1.out.trans (p.bel.mono (by have := HB.out.size; first | omega | (simp; omega)))
            clear hac hne
            generalize p.w = wq at *
            go_wp2_with fail
            go_ret
            exact ⟨by rw [gokB_false.2 HF.out]; rfl, b0.trans (hbq.out.mono (by omega))⟩
          · have sA := atN_sign (x := (m1, m2)) ns 0
            have sB := atN_sign (x := (m3, m4)) ns 0
            have HSS : Hid (decide (atN ns (m1, m2) 0 < 0) = (!decide ((m1, m2) ∈ ns)) ∧ decide (atN ns (m3, m4) 0 < 0) = (!decide ((m3, m4) ∈ ns))) := ⟨sA, sB⟩
            clear sA sB
            by_cases hk0 : 0 < k
            · obtain ⟨⟨y0, y1, y2, y3, y4⟩, hy⟩ : ∃ x, es[k - 1]? = some x := ⟨_, List.getElem?_eq_getElem (by rw [← HN1.out]; omega)⟩
              have f0 := HEE.out (k - 1) _ 0 _ hy rfl
              have f1 := HEE.out (k - 1) _ 1 _ hy rfl
              have f2 := HEE.out (k - 1) _ 2 _ hy rfl
              have f3 := HEE.out (k - 1) _ 3 _ hy rfl
              have f4 := HEE.out (k - 1) _ 4 _ hy rfl
              simp only [Nat.add_zero] at f0
              have HY : Hid (es[k - 1]? = some (y0, y1, y2, y3, y4)) := hy
              clear hy
              have i0 : ((k : Int) - 1).toNat = k - 1 := by omega
              have i1 : (0 : Int) ≤ (k : Int) - 1 := by omega
              have i2 : (k : Int) - 1 < (m : Int) := by omega
              have i3 : (0 : Int) < (k : Int) := by omega
              have i4 : 0 < k := hk0
              have i5 : decide (0 < k) = true := by simp; omega
              have i6 : decide ((0 : Int) < (k : Int)) = true := by simp; omega
              cases hl : lessB y0 y1 y2 y3 y4 m0 m1 m2 m3 m4
              · have HF : Hid (¬ GOk ns es) := fun h => by have h3 := h.2.2.1 (k - 1) _ _ HY.out (by rw [Nat.sub_add_cancel (by omega)]; exact HX.out); simp only [leB] at h3; rw [hl] at h3; cases h3
                go_wp2_with fail
                refine wp_region_after (by kernel_rfl) (by kernel_rfl) ?_
                intro hne hac
                repeat (go_big_quiet_step (first | (go_at_call_of 40 (Value.agg #[.int .i64 m0, .int .i64 m1, .int .i64 m2, .int .i64 m3, .int .i64 m4]); exact after_at (x := edgeB m0 m1 m2 m3 m4) (y := true) hn (spec_EdgeOk m0 m1 m2 m3 m4 _)) | (go_at_call_of 41 (Value.agg #[.int .i64 y0, .int .i64 y1, .int .i64 y2, .int .i64 y3, .int .i64 y4]); exact after_at (x := lessB y0 y1 y2 y3 y4 m0 m1 m2 m3 m4) (y := false) hl (l2Less y0 y1 y2 y3 y4 m0 m1 m2 m3 m4 _))))
                refine wpQuiet_nil ?_
                rintro _ ⟨p, rfl⟩
                have hbq : Hid (Below W0.heap.size W0 p.w) := HB1.out.trans (p.bel.mono (by have := HB.out.size; first | omega | (simp; omega)))
                clear hac hne
                generalize p.w = wq at *
                go_wp2_with fail
                go_ret
                exact ⟨by rw [gokB_false.2 HF.out]; rfl, b0.trans (hbq.out.mono (by omega))⟩
              · cases hA : decide (atN ns (m1, m2) 0 < 0)
                · cases hB : decide (atN ns (m3, m4) 0 < 0)
                  · by_cases h56 : 56 ≤ k
                    · have HF : Hid (¬ GOk ns es) := fun h => by have := edges_len h.2; have := HN1.out; omega
                      have h57 : decide ((56 : Int) ≤ (k : Int)) = true := by simp; omega
                      go_wp2_with fail
                      refine wp_region_after (by kernel_rfl) (by kernel_rfl) ?_
                      intro hne hac
                      repeat (go_big_quiet_step (first | (go_at_call_of 40 (Value.agg #[.int .i64 m0, .int .i64 m1, .int .i64 m2, .int .i64 m3, .int .i64 m4]); exact after_at (x := edgeB m0 m1 m2 m3 m4) (y := true) hn (spec_EdgeOk m0 m1 m2 m3 m4 _)) | (go_at_call_of 41 (Value.agg #[.int .i64 y0, .int .i64 y1, .int .i64 y2, .int .i64 y3, .int .i64 y4]); exact after_at (x := lessB y0 y1 y2 y3 y4 m0 m1 m2 m3 m4) (y := true) hl (l2Less y0 y1 y2 y3 y4 m0 m1 m2 m3 m4 _)) | (go_at_call 42; first | (with_reducible exact after_of (tA.out _)) | (with_reducible exact after_of (tB.out _)))))
                      refine wpQuiet_nil ?_
                      rintro _ ⟨p, rfl⟩
                      have hbq : Hid (Below W0.heap.size W0 p.w) := HB1.out.trans (p.bel.mono (by have := HB.out.size; first | omega | (simp; omega)))
                      clear hac hne
                      generalize p.w = wq at *
                      go_wp2_with fail
                      go_ret
                      exact ⟨by rw [gokB_false.2 HF.out]; rfl, b0.trans (hbq.out.mono (by omega))⟩
                    · have HS : Hid (EdgesTo ns es (k + 1)) := edgesTo_step HT.out HX.out ⟨hn, by have h4 := HSS.out.1; rw [hA] at h4; simpa using h4, by have h4 := HSS.out.2; rw [hB] at h4; simpa using h4⟩ (fun y _ hy => by rw [HY.out] at hy; cases hy; exact hl)
                      have h57 : decide ((56 : Int) ≤ (k : Int)) = false := by simp; omega
                      go_wp2_with fail
                      refine wp_region_after (by kernel_rfl) (by kernel_rfl) ?_
                      intro hne hac
                      repeat (go_big_quiet_step (first | (go_at_call_of 40 (Value.agg #[.int .i64 m0, .int .i64 m1, .int .i64 m2, .int .i64 m3, .int .i64 m4]); exact after_at (x := edgeB m0 m1 m2 m3 m4) (y := true) hn (spec_EdgeOk m0 m1 m2 m3 m4 _)) | (go_at_call_of 41 (Value.agg #[.int .i64 y0, .int .i64 y1, .int .i64 y2, .int .i64 y3, .int .i64 y4]); exact after_at (x := lessB y0 y1 y2 y3 y4 m0 m1 m2 m3 m4) (y := true) hl (l2Less y0 y1 y2 y3 y4 m0 m1 m2 m3 m4 _)) | (go_at_call 42; first | (with_reducible exact after_of (tA.out _)) | (with_reducible exact after_of (tB.out _)))))
                      refine wpQuiet_nil ?_
                      rintro _ ⟨p, rfl⟩
                      have hbq : Hid (Below W0.heap.size W0 p.w) := HB1.out.trans (p.bel.mono (by have := HB.out.size; first | omega | (simp; omega)))
                      clear hac hne
                      generalize p.w = wq at *
                      go_wp2_with fail
                      go_roundw
                      case rel => exact ⟨k + 1, by omega, by go_num, hbq.out, HS.out, by omega⟩
                      case measure => simp [intOf]; omega
                  · have HF : Hid (¬ GOk ns es) := fun h => by have h3 := (h.2.1 k _ HX.out).2.2; have h4 := HSS.out.2; rw [hB] at h4; simp only at h3; simp [h3] at h4
                    go_wp2_with fail
                    refine wp_region_after (by kernel_rfl) (by kernel_rfl) ?_
                    intro hne hac
                    repeat (go_big_quiet_step (first | (go_at_call_of 40 (Value.agg #[.int .i64 m0, .int .i64 m1, .int .i64 m2, .int .i64 m3, .int .i64 m4]); exact after_at (x := edgeB m0 m1 m2 m3 m4) (y := true) hn (spec_EdgeOk m0 m1 m2 m3 m4 _)) | (go_at_call_of 41 (Value.agg #[.int .i64 y0, .int .i64 y1, .int .i64 y2, .int .i64 y3, .int .i64 y4]); exact after_at (x := lessB y0 y1 y2 y3 y4 m0 m1 m2 m3 m4) (y := true) hl (l2Less y0 y1 y2 y3 y4 m0 m1 m2 m3 m4 _)) | (go_at_call 42; first | (with_reducible exact after_of (tA.out _)) | (with_reducible exact after_of (tB.out _)))))
                    refine wpQuiet_nil ?_
                    rintro _ ⟨p, rfl⟩
                    have hbq : Hid (Below W0.heap.size W0 p.w) := HB1.out.trans (p.bel.mono (by have := HB.out.size; first | omega | (simp; omega)))
                    clear hac hne
                    generalize p.w = wq at *
                    go_wp2_with fail
                    go_ret
                    exact ⟨by rw [gokB_false.2 HF.out]; rfl, b0.trans (hbq.out.mono (by omega))⟩
                · have HF : Hid (¬ GOk ns es) := fun h => by have h3 := (h.2.1 k _ HX.out).2.1; have h4 := HSS.out.1; rw [hA] at h4; simp only at h3; simp [h3] at h4
                  go_wp2_with fail
                  refine wp_region_after (by kernel_rfl) (by kernel_rfl) ?_
                  intro hne hac
                  repeat (go_big_quiet_step (first | (go_at_call_of 40 (Value.agg #[.int .i64 m0, .int .i64 m1, .int .i64 m2, .int .i64 m3, .int .i64 m4]); exact after_at (x := edgeB m0 m1 m2 m3 m4) (y := true) hn (spec_EdgeOk m0 m1 m2 m3 m4 _)) | (go_at_call_of 41 (Value.agg #[.int .i64 y0, .int .i64 y1, .int .i64 y2, .int .i64 y3, .int .i64 y4]); exact after_at (x := lessB y0 y1 y2 y3 y4 m0 m1 m2 m3 m4) (y := true) hl (l2Less y0 y1 y2 y3 y4 m0 m1 m2 m3 m4 _)) | (go_at_call 42; first | (with_reducible exact after_of (tA.out _)) | (with_reducible exact after_of (tB.out _)))))
                  refine wpQuiet_nil ?_
                  rintro _ ⟨p, rfl⟩
                  have hbq : Hid (Below W0.heap.size W0 p.w) := HB1.out.trans (p.bel.mono (by have := HB.out.size; first | omega | (simp; omega)))
                  clear hac hne
                  generalize p.w = wq at *
                  go_wp2_with fail
                  go_ret
                  exact ⟨by rw [gokB_false.2 HF.out]; rfl, b0.trans (hbq.out.mono (by omega))⟩
            · have i5 : decide (0 < k) = false := by simp; omega
              have i6 : decide ((0 : Int) < (k : Int)) = false := by simp; omega
              cases hA : decide (atN ns (m1, m2) 0 < 0)
              · cases hB : decide (atN ns (m3, m4) 0 < 0)
                · have HS : Hid (EdgesTo ns es (k + 1)) := edgesTo_step HT.out HX.out ⟨hn, by have h4 := HSS.out.1; rw [hA] at h4; simpa using h4, by have h4 := HSS.out.2; rw [hB] at h4; simpa using h4⟩ (fun y h _ => by omega)
                  have h57 : decide ((56 : Int) ≤ (k : Int)) = false := by simp; omega
                  go_wp2_with fail
                  refine wp_region_after (by kernel_rfl) (by kernel_rfl) ?_
                  intro hne hac
                  repeat (go_big_quiet_step (first | (go_at_call_of 40 (Value.agg #[.int .i64 m0, .int .i64 m1, .int .i64 m2, .int .i64 m3, .int .i64 m4]); exact after_at (x := edgeB m0 m1 m2 m3 m4) (y := true) hn (spec_EdgeOk m0 m1 m2 m3 m4 _)) | (go_at_call 42; first | (with_reducible exact after_of (tA.out _)) | (with_reducible exact after_of (tB.out _)))))
                  refine wpQuiet_nil ?_
                  rintro _ ⟨p, rfl⟩
                  have hbq : Hid (Below W0.heap.size W0 p.w) := HB1.out.trans (p.bel.mono (by have := HB.out.size; first | omega | (simp; omega)))
                  clear hac hne
                  generalize p.w = wq at *
                  go_wp2_with fail
                  go_roundw
                  case rel => exact ⟨k + 1, by omega, by go_num, hbq.out, HS.out, by omega⟩
                  case measure => simp [intOf]; omega
                · have HF : Hid (¬ GOk ns es) := fun h => by have h3 := (h.2.1 k _ HX.out).2.2; have h4 := HSS.out.2; rw [hB] at h4; simp only at h3; simp [h3] at h4
                  go_wp2_with fail
                  refine wp_region_after (by kernel_rfl) (by kernel_rfl) ?_
                  intro hne hac
                  repeat (go_big_quiet_step (first | (go_at_call_of 40 (Value.agg #[.int .i64 m0, .int .i64 m1, .int .i64 m2, .int .i64 m3, .int .i64 m4]); exact after_at (x := edgeB m0 m1 m2 m3 m4) (y := true) hn (spec_EdgeOk m0 m1 m2 m3 m4 _)) | (go_at_call 42; first | (with_reducible exact after_of (tA.out _)) | (with_reducible exact after_of (tB.out _)))))
                  refine wpQuiet_nil ?_
                  rintro _ ⟨p, rfl⟩
                  have hbq : Hid (Below W0.heap.size W0 p.w) := HB1.out.trans (p.bel.mono (by have := HB.out.size; first | omega | (simp; omega)))
                  clear hac hne
                  generalize p.w = wq at *
                  go_wp2_with fail
                  go_ret
                  exact ⟨by rw [gokB_false.2 HF.out]; rfl, b0.trans (hbq.out.mono (by omega))⟩
              · have HF : Hid (¬ GOk ns es) := fun h => by have h3 := (h.2.1 k _ HX.out).2.1; have h4 := HSS.out.1; rw [hA] at h4; simp only at h3; simp [h3] at h4
                go_wp2_with fail
                refine wp_region_after (by kernel_rfl) (by kernel_rfl) ?_
                intro hne hac
                repeat (go_big_quiet_step (first | (go_at_call_of 40 (Value.agg #[.int .i64 m0, .int .i64 m1, .int .i64 m2, .int .i64 m3, .int .i64 m4]); exact after_at (x := edgeB m0 m1 m2 m3 m4) (y := true) hn (spec_EdgeOk m0 m1 m2 m3 m4 _)) | (go_at_call 42; first | (with_reducible exact after_of (tA.out _)) | (with_reducible exact after_of (tB.out _)))))
                refine wpQuiet_nil ?_
                rintro _ ⟨p, rfl⟩
                have hbq : Hid (Below W0.heap.size W0 p.w) := HB1.out.trans (p.bel.mono (by have := HB.out.size; first | omega | (simp; omega)))
                clear hac hne
                generalize p.w = wq at *
                go_wp2_with fail
                go_ret
                exact ⟨by rw [gokB_false.2 HF.out]; rfl, b0.trans (hbq.out.mono (by omega))⟩
        · have hkn : m = k := by omega
          subst hkn
          have HT2 : Hid (EdgesTo ns es m) := HT.out
          have HBC : Hid (Below W0.heap.size W0 wr) := hbel
          clear HT hlt HBB
          go_wp2_with fail
          clear g0 g1 z0 z1 hbel
          go_loopw [6] (fun i wr => ∃ k : Nat, k ≤ 8 ∧ i = .int .i64 k ∧ Below W0.heap.size W0 wr ∧ ∀ a : Nat, a < k → cntNode a ns ≤ 5 ∧ cntEdge a es ≤ 7) (fun i _ => 8 - (intOf i).toNat)
          case atStart => exact ⟨0, by omega, rfl, HBC.out, fun a ha => by omega⟩
          case round =>
            obtain ⟨k, hk, rfl, hbel, hq⟩ := hrel
            have HQ : Hid (∀ a : Nat, a < k → cntNode a ns ≤ 5 ∧ cntEdge a es ≤ 7) := hq
            clear hq
            have g0 : wr.cell? ⟨w.heap.size, 0, none⟩ = some (.slice a1 n c1) := by rw [Below.celz hbel _ _ _ (by omega)]; exact G0
            have g1 : wr.cell? ⟨w.heap.size, 1, none⟩ = some (.slice a2 m c2) := by rw [Below.celz hbel _ _ _ (by omega)]; exact G1
            have z0 : w.heap.size < wr.heap.size := by have := hbel.size; omega
            have HB : Hid (Below W0.heap.size W0 wr) := hbel
            clear hbel
            by_cases hlt : k < 8
            · have hbn : cntNode (k : Int) ns ≤ n := by rw [HN0.out]; exact List.countP_le_length
              have hbe : cntEdge (k : Int) es ≤ m := by rw [HN1.out]; exact List.countP_le_length
              go_wp2_with fail
              refine (l2Nodes a1 a2 n m c1 c2 ns k _ ((H1.out.keep b0).keep HB.out) HN0.out hn0).mono ?_
              rintro e w1 ⟨rfl, d1⟩
              have hc1 := Below.celz d1
              have HB1 : Hid (Below W0.heap.size W0 w1) := HB.out.trans (d1.mono (by have := HB.out.size; omega))
              have zs := d1.size
              clear d1
              by_cases h5 : cntNode (k : Int) ns ≤ 5
              · go_wp2_with fail
                refine (l2Edges a1 a2 n m c1 c2 es k _ ((H2.out.keep b0).keep HB1.out) HN1.out hm0).mono ?_
                rintro e w2 ⟨rfl, d2⟩
                have HB2 : Hid (Below W0.heap.size W0 w2) := HB1.out.trans (d2.mono (by have := HB1.out.size; omega))
                clear d2 hc1
                by_cases h7 : cntEdge (k : Int) es ≤ 7
                · have HR : Hid (∀ a : Nat, a < k + 1 → cntNode a ns ≤ 5 ∧ cntEdge a es ≤ 7) := fun a ha => (Nat.lt_succ_iff_lt_or_eq.1 ha).elim (fun h => HQ.out a h) (fun h => by subst h; exact ⟨h5, h7⟩)
                  generalize cntNode (k : Int) ns = q1 at *
                  generalize cntEdge (k : Int) es = q2 at *
                  go_wp2_with fail
                  go_roundw
                  case rel => exact ⟨k + 1, by omega, by go_num, HB2.out, HR.out⟩
                  case measure => simp [intOf]; omega
                · have HF : Hid (¬ GOk ns es) := fun h => h7 (h.2.2.2 k (okB_mk (by omega) (by omega)))
                  generalize cntNode (k : Int) ns = q1 at *
                  generalize cntEdge (k : Int) es = q2 at *
                  go_wp2_with fail
                  go_ret
                  exact ⟨by rw [gokB_false.2 HF.out]; rfl, b0.trans (HB2.out.mono (by omega))⟩
              · have HF : Hid (¬ GOk ns es) := fun h => h5 (h.1.2.2 k (okB_mk (by omega) (by omega)))
                clear hc1
                generalize cntNode (k : Int) ns = q1 at *
                go_wp2_with fail
                go_ret
                exact ⟨by rw [gokB_false.2 HF.out]; rfl, b0.trans (HB1.out.mono (by omega))⟩
            · have hk8 : k = 8 := by omega
              have HG : Hid (GOk ns es) := by
                show GOk ns es
                refine ⟨⟨fun i x hx => HT1.out.1 i x (by have := all_get hx; have := HN0.out; omega) hx, fun i x y hx hy => HT1.out.2 i x y (by have := all_get hy; have := HN0.out; omega) hx hy, fun a ha => ?_⟩, fun i x hx => HT2.out.1 i x (by have := all_get hx; have := HN1.out; omega) hx, fun i x y hx hy => HT2.out.2 i x y (by have := all_get hy; have := HN1.out; omega) hx hy, fun a ha => ?_⟩
                · have := okB_true ha; have h := (HQ.out a.toNat (by omega)).1; rwa [Int.toNat_of_nonneg (by omega)] at h
                · have := okB_true ha; have h := (HQ.out a.toNat (by omega)).2; rwa [Int.toNat_of_nonneg (by omega)] at h
              subst hk8
              go_wp2_with fail
              go_ret
              exact ⟨by rw [gokB_true.2 HG.out]; rfl, b0.trans (HB.out.mono (by omega))⟩
theorem spec_GraphOk (v1 v2 : Value) (ns : List Nd) (es : List Ed) (w : World) (h1 : RowAt 2 encNode w v1 ns) (h2 : RowAt 5 encEdge w v2 es) (l1 : ns.length ≤ 1048576) (l2 : es.length ≤ 1048576) :
    Calls Tryz.prog 14 #[.agg #[v1, v2]] w fun e w' => e = .returned (.bool (gokB ns es)) ∧ Below w.heap.size w w' := by
  obtain ⟨a1, c1, rfl⟩ := h1.len
  obtain ⟨a2, c2, rfl⟩ := h2.len
  exact spec_GraphOk_walk a1 a2 _ _ c1 c2 ns es w h1 h2 rfl rfl l1 l2
end Go.Proofs.YtlnpbfeihjfnjaaGreatDoor.Lab

/-
  The bytes of one label by the program: SegOf.
-/
import Derived.Test.YtlnpbfeihjfnjaaGreatDoorRJof
import Derived.Test.YtlnpbfeihjfnjaaGreatDoorRBlk
import Derived.Test.YtlnpbfeihjfnjaaGreatDoorRNea
import Derived.Test.YtlnpbfeihjfnjaaGreatDoorGki
namespace Go.Proofs.YtlnpbfeihjfnjaaGreatDoor.Lab
open Go.RowKit Go.ChangeMaps Go.Maps Go.Shelf
set_option linter.unusedVariables false
theorem keysJ (b : Nat) (W : World) : Calls Tryz.prog 59 #[.map (some b)] W fun e w' => e = .returned (.func (.func 94) #[] #[.pointer (some ⟨W.heap.size, 0, none⟩)]) ∧ w' = W.alloc (.cells #[.map (some b)] 83) :=
  callsIn_wide.1 (AnyZI.keys_in Tryz.keysJ Fence.wide 5 trivial rfl (some b) W)
theorem sortedJ (b Bm : Nat) (es : List (Int × Value)) (W : World) (h : MapAt W b es) (hwf : ∀ p ∈ es, (Lit.int .i64 p.1).wf = true) (hl : es.length ≤ 1048576) (hB : Bm < W.heap.size) (hm : W.cell? ⟨Bm, 0, none⟩ = some (.map (some b))) :
    Calls Tryz.prog 58 #[.func (.func 94) #[] #[.pointer (some ⟨Bm, 0, none⟩)]] W fun e w' => ∃ (v : Value) (ss : List Int), e = .returned v ∧ ss.Perm (es.map (·.1)) ∧
      w'.ownsRow W.heap.size 3 1 v ss.length ((ss.mergeSort (fun x y => decide (x ≤ y))).map (Value.int .i64)) ∧ Below W.heap.size W w' := by
  obtain ⟨D0, hown, hperm, hsize⟩ := h.owns (P := Tryz.prog) (k := 3) und_int' hwf (by unfold maxLen; omega)
  have hseq : SeqGives Fence.wide 2 Tryz.prog 94 #[.pointer (some ⟨Bm, 0, none⟩)] encZ (fun ss => ss.Perm (intKeys D0)) (Maps.size D0) W :=
    AnyZI.keys_gives (ρ := Tryz.keysJ_ren) { Tryz.keysJ with } Fence.wide _ trivial rfl (by omega) Bm b es.length D0 _ hB hm hown
  have cS := AnyZI.sorted_in Tryz.sortedN Fence.wide 5 trivial trivial trivial trivial rfl (by omega) (Tryz.sorts _) (enters_of Tryz.func93 (by kernel_rfl) rfl) 94 #[.pointer (some ⟨Bm, 0, none⟩)] trivial (enters_of Tryz.func94 (by kernel_rfl) rfl) _ _ (by rw [hsize]; unfold maxLen; omega) (by rw [hsize]; omega) _ hseq
  change CallsIn _ _ Tryz.prog 58 _ _ _ at cS
  exact (callsIn_wide.1 cS).mono fun e w' ⟨v, ss, h1, h2, h3, _, h5⟩ => ⟨v, ss, h1, h2.trans hperm, h3, h5⟩
theorem len_mj {w : World} {b : Nat} {es : List (Int × Value)} (h : MapAt w b es) (ty : TypeId) : (Builtin.len_ #[83] ty #[.map (some b)]).run Tryz.prog w = .ok (.int .i64 es.length) w := by
  obtain ⟨ents, clock, h1, h2, h0⟩ := h
  have hl : ents.size = es.length := by have := congrArg List.length h2; simpa using this
  simp [Builtin.len_, run_underlying Tryz.underlying83, MapKept.run_getObj_map h1, goInt, Result.andThen, hl]
/-- The keys of what is joined, sorted. -/
theorem sorted_keys {E : List Ed} {kv : List (Int × Value)} {ss : List Int} (hE : ∀ x ∈ E, edB x = true) (hd : ∀ c, c ∈ kv.map (·.1) ↔ joinL E c ≠ []) (hnd : (kv.map (·.1)).Nodup) (hp : ss.Perm (kv.map (·.1))) : ss.mergeSort (fun x y => decide (x ≤ y)) = (onlyF E).map cod := by
  have hs : (ss.mergeSort (fun x y => decide (x ≤ y))).Pairwise (fun a b => (decide (a ≤ b)) = true) := List.pairwise_mergeSort (le := fun x y : Int => decide (x ≤ y)) (fun a b c h1 h2 => by simp at h1 h2 ⊢; omega) (fun a b => by simp; omega) ss
  have hpm : (ss.mergeSort (fun x y => decide (x ≤ y))).Perm (kv.map (·.1)) := (List.mergeSort_perm ss _).trans hp
  have hn : (ss.mergeSort (fun x y => decide (x ≤ y))).Nodup := hpm.nodup_iff.2 hnd
  refine asc_int_ext ?_ (List.pairwise_map.2 (onlyF_asc hE)) (fun z => ?_)
  · have h1 := hs.and hn
    exact h1.imp (fun h => by have := h.1; simp at this; have := h.2; omega)
  · rw [hpm.mem_iff, hd, joinL_ne hE]
set_option maxRecDepth 8000 in
set_option maxHeartbeats 20000000 in
theorem impl_SegOf_walk (a1 a2 : Option Addr) (n m c1 c2 : Nat) (l : Int) (ns : List Nd) (es : List Ed) (w : World) (h1 : RowAt 2 encNode w (.slice a1 n c1) ns) (h2 : RowAt 5 encEdge w (.slice a2 m c2) es) (hN : n = ns.length) (hM : m = es.length) (hn : n ≤ 1048576) (hm : m ≤ 1048576) (hE : Errs w) :
    Calls Tryz.prog 20 #[.agg #[.slice a1 n c1, .slice a2 m c2], .int .i64 l] w fun e w' => e = .returned (.string ⟨(segB l ns es).toArray⟩) ∧ Below w.heap.size w w' := by
  have H1 : Hid (RowAt 2 encNode w (.slice a1 n c1) ns) := h1
  have H2 : Hid (RowAt 5 encEdge w (.slice a2 m c2) es) := h2
  have HN : Hid (n = ns.length ∧ m = es.length) := ⟨hN, hM⟩
  have HE : Hid (Errs w) := hE
  clear h1 h2 hN hM hE
  obtain ⟨W0, hW0⟩ : ∃ W0, W0 = w.alloc (.cells #[.slice a1 n c1, .slice a2 m c2] 26) := ⟨_, rfl⟩
  have b0 : Below w.heap.size w W0 := by rw [hW0]; go_grown
  have z0 : W0.heap.size = w.heap.size + 1 := by rw [hW0]; simp
  have G0 : W0.cell? ⟨w.heap.size, 0, none⟩ = some (.slice a1 n c1) := by rw [hW0]; simp [go_sem]
  have G1 : W0.cell? ⟨w.heap.size, 1, none⟩ = some (.slice a2 m c2) := by rw [hW0]; simp [go_sem]
  have HB0 : Hid (Below w.heap.size w W0) := b0
  have HW0 : Hid (W0 = w.alloc (.cells #[.slice a1 n c1, .slice a2 m c2] 26)) := hW0
  clear b0 hW0
  go_enter Tryz.func20, Tryz.ntmps20
  go_wp2_with fail
  rw [← HW0.out]
  clear HW0
  refine (impl_GraphOk _ _ ns es _ (H1.out.keep HB0.out) (H2.out.keep HB0.out) (by rw [← HN.out.1]; exact hn) (by rw [← HN.out.2]; exact hm) (HE.out.keep HB0.out)).mono ?_
  rintro e w1 ⟨rfl, b1⟩
  have g0 : w1.cell? ⟨w.heap.size, 0, none⟩ = some (.slice a1 n c1) := (Below.celz b1 _ _ _ (by omega)).trans G0
  have g1 : w1.cell? ⟨w.heap.size, 1, none⟩ = some (.slice a2 m c2) := (Below.celz b1 _ _ _ (by omega)).trans G1
  have z1 : w.heap.size < w1.heap.size := by have := b1.size; omega
  have HB1 : Hid (Below w.heap.size w w1) := HB0.out.trans (b1.mono (by omega))
  clear b1
  cases hg : gokB ns es
  · have HS : Hid (segB l ns es = []) := segB_bad hg l
    clear hg
    go_wp2_with fail
    go_ret
    exact ⟨by rw [HS.out]; rfl, HB1.out⟩
  have HGK : Hid (GOk ns es) := gokB_true.1 hg
  have HS : Hid (segB l ns es = segL l ns es) := segB_ok hg l
  clear hg
  have hE1 := ofE_one HGK.out l
  have lns : n ≤ 40 := by rw [HN.out.1]; exact nodes_len HGK.out.1
  have les : m ≤ 56 := by rw [HN.out.2]; exact edges_len HGK.out.2
  have HR : Hid (∀ W, Below w1.heap.size w1 W → RowAt 2 encNode W (.slice a1 n c1) ns ∧ RowAt 5 encEdge W (.slice a2 m c2) es) := fun W h => ⟨(H1.out.keep HB1.out).keep h, (H2.out.keep HB1.out).keep h⟩
  have HEB : Hid (∀ x ∈ es, edB x = true) := fun x hx => ((edgesOk_iff.1 HGK.out.2).1 x hx).1
  have HE1 : Hid (One1 (ofE l es) ∧ (ofE l es).length ≤ 7) := hE1
  clear hE1
  have hS : Hid (∀ w', Below w1.heap.size w1 w' → Below w1.heap.size w1 w' ∧ w'.cell? ⟨w.heap.size, 0, none⟩ = some (.slice a1 n c1) ∧ w'.cell? ⟨w.heap.size, 1, none⟩ = some (.slice a2 m c2)) := fun w' h => ⟨h, (Below.celz h _ _ _ z1).trans g0, (Below.celz h _ _ _ z1).trans g1⟩
  go_wp2_with fail
  go_region_held3 (fun w' => Below w1.heap.size w1 w' ∧ w'.cell? ⟨w.heap.size, 0, none⟩ = some (.slice a1 n c1) ∧ w'.cell? ⟨w.heap.size, 1, none⟩ = some (.slice a2 m c2))
    (first | with_reducible exact hS.out _ (Below.refl _ _).drew | (with_reducible exact hS.out _ (keep_below (And.left (by assumption)) j2)) | (with_reducible exact hS.out _ (keep_below (And.left (by assumption)) j1)))
    (first
      | (go_at_call 54; refine (joinsOf _ _ es l _ (HR.out _ (And.left (by assumption))).2 ⟨_, _, _, rfl⟩ (by rw [← HN.out.2]; omega) HEB.out).mono ?_; rintro e v2 ⟨J, kv, rfl, hJ, jat, j2⟩)
      | (go_at_call 53; refine (numsOf _ _ ns l _ (HR.out _ (And.left (by assumption))).1 ⟨_, _, _, rfl⟩ (by rw [← HN.out.1]; omega)).mono ?_; rintro e v1 ⟨y, rfl, oy, j1⟩))
  have HBv : Hid (Below w1.heap.size w1 v2) := (And.left (by assumption))
  have HB2 : Hid (Below w.heap.size w v2) := HB1.out.trans (HBv.out.mono HB1.out.size)
  obtain ⟨xs, hxs⟩ : ∃ t, t = numsL l ns := ⟨_, rfl⟩
  obtain ⟨E, hEE⟩ : ∃ t, t = ofE l es := ⟨_, rfl⟩
  obtain ⟨N, hNN⟩ : ∃ t, t = onlyF E := ⟨_, rfl⟩
  have HXE : Hid (xs = numsL l ns ∧ E = ofE l es ∧ N = onlyF E) := ⟨hxs, hEE, hNN⟩
  have HE1' : Hid (One1 E ∧ E.length ≤ 7) := by have := HE1.out; rw [← hEE] at this; exact this
  rw [← hxs] at oy
  rw [← hEE] at jat
  have lx : xs.length ≤ 5 := by have := (numsL_facts HGK.out l).2.2; rw [← hxs] at this; exact this
  have hkN := sorted_keys HE1'.out.1.1 jat.dom jat.nd (List.Perm.refl _)
  have hkl : kv.length = N.length := by
    have := congrArg List.length hkN
    rw [(List.mergeSort_perm _ _).length_eq, List.length_map, List.length_map, ← hNN] at this
    exact this
  have lN : N.length ≤ 14 := by have := onlyF_len HE1'.out.1.1; rw [← hNN] at this; have := HE1'.out.2; omega
  obtain ⟨ya, yc, rfl⟩ := own_form oy
  have oy2 := own_keep oy j2
  obtain ⟨S, hSS⟩ : ∃ S, S = v2.heap.size := ⟨_, rfl⟩
  have HJS : Hid (∀ W, Below S v2 W → JAt W J (joinL E) kv ∧ RowAt 1 encI W (.slice ya xs.length yc) xs ∧ (Builtin.len_ #[83] 3 #[.map (some J)]).run Tryz.prog W = .ok (.int .i64 N.length) W) := fun W h => by
    rw [hSS] at h
    have hj := jat.keep h
    exact ⟨hj, (row_of_own encI_len (by decide) oy2).keep h, by rw [← hkl]; exact len_mj hj.map _⟩
  have HSZ : Hid (S = v2.heap.size) := hSS
  have HKV : Hid (kv.length = N.length ∧ (kv.map (·.1)).Nodup ∧ ∀ c, c ∈ kv.map (·.1) ↔ joinL E c ≠ []) := ⟨hkl, jat.nd, jat.dom⟩
  have HNK : Hid (∀ x ∈ N, nodeB x.1 x.2 = true) := fun x hx => onlyF_ok HE1'.out.1.1 x (by rw [← hNN]; exact hx)
  have hwf : Hid (∀ p ∈ kv, (Lit.int .i64 p.1).wf = true) := fun p hp => by
    have h1 := (HKV.out.2.2 p.1).1 (List.mem_map.2 ⟨p, hp, rfl⟩)
    obtain ⟨y, hy, hyc⟩ := List.mem_map.1 ((joinL_ne HE1'.out.1.1 p.1).1 h1)
    have := cod_bd y
    exact WalkArith.wf_i64 (by omega)
  obtain ⟨xl, hxl⟩ : ∃ t, t = xs.length := ⟨_, rfl⟩
  obtain ⟨nl, hnl⟩ : ∃ t, t = N.length := ⟨_, rfl⟩
  have HL : Hid (xl = xs.length ∧ nl = N.length) := ⟨hxl, hnl⟩
  have HSEG : Hid ((xl = 0 ∧ nl = 0 → segB l ns es = []) ∧ (¬ (xl = 0 ∧ nl = 0) → segB l ns es = segK l ns es nl)) := by
    refine ⟨fun h => ?_, fun h => ?_⟩
    · have h1 : xs = [] := List.length_eq_zero_iff.1 (by omega)
      have h2 : N = [] := List.length_eq_zero_iff.1 (by omega)
      rw [HS.out]
      unfold segL
      rw [← HXE.out.1, ← HXE.out.2.1, ← HXE.out.2.2, if_pos ⟨h1, h2⟩]
    · rw [HS.out]
      unfold segL
      rw [← HXE.out.1, ← HXE.out.2.1, ← HXE.out.2.2, if_neg (fun e => h ⟨by rw [hxl, e.1]; rfl, by rw [hnl, e.2]; rfl⟩), hnl]
  have hlen0 := (HJS.out v2 (Below.refl _ _)).2.2
  rw [← hxl] at lx HJS ⊢
  rw [← hnl] at lN HJS hlen0
  clear hS j1 j2 jat oy oy2 hkN hkl hxs hEE hNN hxl hnl hJ HE1 HBv
  by_cases hz : xl = 0 ∧ nl = 0
  · have HS0 : Hid (segB l ns es = []) := HSEG.out.1 hz
    obtain ⟨rfl, rfl⟩ := hz
    go_wp2_with fail
    go_ret
    exact ⟨by rw [HS0.out]; rfl, HB2.out⟩
  have HSG : Hid (segB l ns es = segK l ns es nl) := HSEG.out.2 hz
  have hz1 : xl = 0 → ((nl : Int) == 0) = false := fun h => beq_eq_false_iff_ne.2 (by omega)
  clear HSEG HS
  have HW3 : Hid (Below S v2 (v2.alloc (.cells #[.pointer none, .slice none 0 0] 87)) ∧ Lib.IsBuilder 87 5 S S [] (v2.alloc (.cells #[.pointer none, .slice none 0 0] 87)) ∧ (v2.alloc (.cells #[.pointer none, .slice none 0 0] 87)).heap.size = S + 1) := by
    rw [hSS]
    exact ⟨(Below.refl _ _).alloc (Nat.le_refl _) _, Lib.fresh_isBuilder _ _ v2, by simp⟩
  clear hSS
  obtain ⟨W3, hW3⟩ : ∃ W3, W3 = v2.alloc (.cells #[.pointer none, .slice none 0 0] 87) := ⟨_, rfl⟩
  have HWW : Hid (W3 = v2.alloc (.cells #[.pointer none, .slice none 0 0] 87)) := hW3
  rw [← hW3] at HW3
  clear hW3
  by_cases hx0 : xl = 0
  all_goals (
    first | subst hx0 | (have hx1 : ((xl : Int) == 0) = false := beq_eq_false_iff_ne.2 (by omega))
    go_wp2_with fail
    rw [← HWW.out, ← HSZ.out]
    have s3 : S < W3.heap.size := by have := HW3.out.2.2; omega

    refine (impl_PackRow _ xs _ (HJS.out _ HW3.out.1).2.1 (by rw [← HL.out.1]; omega)).mono ?_
    rintro e w4 ⟨rfl, b4⟩
    have HB4 : Hid (Below S v2 w4) := HW3.out.1.trans (b4.mono (by omega))
    have I4 : Hid (Lib.IsBuilder 87 5 S S (Lib.byteCells ([])) w4) := bld_below (by have := HW3.out.2.1; simpa [Lib.byteCells] using this) b4
    have s4 : S < w4.heap.size := by have := b4.size; omega
    have lr := rowL_le xs
    clear b4
    go_wp2_with fail
    refine (bl_write_k S S [] (rowL xs) w4 I4.out (by simp; omega) (Nat.le_of_lt s4)).mono ?_
    rintro e w5 ⟨⟨u5, rfl⟩, i5, b5, _, _⟩
    have HB5 : Hid (Below S v2 w5) := HB4.out.trans b5
    have I5 : Hid (Lib.IsBuilder 87 5 S S (Lib.byteCells (rowL xs)) w5) := by show Lib.IsBuilder _ _ _ _ _ _; simpa using i5
    have s5 : S < w5.heap.size := Nat.lt_of_lt_of_le s4 b5.size
    have hlen5 := (HJS.out w5 HB5.out).2.2
    clear i5 b5 s4 hlen0
    go_wp2_with fail
    refine (impl_PackNum0 (nl : Int) _).mono ?_
    rintro e w6 ⟨rfl, b6⟩
    have HB6 : Hid (Below S v2 w6) := HB5.out.trans (b6.mono (Nat.le_of_lt s5))
    have I6 : Hid (Lib.IsBuilder 87 5 S S (Lib.byteCells (rowL xs)) w6) := bld_below I5.out b6
    have s6 : S < w6.heap.size := Nat.lt_of_lt_of_le s5 b6.size
    have lp := pkL_len (nl : Int)
    clear b6 s5 hlen5
    go_wp2_with fail
    refine (bl_write_k S S (rowL xs) (pkL (nl : Int)) w6 I6.out (by omega) (Nat.le_of_lt s6)).mono ?_
    rintro e w7 ⟨⟨u7, rfl⟩, i7, b7, _, _⟩
    have HB7 : Hid (Below S v2 w7) := HB6.out.trans b7
    have I7 : Hid (Lib.IsBuilder 87 5 S S (Lib.byteCells (segK l ns es 0)) w7) := by
      show Lib.IsBuilder _ _ _ _ _ _
      rw [segK_zero, ← HXE.out.1, ← HXE.out.2.1, ← HXE.out.2.2, ← HL.out.2]; exact i7
    have s7 : S < w7.heap.size := Nat.lt_of_lt_of_le s6 b7.size
    clear i7 b7 s6 lr lp
    go_wp2_with fail
    refine (keysJ J _).mono ?_
    rintro e w8 ⟨rfl, hw8⟩
    have b8 : Below w7.heap.size w7 w8 := by rw [hw8]; exact (Below.refl _ _).alloc (Nat.le_refl _) _
    have c8 : w8.cell? ⟨w7.heap.size, 0, none⟩ = some (.map (some J)) := by rw [hw8]; simp [go_sem]
    have z8 : w7.heap.size < w8.heap.size := by rw [hw8]; simp
    have HB8 : Hid (Below S v2 w8) := HB7.out.trans (b8.mono (Nat.le_of_lt s7))
    have I8 : Hid (Lib.IsBuilder 87 5 S S (Lib.byteCells (segK l ns es 0)) w8) := bld_below I7.out b8
    have C8 : Hid (w8.cell? ⟨w7.heap.size, 0, none⟩ = some (.map (some J)) ∧ w7.heap.size < w8.heap.size) := ⟨c8, z8⟩
    have s8 : S < w8.heap.size := Nat.lt_of_lt_of_le s7 b8.size
    clear hw8 b8 c8 z8
    go_wp2_with fail
    refine (sortedJ J w7.heap.size kv _ (HJS.out _ HB8.out).1.map hwf.out (by have := HKV.out.1; rw [this, ← HL.out.2]; omega) C8.out.2 C8.out.1).mono ?_
    rintro e w9 ⟨sv9, ss, rfl, hperm, hown, b9⟩
    have hsl := sorted_keys HE1'.out.1.1 HKV.out.2.2 HKV.out.2.1 hperm
    rw [hsl, ← HXE.out.2.2] at hown
    have hsn : ss.length = nl := by rw [hperm.length_eq, List.length_map, HKV.out.1, HL.out.2]
    rw [hsn] at hown
    have HB9 : Hid (Below S v2 w9) := HB8.out.trans (b9.mono (Nat.le_of_lt s8))
    have I9 : Hid (Lib.IsBuilder 87 5 S S (Lib.byteCells (segK l ns es 0)) w9) := bld_below I8.out b9
    have s9 : S < w9.heap.size := Nat.lt_of_lt_of_le s8 b9.size
    obtain ⟨va, vc, rfl⟩ := own_form hown
    have HO9 : Hid (w9.ownsRow w8.heap.size 3 1 (.slice va nl vc) nl ((N.map cod).map (Value.int .i64))) := hown
    have HLT : Hid (∀ g, (Value.slice va nl vc).ownBlock = some g → S < g) := fun g hg => by have := (hown.lt g hg).1; omega
    clear hsl hperm hown hsn b9 C8 I4 I5 I6 I7 I8 HB4 HB5 HB6 HB7 HB8 s7 s8
    go_wp2_with fail
    go_loopw [38] (fun i wr => ∃ k : Nat, k ≤ nl ∧ i = .int .i64 k ∧ Below S v2 wr ∧ Lib.IsBuilder 87 5 S S (Lib.byteCells (segK l ns es k)) wr ∧ wr.ownsRow w8.heap.size 3 1 (.slice va nl vc) nl ((N.map cod).map (Value.int .i64))) (fun i _ => nl - (intOf i).toNat)
    case atStart => exact ⟨0, by omega, rfl, HB9.out, I9.out, HO9.out⟩
    case round =>
      clear HB9 I9 HO9
      obtain ⟨k, hk, rfl, hbel, hib, hown⟩ := hrel
      have hJ0 := HJS.out wr hbel
      by_cases hlt : k < nl
      · obtain ⟨⟨m0, m1⟩, hx⟩ : ∃ x, N[k]? = some x := ⟨_, List.getElem?_eq_getElem (by rw [← HL.out.2]; exact hlt)⟩
        have hnk := HNK.out _ (List.mem_of_getElem? hx)
        obtain ⟨cc, hcc⟩ : ∃ t, t = cod (m0, m1) := ⟨_, rfl⟩
        have hjn := joinL_near HE1'.out.1 hnk
        rw [← hcc] at hjn
        have HSU : Hid (segK l ns es (k + 1) = segK l ns es k ++ (pkL cc ++ rowL (joinL E cc))) := by
          have := segK_succ (a := l) (ns := ns) (es := es) (k := k) (n := (m0, m1)) (by rw [← HXE.out.2.1, ← HXE.out.2.2]; exact hx)
          rw [← HXE.out.2.1, ← hcc, ← hjn] at this; exact this
        obtain ⟨g, hva, e0⟩ : ∃ g, va = some ⟨g, 0, none⟩ ∧ wr.cell? ⟨g, k, none⟩ = some (.int .i64 cc) := by
          obtain ⟨q1, ⟨q2, q3⟩ | ⟨g, cp, cur, qv, qb, qg, q4, q5, q6, q7⟩⟩ := hown
          · omega
          · refine ⟨g, by injection qv, ?_⟩
            rw [cell_block qg]
            have h1 := congrArg (fun l => l[k]?) q7
            simp only [List.getElem?_map, hx, Option.map_some, List.getElem?_take] at h1
            split at h1
            · rw [hcc]; simpa using h1
            · cases h1
        subst hva
        have zg : g < wr.heap.size := by have := World.block_lt_of_cell? _ _ e0; simpa using this
        have lj : (joinL E cc).length ≤ 7 := Nat.le_trans (joinL_le _ _) HE1'.out.2
        obtain ⟨vr, hvr, hor, _⟩ := hJ0.1.get cc
        have HOR : Hid (∀ W, Below S v2 W → RowAt 1 encI W vr (joinL E cc) ∧ (Instr.lookup 83 (.map (some J)) (.int .i64 cc) false).run Tryz.prog W = .ok vr W) := fun W h => by
          have hj := (HJS.out W h).1
          obtain ⟨vr', h1, h2, _⟩ := hj.get cc
          rw [hvr] at h1
          subst h1
          exact ⟨row_of_own encI_len (by decide) h2, by rw [hj.map.get und_mj und_int' (zero_sl W) cc, hvr]⟩
        obtain ⟨ra, rc, hvf⟩ := own_form hor
        have HBr : Hid (Below S v2 wr) := hbel
        have HI : Hid (Lib.IsBuilder 87 5 S S (Lib.byteCells (segK l ns es k)) wr) := hib
        have HO : Hid (wr.ownsRow w8.heap.size 3 1 (.slice (some ⟨g, 0, none⟩) nl vc) nl ((N.map cod).map (Value.int .i64))) := hown
        have k0 : (0 : Int) ≤ (k : Int) := by omega
        have k1 : (k : Int) < (nl : Int) := by omega
        have sr : S < wr.heap.size := by have := hbel.size; have := HLT.out g rfl; omega
        have lk := segK_le l ns es k
        have lp := pkL_len cc
        have lr := rowL_le (joinL E cc)
        clear hx hnk hjn hcc hbel hib hown hor hJ0
        subst hvf
        go_wp2_with fail
        refine (impl_PackNum0 cc _).mono ?_
        rintro e x1 ⟨rfl, d1⟩
        have HBx1 : Hid (Below S v2 x1) := HBr.out.trans (d1.mono (Nat.le_of_lt sr))
        have HIx1 : Hid (Lib.IsBuilder 87 5 S S (Lib.byteCells (segK l ns es k)) x1) := bld_below HI.out d1
        have HOx1 : Hid (x1.ownsRow w8.heap.size 3 1 (.slice (some ⟨g, 0, none⟩) nl vc) nl ((N.map cod).map (Value.int .i64))) := own_keep HO.out d1
        have t1 : S < x1.heap.size := Nat.lt_of_lt_of_le sr d1.size
        clear d1 e0 zg
        go_wp2_with fail
        refine (bl_write_k S S (segK l ns es k) (pkL cc) x1 HIx1.out (by omega) (Nat.le_of_lt t1)).mono ?_
        rintro e x2 ⟨⟨u2, rfl⟩, i2, d2, _, o2⟩
        have HBx2 : Hid (Below S v2 x2) := HBx1.out.trans d2
        have HIx2 : Hid (Lib.IsBuilder 87 5 S S (Lib.byteCells (segK l ns es k ++ pkL cc)) x2) := i2
        have HOx2 : Hid (x2.ownsRow w8.heap.size 3 1 (.slice (some ⟨g, 0, none⟩) nl vc) nl ((N.map cod).map (Value.int .i64))) := own_others HOx1.out o2 (by decide) (fun g' hg' => by have := HLT.out g' hg'; omega)
        have t2 : S < x2.heap.size := Nat.lt_of_lt_of_le t1 d2.size
        have hlook := (HOR.out x2 HBx2.out).2
        clear d2 o2 i2 t1
        go_wp2_with fail
        refine (impl_PackRow _ (joinL E cc) _ (HOR.out x2 HBx2.out).1 (by omega)).mono ?_
        rintro e x3 ⟨rfl, d3⟩
        have HBx3 : Hid (Below S v2 x3) := HBx2.out.trans (d3.mono (Nat.le_of_lt t2))
        have HIx3 : Hid (Lib.IsBuilder 87 5 S S (Lib.byteCells (segK l ns es k ++ pkL cc)) x3) := bld_below HIx2.out d3
        have HOx3 : Hid (x3.ownsRow w8.heap.size 3 1 (.slice (some ⟨g, 0, none⟩) nl vc) nl ((N.map cod).map (Value.int .i64))) := own_keep HOx2.out d3
        have t3 : S < x3.heap.size := Nat.lt_of_lt_of_le t2 d3.size
        clear d3 hlook t2
        go_wp2_with fail
        refine (bl_write_k S S (segK l ns es k ++ pkL cc) (rowL (joinL E cc)) x3 HIx3.out (by rw [List.length_append]; omega) (Nat.le_of_lt t3)).mono ?_
        rintro e x4 ⟨⟨u4, rfl⟩, i4, d4, _, o4⟩
        have HBx4 : Hid (Below S v2 x4) := HBx3.out.trans d4
        have HIx4 : Hid (Lib.IsBuilder 87 5 S S (Lib.byteCells (segK l ns es (k + 1))) x4) := by
          show Lib.IsBuilder _ _ _ _ _ _
          rw [HSU.out, ← List.append_assoc]; exact i4
        have HOx4 : Hid (x4.ownsRow w8.heap.size 3 1 (.slice (some ⟨g, 0, none⟩) nl vc) nl ((N.map cod).map (Value.int .i64))) := own_others HOx3.out o4 (by decide) (fun g' hg' => by have := HLT.out g' hg'; omega)
        clear d4 o4 i4 t3
        go_wp2_with fail
        go_roundw
        case rel => exact ⟨k + 1, by omega, by go_num, HBx4.out, HIx4.out, HOx4.out⟩
        case measure => simp [intOf]; omega
      · have hkn : nl = k := by omega
        subst hkn
        have HF : Hid (Below w.heap.size w wr) := HB2.out.trans (hbel.mono (by rw [HSZ.out]; exact HB2.out.size))
        have sr : S ≤ wr.heap.size := by have := hbel.size; have := HSZ.out; omega
        have HST : Hid (Calls Tryz.prog 60 #[.pointer (some ⟨S, 0, none⟩)] wr fun e w' => e = .returned (.string ⟨(segK l ns es nl).toArray⟩) ∧ Below S wr w') := (Tryz.Builder_String_any_k S S (segK l ns es nl) wr (Lib.IsBuilderF.of hib) sr).mono fun e w' h => ⟨h.1, h.2.2.1⟩
        clear hib hown hJ0 hbel
        go_wp2_with fail
        refine HST.out.mono ?_
        rintro e x1 ⟨rfl, d1⟩
        have HF1 : Hid (Below w.heap.size w x1) := HF.out.trans (d1.mono (by rw [HSZ.out]; exact HB2.out.size))
        clear d1
        go_wp2_with fail
        go_ret
        exact ⟨by rw [HSG.out]; rfl, HF1.out⟩)
theorem impl_SegOf (v1 v2 : Value) (l : Int) (ns : List Nd) (es : List Ed) (w : World) (h1 : RowAt 2 encNode w v1 ns) (h2 : RowAt 5 encEdge w v2 es) (l1 : ns.length ≤ 1048576) (l2 : es.length ≤ 1048576) (hE : Errs w) :
    Calls Tryz.prog 20 #[.agg #[v1, v2], .int .i64 l] w fun e w' => e = .returned (.string ⟨(segB l ns es).toArray⟩) ∧ Below w.heap.size w w' := by
  obtain ⟨a1, c1, rfl⟩ := h1.len
  obtain ⟨a2, c2, rfl⟩ := h2.len
  exact impl_SegOf_walk a1 a2 _ _ c1 c2 l ns es w h1 h2 rfl rfl l1 l2 hE
end Go.Proofs.YtlnpbfeihjfnjaaGreatDoor.Lab

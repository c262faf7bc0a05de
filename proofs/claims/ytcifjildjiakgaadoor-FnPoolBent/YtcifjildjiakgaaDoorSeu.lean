/-
  Uses of pages, the specification's side: l5Use, PoolUse.
-/
import Derived.Test.YtcifjildjiakgaaDoorSep
import Derived.Laws.OwnMore
namespace Go.Proofs.YtcifjildjiakgaaDoor.Lab
open Go.RowKit Go.ChangeMaps
set_option linter.unusedVariables false
theorem atI_eq {xs : List (Int × Int)} {x y : Int × Int} {j : Nat} (hn : xs.Nodup) (hj : xs[j]? = some y) : ((j : Int) = atI xs x) ↔ y = x := by
  unfold atI
  obtain ⟨g1, g2⟩ := List.getElem?_eq_some_iff.1 hj
  cases h : xs.findIdx? (fun y => eqB y x) with
  | none =>
    rw [List.findIdx?_eq_none_iff] at h
    constructor
    · intro h0; simp at h0
    · intro hx
      have := h y (List.mem_of_getElem? hj)
      rw [hx, eqB_true.2 rfl] at this; cases this
  | some i =>
    rw [List.findIdx?_eq_some_iff_getElem] at h
    obtain ⟨h1, h2, h3⟩ := h
    have h4 := eqB_true.1 h2
    constructor
    · intro h0
      have : j = i := by simp at h0; omega
      subst this
      rw [← g2, h4]
    · intro hx
      have : j = i := (List.getElem_inj hn).1 (by rw [g2, h4, hx])
      simp [this]
/-- The pages ahead of j that are others than x, x ahead of them. -/
def useJ (xs : List (Int × Int)) (x : Int × Int) (j : Nat) : List (Int × Int) := x :: (xs.take j).filter (fun y => !eqB y x)
theorem useJ_in {xs : List (Int × Int)} {x y : Int × Int} {j : Nat} (h : xs[j]? = some y) (hy : y ≠ x) : useJ xs x (j + 1) = useJ xs x j ++ [y] := by
  have : eqB y x = false := eqB_false.2 hy
  unfold useJ
  rw [List.take_add_one, h, List.filter_append]
  simp [this]
theorem useJ_out {xs : List (Int × Int)} {x y : Int × Int} {j : Nat} (h : xs[j]? = some y) (hy : y = x) : useJ xs x (j + 1) = useJ xs x j := by
  have : eqB y x = true := eqB_true.2 hy
  unfold useJ
  rw [List.take_add_one, h, List.filter_append]
  simp [this]
theorem useJ_len (xs : List (Int × Int)) (x : Int × Int) (j : Nat) : (useJ xs x j).length ≤ j + 1 := by
  unfold useJ
  have := List.length_filter_le (fun y => !eqB y x) (xs.take j)
  simp at this ⊢
  omega
theorem own_cut {w : World} {base e size : Nat} {a : Option Addr} {n c k : Nat} {xs : List Value} (h : w.ownsRow base e size (.slice a n c) n xs) (hk : k ≤ n) : w.ownsRow base e size (.slice a k c) k (xs.take (k * size)) := by
  have hm : k * size ≤ n * size := Nat.mul_le_mul_right _ hk
  obtain ⟨h1, ⟨h2, h3⟩ | ⟨g, cap, cur, hv, hb, hg, hn, hmx, hsz, ht⟩⟩ := h
  · subst h3
    have : k = 0 := by omega
    subst this
    exact ⟨by simp, .inl ⟨h2, rfl⟩⟩
  · refine ⟨by rw [List.length_take, h1]; omega, .inr ⟨g, cap, cur, ?_, hb, hg, by omega, hmx, hsz, ?_⟩⟩
    · simp only [Value.slice.injEq] at hv ⊢
      exact ⟨hv.1, trivial, hv.2.2⟩
    · rw [← ht, List.take_take, Nat.min_eq_left hm]
theorem flat_take {α : Type} {s : Nat} {enc : α → List Value} (he : ∀ x, (enc x).length = s) : ∀ (xs : List α) (k : Nat), (xs.flatMap enc).take (k * s) = (xs.take k).flatMap enc
  | [], k => by simp
  | x :: xs, 0 => by simp
  | x :: xs, k + 1 => by
    rw [List.flatMap_cons, List.take_succ_cons, List.flatMap_cons, Nat.succ_mul, Nat.add_comm, ← he x, List.take_append, List.take_of_length_le (by omega)]
    have : (enc x).length + k * (enc x).length - (enc x).length = k * (enc x).length := by omega
    rw [this, he x, flat_take he xs k]
theorem new_ats {w : World} {o : Obj} {S : Nat} (h : S = w.heap.size) : (w.alloc o).heap[S]? = some o := by subst h; exact new_block w o
theorem own_one {w : World} {B e : Nat} {x y : Value} (h : w.heap[B]? = some (.cells #[x, y] e (0, 0))) {base : Nat} (hb : base ≤ B) : w.ownsRow base e 2 (.slice (some ⟨B, 0, none⟩) 1 1) 1 [x, y] :=
  ⟨by simp, .inr ⟨B, 1, #[x, y], rfl, hb, h, Nat.le_refl _, by simp [maxLen], by simp, by simp⟩⟩
set_option maxHeartbeats 4000000 in
theorem l5Use_walk (z : Int) (a : Option Addr) (n cap : Nat) (xs : List (Int × Int)) (x0 x1 : Int) (w : World) (HR : Hid (RowAt 2 encPage w (.slice a n cap) xs)) (HN : Hid (n = xs.length)) (hn : n ≤ 1000) (hnd : xs.Nodup) (hz : 0 ≤ z) (hz2 : z ≤ 1000) :
    Calls Tryd.prog 14 #[.agg #[.int .i64 z, .slice a n cap], .agg #[.int .i64 x0, .int .i64 x1]] w fun e w' => ∃ u, e = .returned (.tuple #[.agg #[.int .i64 z, u], .bool (decide (0 ≤ atI xs (x0, x1)))]) ∧ OwnPool w' w.heap.size u (useL z.toNat xs (x0, x1)) ∧ Below w.heap.size w w' := by
  obtain ⟨i0, hi, hz0, hz1, hzz2⟩ := info_parts Tryd.infoPage
  obtain ⟨W0, hW0⟩ : ∃ W0, W0 = ((((w.alloc (.cells #[.int .i64 z, .slice a n cap] 25)).alloc (.cells #[.int .i64 x0, .int .i64 x1] 41)).alloc (.cells #[.int .i64 0, .slice none 0 0] 25)).alloc (.cells #[.int .i64 x0, .int .i64 x1] 41)) := ⟨_, rfl⟩
  have b0 : Below w.heap.size w W0 := by rw [hW0]; go_grown
  have s0 : W0.heap.size = w.heap.size + 4 := by rw [hW0]; simp
  have p0 : W0.cell? ⟨w.heap.size, 0, none⟩ = some (.int .i64 z) := by rw [hW0]; simp [go_sem]
  have p1 : W0.cell? ⟨w.heap.size, 1, none⟩ = some (.slice a n cap) := by rw [hW0]; simp [go_sem]
  have hur : W0.heap[w.heap.size + 1 + 1]? = some (.cells #[.int .i64 0, .slice none 0 0] 25 (0, 0)) := by rw [hW0, heap_alloc_old _ _ (by simp)]; exact new_ats (by simp)
  have hou : W0.heap[w.heap.size + 1 + 1 + 1]? = some (.cells #[.int .i64 x0, .int .i64 x1] 41 (0, 0)) := by rw [hW0]; exact new_ats (by simp)
  go_enter Tryd.func14, Tryd.ntmps14
  go_wp2_with fail
  simp only [← hW0]
  clear hW0
  refine (l5At _ xs x0 x1 _ (HR.out.keep b0) (by rw [← HN.out]; omega)).mono ?_
  rintro e w1 ⟨rfl, bel1⟩
  obtain ⟨K, hK⟩ : ∃ K, K = atI xs (x0, x1) := ⟨_, rfl⟩
  have hKb : -1 ≤ K ∧ K ≤ 1000 := by
    rw [hK]
    unfold atI
    split
    · rename_i i hq
      rw [List.findIdx?_eq_some_iff_getElem] at hq
      have := HN.out
      obtain ⟨h1, _⟩ := hq
      omega
    · omega
  have HK : Hid (K = atI xs (x0, x1) ∧ xs.Nodup) := ⟨hK, hnd⟩
  rw [← hK]
  have s1 := bel1.size
  have q0 : w1.cell? ⟨w.heap.size, 0, none⟩ = some (.int .i64 z) := (Below.celz bel1 _ _ _ (by omega)).trans p0
  have q1 : w1.cell? ⟨w.heap.size, 1, none⟩ = some (.slice a n cap) := (Below.celz bel1 _ _ _ (by omega)).trans p1
  have hur1 : w1.heap[w.heap.size + 1 + 1]? = some (.cells #[.int .i64 0, .slice none 0 0] 25 (0, 0)) := by rw [bel1.block _ (by omega)]; exact hur
  have hou1 : w1.heap[w.heap.size + 1 + 1 + 1]? = some (.cells #[.int .i64 x0, .int .i64 x1] 41 (0, 0)) := by rw [bel1.block _ (by omega)]; exact hou
  have HB1 : Hid (Below w.heap.size w w1) := b0.trans (bel1.mono (by omega))
  have hs1 : w.heap.size + 4 ≤ w1.heap.size := by omega
  have own0 : w1.ownsRow (w.heap.size + 3) 41 2 (.slice (some ⟨w.heap.size + 1 + 1 + 1, 0, none⟩) 1 1) 1 [.int .i64 x0, .int .i64 x1] := own_one hou1 (by omega)
  clear hK hnd bel1 b0 p0 p1 hur hou s1 s0 hou1
  go_wp2_with fail
  go_loopw [6, 8] (fun q i wr => ∃ j : Nat, j ≤ n ∧ i = .int .i64 j ∧ Below (w.heap.size + 3) w1 wr ∧ wr.ownsRow (w.heap.size + 3) 41 2 q (useJ xs (x0, x1) j).length ((useJ xs (x0, x1) j).flatMap encPage)) (fun _ i _ => n - (intOf i).toNat)
  case atStart => exact ⟨0, by omega, rfl, Below.refl _ _, by simpa [useJ, encPage] using own0⟩
  case round =>
    clear own0
    obtain ⟨j, hj, rfl, hbel, hown⟩ := hrel
    have hsz := hbel.size
    have g0 : wr.cell? ⟨w.heap.size, 0, none⟩ = some (.int .i64 z) := (Below.celz hbel _ _ _ (by omega)).trans q0
    have g1 : wr.cell? ⟨w.heap.size, 1, none⟩ = some (.slice a n cap) := (Below.celz hbel _ _ _ (by omega)).trans q1
    have hle := useJ_len xs (x0, x1) j
    obtain ⟨L, hL⟩ : ∃ L, L = (useJ xs (x0, x1) j).length := ⟨_, rfl⟩
    have HL : Hid (L = (useJ xs (x0, x1) j).length) := hL
    rw [← hL] at hown hle
    clear hL
    obtain ⟨xa, xc, rfl⟩ := own_form hown
    by_cases hlt : j < n
    · rcases HR.out with ⟨hz00, _⟩ | ⟨_, b, off, cap', hv, hb, hc⟩
      · have := HN.out; rw [hz00] at this; simp at this; omega
      simp only [Value.slice.injEq] at hv
      obtain ⟨rfl, -, hcc⟩ := hv
      subst hcc
      obtain ⟨⟨m0, m1⟩, hx⟩ : ∃ x, xs[j]? = some x := ⟨_, List.getElem?_eq_getElem (by rw [← HN.out]; exact hlt)⟩
      have e0 : wr.cell? ⟨b, off + j * 2, none⟩ = some (.int .i64 m0) := by rw [Below.celz hbel _ _ _ (by omega), Below.celz HB1.out _ _ _ hb]; exact hc j _ hx 0 _ rfl
      have e1 : wr.cell? ⟨b, off + j * 2 + 1, none⟩ = some (.int .i64 m1) := by rw [Below.celz hbel _ _ _ (by omega), Below.celz HB1.out _ _ _ hb]; exact hc j _ hx 1 _ rfl
      have z1 : b < wr.heap.size := by omega
      have z2 : w.heap.size < wr.heap.size := by omega
      have j0 : (0 : Int) ≤ (j : Int) := by omega
      have j1 : (j : Int) < (n : Int) := by omega
      have HX : Hid (xs[j]? = some (m0, m1)) := hx
      have HB : Hid (Below (w.heap.size + 3) w1 wr) := hbel
      have hiff := atI_eq (x := (x0, x1)) HK.out.2 hx
      rw [← HK.out.1] at hiff
      clear hx hbel hc
      by_cases hjk : (j : Int) = K
      · have HU : Hid (useJ xs (x0, x1) (j + 1) = useJ xs (x0, x1) j) := useJ_out HX.out (hiff.1 hjk)
        have HO : Hid (wr.ownsRow (w.heap.size + 3) 41 2 (.slice xa L xc) L ((useJ xs (x0, x1) j).flatMap encPage)) := hown
        have d0 : ((j : Int) != K) = false := by simp [hjk]
        have d1 : ((j : Int) == K) = true := by simp [hjk]
        clear hiff hown hjk
        go_wp2_with fail
        go_roundw
        case rel => exact ⟨j + 1, by omega, by go_num, HB.out, by rw [HU.out, ← HL.out]; exact HO.out⟩
        case measure => simp [intOf]; omega
      · have hne : (m0, m1) ≠ (x0, x1) := fun h => hjk (hiff.2 h)
        have HU : Hid (useJ xs (x0, x1) (j + 1) = useJ xs (x0, x1) j ++ [(m0, m1)]) := useJ_in HX.out hne
        have LT : Hid (∀ g, (Value.slice xa L xc).ownBlock = some g → w.heap.size + 3 ≤ g) := fun g hg => (hown.lt g hg).1
        have d0 : ((j : Int) != K) = true := by simpa using hjk
        have d1 : ((j : Int) == K) = false := by simpa using hjk
        have HD : Hid (¬ (j : Int) = K) := hjk
        clear hiff hjk hne
        go_wp2_with (first
          | (at_builtin; refine wpList_append_own _ rfl _ _ 23 rfl (w.heap.size + 3) 41 i0 _ 2 16 Tryd.underlying23 hi hz0 hz1 hzz2 rfl (by decide) _ _ _ rfl (hown.alloc _) ⟨wr.heap.size, 0, none⟩ 1 1 [.int .i64 m0, .int .i64 m1] rfl rfl ?c1 ?c2 ?c3 ?c4 ?c5 ?_))
        case c1 =>
          intro i u hi
          match i, hi with
          | 0, hi => simp at hi; subst hi; simp [Addr.add]
          | 1, hi => simp at hi; subst hi; simp [Addr.add]
        case c2 => intro u hu; simp at hu; rcases hu with rfl | rfl <;> rfl
        case c3 => unfold maxLen; omega
        case c4 => omega
        case c5 => simp; omega
        · intro v' w3 hown' hgrow _
          have R : Hid (Below (w.heap.size + 3) w1 w3 ∧ w3.ownsRow (w.heap.size + 3) 41 2 v' (useJ xs (x0, x1) (j + 1)).length ((useJ xs (x0, x1) (j + 1)).flatMap encPage)) := by
            refine ⟨(HB.out.alloc (by omega) _).grown hgrow (by simp; omega) (fun g hg => LT.out g hg), ?_⟩
            rw [HU.out, List.length_append, ← HL.out, List.flatMap_append]
            simpa [encPage] using hown'
          clear hown' hgrow hown e0 e1
          go_wp2_with fail
          go_roundw
          case rel => exact ⟨j + 1, by omega, by go_num, R.out⟩
          case measure => simp [intOf]; omega
    · have hkn : n = j := by omega
      subst hkn
      have hfull : useJ xs (x0, x1) n = (x0, x1) :: xs.filter (fun y => !eqB y (x0, x1)) := by unfold useJ; rw [HN.out, List.take_length]
      have hur2 : wr.heap[w.heap.size + 1 + 1]? = some (.cells #[.int .i64 0, .slice none 0 0] 25 (0, 0)) := by rw [hbel.block _ (by omega)]; exact hur1
      have u0 : wr.cell? ⟨w.heap.size + 1 + 1, 0, none⟩ = some (.int .i64 0) := by rw [cell_block hur2]; rfl
      have u1 : wr.cell? ⟨w.heap.size + 1 + 1, 1, none⟩ = some (.slice none 0 0) := by rw [cell_block hur2]; rfl
      have fu : ∀ i, wr.frozen? ⟨w.heap.size + 1 + 1, i, none⟩ = false := fun i => free_block hur2
      obtain ⟨zn, rfl⟩ := Int.eq_ofNat_of_zero_le hz
      have hap : Hid (∀ g, (Value.slice xa L xc).ownBlock = some g → g ≠ w.heap.size + 1 + 1) := fun g hg => by have := (hown.lt g hg).1; omega
      have HO : Hid (wr.ownsRow (w.heap.size + 3) 41 2 (.slice xa L xc) L ((useJ xs (x0, x1) n).flatMap encPage) ∧ Below w.heap.size w wr ∧ L ≤ xc) := by
        refine ⟨hown, HB1.out.trans (hbel.mono (by omega)), ?_⟩
        obtain ⟨_, ⟨hv, hv2⟩ | ⟨g, cp, cur, hv, _, _, hh, _⟩⟩ := hown
        · omega
        · simp only [Value.slice.injEq] at hv; omega
      have hxc : L ≤ xc := HO.out.2.2
      have HFU : Hid (useJ xs (x0, x1) n = (x0, x1) :: xs.filter (fun y => !eqB y (x0, x1))) := hfull
      clear hown hbel hur2 hfull
      have HKK : Hid (K = atI xs (x0, x1)) := HK.out.1
      by_cases hzL : L ≤ zn
      · go_wp2_with fail
        refine bodyPost_ret (v := .tuple #[.agg #[.int .i64 (zn : Int), .slice xa L xc], .bool (decide (0 ≤ K))]) (by simp [*, results, Tryd.results14, go_sem]) rfl ?_
        obtain ⟨o1, o2, _⟩ := HO.out
        refine ⟨_, by rw [HKK.out], ?_, (o2.setCell (by simp; omega) _).setCell (by simp; omega) _⟩
        have hu : useL (zn : Int).toNat xs (x0, x1) = useJ xs (x0, x1) n := by
          unfold useL
          rw [HFU.out, List.take_of_length_le]
          have := HL.out
          rw [HFU.out] at this
          simp only [Int.toNat_natCast]
          omega
        unfold OwnPool
        rw [hu, ← HL.out]
        exact own_mono (own_set (own_set o1 (fun h => hap.out _ h rfl) _) (fun h => hap.out _ h rfl) _) (by omega)
      · have hzi : (zn : Int) < (L : Int) := by omega
        have hzc : (zn : Int) ≤ (xc : Int) := by omega
        go_wp2_with fail
        refine bodyPost_ret (v := .tuple #[.agg #[.int .i64 (zn : Int), .slice xa zn xc], .bool (decide (0 ≤ K))]) (by simp [*, results, Tryd.results14, go_sem]) rfl ?_
        obtain ⟨o1, o2, _⟩ := HO.out
        refine ⟨_, by rw [HKK.out], ?_, (o2.setCell (by simp; omega) _).setCell (by simp; omega) _⟩
        have hcut := own_cut (k := zn) o1 (by omega)
        rw [flat_take encPage_len] at hcut
        have hu : useL (zn : Int).toNat xs (x0, x1) = (useJ xs (x0, x1) n).take zn := by
          unfold useL
          rw [HFU.out, Int.toNat_natCast]
        have hlen : ((useJ xs (x0, x1) n).take zn).length = zn := by rw [List.length_take, ← HL.out]; omega
        unfold OwnPool
        rw [hu, hlen]
        have hoe : (Value.slice xa zn xc).ownBlock = (Value.slice xa L xc).ownBlock := by cases xa <;> rfl
        have hob : ∀ g, (Value.slice xa zn xc).ownBlock = some g → g ≠ w.heap.size + 1 + 1 := fun g hg => hap.out g (hoe ▸ hg)
        exact own_mono (own_set (own_set hcut (fun h => hob _ h rfl) _) (fun h => hob _ h rfl) _) (by omega)
theorem l5Use (z : Int) (v : Value) (xs : List (Int × Int)) (x0 x1 : Int) (w : World) (h : RowAt 2 encPage w v xs) (hn : xs.length ≤ 1000) (hnd : xs.Nodup) (hz : 0 ≤ z) (hz2 : z ≤ 1000) :
    Calls Tryd.prog 14 #[.agg #[.int .i64 z, v], .agg #[.int .i64 x0, .int .i64 x1]] w fun e w' => ∃ u, e = .returned (.tuple #[.agg #[.int .i64 z, u], .bool (decide ((x0, x1) ∈ xs))]) ∧ OwnPool w' w.heap.size u (useL z.toNat xs (x0, x1)) ∧ Below w.heap.size w w' := by
  obtain ⟨a, cap, rfl⟩ := h.len
  have hd : decide (0 ≤ atI xs (x0, x1)) = decide ((x0, x1) ∈ xs) := by
    rw [decide_eq_decide]
    exact atI_mem
  rw [← hd]
  exact l5Use_walk z a xs.length cap xs x0 x1 w h rfl hn hnd hz hz2
end Go.Proofs.YtcifjildjiakgaaDoor.Lab

/-
  The bytes of one label by the specification: l4Codes, l4Only, l4Seg, SegOf; l4Store, StoreOf.
-/
import Derived.Test.YtlnpbfeihjfnjabGreatDoorQSgp
import Derived.Test.YtlnpbfeihjfnjabGreatDoorQSpn
import Derived.Test.YtlnpbfeihjfnjabGreatDoorQPrw
import Derived.Test.YtlnpbfeihjfnjabGreatDoorQRgr
import Derived.Deep.DeepCutAuto
import Derived.Deep.RegionLaw
import Derived.Deep.AppendLies
import Derived.Deep.DrawnRows
namespace Go.Proofs.YtlnpbfeihjfnjabGreatDoor.Lab
open Go.RowKit
set_option linter.unusedVariables false
theorem encI_one (x : Int) : ∀ u ∈ encI x, u.oneCell' = true := fun u hu => by simp [encI] at hu; subst hu; rfl
theorem new_rowI (w : World) (x : Int) (t : TypeId) : RowAt 1 encI (w.alloc (.cells #[.int .i64 x] t)) (.slice (some ⟨w.heap.size, 0, none⟩) 1 1) [x] := by
  refine .inr ⟨by simp, w.heap.size, 0, 1, rfl, by simp, fun j y hy i u hu => ?_⟩
  match j, hy with
  | 0, hy =>
    simp at hy
    subst hy
    rw [cell_block (new_block w _)]
    match i, hu with
    | 0, hu => simpa [encI] using hu
theorem own_new0 {w : World} {base B e size : Nat} (h : w.heap[B]? = some (.cells #[] e (0, 0))) (hb : base ≤ B) : w.ownsRow base e size (.slice (some ⟨B, 0, none⟩) 0 0) 0 [] :=
  ⟨by simp, .inr ⟨B, 0, #[], rfl, hb, h, Nat.le_refl _, by unfold maxLen; omega, by simp, by simp⟩⟩
set_option maxRecDepth 8000 in
set_option maxHeartbeats 4000000 in
theorem l4Codes (v : Value) (ns : List Nd) (w : World) (h : RowAt 2 encNode w v ns) (hl : ns.length ≤ 100000) (hok : ∀ x ∈ ns, nodeB x.1 x.2 = true) :
    Calls Tryz.prog 72 #[v] w fun e w' => ∃ u, e = .returned u ∧ w'.ownsRow w.heap.size 3 1 u (ns.map cod).length ((ns.map cod).flatMap encI) ∧ Below w.heap.size w w' := by
  obtain ⟨a, cap, rfl⟩ := h.len
  obtain ⟨i0, hi, hz0, hz1, hz2⟩ := info_parts Tryz.infoI
  have H : Hid (RowAt 2 encNode w (.slice a ns.length cap) ns) := h
  have HOK : Hid (∀ x ∈ ns, nodeB x.1 x.2 = true) := hok
  clear h hok
  obtain ⟨n, hn⟩ : ∃ n, n = ns.length := ⟨_, rfl⟩
  have HN : Hid (n = ns.length) := hn
  rw [← hn] at H hl ⊢
  clear hn
  have b0 : Hid (Below w.heap.size w (w.alloc (.cells #[] 3))) := (Below.refl _ _).alloc (Nat.le_refl _) _
  go_enter Tryz.func72, Tryz.ntmps72
  go_wp2_with fail
  go_loopw [3, 4] (fun q i wr => ∃ k : Nat, k ≤ n ∧ i = .int .i64 k ∧ Below w.heap.size w wr ∧ wr.ownsRow w.heap.size 3 1 q k (((ns.take k).map cod).flatMap encI)) (fun _ i _ => n - (intOf i).toNat)
  case atStart => exact ⟨0, by omega, rfl, b0.out, own_new0 (new_block _ _) (Nat.le_refl _)⟩
  case round =>
    obtain ⟨k, hk, rfl, hbel, hown⟩ := hrel
    have hsz := hbel.size
    obtain ⟨xa, xc, rfl⟩ := own_form hown
    by_cases hlt : k < n
    · rcases H.out with ⟨hz, _⟩ | ⟨_, b1, o1, q1, hv1, hb1, E1⟩
      · have := HN.out; rw [hz] at this; simp at this; omega
      obtain rfl : a = some ⟨b1, o1, none⟩ := by injection hv1
      obtain ⟨⟨m0, m1⟩, hx⟩ : ∃ x, ns[k]? = some x := ⟨_, List.getElem?_eq_getElem (by rw [← HN.out]; exact hlt)⟩
      have e0 : wr.cell? ⟨b1, o1 + k * 2, none⟩ = some (.int .i64 m0) := by rw [Below.celz hbel _ _ _ hb1]; exact E1 k _ hx 0 _ rfl
      have e1 : wr.cell? ⟨b1, o1 + k * 2 + 1, none⟩ = some (.int .i64 m1) := by rw [Below.celz hbel _ _ _ hb1]; exact E1 k _ hx 1 _ rfl
      have z2 : b1 < wr.heap.size := by omega
      have k0 : (0 : Int) ≤ (k : Int) := by omega
      have k1 : (k : Int) < (n : Int) := by omega
      have HX : Hid (ns[k]? = some (m0, m1)) := hx
      have HB : Hid (Below w.heap.size w wr) := hbel
      have HO : Hid (wr.ownsRow w.heap.size 3 1 (.slice xa k xc) k (((ns.take k).map cod).flatMap encI)) := hown
      have HC : Hid (codeW m0 m1 = cod (m0, m1)) := codeW_ok (HOK.out _ (List.mem_of_getElem? hx))
      clear hx hbel E1 hv1 hown
      go_wp2_with fail
      refine (l2Code m0 m1 _).mono ?_
      rintro e w2 ⟨rfl, b2⟩
      rw [HC.out]
      have HB2 : Hid (Below w.heap.size w w2) := HB.out.trans (b2.mono HB.out.size)
      have HO2 : Hid (w2.ownsRow w.heap.size 3 1 (.slice xa k xc) k (((ns.take k).map cod).flatMap encI)) := own_keep HO.out b2
      have LT : Hid (∀ g, (Value.slice xa k xc).ownBlock = some g → w.heap.size ≤ g) := fun g hg => (HO2.out.lt g hg).1
      obtain ⟨cc, hcc⟩ : ∃ t, t = cod (m0, m1) := ⟨_, rfl⟩
      have HCC : Hid (cc = cod (m0, m1)) := hcc
      rw [← hcc]
      clear hcc HC
      clear b2 e0 e1 z2
      go_wp2_with (at_builtin; go_must (refine wpList_appRow encI_len (by decide) encI_one rfl _ _ 81 rfl Tryz.underlying81 hi hz0 hz1 hz2 rfl w.heap.size (.slice xa k xc) k _ (.slice (some ⟨w2.heap.size, 0, none⟩) 1 1) [cc] rfl rfl (HO2.out.alloc _) (new_rowI _ _ 3) (by unfold maxLen; simp; omega) (by simp; omega) (by have := HB2.out.size; simp; omega) ?_))
      intro v' w3 hown' hgrow _
      have R : Hid (Below w.heap.size w w3 ∧ w3.ownsRow w.heap.size 3 1 v' (k + 1) (((ns.take (k + 1)).map cod).flatMap encI)) := by
        refine ⟨(HB2.out.alloc HB2.out.size _).grown hgrow (by have := HB2.out.size; simp; omega) LT.out, ?_⟩
        have e : (ns.take (k + 1)).map cod = (ns.take k).map cod ++ [cc] := by rw [List.take_add_one, HX.out, List.map_append, HCC.out]; rfl
        rw [e, List.flatMap_append]; simpa using hown'
      clear hown' hgrow
      go_wp2_with fail
      go_roundw
      case rel => exact ⟨k + 1, by omega, by go_num, R.out⟩
      case measure => simp [intOf]; omega
    · have hkn : n = k := by omega
      subst hkn
      have HV : Hid (ns.take n = ns) := by show ns.take n = ns; rw [HN.out, List.take_length]
      have HO : Hid (wr.ownsRow w.heap.size 3 1 (.slice xa n xc) n (((ns.take n).map cod).flatMap encI)) := hown
      clear hown
      go_wp2_with fail
      go_ret
      refine ⟨_, rfl, ?_, hbel⟩
      have := HO.out
      rw [HV.out] at this
      rw [List.length_map, ← HN.out]
      exact this
/-- A graph under way: its box, and the two rows that have been laid so far. -/
structure OgAt (w : World) (O : Nat) (v u : Value) (N : List Nd) (E : List Ed) : Prop where
  box : w.heap[O]? = some (.cells #[v, u] 32 (0, 0))
  n : w.ownsRow (O + 1) 69 2 v N.length (N.flatMap encNode)
  e : w.ownsRow (O + 1) 72 5 u E.length (E.flatMap encEdge)
  ap : ∀ k, v.ownBlock = some k → u.ownBlock ≠ some k
theorem OgAt.keep {w w' : World} {O : Nat} {v u : Value} {N : List Nd} {E : List Ed} (h : OgAt w O v u N E) (hb : Below w.heap.size w w') : OgAt w' O v u N E :=
  ⟨(hb.block _ (lt_of_block h.box)).trans h.box, own_keep h.n hb, own_keep h.e hb, h.ap⟩
theorem OgAt.low {w : World} {O : Nat} {v u : Value} {N : List Nd} {E : List Ed} (h : OgAt w O v u N E) : (∀ g, v.ownBlock = some g → O < g ∧ g < w.heap.size) ∧ ∀ g, u.ownBlock = some g → O < g ∧ g < w.heap.size :=
  ⟨fun g hg => ⟨(h.n.lt g hg).1, (h.n.lt g hg).2⟩, fun g hg => ⟨(h.e.lt g hg).1, (h.e.lt g hg).2⟩⟩
/-- An edge more has been appended, and the new row has been stored. -/
theorem OgAt.putE {w w1 w3 : World} {O : Nat} {v u u' : Value} {N : List Nd} {E : List Ed} {x : Ed} (h : OgAt w O v u N E) (hb1 : Below w.heap.size w w1) (hg : w1.grownBy w3 u.ownBlock)
    (ho : w3.ownsRow (O + 1) 72 5 u' (E.length + 1) (E.flatMap encEdge ++ encEdge x)) (hat : u'.ownBlock = u.ownBlock ∨ ∃ k, u'.ownBlock = some k ∧ w.heap.size ≤ k) : OgAt (w3.setCell ⟨O, 1, none⟩ u') O v u' N (E ++ [x]) := by
  have hs := hb1.size
  have hO := lt_of_block h.box
  have l := h.low
  have hb : w3.heap[O]? = some (.cells #[v, u] 32 (0, 0)) := (hg.block O (by omega) (fun e => by have := (l.2 O e.symm).1; omega)).trans ((hb1.block O hO).trans h.box)
  have apN : ∀ k, v.ownBlock = some k → u'.ownBlock ≠ some k := fun k hk hu => by
    rcases hat with e | ⟨j, e, hj⟩
    · exact h.ap k hk (by rw [← e]; exact hu)
    · rw [e] at hu; cases hu; have := (l.1 k hk).2; omega
  have ne' : u'.ownBlock ≠ some O := fun e => by have := (ho.lt O e).1; omega
  have ne : v.ownBlock ≠ some O := fun e => by have := (l.1 O e).1; omega
  refine ⟨set_block _ hb, own_set (own_gr (own_keep h.n hb1) hg (fun k h1 h2 => h.ap k h1 h2)) ne _, ?_, apN⟩
  rw [List.length_append, List.flatMap_append]
  simpa using own_set ho ne' u'
/-- Nodes have been put in, and the graph has been stored whole. -/
theorem OgAt.putN {w w' : World} {O : Nat} {v u v' : Value} {N N' : List Nd} {E : List Ed} (h : OgAt w O v u N E) (hb : But (fun k => v.ownBlock = some k) w w') (ho : w'.ownsRow (O + 1) 69 2 v' N'.length (N'.flatMap encNode)) (hat : v'.ownBlock = v.ownBlock ∨ ∃ k, v'.ownBlock = some k ∧ w.heap.size ≤ k) :
    OgAt ((w'.setCell ⟨O, 0, none⟩ v').setCell ⟨O, 1, none⟩ u) O v' u N' E := by
  have hO := lt_of_block h.box
  have l := h.low
  have hbx : w'.heap[O]? = some (.cells #[v, u] 32 (0, 0)) := (hb.blk O hO (fun e => by have := (l.1 O e).1; omega)).trans h.box
  have apN : ∀ k, v'.ownBlock = some k → u.ownBlock ≠ some k := fun k hk hu => by
    rcases hat with e | ⟨j, e, hj⟩
    · exact h.ap k (by rw [← e]; exact hk) hu
    · rw [e] at hk; cases hk; have := (l.2 k hu).2; omega
  have ne' : v'.ownBlock ≠ some O := fun e => by have := (ho.lt O e).1; omega
  have ne : u.ownBlock ≠ some O := fun e => by have := (l.2 O e).1; omega
  have he : w'.ownsRow (O + 1) 72 5 u E.length (E.flatMap encEdge) := by
    obtain ⟨h1, h2 | ⟨g, cap, cur, rfl, hbb, hgk, hr⟩⟩ := h.e
    · exact ⟨h1, .inl h2⟩
    · exact ⟨h1, .inr ⟨g, cap, cur, rfl, hbb, by rw [hb.blk g (lt_of_block hgk) (fun e => h.ap g e (by simp [Value.ownBlock]))]; exact hgk, hr⟩⟩
  exact ⟨set_block _ (set_block _ hbx), own_set (own_set ho ne' _) ne' _, own_set (own_set he ne _) ne _, apN⟩
set_option maxRecDepth 8000 in
set_option maxHeartbeats 20000000 in
theorem l4Only_walk (a1 a2 : Option Addr) (n m c1 c2 : Nat) (l : Int) (es : List Ed) (w : World) (h2 : RowAt 5 encEdge w (.slice a2 m c2) es) (hM : m = es.length) (hm : m ≤ 1000) (he : ∀ x ∈ es, edB x = true) :
    Calls Tryz.prog 69 #[.agg #[.slice a1 n c1, .slice a2 m c2], .int .i64 l] w fun e w' => ∃ u1 u2, e = .returned (.agg #[u1, u2]) ∧ OwnGraph w' w.heap.size u1 u2 (onlyF (ofE l es)) (ofE l es) ∧ Below w.heap.size w w' := by
  obtain ⟨iE, jE, zE0, zE1, zE2⟩ := info_parts Tryz.infoEdge
  have H2 : Hid (RowAt 5 encEdge w (.slice a2 m c2) es) := h2
  have HN1 : Hid (m = es.length) := hM
  have HEB : Hid (∀ x ∈ es, edB x = true) := he
  clear h2 hM he
  obtain ⟨W0, hW0⟩ : ∃ W0, W0 = ((w.alloc (.cells #[.slice a1 n c1, .slice a2 m c2] 32)).alloc (.cells #[.slice none 0 0, .slice none 0 0] 32)).alloc (.cells #[.slice none 0 0, .slice none 0 0] 32) := ⟨_, rfl⟩
  obtain ⟨O, hO⟩ : ∃ O, O = w.heap.size + 1 + 1 := ⟨_, rfl⟩
  have b0 : Below w.heap.size w W0 := by rw [hW0]; go_grown
  have z0 : W0.heap.size = O + 1 := by rw [hW0, hO]; simp
  have G1 : W0.cell? ⟨w.heap.size, 1, none⟩ = some (.slice a2 m c2) := by rw [hW0]; simp [go_sem]
  have R0 : W0.heap[w.heap.size + 1]? = some (.cells #[.slice none 0 0, .slice none 0 0] 32 (0, 0)) := by rw [hW0, Below.heap_alloc _ _ _ (by simp)]; exact new_at' (by simp)
  have t0 : W0.heap[O]? = some (.cells #[.slice none 0 0, .slice none 0 0] 32 (0, 0)) := by rw [hW0]; exact new_at' (by rw [hO]; simp)
  have HB0 : Hid (Below w.heap.size w W0) := b0
  have HR0 : Hid (W0.heap[w.heap.size + 1]? = some (.cells #[.slice none 0 0, .slice none 0 0] 32 (0, 0))) := R0
  have HW0 : Hid (W0 = ((w.alloc (.cells #[.slice a1 n c1, .slice a2 m c2] 32)).alloc (.cells #[.slice none 0 0, .slice none 0 0] 32)).alloc (.cells #[.slice none 0 0, .slice none 0 0] 32)) := hW0
  have HO : Hid (O = w.heap.size + 1 + 1) := hO
  have o1 : w.heap.size + 1 < O := by omega
  clear b0 hW0 hO R0
  go_enter Tryz.func69, Tryz.ntmps69
  go_wp2_with fail
  rw [← HW0.out, ← HO.out]
  clear HW0 HO
  go_loopw [6] (fun i wr => ∃ (k : Nat) (v u : Value), k ≤ m ∧ i = .int .i64 k ∧ Below O W0 wr ∧ OgAt wr O v u (onlyF (ofE l (es.take k))) (ofE l (es.take k))) (fun i _ => m - (intOf i).toNat)
  case atStart => exact ⟨0, _, _, by omega, rfl, Below.refl _ _, ⟨t0, by simpa [ofE, onlyF] using World.ownsRow_nil _ _ _ _, by simpa [ofE] using World.ownsRow_nil _ _ _ _, fun k hk => by simp [Value.ownBlock] at hk⟩⟩
  case round =>
    clear t0
    obtain ⟨k, v, u, hk, rfl, hbel, hog⟩ := hrel
    have hsz := hbel.size
    have hzO : O < wr.heap.size := lt_of_block hog.box
    have g1 : wr.cell? ⟨w.heap.size, 1, none⟩ = some (.slice a2 m c2) := (Below.celz hbel _ _ _ (by omega)).trans G1
    have z1 : w.heap.size < wr.heap.size := by omega
    by_cases hlt : k < m
    · rcases H2.out with ⟨hz, _⟩ | ⟨_, b2, o2, q2, hv2, hb2, E2⟩
      · rw [hz] at HN1; have := HN1.out; simp at this; omega
      obtain rfl : a2 = some ⟨b2, o2, none⟩ := by injection hv2
      obtain ⟨⟨m0, m1, m2, m3, m4⟩, hx⟩ : ∃ x, es[k]? = some x := ⟨_, List.getElem?_eq_getElem (by rw [← HN1.out]; exact hlt)⟩
      have e0 : wr.cell? ⟨b2, o2 + k * 5, none⟩ = some (.int .i64 m0) := by rw [Below.celz hbel _ _ _ (by omega), Below.celz HB0.out _ _ _ hb2]; exact E2 k _ hx 0 _ rfl
      have e1 : wr.cell? ⟨b2, o2 + k * 5 + 1, none⟩ = some (.int .i64 m1) := by rw [Below.celz hbel _ _ _ (by omega), Below.celz HB0.out _ _ _ hb2]; exact E2 k _ hx 1 _ rfl
      have e2 : wr.cell? ⟨b2, o2 + k * 5 + 2, none⟩ = some (.int .i64 m2) := by rw [Below.celz hbel _ _ _ (by omega), Below.celz HB0.out _ _ _ hb2]; exact E2 k _ hx 2 _ rfl
      have e3 : wr.cell? ⟨b2, o2 + k * 5 + 3, none⟩ = some (.int .i64 m3) := by rw [Below.celz hbel _ _ _ (by omega), Below.celz HB0.out _ _ _ hb2]; exact E2 k _ hx 3 _ rfl
      have e4 : wr.cell? ⟨b2, o2 + k * 5 + 4, none⟩ = some (.int .i64 m4) := by rw [Below.celz hbel _ _ _ (by omega), Below.celz HB0.out _ _ _ hb2]; exact E2 k _ hx 4 _ rfl
      have e2' : wr.cell? ⟨b2, o2 + k * 5 + 1 + 1, none⟩ = some (.int .i64 m2) := e2
      have e4' : wr.cell? ⟨b2, o2 + k * 5 + 3 + 1, none⟩ = some (.int .i64 m4) := e4
      have z3 : b2 < wr.heap.size := by omega
      have bO : b2 < O := by omega
      have k0 : (0 : Int) ≤ (k : Int) := by omega
      have k1 : (k : Int) < (m : Int) := by omega
      have HX : Hid (es[k]? = some (m0, m1, m2, m3, m4)) := hx
      have HED : Hid (edB (m0, m1, m2, m3, m4) = true) := HEB.out _ (List.mem_of_getElem? hx)
      have HB : Hid (Below O W0 wr) := hbel
      have HST : Hid (ofE l (es.take (k + 1)) = if m0 = l then ofE l (es.take k) ++ [(m0, m1, m2, m3, m4)] else ofE l (es.take k)) := ofE_step hx
      obtain ⟨E, hE⟩ : ∃ t, t = ofE l (es.take k) := ⟨_, rfl⟩
      obtain ⟨N, hN⟩ : ∃ t, t = onlyF E := ⟨_, rfl⟩
      have HEN : Hid (E = ofE l (es.take k) ∧ N = onlyF E) := ⟨hE, hN⟩
      have HEO : Hid (∀ x ∈ E, edB x = true) := fun x hx => HEB.out x (List.mem_of_mem_take (List.mem_filter.1 (by rw [hE] at hx; exact hx)).1)
      have lE : E.length ≤ 1000 := by have := ofE_take_le l es k; rw [← hE] at this; omega
      have lN : N.length ≤ 2000 := by have := onlyF_len HEO.out; rw [← hN] at this; omega
      rw [← hE] at hog HST
      rw [← hN] at hog
      have HG : Hid (OgAt wr O v u N E) := hog
      clear hx hbel E2 hv2 hog hE hN
      by_cases hm0 : ¬ m0 = l
      · have d0 : (m0 != l) = true := by simpa using hm0
        have HV : Hid (ofE l (es.take (k + 1)) = E) := by have := HST.out; rwa [if_neg hm0] at this
        clear hm0
        go_wp2_with fail
        go_roundw
        case rel => exact ⟨k + 1, v, u, by omega, by go_num, HB.out, by rw [HV.out, ← HEN.out.2]; exact HG.out⟩
        case measure => simp [intOf]; omega
      have hm1 : m0 = l := by omega
      subst hm1
      have d0 : (m0 != m0) = false := by simp
      have HV : Hid (ofE m0 (es.take (k + 1)) = E ++ [(m0, m1, m2, m3, m4)]) := by have := HST.out; rwa [if_pos rfl] at this
      clear HST
      obtain ⟨va, vc, rfl⟩ := own_form HG.out.n
      obtain ⟨ua, uc, rfl⟩ := own_form HG.out.e
      have g2 : wr.cell? ⟨O, 1, none⟩ = some (.slice ua E.length uc) := by rw [cell_block HG.out.box]; rfl
      have hf : wr.frozen? ⟨O, 1, none⟩ = false := free_block HG.out.box
      have ap1 : some O ≠ (Value.slice ua E.length uc).ownBlock := fun h => by have := (HG.out.low.2 _ h.symm).1; omega
      have hS : Hid (∀ w', Below wr.heap.size wr w' → w'.cell? ⟨O, 1, none⟩ = some (.slice ua E.length uc) ∧ w'.frozen? ⟨O, 1, none⟩ = false) :=
        fun w' hn => ⟨(Below.celz hn _ _ _ hzO).trans g2, (Below.froz hn _ _ _ hzO).trans hf⟩
      have hown := HG.out.e
      have HK : Hid (∀ W, Below O W0 W → W.cell? ⟨w.heap.size, 1, none⟩ = some (.slice (some ⟨b2, o2, none⟩) m c2) ∧ W.cell? ⟨b2, o2 + k * 5, none⟩ = some (.int .i64 m0) ∧ W.cell? ⟨b2, o2 + k * 5 + 1, none⟩ = some (.int .i64 m1) ∧ W.cell? ⟨b2, o2 + k * 5 + 2, none⟩ = some (.int .i64 m2) ∧ W.cell? ⟨b2, o2 + k * 5 + 3, none⟩ = some (.int .i64 m3) ∧ W.cell? ⟨b2, o2 + k * 5 + 4, none⟩ = some (.int .i64 m4)) := fun W hW => by
        have hh : ∀ j, W.cell? ⟨b2, j, none⟩ = wr.cell? ⟨b2, j, none⟩ := fun j => (Below.celz hW _ _ _ bO).trans (Below.celz HB.out _ _ _ bO).symm
        exact ⟨(Below.celz hW _ _ _ (by omega)).trans G1, by rw [hh, e0], by rw [hh, e1], by rw [hh, e2], by rw [hh, e3], by rw [hh, e4]⟩
      have HOK0 : Hid (∀ y ∈ N, nodeB y.1 y.2 = true) := fun y hy => onlyF_ok HEO.out y (by rw [← HEN.out.2]; exact hy)
      go_wp2_with fail
      go_upto_region 6 with fail
      go_cut [31] (fun s31 wx => ∃ (ya : Option Addr) (yn yc : Nat), OgAt wx O (.slice va N.length vc) (.slice ya yn yc) N (E ++ [(m0, m1, m2, m3, m4)]) ∧ Below O W0 wx)
      case first =>
        go_region_law
          ((refine step_append_lies _ (by rfl) _ _ _ (by rfl) (O + 1) 72 iE _ 5 40 Tryz.underlying30 jE zE0 zE1 zE2 rfl (by omega) (.slice ua E.length uc) _ _ (by rfl) ((hown.alloc _).drew) ⟨wr.heap.size, 0, none⟩ 1 1 [.int .i64 m0, .int .i64 m1, .int .i64 m2, .int .i64 m3, .int .i64 m4] (by rfl) (by rfl) (World.news_of_block (cs := #[.int .i64 m0, .int .i64 m1, .int .i64 m2, .int .i64 m3, .int .i64 m4]) (t := 72) (fr := (0, 0)) (heap_alloc_new wr _)) (by simp [Value.oneCell']) (by omega) (by unfold maxLen; omega) (by omega) (by simp; omega) (wr.heap.size + 1) (by simp) ?_; intro gg cap w3 hown1 hgrow hat hlt3; have g3 := hgrow.cell (hS.out _ ((Below.alloc (Below.refl wr.heap.size wr) (Nat.le_refl _) (.cells #[.int .i64 m0, .int .i64 m1, .int .i64 m2, .int .i64 m3, .int .i64 m4] 72)).drew)).1 ap1; have f3 : w3.frozen? ⟨O, 1, none⟩ = false := by rw [hgrow.frozen_far _ (by simp; omega) ap1]; exact (hS.out _ ((Below.alloc (Below.refl wr.heap.size wr) (Nat.le_refl _) (.cells #[.int .i64 m0, .int .i64 m1, .int .i64 m2, .int .i64 m3, .int .i64 m4] 72)).drew)).2))
        all_goals (
          have HG1 : OgAt (w3.setCell ⟨O, 1, none⟩ (.slice (some ⟨gg, 0, none⟩) (E.length + 1) cap)) O (.slice va N.length vc) (.slice (some ⟨gg, 0, none⟩) (E.length + 1) cap) N (E ++ [(m0, m1, m2, m3, m4)]) := HG.out.putE ((Below.alloc (Below.refl wr.heap.size wr) (Nat.le_refl _) (.cells #[.int .i64 m0, .int .i64 m1, .int .i64 m2, .int .i64 m3, .int .i64 m4] 72)).drew) hgrow hown1 (hat.elim (fun h5 => .inl h5.symm) (fun h5 => .inr ⟨gg, rfl, by first | omega | (simp at h5; omega)⟩))
          have HB1 : Below O W0 (w3.setCell ⟨O, 1, none⟩ (.slice (some ⟨gg, 0, none⟩) (E.length + 1) cap)) := ((HB.out.trans (Below.mono ((Below.alloc (Below.refl wr.heap.size wr) (Nat.le_refl _) (.cells #[.int .i64 m0, .int .i64 m1, .int .i64 m2, .int .i64 m3, .int .i64 m4] 72)).drew) (by omega))).grown hgrow (by simp; omega) (fun g hg => Nat.le_of_lt (HG.out.low.2 g hg).1)).setCell (Nat.le_refl _) _
          have HGB : Hid (OgAt (w3.setCell ⟨O, 1, none⟩ (.slice (some ⟨gg, 0, none⟩) (E.length + 1) cap)) O (.slice va N.length vc) (.slice (some ⟨gg, 0, none⟩) (E.length + 1) cap) N (E ++ [(m0, m1, m2, m3, m4)]) ∧ Below O W0 (w3.setCell ⟨O, 1, none⟩ (.slice (some ⟨gg, 0, none⟩) (E.length + 1) cap))) := ⟨HG1, HB1⟩
          clear HG1 HB1 hown1 hgrow hat hlt3 hown
          go_wp2_with fail
          go_meet
          exact ⟨_, _, _, HGB.out⟩)
      case rest =>
        obtain ⟨ya, yn, yc, hG1, hB1⟩ := hcut
        generalize wc = X1 at *
        have HG1 : Hid (OgAt X1 O (.slice va N.length vc) (.slice ya yn yc) N (E ++ [(m0, m1, m2, m3, m4)])) := hG1
        have HB1 : Hid (Below O W0 X1) := hB1
        clear hG1 hB1 hown g2 hf hS ap1 e0 e1 e2 e2' e3 e4 e4' g1 z1 z3 hzO
        obtain ⟨g1, e0, e1, e2, e3, e4⟩ := HK.out X1 HB1.out
        have e2' : X1.cell? ⟨b2, o2 + k * 5 + 1 + 1, none⟩ = some (.int .i64 m2) := e2
        have e4' : X1.cell? ⟨b2, o2 + k * 5 + 3 + 1, none⟩ = some (.int .i64 m4) := e4
        have zO : O < X1.heap.size := lt_of_block HG1.out.box
        have z1 : w.heap.size < X1.heap.size := by omega
        have z3 : b2 < X1.heap.size := by omega
        have c0 : X1.cell? ⟨O, 0, none⟩ = some (.slice va N.length vc) := by rw [cell_block HG1.out.box]; rfl
        have c1 : X1.cell? ⟨O, 1, none⟩ = some (.slice ya yn yc) := by rw [cell_block HG1.out.box]; rfl
        obtain ⟨av, hav⟩ : ∃ t, t = atN N (m1, m2) 0 := ⟨_, rfl⟩
        have tX : Hid (∀ p : After X1, Calls Tryz.prog 44 #[.agg #[.slice va N.length vc, .slice ya yn yc], .agg #[.int .i64 m1, .int .i64 m2]] p.w fun e w' => e = .returned (.int .i64 av) ∧ Below p.w.heap.size p.w w') := fun p => by
          rw [hav]
          exact l2At va _ _ yn vc yc N m1 m2 _ (row_of_own encNode_len (by decide) (HG1.out.keep p.bel).n) rfl (by omega)
        have HSG : Hid (decide (av < 0) = !decide ((m1, m2) ∈ N)) := by show decide (av < 0) = _; rw [hav]; exact atN_sign (x := (m1, m2)) N 0
        clear hav
        go_wp2_with fail
        refine wp_region_after (by kernel_rfl) (by kernel_rfl) ?_
        intro hne hac
        repeat (go_big_quiet_step (first | (go_at_call 44; exact after_of (tX.out _))))
        refine wpQuiet_nil ?_
        rintro _ ⟨p, rfl⟩
        have nb : Below X1.heap.size X1 p.w := p.bel
        clear hac hne tX
        generalize p.w = Y0 at *
        have G0 : Hid (OgAt Y0 O (.slice va N.length vc) (.slice ya yn yc) N (E ++ [(m0, m1, m2, m3, m4)])) := HG1.out.keep nb
        have B0 : Hid (Below O W0 Y0) := HB1.out.trans (nb.mono (by omega))
        clear nb g1 e0 e1 e2 e2' e3 e4 e4' z1 z3 zO c0 c1
        have HOK0' : Hid (∀ y ∈ putIn N (m1, m2), nodeB y.1 y.2 = true) := fun y hy => by
          unfold putIn at hy
          split at hy
          · exact HOK0.out y hy
          · rcases mem_insN.1 hy with rfl | h
            · exact (ends_ok HED.out).1
            · exact HOK0.out y h
        have HLL0 : Hid ((putIn N (m1, m2)).length ≤ 2001) := by show _ ≤ _; have := putIn_len N (m1, m2); omega
        go_upto_if 41 with fail
        go_cut [49] (fun sc wx => ∃ (xa : Option Addr) (xc : Nat), OgAt wx O (.slice xa (putIn N (m1, m2)).length xc) (.slice ya yn yc) (putIn N (m1, m2)) (E ++ [(m0, m1, m2, m3, m4)]) ∧ Below O W0 wx)
        case first =>
          by_cases hin : (m1, m2) ∈ N
          · have hd : decide (av < 0) = false := by rw [HSG.out]; simp [hin]
            have hd2 : ¬ av < 0 := by simpa using hd
            have HIN : Hid (putIn N (m1, m2) = N) := by show putIn _ _ = _; unfold putIn; simp [hin]
            clear hin
            go_wp2_with fail
            go_meet
            exact ⟨_, _, by rw [HIN.out]; exact G0.out, B0.out⟩
          · have hd : decide (av < 0) = true := by rw [HSG.out]; simp [hin]
            have hd2 : av < 0 := by simpa using hd
            have HIN : Hid (putIn N (m1, m2) = insN (m1, m2) N) := by show putIn _ _ = _; unfold putIn; simp [hin]
            clear hin
            obtain ⟨g1, e0, e1, e2, e3, e4⟩ := HK.out Y0 B0.out
            have e2' : Y0.cell? ⟨b2, o2 + k * 5 + 1 + 1, none⟩ = some (.int .i64 m2) := e2
            have e4' : Y0.cell? ⟨b2, o2 + k * 5 + 3 + 1, none⟩ = some (.int .i64 m4) := e4
            have zO : O < Y0.heap.size := lt_of_block G0.out.box
            have z1 : w.heap.size < Y0.heap.size := by omega
            have z3 : b2 < Y0.heap.size := by omega
            have c0 : Y0.cell? ⟨O, 0, none⟩ = some (.slice va N.length vc) := by rw [cell_block G0.out.box]; rfl
            have c1 : Y0.cell? ⟨O, 1, none⟩ = some (.slice ya yn yc) := by rw [cell_block G0.out.box]; rfl
            go_wp2_with fail
            have hput : Hid (Calls Tryz.prog 89 #[.agg #[.slice va N.length vc, .slice ya yn yc], .agg #[.int .i64 m1, .int .i64 m2]] Y0.drew fun e w' => ∃ xa xc, e = .returned (.agg #[.slice xa (N.length + 1) xc, .slice ya yn yc]) ∧ w'.ownsRow (O + 1) 69 2 (.slice xa (N.length + 1) xc) (insW (m1, m2) N).length ((insW (m1, m2) N).flatMap encNode) ∧ But (fun k => (Value.slice va N.length vc).ownBlock = some k) Y0 w' ∧ ((Value.slice xa (N.length + 1) xc).ownBlock = (Value.slice va N.length vc).ownBlock ∨ ∃ k, (Value.slice xa (N.length + 1) xc).ownBlock = some k ∧ Y0.heap.size ≤ k)) :=
              (l2PutNode (O + 1) yn yc ya _ N m1 m2 _ (G0.out.n.drew) (by show O + 1 ≤ Y0.heap.size; omega) (by omega)).mono fun e w' ⟨u, h1, h2, h3, h4⟩ => by
                obtain ⟨xa, xc, hu⟩ := own_form h2
                rw [insW_len] at hu
                subst hu
                exact ⟨xa, xc, h1, h2, ⟨h3.os, h3.tape, h3.output, h3.size, h3.blk⟩, h4⟩
            go_region_with
              (first | (go_at_call 89; refine hput.out.mono ?_; rintro e w4 ⟨xa, xc, rfl, ho4, hbut, hat⟩; have hb4 : w4.heap[O]? = some (.cells #[.slice va N.length vc, .slice ya yn yc] 32 (0, 0)) := (by rw [hbut.blk O (by omega) (fun e => by have := (G0.out.low.1 O e).1; omega)]; exact G0.out.box); have q0 : w4.cell? ⟨O, 0, none⟩ = some (.slice va N.length vc) := (by rw [cell_block hb4]; rfl); have q1 : w4.cell? ⟨O, 1, none⟩ = some (.slice ya yn yc) := (by rw [cell_block hb4]; rfl); have qf : ∀ o, w4.frozen? ⟨O, o, none⟩ = false := (fun o => free_block hb4)))
            all_goals (
              have HIW : Hid (insW (m1, m2) N = putIn N (m1, m2)) := (insW_eq (ends_ok HED.out).1 HOK0.out).trans HIN.out.symm
              have hln : (putIn N (m1, m2)).length = N.length + 1 := by rw [HIN.out, insN_len]
              rw [HIW.out] at ho4
              have HZ : Hid (OgAt ((w4.setCell ⟨O, 0, none⟩ (.slice xa (N.length + 1) xc)).setCell ⟨O, 1, none⟩ (.slice ya yn yc)) O (.slice xa (putIn N (m1, m2)).length xc) (.slice ya yn yc) (putIn N (m1, m2)) (E ++ [(m0, m1, m2, m3, m4)]) ∧ Below O W0 ((w4.setCell ⟨O, 0, none⟩ (.slice xa (N.length + 1) xc)).setCell ⟨O, 1, none⟩ (.slice ya yn yc))) := by
                refine ⟨?_, ((hbut.below B0.out (by omega) (fun g hg => Nat.le_of_lt (G0.out.low.1 g hg).1)).setCell (Nat.le_refl _) _).setCell (Nat.le_refl _) _⟩
                have := G0.out.putN hbut ho4 hat
                rw [hln]; exact this
              clear ho4 hbut hat hb4 HIW hln
              go_wp2_with fail
              go_meet
              exact ⟨_, _, HZ.out⟩)
        case rest =>
          obtain ⟨ra0, rc0, hG, hB⟩ := hcut
          generalize wc = Z0 at *
          obtain ⟨M0, hM⟩ : ∃ t, t = putIn N (m1, m2) := ⟨_, rfl⟩
          have HP0 : Hid (putIn N (m1, m2) = M0) := hM.symm
          rw [← hM] at hG
          have Z0G : Hid (OgAt Z0 O (.slice ra0 M0.length rc0) (.slice ya yn yc) M0 (E ++ [(m0, m1, m2, m3, m4)])) := hG
          have Z0B : Hid (Below O W0 Z0) := hB
          have HOK1 : Hid (∀ y ∈ M0, nodeB y.1 y.2 = true) := fun y hy => HOK0'.out y (by rw [HP0.out]; exact hy)
          have lM0 : M0.length ≤ 2001 := by have := HLL0.out; rw [HP0.out] at this; exact this
          clear hG hB hM
          obtain ⟨g1, e0, e1, e2, e3, e4⟩ := HK.out Z0 Z0B.out
          have e2' : Z0.cell? ⟨b2, o2 + k * 5 + 1 + 1, none⟩ = some (.int .i64 m2) := e2
          have e4' : Z0.cell? ⟨b2, o2 + k * 5 + 3 + 1, none⟩ = some (.int .i64 m4) := e4
          have zO : O < Z0.heap.size := lt_of_block Z0G.out.box
          have z1 : w.heap.size < Z0.heap.size := by omega
          have z3 : b2 < Z0.heap.size := by omega
          have c0 : Z0.cell? ⟨O, 0, none⟩ = some (.slice ra0 M0.length rc0) := by rw [cell_block Z0G.out.box]; rfl
          have c1 : Z0.cell? ⟨O, 1, none⟩ = some (.slice ya yn yc) := by rw [cell_block Z0G.out.box]; rfl
          obtain ⟨av, hav⟩ : ∃ t, t = atN M0 (m3, m4) 0 := ⟨_, rfl⟩
          have tX : Hid (∀ p : After Z0, Calls Tryz.prog 44 #[.agg #[.slice ra0 M0.length rc0, .slice ya yn yc], .agg #[.int .i64 m3, .int .i64 m4]] p.w fun e w' => e = .returned (.int .i64 av) ∧ Below p.w.heap.size p.w w') := fun p => by
            rw [hav]
            exact l2At ra0 _ _ yn rc0 yc M0 m3 m4 _ (row_of_own encNode_len (by decide) (Z0G.out.keep p.bel).n) rfl (by omega)
          have HSG : Hid (decide (av < 0) = !decide ((m3, m4) ∈ M0)) := by show decide (av < 0) = _; rw [hav]; exact atN_sign (x := (m3, m4)) M0 0
          clear hav
          go_wp2_with fail
          refine wp_region_after (by kernel_rfl) (by kernel_rfl) ?_
          intro hne hac
          repeat (go_big_quiet_step (first | (go_at_call 44; exact after_of (tX.out _))))
          refine wpQuiet_nil ?_
          rintro _ ⟨p, rfl⟩
          have nb : Below Z0.heap.size Z0 p.w := p.bel
          clear hac hne tX
          generalize p.w = Y1 at *
          have G1 : Hid (OgAt Y1 O (.slice ra0 M0.length rc0) (.slice ya yn yc) M0 (E ++ [(m0, m1, m2, m3, m4)])) := Z0G.out.keep nb
          have B1 : Hid (Below O W0 Y1) := Z0B.out.trans (nb.mono (by omega))
          clear nb g1 e0 e1 e2 e2' e3 e4 e4' z1 z3 zO c0 c1
          have HOK1' : Hid (∀ y ∈ putIn M0 (m3, m4), nodeB y.1 y.2 = true) := fun y hy => by
            unfold putIn at hy
            split at hy
            · exact HOK1.out y hy
            · rcases mem_insN.1 hy with rfl | h
              · exact (ends_ok HED.out).2.1
              · exact HOK1.out y h
          have HLL1 : Hid ((putIn M0 (m3, m4)).length ≤ 2002) := by show _ ≤ _; have := putIn_len M0 (m3, m4); omega
          by_cases hin : (m3, m4) ∈ M0
          · have hd : decide (av < 0) = false := by rw [HSG.out]; simp [hin]
            have hd2 : ¬ av < 0 := by simpa using hd
            have HIN : Hid (putIn M0 (m3, m4) = M0) := by show putIn _ _ = _; unfold putIn; simp [hin]
            clear hin
            go_wp2_with fail
            go_roundw
            case rel =>
              refine ⟨k + 1, .slice ra0 M0.length rc0, .slice ya yn yc, by omega, by go_num, B1.out, ?_⟩
              have hq : onlyF (ofE m0 (es.take (k + 1))) = putIn M0 (m3, m4) := by
                rw [HV.out, onlyF_snoc, ← HEN.out.2]
                show putIn (putIn N (m1, m2)) (m3, m4) = _
                rw [HP0.out]
              rw [hq, HV.out]
              exact (by rw [HIN.out]; exact G1.out)
            case measure => simp [intOf]; omega
          · have hd : decide (av < 0) = true := by rw [HSG.out]; simp [hin]
            have hd2 : av < 0 := by simpa using hd
            have HIN : Hid (putIn M0 (m3, m4) = insN (m3, m4) M0) := by show putIn _ _ = _; unfold putIn; simp [hin]
            clear hin
            obtain ⟨g1, e0, e1, e2, e3, e4⟩ := HK.out Y1 B1.out
            have e2' : Y1.cell? ⟨b2, o2 + k * 5 + 1 + 1, none⟩ = some (.int .i64 m2) := e2
            have e4' : Y1.cell? ⟨b2, o2 + k * 5 + 3 + 1, none⟩ = some (.int .i64 m4) := e4
            have zO : O < Y1.heap.size := lt_of_block G1.out.box
            have z1 : w.heap.size < Y1.heap.size := by omega
            have z3 : b2 < Y1.heap.size := by omega
            have c0 : Y1.cell? ⟨O, 0, none⟩ = some (.slice ra0 M0.length rc0) := by rw [cell_block G1.out.box]; rfl
            have c1 : Y1.cell? ⟨O, 1, none⟩ = some (.slice ya yn yc) := by rw [cell_block G1.out.box]; rfl
            go_wp2_with fail
            have hput : Hid (Calls Tryz.prog 89 #[.agg #[.slice ra0 M0.length rc0, .slice ya yn yc], .agg #[.int .i64 m3, .int .i64 m4]] Y1.drew fun e w' => ∃ xa xc, e = .returned (.agg #[.slice xa (M0.length + 1) xc, .slice ya yn yc]) ∧ w'.ownsRow (O + 1) 69 2 (.slice xa (M0.length + 1) xc) (insW (m3, m4) M0).length ((insW (m3, m4) M0).flatMap encNode) ∧ But (fun k => (Value.slice ra0 M0.length rc0).ownBlock = some k) Y1 w' ∧ ((Value.slice xa (M0.length + 1) xc).ownBlock = (Value.slice ra0 M0.length rc0).ownBlock ∨ ∃ k, (Value.slice xa (M0.length + 1) xc).ownBlock = some k ∧ Y1.heap.size ≤ k)) :=
              (l2PutNode (O + 1) yn yc ya _ M0 m3 m4 _ (G1.out.n.drew) (by show O + 1 ≤ Y1.heap.size; omega) (by omega)).mono fun e w' ⟨u, h1, h2, h3, h4⟩ => by
                obtain ⟨xa, xc, hu⟩ := own_form h2
                rw [insW_len] at hu
                subst hu
                exact ⟨xa, xc, h1, h2, ⟨h3.os, h3.tape, h3.output, h3.size, h3.blk⟩, h4⟩
            go_region_with
              (first | (go_at_call 89; refine hput.out.mono ?_; rintro e w4 ⟨xa, xc, rfl, ho4, hbut, hat⟩; have hb4 : w4.heap[O]? = some (.cells #[.slice ra0 M0.length rc0, .slice ya yn yc] 32 (0, 0)) := (by rw [hbut.blk O (by omega) (fun e => by have := (G1.out.low.1 O e).1; omega)]; exact G1.out.box); have q0 : w4.cell? ⟨O, 0, none⟩ = some (.slice ra0 M0.length rc0) := (by rw [cell_block hb4]; rfl); have q1 : w4.cell? ⟨O, 1, none⟩ = some (.slice ya yn yc) := (by rw [cell_block hb4]; rfl); have qf : ∀ o, w4.frozen? ⟨O, o, none⟩ = false := (fun o => free_block hb4)))
            all_goals (
              have HIW : Hid (insW (m3, m4) M0 = putIn M0 (m3, m4)) := (insW_eq (ends_ok HED.out).2.1 HOK1.out).trans HIN.out.symm
              have hln : (putIn M0 (m3, m4)).length = M0.length + 1 := by rw [HIN.out, insN_len]
              rw [HIW.out] at ho4
              have HZ : Hid (OgAt ((w4.setCell ⟨O, 0, none⟩ (.slice xa (M0.length + 1) xc)).setCell ⟨O, 1, none⟩ (.slice ya yn yc)) O (.slice xa (putIn M0 (m3, m4)).length xc) (.slice ya yn yc) (putIn M0 (m3, m4)) (E ++ [(m0, m1, m2, m3, m4)]) ∧ Below O W0 ((w4.setCell ⟨O, 0, none⟩ (.slice xa (M0.length + 1) xc)).setCell ⟨O, 1, none⟩ (.slice ya yn yc))) := by
                refine ⟨?_, ((hbut.below B1.out (by omega) (fun g hg => Nat.le_of_lt (G1.out.low.1 g hg).1)).setCell (Nat.le_refl _) _).setCell (Nat.le_refl _) _⟩
                have := G1.out.putN hbut ho4 hat
                rw [hln]; exact this
              clear ho4 hbut hat hb4 HIW hln
              go_wp2_with fail
              go_roundw
              case rel =>
                refine ⟨k + 1, .slice xa (putIn M0 (m3, m4)).length xc, .slice ya yn yc, by omega, by go_num, HZ.out.2, ?_⟩
                have hq : onlyF (ofE m0 (es.take (k + 1))) = putIn M0 (m3, m4) := by
                  rw [HV.out, onlyF_snoc, ← HEN.out.2]
                  show putIn (putIn N (m1, m2)) (m3, m4) = _
                  rw [HP0.out]
                rw [hq, HV.out]
                exact (HZ.out.1)
              case measure => simp [intOf]; omega)
    · have hkm : m = k := by omega
      subst hkm
      have HV : Hid (es.take m = es) := by show es.take m = es; rw [HN1.out, List.take_length]
      rw [HV.out] at hog
      obtain ⟨va, vc, rfl⟩ := own_form hog.n
      obtain ⟨ua, uc, rfl⟩ := own_form hog.e
      have g2 : wr.cell? ⟨O, 0, none⟩ = some (.slice va (onlyF (ofE l es)).length vc) := by rw [cell_block hog.box]; rfl
      have g3 : wr.cell? ⟨O, 1, none⟩ = some (.slice ua (ofE l es).length uc) := by rw [cell_block hog.box]; rfl
      have rb : wr.heap[w.heap.size + 1]? = some (.cells #[.slice none 0 0, .slice none 0 0] 32 (0, 0)) := (hbel.block _ o1).trans HR0.out
      have y0 : wr.cell? ⟨w.heap.size + 1, 0, none⟩ = some (.slice none 0 0) := by rw [cell_block rb]; rfl
      have y1 : wr.cell? ⟨w.heap.size + 1, 1, none⟩ = some (.slice none 0 0) := by rw [cell_block rb]; rfl
      have yf : ∀ o, wr.frozen? ⟨w.heap.size + 1, o, none⟩ = false := fun o => free_block rb
      have HF : Hid (Below w.heap.size w wr ∧ OgAt wr O (.slice va (onlyF (ofE l es)).length vc) (.slice ua (ofE l es).length uc) (onlyF (ofE l es)) (ofE l es)) := ⟨HB0.out.trans (hbel.mono (by omega)), hog⟩
      clear hbel hog rb
      go_wp2_with fail
      try simp only [Exit.inBlock, Exit.then]
      refine bodyPost_ret (v := .agg #[.slice va (onlyF (ofE l es)).length vc, .slice ua (ofE l es).length uc]) (by simp [*, results, Tryz.results69, go_sem]) rfl ?_
      obtain ⟨f1, f2⟩ := HF.out
      refine ⟨_, _, rfl, ⟨?_, ?_, f2.ap⟩, (f1.setCell (by simp) _).setCell (by simp) _⟩
      · exact own_mono (ownsRow_setCell_below (ownsRow_setCell_below f2.n (a := ⟨w.heap.size + 1, 0, none⟩) (by simp; omega) _) (a := ⟨w.heap.size + 1, 1, none⟩) (by simp; omega) _) (by omega)
      · exact own_mono (ownsRow_setCell_below (ownsRow_setCell_below f2.e (a := ⟨w.heap.size + 1, 0, none⟩) (by simp; omega) _) (a := ⟨w.heap.size + 1, 1, none⟩) (by simp; omega) _) (by omega)
theorem l4Only (v1 v2 : Value) (n : Nat) (l : Int) (es : List Ed) (w : World) (h1 : ∃ a c, v1 = .slice a n c) (h2 : RowAt 5 encEdge w v2 es) (hm : es.length ≤ 1000) (he : ∀ x ∈ es, edB x = true) :
    Calls Tryz.prog 69 #[.agg #[v1, v2], .int .i64 l] w fun e w' => ∃ u1 u2, e = .returned (.agg #[u1, u2]) ∧ OwnGraph w' w.heap.size u1 u2 (onlyF (ofE l es)) (ofE l es) ∧ Below w.heap.size w w' := by
  obtain ⟨a1, c1, rfl⟩ := h1
  obtain ⟨a2, c2, rfl⟩ := h2.len
  exact l4Only_walk a1 a2 n _ c1 c2 l es w h2 rfl hm he
end Go.Proofs.YtlnpbfeihjfnjabGreatDoor.Lab

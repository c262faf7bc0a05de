/-
  A shelf of places: a ring and a map by pages. What leave, follow, trim, use and pool do to it.
-/
import Derived.Test.YtcifjildjiakgaaDoorPlc
import Derived.Test.YtcifjildjiakgaaDoorPag
import Derived.Test.YtcifjildjiakgaaDoorPol
import Derived.Test.YtcifjildjiakgaaDoorUpl
import Derived.Deep.RegionHeld3
namespace Go.Proofs.YtcifjildjiakgaaDoor.Lab
open Go.RowKit Go.ChangeMaps
set_option linter.unusedVariables false
theorem PlAt.upd3 {w : World} {x a h : Nat} {p : Int × Int} (hp : PlAt w x p a h) (c v : Nat) : PlAt (w.setCell ⟨c, 3, none⟩ (ptr v)) x p a (if x = c then v else h) := by
  by_cases e : x = c
  · subst e; rw [if_pos rfl]; exact hp.set3 v
  · rw [if_neg e]; exact hp.other (by simpa using e) _
theorem PlAt.upd2 {w : World} {x a h : Nat} {p : Int × Int} (hp : PlAt w x p a h) (c v : Nat) : PlAt (w.setCell ⟨c, 2, none⟩ (ptr v)) x p (if x = c then v else a) h := by
  by_cases e : x = c
  · subst e; rw [if_pos rfl]; exact hp.set2 v
  · rw [if_neg e]; exact hp.other (by simpa using e) _
theorem PlAt.heap {w w' : World} {x a h : Nat} {p : Int × Int} (hp : PlAt w x p a h) (e : w'.heap[x]? = w.heap[x]?) : PlAt w' x p a h := by unfold PlAt; rw [e]; exact hp
/-- A ring of places in memory. -/
def Ring (w : World) (base R : Nat) (bs : List Nat) (pg : Nat → Int × Int) (A H : Nat → Nat) : Prop :=
  (∀ b ∈ R :: bs, PlAt w b (pg b) (A b) (H b) ∧ base ≤ b) ∧ Linked A H R bs R ∧ (R :: bs).Nodup
theorem heap_sets {w : World} {k : Nat} {p q : Addr} {u v : Value} (h1 : k ≠ p.block) (h2 : k ≠ q.block) : ((w.setCell p u).setCell q v).heap[k]? = w.heap[k]? := by
  rw [Below.heap_setCell _ _ _ _ h2, Below.heap_setCell _ _ _ _ h1]
theorem Ring.of {w w' : World} {base R : Nat} {bs : List Nat} {pg : Nat → Int × Int} {A H : Nat → Nat} (h : Ring w base R bs pg A H) (e : ∀ b ∈ R :: bs, w'.heap[b]? = w.heap[b]?) : Ring w' base R bs pg A H :=
  ⟨fun b hb => ⟨(h.1 b hb).1.heap (e b hb), (h.1 b hb).2⟩, h.2⟩
/-- One leaves. -/
theorem Ring.leave {w w' : World} {base R b : Nat} {L1 L2 : List Nat} {pg : Nat → Int × Int} {A H : Nat → Nat} (h : Ring w base R (L1 ++ b :: L2) pg A H) (hh : w'.heap = ((w.setCell ⟨A b, 3, none⟩ (ptr (H b))).setCell ⟨H b, 2, none⟩ (ptr (A b))).heap) :
    Ring w' base R (L1 ++ L2) pg (upd A (H b) (A b)) (upd H (A b) (H b)) ∧ PlAt w' b (pg b) (A b) (H b) ∧ b ∉ R :: (L1 ++ L2) := by
  obtain ⟨h1, h2, h3⟩ := h
  have hsub : ∀ x, x ∈ R :: (L1 ++ L2) → x ∈ R :: (L1 ++ b :: L2) := fun x hx => by
    simp only [List.mem_cons, List.mem_append] at hx ⊢
    rcases hx with hx | hx | hx
    · exact .inl hx
    · exact .inr (.inl hx)
    · exact .inr (.inr (.inr hx))
  obtain ⟨k1, k2, k3⟩ := Linked.parts h2
  have hn := h3
  simp only [List.nodup_cons, List.nodup_append, List.mem_append, List.mem_cons, not_or] at hn
  have hb : b ∉ R :: (L1 ++ L2) := by
    simp only [List.mem_cons, List.mem_append, not_or]
    exact ⟨fun e => hn.1.2.1 e.symm, fun e => hn.2.2.2 b e b (.inl rfl) rfl, hn.2.2.1.1⟩
  have hab : b ≠ A b := fun e => by
    rw [← e] at k1
    rcases List.mem_cons.1 k1 with k | k
    · exact hn.1.2.1 k.symm
    · exact hn.2.2.2 b k b (.inl rfl) rfl
  have hhb : b ≠ H b := fun e => by
    rw [← e] at k2
    rcases k2 with k | k
    · exact hn.2.2.1.1 k
    · exact hn.1.2.1 k.symm
  have up : ∀ x ∈ R :: (L1 ++ b :: L2), PlAt w' x (pg x) (upd A (H b) (A b) x) (upd H (A b) (H b) x) := fun x hx => by
    have := ((h1 x hx).1.upd3 (A b) (H b)).upd2 (H b) (A b)
    unfold PlAt at this ⊢
    rw [hh]
    exact this
  refine ⟨⟨fun x hx => ⟨up x (hsub x hx), (h1 x (hsub x hx)).2⟩, h2.rem h3 ?_, ?_⟩, ?_, hb⟩
  · simp only [List.mem_append, List.mem_cons, not_or]; exact hn.1
  · refine List.Nodup.sublist ?_ h3
    exact ((List.Sublist.refl L1).append (List.sublist_cons_self b L2)).cons_cons R
  · have := up b (by simp)
    rw [upd_else hhb, upd_else hab] at this
    exact this
/-- One is put behind the first. -/
theorem Ring.follow {w w' : World} {base R b : Nat} {bs : List Nat} {pg : Nat → Int × Int} {A H : Nat → Nat} {x : Int × Int} {v2 v3 : Value} (h : Ring w base R bs pg A H) (hb : b ∉ R :: bs) (hbb : base ≤ b)
    (hc : w.heap[b]? = some (.cells #[.int .i64 x.1, .int .i64 x.2, v2, v3] 68 (0, 0)))
    (hh : w'.heap = ((((w.setCell ⟨b, 2, none⟩ (ptr R)).setCell ⟨b, 3, none⟩ (ptr (H R))).setCell ⟨R, 3, none⟩ (ptr b)).setCell ⟨H R, 2, none⟩ (ptr b)).heap) :
    Ring w' base R (b :: bs) (fun y => if y = b then x else pg y) (upd (upd A b R) (H R) b) (upd (upd H b (H R)) R b) := by
  obtain ⟨h1, h2, h3⟩ := h
  have hHR : H R ∈ R :: bs := by
    cases bs with
    | nil => simp [h2.1]
    | cons c L => simp [h2.1]
  have hbR : b ≠ R := fun e => hb (by simp [e])
  have hbH : b ≠ H R := fun e => hb (by rw [e]; exact hHR)
  refine ⟨fun y hy => ?_, h2.ins h3 hb, ?_⟩
  · by_cases e : y = b
    · subst e
      refine ⟨?_, hbb⟩
      show PlAt w' y (if y = y then x else pg y) _ _
      rw [if_pos rfl, upd_else hbH, upd_at, upd_else hbR, upd_at]
      unfold PlAt
      rw [hh, heap_sets (by simpa using hbR) (by simpa using hbH), set_block _ (set_block _ hc)]
      rfl
    · have hy' : y ∈ R :: bs := by
        simp only [List.mem_cons] at hy ⊢
        rcases hy with hy | hy | hy
        · exact .inl hy
        · exact absurd hy e
        · exact .inr hy
      refine ⟨?_, (h1 y hy').2⟩
      show PlAt w' y (if y = b then x else pg y) _ _
      rw [if_neg e]
      have := ((((h1 y hy').1.other (p := ⟨b, 2, none⟩) (by simpa using e) (ptr R)).other (p := ⟨b, 3, none⟩) (by simpa using e) (ptr (H R))).upd3 R b).upd2 (H R) b
      unfold PlAt at this ⊢
      rw [hh]
      rw [this]
      simp only [upd]
      rw [if_neg e, if_neg e]
  · rw [List.nodup_cons] at h3
    simp only [List.nodup_cons, List.mem_cons, not_or]
    exact ⟨⟨fun e => hbR e.symm, h3.1⟩, fun e => hb (by simp [e]), h3.2⟩
def HandAt (w : World) (S z M R : Nat) (m : Int) : Prop := w.heap[S]? = some (.cells #[.int .i64 z, .map (some M), ptr R, .int .i64 m] 62 (0, 0))
theorem HandAt.of {w w' : World} {S z M R : Nat} {m : Int} (h : HandAt w S z M R m) (e : w'.heap[S]? = w.heap[S]?) : HandAt w' S z M R m := by unfold HandAt; rw [e]; exact h
/-- A shelf: its size, how many were not there, its pages. -/
def ShelfAt (w : World) (base S z : Nat) (m : Int) (xs : List (Int × Int)) : Prop :=
  ∃ M R bs pg A H es, HandAt w S z M R m ∧ base ≤ S ∧ (base ≤ M ∧ M < S) ∧ Ring w base R bs pg A H ∧ MapP w M es ∧ es.Perm (bs.map (fun b => (pg b, ptr b))) ∧ bs.map pg = xs ∧ xs.Nodup
theorem ShelfAt.of {w w' : World} {base S z : Nat} {m : Int} {xs : List (Int × Int)} (h : ShelfAt w base S z m xs) (e : ∀ k, base ≤ k → k < w.heap.size → w'.heap[k]? = w.heap[k]?) : ShelfAt w' base S z m xs := by
  obtain ⟨M, R, bs, pg, A, H, es, h1, h2, h3, h4, h5, h6⟩ := h
  refine ⟨M, R, bs, pg, A, H, es, ?_, h2, h3, h4.of (fun b hb => e b (h4.1 b hb).2 (h4.1 b hb).1.lt), h5.of (e M h3.1 h5.lt), h6⟩
  unfold HandAt; rw [e S h2 (lt_of_block h1)]; exact h1
theorem ShelfAt.keep {w w' : World} {base S z : Nat} {m : Int} {xs : List (Int × Int)} (h : ShelfAt w base S z m xs) (hb : Below w.heap.size w w') : ShelfAt w' base S z m xs :=
  h.of (fun k _ hk => hb.block k hk)
theorem ShelfAt.mono {w : World} {base base' S z : Nat} {m : Int} {xs : List (Int × Int)} (h : ShelfAt w base S z m xs) (hb : base' ≤ base) : ShelfAt w base' S z m xs := by
  obtain ⟨M, R, bs, pg, A, H, es, h1, h2, h3, h4, h5, h6⟩ := h
  exact ⟨M, R, bs, pg, A, H, es, h1, by omega, ⟨by omega, h3.2⟩, ⟨fun b hb' => ⟨(h4.1 b hb').1, Nat.le_trans hb (h4.1 b hb').2⟩, h4.2⟩, h5, h6⟩
theorem ShelfAt.lt {w : World} {base S z : Nat} {m : Int} {xs : List (Int × Int)} (h : ShelfAt w base S z m xs) : S < w.heap.size := by
  obtain ⟨M, R, bs, pg, A, H, es, h1, _⟩ := h
  exact lt_of_block h1
theorem keys_nodup {es : List ((Int × Int) × Value)} {bs : List Nat} {pg : Nat → Int × Int} (h : es.Perm (bs.map (fun b => (pg b, ptr b)))) (hn : (bs.map pg).Nodup) : (es.map Prod.fst).Nodup := by
  have := (h.map Prod.fst)
  rw [List.map_map] at this
  exact (this.nodup_iff).2 hn
/-- All blocks are as they were but places, hands, and maps ahead of S. -/
def Fr (S : Nat) (w w' : World) : Prop := ∀ (k : Nat) (o : Obj), w.heap[k]? = some o → (∀ (c : Array Value) (t : TypeId) (fz : Nat × Nat), o = .cells c t fz → t ≠ 68 ∧ t ≠ 62) → (∀ (e : Array MapEntry) (cl : Nat), o = .map e cl → S ≤ k) → w'.heap[k]? = some o
theorem Fr.refl (S : Nat) (w : World) : Fr S w w := fun _ _ h _ _ => h
theorem Fr.trans {S : Nat} {a b c : World} (h : Fr S a b) (k : Fr S b c) : Fr S a c := fun i o h1 h2 h3 => k i o (h i o h1 h2 h3) h2 h3
theorem Fr.below {S : Nat} {w w' : World} (h : Below w.heap.size w w') : Fr S w w' := fun k o h1 _ _ => by rw [h.block k (lt_of_block h1)]; exact h1
theorem Fr.only {S : Nat} {w w' : World} {b : Nat} (h : Only w w' b) {ents : Array MapEntry} {clock : Nat} (hb : w.heap[b]? = some (.map ents clock)) (hS : b < S) : Fr S w w' := fun k o h1 _ h3 => by
  rw [h.2.2 k (fun e => by
    rw [e, hb] at h1
    cases h1
    have := h3 _ _ rfl
    omega)]
  exact h1
theorem Fr.cells {S : Nat} {w w' : World} (h : Fr S w w') {k : Nat} {c : Array Value} {t : TypeId} {fz : Nat × Nat} (hk : w.heap[k]? = some (.cells c t fz)) (h1 : t ≠ 68) (h2 : t ≠ 62) : w'.heap[k]? = some (.cells c t fz) :=
  h k _ hk (fun c' t' fz' e => by cases e; exact ⟨h1, h2⟩) (fun e cl e' => by cases e')
theorem Fr.sets {S : Nat} {w w' : World} {ps : List (Addr × Value)} (hh : w'.heap = (ps.foldl (fun v p => v.setCell p.1 p.2) w).heap) (hp : ∀ p ∈ ps, ∃ c fz, w.heap[p.1.block]? = some (.cells c 68 fz)) : Fr S w w' := fun k o h1 h2 _ => by
  have key : ∀ (ps : List (Addr × Value)) (v : World), (∀ p ∈ ps, k ≠ p.1.block) → (ps.foldl (fun v p => v.setCell p.1 p.2) v).heap[k]? = v.heap[k]? := fun ps => by
    induction ps with
    | nil => intro v _; rfl
    | cons p ps ih =>
      intro v h
      rw [List.foldl_cons, ih _ (fun q hq => h q (by simp [hq])), Below.heap_setCell _ _ _ _ (h p (by simp))]
  rw [hh, key ps w (fun p hpp e => ?_)]
  · exact h1
  · obtain ⟨c', fz', h'⟩ := hp p hpp
    rw [← e, h1] at h'
    exact (h2 _ _ _ (Option.some.inj h')).1 rfl
theorem HandAt.c0 {w : World} {S z M R : Nat} {m : Int} (h : HandAt w S z M R m) : w.cell? ⟨S, 0, none⟩ = some (.int .i64 z) := by rw [cell_block h]; rfl
theorem HandAt.c1 {w : World} {S z M R : Nat} {m : Int} (h : HandAt w S z M R m) : w.cell? ⟨S, 1, none⟩ = some (.map (some M)) := by rw [cell_block h]; rfl
theorem HandAt.c2 {w : World} {S z M R : Nat} {m : Int} (h : HandAt w S z M R m) : w.cell? ⟨S, 2, none⟩ = some (.pointer (some ⟨R, 0, none⟩)) := by rw [cell_block h]; rfl
theorem HandAt.c3 {w : World} {S z M R : Nat} {m : Int} (h : HandAt w S z M R m) : w.cell? ⟨S, 3, none⟩ = some (.int .i64 m) := by rw [cell_block h]; rfl
theorem HandAt.sets {w : World} {S z M R : Nat} {m : Int} (h : HandAt w S z M R m) {p : Addr} {u : Value} {x : Int × Int} {a b : Nat} (hp : PlAt w p.block x a b) : HandAt (w.setCell p u) S z M R m :=
  h.of (Below.heap_setCell _ _ _ _ (fun e => by unfold HandAt at h; rw [e, hp] at h; simp at h))
set_option maxHeartbeats 2000000 in
theorem trim_no (S z M R n : Nat) (m : Int) (es : List ((Int × Int) × Value)) (w : World) (hh : HandAt w S z M R m) (hm : MapP w M es) (hn : es.length = n) (hz : z ≤ 1000) (hl : n ≤ z) :
    Calls Tryd.prog 31 #[.pointer (some ⟨S, 0, none⟩)] w fun e w' => e = .returned (.tuple #[]) ∧ w' = w.drew := by
  have c0 := hh.c0
  have c1 := hh.c1
  have lenr : ∀ (w' : World), w'.heap = w.heap → ∀ ty, (Builtin.len_ #[56] ty #[.map (some M)]).run Tryd.prog w' = .ok (.int .i64 n) w' := fun w' hw ty => by
    rw [← hn]; exact (hm.of (by rw [hw])).len ty
  have l1 := lenr w.drew rfl
  have l0 := lenr w rfl
  clear hh hm hn lenr
  go_enter Tryd.func31, Tryd.ntmps31
  go_wp2_with fail
  go_region_held3 (fun w' => w' = w.drew ∧ w'.cell? ⟨S, 0, none⟩ = some (.int .i64 z) ∧ w'.cell? ⟨S, 1, none⟩ = some (.map (some M)))
    (first | exact ⟨rfl, c0, c1⟩ | assumption) (fail)
  all_goals (
    rename_i hHeld
    clear hHeld
    go_wp2_with fail
    refine bodyPost_end (v := .tuple #[]) (by simp [results, Tryd.results31, go_sem]) rfl ?_
    exact ⟨rfl, rfl⟩)
theorem hand_ne {w : World} {S z M R b a h : Nat} {m : Int} {x : Int × Int} (h1 : HandAt w S z M R m) (h2 : PlAt w b x a h) : S ≠ b := fun e => by
  unfold HandAt at h1; rw [e, h2] at h1; simp at h1
theorem map_ne {w : World} {M b a h : Nat} {x : Int × Int} {es : List ((Int × Int) × Value)} (h1 : MapP w M es) (h2 : PlAt w b x a h) : M ≠ b := fun e => by
  obtain ⟨ents, clock, h1, _⟩ := h1
  rw [e, h2] at h1; simp at h1
theorem hand_map {w : World} {S z M R M2 : Nat} {m : Int} {es : List ((Int × Int) × Value)} (h1 : HandAt w S z M R m) (h2 : MapP w M2 es) : S ≠ M2 := fun e => by
  obtain ⟨ents, clock, h2, _⟩ := h2
  unfold HandAt at h1; rw [e, h2] at h1; simp at h1
theorem Ring.mem_ah {w : World} {base R b : Nat} {L1 L2 : List Nat} {pg : Nat → Int × Int} {A H : Nat → Nat} (h : Ring w base R (L1 ++ b :: L2) pg A H) : A b ∈ R :: (L1 ++ b :: L2) ∧ H b ∈ R :: (L1 ++ b :: L2) ∧ A b ≠ b ∧ H b ≠ b := by
  obtain ⟨h1, h2, h3⟩ := h
  obtain ⟨k1, k2, k3⟩ := Linked.parts h2
  have hn := h3
  simp only [List.nodup_cons, List.nodup_append, List.mem_append, List.mem_cons, not_or] at hn
  refine ⟨?_, ?_, fun e => ?_, fun e => ?_⟩
  · simp only [List.mem_cons, List.mem_append] at k1 ⊢
    rcases k1 with k | k
    · exact .inl k
    · exact .inr (.inl k)
  · simp only [List.mem_cons, List.mem_append]
    rcases k2 with k | k
    · exact .inr (.inr (.inr k))
    · exact .inl k
  · rw [e] at k1
    rcases List.mem_cons.1 k1 with k | k
    · exact hn.1.2.1 k.symm
    · exact hn.2.2.2 b k b (.inl rfl) rfl
  · rw [e] at k2
    rcases k2 with k | k
    · exact hn.2.2.1.1 k
    · exact hn.1.2.1 k.symm
theorem Fr.leave {S : Nat} {w w' : World} {a h : Nat} {u v : Value} {x y : Int × Int} {p q r s : Nat} (ha : PlAt w a x p q) (hb : PlAt w h y r s) (hh : w'.heap = ((w.setCell ⟨a, 3, none⟩ u).setCell ⟨h, 2, none⟩ v).heap) : Fr S w w' :=
  Fr.sets (ps := [(⟨a, 3, none⟩, u), (⟨h, 2, none⟩, v)]) hh (fun z hz => by
    simp at hz
    rcases hz with rfl | rfl
    · exact ⟨_, _, ha⟩
    · exact ⟨_, _, hb⟩)
set_option maxHeartbeats 4000000 in
theorem trim_yes (base S z M R c : Nat) (L : List Nat) (pg : Nat → Int × Int) (A H : Nat → Nat) (m : Int) (es : List ((Int × Int) × Value)) (w : World) (hh : HandAt w S z M R m) (hS : base ≤ S) (hM : base ≤ M ∧ M < S) (hr : Ring w base R (L ++ [c]) pg A H) (hm : MapP w M es)
    (hp : es.Perm ((L ++ [c]).map (fun b => (pg b, ptr b)))) (hnd : ((L ++ [c]).map pg).Nodup) (hz : z ≤ 1000) (hn : es.length = z + 1) :
    Calls Tryd.prog 31 #[.pointer (some ⟨S, 0, none⟩)] w fun e w' => e = .returned (.tuple #[]) ∧ ShelfAt w' base S z m (L.map pg) ∧ Below base w w' ∧ Fr S w w' := by
  obtain ⟨aR, hc⟩ := Linked.last hr.2.1
  obtain ⟨ma, mh, nab, nhb⟩ := hr.mem_ah
  have pR := (hr.1 R (by simp)).1
  have pc := (hr.1 c (by simp)).1
  have pa := (hr.1 _ ma).1
  have ph := (hr.1 _ mh).1
  have c0 := hh.c0
  have c1 := hh.c1
  have c2 := hh.c2
  have r2 : w.cell? ⟨R, 2, none⟩ = some (.pointer (some ⟨c, 0, none⟩)) := by rw [pR.c2, aR]
  have l1 : ∀ ty, (Builtin.len_ #[56] ty #[.map (some M)]).run Tryd.prog w.drew = .ok (.int .i64 ((z : Int) + 1)) w.drew := fun ty => by
    have := (show MapP w.drew M es from hm).len ty
    rw [hn] at this
    simpa using this
  have HW : Hid (HandAt w.drew S z M R m ∧ Ring w.drew base R (L ++ [c]) pg A H ∧ MapP w.drew M es) := ⟨hh, hr, hm⟩
  have HP : Hid (PlAt w.drew c (pg c) (A c) (H c) ∧ PlAt w.drew (A c) (pg (A c)) (A (A c)) (H (A c)) ∧ PlAt w.drew (H c) (pg (H c)) (A (H c)) (H (H c))) := ⟨pc, pa, ph⟩
  have HE : Hid (es.Perm ((L ++ [c]).map (fun b => (pg b, ptr b))) ∧ ((L ++ [c]).map pg).Nodup) := ⟨hp, hnd⟩
  have HA : Hid (base ≤ A c ∧ base ≤ H c) := ⟨(hr.1 _ ma).2, (hr.1 _ mh).2⟩
  have HB0 : Hid (Below base w w.drew ∧ Fr S w w.drew) := ⟨(Below.refl _ _).drew, Fr.below (Below.refl _ _).drew⟩
  have HNA : Hid (A c ≠ c ∧ H c ≠ c) := ⟨nab, nhb⟩
  clear hh hr hm hn pR pc pa ph aR hc ma mh hp hnd nab nhb
  go_enter Tryd.func31, Tryd.ntmps31
  go_wp2_with fail
  go_region_held3 (fun w' => w' = w.drew ∧ w'.cell? ⟨S, 0, none⟩ = some (.int .i64 z) ∧ w'.cell? ⟨S, 1, none⟩ = some (.map (some M)))
    (first | exact ⟨rfl, c0, c1⟩ | assumption) (fail)
  all_goals (
    rename_i hHeld
    clear hHeld l1
    have d2 : w.drew.cell? ⟨S, 2, none⟩ = some (.pointer (some ⟨R, 0, none⟩)) := c2
    have e2 : w.drew.cell? ⟨R, 2, none⟩ = some (.pointer (some ⟨c, 0, none⟩)) := r2
    clear c0 c1 c2 r2
    generalize w.drew = w1 at *
    go_wp2_with fail
    refine (leave c (A c) (H c) _ _ _ HP.out.1.c2 HP.out.1.c3 HP.out.2.1.c3 (HP.out.2.1.free 3) HP.out.2.2.c2 (HP.out.2.2.free 2) HNA.out.1 HNA.out.2).mono ?_
    rintro e w2 ⟨rfl, hh2, bb2⟩
    obtain ⟨ring2, pl2, nc2⟩ := Ring.leave HW.out.2.1 hh2
    have hS2 : w2.heap[S]? = w1.heap[S]? := by rw [hh2]; exact heap_sets (hand_ne HW.out.1 HP.out.2.1) (hand_ne HW.out.1 HP.out.2.2)
    have hM2 : w2.heap[M]? = w1.heap[M]? := by rw [hh2]; exact heap_sets (map_ne HW.out.2.2 HP.out.2.1) (map_ne HW.out.2.2 HP.out.2.2)
    have hand2 := HW.out.1.of hS2
    have map2 := HW.out.2.2.of hM2
    have fr2 := Fr.leave (S := S) HP.out.2.1 HP.out.2.2 hh2
    have key : lkq es (pg c) = some (ptr c) := lkq_some (keys_nodup HE.out.1 HE.out.2) (HE.out.1.mem_iff.2 (by simp))
    obtain ⟨w3, es', q1, q2, q3, q4⟩ := (show MapP w2.drew M es from map2).drop key 0
    have hS3 : w3.heap[S]? = w2.heap[S]? := q4.2.2 S (hand_map hand2 map2)
    have hc3 : w3.heap[c]? = w2.heap[c]? := q4.2.2 c (fun e => map_ne map2 pl2 e.symm)
    have g1 := hand2.c1
    have g2 := pl2.c0
    have g3 := pl2.c1
    have g4 := (hand2.of hS3).c1
    have g5 := (pl2.heap hc3).c0
    have g6 := (pl2.heap hc3).c1
    have R3 : Hid (ShelfAt w3 base S z m (L.map pg) ∧ Below base w w3 ∧ Fr S w w3) := by
      refine ⟨⟨M, R, L, pg, upd A (H c) (A c), upd H (A c) (H c), es', hand2.of hS3, hS, hM, ?_, q2, ?_, rfl, ?_⟩, ?_, ?_⟩
      · rw [List.append_nil] at ring2
        exact ring2.of (fun b hb => q4.2.2 b (fun e => map_ne map2 (ring2.1 b hb).1 e.symm))
      · have h1 := q3.symm.trans HE.out.1
        rw [List.map_append] at h1
        exact (h1.trans List.perm_append_comm).cons_inv
      · have := HE.out.2
        rw [List.map_append, List.nodup_append] at this
        exact this.1
      · have b3 : Below base w2 w3 := ((Below.refl _ _).drew (w := w2)).grown q4.1 (by have := lt_of_block hand2; simp; omega) (fun g hg => by simp at hg; omega)
        exact (HB0.out.1.trans (bb2 base HA.out.1 HA.out.2)).trans b3
      · obtain ⟨ents, clock, hmm, _⟩ := (show MapP w2.drew M es from map2)
        exact (HB0.out.2.trans fr2).trans ((Fr.below ((Below.refl _ _).drew (w := w2))).trans (Fr.only q4 hmm (by omega)))
    unfold pgV at q1
    clear ring2 pl2 nc2 hS2 hM2 hand2 map2 fr2 key q2 q3 q4 hh2 bb2 hS3 hc3 HW HP HE HA HB0 HNA d2 e2
    go_wp2_with fail
    go_region_held3 (fun w' => w'.cell? ⟨S, 1, none⟩ = some (.map (some M)) ∧ w'.cell? ⟨c, 0, none⟩ = some (.int .i64 (pg c).1) ∧ w'.cell? ⟨c, 1, none⟩ = some (.int .i64 (pg c).2))
      (first | exact ⟨g1, g2, g3⟩ | exact ⟨g4, g5, g6⟩ | assumption) (fail)
    all_goals (
      rename_i hHeld
      clear hHeld
      go_wp2_with fail
      refine bodyPost_end (v := .tuple #[]) (by simp [results, Tryd.results31, go_sem]) rfl ?_
      exact ⟨rfl, R3.out⟩))
theorem trim (base S z : Nat) (m : Int) (xs : List (Int × Int)) (w : World) (h : ShelfAt w base S z m xs) (hz : z ≤ 1000) (hl : xs.length ≤ z + 1) :
    Calls Tryd.prog 31 #[.pointer (some ⟨S, 0, none⟩)] w fun e w' => e = .returned (.tuple #[]) ∧ ShelfAt w' base S z m (xs.take z) ∧ Below base w w' ∧ Fr S w w' := by
  have h' := h
  obtain ⟨M, R, bs, pg, A, H, es, h1, h2, h3, h4, h5, h6, h7, h8⟩ := h
  have hlen : es.length = xs.length := by rw [h6.length_eq, ← h7]; simp
  by_cases hle : xs.length ≤ z
  · refine (trim_no S z M R es.length m es w h1 h5 rfl hz (by omega)).mono ?_
    rintro e w' ⟨rfl, rfl⟩
    rw [List.take_of_length_le hle]
    exact ⟨rfl, h'.of (fun _ _ _ => rfl), (Below.refl _ _).drew, Fr.below (Below.refl _ _).drew⟩
  · have hxl : xs.length = z + 1 := by omega
    have hbl : bs.length = z + 1 := by rw [← hxl, ← h7]; simp
    obtain ⟨L, c, rfl⟩ : ∃ L c, bs = L ++ [c] := by
      rcases List.eq_nil_or_concat bs with h | ⟨L, c, h⟩
      · rw [h] at hbl; simp at hbl
      · exact ⟨L, c, by rw [h, List.concat_eq_append]⟩
    have hL : L.length = z := by simpa using hbl
    have hx : xs.take z = L.map pg := by
      rw [← h7, List.map_append, List.take_append_of_le_length (by simp [hL]), List.take_of_length_le (by simp [hL])]
    rw [hx]
    exact trim_yes base S z M R c L pg A H m es w h1 h2 h3 h4 h5 h6 (by rw [h7]; exact h8) hz (by omega)
theorem Fr.follow {S : Nat} {w w' : World} {b r f : Nat} {u1 u2 u3 u4 : Value} {x y : Int × Int} {p q s t : Nat} {c : Array Value} {fz : Nat × Nat} (hb : w.heap[b]? = some (.cells c 68 fz)) (hr : PlAt w r x p q) (hf : PlAt w f y s t) (hh : w'.heap = ((((w.setCell ⟨b, 2, none⟩ u1).setCell ⟨b, 3, none⟩ u2).setCell ⟨r, 3, none⟩ u3).setCell ⟨f, 2, none⟩ u4).heap) : Fr S w w' :=
  Fr.sets (ps := [(⟨b, 2, none⟩, u1), (⟨b, 3, none⟩, u2), (⟨r, 3, none⟩, u3), (⟨f, 2, none⟩, u4)]) hh (fun z hz => by
    simp at hz
    rcases hz with rfl | rfl | rfl | rfl
    · exact ⟨_, _, hb⟩
    · exact ⟨_, _, hb⟩
    · exact ⟨_, _, hr⟩
    · exact ⟨_, _, hf⟩)
theorem heap_sets4 {w : World} {k : Nat} {p q r s : Addr} {u v u' v' : Value} (h1 : k ≠ p.block) (h2 : k ≠ q.block) (h3 : k ≠ r.block) (h4 : k ≠ s.block) : ((((w.setCell p u).setCell q v).setCell r u').setCell s v').heap[k]? = w.heap[k]? := by
  rw [heap_sets h3 h4, heap_sets h1 h2]
theorem Ring.hR {w : World} {base R : Nat} {bs : List Nat} {pg : Nat → Int × Int} {A H : Nat → Nat} (h : Ring w base R bs pg A H) : H R ∈ R :: bs := by
  cases bs with
  | nil => simp [h.2.1.1]
  | cons c L => simp [h.2.1.1]
set_option maxHeartbeats 4000000 in
theorem use_hit (base S z : Nat) (m : Int) (xs : List (Int × Int)) (l n : Int) (w : World) (h : ShelfAt w base S z m xs) (hx : (l, n) ∈ xs) (hz : z ≤ 1000) (hl : xs.length ≤ z) :
    Calls Tryd.prog 25 #[.pointer (some ⟨S, 0, none⟩), .agg #[.int .i64 l, .int .i64 n]] w fun e w' => e = .returned (.bool true) ∧ ShelfAt w' base S z m (useL z xs (l, n)) ∧ Below base w w' ∧ Fr S w w' := by
  obtain ⟨M, R, bs, pg, A, H, es, h1, h2, h3, h4, h5, h6, h7, h8⟩ := h
  obtain ⟨b, hb, hpg⟩ : ∃ b ∈ bs, pg b = (l, n) := by rw [← h7] at hx; exact List.mem_map.1 hx
  obtain ⟨L1, L2, rfl⟩ := List.append_of_mem hb
  have key : lkq es (l, n) = some (ptr b) := by
    rw [← hpg]
    exact lkq_some (keys_nodup h6 (by rw [h7]; exact h8)) (h6.mem_iff.2 (List.mem_map.2 ⟨b, hb, rfl⟩))
  have hlt := lt_of_block h1
  obtain ⟨w0, hw0⟩ : ∃ w0, w0 = w.alloc (.cells #[.int .i64 l, .int .i64 n] 41) := ⟨_, rfl⟩
  have b0 : Below w.heap.size w w0 := by rw [hw0]; exact (Below.refl _ _).alloc (Nat.le_refl _) _
  have s0 : w.heap.size < w0.heap.size := by rw [hw0]; simp
  have p0 : w0.cell? ⟨w.heap.size, 0, none⟩ = some (.int .i64 l) := by rw [hw0]; simp [go_sem]
  have p1 : w0.cell? ⟨w.heap.size, 1, none⟩ = some (.int .i64 n) := by rw [hw0]; simp [go_sem]
  have hand0 := h1.of (b0.block S hlt)
  have ring0 := h4.of (w' := w0) (fun x hx => b0.block x (h4.1 x hx).1.lt)
  have map0 := h5.of (b0.block M h5.lt)
  have c1 := hand0.c1
  have q1 := (show MapP w0.drew M es from map0).look (l, n)
  rw [key] at q1
  simp only [Option.getD_some, Option.isSome_some, pgV] at q1
  have HW : Hid (HandAt w0.drew S z M R m ∧ Ring w0.drew base R (L1 ++ b :: L2) pg A H ∧ MapP w0.drew M es) := ⟨hand0, ring0, map0⟩
  have HB0 : Hid (Below base w w0.drew ∧ Fr S w w0.drew) := ⟨(b0.mono (by omega)).drew, Fr.below b0.drew⟩
  have HE : Hid (es.Perm ((L1 ++ b :: L2).map (fun b => (pg b, ptr b))) ∧ (L1 ++ b :: L2).map pg = xs ∧ xs.Nodup ∧ pg b = (l, n) ∧ xs.length ≤ z) := ⟨h6, h7, h8, hpg, hl⟩
  have d2 : w0.drew.cell? ⟨S, 2, none⟩ = some (.pointer (some ⟨R, 0, none⟩)) := hand0.c2
  unfold ptr at q1
  go_enter Tryd.func25, Tryd.ntmps25
  go_wp2_with fail
  simp only [← hw0]
  clear hw0 h1 h4 h5 h6 h7 h8 hb hpg key hand0 ring0 map0 hl hx b0
  go_region_held3 (fun w' => w' = w0.drew ∧ w'.cell? ⟨S, 1, none⟩ = some (.map (some M)) ∧ w'.cell? ⟨w.heap.size, 0, none⟩ = some (.int .i64 l) ∧ w'.cell? ⟨w.heap.size, 1, none⟩ = some (.int .i64 n))
    (first | exact ⟨rfl, c1, p0, p1⟩ | assumption) (fail)
  all_goals (
    rename_i hHeld
    clear hHeld q1 c1 p0 p1
    generalize w0.drew = w1 at *
    obtain ⟨ma, mh, nab, nhb⟩ := HW.out.2.1.mem_ah
    have pb := (HW.out.2.1.1 b (by simp)).1
    have pa := (HW.out.2.1.1 _ ma).1
    have ph := (HW.out.2.1.1 _ mh).1
    have HP : Hid (PlAt w1 b (pg b) (A b) (H b) ∧ PlAt w1 (A b) (pg (A b)) (A (A b)) (H (A b)) ∧ PlAt w1 (H b) (pg (H b)) (A (H b)) (H (H b)) ∧ A b ≠ b ∧ H b ≠ b ∧ base ≤ A b ∧ base ≤ H b) := ⟨pb, pa, ph, nab, nhb, (HW.out.2.1.1 _ ma).2, (HW.out.2.1.1 _ mh).2⟩
    clear ma mh nab nhb pb pa ph
    go_wp2_with fail
    refine (leave b (A b) (H b) _ _ _ HP.out.1.c2 HP.out.1.c3 HP.out.2.1.c3 (HP.out.2.1.free 3) HP.out.2.2.1.c2 (HP.out.2.2.1.free 2) HP.out.2.2.2.1 HP.out.2.2.2.2.1).mono ?_
    rintro e w2 ⟨rfl, hh2, bb2⟩
    obtain ⟨ring2, pl2, nb2⟩ := Ring.leave HW.out.2.1 hh2
    have hS2 : w2.heap[S]? = w1.heap[S]? := by rw [hh2]; exact heap_sets (hand_ne HW.out.1 HP.out.2.1) (hand_ne HW.out.1 HP.out.2.2.1)
    have hM2 : w2.heap[M]? = w1.heap[M]? := by rw [hh2]; exact heap_sets (map_ne HW.out.2.2 HP.out.2.1) (map_ne HW.out.2.2 HP.out.2.2.1)
    have hand2 := HW.out.1.of hS2
    have map2 := HW.out.2.2.of hM2
    have hbase : base ≤ b := (HW.out.2.1.1 b (by simp)).2
    have H2 : Hid (HandAt w2 S z M R m ∧ Ring w2 base R (L1 ++ L2) pg (upd A (H b) (A b)) (upd H (A b) (H b)) ∧ MapP w2 M es ∧ PlAt w2 b (pg b) (A b) (H b) ∧ b ∉ R :: (L1 ++ L2) ∧ base ≤ b ∧ Below base w w2 ∧ Fr S w w2) :=
      ⟨hand2, ring2, map2, pl2, nb2, hbase, HB0.out.1.trans (bb2 base HP.out.2.2.2.2.2.1 HP.out.2.2.2.2.2.2), HB0.out.2.trans (Fr.leave HP.out.2.1 HP.out.2.2.1 hh2)⟩
    have e2 := hand2.c2
    clear ring2 pl2 nb2 hS2 hM2 hand2 map2 hh2 bb2 HW HP HB0 d2 hbase
    generalize upd A (H b) (A b) = A2 at *
    generalize upd H (A b) (H b) = G2 at *
    go_wp2_with fail
    obtain ⟨hand2, ring2, map2, pl2, nb2, hbase, bel2, fr2⟩ := H2.out
    have pR := (ring2.1 R (by simp)).1
    have pf := (ring2.1 _ ring2.hR).1
    refine (follow b R (G2 R) _ _ _ _ pl2.c2 pl2.c3 pl2.free pR.c3 (pR.free 3) pf.c2 (pf.free 2) (fun e => nb2 (by rw [e]; simp)) (fun e => nb2 (by rw [e]; exact ring2.hR))).mono ?_
    rintro e w3 ⟨rfl, hh3, bb3⟩
    have ring3 := Ring.follow ring2 nb2 hbase (x := pg b) pl2 hh3
    have hS3 : w3.heap[S]? = w2.heap[S]? := by rw [hh3]; exact heap_sets4 (hand_ne hand2 pl2) (hand_ne hand2 pl2) (hand_ne hand2 pR) (hand_ne hand2 pf)
    have hM3 : w3.heap[M]? = w2.heap[M]? := by rw [hh3]; exact heap_sets4 (map_ne map2 pl2) (map_ne map2 pl2) (map_ne map2 pR) (map_ne map2 pf)
    have hfun : (fun y => if y = b then pg b else pg y) = pg := by
      funext y
      split
      · rename_i e; rw [e]
      · rfl
    rw [hfun] at ring3
    obtain ⟨k1, k2, k3, k4, k5⟩ := HE.out
    have hmap : (b :: (L1 ++ L2)).map pg = (l, n) :: xs.filter (fun y => !eqB y (l, n)) := by
      rw [← k2] at k3 ⊢
      simp only [List.map_append, List.map_cons] at k3 ⊢
      rw [k4] at k3 ⊢
      rw [filt_split k3]
    have hlen : (xs.filter (fun y => !eqB y (l, n))).length + 1 ≤ z := by
      have h1 := congrArg List.length hmap
      have h2 := congrArg List.length k2
      simp only [List.length_map, List.length_cons, List.length_append] at h1 h2
      omega
    have H3 : Hid (ShelfAt w3 base S z m ((l, n) :: xs.filter (fun y => !eqB y (l, n))) ∧ Below base w w3 ∧ Fr S w w3) := by
      refine ⟨⟨M, R, b :: (L1 ++ L2), pg, _, _, es, hand2.of hS3, h2, h3, ring3, map2.of hM3, k1.trans ?_, hmap, ?_⟩, bel2.trans (bb3 base hbase (ring2.1 R (by simp)).2 (ring2.1 _ ring2.hR).2), fr2.trans (Fr.follow pl2 pR pf hh3)⟩
      · exact List.Perm.map _ List.perm_middle
      · rw [List.nodup_cons]
        exact ⟨by simp [eqB], k3.sublist List.filter_sublist⟩
    have hu : useL z xs (l, n) = (l, n) :: xs.filter (fun y => !eqB y (l, n)) := by unfold useL; rw [List.take_of_length_le (by simp; omega)]
    have HU : Hid (useL z xs (l, n) = (l, n) :: xs.filter (fun y => !eqB y (l, n)) ∧ (xs.filter (fun y => !eqB y (l, n))).length + 1 ≤ z) := ⟨hu, hlen⟩
    clear hand2 ring2 map2 pl2 nb2 hbase bel2 fr2 pR pf hh3 bb3 ring3 hS3 hM3 hfun k1 k2 k3 k4 k5 hmap hlen hu e2 H2
    go_wp2_with fail
    refine (trim base S z m _ _ H3.out.1 hz (by simp; have := HU.out.2; omega)).mono ?_
    rintro e w4 ⟨rfl, sh4, b4, f4⟩
    have R4 : Hid (ShelfAt w4 base S z m (useL z xs (l, n)) ∧ Below base w w4 ∧ Fr S w w4) := by
      refine ⟨?_, H3.out.2.1.trans b4, H3.out.2.2.trans f4⟩
      rw [HU.out.1]
      rw [List.take_of_length_le (by simp; have := HU.out.2; omega)] at sh4
      exact sh4
    clear sh4 b4 f4
    go_wp2_with fail
    go_ret
    exact ⟨rfl, R4.out⟩)
set_option maxHeartbeats 4000000 in
theorem use_miss (base S z : Nat) (m : Int) (xs : List (Int × Int)) (l n : Int) (w : World) (h : ShelfAt w base S z m xs) (hx : (l, n) ∉ xs) (hz : z ≤ 1000) (hl : xs.length ≤ z) :
    Calls Tryd.prog 25 #[.pointer (some ⟨S, 0, none⟩), .agg #[.int .i64 l, .int .i64 n]] w fun e w' => e = .returned (.bool false) ∧ ShelfAt w' base S z m (useL z xs (l, n)) ∧ Below base w w' ∧ Fr S w w' := by
  obtain ⟨M, R, bs, pg, A, H, es, h1, h2, h3, h4, h5, h6, h7, h8⟩ := h
  have key : lkq es (l, n) = none := lkq_none (fun v hv => by
    have := h6.mem_iff.1 hv
    obtain ⟨b, hb, e⟩ := List.mem_map.1 this
    simp only [Prod.mk.injEq] at e
    exact hx (by rw [← h7]; exact List.mem_map.2 ⟨b, hb, by rw [← e.1]⟩))
  have hlt := lt_of_block h1
  obtain ⟨w0, hw0⟩ : ∃ w0, w0 = w.alloc (.cells #[.int .i64 l, .int .i64 n] 41) := ⟨_, rfl⟩
  have b0 : Below w.heap.size w w0 := by rw [hw0]; exact (Below.refl _ _).alloc (Nat.le_refl _) _
  have s0 : w.heap.size < w0.heap.size := by rw [hw0]; simp
  have p0 : w0.cell? ⟨w.heap.size, 0, none⟩ = some (.int .i64 l) := by rw [hw0]; simp [go_sem]
  have p1 : w0.cell? ⟨w.heap.size, 1, none⟩ = some (.int .i64 n) := by rw [hw0]; simp [go_sem]
  have hand0 := h1.of (b0.block S hlt)
  have ring0 := h4.of (w' := w0) (fun x hx => b0.block x (h4.1 x hx).1.lt)
  have map0 := h5.of (b0.block M h5.lt)
  have c1 := hand0.c1
  have q1 := (show MapP w0.drew M es from map0).look (l, n)
  rw [key] at q1
  simp only [Option.getD_none, Option.isSome_none, pgV] at q1
  have HW : Hid (HandAt w0.drew S z M R m ∧ Ring w0.drew base R bs pg A H ∧ MapP w0.drew M es) := ⟨hand0, ring0, map0⟩
  have HB0 : Hid (Below base w w0.drew ∧ Fr S w w0.drew) := ⟨(b0.mono (by omega)).drew, Fr.below b0.drew⟩
  have HE : Hid (es.Perm (bs.map (fun b => (pg b, ptr b))) ∧ bs.map pg = xs ∧ xs.Nodup ∧ (l, n) ∉ xs ∧ xs.length ≤ z ∧ lkq es (l, n) = none) := ⟨h6, h7, h8, hx, hl, key⟩
  have e0 : w0.drew.cell? ⟨w.heap.size, 0, none⟩ = some (.int .i64 l) := p0
  have e1 : w0.drew.cell? ⟨w.heap.size, 1, none⟩ = some (.int .i64 n) := p1
  have d1 : w0.drew.cell? ⟨S, 1, none⟩ = some (.map (some M)) := c1
  have t0 : w.heap.size < w0.drew.heap.size := s0
  have t1 : S < w0.drew.heap.size := Nat.lt_trans hlt s0
  go_enter Tryd.func25, Tryd.ntmps25
  go_wp2_with fail
  simp only [← hw0]
  clear hw0 h1 h4 h5 h6 h7 h8 key hand0 ring0 map0 hl hx b0
  go_region_held3 (fun w' => w' = w0.drew ∧ w'.cell? ⟨S, 1, none⟩ = some (.map (some M)) ∧ w'.cell? ⟨w.heap.size, 0, none⟩ = some (.int .i64 l) ∧ w'.cell? ⟨w.heap.size, 1, none⟩ = some (.int .i64 n))
    (first | exact ⟨rfl, c1, p0, p1⟩ | assumption) (fail)
  all_goals (
    rename_i hHeld
    clear hHeld q1 c1 p0 p1 s0
    generalize w0.drew = w1 at *
    obtain ⟨w2, hw2⟩ : ∃ w2, w2 = w1.alloc (.cells #[.int .i64 l, .int .i64 n, .pointer none, .pointer none] 68) := ⟨_, rfl⟩
    have b2 : Below w1.heap.size w1 w2 := by rw [hw2]; exact (Below.refl _ _).alloc (Nat.le_refl _) _
    have pl2 : w2.heap[w1.heap.size]? = some (.cells #[.int .i64 l, .int .i64 n, .pointer none, .pointer none] 68 (0, 0)) := by rw [hw2]; exact new_block _ _
    have hand2 := HW.out.1.of (b2.block S t1)
    have ring2 := HW.out.2.1.of (w' := w2) (fun x hx => b2.block x (HW.out.2.1.1 x hx).1.lt)
    have map2 := HW.out.2.2.of (b2.block M HW.out.2.2.lt)
    obtain ⟨w3, q1, q2, q4⟩ := (show MapP w2.drew M es from map2).push HE.out.2.2.2.2.2 (ptr w1.heap.size)
    have hS3 : w3.heap[S]? = w2.heap[S]? := q4.2.2 S (hand_map hand2 map2)
    have hb3 : w3.heap[w1.heap.size]? = w2.heap[w1.heap.size]? := q4.2.2 _ (fun e => by have := HW.out.2.2.lt; omega)
    have hP3 : w3.heap[w.heap.size]? = w2.heap[w.heap.size]? := q4.2.2 _ (fun e => by
      obtain ⟨ents, clock, hmm, _⟩ := HW.out.2.2
      rw [← e] at hmm
      simp [World.cell?, hmm] at e0)
    have f0 : w2.cell? ⟨w.heap.size, 0, none⟩ = some (.int .i64 l) := (Below.celz b2 _ _ _ t0).trans e0
    have f1 : w2.cell? ⟨w.heap.size, 1, none⟩ = some (.int .i64 n) := (Below.celz b2 _ _ _ t0).trans e1
    have f2 := hand2.c1
    have g0 : w3.cell? ⟨w.heap.size, 0, none⟩ = some (.int .i64 l) := (World.cell?_of_block (a := ⟨w.heap.size, 0, none⟩) hP3).trans f0
    have g1 : w3.cell? ⟨w.heap.size, 1, none⟩ = some (.int .i64 n) := (World.cell?_of_block (a := ⟨w.heap.size, 1, none⟩) hP3).trans f1
    have g2 := (hand2.of hS3).c1
    have g3 := (hand2.of hS3).c2
    have hnb : w1.heap.size ∉ R :: bs := fun hm => by have := (HW.out.2.1.1 _ hm).1.lt; omega
    have H3 : Hid (HandAt w3 S z M R m ∧ Ring w3 base R bs pg A H ∧ MapP w3 M (es ++ [((l, n), ptr w1.heap.size)]) ∧ w3.heap[w1.heap.size]? = some (.cells #[.int .i64 l, .int .i64 n, .pointer none, .pointer none] 68 (0, 0)) ∧ w1.heap.size ∉ R :: bs ∧ base ≤ w1.heap.size ∧ Below base w w3 ∧ Fr S w w3) := by
      refine ⟨hand2.of hS3, ring2.of (fun x hx => q4.2.2 x (fun e => map_ne map2 (ring2.1 x hx).1 e.symm)), q2, by rw [hb3]; exact pl2, hnb, by omega, ?_, ?_⟩
      · have b3 : Below base w2 w3 := ((Below.refl _ _).drew (w := w2)).grown q4.1 (by have := lt_of_block hand2; simp; omega) (fun g hg => by simp at hg; omega)
        exact (HB0.out.1.trans (b2.mono (by omega))).trans b3
      · obtain ⟨ents, clock, hmm, _⟩ := (show MapP w2.drew M es from map2)
        exact (HB0.out.2.trans (Fr.below b2)).trans ((Fr.below ((Below.refl _ _).drew (w := w2))).trans (Fr.only q4 hmm (by omega)))
    unfold pgV ptr at q1
    go_wp2_with fail
    simp only [← hw2]
    generalize w1.heap.size = V at *
    clear b2 pl2 hand2 ring2 map2 q2 q4 hS3 hb3 hP3 hw2 hnb HW HB0 e0 e1 d1 t0 t1
    go_region_held3 (fun w' => w'.cell? ⟨S, 1, none⟩ = some (.map (some M)) ∧ w'.cell? ⟨w.heap.size, 0, none⟩ = some (.int .i64 l) ∧ w'.cell? ⟨w.heap.size, 1, none⟩ = some (.int .i64 n))
      (first | exact ⟨f2, f0, f1⟩ | exact ⟨g2, g0, g1⟩ | assumption) (fail)
    all_goals (
      rename_i hHeld
      clear hHeld q1 f0 f1 f2 g0 g1 g2
      go_wp2_with fail
      obtain ⟨hand3, ring3, map3, pl3, nb3, hbase, bel3, fr3⟩ := H3.out
      have pR := (ring3.1 R (by simp)).1
      have pf := (ring3.1 _ ring3.hR).1
      have hVR : V ≠ R := fun e => nb3 (by rw [e]; simp)
      have hVf : V ≠ H R := fun e => nb3 (by rw [e]; exact ring3.hR)
      refine (follow V R (H R) (.pointer none) (.pointer none) _ _ (by rw [cell_block pl3]; rfl) (by rw [cell_block pl3]; rfl) (fun i => free_block pl3) pR.c3 (pR.free 3) pf.c2 (pf.free 2) hVR hVf).mono ?_
      rintro e w4 ⟨rfl, hh4, bb4⟩
      have ring4 := Ring.follow ring3 nb3 hbase (x := (l, n)) pl3 hh4
      have hSV : S ≠ V := fun e => by unfold HandAt at hand3; rw [e, pl3] at hand3; simp at hand3
      have hMV : M ≠ V := fun e => by
        obtain ⟨ents, clock, hmm, _⟩ := map3
        rw [e, pl3] at hmm; simp at hmm
      have hS4 : w4.heap[S]? = w3.heap[S]? := by rw [hh4]; exact heap_sets4 hSV hSV (hand_ne hand3 pR) (hand_ne hand3 pf)
      have hM4 : w4.heap[M]? = w3.heap[M]? := by rw [hh4]; exact heap_sets4 hMV hMV (map_ne map3 pR) (map_ne map3 pf)
      obtain ⟨k1, k2, k3, k4, k5, _⟩ := HE.out
      have hag : ∀ b ∈ bs, (if b = V then (l, n) else pg b) = pg b := fun b hb => by rw [if_neg (fun e => nb3 (by rw [← e]; simp [hb]))]
      have hmap : (V :: bs).map (fun y => if y = V then (l, n) else pg y) = (l, n) :: xs := by
        rw [List.map_cons, if_pos rfl, List.map_congr_left hag, k2]
      have H4 : Hid (ShelfAt w4 base S z m ((l, n) :: xs) ∧ Below base w w4 ∧ Fr S w w4) := by
        refine ⟨⟨M, R, V :: bs, _, _, _, _, hand3.of hS4, h2, h3, ring4, map3.of hM4, ?_, hmap, ?_⟩, bel3.trans (bb4 base hbase (ring3.1 R (by simp)).2 (ring3.1 _ ring3.hR).2), fr3.trans (Fr.follow pl3 pR pf hh4)⟩
        · rw [List.map_cons, if_pos rfl]
          refine List.perm_append_comm.trans ?_
          rw [List.singleton_append]
          refine List.Perm.cons _ (k1.trans ?_)
          rw [List.map_congr_left (f := fun b => (pg b, ptr b)) (g := fun b => ((if b = V then (l, n) else pg b), ptr b)) (fun b hb => by rw [hag b hb])]
        · rw [List.nodup_cons]
          exact ⟨k4, k3⟩
      have hu : useL z xs (l, n) = ((l, n) :: xs).take z := by unfold useL; rw [filt_none k4]
      have HU : Hid (useL z xs (l, n) = ((l, n) :: xs).take z ∧ xs.length ≤ z) := ⟨hu, k5⟩
      clear hand3 ring3 map3 pl3 nb3 hbase bel3 fr3 pR pf hh4 bb4 ring4 hS4 hM4 k1 k2 k3 k4 k5 hmap hu hag hVR hVf hSV hMV H3 g3
      go_wp2_with fail
      refine (trim base S z m _ _ H4.out.1 hz (by simp; exact HU.out.2)).mono ?_
      rintro e w5 ⟨rfl, sh5, b5, f5⟩
      have R5 : Hid (ShelfAt w5 base S z m (useL z xs (l, n)) ∧ Below base w w5 ∧ Fr S w w5) := ⟨by rw [HU.out.1]; exact sh5, H4.out.2.1.trans b5, H4.out.2.2.trans f5⟩
      clear sh5 b5 f5
      go_wp2_with fail
      go_ret
      exact ⟨rfl, R5.out⟩))
end Go.Proofs.YtcifjildjiakgaaDoor.Lab

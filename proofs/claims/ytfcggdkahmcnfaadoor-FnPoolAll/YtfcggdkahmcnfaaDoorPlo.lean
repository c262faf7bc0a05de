/-
  A shelf's pages, told as a pool.
-/
import Derived.Test.YtfcggdkahmcnfaaDoorShl
import Derived.Deep.AppendLies
import Derived.Deep.RegionHeld3
import Derived.Deep.RegionLaw
import Derived.Deep.DrawnRows
import Derived.Laws.OwnMore
namespace Go.Proofs.YtfcggdkahmcnfaaDoor.Lab
open Go.RowKit Go.ChangeMaps
set_option linter.unusedVariables false
attribute [local go_sem ↓] Go.wp_at_zero Go.wp_at_succ
theorem new_at {w : World} {o : Obj} {S : Nat} (h : S = w.heap.size) : (w.alloc o).heap[S]? = some o := by subst h; exact new_block w o
/-- A block that another row's growing leaves as it is. -/
theorem grown_blk {w w' : World} {r : Option Nat} {S : Nat} (h : w.grownBy w' r) (hS : S < w.heap.size) (hne : r ≠ some S) : w'.heap[S]? = w.heap[S]? := h.block S hS (fun e => hne e.symm)
/-- A row that is kept in a cell of a struct has grown, and the new row has been stored there. -/
theorem app_step {base S j e size tg : Nat} {W0 wr w1 w3 : World} {v v' : Value} {cur : Array Value} {n : Nat} {xs : List Value} (hB : Below base W0 wr) (hb1 : Below wr.heap.size wr w1) (hbs : base ≤ wr.heap.size) (hblk : wr.heap[S]? = some (.cells cur tg (0, 0))) (hlow : ∀ g, v.ownBlock = some g → base ≤ g) (hS : base ≤ S) (hap : v.ownBlock ≠ some S) (hgrow : w1.grownBy w3 v.ownBlock) (hown : w3.ownsRow base e size v' n xs) (hap' : v'.ownBlock ≠ some S) :
    Below base W0 (w3.setCell ⟨S, j, none⟩ v') ∧ (w3.setCell ⟨S, j, none⟩ v').heap[S]? = some (.cells (cur.setIfInBounds j v') tg (0, 0)) ∧ (w3.setCell ⟨S, j, none⟩ v').ownsRow base e size v' n xs ∧ ∀ k, k < wr.heap.size → v.ownBlock ≠ some k → k ≠ S → (w3.setCell ⟨S, j, none⟩ v').heap[k]? = wr.heap[k]? := by
  have h1 := hb1.size
  have keep : ∀ k, k < wr.heap.size → v.ownBlock ≠ some k → w3.heap[k]? = wr.heap[k]? := fun k hk hne => (grown_blk hgrow (by omega) hne).trans (hb1.block k hk)
  refine ⟨((hB.trans (hb1.mono hbs)).grown hgrow (by omega) (fun g hg => hlow g hg)).setCell hS _, set_block _ ((keep S (lt_of_block hblk) hap).trans hblk), own_set hown hap' _, fun k hk hne hkS => ?_⟩
  rw [Below.heap_setCell _ _ _ _ hkS]
  exact keep k hk hne
theorem Linked.nth {A H : Nat → Nat} : ∀ {L : List Nat} {p z : Nat}, Linked A H p L z → ∀ (k a b : Nat), (p :: L)[k]? = some a → (L ++ [z])[k]? = some b → H a = b
  | [], p, z, h, k, a, b, ha, hb => by
    cases k with
    | zero => simp at ha hb; rw [← ha, ← hb]; exact h.1
    | succ k => simp at ha
  | c :: L, p, z, h, k, a, b, ha, hb => by
    cases k with
    | zero => simp at ha hb; rw [← ha, ← hb]; exact h.1
    | succ k =>
      simp only [List.getElem?_cons_succ, List.cons_append] at ha hb
      exact Linked.nth h.2.2 k a b ha hb
theorem eq_ptr (w : World) (d : Nat) (a b : Addr) (r : Bool) (hs : (sameAddr a b).run Tryd.prog w = .ok r w) : (Op.equalIn (d + 1) 51 (.pointer (some a)) (.pointer (some b))).run Tryd.prog w = .ok r w := by
  have hz : (sizeOf 73).run Tryd.prog w = .ok 4 w := by go_simp
  simp [Op.equalIn, run_underlying Tryd.underlying51, hz, hs]
theorem neq_ptr (w : World) (a b : Addr) (r : Bool) (hs : (sameAddr a b).run Tryd.prog w = .ok r w) : (binOp .neq 51 (.pointer (some a)) (.pointer (some b))).run Tryd.prog w = .ok (.bool (!r)) w := by
  simp only [binOp]
  simp [Op.equal, Op.maxDepth, eq_ptr w 9999 a b r hs]
theorem neq_other {w : World} {a b : Nat} {x y : Int × Int} {p q r s : Nat} (ha : PlAt w a x p q) (hb : PlAt w b y r s) (hne : a ≠ b) : (binOp .neq 51 (.pointer (some ⟨a, 0, none⟩)) (.pointer (some ⟨b, 0, none⟩))).run Tryd.prog w = .ok (.bool true) w :=
  neq_ptr w _ _ false (run_sameAddr_other (P := Tryd.prog) w (a := ⟨a, 0, none⟩) (b := ⟨b, 0, none⟩) (by intro h; injection h with h; exact hne h) ha hb)
theorem neq_same (w : World) (a : Nat) : (binOp .neq 51 (.pointer (some ⟨a, 0, none⟩)) (.pointer (some ⟨a, 0, none⟩))).run Tryd.prog w = .ok (.bool false) w :=
  neq_ptr w _ _ true (run_sameAddr_same (P := Tryd.prog) w ⟨a, 0, none⟩)
set_option maxHeartbeats 4000000 in
theorem pool_walk (S z M R : Nat) (m : Int) (bs : List Nat) (pg : Nat → Int × Int) (A H : Nat → Nat) (base : Nat) (w : World) (hh : HandAt w S z M R m) (hr : Ring w base R bs pg A H) (hl : bs.length ≤ 1000) :
    Calls Tryd.prog 19 #[.pointer (some ⟨S, 0, none⟩)] w fun e w' => ∃ u, e = .returned (.agg #[.int .i64 z, u]) ∧ OwnPool w' w.heap.size u (bs.map pg) ∧ Below w.heap.size w w' := by
  obtain ⟨i0, hi, hz0, hz1, hz2⟩ := info_parts Tryd.infoPage
  have c0 := hh.c0
  have c2 := hh.c2
  have hS := lt_of_block hh
  have r3 := (hr.1 R (by simp)).1.c3
  have hRl := (hr.1 R (by simp)).1.lt
  have HR : Hid (Ring w base R bs pg A H) := hr
  obtain ⟨n, hn⟩ : ∃ n, n = bs.length := ⟨_, rfl⟩
  have HN : Hid (n = bs.length) := hn
  rw [← hn] at hl
  have HK : Hid (∀ k a b : Nat, (R :: bs)[k]? = some a → (bs ++ [R])[k]? = some b → H a = b) := hr.2.1.nth
  have h0 : (bs ++ [R])[0]? = some (H R) := by
    cases bs with
    | nil => simp [hr.2.1.1]
    | cons c L => simp [hr.2.1.1]
  have H0 : Hid ((bs ++ [R])[0]? = some (H R)) := h0
  have hSR : S ≠ R := hand_ne hh (hr.1 R (by simp)).1
  clear hh hr hn h0
  go_enter Tryd.func19, Tryd.ntmps19
  go_wp2_with fail
  have hV0 : Below w.heap.size w ((w.alloc (.cells #[.int .i64 0, .slice none 0 0] 25)).alloc (.cells #[.int .i64 z, .slice none 0 0] 25)) := by go_grown
  have hU0 : ((w.alloc (.cells #[.int .i64 0, .slice none 0 0] 25)).alloc (.cells #[.int .i64 z, .slice none 0 0] 25)).heap[w.heap.size]? = some (.cells #[.int .i64 0, .slice none 0 0] 25 (0, 0)) := by
    rw [heap_alloc_old _ _ (by simp)]; exact new_block _ _
  have hP0 : ((w.alloc (.cells #[.int .i64 0, .slice none 0 0] 25)).alloc (.cells #[.int .i64 z, .slice none 0 0] 25)).heap[w.heap.size + 1]? = some (.cells #[.int .i64 z, .slice none 0 0] 25 (0, 0)) := new_at (by simp)
  generalize hW : ((w.alloc (.cells #[.int .i64 0, .slice none 0 0] 25)).alloc (.cells #[.int .i64 z, .slice none 0 0] 25)) = W0 at *
  clear hW
  generalize hV : w.heap.size + 1 = V at *
  have hUV : w.heap.size < V := by omega
  have hVs : V < W0.heap.size := lt_of_block hP0
  clear hV
  go_loopw [4] (fun q wr => ∃ (k c : Nat) (v : Value), k ≤ n ∧ (bs ++ [R])[k]? = some c ∧ q = .pointer (some ⟨c, 0, none⟩) ∧ Below w.heap.size w wr ∧ wr.heap[w.heap.size]? = some (.cells #[.int .i64 0, .slice none 0 0] 25 (0, 0)) ∧ wr.heap[V]? = some (.cells #[.int .i64 z, v] 25 (0, 0)) ∧ wr.ownsRow (V + 1) 33 2 v k (((bs.take k).map pg).flatMap encPage)) (fun _ wr => match wr.cell? ⟨V, 1, none⟩ with | some (.slice _ l _) => n - l | _ => 0)
  case atStart => exact ⟨0, H R, _, by omega, H0.out, rfl, hV0, hU0, hP0, by simpa using World.ownsRow_nil _ _ _ _⟩
  case round =>
    clear hV0 hU0 hP0
    obtain ⟨k, c, v, hk, hck, rfl, hbel, hblU, hblk, hown⟩ := hrel
    have hsz := hbel.size
    have hVr := lt_of_block hblk
    have s2 : wr.cell? ⟨S, 2, none⟩ = some (.pointer (some ⟨R, 0, none⟩)) := (Below.celz hbel _ _ _ hS).trans c2
    have pR : PlAt wr R (pg R) (A R) (H R) := (HR.out.1 R (by simp)).1.heap (hbel.block R hRl)
    by_cases hlt : k < n
    · have hbk : bs[k]? = some c := by rw [List.getElem?_append_left (by rw [← HN.out]; exact hlt)] at hck; exact hck
      have hmem : c ∈ bs := List.mem_of_getElem? hbk
      have hcR : c ≠ R := fun e => by have := HR.out.2.2; rw [List.nodup_cons] at this; exact this.1 (e ▸ hmem)
      have hcl := (HR.out.1 c (by simp [hmem])).1.lt
      have pc : PlAt wr c (pg c) (A c) (H c) := (HR.out.1 c (by simp [hmem])).1.heap (hbel.block c hcl)
      have hq := neq_other pc pR hcR
      have e0 := pc.c0
      have e1 := pc.c1
      have HC : Hid (w.cell? ⟨c, 3, none⟩ = some (.pointer (some ⟨H c, 0, none⟩))) := (HR.out.1 c (by simp [hmem])).1.c3
      have hnx : (bs ++ [R])[k + 1]? = some (H c) := by
        have hex : ∃ d, (bs ++ [R])[k + 1]? = some d := ⟨_, List.getElem?_eq_getElem (by have := HN.out; simp; omega)⟩
        obtain ⟨d, hd⟩ := hex
        rw [HK.out (k + 1) c d (by simpa using hbk) hd]; exact hd
      have HX : Hid ((bs ++ [R])[k + 1]? = some (H c) ∧ bs[k]? = some c) := ⟨hnx, hbk⟩
      have HB : Hid (Below w.heap.size w wr) := hbel
      have g2 : wr.cell? ⟨V, 1, none⟩ = some v := by rw [cell_block hblk]; rfl
      have hf : wr.frozen? ⟨V, 1, none⟩ = false := free_block hblk
      obtain ⟨xa, xc, rfl⟩ := own_form hown
      have HM : Hid (wr.heap[V]? = some (.cells #[.int .i64 z, .slice xa k xc] 25 (0, 0)) ∧ wr.heap[w.heap.size]? = some (.cells #[.int .i64 0, .slice none 0 0] 25 (0, 0))) := ⟨hblk, hblU⟩
      have LT : Hid (∀ g, (Value.slice xa k xc).ownBlock = some g → V + 1 ≤ g) := fun g hg => (hown.lt g hg).1
      have ap1 : some V ≠ (Value.slice xa k xc).ownBlock := fun h => by have := LT.out _ h.symm; omega
      have ap2 : some w.heap.size ≠ (Value.slice xa k xc).ownBlock := fun h => by have := LT.out _ h.symm; omega
      have ap3 : some c ≠ (Value.slice xa k xc).ownBlock := fun h => by have := LT.out _ h.symm; omega
      have hSS : Hid (∀ w', Below wr.heap.size wr w' → w'.cell? ⟨V, 1, none⟩ = some (.slice xa k xc) ∧ w'.frozen? ⟨V, 1, none⟩ = false) :=
        fun w' hn => ⟨(Below.celz hn _ _ _ hVr).trans g2, (Below.froz hn _ _ _ hVr).trans hf⟩
      clear hbel hblU hblk hnx hbk hmem hck pc pR
      obtain ⟨m0, m1, hpc⟩ : ∃ m0 m1, pg c = (m0, m1) := ⟨_, _, rfl⟩
      rw [hpc] at e0 e1
      dsimp only at e0 e1
      have HPC : Hid (pg c = (m0, m1)) := hpc
      clear hpc
      go_wp2_with fail
      go_region_law
        ((refine step_append_lies _ (by rfl) _ _ _ (by rfl) (V + 1) 33 i0 _ 2 16 Tryd.underlying23 hi hz0 hz1 hz2 rfl (by omega) (.slice xa k xc) _ _ (by rfl) ((hown.alloc _).drew) ⟨wr.heap.size, 0, none⟩ 1 1 [.int .i64 m0, .int .i64 m1] (by rfl) (by rfl) (World.news_of_block (cs := #[.int .i64 m0, .int .i64 m1]) (t := 33) (fr := (0, 0)) (heap_alloc_new wr _)) (by simp [Value.oneCell']) (by omega) (by unfold maxLen; omega) (by omega) (by simp; omega) (wr.heap.size + 1) (by simp) ?_; intro gg cap w3 hown1 hgrow hat hlt3; have g3 := hgrow.cell (hSS.out _ ((Below.alloc (Below.refl wr.heap.size wr) (Nat.le_refl _) (.cells #[.int .i64 m0, .int .i64 m1] 33)).drew)).1 ap1; have f3 : w3.frozen? ⟨V, 1, none⟩ = false := by rw [hgrow.frozen_far _ (by simp; omega) ap1]; exact (hSS.out _ ((Below.alloc (Below.refl wr.heap.size wr) (Nat.le_refl _) (.cells #[.int .i64 m0, .int .i64 m1] 33)).drew)).2))
      all_goals (
        have ap4 : (Value.slice (some ⟨gg, 0, none⟩) (k + 1) cap).ownBlock ≠ some V := fun h => by
          simp only [Value.ownBlock, Option.some.injEq] at h
          rcases hat with h5 | h5
          · have := LT.out _ h5; omega
          · omega
        obtain ⟨r1, r2, _, r4⟩ := app_step (base := w.heap.size) (W0 := w) (j := 1) HB.out ((Below.alloc (Below.refl wr.heap.size wr) (Nat.le_refl _) (.cells #[.int .i64 m0, .int .i64 m1] 33)).drew) HB.out.size HM.out.1 (fun g hg => by have := LT.out g hg; omega) (by omega) (fun h => ap1 h.symm) hgrow (own_mono hown1 (by omega)) ap4
        have tk : ((bs.take (k + 1)).map pg).flatMap encPage = ((bs.take k).map pg).flatMap encPage ++ [.int .i64 m0, .int .i64 m1] := by
          rw [List.take_add_one, HX.out.2, List.map_append, List.flatMap_append]
          simp [HPC.out, encPage]
        have R1 : Hid (Below w.heap.size w (w3.setCell ⟨V, 1, none⟩ (.slice (some ⟨gg, 0, none⟩) (k + 1) cap)) ∧ (w3.setCell ⟨V, 1, none⟩ (.slice (some ⟨gg, 0, none⟩) (k + 1) cap)).heap[w.heap.size]? = some (.cells #[.int .i64 0, .slice none 0 0] 25 (0, 0)) ∧ (w3.setCell ⟨V, 1, none⟩ (.slice (some ⟨gg, 0, none⟩) (k + 1) cap)).heap[V]? = some (.cells #[.int .i64 z, .slice (some ⟨gg, 0, none⟩) (k + 1) cap] 25 (0, 0)) ∧ (w3.setCell ⟨V, 1, none⟩ (.slice (some ⟨gg, 0, none⟩) (k + 1) cap)).ownsRow (V + 1) 33 2 (.slice (some ⟨gg, 0, none⟩) (k + 1) cap) (k + 1) (((bs.take (k + 1)).map pg).flatMap encPage)) :=
          ⟨r1, (r4 w.heap.size (by omega) (fun h => ap2 h.symm) (by omega)).trans HM.out.2, r2, by rw [tk]; exact own_set hown1 ap4 _⟩
        have c3 : (w3.setCell ⟨V, 1, none⟩ (.slice (some ⟨gg, 0, none⟩) (k + 1) cap)).cell? ⟨c, 3, none⟩ = some (.pointer (some ⟨H c, 0, none⟩)) := (Below.celz r1 _ _ _ hcl).trans HC.out
        have hmc : (w3.setCell ⟨V, 1, none⟩ (.slice (some ⟨gg, 0, none⟩) (k + 1) cap)).cell? ⟨V, 1, none⟩ = some (.slice (some ⟨gg, 0, none⟩) (k + 1) cap) := by rw [cell_block r2]; rfl
        have HMC : Hid ((w3.setCell ⟨V, 1, none⟩ (.slice (some ⟨gg, 0, none⟩) (k + 1) cap)).cell? ⟨V, 1, none⟩ = some (.slice (some ⟨gg, 0, none⟩) (k + 1) cap)) := hmc
        clear r1 r2 r4 ap4 hown1 hgrow hat hown e0 e1 g3 f3 tk hlt3 hmc hf hq
        generalize w3.setCell ⟨V, 1, none⟩ (.slice (some ⟨gg, 0, none⟩) (k + 1) cap) = w4 at *
        go_wp2_with fail
        go_roundw
        case rel => exact ⟨k + 1, H c, _, by omega, HX.out.1, rfl, R1.out⟩
        case measure =>
          have h5 := HMC.out
          simp only [h5, g2]
          omega)
    · have hkn : n = k := by omega
      subst hkn
      obtain rfl : c = R := by
        rw [HN.out, List.getElem?_append_right (Nat.le_refl _)] at hck
        simp at hck; exact hck.symm
      have hq := neq_same wr c
      obtain ⟨xa, xc, rfl⟩ := own_form hown
      have g1 : wr.cell? ⟨V, 0, none⟩ = some (.int .i64 z) := by rw [cell_block hblk]; rfl
      have g2 : wr.cell? ⟨V, 1, none⟩ = some (.slice xa n xc) := by rw [cell_block hblk]; rfl
      have u1 : wr.cell? ⟨w.heap.size, 0, none⟩ = some (.int .i64 0) := by rw [cell_block hblU]; rfl
      have u2 : wr.cell? ⟨w.heap.size, 1, none⟩ = some (.slice none 0 0) := by rw [cell_block hblU]; rfl
      have fu : ∀ i, wr.frozen? ⟨w.heap.size, i, none⟩ = false := fun i => free_block hblU
      have HO : Hid (wr.ownsRow (V + 1) 33 2 (.slice xa n xc) n (((bs.take n).map pg).flatMap encPage) ∧ Below w.heap.size w wr) := ⟨hown, hbel⟩
      have hVU : ¬ V = w.heap.size := by omega
      clear hbel hblU hblk hown pR hck
      go_wp2_with fail
      refine bodyPost_ret (v := .agg #[.int .i64 z, .slice xa n xc]) (by simp [*, results, Tryd.results19, go_sem]) rfl ?_
      obtain ⟨o1, o2⟩ := HO.out
      have hap : ∀ g, (Value.slice xa n xc).ownBlock = some g → g ≠ w.heap.size := fun g hg => by have := (o1.lt g hg).1; omega
      refine ⟨_, rfl, ?_, (o2.setCell (by simp) _).setCell (by simp) _⟩
      unfold OwnPool
      have hl2 : (bs.map pg).length = n := by simp [HN.out]
      rw [hl2]
      have ht : bs.take n = bs := by rw [HN.out, List.take_length]
      rw [ht] at o1
      exact own_mono (own_set (own_set o1 (fun h => hap _ h rfl) _) (fun h => hap _ h rfl) _) (by omega)
theorem pool_of (base S z : Nat) (m : Int) (xs : List (Int × Int)) (w : World) (h : ShelfAt w base S z m xs) (hl : xs.length ≤ 1000) :
    Calls Tryd.prog 19 #[.pointer (some ⟨S, 0, none⟩)] w fun e w' => ∃ u, e = .returned (.agg #[.int .i64 z, u]) ∧ OwnPool w' w.heap.size u xs ∧ Below w.heap.size w w' := by
  obtain ⟨M, R, bs, pg, A, H, es, h1, h2, h3, h4, h5, h6, h7, h8⟩ := h
  have hb : bs.length ≤ 1000 := by rw [← h7] at hl; simpa using hl
  rw [← h7]
  exact pool_walk S z M R m bs pg A H base w h1 h4 hb
end Go.Proofs.YtfcggdkahmcnfaaDoor.Lab

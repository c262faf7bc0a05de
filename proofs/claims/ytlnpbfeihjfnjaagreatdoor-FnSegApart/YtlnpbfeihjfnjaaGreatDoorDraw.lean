/-
  Contracts of the reader of codes (spec.l9Rd) and of what is drawn of labels: what is drawn is bounded; a code is only read.
-/
import Derived.Test.YtlnpbfeihjfnjaaGreatDoorPlain
import Derived.Test.YtlnpbfeihjfnjaaGreatDoorRows
import Derived.WalkKit
import Derived.WalkSpells
import Derived.WalkLawsBesides
import Derived.Deep.QuietTactic
import Derived.BigQuiet
import Derived.OpenShut
namespace Go.Proofs.YtlnpbfeihjfnjaaGreatDoor.Lab
open Go.RowKit
set_option linter.unusedVariables false

theorem i64_xor_nat (a b : Nat) (ha : a < 9223372036854775808) (hb : b < 9223372036854775808) : bits .xor .i64 (a : Int) (b : Int) = ((a ^^^ b : Nat) : Int) := by
  have hx : a ^^^ b < 2 ^ 63 := Nat.xor_lt_two_pow (by omega) (by omega)
  show IntKind.i64.wrap ((BitVec.ofInt 64 (a : Int) ^^^ BitVec.ofInt 64 (b : Int)).toNat : Int) = _
  have h1 : (BitVec.ofInt 64 (a : Int)).toNat = a := by
    rw [BitVec.ofInt_natCast, BitVec.toNat_ofNat]; exact Nat.mod_eq_of_lt (by omega)
  have h2 : (BitVec.ofInt 64 (b : Int)).toNat = b := by
    rw [BitVec.ofInt_natCast, BitVec.toNat_ofNat]; exact Nat.mod_eq_of_lt (by omega)
  rw [BitVec.toNat_xor, h1, h2]
  simp [IntKind.wrap, IntKind.bits, IntKind.signed]
  omega
theorem xor_bd (x y : Int) (h0 : 0 ≤ x) (h1 : x < 4611686018427387904) (h2 : 0 ≤ y) (h3 : y < 4611686018427387904) : 0 ≤ bits .xor .i64 x y ∧ bits .xor .i64 x y < 4611686018427387904 := by
  obtain ⟨a, rfl⟩ := Int.eq_ofNat_of_zero_le h0
  obtain ⟨b, rfl⟩ := Int.eq_ofNat_of_zero_le h2
  rw [i64_xor_nat a b (by omega) (by omega)]
  have : a ^^^ b < 2 ^ 62 := Nat.xor_lt_two_pow (by omega) (by omega)
  omega

/-- The reader of a code lies in block B: its code is a slice whose bytes lie in blocks ahead; so many have been read. -/
def RdAt (w : World) (B : Nat) (a : Option Addr) (len cap : Nat) (zs : List Int) (pos : Int) : Prop :=
  w.heap[B]? = some (.cells #[.slice a len cap, .int .i64 pos] 124 (0, 0)) ∧
  (len = 0 ∨ ∃ b off, a = some ⟨b, off, none⟩ ∧ b < B ∧ ∀ j, j < len → w.cell? ⟨b, off + j, none⟩ = some (.int .u8 (zs.getD j 0))) ∧
  (∀ j, 0 ≤ zs.getD j 0 ∧ zs.getD j 0 ≤ 255) ∧ len ≤ 2000 ∧ 0 ≤ pos

theorem two_cell0 {w : World} {b t : Nat} {x y : Value} (h : w.heap[b]? = some (.cells #[x, y] t (0, 0))) : w.cell? ⟨b, 0, none⟩ = some x := by simp [World.cell?, h]
theorem two_cell1 {w : World} {b t : Nat} {x y : Value} (h : w.heap[b]? = some (.cells #[x, y] t (0, 0))) : w.cell? ⟨b, 1, none⟩ = some y := by simp [World.cell?, h]
theorem two_free {w : World} {b t o : Nat} {x y : Value} (h : w.heap[b]? = some (.cells #[x, y] t (0, 0))) : w.frozen? ⟨b, o, none⟩ = false := by simp [World.frozen?, h]
theorem two_set1 {w : World} {b t : Nat} {x y u : Value} (h : w.heap[b]? = some (.cells #[x, y] t (0, 0))) : (w.setCell ⟨b, 1, none⟩ u).heap[b]? = some (.cells #[x, u] t (0, 0)) := by
  have hlt := lt_of_block h
  have h' : w.heap[b] = .cells #[x, y] t (0, 0) := by simpa [Array.getElem?_eq_getElem hlt] using h
  show (w.heap.modify b _)[b]? = _
  rw [Array.getElem?_eq_getElem (by simpa using hlt), Array.getElem_modify_self, h']
  rfl
theorem grownBy_set {w : World} {p : Addr} {u : Value} : w.grownBy (w.setCell p u) (some p.block) := by
  refine ⟨rfl, rfl, rfl, by simp, fun k _ hne => Below.heap_setCell w p u k (fun h => hne (by rw [h]))⟩
theorem grownBy_drewN {w w' : World} {r : Option Nat} (h : w.grownBy w' r) (n : Nat) : w.grownBy (w'.drewN n) r :=
  ⟨h.os, by rw [World.tape_drewN]; exact h.tape, h.output, by rw [World.heap_drewN]; exact h.size, fun k hk hne => by rw [World.heap_drewN]; exact h.block k hk hne⟩
theorem grownBy_refl (w : World) (r : Option Nat) : w.grownBy w r := ⟨rfl, rfl, rfl, Nat.le_refl _, fun _ _ _ => rfl⟩
theorem grownBy_trans {a b c : World} {r : Option Nat} (h : a.grownBy b r) (k : b.grownBy c r) : a.grownBy c r :=
  ⟨k.os.trans h.os, k.tape.trans h.tape, k.output.trans h.output, Nat.le_trans h.size k.size, fun j hj hne => (k.block j (Nat.lt_of_lt_of_le hj h.size) hne).trans (h.block j hj hne)⟩

theorem RdAt.lt {w : World} {B len cap : Nat} {a : Option Addr} {zs : List Int} {pos : Int} (h : RdAt w B a len cap zs pos) : B < w.heap.size := lt_of_block h.1
theorem RdAt.step {w w' : World} {B len cap : Nat} {a : Option Addr} {zs : List Int} {pos pos' : Int} (h : RdAt w B a len cap zs pos) (hg : w.grownBy w' (some B))
    (hb : w'.heap[B]? = some (.cells #[.slice a len cap, .int .i64 pos'] 124 (0, 0))) (hp : 0 ≤ pos') : RdAt w' B a len cap zs pos' := by
  have hlt := h.lt
  obtain ⟨h1, h2, h3, h4, _⟩ := h
  refine ⟨hb, ?_, h3, h4, hp⟩
  rcases h2 with h2 | ⟨b, off, ha, hbB, hc⟩
  · exact .inl h2
  · refine .inr ⟨b, off, ha, hbB, fun j hj => ?_⟩
    have : w'.heap[b]? = w.heap[b]? := hg.block b (by omega) (by simp; omega)
    rw [World.cell?_of_block (a := ⟨b, off + j, none⟩) this]
    exact hc j hj
/-- The reader stays where it is while blocks are laid behind it. -/
theorem RdAt.below {w w' : World} {B len cap : Nat} {a : Option Addr} {zs : List Int} {pos : Int} (h : RdAt w B a len cap zs pos) {n : Nat} (hb : Below n w w') (hn : B < n) : RdAt w' B a len cap zs pos := by
  obtain ⟨h1, h2, h3, h4, h5⟩ := h
  refine ⟨by rw [hb.block B hn]; exact h1, ?_, h3, h4, h5⟩
  rcases h2 with h2 | ⟨b, off, ha, hbB, hc⟩
  · exact .inl h2
  · exact .inr ⟨b, off, ha, hbB, fun j hj => by rw [hb.cell (p := ⟨b, off + j, none⟩) (by show b < n; omega)]; exact hc j hj⟩

set_option maxHeartbeats 400000 in
theorem pick_none (B cap : Nat) (a : Option Addr) (zs : List Int) (pos n : Int) (w : World) (h : RdAt w B a 0 cap zs pos) (hp : pos ≤ 1000000000) (h1 : 1 ≤ n) :
    Calls Tryz.prog 80 #[.pointer (some ⟨B, 0, none⟩), .int .i64 n] w fun e w' => e = .returned (.int .i64 0) ∧ w' = w.setCell ⟨B, 1, none⟩ (.int .i64 (pos + 1)) := by
  have p0 := h.2.2.2.2
  have c0 := two_cell0 h.1
  have c1 := two_cell1 h.1
  have f1 := two_free (o := 1) h.1
  clear h
  go_enter Tryz.func80, Tryz.ntmps80
  go_wp2
  go_ret
  exact ⟨rfl, rfl⟩
set_option maxHeartbeats 400000 in
theorem pick_byte (B b off len cap : Nat) (zs : List Int) (k : Nat) (n : Int) (w : World) (h : RdAt w B (some ⟨b, off, none⟩) len cap zs k) (hk : k < len) (h1 : 1 ≤ n) (h2 : n ≤ 1000000) :
    Calls Tryz.prog 80 #[.pointer (some ⟨B, 0, none⟩), .int .i64 n] w fun e w' => e = .returned (.int .i64 (zs.getD k 0 % n)) ∧ w' = w.setCell ⟨B, 1, none⟩ (.int .i64 (k + 1)) := by
  have c0 := two_cell0 h.1
  have c1 := two_cell1 h.1
  have f1 := two_free (o := 1) h.1
  obtain ⟨_, hr, hz, hl, _⟩ := h
  rcases hr with hr | ⟨b', off', ha, hbB, hc⟩
  · omega
  · simp only [Option.some.injEq, Addr.mk.injEq] at ha
    obtain ⟨rfl, rfl, _⟩ := ha
    have hck : (w.setCell ⟨B, 1, none⟩ (.int .i64 (k + 1))).cell? ⟨b, off + k, none⟩ = some (.int .u8 (zs.getD k 0)) := by
      rw [World.cell?_setCell_other _ _ _ _ (by intro hh; injection hh; omega)]; exact hc k hk
    obtain ⟨z0, z1⟩ := hz k
    generalize zs.getD k 0 = z at *
    have hb0 : ((len : Int) == 0) = false := beq_eq_false_iff_ne.2 (by omega)
    have hn1 : ¬ n < 1 := by omega
    clear hc hz
    go_enter Tryz.func80, Tryz.ntmps80
    go_wp2
    go_ret
    exact ⟨rfl, rfl⟩
/-- The mixture that is drawn behind the end of a code. -/
theorem pick_mix_bd (x : Int) (h0 : 0 ≤ x) (h1 : x ≤ 100000000000) : 0 ≤ bits .xor .i64 x (x / 64) ∧ bits .xor .i64 x (x / 64) < 4611686018427387904 :=
  xor_bd x (x / 64) h0 (by omega) (by omega) (by omega)
set_option maxHeartbeats 1600000 in
theorem pick_mix (B b off len cap : Nat) (zs : List Int) (k : Nat) (n : Int) (w : World) (h : RdAt w B (some ⟨b, off, none⟩) len cap zs k) (hl0 : 0 < len) (hk : len ≤ k) (hk2 : k ≤ 1000000000) (h1 : 1 ≤ n) (h2 : n ≤ 1000000) :
    Calls Tryz.prog 80 #[.pointer (some ⟨B, 0, none⟩), .int .i64 n] w fun e w' => ∃ x, e = .returned (.int .i64 x) ∧ 0 ≤ x ∧ x < n ∧ ∃ m, w' = (w.setCell ⟨B, 1, none⟩ (.int .i64 (k + 1))).drewN m := by
  have c0 := two_cell0 h.1
  have c1 := two_cell1 h.1
  have f1 := two_free (o := 1) h.1
  obtain ⟨_, hr, hz, hl, _⟩ := h
  rcases hr with hr | ⟨b', off', ha, hbB, hc⟩
  · omega
  · simp only [Option.some.injEq, Addr.mk.injEq] at ha
    obtain ⟨rfl, rfl, _⟩ := ha
    have hck : ∀ j, j < len → (w.setCell ⟨B, 1, none⟩ (.int .i64 (k + 1))).cell? ⟨b, off + j, none⟩ = some (.int .u8 (zs.getD j 0)) := fun j hj => by
      rw [World.cell?_setCell_other _ _ _ _ (by intro hh; injection hh; omega)]; exact hc j hj
    have j1 : k % len < len := Nat.mod_lt _ hl0
    have j2 : (k * 7 + 3) % len < len := Nat.mod_lt _ hl0
    have e1 := hck _ j1
    have e2 := hck _ j2
    obtain ⟨z0, z1⟩ := hz (k % len)
    obtain ⟨y0, y1⟩ := hz ((k * 7 + 3) % len)
    generalize zs.getD (k % len) 0 = z at *
    generalize zs.getD ((k * 7 + 3) % len) 0 = y at *
    have hb0 : ((len : Int) == 0) = false := beq_eq_false_iff_ne.2 (by omega)
    have hn1 : ¬ n < 1 := by omega
    have hkl : ¬ (k : Int) < (len : Int) := by omega
    have i1 : ((k : Int) % (len : Int)).toNat = k % len := by rw [← Int.natCast_emod, Int.toNat_natCast]
    have i2 : (((k : Int) * 7 + 3) % (len : Int)).toNat = (k * 7 + 3) % len := by
      have : ((k : Int) * 7 + 3) = ((k * 7 + 3 : Nat) : Int) := by omega
      rw [this, ← Int.natCast_emod, Int.toNat_natCast]
    have i3 : (k : Int) % (len : Int) < (len : Int) := Int.emod_lt_of_pos _ (by omega)
    have i4 : ((k : Int) * 7 + 3) % (len : Int) < (len : Int) := Int.emod_lt_of_pos _ (by omega)
    have i5 : 0 ≤ (k : Int) % (len : Int) := Int.emod_nonneg _ (by omega)
    have i6 : 0 ≤ ((k : Int) * 7 + 3) % (len : Int) := Int.emod_nonneg _ (by omega)
    have q0 : 0 ≤ (k : Int) / (len : Int) := Int.ediv_nonneg (by omega) (by omega)
    have q1 : (k : Int) / (len : Int) ≤ (k : Int) := Int.ediv_le_self _ (by omega)
    clear hc hz hck j1 j2
    go_enter Tryz.func80, Tryz.ntmps80
    go_wp2
    go_quiet (fail)
    go_wp2
    go_ret
    generalize (k : Int) / (len : Int) = q at *
    have hx := pick_mix_bd (z * 131 + y * 1117 + (k : Int) * 29 + q * 53) (by omega) (by omega)
    exact ⟨_, rfl, Int.tmod_nonneg _ hx.1, Int.tmod_lt_of_pos _ (by omega), _, rfl⟩

/-- One draw: a number below n; the reader has gone on by one; nothing else has turned. -/
theorem pick (B len cap : Nat) (a : Option Addr) (zs : List Int) (pos n : Int) (w : World) (h : RdAt w B a len cap zs pos) (hp : pos ≤ 1000000000) (h1 : 1 ≤ n) (h2 : n ≤ 1000000) :
    Calls Tryz.prog 80 #[.pointer (some ⟨B, 0, none⟩), .int .i64 n] w fun e w' => ∃ x, e = .returned (.int .i64 x) ∧ 0 ≤ x ∧ x < n ∧ RdAt w' B a len cap zs (pos + 1) ∧ w.grownBy w' (some B) := by
  have hp0 := h.2.2.2.2
  have fin : ∀ w', (∃ m, w' = (w.setCell ⟨B, 1, none⟩ (.int .i64 (pos + 1))).drewN m) → RdAt w' B a len cap zs (pos + 1) ∧ w.grownBy w' (some B) := by
    rintro w' ⟨m, rfl⟩
    have hg : w.grownBy ((w.setCell ⟨B, 1, none⟩ (.int .i64 (pos + 1))).drewN m) (some B) := grownBy_drewN grownBy_set m
    exact ⟨h.step hg (by rw [World.heap_drewN]; exact two_set1 h.1) (by omega), hg⟩
  by_cases hl : len = 0
  · subst hl
    refine (pick_none B cap a zs pos n w h hp h1).mono (fun e w' he => ?_)
    obtain ⟨rfl, rfl⟩ := he
    exact ⟨0, rfl, by omega, by omega, fin _ ⟨0, by rw [World.drewN_zero]⟩⟩
  · obtain ⟨k, rfl⟩ := Int.eq_ofNat_of_zero_le hp0
    have ha : ∃ b off, a = some ⟨b, off, none⟩ := by
      rcases h.2.1 with h | ⟨b, off, ha, _⟩
      · exact absurd h hl
      · exact ⟨b, off, ha⟩
    obtain ⟨b, off, rfl⟩ := ha
    by_cases hk : k < len
    · refine (pick_byte B b off len cap zs k n w h hk h1 h2).mono (fun e w' he => ?_)
      obtain ⟨rfl, rfl⟩ := he
      exact ⟨_, rfl, Int.emod_nonneg _ (by omega), Int.emod_lt_of_pos _ (by omega), fin _ ⟨0, by rw [World.drewN_zero]⟩⟩
    · refine (pick_mix B b off len cap zs k n w h (by omega) (by omega) (by omega) h1 h2).mono (fun e w' he => ?_)
      obtain ⟨x, rfl, hx0, hx1, hm⟩ := he
      exact ⟨x, rfl, hx0, hx1, fin _ hm⟩

/-- One of a list of numbers that lies behind the reader. -/
theorem num (B L len cap : Nat) (a : Option Addr) (zs : List Int) (pos : Int) (xs : List Int) (w : World) (h : RdAt w B a len cap zs pos) (hp : pos ≤ 1000000000) (h1 : 1 ≤ xs.length) (h2 : xs.length ≤ 1000)
    (hL : B < L) (hL2 : L < w.heap.size) (hc : ∀ j, j < xs.length → w.cell? ⟨L, j, none⟩ = some (.int .i64 (xs.getD j 0))) :
    Calls Tryz.prog 81 #[.pointer (some ⟨B, 0, none⟩), .slice (some ⟨L, 0, none⟩) xs.length xs.length] w fun e w' => ∃ j, j < xs.length ∧ e = .returned (.int .i64 (xs.getD j 0)) ∧ RdAt w' B a len cap zs (pos + 1) ∧ w.grownBy w' (some B) := by
  generalize hn : xs.length = n at *
  have HN : Hid (xs.length = n) := hn
  clear hn
  have HC : Hid (∀ j, j < n → w.cell? ⟨L, j, none⟩ = some (.int .i64 (xs.getD j 0))) := hc
  clear hc
  go_enter Tryz.func81, Tryz.ntmps81
  go_wp2_with fail
  refine (pick B len cap a zs pos _ _ h hp (by omega) (by omega)).mono ?_
  rintro e w' ⟨x, rfl, hx0, hx1, hr, hg⟩
  obtain ⟨j, rfl⟩ := Int.eq_ofNat_of_zero_le hx0
  have hj : j < n := by omega
  have hcell : w'.cell? ⟨L, j, none⟩ = some (.int .i64 (xs.getD j 0)) := by
    rw [World.cell?_of_block (a := ⟨L, j, none⟩) (hg.block L hL2 (by simp; omega))]; exact HC.out j hj
  have HR : Hid (RdAt w' B a len cap zs (pos + 1) ∧ w.grownBy w' (some B)) := ⟨hr, hg⟩
  clear hr hg h
  generalize hv : xs.getD j 0 = v at *
  have HV : Hid (xs.getD j 0 = v) := hv
  clear hv
  go_wp2
  go_ret
  exact ⟨j, hj, by rw [HV.out]; rfl, HR.out.1, HR.out.2⟩
def bent : List Int := [-1, 8, 9223372036854775807, -9223372036854775808]
set_option maxHeartbeats 400000 in
theorem l1Label (B len cap : Nat) (a : Option Addr) (zs : List Int) (pos : Int) (w : World) (h : RdAt w B a len cap zs pos) (hp : pos ≤ 100000000) :
    Calls Tryz.prog 63 #[.pointer (some ⟨B, 0, none⟩)] w fun e w' => ∃ x pos', e = .returned (.int .i64 x) ∧ i64In x ∧ pos' ≤ pos + 2 ∧ RdAt w' B a len cap zs pos' ∧ w.grownBy w' (some B) := by
  go_enter Tryz.func63, Tryz.ntmps63
  go_wp2_with fail
  refine (pick B len cap a zs pos _ _ h (by omega) (by omega) (by omega)).mono ?_
  rintro e w1 ⟨x, rfl, hx0, hx1, hr, hg⟩
  by_cases hx : x = 0
  · subst hx
    have hBs := hr.lt
    have hr2 : RdAt (w1.alloc (.cells (bent.map (Value.int .i64)).toArray 3)) B a len cap zs (pos + 1) := hr.below ((Below.refl _ _).alloc (Nat.le_refl _) _) hBs
    have hcs : ∀ j, j < bent.length → (w1.alloc (.cells (bent.map (Value.int .i64)).toArray 3)).cell? ⟨w1.heap.size, j, none⟩ = some (.int .i64 (bent.getD j 0)) := fun j hj => by
      rw [World.cell?_alloc_at _ _ _ _ rfl]
      simp only [bent, List.length_cons, List.length_nil] at hj
      have : j = 0 ∨ j = 1 ∨ j = 2 ∨ j = 3 := by omega
      rcases this with rfl | rfl | rfl | rfl <;> rfl
    go_wp2_with fail
    refine (num B w1.heap.size len cap a zs (pos + 1) bent _ hr2 (by omega) (by decide) (by decide) hBs (by simp) hcs).mono ?_
    rintro e w2 ⟨j, hj, rfl, hr3, hg3⟩
    have hv : i64In (bent.getD j 0) := by
      simp only [bent, List.length_cons, List.length_nil] at hj
      have : j = 0 ∨ j = 1 ∨ j = 2 ∨ j = 3 := by omega
      unfold i64In
      rcases this with rfl | rfl | rfl | rfl <;> simp [bent]
    generalize bent.getD j 0 = v at *
    have HR : Hid (RdAt w2 B a len cap zs (pos + 1 + 1) ∧ w.grownBy w2 (some B)) := ⟨hr3, grownBy_trans hg (grownBy_trans (World.grownBy_alloc _ _ _) hg3)⟩
    have HV : Hid (i64In v) := hv
    clear hr hg h hr2 hcs hr3 hg3 hv
    go_wp2_with fail
    go_ret
    exact ⟨v, pos + 1 + 1, rfl, HV.out, by omega, HR.out.1, HR.out.2⟩
  · have hx' : (x == 0) = false := beq_eq_false_iff_ne.2 hx
    clear hx
    go_wp2_with fail
    refine (pick B len cap a zs (pos + 1) _ _ hr (by omega) (by omega) (by omega)).mono ?_
    rintro e w2 ⟨y, rfl, hy0, hy1, hr3, hg3⟩
    have HR : Hid (RdAt w2 B a len cap zs (pos + 1 + 1) ∧ w.grownBy w2 (some B)) := ⟨hr3, grownBy_trans hg hg3⟩
    clear hr hg h hr3 hg3
    go_wp2_with fail
    go_ret
    exact ⟨y, pos + 1 + 1, rfl, ⟨by omega, by omega⟩, by omega, HR.out.1, HR.out.2⟩
/-- A code that came in. -/
def CodeAt (w : World) (a : Option Addr) (len cap : Nat) (zs : List Int) : Prop :=
  (len = 0 ∨ ∃ b off, a = some ⟨b, off, none⟩ ∧ b < w.heap.size ∧ ∀ j, j < len → w.cell? ⟨b, off + j, none⟩ = some (.int .u8 (zs.getD j 0))) ∧
  (∀ j, 0 ≤ zs.getD j 0 ∧ zs.getD j 0 ≤ 255) ∧ len ≤ cap ∧ cap ≤ maxLen
theorem cell_ltD {w : World} {p : Addr} {v : Value} (h : w.cell? p = some v) : p.block < w.heap.size := by
  rcases Nat.lt_or_ge p.block w.heap.size with h' | h'
  · exact h'
  · simp [World.cell?, Array.getElem?_eq_none h'] at h
theorem code_of {w : World} {a : Option Addr} {len cap : Nat} {zs : List Int}
    (h : (a = none ∧ len = 0 ∧ cap = 0 ∧ zs = []) ∨ ∃ x, a = some x ∧ len ≤ cap ∧ cap ≤ maxLen ∧ zs.length = cap ∧ (∀ i, i < zs.length → w.cell? (x.add i) = some (.int .u8 (zs.getD i 0))) ∧ ∀ n ∈ zs, (Lit.int .u8 n).wf = true) :
    CodeAt w a len cap zs := by
  rcases h with ⟨rfl, rfl, rfl, rfl⟩ | ⟨x, rfl, hl, hm, hz, hc, hw⟩
  · exact ⟨.inl rfl, fun j => by simp, Nat.le_refl _, by unfold maxLen; omega⟩
  · refine ⟨?_, fun j => ?_, hl, hm⟩
    · by_cases h0 : len = 0
      · exact .inl h0
      · obtain ⟨b, off, spot⟩ := x
        have h1 := hc 0 (by omega)
        have hspot : spot = none := by simpa [Addr.add] using World.cell?_spot h1
        subst hspot
        have hlt : b < w.heap.size := by simpa [Addr.add] using cell_ltD h1
        exact .inr ⟨b, off, rfl, hlt, fun j hj => by
          have hcj := hc j (by omega)
          by_cases hj0 : j = 0
          · subst hj0; simpa [Addr.add] using hcj
          · simpa [Addr.add, hj0] using hcj⟩
    · simpa [List.getD_eq_getElem?_getD] using range_u8 hw j
theorem CodeAt.below {w w' : World} {a : Option Addr} {len cap : Nat} {zs : List Int} (h : CodeAt w a len cap zs) (hb : Below w.heap.size w w') : CodeAt w' a len cap zs := by
  obtain ⟨h1, h2⟩ := h
  refine ⟨?_, h2⟩
  rcases h1 with h1 | ⟨b, off, ha, hlt, hc⟩
  · exact .inl h1
  · exact .inr ⟨b, off, ha, Nat.lt_of_lt_of_le hlt hb.size, fun j hj => by rw [hb.cell (p := ⟨b, off + j, none⟩) hlt]; exact hc j hj⟩
theorem below_of_grown {w w' : World} {B : Nat} (h : w.grownBy w' (some B)) (hB : B ≤ w.heap.size) : Below B w w' :=
  ⟨h.os, h.tape, h.output, h.size, fun k hk => h.block k (by omega) (by simp; omega)⟩
/-- What 'l9Open' leaves: a reader in a new block. -/
theorem open_at {w : World} {a : Option Addr} {len cap : Nat} {zs : List Int} (h : CodeAt w a len cap zs) (n : Nat) (hn : n ≤ len) (hn2 : n ≤ 2000) :
    RdAt (w.alloc (.cells #[.slice a n cap, .int .i64 0] 124)) w.heap.size a n cap zs 0 := by
  obtain ⟨h1, h2, _⟩ := h
  refine ⟨by show (w.heap.push _)[w.heap.size]? = _; simp, ?_, h2, hn2, by omega⟩
  rcases h1 with h1 | ⟨b, off, ha, hlt, hc⟩
  · exact .inl (by omega)
  · exact .inr ⟨b, off, ha, hlt, fun j hj => by rw [World.cell?_alloc_past _ _ _ hlt]; exact hc j (by omega)⟩
set_option maxHeartbeats 400000 in
theorem l9Open (a : Option Addr) (len cap : Nat) (zs : List Int) (w : World) (h : CodeAt w a len cap zs) :
    Calls Tryz.prog 47 #[.slice a len cap] w fun e w' => e = .returned (.pointer (some ⟨w.heap.size, 0, none⟩)) ∧ (∃ n, RdAt w' w.heap.size a n cap zs 0) ∧ Below w.heap.size w w' := by
  by_cases hl : len ≤ 2000
  · have hr := open_at h len (Nat.le_refl _) hl
    have HR : Hid (RdAt (w.alloc (.cells #[.slice a len cap, .int .i64 0] 124)) w.heap.size a len cap zs 0) := hr
    clear hr h
    go_enter Tryz.func47, Tryz.ntmps47
    go_wp2
    go_ret
    exact ⟨rfl, ⟨len, HR.out⟩, (Below.refl _ _).alloc (Nat.le_refl _) _⟩
  · have hr := open_at h 2000 (by omega) (by omega)
    have HR : Hid (RdAt (w.alloc (.cells #[.slice a 2000 cap, .int .i64 0] 124)) w.heap.size a 2000 cap zs 0) := hr
    obtain ⟨h1, _, hlc, hm⟩ := h
    unfold maxLen at hm
    rcases h1 with h1 | ⟨b, off, rfl, _⟩
    · omega
    clear hr
    go_enter Tryz.func47, Tryz.ntmps47
    go_wp2
    go_ret
    exact ⟨rfl, ⟨2000, HR.out⟩, (Below.refl _ _).alloc (Nat.le_refl _) _⟩
end Go.Proofs.YtlnpbfeihjfnjaaGreatDoor.Lab

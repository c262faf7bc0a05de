/-
  Texts cut at a byte: spec.l9Cut.
-/
import Derived.Test.YtbgcalhpopcakaaDoorRow
import Derived.Test.YtbgcalhpopcakaaDoorApp
import Derived.WalkKit
import Derived.WalkSpells
import Derived.WalkLawsBesides
namespace Go.Proofs.YtbgcalhpopcakaaDoor.Lab
open Go.RowKit
set_option linter.unusedVariables false
def encStr (x : ByteArray) : List Value := [.string x]
theorem encStr_len (x : ByteArray) : (encStr x).length = 1 := rfl
theorem encStr_one (x : ByteArray) : ∀ u ∈ encStr x, u.oneCell' = true := fun u hu => by simp [encStr] at hu; subst hu; rfl
/-- The pieces of a text between bytes c; acc: what has been read of the piece under way. -/
def cutS (c : UInt8) : List UInt8 → List UInt8 → List (List UInt8)
  | [], acc => [acc]
  | x :: xs, acc => if x = c then acc :: cutS c xs [] else cutS c xs (acc ++ [x])
def cutB (c : UInt8) (s : ByteArray) : List ByteArray := (cutS c s.data.toList []).map (fun l => ⟨l.toArray⟩)
theorem drop_at {l : List UInt8} {k : Nat} {x : UInt8} (h : l[k]? = some x) : l.drop k = x :: l.drop (k + 1) := by
  obtain ⟨h1, h2⟩ := List.getElem?_eq_some_iff.1 h
  rw [List.drop_eq_getElem_cons h1, h2]
theorem take_at {l : List UInt8} {j k : Nat} {x : UInt8} (hj : j ≤ k) (h : l[k]? = some x) : (l.drop j).take (k + 1 - j) = (l.drop j).take (k - j) ++ [x] := by
  have e : k + 1 - j = (k - j) + 1 := by omega
  rw [e, List.take_add_one, List.getElem?_drop, show j + (k - j) = k by omega, h]; rfl
theorem extract_list (s : ByteArray) (j k : Nat) : (⟨((s.data.toList.drop j).take (k - j)).toArray⟩ : ByteArray) = s.extract j k := by
  apply ByteArray.ext
  rw [ByteArray.data_extract]
  apply Array.toList_inj.1
  simp [Array.toList_extract]
theorem byte_at {s : ByteArray} {k : Nat} (hk : k < s.size) : s.data.toList[k]? = some (s[k]'hk) := by
  have h : k < s.data.toList.length := by simpa using hk
  rw [List.getElem?_eq_getElem h]; rfl
/-- How far the cutting has come. -/
def CutAt (c : UInt8) (s : ByteArray) (k j : Nat) (rs : List ByteArray) : Prop :=
  (j ≤ k ∧ k ≤ s.size ∧ rs.length ≤ k ∧ cutS c s.data.toList [] = rs.map (fun r => r.data.toList) ++ cutS c (s.data.toList.drop k) ((s.data.toList.drop j).take (k - j))) ∨ (k = s.size + 1 ∧ rs.length ≤ k ∧ cutS c s.data.toList [] = rs.map (fun r => r.data.toList))
theorem ext_data (s : ByteArray) (j k : Nat) : (s.extract j k).data.toList = (s.data.toList.drop j).take (k - j) := by rw [← extract_list]
theorem CutAt.hit {c : UInt8} {s : ByteArray} {k j : Nat} {rs : List ByteArray} (h : CutAt c s k j rs) (hk : k < s.size) (hx : s[k]'hk = c) : CutAt c s (k + 1) (k + 1) (rs ++ [s.extract j k]) := by
  rcases h with ⟨h1, h2, h3, h4⟩ | ⟨h1, _⟩
  · refine .inl ⟨Nat.le_refl _, hk, by simp; omega, ?_⟩
    rw [h4, drop_at (byte_at hk), hx]
    simp [cutS]
  · omega
theorem CutAt.miss {c : UInt8} {s : ByteArray} {k j : Nat} {rs : List ByteArray} (h : CutAt c s k j rs) (hk : k < s.size) (hx : s[k]'hk ≠ c) : CutAt c s (k + 1) j rs := by
  rcases h with ⟨h1, h2, h3, h4⟩ | ⟨h1, _⟩
  · refine .inl ⟨by omega, hk, by omega, ?_⟩
    rw [h4, take_at h1 (byte_at hk), drop_at (byte_at hk)]
    simp [cutS, hx]
  · omega
theorem CutAt.last {c : UInt8} {s : ByteArray} {j : Nat} {rs : List ByteArray} (h : CutAt c s s.size j rs) : CutAt c s (s.size + 1) (s.size + 1) (rs ++ [s.extract j s.size]) := by
  rcases h with ⟨h1, h2, h3, h4⟩ | ⟨h1, _⟩
  · refine .inr ⟨rfl, by simp; omega, ?_⟩
    rw [h4]
    have : s.data.toList.drop s.size = [] := List.drop_eq_nil_of_le (by simp)
    rw [this]
    simp [cutS]
  · omega
theorem CutAt.done {c : UInt8} {s : ByteArray} {j : Nat} {rs : List ByteArray} (h : CutAt c s (s.size + 1) j rs) : rs = cutB c s := by
  rcases h with ⟨h1, h2, _⟩ | ⟨_, _, h⟩
  · omega
  · unfold cutB
    rw [h, List.map_map]
    simp [Function.comp_def]
theorem Tryd.infoStr : (Tryd.prog.info? 9).map (fun i => (i.zero, i.size, i.bytes)) = some (some (.string ⟨#[]⟩), 1, 16) := by kernel_rfl
set_option maxRecDepth 16000 in
set_option maxHeartbeats 2000000 in
theorem spec_l9Cut (s : ByteArray) (c : UInt8) (w : World) (hs : s.size ≤ 1048576) :
    Calls Tryd.prog 25 #[.string s, .int .u8 c.toNat] w fun e w' => ∃ v, e = .returned v ∧ w'.ownsRow w.heap.size 9 1 v (cutB c s).length ((cutB c s).flatMap encStr) ∧ Below w.heap.size w w' := by
  obtain ⟨i0, hi, hz0, hz1, hz2⟩ := info_parts Tryd.infoStr
  go_enter Tryd.func25, Tryd.ntmps25
  go_wp2_with fail
  have own0 : (w.alloc (.cells #[] 9)).ownsRow w.heap.size 9 1 (.slice (some ⟨w.heap.size, 0, none⟩) 0 0) 0 [] :=
    ⟨by simp, .inr ⟨w.heap.size, 0, #[], rfl, Nat.le_refl _, new_block _ _, Nat.le_refl _, by unfold maxLen; omega, by simp, by simp⟩⟩
  obtain ⟨W0, hW0⟩ : ∃ W0, W0 = w.alloc (.cells #[] 9) := ⟨_, rfl⟩
  rw [← hW0] at own0
  have HO0 : Hid (W0.ownsRow w.heap.size 9 1 (.slice (some ⟨w.heap.size, 0, none⟩) 0 0) 0 []) := own0
  have HB0 : Hid (Below w.heap.size w W0) := by show Below _ _ _; rw [hW0]; exact (Below.refl _ _).alloc (Nat.le_refl _) _
  have z0 : w.heap.size < W0.heap.size := by rw [hW0]; simp
  rw [← hW0]
  clear hW0 own0
  go_loopw [5, 6, 7] (fun q f i wr => ∃ (k j : Nat) (rs : List ByteArray), i = .int .i64 k ∧ f = .int .i64 j ∧ CutAt c s k j rs ∧ Below w.heap.size w wr ∧ wr.ownsRow w.heap.size 9 1 q rs.length (rs.flatMap encStr)) (fun _ _ i _ => s.size + 1 - (intOf i).toNat)
  case atStart => exact ⟨0, 0, [], rfl, rfl, .inl ⟨Nat.le_refl _, Nat.zero_le _, Nat.le_refl _, by simp⟩, HB0.out, HO0.out⟩
  case round =>
    obtain ⟨k, j, rs, rfl, rfl, hc, hb, hown⟩ := hrel
    have HC : Hid (CutAt c s k j rs) := hc
    have HB : Hid (Below w.heap.size w wr) := hb
    have hsz := hb.size
    obtain ⟨x0, y0, rfl⟩ := own_form hown
    have hlen : rs.length ≤ 1048577 ∧ k ≤ s.size + 1 ∧ (k ≤ s.size → j ≤ k) := by rcases hc with ⟨h1, h2, h3, h4⟩ | ⟨h1, h2, h3⟩ <;> omega
    obtain ⟨n, hn⟩ : ∃ n, n = rs.length := ⟨_, rfl⟩
    rw [← hn] at hown hlen
    rw [← hn]
    obtain ⟨hnl, hk1, hjk⟩ := hlen
    have HO : Hid (wr.ownsRow w.heap.size 9 1 (.slice x0 n y0) n (rs.flatMap encStr)) := hown
    have LT : Hid (∀ z, (Value.slice x0 n y0).ownBlock = some z → w.heap.size ≤ z) := fun z hz => (hown.lt z hz).1
    have HN : Hid (n = rs.length) := hn
    clear hc hb hown hn
    by_cases hd : k = s.size + 1
    · subst hd
      have hcut : rs = cutB c s := HC.out.done
      subst hcut
      go_wp2_with fail
      go_ret
      exact ⟨_, rfl, by rw [← HN.out]; exact HO.out, HB.out⟩
    · have hks1 : k ≤ s.size := by omega
      have hjk2 : j ≤ k := hjk hks1
      clear hjk hk1 hd
      by_cases hlt : k = s.size
      · subst hlt
        have g0 : ((s.size : Int) == (s.size : Int)) = true := by simp
        go_wp2_with (at_builtin; refine wpList_append_own _ rfl _ _ 47 rfl w.heap.size 9 i0 _ 1 16 Tryd.underlying47 hi hz0 hz1 hz2 rfl (by decide) _ _ _ rfl (HO.out.alloc _) ⟨wr.heap.size, 0, none⟩ 1 1 [.string (s.extract j s.size)] rfl rfl ?c1 ?c2 ?c3 ?c4 ?c5 ?_)
        case c1 =>
          intro k' u hu
          match k', hu with
          | 0, hu => simp at hu; subst hu; simp [Addr.add, go_sem]
        case c2 => intro u hu; simp at hu; subst hu; rfl
        case c3 => unfold maxLen; omega
        case c4 => omega
        case c5 => simp; omega
        intro v' w3 hown' hgrow _
        have B3 : Hid (Below w.heap.size w w3) := (HB.out.alloc hsz _).grown hgrow (by (try simp); (try omega)) (fun z hz => LT.out z hz)
        have R3 : Hid (w3.ownsRow w.heap.size 9 1 v' (rs ++ [s.extract j s.size]).length ((rs ++ [s.extract j s.size]).flatMap encStr)) := by
          show w3.ownsRow _ _ _ _ _ _
          rw [List.length_append, List.flatMap_append, ← HN.out]; exact hown'
        have C3 : Hid (CutAt c s (s.size + 1) (s.size + 1) (rs ++ [s.extract j s.size])) := HC.out.last
        clear hown' hgrow
        go_wp2_with fail
        go_roundw
        case rel => exact ⟨s.size + 1, s.size + 1, rs ++ [s.extract j s.size], by go_num, by go_num, C3.out, B3.out, R3.out⟩
        case measure => simp [intOf] <;> omega
      · have hks : k < s.size := by omega
        have g0 : ((k : Int) == (s.size : Int)) = false := by simpa using (by omega : ¬ (k : Int) = s.size)
        by_cases hxc : s[k]'hks = c
        · have HH : Hid (s[k]'hks = c) := hxc
          have g1 : (((s[k]'hks).toNat : Int) == (c.toNat : Int)) = true := by rw [hxc]; simp
          clear hxc
          go_wp2_with (at_builtin; refine wpList_append_own _ rfl _ _ 47 rfl w.heap.size 9 i0 _ 1 16 Tryd.underlying47 hi hz0 hz1 hz2 rfl (by decide) _ _ _ rfl (HO.out.alloc _) ⟨wr.heap.size, 0, none⟩ 1 1 [.string (s.extract j k)] rfl rfl ?c1 ?c2 ?c3 ?c4 ?c5 ?_)
          case c1 =>
            intro k' u hu
            match k', hu with
            | 0, hu => simp at hu; subst hu; simp [Addr.add, go_sem]
          case c2 => intro u hu; simp at hu; subst hu; rfl
          case c3 => unfold maxLen; omega
          case c4 => omega
          case c5 => simp; omega
          intro v' w3 hown' hgrow _
          have B3 : Hid (Below w.heap.size w w3) := (HB.out.alloc hsz _).grown hgrow (by (try simp); (try omega)) (fun z hz => LT.out z hz)
          have R3 : Hid (w3.ownsRow w.heap.size 9 1 v' (rs ++ [s.extract j k]).length ((rs ++ [s.extract j k]).flatMap encStr)) := by
            show w3.ownsRow _ _ _ _ _ _
            rw [List.length_append, List.flatMap_append, ← HN.out]; exact hown'
          have C3 : Hid (CutAt c s (k + 1) (k + 1) (rs ++ [s.extract j k])) := HC.out.hit hks HH.out
          clear hown' hgrow
          go_wp2_with fail
          go_roundw
          case rel => exact ⟨k + 1, k + 1, rs ++ [s.extract j k], by go_num, by go_num, C3.out, B3.out, R3.out⟩
          case measure => simp [intOf] <;> omega
        · have HH : Hid (¬ s[k]'hks = c) := hxc
          have g1 : (((s[k]'hks).toNat : Int) == (c.toNat : Int)) = false := by
            simp only [beq_eq_false_iff_ne, ne_eq]
            intro h
            exact hxc (UInt8.toNat_inj.1 (by omega))
          clear hxc
          go_wp2_with fail
          go_roundw
          case rel => exact ⟨k + 1, j, rs, by go_num, rfl, HC.out.miss hks HH.out, HB.out, by rw [← HN.out]; exact HO.out⟩
          case measure => simp [intOf] <;> omega
end Go.Proofs.YtbgcalhpopcakaaDoor.Lab

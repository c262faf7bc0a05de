/-
  The four error variables of a card: four sentinels, each another one.
-/
import Derived.Test.YtkhfbaggkmeahabGreatDoorErs
import Derived.Test.YtkhfbaggkmeahabGreatDoorBis
import Derived.LaidLaws
import Derived.Stop.LaidErr
namespace Go.Proofs.YtkhfbaggkmeahabGreatDoor.Lab
open Go.ChangeShapes Go.WideShapes Go.ChangeAt Go.RowKit
set_option linter.unusedVariables false
theorem err_star : "*" ++ "errors.errorString" = "*errors.errorString" := by decide
theorem err_row (u : TypeId) (h : Tryz.prog.typeName? 3 u = some "*errors.errorString") : u = 175 :=
  typeName_ptr_named (nm := "errors.errorString") (by rw [err_star]; kernel_rfl) (by kernel_rfl) (by decide) u (by rw [err_star]; exact h)
theorem err_cells : Tryz.prog.cellsOf 201 = 1 := by kernel_rfl
theorem str_cells : Tryz.prog.cellsOf 9 = 1 := by kernel_rfl
set_option maxRecDepth 100000 in
theorem sent_one {W : World} {g : Nat} {n : String} {cs : Array Value} {fuel : Nat} {text : List UInt8} {p : List MemPlace} (hg : Tryz.prog.globalNamed n = some g) (hv : W.var? Tryz.prog n = some cs)
    (hd : DataW.trod (fun _ => ()) Tryz.prog W 0 (fun _ => true) false fuel 62 cs.toList = some ((.iface "*errors.errorString" (.ptr (.agg [.lit (.string text)])) : DataW Unit), p))
    (hrows : ∀ b off, (MemPlace.cell b off) ∈ (MemPlace.row ⟨g, 0, none⟩ cs.size ++ p) → (∃ c t, W.heap[b]? = some (.cells c t (0, 0))) ∧ ∀ u v, W.cell? ⟨b, off, none⟩ = some (.iface u v) → Value.okWide Tryz.prog W .any 0 u v) :
    ∃ a : Addr, SentAt W g a ∧ p = [.cell a.block a.off] := by
  obtain ⟨l⟩ := cs
  have ok : ∀ u v, l = [.iface u v] → Value.okWide Tryz.prog W .any 0 u v := fun u v e => by
    subst e
    exact (hrows g 0 (by simp [MemPlace.row])).2 u v (World.var?_cell hg hv 0)
  obtain ⟨a, s, rfl, hc, hs, hz, rfl⟩ := errorString_of_trod Tryz.underlying62 err_row Tryz.underlying175 Tryz.underlying201 rfl rfl Tryz.underlying9 err_cells str_cells hd ok
  have hm : MemPlace.row a 1 = [.cell a.block a.off] := by simp [MemPlace.row]
  refine ⟨a, ⟨World.var?_cell hg hv 0, (hrows a.block a.off (List.mem_append_right _ (by rw [hm]; simp))).1⟩, hm⟩
set_option maxRecDepth 100000 in
theorem four_of {W : World} (h : laidMetH Tryz.prog [("loop.example/hagioscope/impl.errForm", Rows.laid_loop_example_hagioscope_impl_errForm), ("loop.example/hagioscope/impl.errThere", Rows.laid_loop_example_hagioscope_impl_errThere), ("loop.example/hagioscope/impl.errNone", Rows.laid_loop_example_hagioscope_impl_errNone), ("loop.example/hagioscope/impl.errFull", Rows.laid_loop_example_hagioscope_impl_errFull)] W) :
    ∃ aF aT aN aU, Four W aF aT aN aU := by
  rw [MakeChecks.laidMetH_plain _ _ _ (by kernel_rfl)] at h
  obtain ⟨ps, ⟨g0, t0, cs0, f0, p0, q0, hg0, ht0, hv0, hd0, ⟨g1, t1, cs1, f1, p1, q1, hg1, ht1, hv1, hd1, ⟨g2, t2, cs2, f2, p2, q2, hg2, ht2, hv2, hd2, ⟨g3, t3, cs3, f3, p3, q3, hg3, ht3, hv3, hd3, hn, e3⟩, e2⟩, e1⟩, e0⟩, hnd, hrows⟩ := h
  obtain rfl := Option.some.inj ((show Tryz.prog.globalNamed "loop.example/hagioscope/impl.errForm" = some 0 by kernel_rfl).symm.trans hg0)
  obtain rfl := Option.some.inj ((show Tryz.prog.globalNamed "loop.example/hagioscope/impl.errThere" = some 1 by kernel_rfl).symm.trans hg1)
  obtain rfl := Option.some.inj ((show Tryz.prog.globalNamed "loop.example/hagioscope/impl.errNone" = some 2 by kernel_rfl).symm.trans hg2)
  obtain rfl := Option.some.inj ((show Tryz.prog.globalNamed "loop.example/hagioscope/impl.errFull" = some 3 by kernel_rfl).symm.trans hg3)
  obtain rfl := Option.some.inj ((show (Tryz.prog.globals[0]?).map (·.type) = some 62 by kernel_rfl).symm.trans ht0)
  obtain rfl := Option.some.inj ((show (Tryz.prog.globals[1]?).map (·.type) = some 62 by kernel_rfl).symm.trans ht1)
  obtain rfl := Option.some.inj ((show (Tryz.prog.globals[2]?).map (·.type) = some 62 by kernel_rfl).symm.trans ht2)
  obtain rfl := Option.some.inj ((show (Tryz.prog.globals[3]?).map (·.type) = some 62 by kernel_rfl).symm.trans ht3)
  subst e3
  subst e2
  subst e1
  subst e0
  obtain ⟨aF, sF, rfl⟩ := sent_one hg0 hv0 hd0 (fun b off hm => hrows b off (List.mem_append_left _ hm))
  obtain ⟨aT, sT, rfl⟩ := sent_one hg1 hv1 hd1 (fun b off hm => hrows b off (List.mem_append_right _ (List.mem_append_left _ hm)))
  obtain ⟨aN, sN, rfl⟩ := sent_one hg2 hv2 hd2 (fun b off hm => hrows b off (List.mem_append_right _ (List.mem_append_right _ (List.mem_append_left _ hm))))
  obtain ⟨aU, sU, rfl⟩ := sent_one hg3 hv3 hd3 (fun b off hm => hrows b off (List.mem_append_right _ (List.mem_append_right _ (List.mem_append_right _ (List.mem_append_left _ hm)))))
  refine ⟨aF, aT, aN, aU, sF, sT, sN, sU, ?_, ?_, ?_, ?_, ?_, ?_⟩ <;> (rintro rfl; simp [List.nodup_append, List.nodup_cons] at hnd)
end Go.Proofs.YtkhfbaggkmeahabGreatDoor.Lab

/-
  DERIVED. GIVEN WITH THE SEED: THE PROGRAM's TIES (one call each: nine closed facts by the kernel) AND EACH ROW's TIE, after the 31st guide's Derived/Test/Toyas{Tie, Card}.lean. No idea stands in it: it is a product of the set-up. Laid BY PROGRAM, IN A SANDBOX (cutbox-door.mjs). By AI agents, Wed Nov 11 2026. No macro, syntax, notation, axiom, sorry.
-/
import Derived.Test.YtlnpbfeihjfnjabGreatDoorRows
import Derived.LaidByTextLater
import Derived.SevenTiedAt
import Derived.LaidSub
import Derived.LaidOnce
namespace Go.Proofs.YtlnpbfeihjfnjabGreatDoor
open Go
set_option maxRecDepth 100000
theorem seatTie1 : Tryz.prog.laidByTextLater [("loop.example/hagioscope/impl.errForm", Rows.laid_loop_example_hagioscope_impl_errForm), ("loop.example/hagioscope/impl.errThere", Rows.laid_loop_example_hagioscope_impl_errThere), ("loop.example/hagioscope/impl.errNone", Rows.laid_loop_example_hagioscope_impl_errNone), ("loop.example/hagioscope/impl.errFull", Rows.laid_loop_example_hagioscope_impl_errFull)] [.sentinel, .sentinel, .sentinel, .sentinel] true :=
  Program.laidByTextLater_by_one 85 8 2 (by kernel_rfl) (by kernel_rfl) (by kernel_rfl) (by kernel_rfl) (by kernel_rfl) (by kernel_rfl) (fun _ _ => by kernel_rfl)
theorem noOwnUnsafe : Tryz.pinned.checked.prog.headLifts.contains "ownunsafe" = false := by kernel_rfl
theorem tie : Tryz.prog.laidByTextLater [("loop.example/hagioscope/impl.errForm", Rows.laid_loop_example_hagioscope_impl_errForm), ("loop.example/hagioscope/impl.errThere", Rows.laid_loop_example_hagioscope_impl_errThere), ("loop.example/hagioscope/impl.errNone", Rows.laid_loop_example_hagioscope_impl_errNone), ("loop.example/hagioscope/impl.errFull", Rows.laid_loop_example_hagioscope_impl_errFull)] [.sentinel, .sentinel, .sentinel, .sentinel] true :=
  Program.laidByTextLater.sub seatTie1 ["loop.example/hagioscope/impl.errForm", "loop.example/hagioscope/impl.errThere", "loop.example/hagioscope/impl.errNone", "loop.example/hagioscope/impl.errFull"] (by kernel_rfl) (by kernel_rfl)
theorem fnExactStoreOf_row_tie : Rows.fnExactStoreOfRow.laidByTextAt .later Tryz.pinned [.sentinel, .sentinel, .sentinel, .sentinel] true :=
  OpenClaim.laidByTextAt_later rfl rfl tie noOwnUnsafe
theorem fnExactStoreRead_row_tie : Rows.fnExactStoreReadRow.laidByTextAt .later Tryz.pinned [.sentinel, .sentinel, .sentinel, .sentinel] true :=
  OpenClaim.laidByTextAt_later rfl rfl tie noOwnUnsafe
theorem fnExactStoreOfUpto_row_tie : Rows.fnExactStoreOfUptoRow.laidByTextAt .later Tryz.pinned [.sentinel, .sentinel, .sentinel, .sentinel] true :=
  OpenClaim.laidByTextAt_later rfl rfl tie noOwnUnsafe
theorem fnExactStoreReadUpto_row_tie : Rows.fnExactStoreReadUptoRow.laidByTextAt .later Tryz.pinned [.sentinel, .sentinel, .sentinel, .sentinel] true :=
  OpenClaim.laidByTextAt_later rfl rfl tie noOwnUnsafe
end Go.Proofs.YtlnpbfeihjfnjabGreatDoor

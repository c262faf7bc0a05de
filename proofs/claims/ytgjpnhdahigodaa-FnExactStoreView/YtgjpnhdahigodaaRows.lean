/-
  No cell of these rows narrows 'for every input' (looked for: loops, veiled, ifaces, maps, wideKeys, modest, calm, conditions, laid).
  DERIVED. THE GIVEN ROWS OF THIS SEAT. 3 by the template 'for every input the law returns true; each argument reads behind the call as it read before'; 0 by the template 'total and deterministic' (their statements: YtgjpnhdahigodaaTotals.lean).
  GIVEN WITH THE SEED: the statements are not yours to turn. If you find one false, say at which input.
  Laid BY PROGRAM, IN A SANDBOX (cutbox-rows.mjs): the forced cells as the released guide's own fill.sh prints them over the translation 3dc25b624b1455c8… (all of the seat's roots in one cut). By AI agents, Wed Nov 11 2026. No macro, syntax, notation, axiom, sorry.
-/
import Derived.Test.YtgjpnhdahigodaaChecked
import GoSem.Claim
import GoSem.ClaimJoined
import GoSem.ClaimMapViews
import Derived.JoinedTies
import Derived.KernelRfl
namespace Go.Proofs.Ytgjpnhdahigodaa
/- THE CELL 'sum', in the pinned program and in every row, IS THE sha256 OF THE DUMP (.gsa) THAT YtgjpnhdahigodaaProg.lean LOADS. Nothing in Lean hashes anything: it is a label: what it is worth is what the hold of that sum in a sandbox is worth. -/
noncomputable def Try.pinned : Pinned := { name := "ytgjpnhdahigodaa", sum := "3dc25b624b1455c81200c6d8131bf54042750712fa32e77a21b87ec0b760ac2c", checked := Try.checked }
namespace Rows
def none {H : Type} : Left H := { results := [], args := [] }

/-- 'laws.FnStoreNarrow': WHATEVER THE INPUT: true; the input reads as it did. -/
def fnStoreNarrowSpec : ChangeSpec := { name := "fnStoreNarrow", fn := fun _ => fun
  | [d1, d2] => { results := [.lit (.bool true)], args := [d1, d2] }
  | _ => none }
def fnStoreNarrowRow : OpenClaim := { program := "ytgjpnhdahigodaa", sum := "3dc25b624b1455c81200c6d8131bf54042750712fa32e77a21b87ec0b760ac2c", func := "loop.example/hagioscope/laws.FnStoreNarrow", spec := "fnStoreNarrow", apart := false }
def FnStoreNarrowSaid : Prop := fnStoreNarrowRow.holds Try.pinned (OpenSpec.ofChange fnStoreNarrowSpec)

/-- ITS FALSE NEIGHBOUR: 'it returns false'. Refute it at one input. -/
def fnStoreNarrowWrong : ChangeSpec := { name := "fnStoreNarrow", fn := fun _ => fun
  | [d1, d2] => { results := [.lit (.bool false)], args := [d1, d2] }
  | _ => none }
def FnStoreNarrowWrongFalsely : Prop := fnStoreNarrowRow.holds Try.pinned (OpenSpec.ofChange fnStoreNarrowWrong)

/-- 'laws.FnExactStoreView': WHATEVER THE INPUT: true; the input reads as it did. -/
def fnExactStoreViewSpec : ChangeSpec := { name := "fnExactStoreView", fn := fun _ => fun
  | [d1, d2] => { results := [.lit (.bool true)], args := [d1, d2] }
  | _ => none }
def fnExactStoreViewRow : OpenClaim := { program := "ytgjpnhdahigodaa", sum := "3dc25b624b1455c81200c6d8131bf54042750712fa32e77a21b87ec0b760ac2c", func := "loop.example/hagioscope/laws.FnExactStoreView", spec := "fnExactStoreView", apart := false }
def FnExactStoreViewSaid : Prop := fnExactStoreViewRow.holds Try.pinned (OpenSpec.ofChange fnExactStoreViewSpec)

/-- ITS FALSE NEIGHBOUR: 'it returns false'. Refute it at one input. -/
def fnExactStoreViewWrong : ChangeSpec := { name := "fnExactStoreView", fn := fun _ => fun
  | [d1, d2] => { results := [.lit (.bool false)], args := [d1, d2] }
  | _ => none }
def FnExactStoreViewWrongFalsely : Prop := fnExactStoreViewRow.holds Try.pinned (OpenSpec.ofChange fnExactStoreViewWrong)

/-- 'laws.FnExactStoreSame': WHATEVER THE INPUT: true; the input reads as it did. -/
def fnExactStoreSameSpec : ChangeSpec := { name := "fnExactStoreSame", fn := fun _ => fun
  | [d1, d2] => { results := [.lit (.bool true)], args := [d1, d2] }
  | _ => none }
def fnExactStoreSameRow : OpenClaim := { program := "ytgjpnhdahigodaa", sum := "3dc25b624b1455c81200c6d8131bf54042750712fa32e77a21b87ec0b760ac2c", func := "loop.example/hagioscope/laws.FnExactStoreSame", spec := "fnExactStoreSame", apart := false }
def FnExactStoreSameSaid : Prop := fnExactStoreSameRow.holds Try.pinned (OpenSpec.ofChange fnExactStoreSameSpec)

/-- ITS FALSE NEIGHBOUR: 'it returns false'. Refute it at one input. -/
def fnExactStoreSameWrong : ChangeSpec := { name := "fnExactStoreSame", fn := fun _ => fun
  | [d1, d2] => { results := [.lit (.bool false)], args := [d1, d2] }
  | _ => none }
def FnExactStoreSameWrongFalsely : Prop := fnExactStoreSameRow.holds Try.pinned (OpenSpec.ofChange fnExactStoreSameWrong)

/- THE SECOND FORM. 'bulk': how many values and letters a reading holds, each counted each time it is reached (what is shared counts as often as it is met; a slice's spare places count too). A statement '..UptoSaid' is the law's where the arguments, and the package variables that the reading takes, are together of bulk at most 1048576: NARROWER than '..Said'. Prove '..Said' where nothing that the law and all that it calls make is longer than what came in: it says more and counts as full. Else prove '..UptoSaid'. A law counts once. -/
mutual
def uptoBulk {H : Type} : DataW H → Nat
  | .lit (.string bytes) => bytes.length + 1
  | .lit _ => 1
  | .nil => 1
  | .ptr d => uptoBulk d + 1
  | .slice elems spare => uptoBulkAll elems + uptoBulkAll spare + 1
  | .agg parts => uptoBulkAll parts + 1
  | .iface _ d => uptoBulk d + 1
  | .map entries => uptoBulkEntries entries + 1
  | .held _ => 1
def uptoBulkAll {H : Type} : List (DataW H) → Nat
  | [] => 0
  | d :: r => uptoBulk d + uptoBulkAll r
def uptoBulkEntries {H : Type} : List (Lit × DataW H) → Nat
  | [] => 0
  | x :: r => uptoBulkEntry x + uptoBulkEntries r
def uptoBulkEntry {H : Type} : Lit × DataW H → Nat
  | (.string bytes, d) => bytes.length + uptoBulk d + 1
  | (_, d) => uptoBulk d + 1
 end
def uptoSmall : (H : Type) → List (DataW H) → Bool := fun _ ds => decide (uptoBulkAll ds ≤ 1048576)
def OpenSpec.upto (s : _root_.Go.ChangeSpec) : _root_.Go.OpenSpec := { _root_.Go.OpenSpec.ofChange s with cond := some uptoSmall }

/-- 'laws.FnStoreNarrow', WHERE WHAT IT READS IS OF BULK AT MOST 1048576: true; the input reads as it did. -/
def fnStoreNarrowUptoRow : OpenClaim := { program := "ytgjpnhdahigodaa", sum := "3dc25b624b1455c81200c6d8131bf54042750712fa32e77a21b87ec0b760ac2c", func := "loop.example/hagioscope/laws.FnStoreNarrow", spec := "fnStoreNarrow", apart := false, narrowed := true }
def FnStoreNarrowUptoSaid : Prop := fnStoreNarrowUptoRow.holds Try.pinned (OpenSpec.upto fnStoreNarrowSpec)

/-- 'laws.FnExactStoreView', WHERE WHAT IT READS IS OF BULK AT MOST 1048576: true; the input reads as it did. -/
def fnExactStoreViewUptoRow : OpenClaim := { program := "ytgjpnhdahigodaa", sum := "3dc25b624b1455c81200c6d8131bf54042750712fa32e77a21b87ec0b760ac2c", func := "loop.example/hagioscope/laws.FnExactStoreView", spec := "fnExactStoreView", apart := false, narrowed := true }
def FnExactStoreViewUptoSaid : Prop := fnExactStoreViewUptoRow.holds Try.pinned (OpenSpec.upto fnExactStoreViewSpec)

/-- 'laws.FnExactStoreSame', WHERE WHAT IT READS IS OF BULK AT MOST 1048576: true; the input reads as it did. -/
def fnExactStoreSameUptoRow : OpenClaim := { program := "ytgjpnhdahigodaa", sum := "3dc25b624b1455c81200c6d8131bf54042750712fa32e77a21b87ec0b760ac2c", func := "loop.example/hagioscope/laws.FnExactStoreSame", spec := "fnExactStoreSame", apart := false, narrowed := true }
def FnExactStoreSameUptoSaid : Prop := fnExactStoreSameUptoRow.holds Try.pinned (OpenSpec.upto fnExactStoreSameSpec)

end Rows
end Go.Proofs.Ytgjpnhdahigodaa

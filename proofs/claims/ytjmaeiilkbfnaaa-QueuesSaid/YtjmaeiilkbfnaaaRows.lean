/-
  No cell of these rows narrows 'for every input' (looked for: loops, veiled, ifaces, maps, wideKeys, modest, calm, conditions, laid).
  DERIVED. THE GIVEN ROWS OF THIS SEAT. 4 by the template 'for every input the law returns true; each argument reads behind the call as it read before'; 0 by the template 'total and deterministic' (their statements: YtjmaeiilkbfnaaaTotals.lean).
  GIVEN WITH THE SEED: the statements are not yours to turn. If you find one false, say at which input.
  Laid BY PROGRAM, IN A SANDBOX (cutbox-rows.mjs): the forced cells as the released guide's own fill.sh prints them over the translation f605befe6f270cae… (all of the seat's roots in one cut). By AI agents, Wed Nov 11 2026. No macro, syntax, notation, axiom, sorry.
-/
import Derived.Test.YtjmaeiilkbfnaaaChecked
import GoSem.Claim
import GoSem.ClaimJoined
import GoSem.ClaimMapViews
import Derived.JoinedTies
import Derived.KernelRfl
namespace Go.Proofs.Ytjmaeiilkbfnaaa
/- THE CELL 'sum', in the pinned program and in every row, IS THE sha256 OF THE DUMP (.gsa) THAT YtjmaeiilkbfnaaaProg.lean LOADS. Nothing in Lean hashes anything: it is a label: what it is worth is what the hold of that sum in a sandbox is worth. -/
noncomputable def Try.pinned : Pinned := { name := "ytjmaeiilkbfnaaa", sum := "f605befe6f270cae595d4a379419099742d730e4a74f03de26cdfce0feee9eba", checked := Try.checked }
namespace Rows
def none {H : Type} : Left H := { results := [], args := [] }

/-- 'bournelaw1.Accs': WHATEVER THE INPUT: true; the input reads as it did. -/
def accsSpec : ChangeSpec := { name := "accs", fn := fun _ => fun
  | [d1, d2, d3] => { results := [.lit (.bool true)], args := [d1, d2, d3] }
  | _ => none }
def accsRow : OpenClaim := { program := "ytjmaeiilkbfnaaa", sum := "f605befe6f270cae595d4a379419099742d730e4a74f03de26cdfce0feee9eba", func := "bourne/bournelaw1.Accs", spec := "accs", apart := false }
def AccsSaid : Prop := accsRow.holds Try.pinned (OpenSpec.ofChange accsSpec)

/-- ITS FALSE NEIGHBOUR: 'it returns false'. Refute it at one input. -/
def accsWrong : ChangeSpec := { name := "accs", fn := fun _ => fun
  | [d1, d2, d3] => { results := [.lit (.bool false)], args := [d1, d2, d3] }
  | _ => none }
def AccsWrongFalsely : Prop := accsRow.holds Try.pinned (OpenSpec.ofChange accsWrong)

/-- 'bournelaw17.Queues': WHATEVER THE INPUT: true; the input reads as it did. -/
def queuesSpec : ChangeSpec := { name := "queues", fn := fun _ => fun
  | [d1, d2, d3] => { results := [.lit (.bool true)], args := [d1, d2, d3] }
  | _ => none }
def queuesRow : OpenClaim := { program := "ytjmaeiilkbfnaaa", sum := "f605befe6f270cae595d4a379419099742d730e4a74f03de26cdfce0feee9eba", func := "bourne/bournelaw17.Queues", spec := "queues", apart := false }
def QueuesSaid : Prop := queuesRow.holds Try.pinned (OpenSpec.ofChange queuesSpec)

/-- ITS FALSE NEIGHBOUR: 'it returns false'. Refute it at one input. -/
def queuesWrong : ChangeSpec := { name := "queues", fn := fun _ => fun
  | [d1, d2, d3] => { results := [.lit (.bool false)], args := [d1, d2, d3] }
  | _ => none }
def QueuesWrongFalsely : Prop := queuesRow.holds Try.pinned (OpenSpec.ofChange queuesWrong)

/-- 'bournelaw17.QueueSlides': WHATEVER THE INPUT: true; the input reads as it did. -/
def queueSlidesSpec : ChangeSpec := { name := "queueSlides", fn := fun _ => fun
  | [d1, d2] => { results := [.lit (.bool true)], args := [d1, d2] }
  | _ => none }
def queueSlidesRow : OpenClaim := { program := "ytjmaeiilkbfnaaa", sum := "f605befe6f270cae595d4a379419099742d730e4a74f03de26cdfce0feee9eba", func := "bourne/bournelaw17.QueueSlides", spec := "queueSlides", apart := false }
def QueueSlidesSaid : Prop := queueSlidesRow.holds Try.pinned (OpenSpec.ofChange queueSlidesSpec)

/-- ITS FALSE NEIGHBOUR: 'it returns false'. Refute it at one input. -/
def queueSlidesWrong : ChangeSpec := { name := "queueSlides", fn := fun _ => fun
  | [d1, d2] => { results := [.lit (.bool false)], args := [d1, d2] }
  | _ => none }
def QueueSlidesWrongFalsely : Prop := queueSlidesRow.holds Try.pinned (OpenSpec.ofChange queueSlidesWrong)

/-- 'bournelaw17.QueueForms': WHATEVER THE INPUT: true; the input reads as it did. -/
def queueFormsSpec : ChangeSpec := { name := "queueForms", fn := fun _ => fun
  | [d1, d2] => { results := [.lit (.bool true)], args := [d1, d2] }
  | _ => none }
def queueFormsRow : OpenClaim := { program := "ytjmaeiilkbfnaaa", sum := "f605befe6f270cae595d4a379419099742d730e4a74f03de26cdfce0feee9eba", func := "bourne/bournelaw17.QueueForms", spec := "queueForms", apart := false }
def QueueFormsSaid : Prop := queueFormsRow.holds Try.pinned (OpenSpec.ofChange queueFormsSpec)

/-- ITS FALSE NEIGHBOUR: 'it returns false'. Refute it at one input. -/
def queueFormsWrong : ChangeSpec := { name := "queueForms", fn := fun _ => fun
  | [d1, d2] => { results := [.lit (.bool false)], args := [d1, d2] }
  | _ => none }
def QueueFormsWrongFalsely : Prop := queueFormsRow.holds Try.pinned (OpenSpec.ofChange queueFormsWrong)

/- THE SECOND FORM. 'bulk': how many values and letters a reading holds, each counted each time it is reached (what is shared counts as often as it is met; a slice's spare places count too). A statement '..UptoSaid' is the law's where the arguments, and the package variables that the reading takes, are together of bulk at most 1048576: NARROWER than '..Said'. Prove '..Said' where nothing that the law and all that it calls make is longer than what came in: it says more and counts as full. Else prove '..UptoSaid'. A law counts once. -/
mutual
def uptoBulk {H : Type} : DataW H → Nat
  | .lit (.string bytes) => bytes.length + 1
  | .lit _ => 1
  | .nil => 1
  | .ptr d => uptoBulk d + 1
  | .slice elems spare => uptoBulkAll elems + uptoBulkAll spare + 1
  | .agg parts => uptoBulkAll parts + 1
  | .iface _ d => uptoBulk d + 1
  | .map entries => uptoBulkEntries entries + 1
  | .held _ => 1
def uptoBulkAll {H : Type} : List (DataW H) → Nat
  | [] => 0
  | d :: r => uptoBulk d + uptoBulkAll r
def uptoBulkEntries {H : Type} : List (Lit × DataW H) → Nat
  | [] => 0
  | x :: r => uptoBulkEntry x + uptoBulkEntries r
def uptoBulkEntry {H : Type} : Lit × DataW H → Nat
  | (.string bytes, d) => bytes.length + uptoBulk d + 1
  | (_, d) => uptoBulk d + 1
 end
def uptoSmall : (H : Type) → List (DataW H) → Bool := fun _ ds => decide (uptoBulkAll ds ≤ 1048576)
def OpenSpec.upto (s : _root_.Go.ChangeSpec) : _root_.Go.OpenSpec := { _root_.Go.OpenSpec.ofChange s with cond := some uptoSmall }

/-- 'bournelaw1.Accs', WHERE WHAT IT READS IS OF BULK AT MOST 1048576: true; the input reads as it did. -/
def accsUptoRow : OpenClaim := { program := "ytjmaeiilkbfnaaa", sum := "f605befe6f270cae595d4a379419099742d730e4a74f03de26cdfce0feee9eba", func := "bourne/bournelaw1.Accs", spec := "accs", apart := false, narrowed := true }
def AccsUptoSaid : Prop := accsUptoRow.holds Try.pinned (OpenSpec.upto accsSpec)

/-- 'bournelaw17.Queues', WHERE WHAT IT READS IS OF BULK AT MOST 1048576: true; the input reads as it did. -/
def queuesUptoRow : OpenClaim := { program := "ytjmaeiilkbfnaaa", sum := "f605befe6f270cae595d4a379419099742d730e4a74f03de26cdfce0feee9eba", func := "bourne/bournelaw17.Queues", spec := "queues", apart := false, narrowed := true }
def QueuesUptoSaid : Prop := queuesUptoRow.holds Try.pinned (OpenSpec.upto queuesSpec)

/-- 'bournelaw17.QueueSlides', WHERE WHAT IT READS IS OF BULK AT MOST 1048576: true; the input reads as it did. -/
def queueSlidesUptoRow : OpenClaim := { program := "ytjmaeiilkbfnaaa", sum := "f605befe6f270cae595d4a379419099742d730e4a74f03de26cdfce0feee9eba", func := "bourne/bournelaw17.QueueSlides", spec := "queueSlides", apart := false, narrowed := true }
def QueueSlidesUptoSaid : Prop := queueSlidesUptoRow.holds Try.pinned (OpenSpec.upto queueSlidesSpec)

/-- 'bournelaw17.QueueForms', WHERE WHAT IT READS IS OF BULK AT MOST 1048576: true; the input reads as it did. -/
def queueFormsUptoRow : OpenClaim := { program := "ytjmaeiilkbfnaaa", sum := "f605befe6f270cae595d4a379419099742d730e4a74f03de26cdfce0feee9eba", func := "bourne/bournelaw17.QueueForms", spec := "queueForms", apart := false, narrowed := true }
def QueueFormsUptoSaid : Prop := queueFormsUptoRow.holds Try.pinned (OpenSpec.upto queueFormsSpec)

end Rows
end Go.Proofs.Ytjmaeiilkbfnaaa

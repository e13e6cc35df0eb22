/-
  No cell of these rows narrows 'for every input' (looked for: loops, veiled, ifaces, maps, wideKeys, modest, calm, conditions, laid).
  DERIVED. THE GIVEN ROWS OF THIS SEAT. 3 by the template 'for every input the law returns true; each argument reads behind the call as it read before'; 0 by the template 'total and deterministic' (their statements: YtgibmcljlaoahaaTotals.lean).
  GIVEN WITH THE SEED: the statements are not yours to turn. If you find one false, say at which input.
  Laid BY PROGRAM, IN A SANDBOX (cutbox-rows.mjs): the forced cells as the released guide's own fill.sh prints them over the translation 3238bf3e45c61bc9… (all of the seat's roots in one cut). By AI agents, Wed Nov 11 2026. No macro, syntax, notation, axiom, sorry.
-/
import Derived.Test.YtgibmcljlaoahaaChecked
import GoSem.Claim
import GoSem.ClaimJoined
import GoSem.ClaimMapViews
import Derived.JoinedTies
import Derived.KernelRfl
namespace Go.Proofs.Ytgibmcljlaoahaa
/- THE CELL 'sum', in the pinned program and in every row, IS THE sha256 OF THE DUMP (.gsa) THAT YtgibmcljlaoahaaProg.lean LOADS. Nothing in Lean hashes anything: it is a label: what it is worth is what the hold of that sum in a sandbox is worth. -/
noncomputable def Try.pinned : Pinned := { name := "ytgibmcljlaoahaa", sum := "3238bf3e45c61bc9aa5321f03d1718705d64ba8e1baa26fee2b65d55696cd0f9", checked := Try.checked }
namespace Rows
def none {H : Type} : Left H := { results := [], args := [] }

/-- 'bournelaw13.Marks': WHATEVER THE INPUT: true; the input reads as it did. -/
def marksSpec : ChangeSpec := { name := "marks", fn := fun _ => fun
  | [d1, d2] => { results := [.lit (.bool true)], args := [d1, d2] }
  | _ => none }
def marksRow : OpenClaim := { program := "ytgibmcljlaoahaa", sum := "3238bf3e45c61bc9aa5321f03d1718705d64ba8e1baa26fee2b65d55696cd0f9", func := "bourne/bournelaw13.Marks", spec := "marks", apart := false }
def MarksSaid : Prop := marksRow.holds Try.pinned (OpenSpec.ofChange marksSpec)

/-- ITS FALSE NEIGHBOUR: 'it returns false'. Refute it at one input. -/
def marksWrong : ChangeSpec := { name := "marks", fn := fun _ => fun
  | [d1, d2] => { results := [.lit (.bool false)], args := [d1, d2] }
  | _ => none }
def MarksWrongFalsely : Prop := marksRow.holds Try.pinned (OpenSpec.ofChange marksWrong)

/-- 'bournelaw13.MarksLeast': WHATEVER THE INPUT: true; the input reads as it did. -/
def marksLeastSpec : ChangeSpec := { name := "marksLeast", fn := fun _ => fun
  | [d1, d2] => { results := [.lit (.bool true)], args := [d1, d2] }
  | _ => none }
def marksLeastRow : OpenClaim := { program := "ytgibmcljlaoahaa", sum := "3238bf3e45c61bc9aa5321f03d1718705d64ba8e1baa26fee2b65d55696cd0f9", func := "bourne/bournelaw13.MarksLeast", spec := "marksLeast", apart := false }
def MarksLeastSaid : Prop := marksLeastRow.holds Try.pinned (OpenSpec.ofChange marksLeastSpec)

/-- ITS FALSE NEIGHBOUR: 'it returns false'. Refute it at one input. -/
def marksLeastWrong : ChangeSpec := { name := "marksLeast", fn := fun _ => fun
  | [d1, d2] => { results := [.lit (.bool false)], args := [d1, d2] }
  | _ => none }
def MarksLeastWrongFalsely : Prop := marksLeastRow.holds Try.pinned (OpenSpec.ofChange marksLeastWrong)

/-- 'bournelaw13.MarksForms': WHATEVER THE INPUT: true; the input reads as it did. -/
def marksFormsSpec : ChangeSpec := { name := "marksForms", fn := fun _ => fun
  | [d1, d2] => { results := [.lit (.bool true)], args := [d1, d2] }
  | _ => none }
def marksFormsRow : OpenClaim := { program := "ytgibmcljlaoahaa", sum := "3238bf3e45c61bc9aa5321f03d1718705d64ba8e1baa26fee2b65d55696cd0f9", func := "bourne/bournelaw13.MarksForms", spec := "marksForms", apart := false }
def MarksFormsSaid : Prop := marksFormsRow.holds Try.pinned (OpenSpec.ofChange marksFormsSpec)

/-- ITS FALSE NEIGHBOUR: 'it returns false'. Refute it at one input. -/
def marksFormsWrong : ChangeSpec := { name := "marksForms", fn := fun _ => fun
  | [d1, d2] => { results := [.lit (.bool false)], args := [d1, d2] }
  | _ => none }
def MarksFormsWrongFalsely : Prop := marksFormsRow.holds Try.pinned (OpenSpec.ofChange marksFormsWrong)

/- THE SECOND FORM. 'bulk': how many values and letters a reading holds, each counted each time it is reached (what is shared counts as often as it is met; a slice's spare places count too). A statement '..UptoSaid' is the law's where the arguments, and the package variables that the reading takes, are together of bulk at most 1048576: NARROWER than '..Said'. Prove '..Said' where nothing that the law and all that it calls make is longer than what came in: it says more and counts as full. Else prove '..UptoSaid'. A law counts once. -/
mutual
def uptoBulk {H : Type} : DataW H → Nat
  | .lit (.string bytes) => bytes.length + 1
  | .lit _ => 1
  | .nil => 1
  | .ptr d => uptoBulk d + 1
  | .slice elems spare => uptoBulkAll elems + uptoBulkAll spare + 1
  | .agg parts => uptoBulkAll parts + 1
  | .iface _ d => uptoBulk d + 1
  | .map entries => uptoBulkEntries entries + 1
  | .held _ => 1
def uptoBulkAll {H : Type} : List (DataW H) → Nat
  | [] => 0
  | d :: r => uptoBulk d + uptoBulkAll r
def uptoBulkEntries {H : Type} : List (Lit × DataW H) → Nat
  | [] => 0
  | x :: r => uptoBulkEntry x + uptoBulkEntries r
def uptoBulkEntry {H : Type} : Lit × DataW H → Nat
  | (.string bytes, d) => bytes.length + uptoBulk d + 1
  | (_, d) => uptoBulk d + 1
 end
def uptoSmall : (H : Type) → List (DataW H) → Bool := fun _ ds => decide (uptoBulkAll ds ≤ 1048576)
def OpenSpec.upto (s : _root_.Go.ChangeSpec) : _root_.Go.OpenSpec := { _root_.Go.OpenSpec.ofChange s with cond := some uptoSmall }

/-- 'bournelaw13.Marks', WHERE WHAT IT READS IS OF BULK AT MOST 1048576: true; the input reads as it did. -/
def marksUptoRow : OpenClaim := { program := "ytgibmcljlaoahaa", sum := "3238bf3e45c61bc9aa5321f03d1718705d64ba8e1baa26fee2b65d55696cd0f9", func := "bourne/bournelaw13.Marks", spec := "marks", apart := false, narrowed := true }
def MarksUptoSaid : Prop := marksUptoRow.holds Try.pinned (OpenSpec.upto marksSpec)

/-- 'bournelaw13.MarksLeast', WHERE WHAT IT READS IS OF BULK AT MOST 1048576: true; the input reads as it did. -/
def marksLeastUptoRow : OpenClaim := { program := "ytgibmcljlaoahaa", sum := "3238bf3e45c61bc9aa5321f03d1718705d64ba8e1baa26fee2b65d55696cd0f9", func := "bourne/bournelaw13.MarksLeast", spec := "marksLeast", apart := false, narrowed := true }
def MarksLeastUptoSaid : Prop := marksLeastUptoRow.holds Try.pinned (OpenSpec.upto marksLeastSpec)

/-- 'bournelaw13.MarksForms', WHERE WHAT IT READS IS OF BULK AT MOST 1048576: true; the input reads as it did. -/
def marksFormsUptoRow : OpenClaim := { program := "ytgibmcljlaoahaa", sum := "3238bf3e45c61bc9aa5321f03d1718705d64ba8e1baa26fee2b65d55696cd0f9", func := "bourne/bournelaw13.MarksForms", spec := "marksForms", apart := false, narrowed := true }
def MarksFormsUptoSaid : Prop := marksFormsUptoRow.holds Try.pinned (OpenSpec.upto marksFormsSpec)

end Rows
end Go.Proofs.Ytgibmcljlaoahaa

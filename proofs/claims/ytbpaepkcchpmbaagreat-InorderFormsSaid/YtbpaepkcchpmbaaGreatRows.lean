/-
  No cell of these rows narrows 'for every input' (looked for: loops, veiled, ifaces, maps, wideKeys, modest, calm, conditions, laid).
  DERIVED. THE GIVEN ROWS OF THIS SEAT. 12 by the template 'for every input the law returns true; each argument reads behind the call as it read before'; 0 by the template 'total and deterministic' (their statements: YtbpaepkcchpmbaaGreatTotals.lean).
  GIVEN WITH THE SEED: the statements are not yours to turn. If you find one false, say at which input.
  Laid BY PROGRAM, IN A SANDBOX (cutbox-rows.mjs): the forced cells as the released guide's own fill.sh prints them over the translation 6e00d141fe9f9eec… (all of the seat's roots in one cut). By AI agents, Wed Nov 11 2026. No macro, syntax, notation, axiom, sorry.
-/
import Derived.Test.YtbpaepkcchpmbaaGreatChecked
import GoSem.Claim
import GoSem.ClaimJoined
import GoSem.ClaimMapViews
import Derived.JoinedTies
import Derived.KernelRfl
namespace Go.Proofs.YtbpaepkcchpmbaaGreat
/- THE CELL 'sum', in the pinned program and in every row, IS THE sha256 OF THE DUMP (.gsa) THAT YtbpaepkcchpmbaaGreatProg.lean LOADS. Nothing in Lean hashes anything: it is a label: what it is worth is what the hold of that sum in a sandbox is worth. -/
noncomputable def Tryz.pinned : Pinned := { name := "ytbpaepkcchpmbaagreat", sum := "6e00d141fe9f9eec07e22dd776562652b81d48aa1c95e8ca6c6ac5900b4ef9e3", checked := Tryz.checked }
namespace Rows
def none {H : Type} : Left H := { results := [], args := [] }

/-- 'bournelaw18.Inorders': WHATEVER THE INPUT: true; the input reads as it did. -/
def inordersSpec : ChangeSpec := { name := "inorders", fn := fun _ => fun
  | [d1, d2] => { results := [.lit (.bool true)], args := [d1, d2] }
  | _ => none }
def inordersRow : OpenClaim := { program := "ytbpaepkcchpmbaagreat", sum := "6e00d141fe9f9eec07e22dd776562652b81d48aa1c95e8ca6c6ac5900b4ef9e3", func := "bourne/bournelaw18.Inorders", spec := "inorders", unfollowed := true, recurses := true, apart := false }
def InordersSaid : Prop := inordersRow.holds Tryz.pinned (OpenSpec.ofChange inordersSpec)

/-- ITS FALSE NEIGHBOUR: 'it returns false'. Refute it at one input. -/
def inordersWrong : ChangeSpec := { name := "inorders", fn := fun _ => fun
  | [d1, d2] => { results := [.lit (.bool false)], args := [d1, d2] }
  | _ => none }
def InordersWrongFalsely : Prop := inordersRow.holds Tryz.pinned (OpenSpec.ofChange inordersWrong)

/-- 'bournelaw18.InorderRows': WHATEVER THE INPUT: true; the input reads as it did. -/
def inorderRowsSpec : ChangeSpec := { name := "inorderRows", fn := fun _ => fun
  | [d1, d2] => { results := [.lit (.bool true)], args := [d1, d2] }
  | _ => none }
def inorderRowsRow : OpenClaim := { program := "ytbpaepkcchpmbaagreat", sum := "6e00d141fe9f9eec07e22dd776562652b81d48aa1c95e8ca6c6ac5900b4ef9e3", func := "bourne/bournelaw18.InorderRows", spec := "inorderRows", unfollowed := true, recurses := true, apart := false }
def InorderRowsSaid : Prop := inorderRowsRow.holds Tryz.pinned (OpenSpec.ofChange inorderRowsSpec)

/-- ITS FALSE NEIGHBOUR: 'it returns false'. Refute it at one input. -/
def inorderRowsWrong : ChangeSpec := { name := "inorderRows", fn := fun _ => fun
  | [d1, d2] => { results := [.lit (.bool false)], args := [d1, d2] }
  | _ => none }
def InorderRowsWrongFalsely : Prop := inorderRowsRow.holds Tryz.pinned (OpenSpec.ofChange inorderRowsWrong)

/-- 'bournelaw18.InorderTumbles': WHATEVER THE INPUT: true; the input reads as it did. -/
def inorderTumblesSpec : ChangeSpec := { name := "inorderTumbles", fn := fun _ => fun
  | [d1, d2, d3, d4] => { results := [.lit (.bool true)], args := [d1, d2, d3, d4] }
  | _ => none }
def inorderTumblesRow : OpenClaim := { program := "ytbpaepkcchpmbaagreat", sum := "6e00d141fe9f9eec07e22dd776562652b81d48aa1c95e8ca6c6ac5900b4ef9e3", func := "bourne/bournelaw18.InorderTumbles", spec := "inorderTumbles", unfollowed := true, recurses := true, apart := false }
def InorderTumblesSaid : Prop := inorderTumblesRow.holds Tryz.pinned (OpenSpec.ofChange inorderTumblesSpec)

/-- ITS FALSE NEIGHBOUR: 'it returns false'. Refute it at one input. -/
def inorderTumblesWrong : ChangeSpec := { name := "inorderTumbles", fn := fun _ => fun
  | [d1, d2, d3, d4] => { results := [.lit (.bool false)], args := [d1, d2, d3, d4] }
  | _ => none }
def InorderTumblesWrongFalsely : Prop := inorderTumblesRow.holds Tryz.pinned (OpenSpec.ofChange inorderTumblesWrong)

/-- 'bournelaw18.InorderGaps': WHATEVER THE INPUT: true; the input reads as it did. -/
def inorderGapsSpec : ChangeSpec := { name := "inorderGaps", fn := fun _ => fun
  | [d1, d2, d3] => { results := [.lit (.bool true)], args := [d1, d2, d3] }
  | _ => none }
def inorderGapsRow : OpenClaim := { program := "ytbpaepkcchpmbaagreat", sum := "6e00d141fe9f9eec07e22dd776562652b81d48aa1c95e8ca6c6ac5900b4ef9e3", func := "bourne/bournelaw18.InorderGaps", spec := "inorderGaps", unfollowed := true, recurses := true, apart := false }
def InorderGapsSaid : Prop := inorderGapsRow.holds Tryz.pinned (OpenSpec.ofChange inorderGapsSpec)

/-- ITS FALSE NEIGHBOUR: 'it returns false'. Refute it at one input. -/
def inorderGapsWrong : ChangeSpec := { name := "inorderGaps", fn := fun _ => fun
  | [d1, d2, d3] => { results := [.lit (.bool false)], args := [d1, d2, d3] }
  | _ => none }
def InorderGapsWrongFalsely : Prop := inorderGapsRow.holds Tryz.pinned (OpenSpec.ofChange inorderGapsWrong)

/-- 'bournelaw18.InorderForms': WHATEVER THE INPUT: true; the input reads as it did. -/
def inorderFormsSpec : ChangeSpec := { name := "inorderForms", fn := fun _ => fun
  | [d1, d2] => { results := [.lit (.bool true)], args := [d1, d2] }
  | _ => none }
def inorderFormsRow : OpenClaim := { program := "ytbpaepkcchpmbaagreat", sum := "6e00d141fe9f9eec07e22dd776562652b81d48aa1c95e8ca6c6ac5900b4ef9e3", func := "bourne/bournelaw18.InorderForms", spec := "inorderForms", unfollowed := true, recurses := true, apart := false }
def InorderFormsSaid : Prop := inorderFormsRow.holds Tryz.pinned (OpenSpec.ofChange inorderFormsSpec)

/-- ITS FALSE NEIGHBOUR: 'it returns false'. Refute it at one input. -/
def inorderFormsWrong : ChangeSpec := { name := "inorderForms", fn := fun _ => fun
  | [d1, d2] => { results := [.lit (.bool false)], args := [d1, d2] }
  | _ => none }
def InorderFormsWrongFalsely : Prop := inorderFormsRow.holds Tryz.pinned (OpenSpec.ofChange inorderFormsWrong)

/-- 'bournelaw18.InorderSteps': WHATEVER THE INPUT: true; the input reads as it did. -/
def inorderStepsSpec : ChangeSpec := { name := "inorderSteps", fn := fun _ => fun
  | [d1, d2, d3] => { results := [.lit (.bool true)], args := [d1, d2, d3] }
  | _ => none }
def inorderStepsRow : OpenClaim := { program := "ytbpaepkcchpmbaagreat", sum := "6e00d141fe9f9eec07e22dd776562652b81d48aa1c95e8ca6c6ac5900b4ef9e3", func := "bourne/bournelaw18.InorderSteps", spec := "inorderSteps", unfollowed := true, recurses := true, apart := false }
def InorderStepsSaid : Prop := inorderStepsRow.holds Tryz.pinned (OpenSpec.ofChange inorderStepsSpec)

/-- ITS FALSE NEIGHBOUR: 'it returns false'. Refute it at one input. -/
def inorderStepsWrong : ChangeSpec := { name := "inorderSteps", fn := fun _ => fun
  | [d1, d2, d3] => { results := [.lit (.bool false)], args := [d1, d2, d3] }
  | _ => none }
def InorderStepsWrongFalsely : Prop := inorderStepsRow.holds Tryz.pinned (OpenSpec.ofChange inorderStepsWrong)

/-- 'bournelaw20.Lazies': WHATEVER THE INPUT: true; the input reads as it did. -/
def laziesSpec : ChangeSpec := { name := "lazies", fn := fun _ => fun
  | [d1, d2] => { results := [.lit (.bool true)], args := [d1, d2] }
  | _ => none }
def laziesRow : OpenClaim := { program := "ytbpaepkcchpmbaagreat", sum := "6e00d141fe9f9eec07e22dd776562652b81d48aa1c95e8ca6c6ac5900b4ef9e3", func := "bourne/bournelaw20.Lazies", spec := "lazies", unfollowed := true, recurses := true, apart := false }
def LaziesSaid : Prop := laziesRow.holds Tryz.pinned (OpenSpec.ofChange laziesSpec)

/-- ITS FALSE NEIGHBOUR: 'it returns false'. Refute it at one input. -/
def laziesWrong : ChangeSpec := { name := "lazies", fn := fun _ => fun
  | [d1, d2] => { results := [.lit (.bool false)], args := [d1, d2] }
  | _ => none }
def LaziesWrongFalsely : Prop := laziesRow.holds Tryz.pinned (OpenSpec.ofChange laziesWrong)

/-- 'bournelaw20.LazyRows': WHATEVER THE INPUT: true; the input reads as it did. -/
def lazyRowsSpec : ChangeSpec := { name := "lazyRows", fn := fun _ => fun
  | [d1, d2] => { results := [.lit (.bool true)], args := [d1, d2] }
  | _ => none }
def lazyRowsRow : OpenClaim := { program := "ytbpaepkcchpmbaagreat", sum := "6e00d141fe9f9eec07e22dd776562652b81d48aa1c95e8ca6c6ac5900b4ef9e3", func := "bourne/bournelaw20.LazyRows", spec := "lazyRows", unfollowed := true, recurses := true, apart := false }
def LazyRowsSaid : Prop := lazyRowsRow.holds Tryz.pinned (OpenSpec.ofChange lazyRowsSpec)

/-- ITS FALSE NEIGHBOUR: 'it returns false'. Refute it at one input. -/
def lazyRowsWrong : ChangeSpec := { name := "lazyRows", fn := fun _ => fun
  | [d1, d2] => { results := [.lit (.bool false)], args := [d1, d2] }
  | _ => none }
def LazyRowsWrongFalsely : Prop := lazyRowsRow.holds Tryz.pinned (OpenSpec.ofChange lazyRowsWrong)

/-- 'bournelaw20.LazyTumbles': WHATEVER THE INPUT: true; the input reads as it did. -/
def lazyTumblesSpec : ChangeSpec := { name := "lazyTumbles", fn := fun _ => fun
  | [d1, d2, d3, d4] => { results := [.lit (.bool true)], args := [d1, d2, d3, d4] }
  | _ => none }
def lazyTumblesRow : OpenClaim := { program := "ytbpaepkcchpmbaagreat", sum := "6e00d141fe9f9eec07e22dd776562652b81d48aa1c95e8ca6c6ac5900b4ef9e3", func := "bourne/bournelaw20.LazyTumbles", spec := "lazyTumbles", unfollowed := true, recurses := true, apart := false }
def LazyTumblesSaid : Prop := lazyTumblesRow.holds Tryz.pinned (OpenSpec.ofChange lazyTumblesSpec)

/-- ITS FALSE NEIGHBOUR: 'it returns false'. Refute it at one input. -/
def lazyTumblesWrong : ChangeSpec := { name := "lazyTumbles", fn := fun _ => fun
  | [d1, d2, d3, d4] => { results := [.lit (.bool false)], args := [d1, d2, d3, d4] }
  | _ => none }
def LazyTumblesWrongFalsely : Prop := lazyTumblesRow.holds Tryz.pinned (OpenSpec.ofChange lazyTumblesWrong)

/-- 'bournelaw20.LazyGaps': WHATEVER THE INPUT: true; the input reads as it did. -/
def lazyGapsSpec : ChangeSpec := { name := "lazyGaps", fn := fun _ => fun
  | [d1, d2, d3] => { results := [.lit (.bool true)], args := [d1, d2, d3] }
  | _ => none }
def lazyGapsRow : OpenClaim := { program := "ytbpaepkcchpmbaagreat", sum := "6e00d141fe9f9eec07e22dd776562652b81d48aa1c95e8ca6c6ac5900b4ef9e3", func := "bourne/bournelaw20.LazyGaps", spec := "lazyGaps", unfollowed := true, recurses := true, apart := false }
def LazyGapsSaid : Prop := lazyGapsRow.holds Tryz.pinned (OpenSpec.ofChange lazyGapsSpec)

/-- ITS FALSE NEIGHBOUR: 'it returns false'. Refute it at one input. -/
def lazyGapsWrong : ChangeSpec := { name := "lazyGaps", fn := fun _ => fun
  | [d1, d2, d3] => { results := [.lit (.bool false)], args := [d1, d2, d3] }
  | _ => none }
def LazyGapsWrongFalsely : Prop := lazyGapsRow.holds Tryz.pinned (OpenSpec.ofChange lazyGapsWrong)

/-- 'bournelaw20.LazyForms': WHATEVER THE INPUT: true; the input reads as it did. -/
def lazyFormsSpec : ChangeSpec := { name := "lazyForms", fn := fun _ => fun
  | [d1, d2] => { results := [.lit (.bool true)], args := [d1, d2] }
  | _ => none }
def lazyFormsRow : OpenClaim := { program := "ytbpaepkcchpmbaagreat", sum := "6e00d141fe9f9eec07e22dd776562652b81d48aa1c95e8ca6c6ac5900b4ef9e3", func := "bourne/bournelaw20.LazyForms", spec := "lazyForms", unfollowed := true, recurses := true, apart := false }
def LazyFormsSaid : Prop := lazyFormsRow.holds Tryz.pinned (OpenSpec.ofChange lazyFormsSpec)

/-- ITS FALSE NEIGHBOUR: 'it returns false'. Refute it at one input. -/
def lazyFormsWrong : ChangeSpec := { name := "lazyForms", fn := fun _ => fun
  | [d1, d2] => { results := [.lit (.bool false)], args := [d1, d2] }
  | _ => none }
def LazyFormsWrongFalsely : Prop := lazyFormsRow.holds Tryz.pinned (OpenSpec.ofChange lazyFormsWrong)

/-- 'bournelaw20.LazySteps': WHATEVER THE INPUT: true; the input reads as it did. -/
def lazyStepsSpec : ChangeSpec := { name := "lazySteps", fn := fun _ => fun
  | [d1, d2, d3] => { results := [.lit (.bool true)], args := [d1, d2, d3] }
  | _ => none }
def lazyStepsRow : OpenClaim := { program := "ytbpaepkcchpmbaagreat", sum := "6e00d141fe9f9eec07e22dd776562652b81d48aa1c95e8ca6c6ac5900b4ef9e3", func := "bourne/bournelaw20.LazySteps", spec := "lazySteps", unfollowed := true, recurses := true, apart := false }
def LazyStepsSaid : Prop := lazyStepsRow.holds Tryz.pinned (OpenSpec.ofChange lazyStepsSpec)

/-- ITS FALSE NEIGHBOUR: 'it returns false'. Refute it at one input. -/
def lazyStepsWrong : ChangeSpec := { name := "lazySteps", fn := fun _ => fun
  | [d1, d2, d3] => { results := [.lit (.bool false)], args := [d1, d2, d3] }
  | _ => none }
def LazyStepsWrongFalsely : Prop := lazyStepsRow.holds Tryz.pinned (OpenSpec.ofChange lazyStepsWrong)

/- THE SECOND FORM. 'bulk': how many values and letters a reading holds, each counted each time it is reached (what is shared counts as often as it is met; a slice's spare places count too). A statement '..UptoSaid' is the law's where the arguments, and the package variables that the reading takes, are together of bulk at most 1048576: NARROWER than '..Said'. Prove '..Said' where nothing that the law and all that it calls make is longer than what came in: it says more and counts as full. Else prove '..UptoSaid'. A law counts once. -/
mutual
def uptoBulk {H : Type} : DataW H → Nat
  | .lit (.string bytes) => bytes.length + 1
  | .lit _ => 1
  | .nil => 1
  | .ptr d => uptoBulk d + 1
  | .slice elems spare => uptoBulkAll elems + uptoBulkAll spare + 1
  | .agg parts => uptoBulkAll parts + 1
  | .iface _ d => uptoBulk d + 1
  | .map entries => uptoBulkEntries entries + 1
  | .held _ => 1
def uptoBulkAll {H : Type} : List (DataW H) → Nat
  | [] => 0
  | d :: r => uptoBulk d + uptoBulkAll r
def uptoBulkEntries {H : Type} : List (Lit × DataW H) → Nat
  | [] => 0
  | x :: r => uptoBulkEntry x + uptoBulkEntries r
def uptoBulkEntry {H : Type} : Lit × DataW H → Nat
  | (.string bytes, d) => bytes.length + uptoBulk d + 1
  | (_, d) => uptoBulk d + 1
 end
def uptoSmall : (H : Type) → List (DataW H) → Bool := fun _ ds => decide (uptoBulkAll ds ≤ 1048576)
def OpenSpec.upto (s : _root_.Go.ChangeSpec) : _root_.Go.OpenSpec := { _root_.Go.OpenSpec.ofChange s with cond := some uptoSmall }

/-- 'bournelaw18.Inorders', WHERE WHAT IT READS IS OF BULK AT MOST 1048576: true; the input reads as it did. -/
def inordersUptoRow : OpenClaim := { program := "ytbpaepkcchpmbaagreat", sum := "6e00d141fe9f9eec07e22dd776562652b81d48aa1c95e8ca6c6ac5900b4ef9e3", func := "bourne/bournelaw18.Inorders", spec := "inorders", unfollowed := true, recurses := true, apart := false, narrowed := true }
def InordersUptoSaid : Prop := inordersUptoRow.holds Tryz.pinned (OpenSpec.upto inordersSpec)

/-- 'bournelaw18.InorderRows', WHERE WHAT IT READS IS OF BULK AT MOST 1048576: true; the input reads as it did. -/
def inorderRowsUptoRow : OpenClaim := { program := "ytbpaepkcchpmbaagreat", sum := "6e00d141fe9f9eec07e22dd776562652b81d48aa1c95e8ca6c6ac5900b4ef9e3", func := "bourne/bournelaw18.InorderRows", spec := "inorderRows", unfollowed := true, recurses := true, apart := false, narrowed := true }
def InorderRowsUptoSaid : Prop := inorderRowsUptoRow.holds Tryz.pinned (OpenSpec.upto inorderRowsSpec)

/-- 'bournelaw18.InorderTumbles', WHERE WHAT IT READS IS OF BULK AT MOST 1048576: true; the input reads as it did. -/
def inorderTumblesUptoRow : OpenClaim := { program := "ytbpaepkcchpmbaagreat", sum := "6e00d141fe9f9eec07e22dd776562652b81d48aa1c95e8ca6c6ac5900b4ef9e3", func := "bourne/bournelaw18.InorderTumbles", spec := "inorderTumbles", unfollowed := true, recurses := true, apart := false, narrowed := true }
def InorderTumblesUptoSaid : Prop := inorderTumblesUptoRow.holds Tryz.pinned (OpenSpec.upto inorderTumblesSpec)

/-- 'bournelaw18.InorderGaps', WHERE WHAT IT READS IS OF BULK AT MOST 1048576: true; the input reads as it did. -/
def inorderGapsUptoRow : OpenClaim := { program := "ytbpaepkcchpmbaagreat", sum := "6e00d141fe9f9eec07e22dd776562652b81d48aa1c95e8ca6c6ac5900b4ef9e3", func := "bourne/bournelaw18.InorderGaps", spec := "inorderGaps", unfollowed := true, recurses := true, apart := false, narrowed := true }
def InorderGapsUptoSaid : Prop := inorderGapsUptoRow.holds Tryz.pinned (OpenSpec.upto inorderGapsSpec)

/-- 'bournelaw18.InorderForms', WHERE WHAT IT READS IS OF BULK AT MOST 1048576: true; the input reads as it did. -/
def inorderFormsUptoRow : OpenClaim := { program := "ytbpaepkcchpmbaagreat", sum := "6e00d141fe9f9eec07e22dd776562652b81d48aa1c95e8ca6c6ac5900b4ef9e3", func := "bourne/bournelaw18.InorderForms", spec := "inorderForms", unfollowed := true, recurses := true, apart := false, narrowed := true }
def InorderFormsUptoSaid : Prop := inorderFormsUptoRow.holds Tryz.pinned (OpenSpec.upto inorderFormsSpec)

/-- 'bournelaw18.InorderSteps', WHERE WHAT IT READS IS OF BULK AT MOST 1048576: true; the input reads as it did. -/
def inorderStepsUptoRow : OpenClaim := { program := "ytbpaepkcchpmbaagreat", sum := "6e00d141fe9f9eec07e22dd776562652b81d48aa1c95e8ca6c6ac5900b4ef9e3", func := "bourne/bournelaw18.InorderSteps", spec := "inorderSteps", unfollowed := true, recurses := true, apart := false, narrowed := true }
def InorderStepsUptoSaid : Prop := inorderStepsUptoRow.holds Tryz.pinned (OpenSpec.upto inorderStepsSpec)

/-- 'bournelaw20.Lazies', WHERE WHAT IT READS IS OF BULK AT MOST 1048576: true; the input reads as it did. -/
def laziesUptoRow : OpenClaim := { program := "ytbpaepkcchpmbaagreat", sum := "6e00d141fe9f9eec07e22dd776562652b81d48aa1c95e8ca6c6ac5900b4ef9e3", func := "bourne/bournelaw20.Lazies", spec := "lazies", unfollowed := true, recurses := true, apart := false, narrowed := true }
def LaziesUptoSaid : Prop := laziesUptoRow.holds Tryz.pinned (OpenSpec.upto laziesSpec)

/-- 'bournelaw20.LazyRows', WHERE WHAT IT READS IS OF BULK AT MOST 1048576: true; the input reads as it did. -/
def lazyRowsUptoRow : OpenClaim := { program := "ytbpaepkcchpmbaagreat", sum := "6e00d141fe9f9eec07e22dd776562652b81d48aa1c95e8ca6c6ac5900b4ef9e3", func := "bourne/bournelaw20.LazyRows", spec := "lazyRows", unfollowed := true, recurses := true, apart := false, narrowed := true }
def LazyRowsUptoSaid : Prop := lazyRowsUptoRow.holds Tryz.pinned (OpenSpec.upto lazyRowsSpec)

/-- 'bournelaw20.LazyTumbles', WHERE WHAT IT READS IS OF BULK AT MOST 1048576: true; the input reads as it did. -/
def lazyTumblesUptoRow : OpenClaim := { program := "ytbpaepkcchpmbaagreat", sum := "6e00d141fe9f9eec07e22dd776562652b81d48aa1c95e8ca6c6ac5900b4ef9e3", func := "bourne/bournelaw20.LazyTumbles", spec := "lazyTumbles", unfollowed := true, recurses := true, apart := false, narrowed := true }
def LazyTumblesUptoSaid : Prop := lazyTumblesUptoRow.holds Tryz.pinned (OpenSpec.upto lazyTumblesSpec)

/-- 'bournelaw20.LazyGaps', WHERE WHAT IT READS IS OF BULK AT MOST 1048576: true; the input reads as it did. -/
def lazyGapsUptoRow : OpenClaim := { program := "ytbpaepkcchpmbaagreat", sum := "6e00d141fe9f9eec07e22dd776562652b81d48aa1c95e8ca6c6ac5900b4ef9e3", func := "bourne/bournelaw20.LazyGaps", spec := "lazyGaps", unfollowed := true, recurses := true, apart := false, narrowed := true }
def LazyGapsUptoSaid : Prop := lazyGapsUptoRow.holds Tryz.pinned (OpenSpec.upto lazyGapsSpec)

/-- 'bournelaw20.LazyForms', WHERE WHAT IT READS IS OF BULK AT MOST 1048576: true; the input reads as it did. -/
def lazyFormsUptoRow : OpenClaim := { program := "ytbpaepkcchpmbaagreat", sum := "6e00d141fe9f9eec07e22dd776562652b81d48aa1c95e8ca6c6ac5900b4ef9e3", func := "bourne/bournelaw20.LazyForms", spec := "lazyForms", unfollowed := true, recurses := true, apart := false, narrowed := true }
def LazyFormsUptoSaid : Prop := lazyFormsUptoRow.holds Tryz.pinned (OpenSpec.upto lazyFormsSpec)

/-- 'bournelaw20.LazySteps', WHERE WHAT IT READS IS OF BULK AT MOST 1048576: true; the input reads as it did. -/
def lazyStepsUptoRow : OpenClaim := { program := "ytbpaepkcchpmbaagreat", sum := "6e00d141fe9f9eec07e22dd776562652b81d48aa1c95e8ca6c6ac5900b4ef9e3", func := "bourne/bournelaw20.LazySteps", spec := "lazySteps", unfollowed := true, recurses := true, apart := false, narrowed := true }
def LazyStepsUptoSaid : Prop := lazyStepsUptoRow.holds Tryz.pinned (OpenSpec.upto lazyStepsSpec)

end Rows
end Go.Proofs.YtbpaepkcchpmbaaGreat

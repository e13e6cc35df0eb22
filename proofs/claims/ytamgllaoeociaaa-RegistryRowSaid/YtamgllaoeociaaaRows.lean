/-
  No cell of these rows narrows 'for every input' (looked for: loops, veiled, ifaces, maps, wideKeys, modest, calm, conditions, laid).
  DERIVED. THE GIVEN ROWS OF THIS SEAT. 3 by the template 'for every input the law returns true; each argument reads behind the call as it read before'; 0 by the template 'total and deterministic' (their statements: YtamgllaoeociaaaTotals.lean).
  GIVEN WITH THE SEED: the statements are not yours to turn. If you find one false, say at which input.
  Laid BY PROGRAM, IN A SANDBOX (cutbox-rows.mjs): the forced cells as the released guide's own fill.sh prints them over the translation 20363d60beb255ec… (all of the seat's roots in one cut). By AI agents, Wed Nov 11 2026. No macro, syntax, notation, axiom, sorry.
-/
import Derived.Test.YtamgllaoeociaaaChecked
import GoSem.Claim
import GoSem.ClaimJoined
import GoSem.ClaimMapViews
import Derived.JoinedTies
import Derived.KernelRfl
namespace Go.Proofs.Ytamgllaoeociaaa
/- THE CELL 'sum', in the pinned program and in every row, IS THE sha256 OF THE DUMP (.gsa) THAT YtamgllaoeociaaaProg.lean LOADS. Nothing in Lean hashes anything: it is a label: what it is worth is what the hold of that sum in a sandbox is worth. -/
noncomputable def Try.pinned : Pinned := { name := "ytamgllaoeociaaa", sum := "20363d60beb255ec11f507321280e77e43d64b57b08dd3e24c2870cb87a7b8dc", checked := Try.checked }
namespace Rows
def none {H : Type} : Left H := { results := [], args := [] }

/-- 'bournelaw12.Registries': WHATEVER THE INPUT: true; the input reads as it did. -/
def registriesSpec : ChangeSpec := { name := "registries", fn := fun _ => fun
  | [d1, d2] => { results := [.lit (.bool true)], args := [d1, d2] }
  | _ => none }
def registriesRow : OpenClaim := { program := "ytamgllaoeociaaa", sum := "20363d60beb255ec11f507321280e77e43d64b57b08dd3e24c2870cb87a7b8dc", func := "bourne/bournelaw12.Registries", spec := "registries", apart := false }
def RegistriesSaid : Prop := registriesRow.holds Try.pinned (OpenSpec.ofChange registriesSpec)

/-- ITS FALSE NEIGHBOUR: 'it returns false'. Refute it at one input. -/
def registriesWrong : ChangeSpec := { name := "registries", fn := fun _ => fun
  | [d1, d2] => { results := [.lit (.bool false)], args := [d1, d2] }
  | _ => none }
def RegistriesWrongFalsely : Prop := registriesRow.holds Try.pinned (OpenSpec.ofChange registriesWrong)

/-- 'bournelaw12.RegistryRow': WHATEVER THE INPUT: true; the input reads as it did. -/
def registryRowSpec : ChangeSpec := { name := "registryRow", fn := fun _ => fun
  | [d1, d2] => { results := [.lit (.bool true)], args := [d1, d2] }
  | _ => none }
def registryRowRow : OpenClaim := { program := "ytamgllaoeociaaa", sum := "20363d60beb255ec11f507321280e77e43d64b57b08dd3e24c2870cb87a7b8dc", func := "bourne/bournelaw12.RegistryRow", spec := "registryRow", apart := false }
def RegistryRowSaid : Prop := registryRowRow.holds Try.pinned (OpenSpec.ofChange registryRowSpec)

/-- ITS FALSE NEIGHBOUR: 'it returns false'. Refute it at one input. -/
def registryRowWrong : ChangeSpec := { name := "registryRow", fn := fun _ => fun
  | [d1, d2] => { results := [.lit (.bool false)], args := [d1, d2] }
  | _ => none }
def RegistryRowWrongFalsely : Prop := registryRowRow.holds Try.pinned (OpenSpec.ofChange registryRowWrong)

/-- 'bournelaw12.RegistryForms': WHATEVER THE INPUT: true; the input reads as it did. -/
def registryFormsSpec : ChangeSpec := { name := "registryForms", fn := fun _ => fun
  | [d] => { results := [.lit (.bool true)], args := [d] }
  | _ => none }
def registryFormsRow : OpenClaim := { program := "ytamgllaoeociaaa", sum := "20363d60beb255ec11f507321280e77e43d64b57b08dd3e24c2870cb87a7b8dc", func := "bourne/bournelaw12.RegistryForms", spec := "registryForms", apart := false }
def RegistryFormsSaid : Prop := registryFormsRow.holds Try.pinned (OpenSpec.ofChange registryFormsSpec)

/-- ITS FALSE NEIGHBOUR: 'it returns false'. Refute it at one input. -/
def registryFormsWrong : ChangeSpec := { name := "registryForms", fn := fun _ => fun
  | [d] => { results := [.lit (.bool false)], args := [d] }
  | _ => none }
def RegistryFormsWrongFalsely : Prop := registryFormsRow.holds Try.pinned (OpenSpec.ofChange registryFormsWrong)

/- THE SECOND FORM. 'bulk': how many values and letters a reading holds, each counted each time it is reached (what is shared counts as often as it is met; a slice's spare places count too). A statement '..UptoSaid' is the law's where the arguments, and the package variables that the reading takes, are together of bulk at most 1048576: NARROWER than '..Said'. Prove '..Said' where nothing that the law and all that it calls make is longer than what came in: it says more and counts as full. Else prove '..UptoSaid'. A law counts once. -/
mutual
def uptoBulk {H : Type} : DataW H → Nat
  | .lit (.string bytes) => bytes.length + 1
  | .lit _ => 1
  | .nil => 1
  | .ptr d => uptoBulk d + 1
  | .slice elems spare => uptoBulkAll elems + uptoBulkAll spare + 1
  | .agg parts => uptoBulkAll parts + 1
  | .iface _ d => uptoBulk d + 1
  | .map entries => uptoBulkEntries entries + 1
  | .held _ => 1
def uptoBulkAll {H : Type} : List (DataW H) → Nat
  | [] => 0
  | d :: r => uptoBulk d + uptoBulkAll r
def uptoBulkEntries {H : Type} : List (Lit × DataW H) → Nat
  | [] => 0
  | x :: r => uptoBulkEntry x + uptoBulkEntries r
def uptoBulkEntry {H : Type} : Lit × DataW H → Nat
  | (.string bytes, d) => bytes.length + uptoBulk d + 1
  | (_, d) => uptoBulk d + 1
 end
def uptoSmall : (H : Type) → List (DataW H) → Bool := fun _ ds => decide (uptoBulkAll ds ≤ 1048576)
def OpenSpec.upto (s : _root_.Go.ChangeSpec) : _root_.Go.OpenSpec := { _root_.Go.OpenSpec.ofChange s with cond := some uptoSmall }

/-- 'bournelaw12.Registries', WHERE WHAT IT READS IS OF BULK AT MOST 1048576: true; the input reads as it did. -/
def registriesUptoRow : OpenClaim := { program := "ytamgllaoeociaaa", sum := "20363d60beb255ec11f507321280e77e43d64b57b08dd3e24c2870cb87a7b8dc", func := "bourne/bournelaw12.Registries", spec := "registries", apart := false, narrowed := true }
def RegistriesUptoSaid : Prop := registriesUptoRow.holds Try.pinned (OpenSpec.upto registriesSpec)

/-- 'bournelaw12.RegistryRow', WHERE WHAT IT READS IS OF BULK AT MOST 1048576: true; the input reads as it did. -/
def registryRowUptoRow : OpenClaim := { program := "ytamgllaoeociaaa", sum := "20363d60beb255ec11f507321280e77e43d64b57b08dd3e24c2870cb87a7b8dc", func := "bourne/bournelaw12.RegistryRow", spec := "registryRow", apart := false, narrowed := true }
def RegistryRowUptoSaid : Prop := registryRowUptoRow.holds Try.pinned (OpenSpec.upto registryRowSpec)

/-- 'bournelaw12.RegistryForms', WHERE WHAT IT READS IS OF BULK AT MOST 1048576: true; the input reads as it did. -/
def registryFormsUptoRow : OpenClaim := { program := "ytamgllaoeociaaa", sum := "20363d60beb255ec11f507321280e77e43d64b57b08dd3e24c2870cb87a7b8dc", func := "bourne/bournelaw12.RegistryForms", spec := "registryForms", apart := false, narrowed := true }
def RegistryFormsUptoSaid : Prop := registryFormsUptoRow.holds Try.pinned (OpenSpec.upto registryFormsSpec)

end Rows
end Go.Proofs.Ytamgllaoeociaaa

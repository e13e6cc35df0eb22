/-
  No cell of these rows narrows 'for every input' (looked for: loops, veiled, ifaces, maps, wideKeys, modest, calm, conditions, laid).
  DERIVED. THE GIVEN ROWS OF THIS SEAT. 7 by the template 'for every input the law returns true; each argument reads behind the call as it read before'; 0 by the template 'total and deterministic' (their statements: YtgdeaddfkcokpaaTotals.lean).
  GIVEN WITH THE SEED: the statements are not yours to turn. If you find one false, say at which input.
  Laid BY PROGRAM, IN A SANDBOX (cutbox-rows.mjs): the forced cells as the released guide's own fill.sh prints them over the translation 6aa8513d6ee0e6bf… (all of the seat's roots in one cut). By AI agents, Wed Nov 11 2026. No macro, syntax, notation, axiom, sorry.
-/
import Derived.Test.YtgdeaddfkcokpaaChecked
import GoSem.Claim
import GoSem.ClaimJoined
import GoSem.ClaimMapViews
import Derived.JoinedTies
import Derived.KernelRfl
namespace Go.Proofs.Ytgdeaddfkcokpaa
/- THE CELL 'sum', in the pinned program and in every row, IS THE sha256 OF THE DUMP (.gsa) THAT YtgdeaddfkcokpaaProg.lean LOADS. Nothing in Lean hashes anything: it is a label: what it is worth is what the hold of that sum in a sandbox is worth. -/
noncomputable def Try.pinned : Pinned := { name := "ytgdeaddfkcokpaa", sum := "6aa8513d6ee0e6bfdb32ebeee79924dd4009e06eba42dd403c2ee592a024eeda", checked := Try.checked }
namespace Rows
def none {H : Type} : Left H := { results := [], args := [] }

/-- 'bournelaw1.Accs': WHATEVER THE INPUT: true; the input reads as it did. -/
def accsSpec : ChangeSpec := { name := "accs", fn := fun _ => fun
  | [d1, d2, d3] => { results := [.lit (.bool true)], args := [d1, d2, d3] }
  | _ => none }
def accsRow : OpenClaim := { program := "ytgdeaddfkcokpaa", sum := "6aa8513d6ee0e6bfdb32ebeee79924dd4009e06eba42dd403c2ee592a024eeda", func := "bourne/bournelaw1.Accs", spec := "accs", apart := false }
def AccsSaid : Prop := accsRow.holds Try.pinned (OpenSpec.ofChange accsSpec)

/-- ITS FALSE NEIGHBOUR: 'it returns false'. Refute it at one input. -/
def accsWrong : ChangeSpec := { name := "accs", fn := fun _ => fun
  | [d1, d2, d3] => { results := [.lit (.bool false)], args := [d1, d2, d3] }
  | _ => none }
def AccsWrongFalsely : Prop := accsRow.holds Try.pinned (OpenSpec.ofChange accsWrong)

/-- 'bournelaw6.Sessions': WHATEVER THE INPUT: true; the input reads as it did. -/
def sessionsSpec : ChangeSpec := { name := "sessions", fn := fun _ => fun
  | [d1, d2, d3, d4] => { results := [.lit (.bool true)], args := [d1, d2, d3, d4] }
  | _ => none }
def sessionsRow : OpenClaim := { program := "ytgdeaddfkcokpaa", sum := "6aa8513d6ee0e6bfdb32ebeee79924dd4009e06eba42dd403c2ee592a024eeda", func := "bourne/bournelaw6.Sessions", spec := "sessions", unfollowed := true, recurses := true, apart := false }
def SessionsSaid : Prop := sessionsRow.holds Try.pinned (OpenSpec.ofChange sessionsSpec)

/-- ITS FALSE NEIGHBOUR: 'it returns false'. Refute it at one input. -/
def sessionsWrong : ChangeSpec := { name := "sessions", fn := fun _ => fun
  | [d1, d2, d3, d4] => { results := [.lit (.bool false)], args := [d1, d2, d3, d4] }
  | _ => none }
def SessionsWrongFalsely : Prop := sessionsRow.holds Try.pinned (OpenSpec.ofChange sessionsWrong)

/-- 'bournelaw6.SessionRows': WHATEVER THE INPUT: true; the input reads as it did. -/
def sessionRowsSpec : ChangeSpec := { name := "sessionRows", fn := fun _ => fun
  | [d1, d2] => { results := [.lit (.bool true)], args := [d1, d2] }
  | _ => none }
def sessionRowsRow : OpenClaim := { program := "ytgdeaddfkcokpaa", sum := "6aa8513d6ee0e6bfdb32ebeee79924dd4009e06eba42dd403c2ee592a024eeda", func := "bourne/bournelaw6.SessionRows", spec := "sessionRows", unfollowed := true, recurses := true, apart := false }
def SessionRowsSaid : Prop := sessionRowsRow.holds Try.pinned (OpenSpec.ofChange sessionRowsSpec)

/-- ITS FALSE NEIGHBOUR: 'it returns false'. Refute it at one input. -/
def sessionRowsWrong : ChangeSpec := { name := "sessionRows", fn := fun _ => fun
  | [d1, d2] => { results := [.lit (.bool false)], args := [d1, d2] }
  | _ => none }
def SessionRowsWrongFalsely : Prop := sessionRowsRow.holds Try.pinned (OpenSpec.ofChange sessionRowsWrong)

/-- 'bournelaw6.SessionForms': WHATEVER THE INPUT: true; the input reads as it did. -/
def sessionFormsSpec : ChangeSpec := { name := "sessionForms", fn := fun _ => fun
  | [d1, d2] => { results := [.lit (.bool true)], args := [d1, d2] }
  | _ => none }
def sessionFormsRow : OpenClaim := { program := "ytgdeaddfkcokpaa", sum := "6aa8513d6ee0e6bfdb32ebeee79924dd4009e06eba42dd403c2ee592a024eeda", func := "bourne/bournelaw6.SessionForms", spec := "sessionForms", unfollowed := true, recurses := true, apart := false }
def SessionFormsSaid : Prop := sessionFormsRow.holds Try.pinned (OpenSpec.ofChange sessionFormsSpec)

/-- ITS FALSE NEIGHBOUR: 'it returns false'. Refute it at one input. -/
def sessionFormsWrong : ChangeSpec := { name := "sessionForms", fn := fun _ => fun
  | [d1, d2] => { results := [.lit (.bool false)], args := [d1, d2] }
  | _ => none }
def SessionFormsWrongFalsely : Prop := sessionFormsRow.holds Try.pinned (OpenSpec.ofChange sessionFormsWrong)

/-- 'bournelaw6.SessionBridge': WHATEVER THE INPUT: true; the input reads as it did. -/
def sessionBridgeSpec : ChangeSpec := { name := "sessionBridge", fn := fun _ => fun
  | [d1, d2, d3] => { results := [.lit (.bool true)], args := [d1, d2, d3] }
  | _ => none }
def sessionBridgeRow : OpenClaim := { program := "ytgdeaddfkcokpaa", sum := "6aa8513d6ee0e6bfdb32ebeee79924dd4009e06eba42dd403c2ee592a024eeda", func := "bourne/bournelaw6.SessionBridge", spec := "sessionBridge", unfollowed := true, recurses := true, apart := false }
def SessionBridgeSaid : Prop := sessionBridgeRow.holds Try.pinned (OpenSpec.ofChange sessionBridgeSpec)

/-- ITS FALSE NEIGHBOUR: 'it returns false'. Refute it at one input. -/
def sessionBridgeWrong : ChangeSpec := { name := "sessionBridge", fn := fun _ => fun
  | [d1, d2, d3] => { results := [.lit (.bool false)], args := [d1, d2, d3] }
  | _ => none }
def SessionBridgeWrongFalsely : Prop := sessionBridgeRow.holds Try.pinned (OpenSpec.ofChange sessionBridgeWrong)

/-- 'bournelaw6.SessionSplits': WHATEVER THE INPUT: true; the input reads as it did. -/
def sessionSplitsSpec : ChangeSpec := { name := "sessionSplits", fn := fun _ => fun
  | [d1, d2] => { results := [.lit (.bool true)], args := [d1, d2] }
  | _ => none }
def sessionSplitsRow : OpenClaim := { program := "ytgdeaddfkcokpaa", sum := "6aa8513d6ee0e6bfdb32ebeee79924dd4009e06eba42dd403c2ee592a024eeda", func := "bourne/bournelaw6.SessionSplits", spec := "sessionSplits", unfollowed := true, recurses := true, apart := false }
def SessionSplitsSaid : Prop := sessionSplitsRow.holds Try.pinned (OpenSpec.ofChange sessionSplitsSpec)

/-- ITS FALSE NEIGHBOUR: 'it returns false'. Refute it at one input. -/
def sessionSplitsWrong : ChangeSpec := { name := "sessionSplits", fn := fun _ => fun
  | [d1, d2] => { results := [.lit (.bool false)], args := [d1, d2] }
  | _ => none }
def SessionSplitsWrongFalsely : Prop := sessionSplitsRow.holds Try.pinned (OpenSpec.ofChange sessionSplitsWrong)

/-- 'bournelaw6.SessionChain': WHATEVER THE INPUT: true; the input reads as it did. -/
def sessionChainSpec : ChangeSpec := { name := "sessionChain", fn := fun _ => fun
  | [d1, d2] => { results := [.lit (.bool true)], args := [d1, d2] }
  | _ => none }
def sessionChainRow : OpenClaim := { program := "ytgdeaddfkcokpaa", sum := "6aa8513d6ee0e6bfdb32ebeee79924dd4009e06eba42dd403c2ee592a024eeda", func := "bourne/bournelaw6.SessionChain", spec := "sessionChain", unfollowed := true, recurses := true, apart := false }
def SessionChainSaid : Prop := sessionChainRow.holds Try.pinned (OpenSpec.ofChange sessionChainSpec)

/-- ITS FALSE NEIGHBOUR: 'it returns false'. Refute it at one input. -/
def sessionChainWrong : ChangeSpec := { name := "sessionChain", fn := fun _ => fun
  | [d1, d2] => { results := [.lit (.bool false)], args := [d1, d2] }
  | _ => none }
def SessionChainWrongFalsely : Prop := sessionChainRow.holds Try.pinned (OpenSpec.ofChange sessionChainWrong)

/- THE SECOND FORM. 'bulk': how many values and letters a reading holds, each counted each time it is reached (what is shared counts as often as it is met; a slice's spare places count too). A statement '..UptoSaid' is the law's where the arguments, and the package variables that the reading takes, are together of bulk at most 1048576: NARROWER than '..Said'. Prove '..Said' where nothing that the law and all that it calls make is longer than what came in: it says more and counts as full. Else prove '..UptoSaid'. A law counts once. -/
mutual
def uptoBulk {H : Type} : DataW H → Nat
  | .lit (.string bytes) => bytes.length + 1
  | .lit _ => 1
  | .nil => 1
  | .ptr d => uptoBulk d + 1
  | .slice elems spare => uptoBulkAll elems + uptoBulkAll spare + 1
  | .agg parts => uptoBulkAll parts + 1
  | .iface _ d => uptoBulk d + 1
  | .map entries => uptoBulkEntries entries + 1
  | .held _ => 1
def uptoBulkAll {H : Type} : List (DataW H) → Nat
  | [] => 0
  | d :: r => uptoBulk d + uptoBulkAll r
def uptoBulkEntries {H : Type} : List (Lit × DataW H) → Nat
  | [] => 0
  | x :: r => uptoBulkEntry x + uptoBulkEntries r
def uptoBulkEntry {H : Type} : Lit × DataW H → Nat
  | (.string bytes, d) => bytes.length + uptoBulk d + 1
  | (_, d) => uptoBulk d + 1
 end
def uptoSmall : (H : Type) → List (DataW H) → Bool := fun _ ds => decide (uptoBulkAll ds ≤ 1048576)
def OpenSpec.upto (s : _root_.Go.ChangeSpec) : _root_.Go.OpenSpec := { _root_.Go.OpenSpec.ofChange s with cond := some uptoSmall }

/-- 'bournelaw1.Accs', WHERE WHAT IT READS IS OF BULK AT MOST 1048576: true; the input reads as it did. -/
def accsUptoRow : OpenClaim := { program := "ytgdeaddfkcokpaa", sum := "6aa8513d6ee0e6bfdb32ebeee79924dd4009e06eba42dd403c2ee592a024eeda", func := "bourne/bournelaw1.Accs", spec := "accs", apart := false, narrowed := true }
def AccsUptoSaid : Prop := accsUptoRow.holds Try.pinned (OpenSpec.upto accsSpec)

/-- 'bournelaw6.Sessions', WHERE WHAT IT READS IS OF BULK AT MOST 1048576: true; the input reads as it did. -/
def sessionsUptoRow : OpenClaim := { program := "ytgdeaddfkcokpaa", sum := "6aa8513d6ee0e6bfdb32ebeee79924dd4009e06eba42dd403c2ee592a024eeda", func := "bourne/bournelaw6.Sessions", spec := "sessions", unfollowed := true, recurses := true, apart := false, narrowed := true }
def SessionsUptoSaid : Prop := sessionsUptoRow.holds Try.pinned (OpenSpec.upto sessionsSpec)

/-- 'bournelaw6.SessionRows', WHERE WHAT IT READS IS OF BULK AT MOST 1048576: true; the input reads as it did. -/
def sessionRowsUptoRow : OpenClaim := { program := "ytgdeaddfkcokpaa", sum := "6aa8513d6ee0e6bfdb32ebeee79924dd4009e06eba42dd403c2ee592a024eeda", func := "bourne/bournelaw6.SessionRows", spec := "sessionRows", unfollowed := true, recurses := true, apart := false, narrowed := true }
def SessionRowsUptoSaid : Prop := sessionRowsUptoRow.holds Try.pinned (OpenSpec.upto sessionRowsSpec)

/-- 'bournelaw6.SessionForms', WHERE WHAT IT READS IS OF BULK AT MOST 1048576: true; the input reads as it did. -/
def sessionFormsUptoRow : OpenClaim := { program := "ytgdeaddfkcokpaa", sum := "6aa8513d6ee0e6bfdb32ebeee79924dd4009e06eba42dd403c2ee592a024eeda", func := "bourne/bournelaw6.SessionForms", spec := "sessionForms", unfollowed := true, recurses := true, apart := false, narrowed := true }
def SessionFormsUptoSaid : Prop := sessionFormsUptoRow.holds Try.pinned (OpenSpec.upto sessionFormsSpec)

/-- 'bournelaw6.SessionBridge', WHERE WHAT IT READS IS OF BULK AT MOST 1048576: true; the input reads as it did. -/
def sessionBridgeUptoRow : OpenClaim := { program := "ytgdeaddfkcokpaa", sum := "6aa8513d6ee0e6bfdb32ebeee79924dd4009e06eba42dd403c2ee592a024eeda", func := "bourne/bournelaw6.SessionBridge", spec := "sessionBridge", unfollowed := true, recurses := true, apart := false, narrowed := true }
def SessionBridgeUptoSaid : Prop := sessionBridgeUptoRow.holds Try.pinned (OpenSpec.upto sessionBridgeSpec)

/-- 'bournelaw6.SessionSplits', WHERE WHAT IT READS IS OF BULK AT MOST 1048576: true; the input reads as it did. -/
def sessionSplitsUptoRow : OpenClaim := { program := "ytgdeaddfkcokpaa", sum := "6aa8513d6ee0e6bfdb32ebeee79924dd4009e06eba42dd403c2ee592a024eeda", func := "bourne/bournelaw6.SessionSplits", spec := "sessionSplits", unfollowed := true, recurses := true, apart := false, narrowed := true }
def SessionSplitsUptoSaid : Prop := sessionSplitsUptoRow.holds Try.pinned (OpenSpec.upto sessionSplitsSpec)

/-- 'bournelaw6.SessionChain', WHERE WHAT IT READS IS OF BULK AT MOST 1048576: true; the input reads as it did. -/
def sessionChainUptoRow : OpenClaim := { program := "ytgdeaddfkcokpaa", sum := "6aa8513d6ee0e6bfdb32ebeee79924dd4009e06eba42dd403c2ee592a024eeda", func := "bourne/bournelaw6.SessionChain", spec := "sessionChain", unfollowed := true, recurses := true, apart := false, narrowed := true }
def SessionChainUptoSaid : Prop := sessionChainUptoRow.holds Try.pinned (OpenSpec.upto sessionChainSpec)

end Rows
end Go.Proofs.Ytgdeaddfkcokpaa

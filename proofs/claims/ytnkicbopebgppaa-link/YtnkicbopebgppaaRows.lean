/-
  No cell of these rows narrows 'for every input' (looked for: loops, veiled, ifaces, maps, wideKeys, modest, calm, conditions, laid).
  DERIVED. THE GIVEN ROWS OF THIS SEAT. 4 by the template 'for every input the law returns true; each argument reads behind the call as it read before'; 0 by the template 'total and deterministic' (their statements: YtnkicbopebgppaaTotals.lean).
  GIVEN WITH THE SEED: the statements are not yours to turn. If you find one false, say at which input.
  Laid BY PROGRAM, IN A SANDBOX (cutbox-rows.mjs): the forced cells as the released guide's own fill.sh prints them over the translation 2d8c9b7fdcd7c0a0… (all of the seat's roots in one cut). By AI agents, Wed Nov 11 2026. No macro, syntax, notation, axiom, sorry.
-/
import Derived.Test.YtnkicbopebgppaaChecked
import GoSem.Claim
import GoSem.ClaimJoined
import GoSem.ClaimMapViews
import Derived.JoinedTies
import Derived.KernelRfl
namespace Go.Proofs.Ytnkicbopebgppaa
/- THE CELL 'sum', in the pinned program and in every row, IS THE sha256 OF THE DUMP (.gsa) THAT YtnkicbopebgppaaProg.lean LOADS. Nothing in Lean hashes anything: it is a label: what it is worth is what the hold of that sum in a sandbox is worth. -/
noncomputable def Try.pinned : Pinned := { name := "ytnkicbopebgppaa", sum := "2d8c9b7fdcd7c0a09d06b4e8fc06259a299889c4919fb26c69ed2e413b483816", checked := Try.checked }
namespace Rows
def none {H : Type} : Left H := { results := [], args := [] }

/-- 'fairlinkkeep.Once': WHATEVER THE INPUT: true; the input reads as it did. -/
def onceSpec : ChangeSpec := { name := "once", fn := fun _ => fun
  | [d] => { results := [.lit (.bool true)], args := [d] }
  | _ => none }
def onceRow : OpenClaim := { program := "ytnkicbopebgppaa", sum := "2d8c9b7fdcd7c0a09d06b4e8fc06259a299889c4919fb26c69ed2e413b483816", func := "fairlink/fairlinkkeep.Once", spec := "once", apart := false }
def OnceSaid : Prop := onceRow.holds Try.pinned (OpenSpec.ofChange onceSpec)

/-- ITS FALSE NEIGHBOUR: 'it returns false'. Refute it at one input. -/
def onceWrong : ChangeSpec := { name := "once", fn := fun _ => fun
  | [d] => { results := [.lit (.bool false)], args := [d] }
  | _ => none }
def OnceWrongFalsely : Prop := onceRow.holds Try.pinned (OpenSpec.ofChange onceWrong)

/-- 'fairlinkkeep.Limits': WHATEVER THE INPUT: true; the input reads as it did. -/
def limitsSpec : ChangeSpec := { name := "limits", fn := fun _ => fun
  | [d] => { results := [.lit (.bool true)], args := [d] }
  | _ => none }
def limitsRow : OpenClaim := { program := "ytnkicbopebgppaa", sum := "2d8c9b7fdcd7c0a09d06b4e8fc06259a299889c4919fb26c69ed2e413b483816", func := "fairlink/fairlinkkeep.Limits", spec := "limits", apart := false }
def LimitsSaid : Prop := limitsRow.holds Try.pinned (OpenSpec.ofChange limitsSpec)

/-- ITS FALSE NEIGHBOUR: 'it returns false'. Refute it at one input. -/
def limitsWrong : ChangeSpec := { name := "limits", fn := fun _ => fun
  | [d] => { results := [.lit (.bool false)], args := [d] }
  | _ => none }
def LimitsWrongFalsely : Prop := limitsRow.holds Try.pinned (OpenSpec.ofChange limitsWrong)

/-- 'fairlinkkeep.Link': WHATEVER THE INPUT: true; the input reads as it did. -/
def linkSpec : ChangeSpec := { name := "link", fn := fun _ => fun
  | [d] => { results := [.lit (.bool true)], args := [d] }
  | _ => none }
def linkRow : OpenClaim := { program := "ytnkicbopebgppaa", sum := "2d8c9b7fdcd7c0a09d06b4e8fc06259a299889c4919fb26c69ed2e413b483816", func := "fairlink/fairlinkkeep.Link", spec := "link", apart := false }
def LinkSaid : Prop := linkRow.holds Try.pinned (OpenSpec.ofChange linkSpec)

/-- ITS FALSE NEIGHBOUR: 'it returns false'. Refute it at one input. -/
def linkWrong : ChangeSpec := { name := "link", fn := fun _ => fun
  | [d] => { results := [.lit (.bool false)], args := [d] }
  | _ => none }
def LinkWrongFalsely : Prop := linkRow.holds Try.pinned (OpenSpec.ofChange linkWrong)

/-- 'fairlinkkeep.Delay': WHATEVER THE INPUT: true; the input reads as it did. -/
def delaySpec : ChangeSpec := { name := "delay", fn := fun _ => fun
  | [d] => { results := [.lit (.bool true)], args := [d] }
  | _ => none }
def delayRow : OpenClaim := { program := "ytnkicbopebgppaa", sum := "2d8c9b7fdcd7c0a09d06b4e8fc06259a299889c4919fb26c69ed2e413b483816", func := "fairlink/fairlinkkeep.Delay", spec := "delay", apart := false }
def DelaySaid : Prop := delayRow.holds Try.pinned (OpenSpec.ofChange delaySpec)

/-- ITS FALSE NEIGHBOUR: 'it returns false'. Refute it at one input. -/
def delayWrong : ChangeSpec := { name := "delay", fn := fun _ => fun
  | [d] => { results := [.lit (.bool false)], args := [d] }
  | _ => none }
def DelayWrongFalsely : Prop := delayRow.holds Try.pinned (OpenSpec.ofChange delayWrong)

/- THE SECOND FORM. 'bulk': how many values and letters a reading holds, each counted each time it is reached (what is shared counts as often as it is met; a slice's spare places count too). A statement '..UptoSaid' is the law's where the arguments, and the package variables that the reading takes, are together of bulk at most 1048576: NARROWER than '..Said'. Prove '..Said' where nothing that the law and all that it calls make is longer than what came in: it says more and counts as full. Else prove '..UptoSaid'. A law counts once. -/
mutual
def uptoBulk {H : Type} : DataW H → Nat
  | .lit (.string bytes) => bytes.length + 1
  | .lit _ => 1
  | .nil => 1
  | .ptr d => uptoBulk d + 1
  | .slice elems spare => uptoBulkAll elems + uptoBulkAll spare + 1
  | .agg parts => uptoBulkAll parts + 1
  | .iface _ d => uptoBulk d + 1
  | .map entries => uptoBulkEntries entries + 1
  | .held _ => 1
def uptoBulkAll {H : Type} : List (DataW H) → Nat
  | [] => 0
  | d :: r => uptoBulk d + uptoBulkAll r
def uptoBulkEntries {H : Type} : List (Lit × DataW H) → Nat
  | [] => 0
  | x :: r => uptoBulkEntry x + uptoBulkEntries r
def uptoBulkEntry {H : Type} : Lit × DataW H → Nat
  | (.string bytes, d) => bytes.length + uptoBulk d + 1
  | (_, d) => uptoBulk d + 1
 end
def uptoSmall : (H : Type) → List (DataW H) → Bool := fun _ ds => decide (uptoBulkAll ds ≤ 1048576)
def OpenSpec.upto (s : _root_.Go.ChangeSpec) : _root_.Go.OpenSpec := { _root_.Go.OpenSpec.ofChange s with cond := some uptoSmall }

/-- 'fairlinkkeep.Once', WHERE WHAT IT READS IS OF BULK AT MOST 1048576: true; the input reads as it did. -/
def onceUptoRow : OpenClaim := { program := "ytnkicbopebgppaa", sum := "2d8c9b7fdcd7c0a09d06b4e8fc06259a299889c4919fb26c69ed2e413b483816", func := "fairlink/fairlinkkeep.Once", spec := "once", apart := false, narrowed := true }
def OnceUptoSaid : Prop := onceUptoRow.holds Try.pinned (OpenSpec.upto onceSpec)

/-- 'fairlinkkeep.Limits', WHERE WHAT IT READS IS OF BULK AT MOST 1048576: true; the input reads as it did. -/
def limitsUptoRow : OpenClaim := { program := "ytnkicbopebgppaa", sum := "2d8c9b7fdcd7c0a09d06b4e8fc06259a299889c4919fb26c69ed2e413b483816", func := "fairlink/fairlinkkeep.Limits", spec := "limits", apart := false, narrowed := true }
def LimitsUptoSaid : Prop := limitsUptoRow.holds Try.pinned (OpenSpec.upto limitsSpec)

/-- 'fairlinkkeep.Link', WHERE WHAT IT READS IS OF BULK AT MOST 1048576: true; the input reads as it did. -/
def linkUptoRow : OpenClaim := { program := "ytnkicbopebgppaa", sum := "2d8c9b7fdcd7c0a09d06b4e8fc06259a299889c4919fb26c69ed2e413b483816", func := "fairlink/fairlinkkeep.Link", spec := "link", apart := false, narrowed := true }
def LinkUptoSaid : Prop := linkUptoRow.holds Try.pinned (OpenSpec.upto linkSpec)

/-- 'fairlinkkeep.Delay', WHERE WHAT IT READS IS OF BULK AT MOST 1048576: true; the input reads as it did. -/
def delayUptoRow : OpenClaim := { program := "ytnkicbopebgppaa", sum := "2d8c9b7fdcd7c0a09d06b4e8fc06259a299889c4919fb26c69ed2e413b483816", func := "fairlink/fairlinkkeep.Delay", spec := "delay", apart := false, narrowed := true }
def DelayUptoSaid : Prop := delayUptoRow.holds Try.pinned (OpenSpec.upto delaySpec)

end Rows
end Go.Proofs.Ytnkicbopebgppaa

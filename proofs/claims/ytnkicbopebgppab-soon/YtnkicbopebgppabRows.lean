/-
  No cell of these rows narrows 'for every input' (looked for: loops, veiled, ifaces, maps, wideKeys, modest, calm, conditions, laid).
  DERIVED. THE GIVEN ROWS OF THIS SEAT. 3 by the template 'for every input the law returns true; each argument reads behind the call as it read before'; 0 by the template 'total and deterministic' (their statements: YtnkicbopebgppabTotals.lean).
  GIVEN WITH THE SEED: the statements are not yours to turn. If you find one false, say at which input.
  Laid BY PROGRAM, IN A SANDBOX (cutbox-rows.mjs): the forced cells as the released guide's own fill.sh prints them over the translation 5782c92ed31ba089… (all of the seat's roots in one cut). By AI agents, Wed Nov 11 2026. No macro, syntax, notation, axiom, sorry.
-/
import Derived.Test.YtnkicbopebgppabChecked
import GoSem.Claim
import GoSem.ClaimJoined
import GoSem.ClaimMapViews
import Derived.JoinedTies
import Derived.KernelRfl
namespace Go.Proofs.Ytnkicbopebgppab
/- THE CELL 'sum', in the pinned program and in every row, IS THE sha256 OF THE DUMP (.gsa) THAT YtnkicbopebgppabProg.lean LOADS. Nothing in Lean hashes anything: it is a label: what it is worth is what the hold of that sum in a sandbox is worth. -/
noncomputable def Try.pinned : Pinned := { name := "ytnkicbopebgppab", sum := "5782c92ed31ba089eb576b387a336a1b886bb90a640e4122ca95694b6c5f310e", checked := Try.checked }
namespace Rows
def none {H : Type} : Left H := { results := [], args := [] }

/-- 'fairlinkkeep.Sparse': WHATEVER THE INPUT: true; the input reads as it did. -/
def sparseSpec : ChangeSpec := { name := "sparse", fn := fun _ => fun
  | [d] => { results := [.lit (.bool true)], args := [d] }
  | _ => none }
def sparseRow : OpenClaim := { program := "ytnkicbopebgppab", sum := "5782c92ed31ba089eb576b387a336a1b886bb90a640e4122ca95694b6c5f310e", func := "fairlink/fairlinkkeep.Sparse", spec := "sparse", apart := false }
def SparseSaid : Prop := sparseRow.holds Try.pinned (OpenSpec.ofChange sparseSpec)

/-- ITS FALSE NEIGHBOUR: 'it returns false'. Refute it at one input. -/
def sparseWrong : ChangeSpec := { name := "sparse", fn := fun _ => fun
  | [d] => { results := [.lit (.bool false)], args := [d] }
  | _ => none }
def SparseWrongFalsely : Prop := sparseRow.holds Try.pinned (OpenSpec.ofChange sparseWrong)

/-- 'fairlinkkeep.Fair': WHATEVER THE INPUT: true; the input reads as it did. -/
def fairSpec : ChangeSpec := { name := "fair", fn := fun _ => fun
  | [d] => { results := [.lit (.bool true)], args := [d] }
  | _ => none }
def fairRow : OpenClaim := { program := "ytnkicbopebgppab", sum := "5782c92ed31ba089eb576b387a336a1b886bb90a640e4122ca95694b6c5f310e", func := "fairlink/fairlinkkeep.Fair", spec := "fair", apart := false }
def FairSaid : Prop := fairRow.holds Try.pinned (OpenSpec.ofChange fairSpec)

/-- ITS FALSE NEIGHBOUR: 'it returns false'. Refute it at one input. -/
def fairWrong : ChangeSpec := { name := "fair", fn := fun _ => fun
  | [d] => { results := [.lit (.bool false)], args := [d] }
  | _ => none }
def FairWrongFalsely : Prop := fairRow.holds Try.pinned (OpenSpec.ofChange fairWrong)

/-- 'fairlinkkeep.Soon': WHATEVER THE INPUT: true; the input reads as it did. -/
def soonSpec : ChangeSpec := { name := "soon", fn := fun _ => fun
  | [d] => { results := [.lit (.bool true)], args := [d] }
  | _ => none }
def soonRow : OpenClaim := { program := "ytnkicbopebgppab", sum := "5782c92ed31ba089eb576b387a336a1b886bb90a640e4122ca95694b6c5f310e", func := "fairlink/fairlinkkeep.Soon", spec := "soon", apart := false }
def SoonSaid : Prop := soonRow.holds Try.pinned (OpenSpec.ofChange soonSpec)

/-- ITS FALSE NEIGHBOUR: 'it returns false'. Refute it at one input. -/
def soonWrong : ChangeSpec := { name := "soon", fn := fun _ => fun
  | [d] => { results := [.lit (.bool false)], args := [d] }
  | _ => none }
def SoonWrongFalsely : Prop := soonRow.holds Try.pinned (OpenSpec.ofChange soonWrong)

/- THE SECOND FORM. 'bulk': how many values and letters a reading holds, each counted each time it is reached (what is shared counts as often as it is met; a slice's spare places count too). A statement '..UptoSaid' is the law's where the arguments, and the package variables that the reading takes, are together of bulk at most 1048576: NARROWER than '..Said'. Prove '..Said' where nothing that the law and all that it calls make is longer than what came in: it says more and counts as full. Else prove '..UptoSaid'. A law counts once. -/
mutual
def uptoBulk {H : Type} : DataW H → Nat
  | .lit (.string bytes) => bytes.length + 1
  | .lit _ => 1
  | .nil => 1
  | .ptr d => uptoBulk d + 1
  | .slice elems spare => uptoBulkAll elems + uptoBulkAll spare + 1
  | .agg parts => uptoBulkAll parts + 1
  | .iface _ d => uptoBulk d + 1
  | .map entries => uptoBulkEntries entries + 1
  | .held _ => 1
def uptoBulkAll {H : Type} : List (DataW H) → Nat
  | [] => 0
  | d :: r => uptoBulk d + uptoBulkAll r
def uptoBulkEntries {H : Type} : List (Lit × DataW H) → Nat
  | [] => 0
  | x :: r => uptoBulkEntry x + uptoBulkEntries r
def uptoBulkEntry {H : Type} : Lit × DataW H → Nat
  | (.string bytes, d) => bytes.length + uptoBulk d + 1
  | (_, d) => uptoBulk d + 1
 end
def uptoSmall : (H : Type) → List (DataW H) → Bool := fun _ ds => decide (uptoBulkAll ds ≤ 1048576)
def OpenSpec.upto (s : _root_.Go.ChangeSpec) : _root_.Go.OpenSpec := { _root_.Go.OpenSpec.ofChange s with cond := some uptoSmall }

/-- 'fairlinkkeep.Sparse', WHERE WHAT IT READS IS OF BULK AT MOST 1048576: true; the input reads as it did. -/
def sparseUptoRow : OpenClaim := { program := "ytnkicbopebgppab", sum := "5782c92ed31ba089eb576b387a336a1b886bb90a640e4122ca95694b6c5f310e", func := "fairlink/fairlinkkeep.Sparse", spec := "sparse", apart := false, narrowed := true }
def SparseUptoSaid : Prop := sparseUptoRow.holds Try.pinned (OpenSpec.upto sparseSpec)

/-- 'fairlinkkeep.Fair', WHERE WHAT IT READS IS OF BULK AT MOST 1048576: true; the input reads as it did. -/
def fairUptoRow : OpenClaim := { program := "ytnkicbopebgppab", sum := "5782c92ed31ba089eb576b387a336a1b886bb90a640e4122ca95694b6c5f310e", func := "fairlink/fairlinkkeep.Fair", spec := "fair", apart := false, narrowed := true }
def FairUptoSaid : Prop := fairUptoRow.holds Try.pinned (OpenSpec.upto fairSpec)

/-- 'fairlinkkeep.Soon', WHERE WHAT IT READS IS OF BULK AT MOST 1048576: true; the input reads as it did. -/
def soonUptoRow : OpenClaim := { program := "ytnkicbopebgppab", sum := "5782c92ed31ba089eb576b387a336a1b886bb90a640e4122ca95694b6c5f310e", func := "fairlink/fairlinkkeep.Soon", spec := "soon", apart := false, narrowed := true }
def SoonUptoSaid : Prop := soonUptoRow.holds Try.pinned (OpenSpec.upto soonSpec)

end Rows
end Go.Proofs.Ytnkicbopebgppab

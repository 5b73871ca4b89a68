/-
  NARROWER THAN 'FOR EVERY INPUT', by the rows' own cells (each row's printed sentence says how): LinkResumes: loops.
  DERIVED. THE GIVEN ROWS OF THIS SEAT. 2 by the template 'for every input the law returns true; each argument reads behind the call as it read before'; 0 by the template 'total and deterministic' (their statements: YtknkmamjdmadcaaTotals.lean).
  GIVEN WITH THE SEED: the statements are not yours to turn. If you find one false, say at which input.
  Laid BY PROGRAM, IN A SANDBOX (cutbox-rows.mjs): the forced cells as the released guide's own fill.sh prints them over the translation cc7bb1fb7747d8ee… (all of the seat's roots in one cut). By AI agents, Wed Nov 11 2026. No macro, syntax, notation, axiom, sorry.
-/
import Derived.Test.YtknkmamjdmadcaaChecked
import GoSem.Claim
import GoSem.ClaimJoined
import GoSem.ClaimMapViews
import Derived.JoinedTies
import Derived.KernelRfl
namespace Go.Proofs.Ytknkmamjdmadcaa
/- THE CELL 'sum', in the pinned program and in every row, IS THE sha256 OF THE DUMP (.gsa) THAT YtknkmamjdmadcaaProg.lean LOADS. Nothing in Lean hashes anything: it is a label: what it is worth is what the hold of that sum in a sandbox is worth. -/
noncomputable def Try.pinned : Pinned := { name := "ytknkmamjdmadcaa", sum := "cc7bb1fb7747d8ee8cf48c899dc56b4a5e033b18179cbf03d552e6d349772238", checked := Try.checked }
namespace Rows
def none {H : Type} : Left H := { results := [], args := [] }

/-- 'longshorelaw14.LinkAgree': WHATEVER THE INPUT: true; the input reads as it did. -/
def linkAgreeSpec : ChangeSpec := { name := "linkAgree", fn := fun _ => fun
  | [d1, d2, d3, d4] => { results := [.lit (.bool true)], args := [d1, d2, d3, d4] }
  | _ => none }
def linkAgreeRow : OpenClaim := { program := "ytknkmamjdmadcaa", sum := "cc7bb1fb7747d8ee8cf48c899dc56b4a5e033b18179cbf03d552e6d349772238", func := "longshore/longshorelaw14.LinkAgree", spec := "linkAgree", unfollowed := true, recurses := true, apart := false }
def LinkAgreeSaid : Prop := linkAgreeRow.holds Try.pinned (OpenSpec.ofChange linkAgreeSpec)

/-- ITS FALSE NEIGHBOUR: 'it returns false'. Refute it at one input. -/
def linkAgreeWrong : ChangeSpec := { name := "linkAgree", fn := fun _ => fun
  | [d1, d2, d3, d4] => { results := [.lit (.bool false)], args := [d1, d2, d3, d4] }
  | _ => none }
def LinkAgreeWrongFalsely : Prop := linkAgreeRow.holds Try.pinned (OpenSpec.ofChange linkAgreeWrong)

/-- 'longshorelaw14.LinkResumes': WHATEVER THE INPUT: true; the input reads as it did. -/
def linkResumesSpec : ChangeSpec := { name := "linkResumes", fn := fun _ => fun
  | [d1, d2, d3, d4] => { results := [.lit (.bool true)], args := [d1, d2, d3, d4] }
  | _ => none }
def linkResumesRow : OpenClaim := { program := "ytknkmamjdmadcaa", sum := "cc7bb1fb7747d8ee8cf48c899dc56b4a5e033b18179cbf03d552e6d349772238", func := "longshore/longshorelaw14.LinkResumes", spec := "linkResumes", unfollowed := true, recurses := true, loops := true, apart := false }
def LinkResumesSaid : Prop := linkResumesRow.holds Try.pinned (OpenSpec.ofChange linkResumesSpec)

/-- ITS FALSE NEIGHBOUR: 'it returns false'. Refute it at one input. -/
def linkResumesWrong : ChangeSpec := { name := "linkResumes", fn := fun _ => fun
  | [d1, d2, d3, d4] => { results := [.lit (.bool false)], args := [d1, d2, d3, d4] }
  | _ => none }
def LinkResumesWrongFalsely : Prop := linkResumesRow.holds Try.pinned (OpenSpec.ofChange linkResumesWrong)

/- THE SECOND FORM. 'bulk': how many values and letters a reading holds, each counted each time it is reached (what is shared counts as often as it is met; a slice's spare places count too). A statement '..UptoSaid' is the law's where the arguments, and the package variables that the reading takes, are together of bulk at most 1048576: NARROWER than '..Said'. Prove '..Said' where nothing that the law and all that it calls make is longer than what came in: it says more and counts as full. Else prove '..UptoSaid'. A law counts once. -/
mutual
def uptoBulk {H : Type} : DataW H → Nat
  | .lit (.string bytes) => bytes.length + 1
  | .lit _ => 1
  | .nil => 1
  | .ptr d => uptoBulk d + 1
  | .slice elems spare => uptoBulkAll elems + uptoBulkAll spare + 1
  | .agg parts => uptoBulkAll parts + 1
  | .iface _ d => uptoBulk d + 1
  | .map entries => uptoBulkEntries entries + 1
  | .held _ => 1
def uptoBulkAll {H : Type} : List (DataW H) → Nat
  | [] => 0
  | d :: r => uptoBulk d + uptoBulkAll r
def uptoBulkEntries {H : Type} : List (Lit × DataW H) → Nat
  | [] => 0
  | x :: r => uptoBulkEntry x + uptoBulkEntries r
def uptoBulkEntry {H : Type} : Lit × DataW H → Nat
  | (.string bytes, d) => bytes.length + uptoBulk d + 1
  | (_, d) => uptoBulk d + 1
 end
def uptoSmall : (H : Type) → List (DataW H) → Bool := fun _ ds => decide (uptoBulkAll ds ≤ 1048576)
def OpenSpec.upto (s : _root_.Go.ChangeSpec) : _root_.Go.OpenSpec := { _root_.Go.OpenSpec.ofChange s with cond := some uptoSmall }

/-- 'longshorelaw14.LinkAgree', WHERE WHAT IT READS IS OF BULK AT MOST 1048576: true; the input reads as it did. -/
def linkAgreeUptoRow : OpenClaim := { program := "ytknkmamjdmadcaa", sum := "cc7bb1fb7747d8ee8cf48c899dc56b4a5e033b18179cbf03d552e6d349772238", func := "longshore/longshorelaw14.LinkAgree", spec := "linkAgree", unfollowed := true, recurses := true, apart := false, narrowed := true }
def LinkAgreeUptoSaid : Prop := linkAgreeUptoRow.holds Try.pinned (OpenSpec.upto linkAgreeSpec)

/-- 'longshorelaw14.LinkResumes', WHERE WHAT IT READS IS OF BULK AT MOST 1048576: true; the input reads as it did. -/
def linkResumesUptoRow : OpenClaim := { program := "ytknkmamjdmadcaa", sum := "cc7bb1fb7747d8ee8cf48c899dc56b4a5e033b18179cbf03d552e6d349772238", func := "longshore/longshorelaw14.LinkResumes", spec := "linkResumes", unfollowed := true, recurses := true, loops := true, apart := false, narrowed := true }
def LinkResumesUptoSaid : Prop := linkResumesUptoRow.holds Try.pinned (OpenSpec.upto linkResumesSpec)

end Rows
end Go.Proofs.Ytknkmamjdmadcaa

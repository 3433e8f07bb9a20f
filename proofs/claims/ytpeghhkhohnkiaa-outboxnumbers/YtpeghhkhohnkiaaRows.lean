/-
  NARROWER THAN 'FOR EVERY INPUT', by the rows' own cells (each row's printed sentence says how): OutboxTells: loops · OutboxOctets: loops · OutboxStays: loops · OutboxNumbers: loops · OutboxOwn: loops.
  DERIVED. THE GIVEN ROWS OF THIS SEAT. 6 by the template 'for every input the law returns true; each argument reads behind the call as it read before'; 0 by the template 'total and deterministic' (their statements: YtpeghhkhohnkiaaTotals.lean).
  GIVEN WITH THE SEED: the statements are not yours to turn. If you find one false, say at which input.
  Laid BY PROGRAM, IN A SANDBOX (cutbox-rows.mjs): the forced cells as the released guide's own fill.sh prints them over the translation af441928f1fcfd18… (all of the seat's roots in one cut). By AI agents, Wed Nov 11 2026. No macro, syntax, notation, axiom, sorry.
-/
import Derived.Test.YtpeghhkhohnkiaaChecked
import GoSem.Claim
import GoSem.ClaimJoined
import GoSem.ClaimMapViews
import Derived.JoinedTies
import Derived.KernelRfl
namespace Go.Proofs.Ytpeghhkhohnkiaa
/- THE CELL 'sum', in the pinned program and in every row, IS THE sha256 OF THE DUMP (.gsa) THAT YtpeghhkhohnkiaaProg.lean LOADS. Nothing in Lean hashes anything: it is a label: what it is worth is what the hold of that sum in a sandbox is worth. -/
noncomputable def Try.pinned : Pinned := { name := "ytpeghhkhohnkiaa", sum := "af441928f1fcfd1825f066710b04cda5006e07a870cb8fb80f9ad030b80cae8d", checked := Try.checked }
namespace Rows
def none {H : Type} : Left H := { results := [], args := [] }

/-- 'fanlightlaw08.OutboxTells': WHATEVER THE INPUT: true; the input reads as it did. -/
def outboxTellsSpec : ChangeSpec := { name := "outboxTells", fn := fun _ => fun
  | [d1, d2, d3, d4, d5] => { results := [.lit (.bool true)], args := [d1, d2, d3, d4, d5] }
  | _ => none }
def outboxTellsRow : OpenClaim := { program := "ytpeghhkhohnkiaa", sum := "af441928f1fcfd1825f066710b04cda5006e07a870cb8fb80f9ad030b80cae8d", func := "fanlight/fanlightlaw08.OutboxTells", spec := "outboxTells", unfollowed := true, recurses := true, loops := true, apart := false }
def OutboxTellsSaid : Prop := outboxTellsRow.holds Try.pinned (OpenSpec.ofChange outboxTellsSpec)

/-- ITS FALSE NEIGHBOUR: 'it returns false'. Refute it at one input. -/
def outboxTellsWrong : ChangeSpec := { name := "outboxTells", fn := fun _ => fun
  | [d1, d2, d3, d4, d5] => { results := [.lit (.bool false)], args := [d1, d2, d3, d4, d5] }
  | _ => none }
def OutboxTellsWrongFalsely : Prop := outboxTellsRow.holds Try.pinned (OpenSpec.ofChange outboxTellsWrong)

/-- 'fanlightlaw08.OutboxOctets': WHATEVER THE INPUT: true; the input reads as it did. -/
def outboxOctetsSpec : ChangeSpec := { name := "outboxOctets", fn := fun _ => fun
  | [d1, d2] => { results := [.lit (.bool true)], args := [d1, d2] }
  | _ => none }
def outboxOctetsRow : OpenClaim := { program := "ytpeghhkhohnkiaa", sum := "af441928f1fcfd1825f066710b04cda5006e07a870cb8fb80f9ad030b80cae8d", func := "fanlight/fanlightlaw08.OutboxOctets", spec := "outboxOctets", unfollowed := true, recurses := true, loops := true, apart := false }
def OutboxOctetsSaid : Prop := outboxOctetsRow.holds Try.pinned (OpenSpec.ofChange outboxOctetsSpec)

/-- ITS FALSE NEIGHBOUR: 'it returns false'. Refute it at one input. -/
def outboxOctetsWrong : ChangeSpec := { name := "outboxOctets", fn := fun _ => fun
  | [d1, d2] => { results := [.lit (.bool false)], args := [d1, d2] }
  | _ => none }
def OutboxOctetsWrongFalsely : Prop := outboxOctetsRow.holds Try.pinned (OpenSpec.ofChange outboxOctetsWrong)

/-- 'fanlightlaw08.OutboxStays': WHATEVER THE INPUT: true; the input reads as it did. -/
def outboxStaysSpec : ChangeSpec := { name := "outboxStays", fn := fun _ => fun
  | [d1, d2, d3] => { results := [.lit (.bool true)], args := [d1, d2, d3] }
  | _ => none }
def outboxStaysRow : OpenClaim := { program := "ytpeghhkhohnkiaa", sum := "af441928f1fcfd1825f066710b04cda5006e07a870cb8fb80f9ad030b80cae8d", func := "fanlight/fanlightlaw08.OutboxStays", spec := "outboxStays", unfollowed := true, recurses := true, loops := true, apart := false }
def OutboxStaysSaid : Prop := outboxStaysRow.holds Try.pinned (OpenSpec.ofChange outboxStaysSpec)

/-- ITS FALSE NEIGHBOUR: 'it returns false'. Refute it at one input. -/
def outboxStaysWrong : ChangeSpec := { name := "outboxStays", fn := fun _ => fun
  | [d1, d2, d3] => { results := [.lit (.bool false)], args := [d1, d2, d3] }
  | _ => none }
def OutboxStaysWrongFalsely : Prop := outboxStaysRow.holds Try.pinned (OpenSpec.ofChange outboxStaysWrong)

/-- 'fanlightlaw08.OutboxNumbers': WHATEVER THE INPUT: true; the input reads as it did. -/
def outboxNumbersSpec : ChangeSpec := { name := "outboxNumbers", fn := fun _ => fun
  | [d1, d2, d3] => { results := [.lit (.bool true)], args := [d1, d2, d3] }
  | _ => none }
def outboxNumbersRow : OpenClaim := { program := "ytpeghhkhohnkiaa", sum := "af441928f1fcfd1825f066710b04cda5006e07a870cb8fb80f9ad030b80cae8d", func := "fanlight/fanlightlaw08.OutboxNumbers", spec := "outboxNumbers", unfollowed := true, recurses := true, loops := true, apart := false }
def OutboxNumbersSaid : Prop := outboxNumbersRow.holds Try.pinned (OpenSpec.ofChange outboxNumbersSpec)

/-- ITS FALSE NEIGHBOUR: 'it returns false'. Refute it at one input. -/
def outboxNumbersWrong : ChangeSpec := { name := "outboxNumbers", fn := fun _ => fun
  | [d1, d2, d3] => { results := [.lit (.bool false)], args := [d1, d2, d3] }
  | _ => none }
def OutboxNumbersWrongFalsely : Prop := outboxNumbersRow.holds Try.pinned (OpenSpec.ofChange outboxNumbersWrong)

/-- 'fanlightlaw08.OutboxOwn': WHATEVER THE INPUT: true; the input reads as it did. -/
def outboxOwnSpec : ChangeSpec := { name := "outboxOwn", fn := fun _ => fun
  | [d1, d2, d3] => { results := [.lit (.bool true)], args := [d1, d2, d3] }
  | _ => none }
def outboxOwnRow : OpenClaim := { program := "ytpeghhkhohnkiaa", sum := "af441928f1fcfd1825f066710b04cda5006e07a870cb8fb80f9ad030b80cae8d", func := "fanlight/fanlightlaw08.OutboxOwn", spec := "outboxOwn", unfollowed := true, recurses := true, loops := true, apart := false }
def OutboxOwnSaid : Prop := outboxOwnRow.holds Try.pinned (OpenSpec.ofChange outboxOwnSpec)

/-- ITS FALSE NEIGHBOUR: 'it returns false'. Refute it at one input. -/
def outboxOwnWrong : ChangeSpec := { name := "outboxOwn", fn := fun _ => fun
  | [d1, d2, d3] => { results := [.lit (.bool false)], args := [d1, d2, d3] }
  | _ => none }
def OutboxOwnWrongFalsely : Prop := outboxOwnRow.holds Try.pinned (OpenSpec.ofChange outboxOwnWrong)

/-- 'fanlightlaw08.OutboxFull': WHATEVER THE INPUT: true; the input reads as it did. -/
def outboxFullSpec : ChangeSpec := { name := "outboxFull", fn := fun _ => fun
  | [d1, d2] => { results := [.lit (.bool true)], args := [d1, d2] }
  | _ => none }
def outboxFullRow : OpenClaim := { program := "ytpeghhkhohnkiaa", sum := "af441928f1fcfd1825f066710b04cda5006e07a870cb8fb80f9ad030b80cae8d", func := "fanlight/fanlightlaw08.OutboxFull", spec := "outboxFull", unfollowed := true, recurses := true, apart := false }
def OutboxFullSaid : Prop := outboxFullRow.holds Try.pinned (OpenSpec.ofChange outboxFullSpec)

/-- ITS FALSE NEIGHBOUR: 'it returns false'. Refute it at one input. -/
def outboxFullWrong : ChangeSpec := { name := "outboxFull", fn := fun _ => fun
  | [d1, d2] => { results := [.lit (.bool false)], args := [d1, d2] }
  | _ => none }
def OutboxFullWrongFalsely : Prop := outboxFullRow.holds Try.pinned (OpenSpec.ofChange outboxFullWrong)

/- THE SECOND FORM. 'bulk': how many values and letters a reading holds, each counted each time it is reached (what is shared counts as often as it is met; a slice's spare places count too). A statement '..UptoSaid' is the law's where the arguments, and the package variables that the reading takes, are together of bulk at most 1048576: NARROWER than '..Said'. Prove '..Said' where nothing that the law and all that it calls make is longer than what came in: it says more and counts as full. Else prove '..UptoSaid'. A law counts once. -/
mutual
def uptoBulk {H : Type} : DataW H → Nat
  | .lit (.string bytes) => bytes.length + 1
  | .lit _ => 1
  | .nil => 1
  | .ptr d => uptoBulk d + 1
  | .slice elems spare => uptoBulkAll elems + uptoBulkAll spare + 1
  | .agg parts => uptoBulkAll parts + 1
  | .iface _ d => uptoBulk d + 1
  | .map entries => uptoBulkEntries entries + 1
  | .held _ => 1
def uptoBulkAll {H : Type} : List (DataW H) → Nat
  | [] => 0
  | d :: r => uptoBulk d + uptoBulkAll r
def uptoBulkEntries {H : Type} : List (Lit × DataW H) → Nat
  | [] => 0
  | x :: r => uptoBulkEntry x + uptoBulkEntries r
def uptoBulkEntry {H : Type} : Lit × DataW H → Nat
  | (.string bytes, d) => bytes.length + uptoBulk d + 1
  | (_, d) => uptoBulk d + 1
 end
def uptoSmall : (H : Type) → List (DataW H) → Bool := fun _ ds => decide (uptoBulkAll ds ≤ 1048576)
def OpenSpec.upto (s : _root_.Go.ChangeSpec) : _root_.Go.OpenSpec := { _root_.Go.OpenSpec.ofChange s with cond := some uptoSmall }

/-- 'fanlightlaw08.OutboxTells', WHERE WHAT IT READS IS OF BULK AT MOST 1048576: true; the input reads as it did. -/
def outboxTellsUptoRow : OpenClaim := { program := "ytpeghhkhohnkiaa", sum := "af441928f1fcfd1825f066710b04cda5006e07a870cb8fb80f9ad030b80cae8d", func := "fanlight/fanlightlaw08.OutboxTells", spec := "outboxTells", unfollowed := true, recurses := true, loops := true, apart := false, narrowed := true }
def OutboxTellsUptoSaid : Prop := outboxTellsUptoRow.holds Try.pinned (OpenSpec.upto outboxTellsSpec)

/-- 'fanlightlaw08.OutboxOctets', WHERE WHAT IT READS IS OF BULK AT MOST 1048576: true; the input reads as it did. -/
def outboxOctetsUptoRow : OpenClaim := { program := "ytpeghhkhohnkiaa", sum := "af441928f1fcfd1825f066710b04cda5006e07a870cb8fb80f9ad030b80cae8d", func := "fanlight/fanlightlaw08.OutboxOctets", spec := "outboxOctets", unfollowed := true, recurses := true, loops := true, apart := false, narrowed := true }
def OutboxOctetsUptoSaid : Prop := outboxOctetsUptoRow.holds Try.pinned (OpenSpec.upto outboxOctetsSpec)

/-- 'fanlightlaw08.OutboxStays', WHERE WHAT IT READS IS OF BULK AT MOST 1048576: true; the input reads as it did. -/
def outboxStaysUptoRow : OpenClaim := { program := "ytpeghhkhohnkiaa", sum := "af441928f1fcfd1825f066710b04cda5006e07a870cb8fb80f9ad030b80cae8d", func := "fanlight/fanlightlaw08.OutboxStays", spec := "outboxStays", unfollowed := true, recurses := true, loops := true, apart := false, narrowed := true }
def OutboxStaysUptoSaid : Prop := outboxStaysUptoRow.holds Try.pinned (OpenSpec.upto outboxStaysSpec)

/-- 'fanlightlaw08.OutboxNumbers', WHERE WHAT IT READS IS OF BULK AT MOST 1048576: true; the input reads as it did. -/
def outboxNumbersUptoRow : OpenClaim := { program := "ytpeghhkhohnkiaa", sum := "af441928f1fcfd1825f066710b04cda5006e07a870cb8fb80f9ad030b80cae8d", func := "fanlight/fanlightlaw08.OutboxNumbers", spec := "outboxNumbers", unfollowed := true, recurses := true, loops := true, apart := false, narrowed := true }
def OutboxNumbersUptoSaid : Prop := outboxNumbersUptoRow.holds Try.pinned (OpenSpec.upto outboxNumbersSpec)

/-- 'fanlightlaw08.OutboxOwn', WHERE WHAT IT READS IS OF BULK AT MOST 1048576: true; the input reads as it did. -/
def outboxOwnUptoRow : OpenClaim := { program := "ytpeghhkhohnkiaa", sum := "af441928f1fcfd1825f066710b04cda5006e07a870cb8fb80f9ad030b80cae8d", func := "fanlight/fanlightlaw08.OutboxOwn", spec := "outboxOwn", unfollowed := true, recurses := true, loops := true, apart := false, narrowed := true }
def OutboxOwnUptoSaid : Prop := outboxOwnUptoRow.holds Try.pinned (OpenSpec.upto outboxOwnSpec)

/-- 'fanlightlaw08.OutboxFull', WHERE WHAT IT READS IS OF BULK AT MOST 1048576: true; the input reads as it did. -/
def outboxFullUptoRow : OpenClaim := { program := "ytpeghhkhohnkiaa", sum := "af441928f1fcfd1825f066710b04cda5006e07a870cb8fb80f9ad030b80cae8d", func := "fanlight/fanlightlaw08.OutboxFull", spec := "outboxFull", unfollowed := true, recurses := true, apart := false, narrowed := true }
def OutboxFullUptoSaid : Prop := outboxFullUptoRow.holds Try.pinned (OpenSpec.upto outboxFullSpec)

end Rows
end Go.Proofs.Ytpeghhkhohnkiaa

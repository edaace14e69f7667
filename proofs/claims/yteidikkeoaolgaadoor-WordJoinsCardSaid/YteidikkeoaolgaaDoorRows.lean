/-
  NARROWER THAN 'FOR EVERY INPUT', by the rows' own cells (each row's printed sentence says how): WordJoins: laid · LtlSizes: loops, laid · LtlNormal: loops, laid · LtlTexts: loops, laid · LtlBack: loops, laid · LtlPlain: loops, laid.
  DERIVED. THE GIVEN ROWS OF THIS SEAT. 6 by the template 'for every input the law returns true; each argument reads behind the call as it read before'; 0 by the template 'total and deterministic' (their statements: YteidikkeoaolgaaDoorTotals.lean).
  GIVEN WITH THE SEED: the statements are not yours to turn. If you find one false, say at which input.
  Laid BY PROGRAM, IN A SANDBOX (cutbox-rows.mjs): the forced cells as the released guide's own fill.sh prints them over the translation f4106f33e9ad5428… (all of the seat's roots in one cut). By AI agents, Wed Nov 11 2026. No macro, syntax, notation, axiom, sorry.
-/
import Derived.Test.YteidikkeoaolgaaDoorChecked
import GoSem.Claim
import GoSem.ClaimJoined
import GoSem.ClaimMapViews
import Derived.JoinedTies
import Derived.KernelRfl
namespace Go.Proofs.YteidikkeoaolgaaDoor
/- THE CELL 'sum', in the pinned program and in every row, IS THE sha256 OF THE DUMP (.gsa) THAT YteidikkeoaolgaaDoorProg.lean LOADS. Nothing in Lean hashes anything: it is a label: what it is worth is what the hold of that sum in a sandbox is worth. -/
noncomputable def Tryd.pinned : Pinned := { name := "yteidikkeoaolgaadoor", sum := "f4106f33e9ad5428d452ca619ff68cd5b3559d15763e33c418897c00e64d54f3", checked := Tryd.checked }
namespace Rows
def none {H : Type} : Left H := { results := [], args := [] }

/- WHAT THE LISTED PACKAGE-LEVEL VARIABLES READ AS WHEN THE CALL BEGINS. Each datum BY PROGRAM (the guide's laid-datum.mjs) off the statement by which the dump's own 'gosem.cut.vars' lays the variable. In a bare row this is a premise. The card (YteidikkeoaolgaaDoorCards.lean) ties it to the program's text. -/
def laid_math_bits_deBruijn32tab {H : Type} : DataW H := .agg [.lit (.int .u8 0), .lit (.int .u8 1), .lit (.int .u8 28), .lit (.int .u8 2), .lit (.int .u8 29), .lit (.int .u8 14), .lit (.int .u8 24), .lit (.int .u8 3), .lit (.int .u8 30), .lit (.int .u8 22), .lit (.int .u8 20), .lit (.int .u8 15), .lit (.int .u8 25), .lit (.int .u8 17), .lit (.int .u8 4), .lit (.int .u8 8), .lit (.int .u8 31), .lit (.int .u8 27), .lit (.int .u8 13), .lit (.int .u8 23), .lit (.int .u8 21), .lit (.int .u8 19), .lit (.int .u8 16), .lit (.int .u8 7), .lit (.int .u8 26), .lit (.int .u8 12), .lit (.int .u8 18), .lit (.int .u8 6), .lit (.int .u8 11), .lit (.int .u8 5), .lit (.int .u8 10), .lit (.int .u8 9)]
def laid_math_bits_deBruijn64tab {H : Type} : DataW H := .agg [.lit (.int .u8 0), .lit (.int .u8 1), .lit (.int .u8 56), .lit (.int .u8 2), .lit (.int .u8 57), .lit (.int .u8 49), .lit (.int .u8 28), .lit (.int .u8 3), .lit (.int .u8 61), .lit (.int .u8 58), .lit (.int .u8 42), .lit (.int .u8 50), .lit (.int .u8 38), .lit (.int .u8 29), .lit (.int .u8 17), .lit (.int .u8 4), .lit (.int .u8 62), .lit (.int .u8 47), .lit (.int .u8 59), .lit (.int .u8 36), .lit (.int .u8 45), .lit (.int .u8 43), .lit (.int .u8 51), .lit (.int .u8 22), .lit (.int .u8 53), .lit (.int .u8 39), .lit (.int .u8 33), .lit (.int .u8 30), .lit (.int .u8 24), .lit (.int .u8 18), .lit (.int .u8 12), .lit (.int .u8 5), .lit (.int .u8 63), .lit (.int .u8 55), .lit (.int .u8 48), .lit (.int .u8 27), .lit (.int .u8 60), .lit (.int .u8 41), .lit (.int .u8 37), .lit (.int .u8 16), .lit (.int .u8 46), .lit (.int .u8 35), .lit (.int .u8 44), .lit (.int .u8 21), .lit (.int .u8 52), .lit (.int .u8 32), .lit (.int .u8 23), .lit (.int .u8 11), .lit (.int .u8 54), .lit (.int .u8 26), .lit (.int .u8 40), .lit (.int .u8 15), .lit (.int .u8 34), .lit (.int .u8 20), .lit (.int .u8 31), .lit (.int .u8 10), .lit (.int .u8 25), .lit (.int .u8 14), .lit (.int .u8 19), .lit (.int .u8 9), .lit (.int .u8 13), .lit (.int .u8 8), .lit (.int .u8 7), .lit (.int .u8 6)]
def laid_internal_strconv_uint64pow10 {H : Type} : DataW H := .agg [.lit (.int .u64 1), .lit (.int .u64 10), .lit (.int .u64 100), .lit (.int .u64 1000), .lit (.int .u64 10000), .lit (.int .u64 100000), .lit (.int .u64 1000000), .lit (.int .u64 10000000), .lit (.int .u64 100000000), .lit (.int .u64 1000000000), .lit (.int .u64 10000000000), .lit (.int .u64 100000000000), .lit (.int .u64 1000000000000), .lit (.int .u64 10000000000000), .lit (.int .u64 100000000000000), .lit (.int .u64 1000000000000000), .lit (.int .u64 10000000000000000), .lit (.int .u64 100000000000000000), .lit (.int .u64 1000000000000000000), .lit (.int .u64 10000000000000000000)]
def laid_lodesman_ltl_operators {H : Type} : DataW H := .agg [.agg [.lit (.string [116, 114, 117, 101]), .lit (.int .i64 0), .lit (.int .i64 6), .lit (.bool false), .lit (.bool false), .lit (.int .i64 1)], .agg [.lit (.string [102, 97, 108, 115, 101]), .lit (.int .i64 0), .lit (.int .i64 6), .lit (.bool false), .lit (.bool false), .lit (.int .i64 0)], .agg [.lit (.string []), .lit (.int .i64 0), .lit (.int .i64 6), .lit (.bool false), .lit (.bool false), .lit (.int .i64 2)], .agg [.lit (.string [33]), .lit (.int .i64 1), .lit (.int .i64 6), .lit (.bool false), .lit (.bool false), .lit (.int .i64 3)], .agg [.lit (.string [38]), .lit (.int .i64 2), .lit (.int .i64 4), .lit (.bool false), .lit (.bool false), .lit (.int .i64 5)], .agg [.lit (.string [124]), .lit (.int .i64 2), .lit (.int .i64 3), .lit (.bool false), .lit (.bool false), .lit (.int .i64 4)], .agg [.lit (.string [45, 62]), .lit (.int .i64 2), .lit (.int .i64 2), .lit (.bool true), .lit (.bool false), .lit (.int .i64 6)], .agg [.lit (.string [60, 45, 62]), .lit (.int .i64 2), .lit (.int .i64 1), .lit (.bool false), .lit (.bool false), .lit (.int .i64 7)], .agg [.lit (.string [88]), .lit (.int .i64 1), .lit (.int .i64 6), .lit (.bool false), .lit (.bool true), .lit (.int .i64 8)], .agg [.lit (.string [70]), .lit (.int .i64 1), .lit (.int .i64 6), .lit (.bool false), .lit (.bool true), .lit (.int .i64 10)], .agg [.lit (.string [71]), .lit (.int .i64 1), .lit (.int .i64 6), .lit (.bool false), .lit (.bool true), .lit (.int .i64 9)], .agg [.lit (.string [85]), .lit (.int .i64 2), .lit (.int .i64 5), .lit (.bool true), .lit (.bool true), .lit (.int .i64 12)], .agg [.lit (.string [82]), .lit (.int .i64 2), .lit (.int .i64 5), .lit (.bool true), .lit (.bool true), .lit (.int .i64 11)], .agg [.lit (.string [87]), .lit (.int .i64 2), .lit (.int .i64 5), .lit (.bool true), .lit (.bool true), .lit (.int .i64 13)]]

/-- 'lodesmanlaw01.WordJoins': WHATEVER THE INPUT: true; the input reads as it did. -/
def wordJoinsSpec : ChangeSpec := { name := "wordJoins", fn := fun _ => fun
  | [d1, d2, d3, d4, d5] => { results := [.lit (.bool true)], args := [d1, d2, d3, d4, d5] }
  | _ => none }
def wordJoinsRow : OpenClaim := { program := "yteidikkeoaolgaadoor", sum := "f4106f33e9ad5428d452ca619ff68cd5b3559d15763e33c418897c00e64d54f3", func := "lodesman/lodesmanlaw01.WordJoins", spec := "wordJoins", inPlace := ["internal/abi.NoEscape"], unfollowed := true, recurses := true, named := ["internal/strconv.uint64pow10", "math/bits.deBruijn32tab", "math/bits.deBruijn64tab"], plainKeys := false, apart := false, laid := [("math/bits.deBruijn32tab", laid_math_bits_deBruijn32tab), ("math/bits.deBruijn64tab", laid_math_bits_deBruijn64tab), ("internal/strconv.uint64pow10", laid_internal_strconv_uint64pow10)] }
def WordJoinsSaid : Prop := wordJoinsRow.holds Tryd.pinned (OpenSpec.ofChange wordJoinsSpec)

/-- ITS FALSE NEIGHBOUR: 'it returns false'. Refute it at one input. -/
def wordJoinsWrong : ChangeSpec := { name := "wordJoins", fn := fun _ => fun
  | [d1, d2, d3, d4, d5] => { results := [.lit (.bool false)], args := [d1, d2, d3, d4, d5] }
  | _ => none }
def WordJoinsWrongFalsely : Prop := wordJoinsRow.holds Tryd.pinned (OpenSpec.ofChange wordJoinsWrong)

/-- 'lodesmanlaw02.LtlSizes': WHATEVER THE INPUT: true; the input reads as it did. -/
def ltlSizesSpec : ChangeSpec := { name := "ltlSizes", fn := fun _ => fun
  | [d1, d2, d3] => { results := [.lit (.bool true)], args := [d1, d2, d3] }
  | _ => none }
def ltlSizesRow : OpenClaim := { program := "yteidikkeoaolgaadoor", sum := "f4106f33e9ad5428d452ca619ff68cd5b3559d15763e33c418897c00e64d54f3", func := "lodesman/lodesmanlaw02.LtlSizes", spec := "ltlSizes", unfollowed := true, recurses := true, named := ["lodesman/ltl.operators"], loops := true, plainKeys := false, apart := false, laid := [("lodesman/ltl.operators", laid_lodesman_ltl_operators)] }
def LtlSizesSaid : Prop := ltlSizesRow.holds Tryd.pinned (OpenSpec.ofChange ltlSizesSpec)

/-- ITS FALSE NEIGHBOUR: 'it returns false'. Refute it at one input. -/
def ltlSizesWrong : ChangeSpec := { name := "ltlSizes", fn := fun _ => fun
  | [d1, d2, d3] => { results := [.lit (.bool false)], args := [d1, d2, d3] }
  | _ => none }
def LtlSizesWrongFalsely : Prop := ltlSizesRow.holds Tryd.pinned (OpenSpec.ofChange ltlSizesWrong)

/-- 'lodesmanlaw02.LtlNormal': WHATEVER THE INPUT: true; the input reads as it did. -/
def ltlNormalSpec : ChangeSpec := { name := "ltlNormal", fn := fun _ => fun
  | [d1, d2, d3] => { results := [.lit (.bool true)], args := [d1, d2, d3] }
  | _ => none }
def ltlNormalRow : OpenClaim := { program := "yteidikkeoaolgaadoor", sum := "f4106f33e9ad5428d452ca619ff68cd5b3559d15763e33c418897c00e64d54f3", func := "lodesman/lodesmanlaw02.LtlNormal", spec := "ltlNormal", unfollowed := true, recurses := true, named := ["lodesman/ltl.operators"], loops := true, plainKeys := false, apart := false, laid := [("lodesman/ltl.operators", laid_lodesman_ltl_operators)] }
def LtlNormalSaid : Prop := ltlNormalRow.holds Tryd.pinned (OpenSpec.ofChange ltlNormalSpec)

/-- ITS FALSE NEIGHBOUR: 'it returns false'. Refute it at one input. -/
def ltlNormalWrong : ChangeSpec := { name := "ltlNormal", fn := fun _ => fun
  | [d1, d2, d3] => { results := [.lit (.bool false)], args := [d1, d2, d3] }
  | _ => none }
def LtlNormalWrongFalsely : Prop := ltlNormalRow.holds Tryd.pinned (OpenSpec.ofChange ltlNormalWrong)

/-- 'lodesmanlaw02.LtlTexts': WHATEVER THE INPUT: true; the input reads as it did. -/
def ltlTextsSpec : ChangeSpec := { name := "ltlTexts", fn := fun _ => fun
  | [d1, d2, d3] => { results := [.lit (.bool true)], args := [d1, d2, d3] }
  | _ => none }
def ltlTextsRow : OpenClaim := { program := "yteidikkeoaolgaadoor", sum := "f4106f33e9ad5428d452ca619ff68cd5b3559d15763e33c418897c00e64d54f3", func := "lodesman/lodesmanlaw02.LtlTexts", spec := "ltlTexts", unfollowed := true, recurses := true, named := ["lodesman/ltl.operators"], loops := true, plainKeys := false, apart := false, laid := [("lodesman/ltl.operators", laid_lodesman_ltl_operators)] }
def LtlTextsSaid : Prop := ltlTextsRow.holds Tryd.pinned (OpenSpec.ofChange ltlTextsSpec)

/-- ITS FALSE NEIGHBOUR: 'it returns false'. Refute it at one input. -/
def ltlTextsWrong : ChangeSpec := { name := "ltlTexts", fn := fun _ => fun
  | [d1, d2, d3] => { results := [.lit (.bool false)], args := [d1, d2, d3] }
  | _ => none }
def LtlTextsWrongFalsely : Prop := ltlTextsRow.holds Tryd.pinned (OpenSpec.ofChange ltlTextsWrong)

/-- 'lodesmanlaw02.LtlBack': WHATEVER THE INPUT: true; the input reads as it did. -/
def ltlBackSpec : ChangeSpec := { name := "ltlBack", fn := fun _ => fun
  | [d1, d2] => { results := [.lit (.bool true)], args := [d1, d2] }
  | _ => none }
def ltlBackRow : OpenClaim := { program := "yteidikkeoaolgaadoor", sum := "f4106f33e9ad5428d452ca619ff68cd5b3559d15763e33c418897c00e64d54f3", func := "lodesman/lodesmanlaw02.LtlBack", spec := "ltlBack", unfollowed := true, recurses := true, named := ["lodesman/ltl.operators"], loops := true, plainKeys := false, apart := false, laid := [("lodesman/ltl.operators", laid_lodesman_ltl_operators)] }
def LtlBackSaid : Prop := ltlBackRow.holds Tryd.pinned (OpenSpec.ofChange ltlBackSpec)

/-- ITS FALSE NEIGHBOUR: 'it returns false'. Refute it at one input. -/
def ltlBackWrong : ChangeSpec := { name := "ltlBack", fn := fun _ => fun
  | [d1, d2] => { results := [.lit (.bool false)], args := [d1, d2] }
  | _ => none }
def LtlBackWrongFalsely : Prop := ltlBackRow.holds Tryd.pinned (OpenSpec.ofChange ltlBackWrong)

/-- 'lodesmanlaw02.LtlPlain': WHATEVER THE INPUT: true; the input reads as it did. -/
def ltlPlainSpec : ChangeSpec := { name := "ltlPlain", fn := fun _ => fun
  | [d] => { results := [.lit (.bool true)], args := [d] }
  | _ => none }
def ltlPlainRow : OpenClaim := { program := "yteidikkeoaolgaadoor", sum := "f4106f33e9ad5428d452ca619ff68cd5b3559d15763e33c418897c00e64d54f3", func := "lodesman/lodesmanlaw02.LtlPlain", spec := "ltlPlain", unfollowed := true, recurses := true, named := ["lodesman/ltl.operators"], loops := true, plainKeys := false, apart := false, laid := [("lodesman/ltl.operators", laid_lodesman_ltl_operators)] }
def LtlPlainSaid : Prop := ltlPlainRow.holds Tryd.pinned (OpenSpec.ofChange ltlPlainSpec)

/-- ITS FALSE NEIGHBOUR: 'it returns false'. Refute it at one input. -/
def ltlPlainWrong : ChangeSpec := { name := "ltlPlain", fn := fun _ => fun
  | [d] => { results := [.lit (.bool false)], args := [d] }
  | _ => none }
def LtlPlainWrongFalsely : Prop := ltlPlainRow.holds Tryd.pinned (OpenSpec.ofChange ltlPlainWrong)

/- THE SECOND FORM. 'bulk': how many values and letters a reading holds, each counted each time it is reached (what is shared counts as often as it is met; a slice's spare places count too). A statement '..UptoSaid' is the law's where the arguments, and the package variables that the reading takes, are together of bulk at most 1048576: NARROWER than '..Said'. Prove '..Said' where nothing that the law and all that it calls make is longer than what came in: it says more and counts as full. Else prove '..UptoSaid'. A law counts once. -/
mutual
def uptoBulk {H : Type} : DataW H → Nat
  | .lit (.string bytes) => bytes.length + 1
  | .lit _ => 1
  | .nil => 1
  | .ptr d => uptoBulk d + 1
  | .slice elems spare => uptoBulkAll elems + uptoBulkAll spare + 1
  | .agg parts => uptoBulkAll parts + 1
  | .iface _ d => uptoBulk d + 1
  | .map entries => uptoBulkEntries entries + 1
  | .held _ => 1
def uptoBulkAll {H : Type} : List (DataW H) → Nat
  | [] => 0
  | d :: r => uptoBulk d + uptoBulkAll r
def uptoBulkEntries {H : Type} : List (Lit × DataW H) → Nat
  | [] => 0
  | x :: r => uptoBulkEntry x + uptoBulkEntries r
def uptoBulkEntry {H : Type} : Lit × DataW H → Nat
  | (.string bytes, d) => bytes.length + uptoBulk d + 1
  | (_, d) => uptoBulk d + 1
 end
def uptoSmall : (H : Type) → List (DataW H) → Bool := fun _ ds => decide (uptoBulkAll ds ≤ 1048576)
def OpenSpec.upto (s : _root_.Go.ChangeSpec) : _root_.Go.OpenSpec := { _root_.Go.OpenSpec.ofChange s with cond := some uptoSmall }

/-- 'lodesmanlaw01.WordJoins', WHERE WHAT IT READS IS OF BULK AT MOST 1048576: true; the input reads as it did. -/
def wordJoinsUptoRow : OpenClaim := { program := "yteidikkeoaolgaadoor", sum := "f4106f33e9ad5428d452ca619ff68cd5b3559d15763e33c418897c00e64d54f3", func := "lodesman/lodesmanlaw01.WordJoins", spec := "wordJoins", inPlace := ["internal/abi.NoEscape"], unfollowed := true, recurses := true, named := ["internal/strconv.uint64pow10", "math/bits.deBruijn32tab", "math/bits.deBruijn64tab"], plainKeys := false, apart := false, laid := [("math/bits.deBruijn32tab", laid_math_bits_deBruijn32tab), ("math/bits.deBruijn64tab", laid_math_bits_deBruijn64tab), ("internal/strconv.uint64pow10", laid_internal_strconv_uint64pow10)], narrowed := true }
def WordJoinsUptoSaid : Prop := wordJoinsUptoRow.holds Tryd.pinned (OpenSpec.upto wordJoinsSpec)

/-- 'lodesmanlaw02.LtlSizes', WHERE WHAT IT READS IS OF BULK AT MOST 1048576: true; the input reads as it did. -/
def ltlSizesUptoRow : OpenClaim := { program := "yteidikkeoaolgaadoor", sum := "f4106f33e9ad5428d452ca619ff68cd5b3559d15763e33c418897c00e64d54f3", func := "lodesman/lodesmanlaw02.LtlSizes", spec := "ltlSizes", unfollowed := true, recurses := true, named := ["lodesman/ltl.operators"], loops := true, plainKeys := false, apart := false, laid := [("lodesman/ltl.operators", laid_lodesman_ltl_operators)], narrowed := true }
def LtlSizesUptoSaid : Prop := ltlSizesUptoRow.holds Tryd.pinned (OpenSpec.upto ltlSizesSpec)

/-- 'lodesmanlaw02.LtlNormal', WHERE WHAT IT READS IS OF BULK AT MOST 1048576: true; the input reads as it did. -/
def ltlNormalUptoRow : OpenClaim := { program := "yteidikkeoaolgaadoor", sum := "f4106f33e9ad5428d452ca619ff68cd5b3559d15763e33c418897c00e64d54f3", func := "lodesman/lodesmanlaw02.LtlNormal", spec := "ltlNormal", unfollowed := true, recurses := true, named := ["lodesman/ltl.operators"], loops := true, plainKeys := false, apart := false, laid := [("lodesman/ltl.operators", laid_lodesman_ltl_operators)], narrowed := true }
def LtlNormalUptoSaid : Prop := ltlNormalUptoRow.holds Tryd.pinned (OpenSpec.upto ltlNormalSpec)

/-- 'lodesmanlaw02.LtlTexts', WHERE WHAT IT READS IS OF BULK AT MOST 1048576: true; the input reads as it did. -/
def ltlTextsUptoRow : OpenClaim := { program := "yteidikkeoaolgaadoor", sum := "f4106f33e9ad5428d452ca619ff68cd5b3559d15763e33c418897c00e64d54f3", func := "lodesman/lodesmanlaw02.LtlTexts", spec := "ltlTexts", unfollowed := true, recurses := true, named := ["lodesman/ltl.operators"], loops := true, plainKeys := false, apart := false, laid := [("lodesman/ltl.operators", laid_lodesman_ltl_operators)], narrowed := true }
def LtlTextsUptoSaid : Prop := ltlTextsUptoRow.holds Tryd.pinned (OpenSpec.upto ltlTextsSpec)

/-- 'lodesmanlaw02.LtlBack', WHERE WHAT IT READS IS OF BULK AT MOST 1048576: true; the input reads as it did. -/
def ltlBackUptoRow : OpenClaim := { program := "yteidikkeoaolgaadoor", sum := "f4106f33e9ad5428d452ca619ff68cd5b3559d15763e33c418897c00e64d54f3", func := "lodesman/lodesmanlaw02.LtlBack", spec := "ltlBack", unfollowed := true, recurses := true, named := ["lodesman/ltl.operators"], loops := true, plainKeys := false, apart := false, laid := [("lodesman/ltl.operators", laid_lodesman_ltl_operators)], narrowed := true }
def LtlBackUptoSaid : Prop := ltlBackUptoRow.holds Tryd.pinned (OpenSpec.upto ltlBackSpec)

/-- 'lodesmanlaw02.LtlPlain', WHERE WHAT IT READS IS OF BULK AT MOST 1048576: true; the input reads as it did. -/
def ltlPlainUptoRow : OpenClaim := { program := "yteidikkeoaolgaadoor", sum := "f4106f33e9ad5428d452ca619ff68cd5b3559d15763e33c418897c00e64d54f3", func := "lodesman/lodesmanlaw02.LtlPlain", spec := "ltlPlain", unfollowed := true, recurses := true, named := ["lodesman/ltl.operators"], loops := true, plainKeys := false, apart := false, laid := [("lodesman/ltl.operators", laid_lodesman_ltl_operators)], narrowed := true }
def LtlPlainUptoSaid : Prop := ltlPlainUptoRow.holds Tryd.pinned (OpenSpec.upto ltlPlainSpec)

end Rows
end Go.Proofs.YteidikkeoaolgaaDoor

/-
  NARROWER THAN 'FOR EVERY INPUT', by the rows' own cells (each row's printed sentence says how): FnExactNameOk: laid · FnExactTokText: laid · FnExactUnlex: laid · FnExactLex: laid · FnLex: laid.
  DERIVED. THE GIVEN ROWS OF THIS SEAT. 5 by the template 'for every input the law returns true; each argument reads behind the call as it read before'; 0 by the template 'total and deterministic' (their statements: YtjndgjheehjohaaDoorTotals.lean).
  GIVEN WITH THE SEED: the statements are not yours to turn. If you find one false, say at which input.
  Laid BY PROGRAM, IN A SANDBOX (cutbox-rows.mjs): the forced cells as the released guide's own fill.sh prints them over the translation 8b21ca79e084745e… (all of the seat's roots in one cut). By AI agents, Wed Nov 11 2026. No macro, syntax, notation, axiom, sorry.
-/
import Derived.Test.YtjndgjheehjohaaDoorChecked
import GoSem.Claim
import GoSem.ClaimJoined
import GoSem.ClaimMapViews
import Derived.JoinedTies
import Derived.KernelRfl
namespace Go.Proofs.YtjndgjheehjohaaDoor
/- THE CELL 'sum', in the pinned program and in every row, IS THE sha256 OF THE DUMP (.gsa) THAT YtjndgjheehjohaaDoorProg.lean LOADS. Nothing in Lean hashes anything: it is a label: what it is worth is what the hold of that sum in a sandbox is worth. -/
noncomputable def Tryd.pinned : Pinned := { name := "ytjndgjheehjohaadoor", sum := "8b21ca79e084745e87a6f42a562a5f2bbd9eef578a1e8ac802328274f47cf39a", checked := Tryd.checked }
namespace Rows
def none {H : Type} : Left H := { results := [], args := [] }

/- WHAT THE LISTED PACKAGE-LEVEL VARIABLES READ AS WHEN THE CALL BEGINS. Each datum BY PROGRAM (the guide's laid-datum.mjs) off the statement by which the dump's own 'gosem.cut.vars' lays the variable. In a bare row this is a premise. The card (YtjndgjheehjohaaDoorCards.lean) ties it to the program's text. -/
def laid_loop_example_g00472_impl_signWords {H : Type} : DataW H := .agg [.lit (.string [105, 110, 116]), .lit (.string [118, 97, 114]), .lit (.string [102, 117, 110, 99]), .lit (.string [105, 102]), .lit (.string [101, 108, 115, 101]), .lit (.string [119, 104, 105, 108, 101]), .lit (.string [114, 101, 116, 117, 114, 110])]
def laid_math_bits_deBruijn32tab {H : Type} : DataW H := .agg [.lit (.int .u8 0), .lit (.int .u8 1), .lit (.int .u8 28), .lit (.int .u8 2), .lit (.int .u8 29), .lit (.int .u8 14), .lit (.int .u8 24), .lit (.int .u8 3), .lit (.int .u8 30), .lit (.int .u8 22), .lit (.int .u8 20), .lit (.int .u8 15), .lit (.int .u8 25), .lit (.int .u8 17), .lit (.int .u8 4), .lit (.int .u8 8), .lit (.int .u8 31), .lit (.int .u8 27), .lit (.int .u8 13), .lit (.int .u8 23), .lit (.int .u8 21), .lit (.int .u8 19), .lit (.int .u8 16), .lit (.int .u8 7), .lit (.int .u8 26), .lit (.int .u8 12), .lit (.int .u8 18), .lit (.int .u8 6), .lit (.int .u8 11), .lit (.int .u8 5), .lit (.int .u8 10), .lit (.int .u8 9)]
def laid_math_bits_deBruijn64tab {H : Type} : DataW H := .agg [.lit (.int .u8 0), .lit (.int .u8 1), .lit (.int .u8 56), .lit (.int .u8 2), .lit (.int .u8 57), .lit (.int .u8 49), .lit (.int .u8 28), .lit (.int .u8 3), .lit (.int .u8 61), .lit (.int .u8 58), .lit (.int .u8 42), .lit (.int .u8 50), .lit (.int .u8 38), .lit (.int .u8 29), .lit (.int .u8 17), .lit (.int .u8 4), .lit (.int .u8 62), .lit (.int .u8 47), .lit (.int .u8 59), .lit (.int .u8 36), .lit (.int .u8 45), .lit (.int .u8 43), .lit (.int .u8 51), .lit (.int .u8 22), .lit (.int .u8 53), .lit (.int .u8 39), .lit (.int .u8 33), .lit (.int .u8 30), .lit (.int .u8 24), .lit (.int .u8 18), .lit (.int .u8 12), .lit (.int .u8 5), .lit (.int .u8 63), .lit (.int .u8 55), .lit (.int .u8 48), .lit (.int .u8 27), .lit (.int .u8 60), .lit (.int .u8 41), .lit (.int .u8 37), .lit (.int .u8 16), .lit (.int .u8 46), .lit (.int .u8 35), .lit (.int .u8 44), .lit (.int .u8 21), .lit (.int .u8 52), .lit (.int .u8 32), .lit (.int .u8 23), .lit (.int .u8 11), .lit (.int .u8 54), .lit (.int .u8 26), .lit (.int .u8 40), .lit (.int .u8 15), .lit (.int .u8 34), .lit (.int .u8 20), .lit (.int .u8 31), .lit (.int .u8 10), .lit (.int .u8 25), .lit (.int .u8 14), .lit (.int .u8 19), .lit (.int .u8 9), .lit (.int .u8 13), .lit (.int .u8 8), .lit (.int .u8 7), .lit (.int .u8 6)]
def laid_internal_strconv_uint64pow10 {H : Type} : DataW H := .agg [.lit (.int .u64 1), .lit (.int .u64 10), .lit (.int .u64 100), .lit (.int .u64 1000), .lit (.int .u64 10000), .lit (.int .u64 100000), .lit (.int .u64 1000000), .lit (.int .u64 10000000), .lit (.int .u64 100000000), .lit (.int .u64 1000000000), .lit (.int .u64 10000000000), .lit (.int .u64 100000000000), .lit (.int .u64 1000000000000), .lit (.int .u64 10000000000000), .lit (.int .u64 100000000000000), .lit (.int .u64 1000000000000000), .lit (.int .u64 10000000000000000), .lit (.int .u64 100000000000000000), .lit (.int .u64 1000000000000000000), .lit (.int .u64 10000000000000000000)]
def laid_loop_example_g00472_impl_signs {H : Type} : DataW H := .agg [.lit (.string [124, 124]), .lit (.string [38, 38]), .lit (.string [61, 61]), .lit (.string [33, 61]), .lit (.string [60, 61]), .lit (.string [62, 61]), .lit (.string [60, 60]), .lit (.string [62, 62]), .lit (.string [40]), .lit (.string [41]), .lit (.string [123]), .lit (.string [125]), .lit (.string [91]), .lit (.string [93]), .lit (.string [44]), .lit (.string [59]), .lit (.string [61]), .lit (.string [60]), .lit (.string [62]), .lit (.string [43]), .lit (.string [45]), .lit (.string [42]), .lit (.string [47]), .lit (.string [37]), .lit (.string [38]), .lit (.string [124]), .lit (.string [94]), .lit (.string [33]), .lit (.string [126])]

/-- 'laws.FnExactNameOk': WHATEVER THE INPUT: true; the input reads as it did. -/
def fnExactNameOkSpec : ChangeSpec := { name := "fnExactNameOk", vars := ["loop.example/g00472/impl.signWords"], fn := fun _ => fun
  | [d, g1] => { results := [.lit (.bool true)], args := [d], vars := [g1] }
  | _ => none }
def fnExactNameOkRow : OpenClaim := { program := "ytjndgjheehjohaadoor", sum := "8b21ca79e084745e87a6f42a562a5f2bbd9eef578a1e8ac802328274f47cf39a", func := "loop.example/g00472/laws.FnExactNameOk", spec := "fnExactNameOk", unfollowed := true, recurses := true, named := ["loop.example/g00472/impl.signWords"], apart := false, laid := [("loop.example/g00472/impl.signWords", laid_loop_example_g00472_impl_signWords)] }
def FnExactNameOkSaid : Prop := fnExactNameOkRow.holds Tryd.pinned (OpenSpec.ofChange fnExactNameOkSpec)

/-- ITS FALSE NEIGHBOUR: 'it returns false'. Refute it at one input. -/
def fnExactNameOkWrong : ChangeSpec := { name := "fnExactNameOk", vars := ["loop.example/g00472/impl.signWords"], fn := fun _ => fun
  | [d, g1] => { results := [.lit (.bool false)], args := [d], vars := [g1] }
  | _ => none }
def FnExactNameOkWrongFalsely : Prop := fnExactNameOkRow.holds Tryd.pinned (OpenSpec.ofChange fnExactNameOkWrong)

/-- 'laws.FnExactTokText': WHATEVER THE INPUT: true; the input reads as it did. -/
def fnExactTokTextSpec : ChangeSpec := { name := "fnExactTokText", vars := ["loop.example/g00472/impl.signWords", "loop.example/g00472/impl.signs"], fn := fun _ => fun
  | [d, g1, g2] => { results := [.lit (.bool true)], args := [d], vars := [g1, g2] }
  | _ => none }
def fnExactTokTextRow : OpenClaim := { program := "ytjndgjheehjohaadoor", sum := "8b21ca79e084745e87a6f42a562a5f2bbd9eef578a1e8ac802328274f47cf39a", func := "loop.example/g00472/laws.FnExactTokText", spec := "fnExactTokText", unfollowed := true, recurses := true, named := ["internal/strconv.uint64pow10", "math/bits.deBruijn32tab", "math/bits.deBruijn64tab", "loop.example/g00472/impl.signWords", "loop.example/g00472/impl.signs"], apart := false, laid := [("math/bits.deBruijn32tab", laid_math_bits_deBruijn32tab), ("math/bits.deBruijn64tab", laid_math_bits_deBruijn64tab), ("internal/strconv.uint64pow10", laid_internal_strconv_uint64pow10), ("loop.example/g00472/impl.signWords", laid_loop_example_g00472_impl_signWords), ("loop.example/g00472/impl.signs", laid_loop_example_g00472_impl_signs)] }
def FnExactTokTextSaid : Prop := fnExactTokTextRow.holds Tryd.pinned (OpenSpec.ofChange fnExactTokTextSpec)

/-- ITS FALSE NEIGHBOUR: 'it returns false'. Refute it at one input. -/
def fnExactTokTextWrong : ChangeSpec := { name := "fnExactTokText", vars := ["loop.example/g00472/impl.signWords", "loop.example/g00472/impl.signs"], fn := fun _ => fun
  | [d, g1, g2] => { results := [.lit (.bool false)], args := [d], vars := [g1, g2] }
  | _ => none }
def FnExactTokTextWrongFalsely : Prop := fnExactTokTextRow.holds Tryd.pinned (OpenSpec.ofChange fnExactTokTextWrong)

/-- 'laws.FnExactUnlex': WHATEVER THE INPUT: true; the input reads as it did. -/
def fnExactUnlexSpec : ChangeSpec := { name := "fnExactUnlex", vars := ["loop.example/g00472/impl.signWords", "loop.example/g00472/impl.signs"], fn := fun _ => fun
  | [d, g1, g2] => { results := [.lit (.bool true)], args := [d], vars := [g1, g2] }
  | _ => none }
def fnExactUnlexRow : OpenClaim := { program := "ytjndgjheehjohaadoor", sum := "8b21ca79e084745e87a6f42a562a5f2bbd9eef578a1e8ac802328274f47cf39a", func := "loop.example/g00472/laws.FnExactUnlex", spec := "fnExactUnlex", inPlace := ["internal/abi.NoEscape", "internal/bytealg.MakeNoZero"], unfollowed := true, recurses := true, named := ["internal/strconv.uint64pow10", "math/bits.deBruijn32tab", "math/bits.deBruijn64tab", "loop.example/g00472/impl.signWords", "loop.example/g00472/impl.signs"], apart := false, laid := [("math/bits.deBruijn32tab", laid_math_bits_deBruijn32tab), ("math/bits.deBruijn64tab", laid_math_bits_deBruijn64tab), ("internal/strconv.uint64pow10", laid_internal_strconv_uint64pow10), ("loop.example/g00472/impl.signWords", laid_loop_example_g00472_impl_signWords), ("loop.example/g00472/impl.signs", laid_loop_example_g00472_impl_signs)] }
def FnExactUnlexSaid : Prop := fnExactUnlexRow.holds Tryd.pinned (OpenSpec.ofChange fnExactUnlexSpec)

/-- ITS FALSE NEIGHBOUR: 'it returns false'. Refute it at one input. -/
def fnExactUnlexWrong : ChangeSpec := { name := "fnExactUnlex", vars := ["loop.example/g00472/impl.signWords", "loop.example/g00472/impl.signs"], fn := fun _ => fun
  | [d, g1, g2] => { results := [.lit (.bool false)], args := [d], vars := [g1, g2] }
  | _ => none }
def FnExactUnlexWrongFalsely : Prop := fnExactUnlexRow.holds Tryd.pinned (OpenSpec.ofChange fnExactUnlexWrong)

/-- 'laws.FnExactLex': WHATEVER THE INPUT: true; the input reads as it did. -/
def fnExactLexSpec : ChangeSpec := { name := "fnExactLex", vars := ["loop.example/g00472/impl.signWords", "loop.example/g00472/impl.signs"], fn := fun _ => fun
  | [d, g1, g2] => { results := [.lit (.bool true)], args := [d], vars := [g1, g2] }
  | _ => none }
def fnExactLexRow : OpenClaim := { program := "ytjndgjheehjohaadoor", sum := "8b21ca79e084745e87a6f42a562a5f2bbd9eef578a1e8ac802328274f47cf39a", func := "loop.example/g00472/laws.FnExactLex", spec := "fnExactLex", inPlace := ["internal/bytealg.IndexByteString", "internal/bytealg.IndexString"], unfollowed := true, recurses := true, named := ["internal/bytealg.MaxLen", "loop.example/g00472/impl.signWords", "loop.example/g00472/impl.signs"], apart := false, laid := [("loop.example/g00472/impl.signWords", laid_loop_example_g00472_impl_signWords), ("loop.example/g00472/impl.signs", laid_loop_example_g00472_impl_signs)] }
def FnExactLexSaid : Prop := fnExactLexRow.holds Tryd.pinned (OpenSpec.ofChange fnExactLexSpec)

/-- ITS FALSE NEIGHBOUR: 'it returns false'. Refute it at one input. -/
def fnExactLexWrong : ChangeSpec := { name := "fnExactLex", vars := ["loop.example/g00472/impl.signWords", "loop.example/g00472/impl.signs"], fn := fun _ => fun
  | [d, g1, g2] => { results := [.lit (.bool false)], args := [d], vars := [g1, g2] }
  | _ => none }
def FnExactLexWrongFalsely : Prop := fnExactLexRow.holds Tryd.pinned (OpenSpec.ofChange fnExactLexWrong)

/-- 'laws.FnLex': WHATEVER THE INPUT: true; the input reads as it did. -/
def fnLexSpec : ChangeSpec := { name := "fnLex", vars := ["loop.example/g00472/impl.signWords", "loop.example/g00472/impl.signs"], fn := fun _ => fun
  | [d, g1, g2] => { results := [.lit (.bool true)], args := [d], vars := [g1, g2] }
  | _ => none }
def fnLexRow : OpenClaim := { program := "ytjndgjheehjohaadoor", sum := "8b21ca79e084745e87a6f42a562a5f2bbd9eef578a1e8ac802328274f47cf39a", func := "loop.example/g00472/laws.FnLex", spec := "fnLex", inPlace := ["internal/bytealg.IndexByteString", "internal/bytealg.IndexString", "internal/abi.NoEscape", "internal/bytealg.MakeNoZero"], unfollowed := true, recurses := true, named := ["internal/bytealg.MaxLen", "loop.example/g00472/impl.signWords", "loop.example/g00472/impl.signs", "internal/strconv.uint64pow10", "math/bits.deBruijn32tab", "math/bits.deBruijn64tab"], apart := false, laid := [("math/bits.deBruijn32tab", laid_math_bits_deBruijn32tab), ("math/bits.deBruijn64tab", laid_math_bits_deBruijn64tab), ("internal/strconv.uint64pow10", laid_internal_strconv_uint64pow10), ("loop.example/g00472/impl.signWords", laid_loop_example_g00472_impl_signWords), ("loop.example/g00472/impl.signs", laid_loop_example_g00472_impl_signs)] }
def FnLexSaid : Prop := fnLexRow.holds Tryd.pinned (OpenSpec.ofChange fnLexSpec)

/-- ITS FALSE NEIGHBOUR: 'it returns false'. Refute it at one input. -/
def fnLexWrong : ChangeSpec := { name := "fnLex", vars := ["loop.example/g00472/impl.signWords", "loop.example/g00472/impl.signs"], fn := fun _ => fun
  | [d, g1, g2] => { results := [.lit (.bool false)], args := [d], vars := [g1, g2] }
  | _ => none }
def FnLexWrongFalsely : Prop := fnLexRow.holds Tryd.pinned (OpenSpec.ofChange fnLexWrong)

/- THE SECOND FORM. 'bulk': how many values and letters a reading holds, each counted each time it is reached (what is shared counts as often as it is met; a slice's spare places count too). A statement '..UptoSaid' is the law's where the arguments, and the package variables that the reading takes, are together of bulk at most 1048576: NARROWER than '..Said'. Prove '..Said' where nothing that the law and all that it calls make is longer than what came in: it says more and counts as full. Else prove '..UptoSaid'. A law counts once. -/
mutual
def uptoBulk {H : Type} : DataW H → Nat
  | .lit (.string bytes) => bytes.length + 1
  | .lit _ => 1
  | .nil => 1
  | .ptr d => uptoBulk d + 1
  | .slice elems spare => uptoBulkAll elems + uptoBulkAll spare + 1
  | .agg parts => uptoBulkAll parts + 1
  | .iface _ d => uptoBulk d + 1
  | .map entries => uptoBulkEntries entries + 1
  | .held _ => 1
def uptoBulkAll {H : Type} : List (DataW H) → Nat
  | [] => 0
  | d :: r => uptoBulk d + uptoBulkAll r
def uptoBulkEntries {H : Type} : List (Lit × DataW H) → Nat
  | [] => 0
  | x :: r => uptoBulkEntry x + uptoBulkEntries r
def uptoBulkEntry {H : Type} : Lit × DataW H → Nat
  | (.string bytes, d) => bytes.length + uptoBulk d + 1
  | (_, d) => uptoBulk d + 1
 end
def uptoSmall : (H : Type) → List (DataW H) → Bool := fun _ ds => decide (uptoBulkAll ds ≤ 1048576)
def OpenSpec.upto (s : _root_.Go.ChangeSpec) : _root_.Go.OpenSpec := { _root_.Go.OpenSpec.ofChange s with cond := some uptoSmall }

/-- 'laws.FnExactNameOk', WHERE WHAT IT READS IS OF BULK AT MOST 1048576: true; the input reads as it did. -/
def fnExactNameOkUptoRow : OpenClaim := { program := "ytjndgjheehjohaadoor", sum := "8b21ca79e084745e87a6f42a562a5f2bbd9eef578a1e8ac802328274f47cf39a", func := "loop.example/g00472/laws.FnExactNameOk", spec := "fnExactNameOk", unfollowed := true, recurses := true, named := ["loop.example/g00472/impl.signWords"], apart := false, laid := [("loop.example/g00472/impl.signWords", laid_loop_example_g00472_impl_signWords)], narrowed := true }
def FnExactNameOkUptoSaid : Prop := fnExactNameOkUptoRow.holds Tryd.pinned (OpenSpec.upto fnExactNameOkSpec)

/-- 'laws.FnExactTokText', WHERE WHAT IT READS IS OF BULK AT MOST 1048576: true; the input reads as it did. -/
def fnExactTokTextUptoRow : OpenClaim := { program := "ytjndgjheehjohaadoor", sum := "8b21ca79e084745e87a6f42a562a5f2bbd9eef578a1e8ac802328274f47cf39a", func := "loop.example/g00472/laws.FnExactTokText", spec := "fnExactTokText", unfollowed := true, recurses := true, named := ["internal/strconv.uint64pow10", "math/bits.deBruijn32tab", "math/bits.deBruijn64tab", "loop.example/g00472/impl.signWords", "loop.example/g00472/impl.signs"], apart := false, laid := [("math/bits.deBruijn32tab", laid_math_bits_deBruijn32tab), ("math/bits.deBruijn64tab", laid_math_bits_deBruijn64tab), ("internal/strconv.uint64pow10", laid_internal_strconv_uint64pow10), ("loop.example/g00472/impl.signWords", laid_loop_example_g00472_impl_signWords), ("loop.example/g00472/impl.signs", laid_loop_example_g00472_impl_signs)], narrowed := true }
def FnExactTokTextUptoSaid : Prop := fnExactTokTextUptoRow.holds Tryd.pinned (OpenSpec.upto fnExactTokTextSpec)

/-- 'laws.FnExactUnlex', WHERE WHAT IT READS IS OF BULK AT MOST 1048576: true; the input reads as it did. -/
def fnExactUnlexUptoRow : OpenClaim := { program := "ytjndgjheehjohaadoor", sum := "8b21ca79e084745e87a6f42a562a5f2bbd9eef578a1e8ac802328274f47cf39a", func := "loop.example/g00472/laws.FnExactUnlex", spec := "fnExactUnlex", inPlace := ["internal/abi.NoEscape", "internal/bytealg.MakeNoZero"], unfollowed := true, recurses := true, named := ["internal/strconv.uint64pow10", "math/bits.deBruijn32tab", "math/bits.deBruijn64tab", "loop.example/g00472/impl.signWords", "loop.example/g00472/impl.signs"], apart := false, laid := [("math/bits.deBruijn32tab", laid_math_bits_deBruijn32tab), ("math/bits.deBruijn64tab", laid_math_bits_deBruijn64tab), ("internal/strconv.uint64pow10", laid_internal_strconv_uint64pow10), ("loop.example/g00472/impl.signWords", laid_loop_example_g00472_impl_signWords), ("loop.example/g00472/impl.signs", laid_loop_example_g00472_impl_signs)], narrowed := true }
def FnExactUnlexUptoSaid : Prop := fnExactUnlexUptoRow.holds Tryd.pinned (OpenSpec.upto fnExactUnlexSpec)

/-- 'laws.FnExactLex', WHERE WHAT IT READS IS OF BULK AT MOST 1048576: true; the input reads as it did. -/
def fnExactLexUptoRow : OpenClaim := { program := "ytjndgjheehjohaadoor", sum := "8b21ca79e084745e87a6f42a562a5f2bbd9eef578a1e8ac802328274f47cf39a", func := "loop.example/g00472/laws.FnExactLex", spec := "fnExactLex", inPlace := ["internal/bytealg.IndexByteString", "internal/bytealg.IndexString"], unfollowed := true, recurses := true, named := ["internal/bytealg.MaxLen", "loop.example/g00472/impl.signWords", "loop.example/g00472/impl.signs"], apart := false, laid := [("loop.example/g00472/impl.signWords", laid_loop_example_g00472_impl_signWords), ("loop.example/g00472/impl.signs", laid_loop_example_g00472_impl_signs)], narrowed := true }
def FnExactLexUptoSaid : Prop := fnExactLexUptoRow.holds Tryd.pinned (OpenSpec.upto fnExactLexSpec)

/-- 'laws.FnLex', WHERE WHAT IT READS IS OF BULK AT MOST 1048576: true; the input reads as it did. -/
def fnLexUptoRow : OpenClaim := { program := "ytjndgjheehjohaadoor", sum := "8b21ca79e084745e87a6f42a562a5f2bbd9eef578a1e8ac802328274f47cf39a", func := "loop.example/g00472/laws.FnLex", spec := "fnLex", inPlace := ["internal/bytealg.IndexByteString", "internal/bytealg.IndexString", "internal/abi.NoEscape", "internal/bytealg.MakeNoZero"], unfollowed := true, recurses := true, named := ["internal/bytealg.MaxLen", "loop.example/g00472/impl.signWords", "loop.example/g00472/impl.signs", "internal/strconv.uint64pow10", "math/bits.deBruijn32tab", "math/bits.deBruijn64tab"], apart := false, laid := [("math/bits.deBruijn32tab", laid_math_bits_deBruijn32tab), ("math/bits.deBruijn64tab", laid_math_bits_deBruijn64tab), ("internal/strconv.uint64pow10", laid_internal_strconv_uint64pow10), ("loop.example/g00472/impl.signWords", laid_loop_example_g00472_impl_signWords), ("loop.example/g00472/impl.signs", laid_loop_example_g00472_impl_signs)], narrowed := true }
def FnLexUptoSaid : Prop := fnLexUptoRow.holds Tryd.pinned (OpenSpec.upto fnLexSpec)

end Rows
end Go.Proofs.YtjndgjheehjohaaDoor

/-
  DERIVED. GIVEN WITH THE SEED: THE PROGRAM's TIES (one call each: nine closed facts by the kernel) AND EACH ROW's TIE, after the 31st guide's Derived/Test/Toyas{Tie, Card}.lean. No idea stands in it: it is a product of the set-up. Laid BY PROGRAM, IN A SANDBOX (cutbox-door.mjs). By AI agents, Wed Nov 11 2026. No macro, syntax, notation, axiom, sorry.
-/
import Derived.Test.YtddmmoehlabkiaaGreatDoorRows
import Derived.LaidByTextLater
import Derived.SevenTiedAt
import Derived.LaidSub
import Derived.LaidOnce
namespace Go.Proofs.YtddmmoehlabkiaaGreatDoor
open Go
set_option maxRecDepth 100000
theorem seatTie1 : Tryz.prog.laidByTextLater [("math/bits.deBruijn32tab", Rows.laid_math_bits_deBruijn32tab), ("math/bits.deBruijn64tab", Rows.laid_math_bits_deBruijn64tab), ("internal/strconv.uint64pow10", Rows.laid_internal_strconv_uint64pow10), ("strconv.ErrRange", Rows.laid_strconv_ErrRange), ("strconv.ErrSyntax", Rows.laid_strconv_ErrSyntax), ("loop.example/g00123/impl.sumConsts", Rows.laid_loop_example_g00123_impl_sumConsts), ("loop.example/g00123/impl.sumStarts", Rows.laid_loop_example_g00123_impl_sumStarts), ("loop.example/g00123/impl.errMark", Rows.laid_loop_example_g00123_impl_errMark), ("loop.example/g00123/impl.errOther", Rows.laid_loop_example_g00123_impl_errOther), ("loop.example/g00123/impl.errBody", Rows.laid_loop_example_g00123_impl_errBody), ("loop.example/g00123/impl.errWrong", Rows.laid_loop_example_g00123_impl_errWrong)] [.data, .data, .data, .sentinel, .sentinel, .data, .data, .sentinel, .sentinel, .sentinel, .sentinel] true :=
  Program.laidByTextLater_by_one 148 8 65 (by kernel_rfl) (by kernel_rfl) (by kernel_rfl) (by kernel_rfl) (by kernel_rfl) (by kernel_rfl) (fun _ _ => by kernel_rfl)
theorem noOwnUnsafe : Tryz.pinned.checked.prog.headLifts.contains "ownunsafe" = false := by kernel_rfl
theorem tie : Tryz.prog.laidByTextLater [("math/bits.deBruijn32tab", Rows.laid_math_bits_deBruijn32tab), ("math/bits.deBruijn64tab", Rows.laid_math_bits_deBruijn64tab), ("internal/strconv.uint64pow10", Rows.laid_internal_strconv_uint64pow10), ("strconv.ErrRange", Rows.laid_strconv_ErrRange), ("strconv.ErrSyntax", Rows.laid_strconv_ErrSyntax), ("loop.example/g00123/impl.sumConsts", Rows.laid_loop_example_g00123_impl_sumConsts), ("loop.example/g00123/impl.sumStarts", Rows.laid_loop_example_g00123_impl_sumStarts), ("loop.example/g00123/impl.errMark", Rows.laid_loop_example_g00123_impl_errMark), ("loop.example/g00123/impl.errOther", Rows.laid_loop_example_g00123_impl_errOther), ("loop.example/g00123/impl.errBody", Rows.laid_loop_example_g00123_impl_errBody), ("loop.example/g00123/impl.errWrong", Rows.laid_loop_example_g00123_impl_errWrong)] [.data, .data, .data, .sentinel, .sentinel, .data, .data, .sentinel, .sentinel, .sentinel, .sentinel] true :=
  Program.laidByTextLater.sub seatTie1 ["math/bits.deBruijn32tab", "math/bits.deBruijn64tab", "internal/strconv.uint64pow10", "strconv.ErrRange", "strconv.ErrSyntax", "loop.example/g00123/impl.sumConsts", "loop.example/g00123/impl.sumStarts", "loop.example/g00123/impl.errMark", "loop.example/g00123/impl.errOther", "loop.example/g00123/impl.errBody", "loop.example/g00123/impl.errWrong"] (by kernel_rfl) (by kernel_rfl)
theorem fnCert_row_tie : Rows.fnCertRow.laidByTextAt .later Tryz.pinned [.data, .data, .data, .sentinel, .sentinel, .data, .data, .sentinel, .sentinel, .sentinel, .sentinel] true :=
  OpenClaim.laidByTextAt_later rfl rfl tie noOwnUnsafe
theorem fnExactVerify_row_tie : Rows.fnExactVerifyRow.laidByTextAt .later Tryz.pinned [.data, .data, .data, .sentinel, .sentinel, .data, .data, .sentinel, .sentinel, .sentinel, .sentinel] true :=
  OpenClaim.laidByTextAt_later rfl rfl tie noOwnUnsafe
theorem tie2 : Tryz.prog.laidByTextLater [("math/bits.deBruijn32tab", Rows.laid_math_bits_deBruijn32tab), ("math/bits.deBruijn64tab", Rows.laid_math_bits_deBruijn64tab), ("internal/strconv.uint64pow10", Rows.laid_internal_strconv_uint64pow10), ("loop.example/g00123/impl.sumConsts", Rows.laid_loop_example_g00123_impl_sumConsts), ("loop.example/g00123/impl.sumStarts", Rows.laid_loop_example_g00123_impl_sumStarts)] [.data, .data, .data, .data, .data] true :=
  Program.laidByTextLater.sub seatTie1 ["math/bits.deBruijn32tab", "math/bits.deBruijn64tab", "internal/strconv.uint64pow10", "loop.example/g00123/impl.sumConsts", "loop.example/g00123/impl.sumStarts"] (by kernel_rfl) (by kernel_rfl)
theorem fnExactIssue_row_tie : Rows.fnExactIssueRow.laidByTextAt .later Tryz.pinned [.data, .data, .data, .data, .data] true :=
  OpenClaim.laidByTextAt_later rfl rfl tie2 noOwnUnsafe
theorem fnCertUpto_row_tie : Rows.fnCertUptoRow.laidByTextAt .later Tryz.pinned [.data, .data, .data, .sentinel, .sentinel, .data, .data, .sentinel, .sentinel, .sentinel, .sentinel] true :=
  OpenClaim.laidByTextAt_later rfl rfl tie noOwnUnsafe
theorem fnExactIssueUpto_row_tie : Rows.fnExactIssueUptoRow.laidByTextAt .later Tryz.pinned [.data, .data, .data, .data, .data] true :=
  OpenClaim.laidByTextAt_later rfl rfl tie2 noOwnUnsafe
theorem fnExactVerifyUpto_row_tie : Rows.fnExactVerifyUptoRow.laidByTextAt .later Tryz.pinned [.data, .data, .data, .sentinel, .sentinel, .data, .data, .sentinel, .sentinel, .sentinel, .sentinel] true :=
  OpenClaim.laidByTextAt_later rfl rfl tie noOwnUnsafe
end Go.Proofs.YtddmmoehlabkiaaGreatDoor

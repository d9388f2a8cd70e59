/-
  DERIVED. GIVEN WITH THE SEED: THE PROGRAM's TIES (one call each: nine closed facts by the kernel) AND EACH ROW's TIE, after the 31st guide's Derived/Test/Toyas{Tie, Card}.lean. No idea stands in it: it is a product of the set-up. Laid BY PROGRAM, IN A SANDBOX (cutbox-door.mjs). By AI agents, Wed Nov 11 2026. No macro, syntax, notation, axiom, sorry.
-/
import Derived.Test.YtlikhmhomkiadaaDoorRows
import Derived.LaidByTextLater
import Derived.SevenTiedAt
import Derived.LaidSub
import Derived.LaidOnce
namespace Go.Proofs.YtlikhmhomkiadaaDoor
open Go
set_option maxRecDepth 100000
theorem seatTie1 : Tryd.prog.laidByTextLater [("sexton/crc.halves", Rows.laid_sexton_crc_halves), ("sexton/octet.bounds", Rows.laid_sexton_octet_bounds), ("sexton/tag.regions", Rows.laid_sexton_tag_regions), ("sexton/tag.widths", Rows.laid_sexton_tag_widths)] [.data, .data, .data, .data] true :=
  Program.laidByTextLater_by_one 34 8 17 (by kernel_rfl) (by kernel_rfl) (by kernel_rfl) (by kernel_rfl) (by kernel_rfl) (by kernel_rfl) (fun _ _ => by kernel_rfl)
theorem noOwnUnsafe : Tryd.pinned.checked.prog.headLifts.contains "ownunsafe" = false := by kernel_rfl
theorem tie : Tryd.prog.laidByTextLater [("sexton/octet.bounds", Rows.laid_sexton_octet_bounds)] [.data] true :=
  Program.laidByTextLater.sub seatTie1 ["sexton/octet.bounds"] (by kernel_rfl) (by kernel_rfl)
theorem metaForms_row_tie : Rows.metaFormsRow.laidByTextAt .later Tryd.pinned [.data] true :=
  OpenClaim.laidByTextAt_later rfl rfl tie noOwnUnsafe
theorem tie2 : Tryd.prog.laidByTextLater [("sexton/crc.halves", Rows.laid_sexton_crc_halves), ("sexton/octet.bounds", Rows.laid_sexton_octet_bounds), ("sexton/tag.regions", Rows.laid_sexton_tag_regions), ("sexton/tag.widths", Rows.laid_sexton_tag_widths)] [.data, .data, .data, .data] true :=
  Program.laidByTextLater.sub seatTie1 ["sexton/crc.halves", "sexton/octet.bounds", "sexton/tag.regions", "sexton/tag.widths"] (by kernel_rfl) (by kernel_rfl)
theorem metaBack_row_tie : Rows.metaBackRow.laidByTextAt .later Tryd.pinned [.data, .data, .data, .data] true :=
  OpenClaim.laidByTextAt_later rfl rfl tie2 noOwnUnsafe
theorem metaRises_row_tie : Rows.metaRisesRow.laidByTextAt .later Tryd.pinned [.data, .data, .data, .data] true :=
  OpenClaim.laidByTextAt_later rfl rfl tie2 noOwnUnsafe
theorem metaDamage_row_tie : Rows.metaDamageRow.laidByTextAt .later Tryd.pinned [.data, .data, .data, .data] true :=
  OpenClaim.laidByTextAt_later rfl rfl tie2 noOwnUnsafe
theorem metaFormsUpto_row_tie : Rows.metaFormsUptoRow.laidByTextAt .later Tryd.pinned [.data] true :=
  OpenClaim.laidByTextAt_later rfl rfl tie noOwnUnsafe
theorem metaBackUpto_row_tie : Rows.metaBackUptoRow.laidByTextAt .later Tryd.pinned [.data, .data, .data, .data] true :=
  OpenClaim.laidByTextAt_later rfl rfl tie2 noOwnUnsafe
theorem metaRisesUpto_row_tie : Rows.metaRisesUptoRow.laidByTextAt .later Tryd.pinned [.data, .data, .data, .data] true :=
  OpenClaim.laidByTextAt_later rfl rfl tie2 noOwnUnsafe
theorem metaDamageUpto_row_tie : Rows.metaDamageUptoRow.laidByTextAt .later Tryd.pinned [.data, .data, .data, .data] true :=
  OpenClaim.laidByTextAt_later rfl rfl tie2 noOwnUnsafe
end Go.Proofs.YtlikhmhomkiadaaDoor

/-
  A tally that nobody made notes nothing, and tells nothing: the law's walk.
-/
import Derived.Test.YtmnldkfkcfnkdaaTlUp
namespace Go.Proofs.Ytmnldkfkcfnkdaa
open Go Go.RowKit Go.Maps

/-- The tally that nobody made, and the list of both. -/
structure NilT (w : World) (b : Nat) : Prop where
  hp : w.heap[b]? = some (.cells #[.pointer none, .int .i64 0, .map none] 38 (0, 0))
  lst : w.heap[b + 1]? = some (.cells #[.pointer none, .pointer (some ⟨b, 0, none⟩)] 23 (0, 0))
theorem NilT.at_ {w : World} {b : Nat} (h : NilT w b) (k : Nat) (hk : k < 2) : ∃ p, w.cell? ⟨b + 1, k, none⟩ = some (.pointer p) ∧ UnmadeT w p := by
  match k, hk with
  | 0, _ => exact ⟨none, cell_of_row w (b + 1) 0 _ _ _ h.lst, .inl rfl⟩
  | 1, _ => exact ⟨some ⟨b, 0, none⟩, cell_of_row w (b + 1) 1 _ _ _ h.lst, .inr ⟨b, rfl, cell_of_row w b 0 _ _ _ h.hp⟩⟩
theorem NilT.ext {w w' : World} {b : Nat} (h : NilT w b) (hx : Ext w w') : NilT w' b := ⟨(hx.block _ (Array.getElem?_eq_some_iff.1 h.hp).1).trans h.hp, (hx.block _ (Array.getElem?_eq_some_iff.1 h.lst).1).trans h.lst⟩
set_option maxRecDepth 100000 in
set_option maxHeartbeats 1600000 in
theorem tallyNil_law (i r : Int) (w : World) (_ : (Lit.int .i64 i).wf = true) (_ : (Lit.int .i64 r).wf = true) :
    Calls Try.prog 4 #[.int .i64 i, .int .i64 r] w fun e w' => e = .returned (.bool true) ∧ Below w.heap.size w w' := by
  show Calls Try.prog 4 #[.int .i64 i, .int .i64 r] w fun e w' => e = .returned (.bool true) ∧ Ext w w'
  obtain ⟨V, hV⟩ : ∃ V, (w.alloc (.cells #[.pointer none, .int .i64 0, .map none] 38)).alloc (.cells #[.pointer none, .pointer (some ⟨w.heap.size, 0, none⟩)] 23) = V := ⟨_, rfl⟩
  have hx2 : Ext w V := by rw [← hV]; exact ((Ext.refl w).alloc _).alloc _
  have hS : NilT V w.heap.size := by
    have h1 := heap_alloc_new w (.cells #[.pointer none, .int .i64 0, .map none] 38)
    have h2 := heap_alloc_new (w.alloc (.cells #[.pointer none, .int .i64 0, .map none] 38)) (.cells #[.pointer none, .pointer (some ⟨w.heap.size, 0, none⟩)] 23)
    rw [World.size_alloc] at h2
    rw [hV] at h2
    refine ⟨?_, h2⟩
    have hx : Ext (w.alloc (.cells #[.pointer none, .int .i64 0, .map none] 38)) V := by rw [← hV]; exact (Ext.refl _).alloc _
    exact (hx.block _ (by rw [World.size_alloc]; omega)).trans h1
  have HX := Lib.hid hx2
  have HS := Lib.hid hS
  clear hx2 hS
  go_enter Try.func4, Try.ntmps4
  go_wp2_with fail
  obtain ⟨b2, hb2⟩ : ∃ b2, w.heap.size = b2 := ⟨_, rfl⟩
  rw [hb2] at HS ⊢
  clear hb2
  go_loopw [7] (fun v wr => ∃ k : Nat, k ≤ 2 ∧ v = .int .i64 (k : Int) ∧ Hid (Ext V wr)) (fun v _ => 2 - (intOf v).toNat)
  case atStart => exact ⟨0, by omega, rfl, Lib.hid (Ext.refl _)⟩
  case round =>
    obtain ⟨k, hk, rfl, HE⟩ := hrel
    by_cases hlt : k < 2
    · obtain ⟨p, hcp, hup⟩ := (HS.out.ext HE.out).at_ k hlt
      have HU := Lib.hid hup
      have hk2 : (k : Int) < 2 := by omega
      have hl3 : b2 + 1 < wr.heap.size := World.block_lt_of_cell? wr _ hcp
      clear hup
      go_wp2_with fail
      refine (tnote_nil p i r _ HU.out).mono ?_
      rintro r' w2 ⟨rfl, rfl⟩
      go_wp2_with fail
      refine (tcount_nil p i _ HU.out).mono ?_
      rintro r' w2 ⟨rfl, rfl⟩
      go_wp2_with fail
      refine (tupto_nil p i _ HU.out).mono ?_
      rintro r' w2 ⟨rfl, rfl⟩
      go_wp2_with fail
      refine (tdrop_nil p i _ HU.out).mono ?_
      rintro r' w2 ⟨rfl, hx⟩
      have HE2 := Lib.hid (HE.out.trans hx)
      clear hx
      go_wp2_with fail
      go_roundw
      case rel => exact ⟨k + 1, by omega, by go_num, HE2⟩
      case measure => simp [intOf]; omega
    · obtain rfl : k = 2 := by omega
      go_wp2_with fail
      go_ret
      exact ⟨rfl, HX.out.trans HE.out⟩
end Go.Proofs.Ytmnldkfkcfnkdaa

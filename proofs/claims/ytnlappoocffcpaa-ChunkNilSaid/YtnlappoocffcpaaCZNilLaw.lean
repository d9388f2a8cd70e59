/-
  ChunkNil: a heap that nobody made holds nothing.
-/
import Derived.Test.YtnlappoocffcpaaC00
import Derived.Test.YtnlappoocffcpaaC01
import Derived.Deep.DeepCutAuto
namespace Go.Proofs.Ytnlappoocffcpaa
open Go Go.RowKit
theorem keep_rowZ {u w' : World} {g : Nat} {ob : Obj} (k : Ext u w') (h : u.heap[g]? = some ob) : w'.heap[g]? = some ob := (k.block g (Array.getElem?_eq_some_iff.1 h).1).trans h
structure NilZ (w : World) (b : Nat) : Prop where
  hp : w.heap[b]? = some (.cells #[.pointer none, .int .i64 0, .map none] 61 (0, 0))
  lst : w.heap[b + 1]? = some (.cells #[.pointer none, .pointer (some ⟨b, 0, none⟩)] 39 (0, 0))
theorem NilZ.at_ {w : World} {b : Nat} (h : NilZ w b) (k : Nat) (hk : k < 2) : ∃ p, w.cell? ⟨b + 1, k, none⟩ = some (.pointer p) ∧ UnmadeZ w p := by
  match k, hk with
  | 0, _ => exact ⟨none, cell_of_row w (b + 1) 0 _ _ _ h.lst, .inl rfl⟩
  | 1, _ => exact ⟨some ⟨b, 0, none⟩, cell_of_row w (b + 1) 1 _ _ _ h.lst, .inr ⟨b, rfl, cell_of_row w b 0 _ _ _ h.hp⟩⟩
set_option maxRecDepth 100000 in
set_option maxHeartbeats 1600000 in
theorem chunkNil_law (i : Int) (A : Option Addr) (n c : Nat) (l : List Nat) (w : World) (_ : (Lit.int .i64 i).wf = true) (_ : Bs w w.heap.size A n c l) :
    Calls Try.prog 5 #[.int .i64 i, .slice A n c] w fun r' w' => r' = .returned (.bool true) ∧ Below w.heap.size w w' := by
  show Calls Try.prog 5 #[.int .i64 i, .slice A n c] w fun r' w' => r' = .returned (.bool true) ∧ Ext w w'
  go_enter Try.func5, Try.ntmps5
  by_cases hn : n ≤ 200
  case neg =>
    have hn : (200 : Int) < (n : Int) := by omega
    go_wp2_with fail
    go_ret
    exact ⟨rfl, Ext.refl w⟩
  have hn : (n : Int) ≤ 200 := by omega
  go_wp2_with fail
  have hx2 := ((Ext.refl w).alloc (.cells #[.pointer none, .int .i64 0, .map none] 61)).alloc (.cells #[.pointer none, .pointer (some ⟨w.heap.size, 0, none⟩)] 39)
  have hl := keep_rowZ ((Ext.refl (w.alloc (.cells #[.pointer none, .int .i64 0, .map none] 61))).alloc (.cells #[.pointer none, .pointer (some ⟨w.heap.size, 0, none⟩)] 39)) (heap_alloc_new w (.cells #[.pointer none, .int .i64 0, .map none] 61))
  have hl2 := heap_alloc2_new w (.cells #[.pointer none, .int .i64 0, .map none] 61) (.cells #[.pointer none, .pointer (some ⟨w.heap.size, 0, none⟩)] 39)
  obtain ⟨b2, hb2⟩ : ∃ b2, w.heap.size = b2 := ⟨_, rfl⟩
  have HX2 := Lib.hid hx2
  rw [hb2] at hl hl2
  have HS := Lib.hid (NilZ.mk (b := b2) hl hl2)
  rw [hb2] at HX2 ⊢
  generalize (w.alloc (.cells #[.pointer none, .int .i64 0, .map none] 61)).alloc (.cells #[.pointer none, .pointer (some ⟨b2, 0, none⟩)] 39) = V2 at HX2 HS ⊢
  clear hx2 hl hl2 hb2
  go_loopw [7] (fun v wr => ∃ k : Nat, k ≤ 2 ∧ v = .int .i64 (k : Int) ∧ wr = V2) (fun v _ => 2 - (intOf v).toNat)
  case atStart => exact ⟨0, by omega, rfl, rfl⟩
  case round =>
    obtain ⟨k, hk, rfl, rfl⟩ := hrel
    by_cases hlt : k < 2
    · obtain ⟨p, hcp, hup⟩ := HS.out.at_ k hlt
      have HU := Lib.hid hup
      have hk2 : (k : Int) < 2 := by omega
      have hl3 : b2 + 1 < wr.heap.size := World.block_lt_of_cell? wr _ hcp
      clear hup
      go_wp2_with fail
      refine (zget_nil HU.out i).mono ?_
      rintro r' w2 ⟨rfl, rfl⟩
      go_wp2_with fail
      refine (zwhole_nil HU.out).mono ?_
      rintro r' w2 ⟨rfl, rfl⟩
      go_wp2_with fail
      refine (zput_nil HU.out i A n c).mono ?_
      rintro r' w2 ⟨rfl, rfl⟩
      go_wp2_with fail
      refine (zlose_nil HU.out i).mono ?_
      rintro r' w2 ⟨rfl, rfl⟩
      go_wp2_with fail
      refine (zmissing_no HU.out).mono ?_
      rintro r' w2 ⟨rfl, rfl⟩
      go_wp2_with fail
      go_roundw
      case rel =>
        exact ⟨k + 1, by omega, by go_num, trivial⟩
      case measure => simp [intOf]; omega
    · obtain rfl : k = 2 := by omega
      go_wp2_with fail
      go_ret
      exact ⟨rfl, HX2.out⟩
end Go.Proofs.Ytnlappoocffcpaa

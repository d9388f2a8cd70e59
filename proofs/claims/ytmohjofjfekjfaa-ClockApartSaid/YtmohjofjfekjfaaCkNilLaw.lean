/-
  A clock that nobody made neither stands nor beats: the law's walk.
-/
import Derived.Test.YtmohjofjfekjfaaCkAw
import Derived.OpenShut
namespace Go.Proofs.Ytmohjofjfekjfaa
open Go Go.RowKit

theorem u8_natC {v : Int} (h : (Lit.int .u8 v).wf = true) : ∃ s : Nat, v = (s : Int) ∧ s < 256 := by
  have := bounds_u8 h
  exact ⟨v.toNat, by omega, by omega⟩
/-- The clock that nobody made, and the list of both. -/
structure NilC (w : World) (b : Nat) : Prop where
  hp : w.heap[b]? = some (.cells #[.pointer none, .int .i64 0, .int .i64 0, .int .i64 0] 43 (0, 0))
  lst : w.heap[b + 1]? = some (.cells #[.pointer none, .pointer (some ⟨b, 0, none⟩)] 23 (0, 0))
theorem NilC.at_ {w : World} {b : Nat} (h : NilC w b) (k : Nat) (hk : k < 2) : ∃ p, w.cell? ⟨b + 1, k, none⟩ = some (.pointer p) ∧ UnmadeC w p := by
  match k, hk with
  | 0, _ => exact ⟨none, cell_of_row w (b + 1) 0 _ _ _ h.lst, .inl rfl⟩
  | 1, _ => exact ⟨some ⟨b, 0, none⟩, cell_of_row w (b + 1) 1 _ _ _ h.lst, .inr ⟨b, rfl, cell_of_row w b 0 _ _ _ h.hp⟩⟩
set_option maxRecDepth 100000 in
set_option maxHeartbeats 1600000 in
theorem clockNil_law (ld : Bool) (t : Int) (w : World) (ht : (Lit.int .u8 t).wf = true) :
    Calls Try.prog 4 #[.bool ld, .int .u8 t] w fun e w' => e = .returned (.bool true) ∧ Below w.heap.size w w' := by
  show Calls Try.prog 4 #[.bool ld, .int .u8 t] w fun e w' => e = .returned (.bool true) ∧ Ext w w'
  obtain ⟨n, rfl, hn⟩ := u8_natC ht
  clear ht
  obtain ⟨V, hV⟩ : ∃ V, (w.alloc (.cells #[.pointer none, .int .i64 0, .int .i64 0, .int .i64 0] 43)).alloc (.cells #[.pointer none, .pointer (some ⟨w.heap.size, 0, none⟩)] 23) = V := ⟨_, rfl⟩
  have hx2 : Ext w V := by rw [← hV]; exact ((Ext.refl w).alloc _).alloc _
  have hS : NilC V w.heap.size := by
    have h1 := heap_alloc_new w (.cells #[.pointer none, .int .i64 0, .int .i64 0, .int .i64 0] 43)
    have h2 := heap_alloc_new (w.alloc (.cells #[.pointer none, .int .i64 0, .int .i64 0, .int .i64 0] 43)) (.cells #[.pointer none, .pointer (some ⟨w.heap.size, 0, none⟩)] 23)
    rw [World.size_alloc] at h2
    rw [hV] at h2
    refine ⟨?_, h2⟩
    have hx : Ext (w.alloc (.cells #[.pointer none, .int .i64 0, .int .i64 0, .int .i64 0] 43)) V := by rw [← hV]; exact (Ext.refl _).alloc _
    exact (hx.block _ (by rw [World.size_alloc]; omega)).trans h1
  have HX := Lib.hid hx2
  have HS := Lib.hid hS
  clear hx2 hS
  go_enter Try.func4, Try.ntmps4
  go_wp2_with fail
  obtain ⟨b2, hb2⟩ : ∃ b2, w.heap.size = b2 := ⟨_, rfl⟩
  rw [hb2] at HS ⊢
  clear hb2
  go_loopw [7] (fun v wr => ∃ k : Nat, k ≤ 2 ∧ v = .int .i64 (k : Int) ∧ V = wr) (fun v _ => 2 - (intOf v).toNat)
  case atStart => exact ⟨0, by omega, rfl, rfl⟩
  case round =>
    obtain ⟨k, hk, rfl, rfl⟩ := hrel
    by_cases hlt : k < 2
    · obtain ⟨p, hcp, hup⟩ := HS.out.at_ k hlt
      have HU := Lib.hid hup
      have hk2 : (k : Int) < 2 := by omega
      have hl3 : b2 + 1 < V.heap.size := World.block_lt_of_cell? V _ hcp
      clear hup
      go_wp2_with fail
      go_loopw [8] (fun v wr => ∃ j : Nat, j ≤ n ∧ v = .int .i64 (j : Int) ∧ V = wr) (fun v _ => n - (intOf v).toNat)
      case atStart => exact ⟨0, by omega, rfl, rfl⟩
      case round =>
        obtain ⟨j, hj, rfl, rfl⟩ := hrel
        by_cases hjn : j < n
        · have hjn2 : (j : Int) < (n : Int) := by omega
          go_wp2_with fail
          refine (ctick_nil HU.out ld).mono ?_
          rintro r' w2 ⟨rfl, rfl⟩
          go_wp2_with fail
          go_roundw
          case rel => exact ⟨j + 1, by omega, by go_num, trivial⟩
          case measure => simp [intOf]; omega
        · obtain rfl : j = n := by omega
          go_wp2_with fail
          refine (chear_nil HU.out).mono ?_
          rintro r' w2 ⟨rfl, rfl⟩
          go_wp2_with fail
          refine (csilent_nil HU.out).mono ?_
          rintro r' w2 ⟨rfl, rfl⟩
          go_wp2_with fail
          go_roundw
          case rel => exact ⟨k + 1, by omega, by go_num, trivial⟩
          case measure => simp [intOf]; omega
    · obtain rfl : k = 2 := by omega
      go_wp2_with fail
      refine (cawake_any _).mono ?_
      rintro r' w2 ⟨rfl, hx⟩
      have HE := Lib.hid (HX.out.trans hx)
      clear hx
      go_wp2_with fail
      go_ret
      exact ⟨rfl, HE.out⟩
end Go.Proofs.Ytmohjofjfekjfaa

/-
  SnapNil: a shelf that nobody made holds nothing; there is none on a disk that nobody made, or that is too small.
-/
import Derived.Test.YtmbmpabjclkhlaaGreatDoorN00
import Derived.Test.YtmbmpabjclkhlaaGreatDoorN17
import Derived.Test.YtmbmpabjclkhlaaGreatDoorN18
import Derived.Deep.DeepCutAuto
namespace Go.Proofs.YtmbmpabjclkhlaaGreatDoor
open Go Go.RowKit
structure NilY (w : World) (b : Nat) : Prop where
  hp : w.heap[b]? = some (.cells #[.pointer none, .pointer none, .int .i64 0, .int .i64 0, .int .i64 0, .int .i64 0, .int .i64 0] 108 (0, 0))
  lst : w.heap[b + 1]? = some (.cells #[.pointer none, .pointer (some ⟨b, 0, none⟩)] 91 (0, 0))
theorem NilY.at_ {w : World} {b : Nat} (h : NilY w b) (k : Nat) (hk : k < 2) : ∃ p, w.cell? ⟨b + 1, k, none⟩ = some (.pointer p) ∧ UnmadeY w p := by
  match k, hk with
  | 0, _ => exact ⟨none, cell_of_row w (b + 1) 0 _ _ _ h.lst, .inl rfl⟩
  | 1, _ => exact ⟨some ⟨b, 0, none⟩, cell_of_row w (b + 1) 1 _ _ _ h.lst, .inr ⟨b, rfl, cell_of_row w b 0 _ _ _ h.hp⟩⟩
theorem wrap_modY (z : Int) (N : Nat) (h0 : 0 < N) (hN : N ≤ 1000) : ∃ q : Nat, q < N ∧ wrap64 ((IntKind.u64.wrap z).tmod (N : Int)) = (q : Int) := by
  have h1 : 0 ≤ IntKind.u64.wrap z := by rw [IntKind.wrap_u64]; omega
  have h2 := Int.emod_nonneg (IntKind.u64.wrap z) (show (N : Int) ≠ 0 by omega)
  have h3 := Int.emod_lt_of_pos (IntKind.u64.wrap z) (show (0 : Int) < N by omega)
  refine ⟨((IntKind.u64.wrap z) % N).toNat, by omega, ?_⟩
  rw [Int.tmod_eq_emod_of_nonneg h1, IntWalk.wrap64_in _ (by omega)]
  omega
theorem size_noneY (w : World) : Calls Tryz.prog 60 #[.pointer none] w fun e w' => e = .returned (.int .i64 0) ∧ w = w' := (size_no none w (.inl rfl)).mono fun _ _ hh => ⟨hh.1, hh.2⟩
theorem new_sizeY (n : Nat) : (DM.new n).size = n := by simp [DM.new, DM.size]
set_option maxRecDepth 100000 in
set_option maxHeartbeats 800000 in
theorem snapNil_law (i r c s : Int) (A : Option Addr) (n cp : Nat) (l : List Nat) (w : World) (_ : (Lit.int .i64 i).wf = true) (_ : (Lit.int .i64 r).wf = true) (_ : (Lit.int .i64 c).wf = true) (_ : (Lit.int .i64 s).wf = true) (_ : Bs w w.heap.size A n cp l) (hL : LaidY w) :
    Calls Tryz.prog 6 #[.int .i64 i, .int .i64 r, .int .i64 c, .int .i64 s, .slice A n cp] w fun r' w' => r' = .returned (.bool true) ∧ Ext w w' := by
  have HL := Lib.hid hL
  obtain ⟨q, hq, hqe⟩ := wrap_modY s 155 (by omega) (by omega)
  have hqe : wrap64 ((IntKind.u64.wrap s).tmod 155) = (q : Int) := hqe
  have HN := Lib.hid (fun V => new_pdk (q + 1) V (by omega) (by omega))
  rw [show ((q + 1 : Nat) : Int) = 1 + (q : Int) by omega] at HN
  have HQ := Lib.hid hq
  clear hL
  go_enter Tryz.func6, Tryz.ntmps6
  by_cases hn : n ≤ 700
  case neg =>
    have hn : (700 : Int) < (n : Int) := by omega
    go_wp2_with fail
    go_ret
    exact ⟨rfl, Ext.refl w⟩
  have hn : (n : Int) ≤ 700 := by omega
  go_wp2_with fail
  have hx2 := ((Ext.refl w).alloc (.cells #[.pointer none, .pointer none, .int .i64 0, .int .i64 0, .int .i64 0, .int .i64 0, .int .i64 0] 108)).alloc (.cells #[.pointer none, .pointer (some ⟨w.heap.size, 0, none⟩)] 91)
  have hl := keep_row ((Ext.refl (w.alloc (.cells #[.pointer none, .pointer none, .int .i64 0, .int .i64 0, .int .i64 0, .int .i64 0, .int .i64 0] 108))).alloc (.cells #[.pointer none, .pointer (some ⟨w.heap.size, 0, none⟩)] 91)) (heap_alloc_new w (.cells #[.pointer none, .pointer none, .int .i64 0, .int .i64 0, .int .i64 0, .int .i64 0, .int .i64 0] 108))
  have hl2 := heap_alloc2_new w (.cells #[.pointer none, .pointer none, .int .i64 0, .int .i64 0, .int .i64 0, .int .i64 0, .int .i64 0] 108) (.cells #[.pointer none, .pointer (some ⟨w.heap.size, 0, none⟩)] 91)
  obtain ⟨b2, hb2⟩ : ∃ b2, w.heap.size = b2 := ⟨_, rfl⟩
  have HX2 := Lib.hid hx2
  rw [hb2] at hl hl2
  have HS := Lib.hid (NilY.mk (b := b2) hl hl2)
  rw [hb2] at HX2 ⊢
  generalize (w.alloc (.cells #[.pointer none, .pointer none, .int .i64 0, .int .i64 0, .int .i64 0, .int .i64 0, .int .i64 0] 108)).alloc (.cells #[.pointer none, .pointer (some ⟨b2, 0, none⟩)] 91) = V2 at HX2 HS ⊢
  clear hx2 hl hl2 hb2
  go_loopw [13] (fun v wr => ∃ k : Nat, k ≤ 2 ∧ v = .int .i64 (k : Int) ∧ wr = V2) (fun v _ => 2 - (intOf v).toNat)
  case atStart => exact ⟨0, by omega, rfl, rfl⟩
  case round =>
    obtain ⟨k, hk, rfl, rfl⟩ := hrel
    by_cases hlt : k < 2
    · obtain ⟨p, hcp, hup⟩ := HS.out.at_ k hlt
      have HU := Lib.hid hup
      have hk2 : (k : Int) < 2 := by omega
      have hl3 : b2 + 1 < wr.heap.size := World.block_lt_of_cell? wr _ hcp
      clear hup
      go_wp2_with fail
      refine (ybytes_nil HU.out).mono ?_
      rintro r' w2 ⟨rfl, rfl⟩
      go_wp2_with fail
      refine (ychunk_nil HU.out i).mono ?_
      rintro r' w2 ⟨rfl, rfl⟩
      go_wp2_with fail
      refine (yinstall_nil HU.out i A n cp).mono ?_
      rintro r' w2 ⟨rfl, rfl⟩
      go_wp2_with fail
      refine (ymend_nil HU.out i A n cp).mono ?_
      rintro r' w2 ⟨rfl, rfl⟩
      go_wp2_with fail
      refine (yindex_nil HU.out).mono ?_
      rintro r' w2 ⟨rfl, rfl⟩
      go_wp2_with fail
      refine (ycount_nil HU.out).mono ?_
      rintro r' w2 ⟨rfl, rfl⟩
      go_wp2_with fail
      refine (yhurt_nil HU.out).mono ?_
      rintro r' w2 ⟨rfl, rfl⟩
      go_wp2_with fail
      go_roundw
      case rel => exact ⟨k + 1, by omega, by go_num, trivial⟩
      case measure => simp [intOf]; omega
    · obtain rfl : k = 2 := by omega
      go_wp2_with fail
      refine (HN.out wr).mono ?_
      rintro r' w2 ⟨d, rfl, hp, hx⟩
      have HP := Lib.hid hp
      have HX3 : Hid (Ext w w2) := Lib.hid (HX2.out.trans hx)
      clear hp hx
      go_wp2_with fail
      refine (yopen_none none r c _ (size_noneY _)).mono ?_
      rintro r' w3 ⟨rfl, hx⟩
      have HP := Lib.hid (HP.out.ext hx)
      have HX4 : Hid (Ext w w3) := Lib.hid (HX3.out.trans hx)
      clear hx
      go_wp2_with fail
      have hsz := size_pd HP.out
      rw [new_sizeY] at hsz
      have hq1 : knownC (q + 1) r 2 = 2 := by
        unfold knownC
        have := HQ.out
        rw [if_neg (by omega), if_pos (by omega)]
      have hop : Calls Tryz.prog 36 #[.pointer (some ⟨d, 0, none⟩), .int .i64 r, .int .i64 c] w3 fun e w' => e = .returned (.tuple #[.pointer none, .int .i64 2]) ∧ Ext w3 w' := by
        cases hc : inI 1 c 1099511627776 with
        | false => exact yopen_inc r c (q + 1) w3 (by omega) hc hsz
        | true =>
          have hl := LoadsY.no (w := w3) (p := some ⟨d, 0, none⟩) (sz := q + 1) (fun W hW => by have := Sized.of (HP.out.ext hW); rw [new_sizeY] at this; exact this) (HL.out.ext HX4.out) r (by rw [hq1]; decide)
          rw [hq1] at hl
          exact yopen_bad c (q + 1) w3 (by omega) hc hsz hl (HL.out.ext HX4.out) (by simp) (by decide)
      refine hop.mono ?_
      rintro r' w4 ⟨rfl, hx⟩
      have HX5 : Hid (Ext w w4) := Lib.hid (HX4.out.trans hx)
      clear hx hsz hop hq1
      go_wp2_with fail
      go_ret
      exact ⟨rfl, HX5.out⟩
end Go.Proofs.YtmbmpabjclkhlaaGreatDoor

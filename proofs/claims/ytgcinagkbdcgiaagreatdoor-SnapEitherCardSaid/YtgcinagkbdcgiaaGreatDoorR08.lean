/-
  The contract of the program's Print.
-/
import Derived.Test.YtgcinagkbdcgiaaGreatDoorR00
import Derived.Test.YtgcinagkbdcgiaaGreatDoorR01
import Derived.Test.YtgcinagkbdcgiaaGreatDoorR06
import Derived.Test.YtgcinagkbdcgiaaGreatDoorR07
import Derived.Test.YtgcinagkbdcgiaaGreatDoorProg
import Derived.WalkKit
import Derived.WalkSpells
import Derived.WalkLawsBesides
import Derived.BigQuiet
import Derived.Lib.Hide
import Derived.Outline
import Derived.Deep.QuietTactic
import Derived.Laws.OwnMore
import Derived.Laws.BitsAllLaws
import Derived.OwnWalk
import Derived.LaidMore
import Derived.Lib.LaidTab
import Derived.Stop.LaidErr
import Derived.Deep.Fields
import Derived.OpenShut
import Derived.ProofKit
namespace Go.Proofs.YtgcinagkbdcgiaaGreatDoor
set_option maxRecDepth 100000
section
open Go Go.RowKit
def LaidW (w : World) : Prop := ∀ k : Nat, k < 5 → w.cell? ⟨3, k, none⟩ = some (.int .i64 (wth k))
theorem LaidW.ext {a b : World} (h : LaidW a) (k : Ext a b) : LaidW b := fun i hi => Ext.cell k (h i hi)
structure LaidA (w : World) : Prop where
  o : Laid w
  t : LaidT w
  w : LaidW w
theorem LaidA.ext {a b : World} (h : LaidA a) (k : Ext a b) : LaidA b := ⟨h.o.ext k, h.t.ext k, h.w.ext k⟩
theorem five_index (a b c d e k : Nat) (hk : k < 5) (w : World) : (Instr.index 339 (.agg #[.int .i64 a, .int .i64 b, .int .i64 c, .int .i64 d, .int .i64 e]) (.int .i64 k)).run Tryz.prog w = .ok (.int .i64 (fld a b c d e k)) w := by
  have hj' : k = 0 ∨ k = 1 ∨ k = 2 ∨ k = 3 ∨ k = 4 := by omega
  rcases hj' with rfl | rfl | rfl | rfl | rfl <;> (show _ = _; kernel_rfl)
set_option maxHeartbeats 1600000 in
theorem print_no (a b c d e : Int) (w : World) (hL : LaidT w) (hm : mayB a b c d e = false) :
    Calls Tryz.prog 219 #[.agg #[.int .i64 a, .int .i64 b, .int .i64 c, .int .i64 d, .int .i64 e]] w fun r w' => r = .returned (.tuple #[.slice none 0 0, .int .i64 2]) ∧ Ext w w' := by
  have hE := (Ext.refl w).alloc (.cells #[.int .i64 a, .int .i64 b, .int .i64 c, .int .i64 d, .int .i64 e] 44)
  have HL := Lib.hid (hL.ext hE)
  have HE := Lib.hid hE
  have HM := Lib.hid hm
  clear hL hE hm
  go_enter Tryz.func219, Tryz.ntmps219
  go_wp2_with fail
  refine (may_any _ _ _ _ _ _ HL.out).mono ?_
  rw [HM.out]
  rintro r w1 ⟨rfl, hx⟩
  have HE := Lib.hid (HE.out.trans hx)
  clear hx
  go_wp2_with fail
  go_ret2
  exact ⟨rfl, HE.out⟩
set_option maxHeartbeats 3200000 in
theorem print_yes (a b c d e : Nat) (w : World) (hL : LaidA w) (hm : mayB a b c d e = true) :
    Calls Tryz.prog 219 #[.agg #[.int .i64 a, .int .i64 b, .int .i64 c, .int .i64 d, .int .i64 e]] w fun r w' => ∃ A cp, r = .returned (.tuple #[.slice A 15 cp, .int .i64 0]) ∧ By w' A 15 cp (tagBytes a b c d e) ∧ Ext w w' := by
  have hE := (Ext.refl w).alloc (.cells #[.int .i64 a, .int .i64 b, .int .i64 c, .int .i64 d, .int .i64 e] 44)
  have hc := fun i => (cell_of_row _ w.heap.size i _ 44 (0, 0) (heap_alloc_new w (.cells #[.int .i64 a, .int .i64 b, .int .i64 c, .int .i64 d, .int .i64 e] 44)))
  have HC := Lib.hid hc
  have HL := Lib.hid (hL.ext hE)
  have HE := Lib.hid hE
  have HM := Lib.hid hm
  clear hL hE hm hc
  go_enter Tryz.func219, Tryz.ntmps219
  go_wp2_with fail
  refine (may_any _ _ _ _ _ _ HL.out.t).mono ?_
  rw [HM.out]
  rintro r w1 ⟨rfl, hx⟩
  have i0 : w1.cell? ⟨w.heap.size, 0, none⟩ = some (.int .i64 a) := Ext.cell hx (HC.out 0)
  have i1 : w1.cell? ⟨w.heap.size, 1, none⟩ = some (.int .i64 b) := Ext.cell hx (HC.out 1)
  have i2 : w1.cell? ⟨w.heap.size, 2, none⟩ = some (.int .i64 c) := Ext.cell hx (HC.out 2)
  have i3 : w1.cell? ⟨w.heap.size, 3, none⟩ = some (.int .i64 d) := Ext.cell hx (HC.out 3)
  have i4 : w1.cell? ⟨w.heap.size, 4, none⟩ = some (.int .i64 e) := Ext.cell hx (HC.out 4)
  have HL := Lib.hid (HL.out.ext hx)
  have HE := Lib.hid (HE.out.trans hx)
  clear hx HC
  go_wp2_with fail
  clear i0 i1 i2 i3 i4
  go_loopw [4, 23] (fun v i wr => ∃ k : Nat, k ≤ 5 ∧ i = .int .i64 k ∧ ∃ A n cp, v = .slice A n cp ∧ Hid (By wr A n cp (pre (fld a b c d e) k)) ∧ Hid (Ext w1 wr)) (fun _ i _ => 5 - (intOf i).toNat)
  case atStart => exact ⟨0, Nat.zero_le _, rfl, none, 0, 0, rfl, Lib.hid (By.nil_ _), Lib.hid (Ext.refl _)⟩
  case round =>
    obtain ⟨k, hk, rfl, A, n, cp, rfl, HB, HX⟩ := hrel
    by_cases hlt : k < 5
    · have hn : n ≤ 30 := by
        have h1 := HB.out.len
        have h2 := pre_len_le (fld a b c d e) k
        omega
      have hcap := HB.out.cap
      have hW := (HL.out.ext HX.out).w k hlt
      have hI := five_index a b c d e k hlt
      have hwl := wth_le k
      go_wp2_with fail
      refine (put_by _ _ _ (HL.out.ext HX.out).o (fld_fits HM.out k)).mono ?_
      rintro r w2 ⟨A2, c2, rfl, hb, hx⟩
      have HB2 := Lib.hid hb
      have HB := Lib.hid (HB.out.ext hx)
      have HX := Lib.hid (HX.out.trans hx)
      clear hx hb hW hI
      go_wp2_with fail
      refine (join2_by _ HB.out HB2.out (by omega)).mono ?_
      rintro r w3 ⟨A3, c3, rfl, hb, hx⟩
      have HB3 := Lib.hid hb
      have HX := Lib.hid (HX.out.trans hx)
      clear hx hb
      go_wp2_with fail
      go_roundw
      case rel => exact ⟨k + 1, by omega, by go_num, A3, _, c3, rfl, HB3, HX⟩
      case measure => simp [intOf]; omega
    · have HK : Hid (k = 5) := Lib.hid (by omega)
      have hb := HB.out
      rw [HK.out] at hb
      have hn : n = 15 := hb.len.symm.trans (tagBytes_len a b c d e)
      subst hn
      have HB := Lib.hid hb
      clear hb
      go_wp2_with fail
      go_ret2
      exact ⟨A, cp, rfl, HB.out, HE.out.trans HX.out⟩
end
section
open Go Go.RowKit
theorem own_ext {w w' : World} {base : Nat} {e : TypeId} {size : Nat} {v : Value} {n : Nat} {xs : List Value} (h : w.ownsRow base e size v n xs) (k : Ext w w') : w'.ownsRow base e size v n xs := by
  refine ⟨h.1, ?_⟩
  rcases h.2 with h0 | ⟨g, cap, cur, hv, hb, hg, h1⟩
  · exact .inl h0
  · exact .inr ⟨g, cap, cur, hv, hb, (k.block g (Array.getElem?_eq_some_iff.1 hg).1).trans hg, h1⟩
end
section
open Go Go.RowKit
theorem print_any (a b c d e : Int) (w : World) (hL : LaidA w) :
    Calls Tryz.prog 219 #[.agg #[.int .i64 a, .int .i64 b, .int .i64 c, .int .i64 d, .int .i64 e]] w fun r w' => ∃ A cp, r = .returned (.tuple #[.slice A (pl a b c d e).length cp, .int .i64 (pr a b c d e)]) ∧ By w' A (pl a b c d e).length cp (pl a b c d e) ∧ Ext w w' := by
  by_cases h : mayB a b c d e = true
  · obtain ⟨a, b, c, d, e, rfl, rfl, rfl, rfl, rfl⟩ := may_nat h
    rw [pl_yes h, pr_yes h]
    simp only [Int.toNat_natCast, tagBytes_len]
    exact print_yes a b c d e w hL h
  · have h' : mayB a b c d e = false := by simpa using h
    rw [pl_no h', pr_no h']
    exact (print_no a b c d e w hL.t h').mono fun _ w' ⟨h1, h2⟩ => ⟨none, 0, h1, By.nil_ w', h2⟩
end
section
open Go Go.RowKit
def LaidH (w : World) : Prop := ∀ i, i < 16 → w.cell? ⟨5, i, none⟩ = some (.int .u32 ((stps 4 i : Nat) : Int))
theorem half_any (r : Nat) (w : World) (hL : LaidH w) (hr : r < 4294967296) :
    Calls Tryz.prog 288 #[.int .u32 r] w fun e w' => e = .returned (.int .u32 ((stps 4 r : Nat) : Int)) ∧ w = w' := by
  have ha : bits .and .u32 (r : Int) 15 = ((r % 16 : Nat) : Int) := by
    have := u32_and_nat r 15 hr (by omega)
    rw [nat_mask4] at this
    exact this
  have hm : r % 16 < 16 := Nat.mod_lt _ (by omega)
  have hc := hL (r % 16) hm
  have HS : Hid ((r / 16) ^^^ stps 4 (r % 16) = stps 4 r) := Lib.hid (stps_split 4 r).symm
  have hlt : stps 4 (r % 16) < 4294967296 := stps_lt (by omega)
  have hx : bits .xor .u32 ((r : Int) / 16) ((stps 4 (r % 16) : Nat) : Int) = ((r / 16 ^^^ stps 4 (r % 16) : Nat) : Int) := u32_xor_nat (r / 16) _ (by omega) hlt
  clear hL hlt
  go_enter Tryz.func288, Tryz.ntmps288
  go_wp2_with fail
  go_ret
  exact ⟨by rw [HS.out]; rfl, rfl⟩
theorem not_u32 (s : Nat) (h : s < 4294967296) : bits .xor .u32 IntKind.u32.max (s : Int) = ((inv s : Nat) : Int) := by
  have e : IntKind.u32.max = ((4294967295 : Nat) : Int) := by decide
  rw [e, u32_xor_nat 4294967295 s (by omega) h, inv_xor h, Nat.xor_comm]
set_option maxHeartbeats 400000 in
theorem ext_any (A : Option Addr) (l : List Nat) (n c B s : Nat) (w : World) (hL : LaidH w) (hl : l.length = n) (hr : Rd w B A l) (hm : n ≤ maxLen) (hs : s < 4294967296) :
    Calls Tryz.prog 265 #[.int .u32 s, .slice A n c] w fun e w' => e = .returned (.int .u32 ((crcE s l : Nat) : Int)) ∧ w = w' := by
  unfold maxLen at hm
  have H := Lib.hid hL
  have HL := Lib.hid hl
  clear hl hL
  go_enter Tryz.func265, Tryz.ntmps265
  go_wp2_with fail
  go_loop [5, 12] (fun vr vi => ∃ k t : Nat, k ≤ n ∧ vi = .int .i64 k ∧ vr = .int .u32 t ∧ t < 4294967296 ∧ Hid (t = feed (inv s) (l.take k))) (fun _ vi => n - (intOf vi).toNat)
  case atStart => exact ⟨0, inv s, Nat.zero_le _, rfl, by rw [not_u32 s hs], inv_lt s, Lib.hid rfl⟩
  case round =>
    obtain ⟨k, t, hk, rfl, rfl, ht, HT⟩ := hrel
    by_cases hlt : k < n
    · obtain ⟨g, o, x, hA, _, hx, hx2, hcx⟩ := hr.at_ (k := k) (by rw [HL.out]; exact hlt)
      subst hA
      have HX : Hid (inb t x = feed (inv s) (l.take (k + 1))) := Lib.hid (by rw [feed_take hx, ← HT.out])
      have hin := inb_lt ht hx2
      have hxor := u32_xor_nat t x ht (by omega)
      have h1 : t ^^^ x < 4294967296 := xor_lt32 ht (by omega)
      have h2 : stps 4 (t ^^^ x) < 4294967296 := stps_lt h1
      have HI : Hid (stps 4 (stps 4 (t ^^^ x)) = inb t x) := Lib.hid (by rw [← stps_add]; rfl)
      clear hx HT
      go_wp2_with fail
      refine (half_any _ _ H.out h1).mono ?_
      rintro e w' ⟨rfl, rfl⟩
      go_wp2_with fail
      refine (half_any _ _ H.out h2).mono ?_
      rintro e w' ⟨rfl, rfl⟩
      rw [HI.out]
      go_wp2_with fail
      go_round
      case rel => exact ⟨k + 1, inb t x, by omega, by go_num, rfl, hin, HX⟩
      case measure => simp [intOf]; omega
    · have HF : Hid (inv t = crcE s l) := by
        have := HT.out
        rw [List.take_of_length_le (by have := HL.out; omega)] at this
        exact Lib.hid (by rw [this]; rfl)
      go_wp2_with fail
      go_ret
      exact ⟨by rw [← HF.out, ← not_u32 t ht]; rfl, rfl⟩
theorem sum_any (A : Option Addr) (l : List Nat) (n c B : Nat) (w : World) (hL : LaidH w) (hl : l.length = n) (hr : Rd w B A l) (hm : n ≤ maxLen) :
    Calls Tryz.prog 220 #[.slice A n c] w fun e w' => e = .returned (.int .u32 ((crcS l : Nat) : Int)) ∧ w = w' := by
  have HM := Lib.hid hm
  have H := Lib.hid hL
  clear hm hL
  go_enter Tryz.func220, Tryz.ntmps220
  go_wp2_with fail
  refine (ext_any A l n c B 0 _ H.out hl hr HM.out (by omega)).mono ?_
  rintro e w' ⟨rfl, rfl⟩
  go_wp2_with fail
  go_ret
  exact ⟨rfl, rfl⟩
end
section
open Go Go.RowKit
def pc (l : List Nat) (k j : Nat) : Value := .int .i64 ((if j < k then pfld l j else 0 : Nat) : Int)
def prow (l : List Nat) (k : Nat) : Array Value := #[pc l k 0, pc l k 1, pc l k 2, pc l k 3, pc l k 4]
theorem prow_step (l : List Nat) {k : Nat} (h : k < 5) : (prow l k).setIfInBounds k (.int .i64 (pfld l k : Nat)) = prow l (k + 1) := by
  have hj' : k = 0 ∨ k = 1 ∨ k = 2 ∨ k = 3 ∨ k = 4 := by omega
  rcases hj' with rfl | rfl | rfl | rfl | rfl <;> simp [prow, pc]
structure PS (w : World) (l : List Nat) (k : Nat) (w' : World) : Prop where
  blank : w'.heap[w.heap.size]? = some (.cells #[.int .i64 0, .int .i64 0, .int .i64 0, .int .i64 0, .int .i64 0] 44 (0, 0))
  row : w'.heap[w.heap.size + 1]? = some (.cells (prow l k) 44 (0, 0))
  ext : Ext w w'
theorem PS.start (w : World) (l : List Nat) : PS w l 0 ((w.alloc (.cells #[.int .i64 0, .int .i64 0, .int .i64 0, .int .i64 0, .int .i64 0] 44)).alloc (.cells #[.int .i64 0, .int .i64 0, .int .i64 0, .int .i64 0, .int .i64 0] 44)) := by
  refine ⟨?_, heap_alloc2_new w _ _, ((Ext.refl w).alloc _).alloc _⟩
  rw [heap_alloc_old _ _ (by simp)]
  exact heap_alloc_new w _
theorem PS.step {w w' : World} {l : List Nat} {k : Nat} (h : PS w l k w') (hk : k < 5) : PS w l (k + 1) (w'.setCell ⟨w.heap.size + 1, k, none⟩ (.int .i64 (pfld l k : Nat))) := by
  have hs := setCell_eq_setRow w' (w.heap.size + 1) k (prow l k) 44 (0, 0) (.int .i64 (pfld l k : Nat)) h.row
  rw [hs, prow_step l hk]
  exact ⟨(setRow_other w' _ _ _ (by omega)).trans h.blank, setRow_heap w' _ _ _ _ _ h.row, below_setRow h.ext (by omega) _⟩
theorem PS.cell {w w' : World} {l : List Nat} {k : Nat} (h : PS w l k w') (j : Nat) : w'.cell? ⟨w.heap.size + 1, j, none⟩ = (prow l k)[j]? := cell_of_row w' _ j _ _ _ h.row
theorem PS.free {w w' : World} {l : List Nat} {k : Nat} (h : PS w l k w') (j : Nat) : w'.frozen? ⟨w.heap.size + 1, j, none⟩ = false := frozen_of_row w' _ j _ _ h.row
theorem ptr_index (g k : Nat) (hk : k < 5) (w : World) : (Instr.index 367 (.agg #[.pointer (some ⟨g, 0, none⟩), .pointer (some ⟨g, 1, none⟩), .pointer (some ⟨g, 2, none⟩), .pointer (some ⟨g, 3, none⟩), .pointer (some ⟨g, 4, none⟩)]) (.int .i64 k)).run Tryz.prog w = .ok (.pointer (some ⟨g, k, none⟩)) w := by
  have hj' : k = 0 ∨ k = 1 ∨ k = 2 ∨ k = 3 ∨ k = 4 := by omega
  rcases hj' with rfl | rfl | rfl | rfl | rfl <;> (show _ = _; kernel_rfl)
theorem get_fld {l : List Nat} {k : Nat} (hk : k < 5) (h : pos k + wth k ≤ l.length) : getS l (pos k) (wth k) = (pfld l k, pos (k + 1), 0) := by
  rw [getS_yes (wth_wOk k) (by omega) (by omega) (by omega), pos_step hk]
  rfl
theorem get_no {l : List Nat} {k : Nat} (h : l.length < pos k + wth k) (hp : pos k ≤ l.length) : getS l (pos k) (wth k) = (0, 0, 10) := getS_short (wth_wOk k) (by omega) (by omega) (by omega)
theorem five_cells {w : World} {g : Nat} {x0 x1 x2 x3 x4 : Value} (h : w.heap[g]? = some (.cells #[x0, x1, x2, x3, x4] 44 (0, 0))) :
    (w.cell? ⟨g, 0, none⟩ = some x0 ∧ w.cell? ⟨g, 1, none⟩ = some x1 ∧ w.cell? ⟨g, 2, none⟩ = some x2 ∧ w.cell? ⟨g, 3, none⟩ = some x3 ∧ w.cell? ⟨g, 4, none⟩ = some x4) ∧
      (w.frozen? ⟨g, 0, none⟩ = false ∧ w.frozen? ⟨g, 1, none⟩ = false ∧ w.frozen? ⟨g, 2, none⟩ = false ∧ w.frozen? ⟨g, 3, none⟩ = false ∧ w.frozen? ⟨g, 4, none⟩ = false) :=
  ⟨⟨cell_of_row w g 0 _ _ _ h, cell_of_row w g 1 _ _ _ h, cell_of_row w g 2 _ _ _ h, cell_of_row w g 3 _ _ _ h, cell_of_row w g 4 _ _ _ h⟩,
    ⟨frozen_of_row w g 0 _ _ h, frozen_of_row w g 1 _ _ h, frozen_of_row w g 2 _ _ h, frozen_of_row w g 3 _ _ h, frozen_of_row w g 4 _ _ h⟩⟩
theorem five_ext {w w' : World} (h : Ext w w') {g : Nat} (hg : w.heap.size ≤ g) (x0 x1 x2 x3 x4 : Value) :
    Ext w (((((w'.setCell ⟨g, 0, none⟩ x0).setCell ⟨g, 1, none⟩ x1).setCell ⟨g, 2, none⟩ x2).setCell ⟨g, 3, none⟩ x3).setCell ⟨g, 4, none⟩ x4) :=
  ((((h.setCell (p := ⟨g, 0, none⟩) hg _).setCell (p := ⟨g, 1, none⟩) hg _).setCell (p := ⟨g, 2, none⟩) hg _).setCell (p := ⟨g, 3, none⟩) hg _).setCell (p := ⟨g, 4, none⟩) hg _
set_option maxHeartbeats 3200000 in
theorem parse_any (A : Option Addr) (n cp : Nat) (l : List Nat) (w : World) (hL : LaidA w) (hb : By w A n cp l) (hn : n ≤ 9000000000000000000) :
    Calls Tryz.prog 290 #[.slice A n cp] w fun r w' => r = .returned (.tuple #[.agg #[.int .i64 (pf l 0), .int .i64 (pf l 1), .int .i64 (pf l 2), .int .i64 (pf l 3), .int .i64 (pf l 4)], .int .i64 (pe l)]) ∧ Ext w w' := by
  have HS := Lib.hid (PS.start w l)
  have HL := Lib.hid hL
  have HB := Lib.hid hb
  clear hL hb
  go_enter Tryz.func290, Tryz.ntmps290
  go_wp2_with fail
  go_loopw [5, 17] (fun p i wr => ∃ k : Nat, k ≤ 5 ∧ i = .int .i64 k ∧ p = .int .i64 (pos k) ∧ pos k ≤ n ∧ Hid (PS w l k wr)) (fun _ i _ => 5 - (intOf i).toNat)
  case atStart => exact ⟨0, Nat.zero_le _, rfl, rfl, Nat.zero_le _, HS⟩
  case round =>
    obtain ⟨k, hk, rfl, rfl, hp, HP⟩ := hrel
    by_cases hlt : k < 5
    · have hW := (HL.out.ext HP.out.ext).w k hlt
      have hI := ptr_index (w.heap.size + 1) k hlt
      have hwl := wth_le k
      by_cases hsh : n < pos k + wth k
      · have HG := Lib.hid (get_no (l := l) (k := k) (by rw [HB.out.len]; exact hsh) (by rw [HB.out.len]; exact hp))
        have hp15 := pos_le (k + 1)
        rw [pos_step hlt] at hp15
        have HV := Lib.hid (PV_len (l := l) (by rw [HB.out.len]; omega))
        clear hp15
        go_wp2_with fail
        refine (oget_any A l n cp _ _ _ _ (HL.out.ext HP.out.ext).o HB.out.len (HB.out.ext HP.out.ext).rd hn).mono ?_
        rw [HG.out]
        rintro r w2 ⟨rfl, rfl⟩
        obtain ⟨⟨c0, c1, c2, c3, c4⟩, f0, f1, f2, f3, f4⟩ := five_cells HP.out.blank
        go_wp2_with fail
        refine bodyPost_ret (v := .tuple #[.agg #[.int .i64 0, .int .i64 0, .int .i64 0, .int .i64 0, .int .i64 0], .int .i64 30]) ?_ rfl ⟨?_, ?_⟩
        · simp [results, Tryz.results290, go_sem, c0, c1, c2, c3, c4]
        · rw [pf_no HV.out, pf_no HV.out, pf_no HV.out, pf_no HV.out, pf_no HV.out, pe_no HV.out]; rfl
        · exact five_ext HP.out.ext (Nat.le_refl _) _ _ _ _ _
      · have HG := Lib.hid (get_fld (l := l) hlt (by rw [HB.out.len]; omega))
        have c := HP.out.cell k
        obtain ⟨v, hv⟩ : ∃ v, (prow l k)[k]? = some v := ⟨_, Array.getElem?_eq_getElem (by simpa [prow] using hlt)⟩
        rw [hv] at c
        have f := HP.out.free k
        have HPS := Lib.hid (HP.out.step hlt)
        have hle : pos (k + 1) ≤ n := by rw [pos_step hlt]; omega
        clear hv
        go_wp2_with fail
        refine (oget_any A l n cp _ _ _ _ (HL.out.ext HP.out.ext).o HB.out.len (HB.out.ext HP.out.ext).rd hn).mono ?_
        rw [HG.out]
        rintro r w2 ⟨rfl, rfl⟩
        go_wp2_with fail
        go_roundw
        case rel => exact ⟨k + 1, by omega, by go_num, rfl, hle, HPS⟩
        case measure => simp [intOf]; omega
    · have hk5 : k = 5 := by omega
      subst hk5
      have hle : 15 ≤ n := hp
      obtain ⟨⟨c0, c1, c2, c3, c4⟩, f0, f1, f2, f3, f4⟩ := five_cells HP.out.blank
      have hrow : wr.heap[w.heap.size + 1]? = some (.cells #[.int .i64 (pfld l 0), .int .i64 (pfld l 1), .int .i64 (pfld l 2), .int .i64 (pfld l 3), .int .i64 (pfld l 4)] 44 (0, 0)) := HP.out.row
      have HR := Lib.hid hrow
      rw [show pos 5 = 15 from rfl]
      obtain ⟨⟨d0, d1, d2, d3, d4⟩, _⟩ := five_cells hrow
      clear hrow
      by_cases h15 : n = 15
      · subst h15
        have hlt0 : w.heap.size < wr.heap.size := (Array.getElem?_eq_some_iff.1 HP.out.blank).1
        have hlt1 : w.heap.size + 1 < wr.heap.size := (Array.getElem?_eq_some_iff.1 HR.out).1
        by_cases hm : mayB (pfld l 0) (pfld l 1) (pfld l 2) (pfld l 3) (pfld l 4) = true
        · have HV := Lib.hid (PV_both HB.out.len hm)
          have HM := Lib.hid hm
          clear hm
          go_wp2_with fail
          refine (may_any _ _ _ _ _ _ (HL.out.ext HP.out.ext).t).mono ?_
          rw [HM.out]
          rintro r w2 ⟨rfl, hx⟩
          have hb2 := (hx.block _ hlt0).trans HP.out.blank
          have hr2 := (hx.block _ hlt1).trans HR.out
          have HE := Lib.hid (HP.out.ext.trans hx)
          clear c0 c1 c2 c3 c4 f0 f1 f2 f3 f4 d0 d1 d2 d3 d4 hx hlt0 hlt1
          obtain ⟨⟨c0, c1, c2, c3, c4⟩, f0, f1, f2, f3, f4⟩ := five_cells hb2
          obtain ⟨⟨d0, d1, d2, d3, d4⟩, _⟩ := five_cells hr2
          clear hb2 hr2
          go_wp2_with fail
          refine bodyPost_ret (v := .tuple #[.agg #[.int .i64 (pfld l 0), .int .i64 (pfld l 1), .int .i64 (pfld l 2), .int .i64 (pfld l 3), .int .i64 (pfld l 4)], .int .i64 0]) ?_ rfl ⟨?_, ?_⟩
          · simp [results, Tryz.results290, go_sem, c0, c1, c2, c3, c4]
          · rw [pf_yes HV.out, pf_yes HV.out, pf_yes HV.out, pf_yes HV.out, pf_yes HV.out, pe_yes HV.out]
          · exact five_ext HE.out (Nat.le_refl _) _ _ _ _ _
        · have hm' : mayB (pfld l 0) (pfld l 1) (pfld l 2) (pfld l 3) (pfld l 4) = false := by simpa using hm
          have HV := Lib.hid (PV_may hm')
          have HM := Lib.hid hm'
          clear hm hm'
          go_wp2_with fail
          refine (may_any _ _ _ _ _ _ (HL.out.ext HP.out.ext).t).mono ?_
          rw [HM.out]
          rintro r w2 ⟨rfl, hx⟩
          have hb2 := (hx.block _ hlt0).trans HP.out.blank
          have HE := Lib.hid (HP.out.ext.trans hx)
          clear c0 c1 c2 c3 c4 f0 f1 f2 f3 f4 d0 d1 d2 d3 d4 hx hlt0 hlt1
          obtain ⟨⟨c0, c1, c2, c3, c4⟩, f0, f1, f2, f3, f4⟩ := five_cells hb2
          clear hb2
          go_wp2_with fail
          refine bodyPost_ret (v := .tuple #[.agg #[.int .i64 0, .int .i64 0, .int .i64 0, .int .i64 0, .int .i64 0], .int .i64 30]) ?_ rfl ⟨?_, ?_⟩
          · simp [results, Tryz.results290, go_sem, c0, c1, c2, c3, c4]
          · rw [pf_no HV.out, pf_no HV.out, pf_no HV.out, pf_no HV.out, pf_no HV.out, pe_no HV.out]; rfl
          · exact five_ext HE.out (Nat.le_refl _) _ _ _ _ _
      · have HV := Lib.hid (PV_len (l := l) (by rw [HB.out.len]; exact h15))
        have hne : ((15 : Int) != (n : Int)) = true := by rw [bne_iff_ne]; omega
        go_wp2_with fail
        refine bodyPost_ret (v := .tuple #[.agg #[.int .i64 0, .int .i64 0, .int .i64 0, .int .i64 0, .int .i64 0], .int .i64 30]) ?_ rfl ⟨?_, ?_⟩
        · simp [results, Tryz.results290, go_sem, c0, c1, c2, c3, c4]
        · rw [pf_no HV.out, pf_no HV.out, pf_no HV.out, pf_no HV.out, pf_no HV.out, pe_no HV.out]; rfl
        · exact five_ext HP.out.ext (Nat.le_refl _) _ _ _ _ _
end
section
open Go Go.RowKit
structure LaidF (w : World) : Prop where
  a : LaidA w
  h : LaidH w
theorem LaidF.ext {a b : World} (h : LaidF a) (k : Ext a b) : LaidF b := ⟨h.a.ext k, fun i hi => Ext.cell k (h.h i hi)⟩
def sealE (a b c d e : Int) (n : Nat) (s : Int) : Int := if roomN s = 0 ∨ mayB a b c d e = false then 2 else if roomN s < n then 3 else 0
def sealL (a b c d e : Int) (body : List Nat) (s : Int) : List Nat := if sealE a b c d e body.length s = 0 then frameL body (pl a b c d e) s.toNat else []
theorem sealE_arg {a b c d e s : Int} {n : Nat} (h : roomN s = 0 ∨ mayB a b c d e = false) : sealE a b c d e n s = 2 := by unfold sealE; rw [if_pos h]
theorem sealE_long {a b c d e s : Int} {n : Nat} (h : roomN s ≠ 0) (hm : mayB a b c d e = true) (hn : roomN s < n) : sealE a b c d e n s = 3 := by unfold sealE; rw [if_neg (by rw [hm]; simpa using h), if_pos hn]
theorem sealE_yes {a b c d e s : Int} {n : Nat} (h : roomN s ≠ 0) (hm : mayB a b c d e = true) (hn : n ≤ roomN s) : sealE a b c d e n s = 0 := by unfold sealE; rw [if_neg (by rw [hm]; simpa using h), if_neg (by omega)]
theorem sealL_no {a b c d e s : Int} {body : List Nat} (h : sealE a b c d e body.length s ≠ 0) : sealL a b c d e body s = [] := by unfold sealL; rw [if_neg h]
theorem sealL_yes {a b c d e s : Int} {body : List Nat} (h : sealE a b c d e body.length s = 0) : sealL a b c d e body s = frameL body (pl a b c d e) s.toNat := by unfold sealL; rw [if_pos h]
theorem frame_split (body own : List Nat) (S m : Nat) (hm : m = 64 * S - 21 - body.length) : digs 2 body.length ++ own ++ body ++ List.replicate m 0 = frameH body own S := by subst hm; rfl
theorem sum_by (A : Option Addr) (l : List Nat) (n c : Nat) (w : World) (hL : LaidH w) (hb : By w A n c l) :
    Calls Tryz.prog 220 #[.slice A n c] w fun e w' => e = .returned (.int .u32 ((crcS l : Nat) : Int)) ∧ Ext w w' :=
  (sum_any A l n c _ w hL hb.len hb.rd (by have := hb.cap; have := hb.most; unfold maxLen; omega)).mono fun _ _ ⟨h, hw⟩ => ⟨h, by subst hw; exact Ext.refl _⟩
theorem join4_by {A1 A2 A3 A4 : Option Addr} {n1 n2 n3 n4 c1 c2 c3 c4 : Nat} {l1 l2 l3 l4 : List Nat} (w : World) (h1 : By w A1 n1 c1 l1) (h2 : By w A2 n2 c2 l2) (h3 : By w A3 n3 c3 l3) (h4 : By w A4 n4 c4 l4) (N : Nat) (hN : n1 + n2 + n3 + n4 = N) (hN2 : N ≤ 140737488355328) :
    Calls Tryz.prog 133 #[.slice (some ⟨w.heap.size, 0, none⟩) 4 4] (w.alloc (.cells #[.slice A1 n1 c1, .slice A2 n2 c2, .slice A3 n3 c3, .slice A4 n4 c4] 45)) fun e w' => ∃ A' c', e = .returned (.slice A' N c') ∧ By w' A' N c' (l1 ++ l2 ++ l3 ++ l4) ∧ Ext w w' := by
  have hcat : cat [(.slice A1 n1 c1, l1), (.slice A2 n2 c2, l2), (.slice A3 n3 c3, l3), (.slice A4 n4 c4, l4)] = l1 ++ l2 ++ l3 ++ l4 := by simp [cat]
  rw [← hcat]
  refine join_by _ 4 N w _ rfl rfl ?_ (by rw [hcat, List.length_append, List.length_append, List.length_append, h1.len, h2.len, h3.len, h4.len]; exact hN) ?_ (by omega) hN2
  · intro p hp
    simp only [List.mem_cons, List.not_mem_nil, or_false] at hp
    rcases hp with rfl | rfl | rfl | rfl
    · exact ⟨_, _, _, rfl, h1⟩
    · exact ⟨_, _, _, rfl, h2⟩
    · exact ⟨_, _, _, rfl, h3⟩
    · exact ⟨_, _, _, rfl, h4⟩
  · rw [hcat]
    intro b hb
    simp only [List.mem_append] at hb
    rcases hb with ((h | h) | h) | h
    · exact h1.rd.lt b h
    · exact h2.rd.lt b h
    · exact h3.rd.lt b h
    · exact h4.rd.lt b h
theorem join2_own {A1 A2 : Option Addr} {n1 n2 c1 c2 : Nat} {l1 l2 : List Nat} (w : World) (h1 : By w A1 n1 c1 l1) (h2 : By w A2 n2 c2 l2) (hN : n1 + n2 ≤ 140737488355328) :
    Calls Tryz.prog 133 #[.slice (some ⟨w.heap.size, 0, none⟩) 2 2] (w.alloc (.cells #[.slice A1 n1 c1, .slice A2 n2 c2] 45)) fun e w' => ∃ A' c', e = .returned (.slice A' (n1 + n2) c') ∧ w'.ownsRow w.heap.size 5 1 (.slice A' (n1 + n2) c') (n1 + n2) (vb (l1 ++ l2)) ∧ By w' A' (n1 + n2) c' (l1 ++ l2) ∧ Ext w w' := by
  have hcat : cat [(.slice A1 n1 c1, l1), (.slice A2 n2 c2, l2)] = l1 ++ l2 := by simp [cat]
  have hlen : (cat [(Value.slice A1 n1 c1, l1), (Value.slice A2 n2 c2, l2)]).length = n1 + n2 := by rw [hcat, List.length_append, h1.len, h2.len]
  refine (join_any _ 2 2 [(.slice A1 n1 c1, l1), (.slice A2 n2 c2, l2)] _ (parts_lit rfl rfl ?_) (by omega) (by rw [hlen]; omega)).mono ?_
  · intro p hp
    simp only [List.mem_cons, List.not_mem_nil, or_false] at hp
    rcases hp with rfl | rfl
    · exact ⟨_, _, _, rfl, h1⟩
    · exact ⟨_, _, _, rfl, h2⟩
  · rintro e w' ⟨A', c', rfl, hown, hx⟩
    rw [hlen, hcat] at hown
    rw [hlen]
    refine ⟨A', c', rfl, ?_, Bs.of_own hown (by intro b hb; rcases List.mem_append.1 hb with h | h; exact h1.rd.lt b h; exact h2.rd.lt b h), ((Ext.refl w).alloc _).trans hx⟩
    refine ⟨hown.1, ?_⟩
    rcases hown.2 with h0 | ⟨g, cap, cur, hv, hbg, hrest⟩
    · exact .inl h0
    · exact .inr ⟨g, cap, cur, hv, Nat.le_trans (by simp) hbg, hrest⟩
set_option maxHeartbeats 3200000 in
theorem seal_arg (a b c d e s : Int) (A : Option Addr) (n cp : Nat) (w : World) (hL : LaidF w) (h : roomN s = 0 ∨ mayB a b c d e = false) :
    Calls Tryz.prog 144 #[.agg #[.int .i64 a, .int .i64 b, .int .i64 c, .int .i64 d, .int .i64 e], .slice A n cp, .int .i64 s] w fun r w' => r = .returned (.tuple #[.slice none 0 0, .int .i64 2]) ∧ Ext w w' := by
  have hE := (Ext.refl w).alloc (.cells #[.int .i64 a, .int .i64 b, .int .i64 c, .int .i64 d, .int .i64 e] 44)
  have hT := heap_alloc_new w (.cells #[.int .i64 a, .int .i64 b, .int .i64 c, .int .i64 d, .int .i64 e] 44)
  have HL := Lib.hid hL
  have HE := Lib.hid hE
  obtain ⟨⟨i0, i1, i2, i3, i4⟩, _⟩ := five_cells hT
  clear hE hL hT
  by_cases h0 : roomN s = 0
  · clear h
    go_enter Tryz.func144, Tryz.ntmps144
    go_wp2_with fail
    refine (room_any _ _).mono ?_
    rw [h0]
    rintro r w1 ⟨rfl, rfl⟩
    go_wp2_with fail
    go_ret2
    exact ⟨rfl, HE.out⟩
  · have HM : Hid (mayB a b c d e = false) := Lib.hid (by rcases h with h | h; exact absurd h h0; exact h)
    have g0 : (((roomN s : Nat) : Int) == 0) = false := by simpa using h0
    clear h h0
    go_enter Tryz.func144, Tryz.ntmps144
    go_wp2_with fail
    refine (room_any _ _).mono ?_
    rintro r w1 ⟨rfl, rfl⟩
    generalize roomN s = R at *
    go_wp2_with fail
    refine (may_any _ _ _ _ _ _ (HL.out.ext HE.out).a.t).mono ?_
    rw [HM.out]
    rintro r w1 ⟨rfl, hx⟩
    have HE := Lib.hid (HE.out.trans hx)
    clear hx
    go_wp2_with fail
    go_ret2
    exact ⟨rfl, HE.out⟩
set_option maxHeartbeats 3200000 in
theorem seal_long (a b c d e s : Int) (A : Option Addr) (n cp : Nat) (w : World) (hL : LaidF w) (h0 : roomN s ≠ 0) (hm : mayB a b c d e = true) (hn : roomN s < n) :
    Calls Tryz.prog 144 #[.agg #[.int .i64 a, .int .i64 b, .int .i64 c, .int .i64 d, .int .i64 e], .slice A n cp, .int .i64 s] w fun r w' => r = .returned (.tuple #[.slice none 0 0, .int .i64 3]) ∧ Ext w w' := by
  have hE := (Ext.refl w).alloc (.cells #[.int .i64 a, .int .i64 b, .int .i64 c, .int .i64 d, .int .i64 e] 44)
  have hT := heap_alloc_new w (.cells #[.int .i64 a, .int .i64 b, .int .i64 c, .int .i64 d, .int .i64 e] 44)
  have HL := Lib.hid hL
  have HE := Lib.hid hE
  have HM := Lib.hid hm
  obtain ⟨⟨i0, i1, i2, i3, i4⟩, _⟩ := five_cells hT
  have g0 : (((roomN s : Nat) : Int) == 0) = false := by simpa using h0
  clear hE hL hT hm h0
  go_enter Tryz.func144, Tryz.ntmps144
  go_wp2_with fail
  refine (room_any _ _).mono ?_
  rintro r w1 ⟨rfl, rfl⟩
  generalize roomN s = R at *
  go_wp2_with fail
  refine (may_any _ _ _ _ _ _ (HL.out.ext HE.out).a.t).mono ?_
  rw [HM.out]
  rintro r w1 ⟨rfl, hx⟩
  have HE := Lib.hid (HE.out.trans hx)
  clear hx i0 i1 i2 i3 i4
  go_wp2_with fail
  go_ret2
  exact ⟨rfl, HE.out⟩
set_option maxHeartbeats 6400000 in
theorem seal_yes (a b c d e : Int) (S : Nat) (A : Option Addr) (n cp : Nat) (body : List Nat) (w : World) (hL : LaidF w) (hb : By w A n cp body) (h0 : roomN (S : Int) ≠ 0) (hm : mayB a b c d e = true) (hn : n ≤ roomN (S : Int)) :
    Calls Tryz.prog 144 #[.agg #[.int .i64 a, .int .i64 b, .int .i64 c, .int .i64 d, .int .i64 e], .slice A n cp, .int .i64 S] w fun r w' => ∃ A' c', r = .returned (.tuple #[.slice A' (64 * S) c', .int .i64 0]) ∧ By w' A' (64 * S) c' (frameL body (pl a b c d e) S) ∧ w'.ownsRow w.heap.size 5 1 (.slice A' (64 * S) c') (64 * S) (vb (frameL body (pl a b c d e) S)) ∧ Ext w w' := by
  obtain ⟨i0, hi, hz0, hz1, hz2⟩ := info_parts byte_info
  have hE := (Ext.refl w).alloc (.cells #[.int .i64 a, .int .i64 b, .int .i64 c, .int .i64 d, .int .i64 e] 44)
  have hT := heap_alloc_new w (.cells #[.int .i64 a, .int .i64 b, .int .i64 c, .int .i64 d, .int .i64 e] 44)
  have HL := Lib.hid hL
  have HE := Lib.hid hE
  have HM := Lib.hid hm
  have HB := Lib.hid hb
  have HT := Lib.hid hT
  obtain ⟨⟨j0, j1, j2, j3, j4⟩, _⟩ := five_cells hT
  have g0 : (((roomN (S : Int) : Nat) : Int) == 0) = false := by simpa using h0
  have hfit := room_fits hn (by omega)
  have h15 : (pl a b c d e).length = 15 := by rw [pl_yes hm, tagBytes_len]
  have hN : body.length = n := Bs.len hb
  have HN : Hid (body.length = n) := Lib.hid hN
  obtain ⟨m, hm4⟩ : ∃ m : Nat, m = 64 * S - 21 - n := ⟨_, rfl⟩
  have HH : Hid (digs 2 n ++ pl a b c d e ++ body ++ List.replicate m 0 = frameH body (pl a b c d e) S) := Lib.hid (by rw [← hN]; exact frame_split body _ S m (by rw [hN]; exact hm4))
  have HHl : Hid ((frameH body (pl a b c d e) S).length = 64 * S - 4) := Lib.hid (frameH_len h15 (by omega) (by omega))
  have hm5 : (S : Int) * 64 - 17 - (n : Int) - 4 = (m : Int) := by omega
  have hroomle := roomN_le (S : Int)
  have hmle : m ≤ 128 := by omega
  have HM4 : Hid (2 + 15 + n + m = 64 * S - 4 ∧ 64 * S - 4 + 4 = 64 * S) := Lib.hid (by omega)
  clear hE hL hT hm h0 hb hN hm4
  go_enter Tryz.func144, Tryz.ntmps144
  go_wp2_with fail
  refine (room_any _ _).mono ?_
  rintro r w1 ⟨rfl, rfl⟩
  generalize roomN (S : Int) = R at *
  go_wp2_with fail
  refine (may_any _ _ _ _ _ _ (HL.out.ext HE.out).a.t).mono ?_
  rw [HM.out]
  rintro r w1 ⟨rfl, hx⟩
  have HE := Lib.hid (HE.out.trans hx)
  have ht := (hx.block _ (Array.getElem?_eq_some_iff.1 HT.out).1).trans HT.out
  have HT := Lib.hid ht
  clear hx j0 j1 j2 j3 j4 ht
  go_wp2_with fail
  refine (put_by 2 n _ (HL.out.ext HE.out).a.o (fits_iff.2 ⟨rfl, by omega, by show n < 65536; omega⟩)).mono ?_
  rintro r w2 ⟨A2, c2, rfl, hb2, hx⟩
  have HB2 := Lib.hid hb2
  have HE := Lib.hid (HE.out.trans hx)
  have ht := (hx.block _ (Array.getElem?_eq_some_iff.1 HT.out).1).trans HT.out
  clear hx hb2
  obtain ⟨⟨j0, j1, j2, j3, j4⟩, _⟩ := five_cells ht
  clear ht
  go_wp2_with fail
  refine (print_any _ _ _ _ _ _ (HL.out.ext HE.out).a).mono ?_
  rw [h15]
  rintro r w3 ⟨A3, c3, rfl, hb3, hx⟩
  have HB3 := Lib.hid hb3
  have HB2 := Lib.hid (HB2.out.ext hx)
  have HE := Lib.hid (HE.out.trans hx)
  clear hx hb3 j0 j1 j2 j3 j4
  go_wp2_with (at_make; refine wpList_make_full _ rfl _ _ 45 rfl w3.heap.size 5 i0 (.int .u8 0) 1 Tryz.underlying45 hi hz0 hz1 .i64 .i64 _ _ m rfl rfl rfl rfl ?b1 ?b2 ?b3 ?_)
  case b1 => rw [hz2]; omega
  case b2 => unfold maxLen; omega
  case b3 => exact Nat.le_refl _
  intro w4 hown hg
  have HB4 : Hid (By w4 (some ⟨w3.heap.size, 0, none⟩) m m (List.replicate m 0)) := by
    have e : (madeCells #[Value.int .u8 0] m).toList = vb (List.replicate m 0) := by
      rw [toList_madeCells_one]
      simp [vb]
    rw [e] at hown
    exact Lib.hid (Bs.of_own hown (by intro b hb; rw [(List.mem_replicate.1 hb).2]; omega))
  have hx : Ext w3 w4 := (Below.refl w3.heap.size w3).grown hg (Nat.le_refl _) (by simp)
  have HB3 := Lib.hid (HB3.out.ext hx)
  have HB2 := Lib.hid (HB2.out.ext hx)
  have HE := Lib.hid (HE.out.trans hx)
  clear hx hown hg hm5
  go_wp2_with fail
  refine (join4_by _ HB2.out HB3.out (HB.out.ext HE.out) HB4.out (64 * S - 4) HM4.out.1 (by omega)).mono ?_
  rw [HH.out]
  rintro r w5 ⟨A5, c5, rfl, hb5, hx⟩
  have HB5 := Lib.hid hb5
  have HE := Lib.hid (HE.out.trans hx)
  clear hx hb5 HB2 HB3 HB4
  go_wp2_with fail
  refine (sum_by _ _ _ _ _ (HL.out.ext HE.out).h HB5.out).mono ?_
  rintro r w6 ⟨rfl, hx⟩
  have HB5 := Lib.hid (HB5.out.ext hx)
  have HE := Lib.hid (HE.out.trans hx)
  have hs : crcS (frameH body (pl a b c d e) S) < 4294967296 := crcE_lt _ _
  have HZ : Hid (frameH body (pl a b c d e) S ++ digs 4 (crcS (frameH body (pl a b c d e) S)) = frameL body (pl a b c d e) S) := Lib.hid rfl
  clear hx
  generalize crcS (frameH body (pl a b c d e) S) = z at *
  generalize frameH body (pl a b c d e) S = Hd at *
  go_wp2_with fail
  refine (put_by 4 z _ (HL.out.ext HE.out).a.o (fits_iff.2 ⟨rfl, by omega, by show z < 4294967296; omega⟩)).mono ?_
  rintro r w7 ⟨A7, c7, rfl, hb7, hx⟩
  have HB7 := Lib.hid hb7
  have HB5 := Lib.hid (HB5.out.ext hx)
  have HE := Lib.hid (HE.out.trans hx)
  clear hx hb7
  go_wp2_with fail
  refine (join2_own _ HB5.out HB7.out (by omega)).mono ?_
  rw [HZ.out, HM4.out.2]
  rintro r w8 ⟨A8, c8, rfl, ho8, hb8, hx⟩
  have HB8 := Lib.hid hb8
  have HO8 := Lib.hid ho8
  have HS7 := Lib.hid (Ext.size HE.out)
  have HE := Lib.hid (HE.out.trans hx)
  clear hx hb8 ho8
  go_wp2_with fail
  go_ret2
  refine ⟨A8, c8, rfl, HB8.out, ⟨HO8.out.1, ?_⟩, HE.out⟩
  rcases HO8.out.2 with h0 | ⟨g, cap, cur, hv, hbg, hrest⟩
  · exact .inl h0
  · exact .inr ⟨g, cap, cur, hv, Nat.le_trans HS7.out hbg, hrest⟩
theorem seal_own (a b c d e s : Int) (A : Option Addr) (n cp : Nat) (body : List Nat) (w : World) (hL : LaidF w) (hb : By w A n cp body) :
    Calls Tryz.prog 144 #[.agg #[.int .i64 a, .int .i64 b, .int .i64 c, .int .i64 d, .int .i64 e], .slice A n cp, .int .i64 s] w fun r w' => ∃ A' c', r = .returned (.tuple #[.slice A' (sealL a b c d e body s).length c', .int .i64 (sealE a b c d e n s)]) ∧ By w' A' (sealL a b c d e body s).length c' (sealL a b c d e body s) ∧ (sealE a b c d e n s = 0 → w'.ownsRow w.heap.size 5 1 (.slice A' (sealL a b c d e body s).length c') (sealL a b c d e body s).length (vb (sealL a b c d e body s))) ∧ Ext w w' := by
  have hlen : body.length = n := Bs.len hb
  by_cases h : roomN s = 0 ∨ mayB a b c d e = false
  · have hE := sealE_arg (n := n) h
    rw [sealL_no (by rw [hlen, hE]; omega), hE]
    exact (seal_arg a b c d e s A n cp w hL h).mono fun _ w' ⟨h1, h2⟩ => ⟨none, 0, h1, By.nil_ w', (fun h => by cases h), h2⟩
  · have h0 : roomN s ≠ 0 := fun hh => h (.inl hh)
    have hm : mayB a b c d e = true := by
      by_cases hm : mayB a b c d e = true
      · exact hm
      · exact absurd (.inr (by simpa using hm)) h
    by_cases hn : roomN s < n
    · have hE := sealE_long h0 hm hn
      rw [sealL_no (by rw [hlen, hE]; omega), hE]
      exact (seal_long a b c d e s A n cp w hL h0 hm hn).mono fun _ w' ⟨h1, h2⟩ => ⟨none, 0, h1, By.nil_ w', (fun h => by cases h), h2⟩
    · obtain ⟨S, rfl⟩ := Int.eq_ofNat_of_zero_le (show 0 ≤ s by have := roomN_pos (s := s) (by omega); omega)
      have hE := sealE_yes h0 hm (show n ≤ roomN (S : Int) by omega)
      have hfit := room_fits (show n ≤ roomN (S : Int) by omega) (by omega)
      rw [sealL_yes (by rw [hlen]; exact hE), hE, Int.toNat_natCast, frameL_len (by rw [pl_yes hm, tagBytes_len]) (by omega) (by omega)]
      exact (seal_yes a b c d e S A n cp body w hL hb h0 hm (by omega)).mono fun _ w' ⟨A', c', h1, h2, h3, h4⟩ => ⟨A', c', h1, h2, fun _ => h3, h4⟩
theorem seal_any (a b c d e s : Int) (A : Option Addr) (n cp : Nat) (body : List Nat) (w : World) (hL : LaidF w) (hb : By w A n cp body) :
    Calls Tryz.prog 144 #[.agg #[.int .i64 a, .int .i64 b, .int .i64 c, .int .i64 d, .int .i64 e], .slice A n cp, .int .i64 s] w fun r w' => ∃ A' c', r = .returned (.tuple #[.slice A' (sealL a b c d e body s).length c', .int .i64 (sealE a b c d e n s)]) ∧ By w' A' (sealL a b c d e body s).length c' (sealL a b c d e body s) ∧ Ext w w' :=
  (seal_own a b c d e s A n cp body w hL hb).mono fun _ _ ⟨A', c', h1, h2, _, h4⟩ => ⟨A', c', h1, h2, h4⟩
end
section
open Go Go.RowKit Go.ChangeShapes Go.WideShapes Go.Deep
def tab2 {H : Type} (k : IntKind) (rows : List (List Int)) : DataW H := .agg (rows.map fun r => .agg (r.map fun z => .lit (.int k z)))
theorem cells_of_tab2 {H : Type} {enc : TypeId × Value → H} {P : Program} {w : World} {base : Nat} {sp : Nat → Bool} {held : Bool} {fuel : Nat} {t e : TypeId} {n : Nat} {k : IntKind} {fs : Array Field} {cs : List Value} {rows : List (List Int)} {p : List MemPlace}
    (ht : P.underlying t = some (.array n e)) (he : P.underlying e = some (.struct fs)) (hone : oneCellFields P fs = true) (hC : P.cellsOf e = fs.size) (hk : ∀ (j : Nat) (f : Field), fs[j]? = some f → P.underlying f.type = some (.int k))
    (h : DataW.trod enc P w base sp held fuel t cs = some (tab2 k rows, p)) (i : Nat) (r : List Int) (hr : rows[i]? = some r) (j : Nat) (z : Int) (hz : r[j]? = some z) : cs[i * fs.size + j]? = some (.int k z) := by
  obtain ⟨xs, m, _, hx, _, hxl, hxi⟩ := DataW.trod_array ht h
  have hx1 : xs.map (·.1) = rows.map fun r => (.agg (r.map fun z => .lit (.int k z)) : DataW H) := by
    have := congrArg Prod.fst hx
    simp only [tab2, DataW.agg.injEq] at this
    exact this.symm
  have hin : i < n := by
    have h1 : i < rows.length := (List.getElem?_eq_some_iff.1 hr).1
    have h2 := congrArg List.length hx1
    simp at h2
    omega
  have hrow := hxi i hin
  obtain ⟨x, hxe⟩ : ∃ x, xs[i]? = some x := ⟨_, List.getElem?_eq_getElem (by omega)⟩
  have hx2 : x.1 = (.agg (r.map fun z => .lit (.int k z)) : DataW H) := by
    have := congrArg (·[i]?) hx1
    simpa [hxe, hr] using this
  rw [hxe, hC] at hrow
  obtain ⟨ys, m2, _, hy, _, hyl, hyf⟩ := DataW.trod_struct he hrow
  have hy1 : ys.map (·.1) = r.map fun z => (.lit (.int k z) : DataW H) := by
    have := congrArg Prod.fst hy
    rw [hx2] at this
    simp only [DataW.agg.injEq] at this
    exact this.symm
  have hjn : j < fs.size := by
    have h1 : j < r.length := (List.getElem?_eq_some_iff.1 hz).1
    have h2 := congrArg List.length hy1
    simp at h2
    omega
  have hf : fs[j]? = some fs[j] := Array.getElem?_eq_getElem hjn
  obtain ⟨ho, hc1⟩ := hone_of hone j fs[j] hf
  have hfj := hyf j fs[j] hf
  rw [ho, hc1] at hfj
  obtain ⟨y, hye⟩ : ∃ y, ys[j]? = some y := ⟨_, List.getElem?_eq_getElem (by omega)⟩
  rw [hye] at hfj
  obtain ⟨z', hcs, hyz, _⟩ := DataW.trod_int (hk j fs[j] hf) hfj
  have hz' : z' = z := by
    have := congrArg (·[j]?) hy1
    simpa [hye, hyz, hz] using this
  subst hz'
  have := congrArg (·[0]?) hcs
  simp [List.getElem?_drop, hjn] at this
  exact this
theorem tab2_of_head {P : Program} {W : World} {name : String} {k : IntKind} {rows : List (List Int)} {rest : List (String × DataW Unit)} {g : Nat} {t e : TypeId} {n : Nat} {fs : Array Field}
    (hg : P.globalNamed name = some g) (hty : (P.globals[g]?).map (·.type) = some t) (ht : P.underlying t = some (.array n e)) (he : P.underlying e = some (.struct fs)) (hone : oneCellFields P fs = true) (hC : P.cellsOf e = fs.size) (hk : ∀ (j : Nat) (f : Field), fs[j]? = some f → P.underlying f.type = some (.int k))
    (h : laidMet P ((name, tab2 k rows) :: rest) W) (i : Nat) (r : List Int) (hr : rows[i]? = some r) (j : Nat) (z : Int) (hz : r[j]? = some z) : W.cell? ⟨g, i * fs.size + j, none⟩ = some (.int k z) := by
  obtain ⟨ps, ⟨g', t', cs, fuel, p, q, hg', ht', hvar, hd, _, _⟩, _⟩ := h
  obtain rfl := Option.some.inj (hg.symm.trans hg')
  obtain rfl := Option.some.inj (hty.symm.trans ht')
  have hc := cells_of_tab2 ht he hone hC hk hd i r hr j z hz
  exact (World.var?_cell hg hvar (i * fs.size + j)).trans (by simpa using hc)
end
end Go.Proofs.YtgcinagkbdcgiaaGreatDoor
